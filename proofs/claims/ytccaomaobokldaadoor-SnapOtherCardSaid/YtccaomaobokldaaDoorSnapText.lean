/- Layer 14's laws: the text that they make. No condition. -/
import Derived.Test.YtccaomaobokldaaDoorSnapMem
import Derived.Test.YtccaomaobokldaaDoorRegion
import Derived.Test.YtccaomaobokldaaDoorRegionK
import Derived.Test.YtccaomaobokldaaDoorBits
import Derived.Laws.MakeOwn
import Derived.Lib.Hide
import Derived.BigQuiet
import Derived.Deep.DeepCutAuto
import Derived.Laws.IdiomStrings
import Derived.Lib.BufferWrite
namespace Go.Proofs.YtccaomaobokldaaDoor.Snapy
open Go.ChangeShapes Go.WideShapes Go.ChangeAt Go.RowKit
open Wirey Regy

/-- The text's byte at a place. -/
def tb (s : Bs) (i : Nat) : Nat := if 0 < s.length then i / 7 % 256 ^^^ (s.getD (i % s.length) 0).toNat else i / 7 % 256
def textL (m : Nat) (s : Bs) : Bs := (List.range m).map fun i => UInt8.ofNat (tb s i)
theorem textL_len (m : Nat) (s : Bs) : (textL m s).length = m := by simp [textL]
theorem textL_at {m i : Nat} (s : Bs) (h : i < m) : (textL m s)[i]? = some (UInt8.ofNat (tb s i)) := by simp [textL, h]
theorem tb_lt (s : Bs) (i : Nat) : tb s i < 256 := by
  unfold tb
  split
  · exact Nat.xor_lt_two_pow (n := 8) (Nat.mod_lt _ (by decide)) (UInt8.toNat_lt _)
  · exact Nat.mod_lt _ (by decide)
/-- The row's cells behind j rounds. -/
def tcs (m : Nat) (s : Bs) (j : Nat) : Array Value := ((List.range m).map fun i => Value.int .u8 ((if i < j then tb s i else 0 : Nat) : Int)).toArray
theorem u8_one : (Tryd.prog.info? 5).map (fun i => (i.zero, i.size, i.bytes)) = some (some (.int .u8 0), 1, 1) := by kernel_rfl
theorem mk_tcs {n : Nat} (s : Bs) (h : n ≤ 8192) (w : World) : (Instr.makeSlice 42 (.int .i64 (n : Int)) (.int .i64 (n : Int))).run Tryd.prog w = .ok (.slice (some ⟨w.heap.size, 0, none⟩) n n) (w.alloc (.cells (tcs n s 0) 5)) := by
  obtain ⟨i0, hi, hz0, hz1, hz2⟩ := info_parts u8_one
  have h := run_make (P := Tryd.prog) w 42 5 i0 (.int .u8 0) Tryd.underlying42 hi hz0 .i64 .i64 (n : Int) (n : Int) (by omega) (by omega) (by rw [hz2]; omega) (by omega)
  rw [h, hz1, Int.toNat_natCast, Nat.mul_one]
  have e : madeCells (Value.int .u8 0).cells n = tcs n s 0 := by
    show madeCells #[Value.int .u8 0] n = _
    apply Array.ext'
    rw [toList_madeCells_one]
    simp [tcs, List.map_const']
  rw [e]
theorem tcs_at {m j i : Nat} (s : Bs) (h : i < m) : (tcs m s j)[i]? = some (.int .u8 ((if i < j then tb s i else 0 : Nat) : Int)) := by simp [tcs, h]
theorem tcs_set {m j : Nat} (s : Bs) (u : Value) : (((tcs m s j).setIfInBounds j u).setIfInBounds j (.int .u8 (tb s j : Int))) = tcs m s (j + 1) := by
  apply Array.ext_getElem?
  intro i
  by_cases hi : i < m
  · rw [tcs_at s hi]
    simp only [Array.getElem?_setIfInBounds]
    by_cases e : j = i
    · subst e; simp [tcs, hi]
    · rw [if_neg e, if_neg e, tcs_at s hi]
      have : (i < j) = (i < j + 1) := by rw [eq_iff_iff]; omega
      simp [this]
  · rw [Array.getElem?_eq_none (by simp [tcs]; omega), Array.getElem?_eq_none (by simp [tcs]; omega)]
theorem tcs_set1 {m j : Nat} (s : Bs) : ((tcs m s j).setIfInBounds j (.int .u8 (tb s j : Int))) = tcs m s (j + 1) := by
  rw [← tcs_set s (.int .u8 0)]
  simp
set_option maxHeartbeats 2000000 in
set_option maxRecDepth 100000 in
theorem text_c (n : Int) (m : Nat) (hm : bits .and .i64 n 8191 = (m : Int)) (hm2 : m ≤ 8191) (s : Bs) (_hs : s.length ≤ maxLen) (w : World) : Calls Tryd.prog 7 #[.int .i64 n, .string (str s)] w fun e w' => e = .returned (.string (str (textL m s))) ∧ Below w.heap.size w w' := by
  have hsz := str_size
  have hmk := fun W => mk_tcs (n := m) s (by omega) W
  have hB0 : Below w.heap.size w (w.alloc (.cells (tcs m s 0) 5)) := (Below.refl _ w).alloc (Nat.le_refl _) _
  have hX := Blk.new w 5 (tcs m s 0)
  go_enter Tryd.func7, Tryd.ntmps7
  go_upto_region 2 with (fail)
  generalize w.alloc (.cells (tcs m s 0) 5) = w1 at *
  have HB := Lib.hid hB0
  clear hB0 hmk hm
  have hgl : w.heap.size ≤ w.heap.size := Nat.le_refl _
  generalize hg : w.heap.size = g at hX hgl ⊢
  have HG := Lib.hid hg
  clear hg
  go_wp2_with fail
  go_loopw [6] (fun s6 wr => ∃ j : Nat, j ≤ m ∧ s6 = .int .i64 j ∧ Blk wr g 5 (tcs m s j) ∧ Hid (Ks (fun k => k = g) w1 wr)) (fun s6 _ => m - (intOf s6).toNat)
  case atStart => exact ⟨0, by omega, rfl, hX, Lib.hid (Ks.refl _ _)⟩
  case round =>
    obtain ⟨j, hj, rfl, hX, K⟩ := hrel
    by_cases h : j < m
    · have hlt : (j : Int) < (m : Int) := by omega
      have cj := (hX.cell j).trans (tcs_at s h)
      have fj := hX.free j
      go_upto_region 6 with (fail)
      have e7 : (j : Int) / 7 % 256 = ((j / 7 % 256 : Nat) : Int) := by omega
      rw [e7]
      have hX2 := hX.put j (.int .u8 ((j / 7 % 256 : Nat) : Int))
      have K2 := Lib.hid (K.out.set1 j (.int .u8 ((j / 7 % 256 : Nat) : Int)))
      have c2 : (wr.setCell ⟨g, j, none⟩ (.int .u8 ((j / 7 % 256 : Nat) : Int))).drew.cell? ⟨g, j, none⟩ = some (.int .u8 ((j / 7 % 256 : Nat) : Int)) := World.cell?_setCell_same wr ⟨g, j, none⟩ _ cj
      have f2 : (wr.setCell ⟨g, j, none⟩ (.int .u8 ((j / 7 % 256 : Nat) : Int))).drew.frozen? ⟨g, j, none⟩ = false := hX2.free j
      have HX := Lib.hid hX2
      clear hX cj fj hX2 K e7
      generalize hq7 : j / 7 % 256 = q7 at *
      have HQ := Lib.hid hq7
      clear hq7
      generalize wr.setCell ⟨g, j, none⟩ (.int .u8 (q7 : Int)) = w2 at *
      by_cases h0 : 0 < s.length
      · have hd0 : decide ((0 : Int) < (s.length : Int)) = true := decide_eq_true (by omega)
        have hnil : s ≠ [] := fun e => by rw [e] at h0; simp at h0
        have hrl : j % s.length < s.length := Nat.mod_lt _ h0
        have hrm : (j : Int) % (s.length : Int) = ((j % s.length : Nat) : Int) := by rw [Int.natCast_emod]
        generalize hkk : j % s.length = k at hrm hrl
        have HKK := Lib.hid hkk
        clear hkk
        have hrm2 : (j : Int).tmod (s.length : Int) = (k : Int) := by rw [Int.tmod_eq_emod_of_nonneg (by omega)]; exact hrm
        have hkl : (k : Int) < (s.length : Int) := by omega
        obtain ⟨c, hc⟩ : ∃ c, (s.getD k 0).toNat = c := ⟨_, rfl⟩
        have hv : ∀ hh, ((str s)[k]'hh).toNat = c := fun hh => by
          rw [← hc, List.getD_eq_getElem?_getD, List.getElem?_eq_getElem hrl]; rfl
        have hc8 : c < 256 := by rw [← hc]; exact UInt8.toNat_lt _
        have HC := Lib.hid hc
        clear hc
        have hq8 : q7 < 256 := by have := HQ.out; omega
        have hxo := u8_xor_nat q7 c hq8 hc8
        generalize hx : q7 ^^^ c = x at hxo
        have HXX := Lib.hid hx
        clear hx hq8 hc8
        go_wp2_with fail
        refine regionK_only 13 #[false, false, false, false, false, false, false, false, false, false, false, false, false] 12 (V := (fun W : World => W.cell? ⟨g, j, none⟩ = some (.int .u8 ((q7 : Nat) : Int)))) rfl rfl (by kernel_rfl) c2 (fun hSw => ?_)
        refine early_at 12 0 25 (fuel := 12) ?_ rfl rfl (by kernel_rfl) (by kernel_rfl) (by kernel_rfl) (by decide) rfl (by kernel_rfl) (by kernel_rfl) (Or.inl ⟨by rfl, ?_⟩) hSw ?_
        rotate_left
        · intro wx hSx
          (try dsimp only at hSx)
          go_split_ands
          go_simp
          (try with_reducible rfl)
        simp only [List.setIfInBounds_toArray, List.set_cons_zero, List.set_cons_succ]
        refine early_at 12 1 26 (fuel := 11) ?_ rfl rfl (by kernel_rfl) (by kernel_rfl) (by kernel_rfl) (by decide) rfl (by kernel_rfl) (by kernel_rfl) (Or.inl ⟨by rfl, ?_⟩) hSw ?_
        rotate_left
        · intro wx hSx
          (try dsimp only at hSx)
          go_split_ands
          go_simp
          (try with_reducible rfl)
        simp only [List.setIfInBounds_toArray, List.set_cons_zero, List.set_cons_succ]
        refine early_at 12 2 27 (fuel := 10) ?_ rfl rfl (by kernel_rfl) (by kernel_rfl) (by kernel_rfl) (by decide) rfl (by kernel_rfl) (by kernel_rfl) (Or.inl ⟨by rfl, ?_⟩) hSw ?_
        rotate_left
        · intro wx hSx
          (try dsimp only at hSx)
          go_split_ands
          go_simp
          (try with_reducible rfl)
        simp only [List.setIfInBounds_toArray, List.set_cons_zero, List.set_cons_succ]
        refine early_at 12 3 28 (fuel := 9) ?_ rfl rfl (by kernel_rfl) (by kernel_rfl) (by kernel_rfl) (by decide) rfl (by kernel_rfl) (by kernel_rfl) (Or.inl ⟨by rfl, ?_⟩) hSw ?_
        rotate_left
        · intro wx hSx
          (try dsimp only at hSx)
          go_split_ands
          go_simp
          (try with_reducible rfl)
        simp only [List.setIfInBounds_toArray, List.set_cons_zero, List.set_cons_succ]
        refine early_at 12 4 29 (fuel := 8) ?_ rfl rfl (by kernel_rfl) (by kernel_rfl) (by kernel_rfl) (by decide) rfl (by kernel_rfl) (by kernel_rfl) (Or.inl ⟨by rfl, ?_⟩) hSw ?_
        rotate_left
        · intro wx hSx
          (try dsimp only at hSx)
          go_split_ands
          go_simp
          (try with_reducible rfl)
        simp only [List.setIfInBounds_toArray, List.set_cons_zero, List.set_cons_succ]
        refine early_at 12 5 30 (fuel := 7) ?_ rfl rfl (by kernel_rfl) (by kernel_rfl) (by kernel_rfl) (by decide) rfl (by kernel_rfl) (by kernel_rfl) (Or.inl ⟨by rfl, ?_⟩) hSw ?_
        rotate_left
        · intro wx hSx
          (try dsimp only at hSx)
          go_split_ands
          go_simp
          (try with_reducible rfl)
        simp only [List.setIfInBounds_toArray, List.set_cons_zero, List.set_cons_succ]
        refine early_at 12 6 31 (fuel := 6) ?_ rfl rfl (by kernel_rfl) (by kernel_rfl) (by kernel_rfl) (by decide) rfl (by kernel_rfl) (by kernel_rfl) (Or.inl ⟨by rfl, ?_⟩) hSw ?_
        rotate_left
        · intro wx hSx
          (try dsimp only at hSx)
          go_split_ands
          go_simp
          (try with_reducible rfl)
        simp only [List.setIfInBounds_toArray, List.set_cons_zero, List.set_cons_succ]
        refine early_at 12 7 32 (fuel := 5) ?_ rfl rfl (by kernel_rfl) (by kernel_rfl) (by kernel_rfl) (by decide) rfl (by kernel_rfl) (by kernel_rfl) (Or.inl ⟨by rfl, ?_⟩) hSw ?_
        rotate_left
        · intro wx hSx
          (try dsimp only at hSx)
          go_split_ands
          go_simp
          (try with_reducible rfl)
        simp only [List.setIfInBounds_toArray, List.set_cons_zero, List.set_cons_succ]
        refine early_at 12 8 33 (fuel := 4) ?_ rfl rfl (by kernel_rfl) (by kernel_rfl) (by kernel_rfl) (by decide) rfl (by kernel_rfl) (by kernel_rfl) (Or.inl ⟨by rfl, ?_⟩) hSw ?_
        rotate_left
        · intro wx hSx
          (try dsimp only at hSx)
          go_split_ands
          go_simp
          (try with_reducible rfl)
        simp only [List.setIfInBounds_toArray, List.set_cons_zero, List.set_cons_succ]
        refine early_at 12 9 34 (fuel := 3) ?_ rfl rfl (by kernel_rfl) (by kernel_rfl) (by kernel_rfl) (by decide) rfl (by kernel_rfl) (by kernel_rfl) (Or.inl ⟨by rfl, ?_⟩) hSw ?_
        rotate_left
        · intro wx hSx
          (try dsimp only at hSx)
          go_split_ands
          go_simp
          (try with_reducible rfl)
        simp only [List.setIfInBounds_toArray, List.set_cons_zero, List.set_cons_succ]
        refine early_at 12 10 35 (fuel := 2) ?_ rfl rfl (by kernel_rfl) (by kernel_rfl) (by kernel_rfl) (by decide) rfl (by kernel_rfl) (by kernel_rfl) (Or.inl ⟨by rfl, ?_⟩) hSw ?_
        rotate_left
        · intro wx hSx
          (try dsimp only at hSx)
          go_split_ands
          go_simp
          (try with_reducible rfl)
        simp only [List.setIfInBounds_toArray, List.set_cons_zero, List.set_cons_succ]
        refine early_at 12 11 36 (fuel := 1) ?_ rfl rfl (by kernel_rfl) (by kernel_rfl) (by kernel_rfl) (by decide) rfl (by kernel_rfl) (by kernel_rfl) (Or.inl ⟨by rfl, ?_⟩) hSw ?_
        rotate_left
        · intro wx hSx
          (try dsimp only at hSx)
          go_split_ands
          go_simp
          (try with_reducible rfl)
        simp only [List.setIfInBounds_toArray, List.set_cons_zero, List.set_cons_succ]
        refine Wirey.wpAnyK_one 12 (by kernel_rfl) rfl (fun K hK => ?_)
        go_simp
        refine hK.out _ _ trivial (fun h9 => absurd h9 (by decide)) ?_
        clear hK K
        refine Wirey.wpAnyK_done (by kernel_rfl) ⟨rfl, ?_⟩
        have hxt : x = tb s j := by rw [← HXX.out, ← HC.out, ← HQ.out, ← HKK.out]; unfold tb; rw [if_pos h0]
        subst hxt
        have hX3 : Blk (w2.setCell ⟨g, j, none⟩ (.int .u8 (tb s j : Int))).drew g 5 (tcs m s (j + 1)) := by
          have := HX.out.put j (.int .u8 (tb s j : Int))
          rw [tcs_set] at this
          exact this
        have K3 := Lib.hid (K2.out.set1 j (.int .u8 (tb s j : Int))).drew
        clear hSw hxo HXX hv HC hrm hrm2 HKK hkl hrl HX K2 c2 f2 HQ hd0 hnil h0
        generalize (w2.setCell ⟨g, j, none⟩ (.int .u8 (tb s j : Int))).drew = w3 at *
        generalize tb s j = y
        go_wp2_with fail
        go_roundw
        case rel => exact ⟨j + 1, by omega, rfl, hX3, K3⟩
        case measure => simp [intOf]; omega
      · have hd0 : decide ((0 : Int) < (s.length : Int)) = false := decide_eq_false (by omega)
        have hd1 : decide (0 < s.length) = false := decide_eq_false h0
        have hX3 : Blk w2 g 5 (tcs m s (j + 1)) := by
          have := HX.out
          have e : q7 = tb s j := by rw [← HQ.out]; unfold tb; rw [if_neg h0]
          rw [e, tcs_set1] at this
          exact this
        clear HX c2 f2 HQ h0
        go_wp2_with fail
        go_roundw
        case rel => exact ⟨j + 1, by omega, rfl, hX3, K2⟩
        case measure => simp [intOf]; omega
    · obtain rfl : j = m := by omega
      have hlt : ¬ ((j : Int) < (j : Int)) := by omega
      have hcv : (convert 42 9 (.slice (some ⟨g, 0, none⟩) j j)).run Tryd.prog wr = .ok (.string (str (textL j s))) wr := by
        have h := run_convert_bytes_back wr 42 9 5 ⟨g, 0, none⟩ j (textL j s) Tryd.underlying42 Tryd.underlying5 Tryd.underlying9 (fun i hi => by
          rw [textL_len] at hi
          have e := (hX.cell i).trans (tcs_at s hi)
          rw [if_pos hi] at e
          have e2 : (⟨g, 0, none⟩ : Addr).add i = ⟨g, i, none⟩ := by unfold Addr.add; by_cases h : i = 0 <;> simp [h]
          rw [e2, e]
          have e3 := textL_at s hi
          have e4 : (textL j s)[i] = UInt8.ofNat (tb s i) := by
            rw [List.getElem?_eq_getElem (by rw [textL_len]; exact hi)] at e3
            exact Option.some.inj e3
          rw [e4, UInt8.toNat_ofNat', Nat.mod_eq_of_lt (tb_lt s i)])
        rw [textL_len] at h
        exact h
      have hbl := K.out.below HB.out (fun k hk => by have := HG.out; omega)
      have HBL := Lib.hid hbl
      clear hbl hX K
      go_wp2_with fail
      go_ret
      exact ⟨rfl, HBL.out⟩
end Go.Proofs.YtccaomaobokldaaDoor.Snapy
