/- Layer 15: the sums of no entries, and of one. Conditions: the variables of layer 4 hold what the program's text lays. -/
import Derived.Test.YteopkdmlcjndcaaDoorBuckBld
import Derived.Test.YteopkdmlcjndcaaDoorBuckKeys
import Derived.Test.YteopkdmlcjndcaaDoorBuckEntry
import Derived.Test.YteopkdmlcjndcaaDoorBlakeSumP
import Derived.Laws.MakeOwn
import Derived.Deep.DeepCutAuto
namespace Go.Proofs.YteopkdmlcjndcaaDoor.Bucky
open Go.ChangeShapes Go.WideShapes Go.ChangeAt Go.RowKit
open Wirey Regy
open Snapy (Ks)

/-- The sums when k are made; bucket 5 has the text s, no other one has any. -/
def sumAt (s : Bs) (i : Nat) : Bs := sumL (if i = 5 then s else [])
def outs (s : Bs) (k : Nat) : List Value := (List.range 16).map fun i => if i < k then .string (str (sumAt s i)) else .string ⟨#[]⟩
theorem outs_len (s : Bs) (k : Nat) : (outs s k).length = 16 := by simp [outs]
theorem outs_set (s : Bs) {k : Nat} (h : k < 16) : (outs s k).toArray.setIfInBounds k (.string (str (sumAt s k))) = (outs s (k + 1)).toArray := by
  apply Array.ext_getElem?
  intro i
  rw [Array.getElem?_setIfInBounds]
  simp only [List.size_toArray, outs_len, List.getElem?_toArray]
  unfold outs
  by_cases e : k = i
  · subst e
    rw [if_pos rfl, if_pos h]
    simp [h]
  · rw [if_neg e]
    by_cases hi : i < 16
    · simp only [List.getElem?_map, List.getElem?_range hi, Option.map_some]
      by_cases h1 : i < k
      · rw [if_pos h1, if_pos (by omega)]
      · rw [if_neg h1, if_neg (by omega)]
    · rw [List.getElem?_eq_none (by simp; omega), List.getElem?_eq_none (by simp; omega)]
theorem outs_at (s : Bs) {i : Nat} (h : i < 16) : (outs s 16).toArray[i]? = some (.string (str (sumAt s i))) := by
  simp [outs, h]
theorem str_info : (Tryd.prog.info? 9).map (fun i => (i.zero, i.size, i.bytes)) = some (some (.string ⟨#[]⟩), 1, 16) := by kernel_rfl
theorem outs0 (s : Bs) : madeCells (Value.string ⟨#[]⟩).cells 16 = (outs s 0).toArray := by
  unfold outs
  simp only [Nat.not_lt_zero, if_false]
  apply Array.ext_getElem?
  intro i
  by_cases hi : i < 16
  · have h1 : i % 1 = 0 := by omega
    simp [madeCells, Value.cells, hi, Nat.mod_one]
  · simp [madeCells, hi]
theorem mk_outs (s : Bs) (w : World) : (Instr.makeSlice 25 (.int .i64 16) (.int .i64 16)).run Tryd.prog w = .ok (.slice (some ⟨w.heap.size, 0, none⟩) 16 16) (w.alloc (.cells (outs s 0).toArray 9)) := by
  obtain ⟨i0, hi, hz0, hz1, hz2⟩ := info_parts str_info
  have h := run_make (P := Tryd.prog) w 25 9 i0 (.string ⟨#[]⟩) Tryd.underlying25 hi hz0 .i64 .i64 16 16 (by omega) (by omega) (by rw [hz2]; omega) (by omega)
  rw [h, hz1, ← outs0 s]
  rfl
theorem own_low {w : World} {B B' : Nat} {e : TypeId} {z : Nat} {v : Value} {n : Nat} {xs : List Value} (h : w.ownsRow B e z v n xs) (hb : B' ≤ B) : w.ownsRow B' e z v n xs :=
  ⟨h.1, h.2.elim Or.inl fun ⟨q, cap, cur, hv, hg, r⟩ => Or.inr ⟨q, cap, cur, hv, Nat.le_trans hb hg, r⟩⟩
/-- A list of sums. -/
structure SumsAt (w : World) (B : Nat) (s : Bs) (v : Value) : Prop where
  ex : ∃ q, v = .slice (some ⟨q, 0, none⟩) 16 16 ∧ B ≤ q ∧ Blk w q 9 (outs s 16).toArray
theorem sumAt_len (s : Bs) (i : Nat) : (sumAt s i).length = 32 := sumL_len _
def cZ : Array Value := #[.pointer none, .slice none 0 0, .pointer none, .slice none 0 0, .pointer none, .slice none 0 0, .pointer none, .slice none 0 0, .pointer none, .slice none 0 0, .pointer none, .slice none 0 0, .pointer none, .slice none 0 0, .pointer none, .slice none 0 0, .pointer none, .slice none 0 0, .pointer none, .slice none 0 0, .pointer none, .slice none 0 0, .pointer none, .slice none 0 0, .pointer none, .slice none 0 0, .pointer none, .slice none 0 0, .pointer none, .slice none 0 0, .pointer none, .slice none 0 0]
theorem cZ_size : cZ.size = 32 := rfl
theorem cZ_buf {i : Nat} (h : i < 16) : cZ[i * 2 + 1]? = some (.slice none 0 0) := by
  match i, h with
  | 0, _ => rfl
  | 1, _ => rfl
  | 2, _ => rfl
  | 3, _ => rfl
  | 4, _ => rfl
  | 5, _ => rfl
  | 6, _ => rfl
  | 7, _ => rfl
  | 8, _ => rfl
  | 9, _ => rfl
  | 10, _ => rfl
  | 11, _ => rfl
  | 12, _ => rfl
  | 13, _ => rfl
  | 14, _ => rfl
  | 15, _ => rfl
  | k + 16, h => omega
set_option maxHeartbeats 4000000 in
set_option maxRecDepth 100000 in
theorem sumsN (w : World) (hG : Glob w) :
    Calls Tryd.prog 9 #[.slice none 0 0] w fun e w' => ∃ v, e = .returned v ∧ SumsAt w' w.heap.size [] v ∧ Below w.heap.size w w' := by
  have hX := Blk.new w BT #[.pointer none, .slice none 0 0, .pointer none, .slice none 0 0, .pointer none, .slice none 0 0, .pointer none, .slice none 0 0, .pointer none, .slice none 0 0, .pointer none, .slice none 0 0, .pointer none, .slice none 0 0, .pointer none, .slice none 0 0, .pointer none, .slice none 0 0, .pointer none, .slice none 0 0, .pointer none, .slice none 0 0, .pointer none, .slice none 0 0, .pointer none, .slice none 0 0, .pointer none, .slice none 0 0, .pointer none, .slice none 0 0, .pointer none, .slice none 0 0]
  have hB0 : Below w.heap.size w (w.alloc (.cells #[.pointer none, .slice none 0 0, .pointer none, .slice none 0 0, .pointer none, .slice none 0 0, .pointer none, .slice none 0 0, .pointer none, .slice none 0 0, .pointer none, .slice none 0 0, .pointer none, .slice none 0 0, .pointer none, .slice none 0 0, .pointer none, .slice none 0 0, .pointer none, .slice none 0 0, .pointer none, .slice none 0 0, .pointer none, .slice none 0 0, .pointer none, .slice none 0 0, .pointer none, .slice none 0 0, .pointer none, .slice none 0 0, .pointer none, .slice none 0 0] BT)) := (Below.refl _ w).alloc (Nat.le_refl _) _
  have MK := fun W => mk_outs [] W
  go_enter Tryd.func9, Tryd.ntmps9
  go_upto_region 2 with (fail)
  generalize w.alloc (.cells #[.pointer none, .slice none 0 0, .pointer none, .slice none 0 0, .pointer none, .slice none 0 0, .pointer none, .slice none 0 0, .pointer none, .slice none 0 0, .pointer none, .slice none 0 0, .pointer none, .slice none 0 0, .pointer none, .slice none 0 0, .pointer none, .slice none 0 0, .pointer none, .slice none 0 0, .pointer none, .slice none 0 0, .pointer none, .slice none 0 0, .pointer none, .slice none 0 0, .pointer none, .slice none 0 0, .pointer none, .slice none 0 0, .pointer none, .slice none 0 0] BT) = w1 at *
  replace hX : Blk w1 w.heap.size BT cZ := hX
  have HB := Lib.hid hB0
  have HG := Lib.hid hG
  clear hB0 hG
  generalize hg : w.heap.size = g at hX ⊢
  have Hg := Lib.hid hg
  clear hg
  go_wp2_with fail
  refine (keysN 0 0 _).mono ?_
  rintro e w2 ⟨rfl, rfl⟩
  go_wp2_with fail
  go_loopw [11] (fun s wr => s = .int .i64 0 ∧ w1 = wr) (fun _ _ => 0)
  case atStart => exact ⟨rfl, rfl⟩
  case round =>
    obtain ⟨rfl, rfl⟩ := hrel
    have hQ := Blk.new w1 9 (outs [] 0).toArray
    have hXq := hX.alloc (.cells (outs [] 0).toArray 9)
    have hBq := HB.out.alloc HB.out.size (.cells (outs [] 0).toArray 9)
    have hqg : w1.heap.size ≠ g := by have := hX.lt; omega
    have hqB : g ≤ w1.heap.size := by have := hX.lt; omega
    clear hX HB
    go_upto_region 8 with (fail)
    generalize w1.alloc (.cells (outs [] 0).toArray 9) = w2 at *
    generalize w1.heap.size = q at *
    have HQ := Lib.hid hqg
    have HQB := Lib.hid hqB
    have HB2 := Lib.hid hBq
    clear hqg hqB hBq MK
    go_wp2_with fail
    go_loopw [26] (fun s wr => ∃ k : Nat, k ≤ 16 ∧ s = .int .i64 k ∧ Blk wr q 9 (outs [] k).toArray ∧ Blk wr g BT cZ ∧ Hid (Below w.heap.size w wr)) (fun s _ => 16 - (intOf s).toNat)
    case atStart => exact ⟨0, by omega, rfl, hQ, hXq, HB2⟩
    case round =>
      clear hQ hXq HB2
      obtain ⟨k, hk, rfl, hQ, hX, HB⟩ := hrel
      by_cases h : k < 16
      · have hlt : (k : Int) < 16 := by omega
        have hbuf := (hX.cell (k * 2 + 1)).trans (cZ_buf h)
        have HX := Lib.hid hX
        have HQ1 := Lib.hid hQ
        clear hX hQ
        go_wp2_with fail
        refine (take0 (k * 2) hbuf).mono ?_
        rintro e w3 ⟨rfl, hb⟩
        have hX := HX.out.below hb HX.out.lt
        have hQ := HQ1.out.below hb HQ1.out.lt
        have HB3 := Lib.hid (HB.out.trans (hb.mono HB.out.size))
        have hG3 := HG.out.below HB3.out
        clear hb HX HQ1 hbuf HB
        have HX := Lib.hid hX
        have HQ1 := Lib.hid hQ
        clear hX hQ
        go_wp2_with fail
        refine (sumP_c [] (by decide) _ hG3).mono ?_
        rintro e w4 ⟨rfl, hb⟩
        have hX := HX.out.below hb HX.out.lt
        have hQ := HQ1.out.below hb HQ1.out.lt
        have HB4 := Lib.hid (HB3.out.trans (hb.mono HB3.out.size))
        clear hb HX HQ1 HB3 hG3
        have hfz := hQ.free k
        have hqs : w4.cell? ⟨q, k, none⟩ = some ((outs [] k)[k]'(by rw [outs_len]; exact h)) := by rw [hQ.cell k]; simp [outs_len, h]
        have hQ5 := hQ.put k (.string (str (sumAt [] k)))
        rw [outs_set [] h] at hQ5
        have hX5 := hX.far (p := ⟨q, k, none⟩) (Ne.symm HQ.out) (.string (str (sumAt [] k)))
        have HB5 := Lib.hid (HB4.out.setCell (p := ⟨q, k, none⟩) (show w.heap.size ≤ q by have := HQB.out; have := Hg.out; omega) (.string (str (sumAt [] k))))
        have hse : sumL [] = sumAt [] k := by unfold sumAt; rw [ite_self]
        rw [hse]
        clear hse hQ hX HB4
        go_wp2_with fail
        go_roundw
        case rel => exact ⟨k + 1, by omega, rfl, hQ5, hX5, HB5⟩
        case measure => simp [intOf]; omega
      · obtain rfl : k = 16 := by omega
        have hlt : ¬ ((16 : Int) < 16) := by omega
        go_wp2_with fail
        go_ret
        exact ⟨_, rfl, ⟨q, rfl, by have := HQB.out; have := Hg.out; omega, hQ⟩, HB.out⟩
set_option maxHeartbeats 8000000 in
set_option maxRecDepth 100000 in
theorem sums1 (p : Addr) (c : Nat) (w : World) (hG : Glob w) (hp : p.block < w.heap.size) (hnews : ∀ j u, [Value.string (str [107]), .string (str []), .int .u64 1, .int .u64 0][j]? = some u → w.cell? (p.add j) = some u) :
    Calls Tryd.prog 9 #[.slice (some p) 1 c] w fun e w' => ∃ v, e = .returned v ∧ SumsAt w' w.heap.size (entB [107] [] 1 0) v ∧ Below w.heap.size w w' := by
  have hX := Blk.new w BT #[.pointer none, .slice none 0 0, .pointer none, .slice none 0 0, .pointer none, .slice none 0 0, .pointer none, .slice none 0 0, .pointer none, .slice none 0 0, .pointer none, .slice none 0 0, .pointer none, .slice none 0 0, .pointer none, .slice none 0 0, .pointer none, .slice none 0 0, .pointer none, .slice none 0 0, .pointer none, .slice none 0 0, .pointer none, .slice none 0 0, .pointer none, .slice none 0 0, .pointer none, .slice none 0 0, .pointer none, .slice none 0 0, .pointer none, .slice none 0 0]
  have hB0 : Below w.heap.size w (w.alloc (.cells #[.pointer none, .slice none 0 0, .pointer none, .slice none 0 0, .pointer none, .slice none 0 0, .pointer none, .slice none 0 0, .pointer none, .slice none 0 0, .pointer none, .slice none 0 0, .pointer none, .slice none 0 0, .pointer none, .slice none 0 0, .pointer none, .slice none 0 0, .pointer none, .slice none 0 0, .pointer none, .slice none 0 0, .pointer none, .slice none 0 0, .pointer none, .slice none 0 0, .pointer none, .slice none 0 0, .pointer none, .slice none 0 0, .pointer none, .slice none 0 0] BT)) := (Below.refl _ w).alloc (Nat.le_refl _) _
  obtain ⟨T, hT⟩ : ∃ T, T = entB [107] [] 1 0 := ⟨_, rfl⟩
  have hTl : T.length = 5 := by rw [hT]; decide +kernel
  have hT0 : T ≠ [] := by intro e; rw [e] at hTl; cases hTl
  have hOf : ∀ W, Calls Tryd.prog 6 #[.string (str [107])] W fun e w' => e = .returned (.int .i64 5) ∧ W = w' := fun W => by
    have := bof_c [107] (by unfold maxLen; decide) W
    rwa [bkt_k] at this
  have hBy : ∀ W, Calls Tryd.prog 16 #[.agg #[.string (str [107]), .string (str []), .int .u64 1, .int .u64 0]] W fun e w' => e = .returned (.string (str T)) ∧ Below W.heap.size W w' := fun W => by
    rw [hT]
    exact bytes_c [107] [] 1 0 (by decide) (by decide) (by decide) (by decide) W
  rw [← hT]
  have hK := keys1 (w := w.alloc (.cells #[.pointer none, .slice none 0 0, .pointer none, .slice none 0 0, .pointer none, .slice none 0 0, .pointer none, .slice none 0 0, .pointer none, .slice none 0 0, .pointer none, .slice none 0 0, .pointer none, .slice none 0 0, .pointer none, .slice none 0 0, .pointer none, .slice none 0 0, .pointer none, .slice none 0 0, .pointer none, .slice none 0 0, .pointer none, .slice none 0 0, .pointer none, .slice none 0 0, .pointer none, .slice none 0 0, .pointer none, .slice none 0 0, .pointer none, .slice none 0 0] BT)) p c (.string (str [107])) (.string (str [])) (.int .u64 1) (.int .u64 0) rfl rfl rfl rfl (by simp; omega) (fun j u hj => by
    have e : (p.add j).block = p.block := by unfold Addr.add; split <;> rfl
    exact (World.cell?_of_block (Below.heap_alloc w _ _ (by rw [e]; exact hp))).trans (hnews j u hj))
  have MK := fun W => mk_outs T W
  clear hT hnews
  go_enter Tryd.func9, Tryd.ntmps9
  go_upto_region 2 with (fail)
  generalize w.alloc (.cells #[.pointer none, .slice none 0 0, .pointer none, .slice none 0 0, .pointer none, .slice none 0 0, .pointer none, .slice none 0 0, .pointer none, .slice none 0 0, .pointer none, .slice none 0 0, .pointer none, .slice none 0 0, .pointer none, .slice none 0 0, .pointer none, .slice none 0 0, .pointer none, .slice none 0 0, .pointer none, .slice none 0 0, .pointer none, .slice none 0 0, .pointer none, .slice none 0 0, .pointer none, .slice none 0 0, .pointer none, .slice none 0 0, .pointer none, .slice none 0 0] BT) = w1 at *
  replace hX : Blk w1 w.heap.size BT cZ := hX
  have HB := Lib.hid hB0
  have HG := Lib.hid hG
  clear hB0 hG
  generalize hg : w.heap.size = g at hX ⊢
  have Hg := Lib.hid hg
  clear hg
  go_wp2_with fail
  refine hK.mono ?_
  rintro e w2 ⟨h, cap, cur, rfl, hh, hE, ht, hb⟩
  have hX2 := hX.below hb hX.lt
  have HB2 := Lib.hid (HB.out.trans (hb.mono HB.out.size))
  have hhg : g < h := by have := hX.lt; omega
  clear hK hX hb HB hh
  have e0 : cur[0]? = some (.string (str [107])) := by rw [← Array.getElem?_toList, ← List.getElem?_take_of_lt (j := 4) (by decide), ht]; rfl
  have e1 : cur[1]? = some (.string (str [])) := by rw [← Array.getElem?_toList, ← List.getElem?_take_of_lt (j := 4) (by decide), ht]; rfl
  have e2 : cur[2]? = some (.int .u64 1) := by rw [← Array.getElem?_toList, ← List.getElem?_take_of_lt (j := 4) (by decide), ht]; rfl
  have e3 : cur[3]? = some (.int .u64 0) := by rw [← Array.getElem?_toList, ← List.getElem?_take_of_lt (j := 4) (by decide), ht]; rfl
  clear ht
  have HHG := Lib.hid hhg
  have HT := Lib.hid hTl
  clear hhg hTl
  go_wp2_with fail
  go_loopw [11] (fun s wr => ∃ j : Nat, j ≤ 1 ∧ s = .int .i64 j ∧ Hid (Below w.heap.size w wr) ∧ Hid (j = 0 → Blk wr g BT cZ ∧ Blk wr h ET cur) ∧ Hid (j = 1 → ∃ v, Blk wr g BT ((cZ.setIfInBounds 10 (.pointer (some ⟨g, 10, none⟩))).setIfInBounds 11 v) ∧ wr.ownsRow (g + 1) 5 1 v T.length (Lib.byteCells T))) (fun s _ => 1 - (intOf s).toNat)
  case atStart => exact ⟨0, by omega, rfl, HB2, Lib.hid fun _ => ⟨hX2, hE⟩, Lib.hid fun e => by omega⟩
  case round =>
    clear hX2 HB2 hE
    obtain ⟨j, hj, rfl, HB, H0, H1⟩ := hrel
    by_cases hj0 : j = 0
    · subst hj0
      obtain ⟨hX, hE⟩ := H0.out rfl
      clear H0 H1
      have x0 := (hE.cell 0).trans e0
      have x1 := (hE.cell 1).trans e1
      have x2 := (hE.cell 2).trans e2
      have x3 := (hE.cell 3).trans e3
      have HX := Lib.hid (hX.alloc (.cells #[.string (str [107]), .string (str []), .int .u64 1, .int .u64 0] ET))
      have hBX := Blk.new wr ET #[.string (str [107]), .string (str []), .int .u64 1, .int .u64 0]
      have HB1 := Lib.hid (HB.out.alloc HB.out.size (.cells #[.string (str [107]), .string (str []), .int .u64 1, .int .u64 0] ET))
      have hgx : g ≠ wr.heap.size := by have := hX.lt; omega
      clear hX hE HB
      have hlt : ((0 : Nat) : Int) < 1 := by omega
      go_upto_region 5 with (fail)
      generalize wr.alloc (.cells #[.string (str [107]), .string (str []), .int .u64 1, .int .u64 0] ET) = w3 at *
      generalize wr.heap.size = bx at *
      clear x0 x1 x2 x3
      have hB : Hid (Below w.heap.size w w3.drew) := Lib.hid HB1.out.drew
      have hXg := (show Blk w3.drew g BT cZ from HX.out)
      have hS : (w3.cell? ⟨bx, 0, none⟩ = some (.string (str [107])) ∧ w3.cell? ⟨bx, 1, none⟩ = some (.string (str [])) ∧ w3.cell? ⟨bx, 2, none⟩ = some (.int .u64 1) ∧ w3.cell? ⟨bx, 3, none⟩ = some (.int .u64 0) ∧ bx < w3.heap.size) := ⟨hBX.cell 0, hBX.cell 1, hBX.cell 2, hBX.cell 3, hBX.lt⟩
      have stp : ∀ W W' : World, (W.cell? ⟨bx, 0, none⟩ = some (.string (str [107])) ∧ W.cell? ⟨bx, 1, none⟩ = some (.string (str [])) ∧ W.cell? ⟨bx, 2, none⟩ = some (.int .u64 1) ∧ W.cell? ⟨bx, 3, none⟩ = some (.int .u64 0) ∧ bx < W.heap.size) → W'.heap[bx]? = W.heap[bx]? → W.heap.size ≤ W'.heap.size → (W'.cell? ⟨bx, 0, none⟩ = some (.string (str [107])) ∧ W'.cell? ⟨bx, 1, none⟩ = some (.string (str [])) ∧ W'.cell? ⟨bx, 2, none⟩ = some (.int .u64 1) ∧ W'.cell? ⟨bx, 3, none⟩ = some (.int .u64 0) ∧ bx < W'.heap.size) := fun W W' h hb hs => ⟨(World.cell?_of_block hb).trans h.1, (World.cell?_of_block hb).trans h.2.1, (World.cell?_of_block hb).trans h.2.2.1, (World.cell?_of_block hb).trans h.2.2.2.1, Nat.lt_of_lt_of_le h.2.2.2.2 hs⟩
      clear hBX HB1 HX
      refine region_only 7 #[false, false, false, false, false, false, false] (S := (fun W => (W.cell? ⟨bx, 0, none⟩ = some (.string (str [107])) ∧ W.cell? ⟨bx, 1, none⟩ = some (.string (str [])) ∧ W.cell? ⟨bx, 2, none⟩ = some (.int .u64 1) ∧ W.cell? ⟨bx, 3, none⟩ = some (.int .u64 0) ∧ bx < W.heap.size))) rfl rfl (by kernel_rfl) hS (fun hSw => ?_)
      refine take_at 0 15 (fuel := 6) ?_ rfl rfl (by kernel_rfl) (by kernel_rfl) (by kernel_rfl) (Or.inl ⟨by rfl, ?_⟩) hSw ?_
      rotate_left
      · intro wx hSx
        (try dsimp only at hSx)
        go_split_ands
        go_simp
        (try with_reducible rfl)
      simp only [List.setIfInBounds_toArray, List.set_cons_zero, List.set_cons_succ]
      refine take_at 1 16 (fuel := 5) ?_ rfl rfl (by kernel_rfl) (by kernel_rfl) (by kernel_rfl) (Or.inl ⟨by rfl, ?_⟩) hSw ?_
      rotate_left
      · intro wx hSx
        (try dsimp only at hSx)
        go_split_ands
        go_simp
        (try with_reducible rfl)
      simp only [List.setIfInBounds_toArray, List.set_cons_zero, List.set_cons_succ]
      refine take_at 4 19 (fuel := 4) ?_ rfl rfl (by kernel_rfl) (by kernel_rfl) (by kernel_rfl) (Or.inl ⟨by rfl, ?_⟩) hSw ?_
      rotate_left
      · intro wx hSx
        (try dsimp only at hSx)
        go_split_ands
        go_simp
        (try with_reducible rfl)
      simp only [List.setIfInBounds_toArray, List.set_cons_zero, List.set_cons_succ]
      refine wpAnyH_ready (fuel := 3) (rs := [2]) (by kernel_rfl) (by simp) (AllReadyH.cons rfl (fun K hK => ?_) AllReadyH.nil)
      go_simp
      refine Calls.mono (hOf _) ?_
      rintro e wv ⟨rfl, rfl⟩
      refine hK.out _ _ hSw (fun hSw => ?_)
      clear hK K
      simp only [List.setIfInBounds_toArray, List.set_cons_zero, List.set_cons_succ]
      refine take_at 3 18 (fuel := 2) ?_ rfl rfl (by kernel_rfl) (by kernel_rfl) (by kernel_rfl) (Or.inl ⟨by rfl, ?_⟩) hSw ?_
      rotate_left
      · intro wx hSx
        (try dsimp only at hSx)
        go_split_ands
        go_simp
        (try with_reducible rfl)
      simp only [List.setIfInBounds_toArray, List.set_cons_zero, List.set_cons_succ]
      refine wpAnyH_ready (fuel := 1) (rs := [5]) (by kernel_rfl) (by simp) (AllReadyH.cons rfl (fun K hK => ?_) AllReadyH.nil)
      go_simp
      refine Calls.mono (hBy _) ?_
      rintro e wv ⟨rfl, hb⟩
      replace hB := Lib.hid (hB.out.trans (hb.mono hB.out.size))
      replace hXg := hXg.below hb hXg.lt
      refine hK.out _ _ (stp _ _ hSw (hb.block _ hSw.2.2.2.2) hb.size) (fun hSw => ?_)
      clear hK K
      simp only [List.setIfInBounds_toArray, List.set_cons_zero, List.set_cons_succ]
      refine wpAnyH_ready (fuel := 0) (rs := [6]) (by kernel_rfl) (by simp) (AllReadyH.cons rfl (fun K hK => ?_) AllReadyH.nil)
      go_simp
      refine Calls.mono (write5 T (by have := HT.out; omega) hXg rfl rfl rfl) ?_
      rintro e wv ⟨rfl, ⟨v, hXv, hown⟩, hks⟩
      have HBE := Lib.hid (hks.below hB.out (by intro k hk; subst hk; have := Hg.out; omega))
      replace hown := own_low hown (show g + 1 ≤ _ by have := hXg.lt; omega)
      refine hK.out _ _ (stp _ _ hSw (hks.block _ hSw.2.2.2.2 (Ne.symm hgx)) hks.size) (fun hSw => ?_)
      clear hK K
      simp only [List.setIfInBounds_toArray, List.set_cons_zero, List.set_cons_succ]
      refine wpAnyH_done (by kernel_rfl) ⟨rfl, ?_⟩ 0
      go_wp2_with fail
      go_roundw
      case rel => exact ⟨1, by omega, rfl, HBE, Lib.hid fun e => by omega, Lib.hid fun _ => ⟨v, hXv, hown⟩⟩
      case measure => simp [intOf]
    · obtain rfl : j = 1 := by omega
      obtain ⟨v, hX, hO⟩ := H1.out rfl
      clear H0 H1 hj0
      have hlt : ¬ (((1 : Nat) : Int) < 1) := by omega
      obtain ⟨cV, hcV⟩ : ∃ cV, cV = (cZ.setIfInBounds 10 (.pointer (some ⟨g, 10, none⟩))).setIfInBounds 11 v := ⟨_, rfl⟩
      rw [← hcV] at hX
      have hc5 : cV[10 + 1]? = some v := by rw [hcV, Array.getElem?_setIfInBounds_self_of_lt (by rw [Array.size_setIfInBounds]; decide)]
      have hcN : ∀ k, k < 16 → k ≠ 5 → cV[k * 2 + 1]? = some (.slice none 0 0) := fun k h1 h2 => by
        rw [hcV, Array.getElem?_setIfInBounds_ne (by omega), Array.getElem?_setIfInBounds_ne (by omega)]
        exact cZ_buf h1
      have hVg : ∀ b, v.ownBlock = some b → g < b ∧ b < wr.heap.size := fun b hb => by have := hO.lt b hb; omega
      clear hcV
      have hQ := Blk.new wr 9 (outs T 0).toArray
      have hXq := hX.alloc (.cells (outs T 0).toArray 9)
      have hOq := hO.alloc (.cells (outs T 0).toArray 9)
      have hBq := HB.out.alloc HB.out.size (.cells (outs T 0).toArray 9)
      have hqg : wr.heap.size ≠ g := by have := hX.lt; omega
      have hqB : g ≤ wr.heap.size := by have := hX.lt; omega
      have hVq : v.ownBlock = none ∨ v.ownBlock ≠ some wr.heap.size := by
        rcases hv : v.ownBlock with _ | b
        · exact Or.inl rfl
        · exact Or.inr (fun e => by have := (hVg b hv).2; have := Option.some.inj e; omega)
      have hVG : some g ≠ v.ownBlock := fun e => by have := (hVg g e.symm).1; omega
      have HQ := Lib.hid hqg
      have HQB := Lib.hid hqB
      have HB2 := Lib.hid hBq
      have HV := Lib.hid hVq
      have HVG := Lib.hid hVG
      have HC5 := Lib.hid hc5
      have HCN := Lib.hid hcN
      clear hX HB hO hVg hc5 hcN hqg hqB hBq hVq hVG
      go_upto_region 8 with (fail)
      generalize wr.alloc (.cells (outs T 0).toArray 9) = w2 at *
      generalize wr.heap.size = q at *
      clear MK
      go_wp2_with fail
      go_loopw [26] (fun s wr => ∃ k : Nat, k ≤ 16 ∧ s = .int .i64 k ∧ Blk wr q 9 (outs T k).toArray ∧ Blk wr g BT cV ∧ Hid (k ≤ 5 → wr.ownsRow (g + 1) 5 1 v T.length (Lib.byteCells T)) ∧ Hid (Below w.heap.size w wr)) (fun s _ => 16 - (intOf s).toNat)
      case atStart => exact ⟨0, by omega, rfl, hQ, hXq, Lib.hid fun _ => hOq, HB2⟩
      case round =>
        clear hQ hXq HB2 hOq
        obtain ⟨k, hk, rfl, hQ, hX, HO, HB⟩ := hrel
        by_cases h : k < 16
        · have hlt : (k : Int) < 16 := by omega
          have HX := Lib.hid hX
          have HQ1 := Lib.hid hQ
          by_cases h5 : k = 5
          · subst h5
            have hbuf := (hX.cell (10 + 1)).trans HC5.out
            clear hX hQ
            go_wp2_with fail
            refine (take5 T hT0 10 (g + 1) v hbuf (HO.out (by omega))).mono ?_
            rintro e w3 ⟨rfl, hbq, hsz, hoth⟩
            have hX := (hoth g HVG.out).trans HX.out
            have hQ := (hoth q (fun e => HV.out.elim (fun e2 => by rw [e2] at e; cases e) (fun e2 => e2 e.symm))).trans HQ1.out
            replace hX : Blk w3 g BT cV := hX
            replace hQ : Blk w3 q 9 (outs T 5).toArray := hQ
            have HB3 := Lib.hid (HB.out.trans (hbq.mono (by have := Hg.out; omega)))
            have hG3 := HG.out.below HB3.out
            clear hbq hsz hoth hbuf HO
            clear HX HQ1 HB
            have HX := Lib.hid hX
            have HQ1 := Lib.hid hQ
            clear hX hQ
            go_wp2_with fail
            refine (sumP_c T (by have := HT.out; omega) _ hG3).mono ?_
            rintro e w4 ⟨rfl, hb⟩
            have hX := HX.out.below hb HX.out.lt
            have hQ := HQ1.out.below hb HQ1.out.lt
            have HB4 := Lib.hid (HB3.out.trans (hb.mono HB3.out.size))
            clear hb HX HQ1 HB3 hG3
            have hfz := hQ.free 5
            have hqs : w4.cell? ⟨q, 5, none⟩ = some ((outs T 5)[5]'(by rw [outs_len]; exact h)) := by rw [hQ.cell 5]; simp [outs_len, h]
            have hQ5 := hQ.put 5 (.string (str (sumAt T 5)))
            rw [outs_set T h] at hQ5
            have hX5 := hX.far (p := ⟨q, 5, none⟩) (Ne.symm HQ.out) (.string (str (sumAt T 5)))
            have HB5 := Lib.hid (HB4.out.setCell (p := ⟨q, 5, none⟩) (show w.heap.size ≤ q by have := HQB.out; have := Hg.out; omega) (.string (str (sumAt T 5))))
            have hO5 : Hid (5 + 1 ≤ 5 → (w4.setCell ⟨q, 5, none⟩ (.string (str (sumAt T 5)))).ownsRow (g + 1) 5 1 v T.length (Lib.byteCells T)) := Lib.hid fun hx => by omega
            have hse : sumL T = sumAt T 5 := rfl
            rw [hse]
            clear hse hQ hX HB4
            go_wp2_with fail
            go_roundw
            case rel => exact ⟨5 + 1, by omega, rfl, hQ5, hX5, hO5, HB5⟩
            case measure => simp [intOf]
          · have hbuf := (hX.cell (k * 2 + 1)).trans (HCN.out k h h5)
            clear hX hQ
            go_wp2_with fail
            refine (take0 (k * 2) hbuf).mono ?_
            rintro e w3 ⟨rfl, hb⟩
            have hX := HX.out.below hb HX.out.lt
            have hQ := HQ1.out.below hb HQ1.out.lt
            have HB3 := Lib.hid (HB.out.trans (hb.mono HB.out.size))
            have hG3 := HG.out.below HB3.out
            have HO3 : Hid (k ≤ 5 → w3.ownsRow (g + 1) 5 1 v T.length (Lib.byteCells T)) := Lib.hid fun hx => (HO.out hx).kept (row := none) ⟨hb.os, hb.tape, hb.output, hb.size, fun i hi _ => hb.block i hi⟩ (by cases v.ownBlock <;> simp)
            clear hb hbuf HO
            clear HX HQ1 HB
            have HX := Lib.hid hX
            have HQ1 := Lib.hid hQ
            clear hX hQ
            go_wp2_with fail
            refine (sumP_c [] (by decide) _ hG3).mono ?_
            rintro e w4 ⟨rfl, hb⟩
            have hX := HX.out.below hb HX.out.lt
            have hQ := HQ1.out.below hb HQ1.out.lt
            have HB4 := Lib.hid (HB3.out.trans (hb.mono HB3.out.size))
            have HO4 : Hid (k ≤ 5 → w4.ownsRow (g + 1) 5 1 v T.length (Lib.byteCells T)) := Lib.hid fun hx => (HO3.out hx).kept (row := none) ⟨hb.os, hb.tape, hb.output, hb.size, fun i hi _ => hb.block i hi⟩ (by cases v.ownBlock <;> simp)
            clear hb HX HQ1 HB3 hG3
            have hfz := hQ.free k
            have hqs : w4.cell? ⟨q, k, none⟩ = some ((outs T k)[k]'(by rw [outs_len]; exact h)) := by rw [hQ.cell k]; simp [outs_len, h]
            have hQ5 := hQ.put k (.string (str (sumAt T k)))
            rw [outs_set T h] at hQ5
            have hX5 := hX.far (p := ⟨q, k, none⟩) (Ne.symm HQ.out) (.string (str (sumAt T k)))
            have HB5 := Lib.hid (HB4.out.setCell (p := ⟨q, k, none⟩) (show w.heap.size ≤ q by have := HQB.out; have := Hg.out; omega) (.string (str (sumAt T k))))
            have hO5 : Hid (k + 1 ≤ 5 → (w4.setCell ⟨q, k, none⟩ (.string (str (sumAt T k)))).ownsRow (g + 1) 5 1 v T.length (Lib.byteCells T)) := Lib.hid fun hx => (HO4.out (by omega)).kept (row := some q) ⟨rfl, rfl, rfl, by simp [World.setCell], fun i _ hk => Below.heap_setCell _ _ _ _ (fun e => hk (by simp [e]))⟩ HV.out
            have hse : sumL [] = sumAt T k := by unfold sumAt; rw [if_neg h5]
            rw [hse]
            clear hse hQ hX HB4
            go_wp2_with fail
            go_roundw
            case rel => exact ⟨k + 1, by omega, rfl, hQ5, hX5, hO5, HB5⟩
            case measure => simp [intOf]; omega
        · obtain rfl : k = 16 := by omega
          have hlt : ¬ ((16 : Int) < 16) := by omega
          go_wp2_with fail
          go_ret
          exact ⟨_, rfl, ⟨q, rfl, by have := HQB.out; have := Hg.out; omega, hQ⟩, HB.out⟩
end Go.Proofs.YteopkdmlcjndcaaDoor.Bucky
