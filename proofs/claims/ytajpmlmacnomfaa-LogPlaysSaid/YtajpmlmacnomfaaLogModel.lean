/- Layer 13: what its law plays with. No condition. -/
import Derived.Test.YtajpmlmacnomfaaLogCalls
import Derived.Test.YtajpmlmacnomfaaBits
import Derived.Test.YtajpmlmacnomfaaKit
import Derived.Test.YtajpmlmacnomfaaLogAwake
import Derived.Test.YtajpmlmacnomfaaLogOpen
import Derived.Test.YtajpmlmacnomfaaRows
import Derived.Test.YtajpmlmacnomfaaRegion
import Derived.Test.YtajpmlmacnomfaaRegionK
import Derived.Lib.Hide
import Derived.BigQuiet
namespace Go.Proofs.Ytajpmlmacnomfaa.Logy
open Go.ChangeShapes Go.WideShapes Go.ChangeAt Go.RowKit
open Wirey (Blk Row str str_size str_list str_cat Kp)
open Regy Slsy

theorem One_slice (a : Option Addr) (n c : Nat) : (Value.slice a n c).oneCell' = true := rfl
set_option maxHeartbeats 2000000 in
set_option maxRecDepth 100000 in
theorem mlast_c {base most : Nat} {a : Option Addr} {n c : Nat} (hb : base + n < 18446744073709551616) (hn : n < 1000000) (w : World) :
    Calls Try.prog 14 #[.agg #[.int .u64 (base : Int), .slice a n c, .int .i64 (most : Int)]] w fun e w' => e = .returned (.int .u64 ((base : Int) + (n : Int))) ∧ Below w.heap.size w w' := by
  have hB := Blk.new w 30 #[.int .u64 (base : Int), .slice a n c, .int .i64 (most : Int)]
  have hb1 := (Below.refl _ w).alloc (Nat.le_refl _) (.cells #[.int .u64 (base : Int), .slice a n c, .int .i64 (most : Int)] 30)
  have hw1 : IntKind.u64.wrap (n : Int) = (n : Int) := by rw [IntKind.wrap_u64]; omega
  have hw2 : IntKind.u64.wrap ((base : Int) + (n : Int)) = (base : Int) + (n : Int) := by rw [IntKind.wrap_u64]; omega
  go_enter Try.func14, Try.ntmps14
  go_upto_region 1 with (fail)
  generalize w.alloc (.cells #[.int .u64 (base : Int), .slice a n c, .int .i64 (most : Int)] 30) = w1 at *
  have x0 := hB.cell 0
  have x1 := hB.cell 1
  simp only [List.getElem?_toArray, List.getElem?_cons_zero, List.getElem?_cons_succ] at x0 x1
  go_wp2_with fail
  go_ret
  exact ⟨rfl, hb1⟩
set_option maxHeartbeats 2000000 in
set_option maxRecDepth 100000 in
theorem mcut_c {base most : Nat} (at_ : Nat) {v : Value} {l : List Rc} (hat : at_ < 18446744073709551616) (_hb : base + l.length < 18446744073709551616) (hl : l.length < 1000000) (w : World) (h : Vw w Rc.enc 9 v l) :
    Calls Try.prog 19 #[.agg #[.int .u64 (base : Int), v, .int .i64 (most : Int)], .int .u64 (at_ : Int)] w fun e w' => ∃ v', e = .returned (.agg #[.int .u64 ((base + cutN base at_ l : Nat) : Int), v', .int .i64 (most : Int)]) ∧ Vw w' Rc.enc 9 v' (l.drop (cutN base at_ l)) ∧ v'.ownBlock = v.ownBlock ∧ Below w.heap.size w w' := by
  obtain ⟨a, c, rfl, hac, hcm⟩ := h.form
  have s1 : (w.alloc (.cells #[.int .u64 (base : Int), .slice a l.length c, .int .i64 (most : Int)] 30)).heap.size = w.heap.size + 1 := by simp
  have hx := (Blk.new w 30 #[.int .u64 (base : Int), .slice a l.length c, .int .i64 (most : Int)]).alloc (.cells #[.int .u64 0, .slice none 0 0, .int .i64 0] 30)
  have hz := Blk.new (w.alloc (.cells #[.int .u64 (base : Int), .slice a l.length c, .int .i64 (most : Int)] 30)) 30 #[.int .u64 0, .slice none 0 0, .int .i64 0]
  rw [s1] at hz
  have hb0 := ((Below.refl _ w).alloc (Nat.le_refl _) (.cells #[.int .u64 (base : Int), .slice a l.length c, .int .i64 (most : Int)] 30)).alloc (by simp) (.cells #[.int .u64 0, .slice none 0 0, .int .i64 0] 30)
  have hv0 := h.below hb0
  go_enter Try.func19, Try.ntmps19
  go_wp2_with fail
  generalize (w.alloc (.cells #[.int .u64 (base : Int), .slice a l.length c, .int .i64 (most : Int)] 30)).alloc (.cells #[.int .u64 0, .slice none 0 0, .int .i64 0] 30) = w1 at *
  clear s1
  skip
  go_loopw [] (fun wr => ∃ (k : Nat) (v' : Value), k ≤ cutN base at_ l ∧ Blk wr w.heap.size 30 #[.int .u64 ((base + k : Nat) : Int), v', .int .i64 (most : Int)] ∧ Blk wr (w.heap.size + 1) 30 #[.int .u64 0, .slice none 0 0, .int .i64 0] ∧ Vw wr Rc.enc 9 v' (l.drop k) ∧ v'.ownBlock = (Value.slice a l.length c).ownBlock ∧ Below w.heap.size w wr) (fun wr => match wr.cell? ⟨w.heap.size, 1, none⟩ with | some (.slice _ n _) => n | _ => 0)
  case atStart => exact ⟨0, _, Nat.zero_le _, hx, hz, hv0, rfl, hb0⟩
  case round =>
    clear hx hz hv0 hb0
    obtain ⟨k, v', hk, hx, hz, hv, hown, hb1⟩ := hrel
    obtain ⟨a', c', rfl, hac', hcm'⟩ := hv.form
    obtain ⟨m, hm⟩ : ∃ m, m = l.drop k := ⟨_, rfl⟩
    have hml : m.length = l.length - k := by rw [hm, List.length_drop]
    rw [← hm] at hx hv hac' hown
    obtain ⟨B, hB⟩ : ∃ B, B = base + k := ⟨_, rfl⟩
    rw [← hB] at hx
    have x0 := hx.cell 0
    have x1 := hx.cell 1
    have x2 := hx.cell 2
    have f0 := hx.free 0
    have f1 := hx.free 1
    have y0 := hz.cell 0
    have y1 := hz.cell 1
    have y2 := hz.cell 2
    have z0 := hz.free 0
    have z1 := hz.free 1
    have z2 := hz.free 2
    simp only [List.getElem?_toArray, List.getElem?_cons_zero, List.getElem?_cons_succ] at x0 x1 x2 y0 y1 y2
    have hkl : k ≤ l.length := by unfold cutN at hk; omega
    by_cases hgo : 0 < m.length ∧ B < at_
    · obtain ⟨x, m', hmx⟩ : ∃ x m', m = x :: m' := by cases m with | nil => exact absurd hgo.1 (by simp) | cons x m' => exact ⟨x, m', rfl⟩
      have hl1 : (0 : Int) < (m.length : Int) := by omega
      have d1 : decide ((0 : Int) < (m.length : Int)) = true := decide_eq_true hl1
      have d2 : decide ((B : Int) < (at_ : Int)) = true := decide_eq_true (by omega)
      obtain ⟨g, off, rfl, hg, -⟩ := hv.at_ (i := 0) (x := x) (by rw [hmx]; rfl)
      have hBb : B < 18446744073709551615 := by omega
      have HBk := Lib.hid hB
      have HML := Lib.hid hml
      have HM := Lib.hid hm
      clear hB hml hm
      go_upto_region 2 with (fail)
      have hle1 : (1 : Int) ≤ (m'.length : Int) + 1 := by omega
      have hw2 : IntKind.u64.wrap ((B : Int) + 1) = (B : Int) + 1 := by rw [IntKind.wrap_u64]; omega
      rw [hmx, List.length_cons] at x1
      rw [hmx] at hl1 hv hx
      have V0 : wr.drew.cell? ⟨w.heap.size, 0, none⟩ = some (.int .u64 (B : Int)) ∧ wr.drew.cell? ⟨w.heap.size, 1, none⟩ = some (.slice (some ⟨g, off, none⟩) (m'.length + 1) c') := ⟨x0, x1⟩
      refine regionK_only 10 #[false, false, false, false, false, false, false, false, false, false] 7 (V := (fun W => W.cell? ⟨w.heap.size, 0, none⟩ = some (.int .u64 (B : Int)) ∧ W.cell? ⟨w.heap.size, 1, none⟩ = some (.slice (some ⟨g, off, none⟩) (m'.length + 1) c'))) rfl rfl (by kernel_rfl) V0 (fun hSw => ?_)
      refine early_at 7 0 15 (fuel := 9) ?_ rfl rfl (by kernel_rfl) (by kernel_rfl) (by kernel_rfl) (by decide) rfl (by kernel_rfl) (by kernel_rfl) (Or.inl ⟨by rfl, ?_⟩) hSw ?_
      rotate_left
      · intro wx hSx
        (try dsimp only at hSx)
        go_split_ands
        go_simp
        (try with_reducible rfl)
      simp only [List.setIfInBounds_toArray, List.set_cons_zero, List.set_cons_succ]
      refine early_at 7 1 16 (fuel := 8) ?_ rfl rfl (by kernel_rfl) (by kernel_rfl) (by kernel_rfl) (by decide) rfl (by kernel_rfl) (by kernel_rfl) (Or.inl ⟨by rfl, ?_⟩) hSw ?_
      rotate_left
      · intro wx hSx
        (try dsimp only at hSx)
        go_split_ands
        go_simp
        (try with_reducible rfl)
      simp only [List.setIfInBounds_toArray, List.set_cons_zero, List.set_cons_succ]
      refine early_at 7 2 17 (fuel := 7) ?_ rfl rfl (by kernel_rfl) (by kernel_rfl) (by kernel_rfl) (by decide) rfl (by kernel_rfl) (by kernel_rfl) (Or.inl ⟨by rfl, ?_⟩) hSw ?_
      rotate_left
      · intro wx hSx
        (try dsimp only at hSx)
        go_split_ands
        go_simp
        (try with_reducible rfl)
      simp only [List.setIfInBounds_toArray, List.set_cons_zero, List.set_cons_succ]
      refine early_at 7 3 18 (fuel := 6) ?_ rfl rfl (by kernel_rfl) (by kernel_rfl) (by kernel_rfl) (by decide) rfl (by kernel_rfl) (by kernel_rfl) (Or.inl ⟨by rfl, ?_⟩) hSw ?_
      rotate_left
      · intro wx hSx
        (try dsimp only at hSx)
        go_split_ands
        go_simp
        (try with_reducible rfl)
      simp only [List.setIfInBounds_toArray, List.set_cons_zero, List.set_cons_succ]
      refine early_at 7 4 19 (fuel := 5) ?_ rfl rfl (by kernel_rfl) (by kernel_rfl) (by kernel_rfl) (by decide) rfl (by kernel_rfl) (by kernel_rfl) (Or.inl ⟨by rfl, ?_⟩) hSw ?_
      rotate_left
      · intro wx hSx
        (try dsimp only at hSx)
        go_split_ands
        go_simp
        (try with_reducible rfl)
      simp only [List.setIfInBounds_toArray, List.set_cons_zero, List.set_cons_succ]
      refine takeK_at 7 5 20 (fuel := 4) ?_ rfl rfl (by kernel_rfl) (by kernel_rfl) (by kernel_rfl) (by decide) (Or.inl ⟨by rfl, ?_⟩) hSw ?_
      rotate_left
      · intro wx _
        go_simp
        (try with_reducible rfl)
      simp only [List.setIfInBounds_toArray, List.set_cons_zero, List.set_cons_succ]
      refine early_at 7 6 21 (fuel := 3) ?_ rfl rfl (by kernel_rfl) (by kernel_rfl) (by kernel_rfl) (by decide) rfl (by kernel_rfl) (by kernel_rfl) (Or.inl ⟨by rfl, ?_⟩) hSw ?_
      rotate_left
      · intro wx hSx
        (try dsimp only at hSx)
        go_split_ands
        go_simp
        (try with_reducible rfl)
      simp only [List.setIfInBounds_toArray, List.set_cons_zero, List.set_cons_succ]
      have hrest := hv.rest
      have hpb : ∀ z, (Value.slice (if c' = 1 then some (⟨g, off, none⟩ : Addr) else some ⟨g, off + 9, none⟩) m'.length (c' - 1)).ownBlock = some z → z = g := by intro z hz; by_cases hc1 : c' = 1 <;> simp [hc1, Value.ownBlock] at hz <;> exact hz.symm
      have hpo : (Value.slice (if c' = 1 then some (⟨g, off, none⟩ : Addr) else some ⟨g, off + 9, none⟩) m'.length (c' - 1)).ownBlock = (Value.slice (some ⟨g, off, none⟩) (m'.length + 1) c').ownBlock := by by_cases hc1 : c' = 1 <;> simp [hc1, Value.ownBlock]
      generalize (if c' = 1 then some (⟨g, off, none⟩ : Addr) else some ⟨g, off + 9, none⟩) = pa at *
      refine Wirey.wpAnyK_one 7 (by kernel_rfl) rfl (fun K hK => ?_)
      go_simp
      refine hK.out _ _ trivial (fun h9 => absurd h9 (by decide)) ?_
      clear hK K
      simp only [List.setIfInBounds_toArray, List.set_cons_zero, List.set_cons_succ]
      have hx2 := hx.put 0 (.int .u64 ((B : Int) + 1))
      simp only [List.setIfInBounds_toArray, List.set_cons_zero] at hx2
      have hz2 := hz.far (p := ⟨w.heap.size, 0, none⟩) (by show w.heap.size + 1 ≠ w.heap.size; omega) (.int .u64 ((B : Int) + 1))
      have hgw : g ≠ w.heap.size := fun e => by have h0 : (Value.slice (some ⟨g, off, none⟩) m.length c').ownBlock = some g := rfl; rw [hown] at h0; have := h.lt g h0; omega
      have hv2 : Vw (wr.setCell ⟨w.heap.size, 0, none⟩ (.int .u64 ((B : Int) + 1))) Rc.enc 9 (.slice pa m'.length (c' - 1)) m' := hrest.stay (by simp [World.setCell]) fun z hz => Below.heap_setCell _ _ _ _ (by rw [hpb z hz]; exact hgw)
      have hb2 := hb1.setCell (p := ⟨w.heap.size, 0, none⟩) (Nat.le_refl _) (.int .u64 ((B : Int) + 1))
      have f1' := hx2.free 1
      have x1' := hx2.cell 1
      simp only [List.getElem?_toArray, List.getElem?_cons_zero, List.getElem?_cons_succ] at x1'
      refine Wirey.wpAnyK_one 8 (by kernel_rfl) rfl (fun K hK => ?_)
      go_simp
      refine hK.out _ _ trivial (fun h9 => absurd h9 (by decide)) ?_
      clear hK K
      simp only [List.setIfInBounds_toArray, List.set_cons_zero, List.set_cons_succ]
      have hx3 := hx2.put 1 (.slice pa m'.length (c' - 1))
      simp only [List.setIfInBounds_toArray, List.set_cons_zero, List.set_cons_succ] at hx3
      have hz3 := hz2.far (p := ⟨w.heap.size, 1, none⟩) (by show w.heap.size + 1 ≠ w.heap.size; omega) (.slice pa m'.length (c' - 1))
      have hv3 : Vw ((wr.setCell ⟨w.heap.size, 0, none⟩ (.int .u64 ((B : Int) + 1))).setCell ⟨w.heap.size, 1, none⟩ (.slice pa m'.length (c' - 1))) Rc.enc 9 (.slice pa m'.length (c' - 1)) m' := hv2.stay (by simp [World.setCell]) fun z hz => Below.heap_setCell _ _ _ _ (by rw [hpb z hz]; exact hgw)
      have hb3 := hb2.setCell (p := ⟨w.heap.size, 1, none⟩) (Nat.le_refl _) (.slice pa m'.length (c' - 1))
      refine Wirey.wpAnyK_one 9 (by kernel_rfl) rfl (fun K hK => ?_)
      go_simp
      refine hK.out _ _ trivial (fun h9 => absurd h9 (by decide)) ?_
      clear hK K
      simp only [List.setIfInBounds_toArray, List.set_cons_zero, List.set_cons_succ]
      refine Wirey.wpAnyK_done (by kernel_rfl) ⟨rfl, ?_⟩
      have e1 := hx3.cell 1
      simp only [List.getElem?_toArray, List.getElem?_cons_zero, List.getElem?_cons_succ] at e1
      have HX := Lib.hid hx3
      have HZ := Lib.hid hz3
      have HV := Lib.hid hv3
      have HB := Lib.hid hb3
      have E1 := Lib.hid e1
      have X1 := Lib.hid x1
      have HMX := Lib.hid hmx
      have HPO := Lib.hid hpo
      clear hx3 hz3 hv3 hb3 e1 hx2 hz2 hv2 hb2 hx hz hv hb1 hrest hSw V0
      go_wp2_with fail
      go_roundw
      case rel =>
        refine ⟨k + 1, .slice pa m'.length (c' - 1), ?_, ?_, HZ.out, ?_, ?_, HB.out.drew⟩
        · have h1 := HML.out; have h2 := HBk.out; rw [HMX.out, List.length_cons] at h1; unfold cutN at hk ⊢; omega
        · have h2 := HBk.out; have h3 : ((base + (k + 1) : Nat) : Int) = (B : Int) + 1 := by omega
          rw [h3]; exact HX.out
        · have h1 : l.drop (k + 1) = m' := by rw [← List.drop_drop, ← HM.out, HMX.out]; rfl
          rw [h1]; exact HV.out
        · rw [HPO.out, ← List.length_cons (a := x), ← HMX.out]; exact hown
      case measure =>
        have m1 := E1.out
        have m2 := X1.out
        show (match World.cell? _ ⟨w.heap.size, 1, none⟩ with | some (.slice _ n _) => n | _ => 0) < (match wr.cell? ⟨w.heap.size, 1, none⟩ with | some (.slice _ n _) => n | _ => 0)
        rw [m2]
        refine Nat.lt_of_le_of_lt (Nat.le_of_eq ?_) (Nat.lt_succ_self m'.length)
        exact congrArg (fun z => match z with | some (.slice _ n _) => n | _ => 0) m1
    · by_cases hl0 : 0 < m.length
      · have d1 : decide ((0 : Int) < (m.length : Int)) = true := decide_eq_true (by omega)
        have d2 : decide ((B : Int) < (at_ : Int)) = false := decide_eq_false (by omega)
        have hcut : cutN base at_ l = k := by unfold cutN at hk ⊢; omega
        have hvb : ∀ g, (Value.slice a' m.length c').ownBlock = some g → g ≠ w.heap.size + 1 := fun g hg e => by rw [hown] at hg; have := h.lt g hg; omega
        have hT := (((hz.put 0 (.int .u64 (B : Int))).put 1 (.slice a' m.length c')).put 2 (.int .i64 (most : Int)))
        simp only [List.setIfInBounds_toArray, List.set_cons_zero, List.set_cons_succ] at hT
        have hBB := (((hb1.setCell (p := ⟨w.heap.size + 1, 0, none⟩) (by show w.heap.size ≤ w.heap.size + 1; omega) (.int .u64 (B : Int))).setCell (p := ⟨w.heap.size + 1, 1, none⟩) (by show w.heap.size ≤ w.heap.size + 1; omega) (.slice a' m.length c')).setCell (p := ⟨w.heap.size + 1, 2, none⟩) (by show w.heap.size ≤ w.heap.size + 1; omega) (.int .i64 (most : Int)))
        have hVV : Vw (((wr.setCell ⟨w.heap.size + 1, 0, none⟩ (.int .u64 (B : Int))).setCell ⟨w.heap.size + 1, 1, none⟩ (.slice a' m.length c')).setCell ⟨w.heap.size + 1, 2, none⟩ (.int .i64 (most : Int))) Rc.enc 9 (.slice a' m.length c') m := hv.stay (by simp [World.setCell]) fun g hg => ((Below.heap_setCell _ _ _ _ (hvb g hg)).trans (Below.heap_setCell _ _ _ _ (hvb g hg))).trans (Below.heap_setCell _ _ _ _ (hvb g hg))
        have HT := Lib.hid hT
        have HB := Lib.hid hBB
        have HV := Lib.hid hVV
        have HC := Lib.hid hcut
        have HM := Lib.hid hm
        have HBk := Lib.hid hB
        clear hT hBB hVV hcut hx hz hv hb1 h hm hB hml hk hkl
        go_wp2_with fail
        refine bodyPost_ret (results_cell_row rfl _ _ (w.heap.size + 1) 30 #[.int .u64 (B : Int), .slice a' m.length c', .int .i64 (most : Int)] (0, 0) _ rfl HT.out Try.underlying30 rfl (by kernel_rfl)) rfl ⟨_, ?_, ?_, hown, HB.out⟩
        · rw [HC.out, ← HBk.out]
        · rw [HC.out, ← HM.out]; exact HV.out
      · have d1 : decide ((0 : Int) < (m.length : Int)) = false := decide_eq_false (by omega)
        have hcut : cutN base at_ l = k := by unfold cutN at hk ⊢; omega
        have hvb : ∀ g, (Value.slice a' m.length c').ownBlock = some g → g ≠ w.heap.size + 1 := fun g hg e => by rw [hown] at hg; have := h.lt g hg; omega
        have hT := (((hz.put 0 (.int .u64 (B : Int))).put 1 (.slice a' m.length c')).put 2 (.int .i64 (most : Int)))
        simp only [List.setIfInBounds_toArray, List.set_cons_zero, List.set_cons_succ] at hT
        have hBB := (((hb1.setCell (p := ⟨w.heap.size + 1, 0, none⟩) (by show w.heap.size ≤ w.heap.size + 1; omega) (.int .u64 (B : Int))).setCell (p := ⟨w.heap.size + 1, 1, none⟩) (by show w.heap.size ≤ w.heap.size + 1; omega) (.slice a' m.length c')).setCell (p := ⟨w.heap.size + 1, 2, none⟩) (by show w.heap.size ≤ w.heap.size + 1; omega) (.int .i64 (most : Int)))
        have hVV : Vw (((wr.setCell ⟨w.heap.size + 1, 0, none⟩ (.int .u64 (B : Int))).setCell ⟨w.heap.size + 1, 1, none⟩ (.slice a' m.length c')).setCell ⟨w.heap.size + 1, 2, none⟩ (.int .i64 (most : Int))) Rc.enc 9 (.slice a' m.length c') m := hv.stay (by simp [World.setCell]) fun g hg => ((Below.heap_setCell _ _ _ _ (hvb g hg)).trans (Below.heap_setCell _ _ _ _ (hvb g hg))).trans (Below.heap_setCell _ _ _ _ (hvb g hg))
        have HT := Lib.hid hT
        have HB := Lib.hid hBB
        have HV := Lib.hid hVV
        have HC := Lib.hid hcut
        have HM := Lib.hid hm
        have HBk := Lib.hid hB
        clear hT hBB hVV hcut hx hz hv hb1 h hm hB hml hk hkl
        go_wp2_with fail
        refine bodyPost_ret (results_cell_row rfl _ _ (w.heap.size + 1) 30 #[.int .u64 (B : Int), .slice a' m.length c', .int .i64 (most : Int)] (0, 0) _ rfl HT.out Try.underlying30 rfl (by kernel_rfl)) rfl ⟨_, ?_, ?_, hown, HB.out⟩
        · rw [HC.out, ← HBk.out]
        · rw [HC.out, ← HM.out]; exact HV.out
end Go.Proofs.Ytajpmlmacnomfaa.Logy
