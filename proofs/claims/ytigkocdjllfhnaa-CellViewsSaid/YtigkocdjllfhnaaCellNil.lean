/- Layer 16: what is told of no cell; the view that is chosen; the law's first view. No condition. -/
import Derived.Test.YtigkocdjllfhnaaCellOps
namespace Go.Proofs.Ytigkocdjllfhnaa.Celly
open Go.ChangeShapes Go.WideShapes Go.ChangeAt Go.RowKit
open Wirey (Blk Row Kp)
open Regy
section
variable {w w' : World} {b : Nat} {c : Ce} {x : Vw}
set_option maxHeartbeats 1000000 in
set_option maxRecDepth 100000 in
theorem chosen_c (h : Blk w b CT c.cs) (hne : c.ch ≠ noV) : Calls Try.prog 19 #[cp b] w fun e w' => e = .returned (.agg c.ch.cs) ∧ Below w.heap.size w w' := by
  have hR := Blk.new w VT #[.int .u64 0, .int .i64 0, .int .u64 0, .int .i64 0, .int .u64 0, .int .u64 0]
  have hb := (Below.refl _ w).alloc (Nat.le_refl _) (.cells #[.int .u64 0, .int .i64 0, .int .u64 0, .int .i64 0, .int .u64 0, .int .u64 0] VT)
  have hc := h.alloc (.cells #[.int .u64 0, .int .i64 0, .int .u64 0, .int .i64 0, .int .u64 0, .int .u64 0] VT)
  clear h
  go_enter Try.func19, Try.ntmps19
  go_upto_region 1 with (fail)
  generalize w.alloc (.cells _ VT) = w1 at *
  generalize hq : w.heap.size = q at hR ⊢
  have hM := made_c (c := c) hc hne
  go_wp2_with fail
  refine hM.mono ?_
  rintro e w2 ⟨rfl, rfl⟩
  have c0 : w1.cell? ⟨b, 0, none⟩ = some (.int .u64 (c.ch.v : Int)) := hc.cell 0
  have c1 : w1.cell? ⟨b, 1, none⟩ = some (.int .i64 c.ch.pr) := hc.cell 1
  have c2 : w1.cell? ⟨b, 2, none⟩ = some (.int .u64 (c.ch.pl : Int)) := hc.cell 2
  have c3 : w1.cell? ⟨b, 3, none⟩ = some (.int .i64 c.ch.ba) := hc.cell 3
  have c4 : w1.cell? ⟨b, 4, none⟩ = some (.int .u64 (c.ch.bl : Int)) := hc.cell 4
  have c5 : w1.cell? ⟨b, 5, none⟩ = some (.int .u64 (c.ch.ep : Int)) := hc.cell 5
  have hR3 : Blk (w1.setRow q c.ch.cs) q VT c.ch.cs := setRow_heap w1 q _ _ _ (0, 0) hR
  have hb3 : Below w.heap.size w (w1.setRow q c.ch.cs) := row_below hb (by omega) _
  have hst : (storeVar VT ⟨q, 0, none⟩ (.agg c.ch.cs)).run Try.prog w1 = .ok () (w1.setRow q c.ch.cs) := store_row info_VT hR rfl (all_one (Vw.one _))
  have HB := Lib.hid hb3
  clear hM hR hb hb3
  go_wp2_with (refine step_store VT (.tmp 2) (.tmp 10) ⟨q, 0, none⟩ (.agg c.ch.cs) rfl rfl rfl rfl rfl hst ?_)
  refine bodyPost_ret (results_cell_row rfl _ _ q VT _ _ _ rfl hR3 Try.underlying25 rfl (by kernel_rfl)) rfl ⟨rfl, HB.out⟩
theorem chosen_nil (w : World) : Calls Try.prog 19 #[nilC] w fun e w' => e = .returned (.agg #[.int .u64 0, .int .i64 0, .int .u64 0, .int .i64 0, .int .u64 0, .int .u64 0]) ∧ Below w.heap.size w w' := by
  have hR := Blk.new w VT #[.int .u64 0, .int .i64 0, .int .u64 0, .int .i64 0, .int .u64 0, .int .u64 0]
  have hb := (Below.refl _ w).alloc (Nat.le_refl _) (.cells #[.int .u64 0, .int .i64 0, .int .u64 0, .int .i64 0, .int .u64 0, .int .u64 0] VT)
  go_enter Try.func19, Try.ntmps19
  go_upto_region 1 with (fail)
  generalize w.alloc (.cells _ VT) = w1 at *
  generalize hq : w.heap.size = q at hR ⊢
  go_wp2_with fail
  refine (made_nil _).mono ?_
  rintro e w2 ⟨rfl, rfl⟩
  have hR3 : Blk (w1.setRow q #[.int .u64 0, .int .i64 0, .int .u64 0, .int .i64 0, .int .u64 0, .int .u64 0]) q VT #[.int .u64 0, .int .i64 0, .int .u64 0, .int .i64 0, .int .u64 0, .int .u64 0] := setRow_heap w1 q _ _ _ (0, 0) hR
  have hb3 : Below w.heap.size w (w1.setRow q #[.int .u64 0, .int .i64 0, .int .u64 0, .int .i64 0, .int .u64 0, .int .u64 0]) := row_below hb (by omega) _
  have hst : (storeVar VT ⟨q, 0, none⟩ (.agg #[.int .u64 0, .int .i64 0, .int .u64 0, .int .i64 0, .int .u64 0, .int .u64 0])).run Try.prog w1 = .ok () (w1.setRow q #[.int .u64 0, .int .i64 0, .int .u64 0, .int .i64 0, .int .u64 0, .int .u64 0]) := store_row info_VT hR rfl (all_one (Vw.one noV))
  have HB := Lib.hid hb3
  clear hR hb hb3
  go_wp2_with (refine step_store VT (.tmp 2) (.tmp 6) ⟨q, 0, none⟩ (.agg #[.int .u64 0, .int .i64 0, .int .u64 0, .int .i64 0, .int .u64 0, .int .u64 0]) rfl rfl rfl rfl rfl hst ?_)
  refine bodyPost_ret (results_cell_row rfl _ _ q VT _ _ _ rfl hR3 Try.underlying25 rfl (by kernel_rfl)) rfl ⟨rfl, HB.out⟩
theorem export_nil (w : World) : Calls Try.prog 21 #[nilC] w fun e w' => e = .returned (.string ⟨#[]⟩) ∧ Below w.heap.size w w' := by
  go_enter Try.func21, Try.ntmps21
  go_wp2_with fail
  refine (made_nil _).mono ?_
  rintro e w2 ⟨rfl, rfl⟩
  go_wp2_with fail
  go_ret
  exact ⟨rfl, Below.refl _ _⟩
set_option maxHeartbeats 1000000 in
set_option maxRecDepth 100000 in
theorem prep_nil (x : Vw) (n : Nat) (w : World) : Calls Try.prog 10 #[nilC, .agg x.cs, .int .u64 (n : Int)] w fun e w' => e = .returned (.agg zP) ∧ Below w.heap.size w w' := by
  have hR := Blk.new (w.alloc (.cells x.cs VT)) PT zP
  have hb := ((Below.refl _ w).alloc (Nat.le_refl _) (.cells x.cs VT)).alloc (by simp) (.cells zP PT)
  have e1 : (w.alloc (.cells x.cs VT)).heap.size = w.heap.size + 1 := by simp
  rw [e1] at hR
  clear e1
  go_enter Try.func10, Try.ntmps10
  go_upto_region 1 with (fail)
  generalize (w.alloc (.cells _ VT)).alloc (.cells _ PT) = w1 at *
  generalize hq : w.heap.size = q at hR ⊢
  go_wp2_with fail
  refine (made_nil _).mono ?_
  rintro e w2 ⟨rfl, rfl⟩
  have hR3 : Blk (w1.setRow (q + 1) zP) (q + 1) PT zP := setRow_heap w1 (q + 1) _ _ _ (0, 0) hR
  have hb3 : Below w.heap.size w (w1.setRow (q + 1) zP) := row_below hb (by omega) _
  have hst : (storeVar PT ⟨q + 1, 0, none⟩ (.agg zP)).run Try.prog w1 = .ok () (w1.setRow (q + 1) zP) := store_row info_PT hR rfl (by decide +kernel)
  have HB := Lib.hid hb3
  clear hR hb hb3
  go_wp2_with (refine step_store PT (.tmp 6) (.tmp 11) ⟨q + 1, 0, none⟩ (.agg zP) rfl rfl rfl rfl rfl hst ?_)
  refine bodyPost_ret (results_cell_row rfl _ _ (q + 1) PT _ _ _ rfl hR3 Try.underlying33 rfl (by kernel_rfl)) rfl ⟨rfl, HB.out⟩
set_option maxHeartbeats 1000000 in
set_option maxRecDepth 100000 in
theorem acc_nil (x : Vw) (n : Nat) (w : World) : Calls Try.prog 11 #[nilC, .agg x.cs, .int .u64 (n : Int)] w fun e w' => e = .returned (.agg zP) ∧ Below w.heap.size w w' := by
  have hR := Blk.new (w.alloc (.cells x.cs VT)) PT zP
  have hb := ((Below.refl _ w).alloc (Nat.le_refl _) (.cells x.cs VT)).alloc (by simp) (.cells zP PT)
  have e1 : (w.alloc (.cells x.cs VT)).heap.size = w.heap.size + 1 := by simp
  rw [e1] at hR
  clear e1
  go_enter Try.func11, Try.ntmps11
  go_upto_region 1 with (fail)
  generalize (w.alloc (.cells _ VT)).alloc (.cells _ PT) = w1 at *
  generalize hq : w.heap.size = q at hR ⊢
  go_wp2_with fail
  refine (made_nil _).mono ?_
  rintro e w2 ⟨rfl, rfl⟩
  have hR3 : Blk (w1.setRow (q + 1) zP) (q + 1) PT zP := setRow_heap w1 (q + 1) _ _ _ (0, 0) hR
  have hb3 : Below w.heap.size w (w1.setRow (q + 1) zP) := row_below hb (by omega) _
  have hst : (storeVar PT ⟨q + 1, 0, none⟩ (.agg zP)).run Try.prog w1 = .ok () (w1.setRow (q + 1) zP) := store_row info_PT hR rfl (by decide +kernel)
  have HB := Lib.hid hb3
  clear hR hb hb3
  go_wp2_with (refine step_store PT (.tmp 6) (.tmp 11) ⟨q + 1, 0, none⟩ (.agg zP) rfl rfl rfl rfl rfl hst ?_)
  refine bodyPost_ret (results_cell_row rfl _ _ (q + 1) PT _ _ _ rfl hR3 Try.underlying33 rfl (by kernel_rfl)) rfl ⟨rfl, HB.out⟩
set_option maxHeartbeats 1000000 in
set_option maxRecDepth 100000 in
theorem learn_nil (x : Vw) (w : World) : Calls Try.prog 20 #[nilC, .agg x.cs] w fun e w' => e = .returned (.bool false) ∧ Below w.heap.size w w' := by
  have hX := Blk.new w VT x.cs
  have hb := (Below.refl _ w).alloc (Nat.le_refl _) (.cells x.cs VT)
  go_enter Try.func20, Try.ntmps20
  go_upto_region 1 with (fail)
  generalize w.alloc (.cells _ VT) = w1 at *
  refine region_only 18 #[false, false, false, false, false, false, false, false, false, false, false, false, false, false, false, false, false, false] (S := (fun _ => True)) rfl rfl (by kernel_rfl) trivial (fun hSw => ?_)
  refine take_at 0 5 (fuel := 17) ?_ rfl rfl (by kernel_rfl) (by kernel_rfl) (by kernel_rfl) (Or.inl ⟨by rfl, ?_⟩) hSw ?_
  rotate_left
  · intro wx hSx
    (try dsimp only at hSx)
    go_split_ands
    go_simp
    (try with_reducible rfl)
  simp only [List.setIfInBounds_toArray, List.set_cons_zero, List.set_cons_succ]
  refine wpAnyH_ready (fuel := 16) (rs := [1]) (by kernel_rfl) (by simp) (AllReadyH.cons rfl (fun K hK => ?_) AllReadyH.nil)
  go_simp
  refine Calls.mono (made_nil _) ?_
  rintro e wv ⟨rfl, rfl⟩
  refine hK.out _ _ trivial (fun hSw => ?_)
  clear hK K
  simp only [List.setIfInBounds_toArray, List.set_cons_zero, List.set_cons_succ]
  refine take_at 2 7 (fuel := 15) ?_ rfl rfl (by kernel_rfl) (by kernel_rfl) (by kernel_rfl) (Or.inl ⟨by rfl, ?_⟩) hSw ?_
  rotate_left
  · intro wx hSx
    (try dsimp only at hSx)
    go_split_ands
    go_simp
    (try with_reducible rfl)
  simp only [List.setIfInBounds_toArray, List.set_cons_zero, List.set_cons_succ]
  refine take_at 3 8 (fuel := 14) ?_ rfl rfl (by kernel_rfl) (by kernel_rfl) (by kernel_rfl) (Or.inl ⟨by rfl, ?_⟩) hSw ?_
  rotate_left
  · intro wx hSx
    (try dsimp only at hSx)
    go_split_ands
    go_simp
    (try with_reducible rfl)
  simp only [List.setIfInBounds_toArray, List.set_cons_zero, List.set_cons_succ]
  refine take_at 4 9 undef (fuel := 13) rfl rfl (by kernel_rfl) (by kernel_rfl) (by kernel_rfl) (Or.inr ⟨by rfl, rfl⟩) hSw ?_
  simp only [List.setIfInBounds_toArray, List.set_cons_zero, List.set_cons_succ]
  refine take_at 5 10 undef (fuel := 12) rfl rfl (by kernel_rfl) (by kernel_rfl) (by kernel_rfl) (Or.inr ⟨by rfl, rfl⟩) hSw ?_
  simp only [List.setIfInBounds_toArray, List.set_cons_zero, List.set_cons_succ]
  refine take_at 6 11 undef (fuel := 11) rfl rfl (by kernel_rfl) (by kernel_rfl) (by kernel_rfl) (Or.inr ⟨by rfl, rfl⟩) hSw ?_
  simp only [List.setIfInBounds_toArray, List.set_cons_zero, List.set_cons_succ]
  refine take_at 7 12 (fuel := 10) ?_ rfl rfl (by kernel_rfl) (by kernel_rfl) (by kernel_rfl) (Or.inl ⟨by rfl, ?_⟩) hSw ?_
  rotate_left
  · intro wx hSx
    (try dsimp only at hSx)
    go_split_ands
    go_simp
    (try with_reducible rfl)
  simp only [List.setIfInBounds_toArray, List.set_cons_zero, List.set_cons_succ]
  refine take_at 8 13 (fuel := 9) ?_ rfl rfl (by kernel_rfl) (by kernel_rfl) (by kernel_rfl) (Or.inl ⟨by rfl, ?_⟩) hSw ?_
  rotate_left
  · intro wx hSx
    (try dsimp only at hSx)
    go_split_ands
    go_simp
    (try with_reducible rfl)
  simp only [List.setIfInBounds_toArray, List.set_cons_zero, List.set_cons_succ]
  refine take_at 9 14 undef (fuel := 8) rfl rfl (by kernel_rfl) (by kernel_rfl) (by kernel_rfl) (Or.inr ⟨by rfl, rfl⟩) hSw ?_
  simp only [List.setIfInBounds_toArray, List.set_cons_zero, List.set_cons_succ]
  refine take_at 10 15 undef (fuel := 7) rfl rfl (by kernel_rfl) (by kernel_rfl) (by kernel_rfl) (Or.inr ⟨by rfl, rfl⟩) hSw ?_
  simp only [List.setIfInBounds_toArray, List.set_cons_zero, List.set_cons_succ]
  refine take_at 11 16 undef (fuel := 6) rfl rfl (by kernel_rfl) (by kernel_rfl) (by kernel_rfl) (Or.inr ⟨by rfl, rfl⟩) hSw ?_
  simp only [List.setIfInBounds_toArray, List.set_cons_zero, List.set_cons_succ]
  refine take_at 12 17 undef (fuel := 5) rfl rfl (by kernel_rfl) (by kernel_rfl) (by kernel_rfl) (Or.inr ⟨by rfl, rfl⟩) hSw ?_
  simp only [List.setIfInBounds_toArray, List.set_cons_zero, List.set_cons_succ]
  refine take_at 13 18 undef (fuel := 4) rfl rfl (by kernel_rfl) (by kernel_rfl) (by kernel_rfl) (Or.inr ⟨by rfl, rfl⟩) hSw ?_
  simp only [List.setIfInBounds_toArray, List.set_cons_zero, List.set_cons_succ]
  refine take_at 14 19 undef (fuel := 3) rfl rfl (by kernel_rfl) (by kernel_rfl) (by kernel_rfl) (Or.inr ⟨by rfl, rfl⟩) hSw ?_
  simp only [List.setIfInBounds_toArray, List.set_cons_zero, List.set_cons_succ]
  refine take_at 15 20 undef (fuel := 2) rfl rfl (by kernel_rfl) (by kernel_rfl) (by kernel_rfl) (Or.inr ⟨by rfl, rfl⟩) hSw ?_
  simp only [List.setIfInBounds_toArray, List.set_cons_zero, List.set_cons_succ]
  refine take_at 16 21 undef (fuel := 1) rfl rfl (by kernel_rfl) (by kernel_rfl) (by kernel_rfl) (Or.inr ⟨by rfl, rfl⟩) hSw ?_
  simp only [List.setIfInBounds_toArray, List.set_cons_zero, List.set_cons_succ]
  refine take_at 17 22 (fuel := 0) ?_ rfl rfl (by kernel_rfl) (by kernel_rfl) (by kernel_rfl) (Or.inl ⟨by rfl, ?_⟩) hSw ?_
  rotate_left
  · intro wx hSx
    (try dsimp only at hSx)
    go_split_ands
    go_simp
    (try with_reducible rfl)
  simp only [List.setIfInBounds_toArray, List.set_cons_zero, List.set_cons_succ]
  refine wpAnyH_done (by kernel_rfl) ⟨rfl, ?_⟩ 0
  have hb2 := hb.drew
  clear hX hb
  go_wp2_with fail
  go_ret
  exact ⟨rfl, hb2⟩
theorem first_c (w : World) : Calls Try.prog 8 #[] w fun e w' => e = .returned (.agg firstV.cs) ∧ Below w.heap.size w w' := by
  have hR := Blk.new w VT #[.int .u64 0, .int .i64 0, .int .u64 0, .int .i64 0, .int .u64 0, .int .u64 0]
  have hb := (Below.refl _ w).alloc (Nat.le_refl _) (.cells #[.int .u64 0, .int .i64 0, .int .u64 0, .int .i64 0, .int .u64 0, .int .u64 0] VT)
  go_enter Try.func8, Try.ntmps8
  go_upto_region 1 with (fail)
  generalize w.alloc (.cells _ VT) = w1 at *
  generalize hq : w.heap.size = q at hR ⊢
  have hR3 : Blk (w1.setRow q #[.int .u64 1, .int .i64 0, .int .u64 1, .int .i64 (-1), .int .u64 0, .int .u64 1]) q VT #[.int .u64 1, .int .i64 0, .int .u64 1, .int .i64 (-1), .int .u64 0, .int .u64 1] := setRow_heap w1 q _ _ _ (0, 0) hR
  have hb3 : Below w.heap.size w (w1.setRow q #[.int .u64 1, .int .i64 0, .int .u64 1, .int .i64 (-1), .int .u64 0, .int .u64 1]) := row_below hb (by omega) _
  have hst : (storeVar VT ⟨q, 0, none⟩ (.agg #[.int .u64 1, .int .i64 0, .int .u64 1, .int .i64 (-1), .int .u64 0, .int .u64 1])).run Try.prog w1 = .ok () (w1.setRow q #[.int .u64 1, .int .i64 0, .int .u64 1, .int .i64 (-1), .int .u64 0, .int .u64 1]) := store_row info_VT hR rfl (all_one (Vw.one firstV))
  have HB := Lib.hid hb3
  clear hR hb hb3
  go_wp2_with (refine step_store VT (.tmp 0) (.tmp 1) ⟨q, 0, none⟩ (.agg #[.int .u64 1, .int .i64 0, .int .u64 1, .int .i64 (-1), .int .u64 0, .int .u64 1]) rfl rfl rfl rfl rfl hst ?_)
  refine bodyPost_ret (results_cell_row rfl _ _ q VT _ _ _ rfl hR3 Try.underlying25 rfl (by kernel_rfl)) rfl ⟨rfl, HB.out⟩
end
end Go.Proofs.Ytigkocdjllfhnaa.Celly
