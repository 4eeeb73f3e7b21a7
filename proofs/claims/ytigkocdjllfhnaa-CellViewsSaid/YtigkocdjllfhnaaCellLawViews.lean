/- Layer 16 (cell): for every input the call returns true and leaves what it was given as it was: which views may be; each, and the empty one, has the document's bytes, and is read again (CellViews). No condition. -/
import Derived.Test.YtigkocdjllfhnaaCellAwake
import Derived.Test.YtigkocdjllfhnaaCellOpen
import Derived.Test.YtigkocdjllfhnaaCellTake
import Derived.Test.YtigkocdjllfhnaaKit
import Derived.Test.YtigkocdjllfhnaaRows
namespace Go.Proofs.Ytigkocdjllfhnaa.Celly
open Go.ChangeShapes Go.WideShapes Go.ChangeAt Go.RowKit
open Wirey (Blk Row Kp str str_size str_list str_cat enc enc_len RS)
open Regy
theorem enters : ∀ (args : Array Value) (w : World), (callFunc 16 args).run Try.prog w = .ok (.enter 16 args) w := fun _ _ => by kernel_rfl
set_option maxHeartbeats 8000000 in
set_option maxRecDepth 100000 in
theorem cellViews_walk (x : Vw) (hx : x.Big) (w : World) :
    Calls Try.prog 4 #[.agg x.cs] w fun e w' => e = .returned (.bool true) ∧ Below w.heap.size w w' := by
  by_cases hm : May x
  · have hne : x ≠ noV := by rintro rfl; exact hm.1 rfl
    obtain ⟨v, a, l, k, b, t, rfl, hv0, ha, hk⟩ := may_vw hm
    have hv : v < 18446744073709551616 := hx.v
    have hl : l < 18446744073709551616 := hx.pl
    have hbb : b < 18446744073709551616 := hx.bl
    have ht : t < 18446744073709551616 := hx.ep
    have d : decide (May (vw v a l k b t)) = true := decide_eq_true hm
    clear hx hv0
    show Calls Try.prog 4 #[.agg #[.int .u64 (v : Int), .int .i64 (a : Int), .int .u64 (l : Int), .int .i64 ((k : Int) - 1), .int .u64 (b : Int), .int .u64 (t : Int)]] w _
    have hX := Blk.new w VT #[.int .u64 (v : Int), .int .i64 (a : Int), .int .u64 (l : Int), .int .i64 ((k : Int) - 1), .int .u64 (b : Int), .int .u64 (t : Int)]
    have hb := (Below.refl _ w).alloc (Nat.le_refl _) (.cells #[.int .u64 (v : Int), .int .i64 (a : Int), .int .u64 (l : Int), .int .i64 ((k : Int) - 1), .int .u64 (b : Int), .int .u64 (t : Int)] VT)
    go_enter Try.func4, Try.ntmps4
    go_upto_region 1 with (fail)
    generalize w.alloc (.cells _ VT) = w1 at *
    generalize hq : w.heap.size = q at hX ⊢
    have x0 : w1.cell? ⟨q, 0, none⟩ = some (.int .u64 (v : Int)) := hX.cell 0
    have x1 : w1.cell? ⟨q, 1, none⟩ = some (.int .i64 (a : Int)) := hX.cell 1
    have x2 : w1.cell? ⟨q, 2, none⟩ = some (.int .u64 (l : Int)) := hX.cell 2
    have x3 : w1.cell? ⟨q, 3, none⟩ = some (.int .i64 ((k : Int) - 1)) := hX.cell 3
    have x4 : w1.cell? ⟨q, 4, none⟩ = some (.int .u64 (b : Int)) := hX.cell 4
    have x5 : w1.cell? ⟨q, 5, none⟩ = some (.int .u64 (t : Int)) := hX.cell 5
    have mk : ∀ W, Below w1.heap.size w1.drew W → W.cell? ⟨q, 0, none⟩ = some (.int .u64 (v : Int)) ∧ W.cell? ⟨q, 1, none⟩ = some (.int .i64 (a : Int)) ∧ W.cell? ⟨q, 2, none⟩ = some (.int .u64 (l : Int)) ∧ W.cell? ⟨q, 3, none⟩ = some (.int .i64 ((k : Int) - 1)) ∧ W.cell? ⟨q, 4, none⟩ = some (.int .u64 (b : Int)) ∧ W.cell? ⟨q, 5, none⟩ = some (.int .u64 (t : Int)) := fun W hb => by
      have h0 : Blk w1.drew q VT #[.int .u64 (v : Int), .int .i64 (a : Int), .int .u64 (l : Int), .int .i64 ((k : Int) - 1), .int .u64 (b : Int), .int .u64 (t : Int)] := hX
      have h1 := h0.below hb hX.lt
      exact ⟨h1.cell 0, h1.cell 1, h1.cell 2, h1.cell 3, h1.cell 4, h1.cell 5⟩
    have hB0 : Below w1.heap.size w1.drew w1.drew := Below.refl _ _
    refine region_only 9 #[false, false, false, false, false, false, false, false, false] (S := (fun W => W.cell? ⟨q, 0, none⟩ = some (.int .u64 (v : Int)) ∧ W.cell? ⟨q, 1, none⟩ = some (.int .i64 (a : Int)) ∧ W.cell? ⟨q, 2, none⟩ = some (.int .u64 (l : Int)) ∧ W.cell? ⟨q, 3, none⟩ = some (.int .i64 ((k : Int) - 1)) ∧ W.cell? ⟨q, 4, none⟩ = some (.int .u64 (b : Int)) ∧ W.cell? ⟨q, 5, none⟩ = some (.int .u64 (t : Int)))) rfl rfl (by kernel_rfl) ⟨x0, x1, x2, x3, x4, x5⟩ (fun hSw => ?_)
    refine wpAnyH_ready (fuel := 8) (rs := [0]) (by kernel_rfl) (by simp) (AllReadyH.cons rfl (fun K hK => ?_) AllReadyH.nil)
    go_simp
    refine Calls.mono (awake_c _) ?_
    rintro e u0 ⟨rfl, hn0⟩
    have hB1 := hB0.trans (hn0.mono hB0.size)
    refine hK.out _ _ (mk _ hB1) (fun hSw => ?_)
    clear hK K
    simp only [List.setIfInBounds_toArray, List.set_cons_zero]
    refine take_at 1 6 (fuel := 7) ?_ rfl rfl (by kernel_rfl) (by kernel_rfl) (by kernel_rfl) (Or.inl ⟨by rfl, ?_⟩) hSw ?_
    rotate_left
    · intro wx hSx
      (try dsimp only at hSx)
      go_split_ands
      go_simp
      (try with_reducible rfl)
    simp only [List.setIfInBounds_toArray, List.set_cons_zero, List.set_cons_succ]
    refine take_at 2 7 (fuel := 6) ?_ rfl rfl (by kernel_rfl) (by kernel_rfl) (by kernel_rfl) (Or.inl ⟨by rfl, ?_⟩) hSw ?_
    rotate_left
    · intro wx hSx
      (try dsimp only at hSx)
      go_split_ands
      go_simp
      (try with_reducible rfl)
    simp only [List.setIfInBounds_toArray, List.set_cons_zero, List.set_cons_succ]
    refine take_at 3 8 (fuel := 5) ?_ rfl rfl (by kernel_rfl) (by kernel_rfl) (by kernel_rfl) (Or.inl ⟨by rfl, ?_⟩) hSw ?_
    rotate_left
    · intro wx hSx
      (try dsimp only at hSx)
      go_split_ands
      go_simp
      (try with_reducible rfl)
    simp only [List.setIfInBounds_toArray, List.set_cons_zero, List.set_cons_succ]
    refine take_at 5 10 (fuel := 4) ?_ rfl rfl (by kernel_rfl) (by kernel_rfl) (by kernel_rfl) (Or.inl ⟨by rfl, ?_⟩) hSw ?_
    rotate_left
    · intro wx hSx
      (try dsimp only at hSx)
      go_split_ands
      go_simp
      (try with_reducible rfl)
    simp only [List.setIfInBounds_toArray, List.set_cons_zero, List.set_cons_succ]
    refine wpAnyH_ready (fuel := 3) (rs := [4]) (by kernel_rfl) (by simp) (AllReadyH.cons rfl (fun K hK => ?_) AllReadyH.nil)
    go_simp
    refine Calls.mono (check_c (vw v a l k b t) _) ?_
    rintro e u1 ⟨rfl, hn1⟩
    rw [d]
    have hB2 := hB1.trans (hn1.mono hB1.size)
    refine hK.out _ _ (mk _ hB2) (fun hSw => ?_)
    clear hK K
    simp only [List.setIfInBounds_toArray, List.set_cons_zero, List.set_cons_succ]
    refine wpAnyH_ready (fuel := 2) (rs := [6]) (by kernel_rfl) (by simp) (AllReadyH.cons rfl (fun K hK => ?_) AllReadyH.nil)
    go_simp
    refine Calls.mono (dcheck_c (vw v a l k b t) _) ?_
    rintro e u2 ⟨rfl, hn2⟩
    rw [d]
    have hB3 := hB2.trans (hn2.mono hB2.size)
    refine hK.out _ _ (mk _ hB3) (fun hSw => ?_)
    clear hK K
    simp only [List.setIfInBounds_toArray, List.set_cons_zero, List.set_cons_succ]
    refine take_at 7 12 (fuel := 1) ?_ rfl rfl (by kernel_rfl) (by kernel_rfl) (by kernel_rfl) (Or.inl ⟨by rfl, ?_⟩) hSw ?_
    rotate_left
    · intro wx hSx
      (try dsimp only at hSx)
      go_split_ands
      go_simp
      (try with_reducible rfl)
    simp only [List.setIfInBounds_toArray, List.set_cons_zero, List.set_cons_succ]
    refine take_at 8 13 (fuel := 0) ?_ rfl rfl (by kernel_rfl) (by kernel_rfl) (by kernel_rfl) (Or.inl ⟨by rfl, ?_⟩) hSw ?_
    rotate_left
    · intro wx hSx
      (try dsimp only at hSx)
      go_split_ands
      go_simp
      (try with_reducible rfl)
    simp only [List.setIfInBounds_toArray, List.set_cons_zero, List.set_cons_succ]
    refine wpAnyH_done (by kernel_rfl) ⟨rfl, ?_⟩ 0
    have hX3 : Blk u2 q VT #[.int .u64 (v : Int), .int .i64 (a : Int), .int .u64 (l : Int), .int .i64 ((k : Int) - 1), .int .u64 (b : Int), .int .u64 (t : Int)] := Blk.below (show Blk w1.drew q VT #[.int .u64 (v : Int), .int .i64 (a : Int), .int .u64 (l : Int), .int .i64 ((k : Int) - 1), .int .u64 (b : Int), .int .u64 (t : Int)] from hX) hB3 hX.lt
    have hb3 := hb.drew.trans (hB3.mono hb.drew.size)
    clear hSw mk x0 x1 x2 x3 x4 x5 hn0 hn1 hn2 hB0 hB1 hB2 hB3 hX hb
    have x0 : u2.cell? ⟨q, 0, none⟩ = some (.int .u64 (v : Int)) := hX3.cell 0
    have x1 : u2.cell? ⟨q, 1, none⟩ = some (.int .i64 (a : Int)) := hX3.cell 1
    have x2 : u2.cell? ⟨q, 2, none⟩ = some (.int .u64 (l : Int)) := hX3.cell 2
    have x3 : u2.cell? ⟨q, 3, none⟩ = some (.int .i64 ((k : Int) - 1)) := hX3.cell 3
    have x4 : u2.cell? ⟨q, 4, none⟩ = some (.int .u64 (b : Int)) := hX3.cell 4
    have x5 : u2.cell? ⟨q, 5, none⟩ = some (.int .u64 (t : Int)) := hX3.cell 5
    go_wp2_with fail
    refine (check_c (vw v a l k b t) _).mono ?_
    rintro e u3 ⟨rfl, hbn⟩
    rw [d]
    replace hX3 := hX3.below hbn hX3.lt
    replace hb3 := hb3.trans (hbn.mono hb3.size)
    clear x0 x1 x2 x3 x4 x5 hbn
    have x0 : u3.cell? ⟨q, 0, none⟩ = some (.int .u64 (v : Int)) := hX3.cell 0
    have x1 : u3.cell? ⟨q, 1, none⟩ = some (.int .i64 (a : Int)) := hX3.cell 1
    have x2 : u3.cell? ⟨q, 2, none⟩ = some (.int .u64 (l : Int)) := hX3.cell 2
    have x3 : u3.cell? ⟨q, 3, none⟩ = some (.int .i64 ((k : Int) - 1)) := hX3.cell 3
    have x4 : u3.cell? ⟨q, 4, none⟩ = some (.int .u64 (b : Int)) := hX3.cell 4
    have x5 : u3.cell? ⟨q, 5, none⟩ = some (.int .u64 (t : Int)) := hX3.cell 5
    go_upto_region 6 with (fail)
    have hqu := hX3.lt
    have hW : Blk (u3.alloc (.cells #[.int .u64 9, .int .i64 0, .int .u64 0, .int .i64 0, .int .u64 0, .int .u64 0] VT)) u3.heap.size VT #[.int .u64 9, .int .i64 0, .int .u64 0, .int .i64 0, .int .u64 0, .int .u64 0] := Blk.new u3 VT _
    have hX4 := hX3.alloc (.cells #[.int .u64 9, .int .i64 0, .int .u64 0, .int .i64 0, .int .u64 0, .int .u64 0] VT)
    have hb4 := hb3.alloc hb3.size (.cells #[.int .u64 9, .int .i64 0, .int .u64 0, .int .i64 0, .int .u64 0, .int .u64 0] VT)
    clear x0 x1 x2 x3 x4 x5
    generalize u3.alloc (.cells _ VT) = w4 at *
    generalize u3.heap.size = g at *
    have x0 : w4.cell? ⟨q, 0, none⟩ = some (.int .u64 (v : Int)) := hX4.cell 0
    have x1 : w4.cell? ⟨q, 1, none⟩ = some (.int .i64 (a : Int)) := hX4.cell 1
    have x2 : w4.cell? ⟨q, 2, none⟩ = some (.int .u64 (l : Int)) := hX4.cell 2
    have x3 : w4.cell? ⟨q, 3, none⟩ = some (.int .i64 ((k : Int) - 1)) := hX4.cell 3
    have x4 : w4.cell? ⟨q, 4, none⟩ = some (.int .u64 (b : Int)) := hX4.cell 4
    have x5 : w4.cell? ⟨q, 5, none⟩ = some (.int .u64 (t : Int)) := hX4.cell 5
    have hmf : ∀ (fn : Fn) (first cap : Array Value) (w : World), (Instr.makeFunc fn first cap).run Try.prog w = .ok (.func fn first cap) w := fun _ _ _ _ => rfl
    have hpu := fun w => put_c hv ha hl hk hbb ht hne (w := w)
    have hdp := fun w => dput_c hv ha hl hk hbb ht hne (w := w)
    go_wp2_with fail
    refine (hpu _).mono ?_
    rintro e w5 ⟨rfl, hbn⟩
    have hX5 := hX4.below hbn hX4.lt
    have hW5 := hW.below hbn hW.lt
    have hb5 := hb4.trans (hbn.mono hb4.size)
    clear x0 x1 x2 x3 x4 x5 hX4 hW hb4 hbn
    have x0 : w5.cell? ⟨q, 0, none⟩ = some (.int .u64 (v : Int)) := hX5.cell 0
    have x1 : w5.cell? ⟨q, 1, none⟩ = some (.int .i64 (a : Int)) := hX5.cell 1
    have x2 : w5.cell? ⟨q, 2, none⟩ = some (.int .u64 (l : Int)) := hX5.cell 2
    have x3 : w5.cell? ⟨q, 3, none⟩ = some (.int .i64 ((k : Int) - 1)) := hX5.cell 3
    have x4 : w5.cell? ⟨q, 4, none⟩ = some (.int .u64 (b : Int)) := hX5.cell 4
    have x5 : w5.cell? ⟨q, 5, none⟩ = some (.int .u64 (t : Int)) := hX5.cell 5
    go_wp2_with fail
    refine (Wirey.read_ok 16 enters #[.pointer (some ⟨g, 0, none⟩)] (six v a l k b t) [] w5 (fun j => j = g) (fun w2 => Blk w2 g VT #[.int .u64 (v : Int), .int .i64 (a : Int), .int .u64 (l : Int), .int .i64 ((k : Int) - 1), .int .u64 (b : Int), .int .u64 (t : Int)]) (fun j hj => by rw [hj]; exact hW5.lt) (fun w2 w3 h hb => Blk.below h hb hW5.lt) ?_).mono ?_
    · intro R O w6 hr hb hR hO
      have hgl := hW5.lt
      exact clos_c hv ha hl hk hbb ht hm rfl (by omega) (by omega) w6 hr (hW5.below hb hgl)
    rintro e w7 ⟨rfl, hk, hW7⟩
    rw [show (Wirey.endE ([] : List UInt8) : Int) = 0 from rfl]
    have hX7 := hk.blk hX5 (by omega)
    have hb7 : Below w.heap.size w w7 := Kp.low hk hb5 (fun j e => by have e2 : j = g := e; omega)
    clear x0 x1 x2 x3 x4 x5 hX5 hW5 hb5 hk
    go_upto_region 7 with (fail)
    have x0 : w7.cell? ⟨q, 0, none⟩ = some (.int .u64 (v : Int)) := hX7.cell 0
    have x1 : w7.cell? ⟨q, 1, none⟩ = some (.int .i64 (a : Int)) := hX7.cell 1
    have x2 : w7.cell? ⟨q, 2, none⟩ = some (.int .u64 (l : Int)) := hX7.cell 2
    have x3 : w7.cell? ⟨q, 3, none⟩ = some (.int .i64 ((k : Int) - 1)) := hX7.cell 3
    have x4 : w7.cell? ⟨q, 4, none⟩ = some (.int .u64 (b : Int)) := hX7.cell 4
    have x5 : w7.cell? ⟨q, 5, none⟩ = some (.int .u64 (t : Int)) := hX7.cell 5
    have y0 : w7.cell? ⟨g, 0, none⟩ = some (.int .u64 (v : Int)) := hW7.cell 0
    have y1 : w7.cell? ⟨g, 1, none⟩ = some (.int .i64 (a : Int)) := hW7.cell 1
    have y2 : w7.cell? ⟨g, 2, none⟩ = some (.int .u64 (l : Int)) := hW7.cell 2
    have y3 : w7.cell? ⟨g, 3, none⟩ = some (.int .i64 ((k : Int) - 1)) := hW7.cell 3
    have y4 : w7.cell? ⟨g, 4, none⟩ = some (.int .u64 (b : Int)) := hW7.cell 4
    have y5 : w7.cell? ⟨g, 5, none⟩ = some (.int .u64 (t : Int)) := hW7.cell 5
    have mk : ∀ W, Below w7.heap.size w7.drew W → W.cell? ⟨q, 0, none⟩ = some (.int .u64 (v : Int)) ∧ W.cell? ⟨q, 1, none⟩ = some (.int .i64 (a : Int)) ∧ W.cell? ⟨q, 2, none⟩ = some (.int .u64 (l : Int)) ∧ W.cell? ⟨q, 3, none⟩ = some (.int .i64 ((k : Int) - 1)) ∧ W.cell? ⟨q, 4, none⟩ = some (.int .u64 (b : Int)) ∧ W.cell? ⟨q, 5, none⟩ = some (.int .u64 (t : Int)) ∧ W.cell? ⟨g, 0, none⟩ = some (.int .u64 (v : Int)) ∧ W.cell? ⟨g, 1, none⟩ = some (.int .i64 (a : Int)) ∧ W.cell? ⟨g, 2, none⟩ = some (.int .u64 (l : Int)) ∧ W.cell? ⟨g, 3, none⟩ = some (.int .i64 ((k : Int) - 1)) ∧ W.cell? ⟨g, 4, none⟩ = some (.int .u64 (b : Int)) ∧ W.cell? ⟨g, 5, none⟩ = some (.int .u64 (t : Int)) := fun W hb => by
      have h0 : Blk w7.drew q VT #[.int .u64 (v : Int), .int .i64 (a : Int), .int .u64 (l : Int), .int .i64 ((k : Int) - 1), .int .u64 (b : Int), .int .u64 (t : Int)] := hX7
      have h1 := h0.below hb hX7.lt
      have h2 : Blk w7.drew g VT #[.int .u64 (v : Int), .int .i64 (a : Int), .int .u64 (l : Int), .int .i64 ((k : Int) - 1), .int .u64 (b : Int), .int .u64 (t : Int)] := hW7
      have h3 := h2.below hb hW7.lt
      exact ⟨h1.cell 0, h1.cell 1, h1.cell 2, h1.cell 3, h1.cell 4, h1.cell 5, h3.cell 0, h3.cell 1, h3.cell 2, h3.cell 3, h3.cell 4, h3.cell 5⟩
    have hB0 : Below w7.heap.size w7.drew w7.drew := Below.refl _ _
    have htl : ((str (six v a l k b t)).toList == (str (six v a l k b t)).toList) = true := by simp
    have hel : ((six v a l k b t) == (six v a l k b t)) = true := by simp
    have heq : ∀ w, (Op.equalIn 10000 VT (.agg #[.int .u64 (v : Int), .int .i64 (a : Int), .int .u64 (l : Int), .int .i64 ((k : Int) - 1), .int .u64 (b : Int), .int .u64 (t : Int)]) (.agg #[.int .u64 (v : Int), .int .i64 (a : Int), .int .u64 (l : Int), .int .i64 ((k : Int) - 1), .int .u64 (b : Int), .int .u64 (t : Int)])).run Try.prog w = .ok true w := fun w => eq_yes (vw v a l k b t) w
    refine region_only 15 #[false, false, false, false, false, false, false, false, false, false, false, false, false, false, false] (S := (fun W => W.cell? ⟨q, 0, none⟩ = some (.int .u64 (v : Int)) ∧ W.cell? ⟨q, 1, none⟩ = some (.int .i64 (a : Int)) ∧ W.cell? ⟨q, 2, none⟩ = some (.int .u64 (l : Int)) ∧ W.cell? ⟨q, 3, none⟩ = some (.int .i64 ((k : Int) - 1)) ∧ W.cell? ⟨q, 4, none⟩ = some (.int .u64 (b : Int)) ∧ W.cell? ⟨q, 5, none⟩ = some (.int .u64 (t : Int)) ∧ W.cell? ⟨g, 0, none⟩ = some (.int .u64 (v : Int)) ∧ W.cell? ⟨g, 1, none⟩ = some (.int .i64 (a : Int)) ∧ W.cell? ⟨g, 2, none⟩ = some (.int .u64 (l : Int)) ∧ W.cell? ⟨g, 3, none⟩ = some (.int .i64 ((k : Int) - 1)) ∧ W.cell? ⟨g, 4, none⟩ = some (.int .u64 (b : Int)) ∧ W.cell? ⟨g, 5, none⟩ = some (.int .u64 (t : Int)))) rfl rfl (by kernel_rfl) ⟨x0, x1, x2, x3, x4, x5, y0, y1, y2, y3, y4, y5⟩ (fun hSw => ?_)
    refine take_at 0 27 (fuel := 14) ?_ rfl rfl (by kernel_rfl) (by kernel_rfl) (by kernel_rfl) (Or.inl ⟨by rfl, ?_⟩) hSw ?_
    rotate_left
    · intro wx hSx
      (try dsimp only at hSx)
      go_split_ands
      go_simp
      (try with_reducible rfl)
    simp only [List.setIfInBounds_toArray, List.set_cons_zero, List.set_cons_succ]
    refine take_at 2 29 (fuel := 13) ?_ rfl rfl (by kernel_rfl) (by kernel_rfl) (by kernel_rfl) (Or.inl ⟨by rfl, ?_⟩) hSw ?_
    rotate_left
    · intro wx hSx
      (try dsimp only at hSx)
      go_split_ands
      go_simp
      (try with_reducible rfl)
    simp only [List.setIfInBounds_toArray, List.set_cons_zero, List.set_cons_succ]
    refine wpAnyH_ready (fuel := 12) (rs := [1]) (by kernel_rfl) (by simp) (AllReadyH.cons rfl (fun K hK => ?_) AllReadyH.nil)
    go_simp
    refine Calls.mono (hpu _) ?_
    rintro e u5 ⟨rfl, hn0⟩
    have hB1 := hB0.trans (hn0.mono hB0.size)
    refine hK.out _ _ (mk _ hB1) (fun hSw => ?_)
    clear hK K
    simp only [List.setIfInBounds_toArray, List.set_cons_zero, List.set_cons_succ]
    refine wpAnyH_ready (fuel := 11) (rs := [3]) (by kernel_rfl) (by simp) (AllReadyH.cons rfl (fun K hK => ?_) AllReadyH.nil)
    go_simp
    refine Calls.mono (hdp _) ?_
    rintro e u6 ⟨rfl, hn1⟩
    have hB2 := hB1.trans (hn1.mono hB1.size)
    refine hK.out _ _ (mk _ hB2) (fun hSw => ?_)
    clear hK K
    simp only [List.setIfInBounds_toArray, List.set_cons_zero, List.set_cons_succ]
    refine take_at 4 31 (fuel := 10) ?_ rfl rfl (by kernel_rfl) (by kernel_rfl) (by kernel_rfl) (Or.inl ⟨by rfl, ?_⟩) hSw ?_
    rotate_left
    · intro wx hSx
      (try dsimp only at hSx)
      go_split_ands
      go_simp
      (try with_reducible rfl)
    simp only [List.setIfInBounds_toArray, List.set_cons_zero, List.set_cons_succ]
    refine take_at 5 32 (fuel := 9) ?_ rfl rfl (by kernel_rfl) (by kernel_rfl) (by kernel_rfl) (Or.inl ⟨by rfl, ?_⟩) hSw ?_
    rotate_left
    · intro wx hSx
      (try dsimp only at hSx)
      go_split_ands
      go_simp
      (try with_reducible rfl)
    simp only [List.setIfInBounds_toArray, List.set_cons_zero, List.set_cons_succ]
    refine take_at 6 33 (fuel := 8) ?_ rfl rfl (by kernel_rfl) (by kernel_rfl) (by kernel_rfl) (Or.inl ⟨by rfl, ?_⟩) hSw ?_
    rotate_left
    · intro wx hSx
      (try dsimp only at hSx)
      go_split_ands
      go_simp
      (try with_reducible rfl)
    simp only [List.setIfInBounds_toArray, List.set_cons_zero, List.set_cons_succ]
    refine take_at 7 34 (fuel := 7) ?_ rfl rfl (by kernel_rfl) (by kernel_rfl) (by kernel_rfl) (Or.inl ⟨by rfl, ?_⟩) hSw ?_
    rotate_left
    · intro wx hSx
      (try dsimp only at hSx)
      go_split_ands
      go_simp
      (try with_reducible rfl)
    simp only [List.setIfInBounds_toArray, List.set_cons_zero, List.set_cons_succ]
    refine take_at 8 35 (fuel := 6) ?_ rfl rfl (by kernel_rfl) (by kernel_rfl) (by kernel_rfl) (Or.inl ⟨by rfl, ?_⟩) hSw ?_
    rotate_left
    · intro wx hSx
      (try dsimp only at hSx)
      go_split_ands
      go_simp
      (try with_reducible rfl)
    simp only [List.setIfInBounds_toArray, List.set_cons_zero, List.set_cons_succ]
    refine take_at 9 36 (fuel := 5) ?_ rfl rfl (by kernel_rfl) (by kernel_rfl) (by kernel_rfl) (Or.inl ⟨by rfl, ?_⟩) hSw ?_
    rotate_left
    · intro wx hSx
      (try dsimp only at hSx)
      go_split_ands
      go_simp
      (try with_reducible rfl)
    simp only [List.setIfInBounds_toArray, List.set_cons_zero, List.set_cons_succ]
    refine take_at 10 37 (fuel := 4) ?_ rfl rfl (by kernel_rfl) (by kernel_rfl) (by kernel_rfl) (Or.inl ⟨by rfl, ?_⟩) hSw ?_
    rotate_left
    · intro wx hSx
      (try dsimp only at hSx)
      go_split_ands
      go_simp
      (try with_reducible rfl)
    simp only [List.setIfInBounds_toArray, List.set_cons_zero, List.set_cons_succ]
    refine take_at 11 38 (fuel := 3) ?_ rfl rfl (by kernel_rfl) (by kernel_rfl) (by kernel_rfl) (Or.inl ⟨by rfl, ?_⟩) hSw ?_
    rotate_left
    · intro wx hSx
      (try dsimp only at hSx)
      go_split_ands
      go_simp
      (try with_reducible rfl)
    simp only [List.setIfInBounds_toArray, List.set_cons_zero, List.set_cons_succ]
    refine take_at 12 39 (fuel := 2) ?_ rfl rfl (by kernel_rfl) (by kernel_rfl) (by kernel_rfl) (Or.inl ⟨by rfl, ?_⟩) hSw ?_
    rotate_left
    · intro wx hSx
      (try dsimp only at hSx)
      go_split_ands
      go_simp
      (try with_reducible rfl)
    simp only [List.setIfInBounds_toArray, List.set_cons_zero, List.set_cons_succ]
    refine take_at 13 40 (fuel := 1) ?_ rfl rfl (by kernel_rfl) (by kernel_rfl) (by kernel_rfl) (Or.inl ⟨by rfl, ?_⟩) hSw ?_
    rotate_left
    · intro wx hSx
      (try dsimp only at hSx)
      go_split_ands
      go_simp
      (try with_reducible rfl)
    simp only [List.setIfInBounds_toArray, List.set_cons_zero, List.set_cons_succ]
    refine take_at 14 2 (fuel := 0) ?_ rfl rfl (by kernel_rfl) (by kernel_rfl) (by kernel_rfl) (Or.inl ⟨by rfl, ?_⟩) hSw ?_
    rotate_left
    · intro wx hSx
      (try dsimp only at hSx)
      go_split_ands
      go_simp
      (try with_reducible rfl)
    simp only [List.setIfInBounds_toArray, List.set_cons_zero, List.set_cons_succ]
    refine wpAnyH_done (by kernel_rfl) ⟨rfl, ?_⟩ 0
    have hb9 := hb7.drew.trans (hB2.mono hb7.drew.size)
    clear hSw mk x0 x1 x2 x3 x4 x5 y0 y1 y2 y3 y4 y5 hn0 hn1 hB0 hB1 hB2 hX7 hW7 hpu hdp htl hel heq
    go_wp2_with fail
    go_ret
    exact ⟨rfl, hb9⟩
  · by_cases hz : x = noV
    · subst hz
      have d : decide (May noV) = false := decide_eq_false hm
      clear hx
      show Calls Try.prog 4 #[.agg #[.int .u64 0, .int .i64 0, .int .u64 0, .int .i64 0, .int .u64 0, .int .u64 0]] w _
      have hX := Blk.new w VT #[.int .u64 0, .int .i64 0, .int .u64 0, .int .i64 0, .int .u64 0, .int .u64 0]
      have hb := (Below.refl _ w).alloc (Nat.le_refl _) (.cells #[.int .u64 0, .int .i64 0, .int .u64 0, .int .i64 0, .int .u64 0, .int .u64 0] VT)
      go_enter Try.func4, Try.ntmps4
      go_upto_region 1 with (fail)
      generalize w.alloc (.cells _ VT) = w1 at *
      generalize hq : w.heap.size = q at hX ⊢
      have x0 : w1.cell? ⟨q, 0, none⟩ = some (.int .u64 0) := hX.cell 0
      have x1 : w1.cell? ⟨q, 1, none⟩ = some (.int .i64 0) := hX.cell 1
      have x2 : w1.cell? ⟨q, 2, none⟩ = some (.int .u64 0) := hX.cell 2
      have x3 : w1.cell? ⟨q, 3, none⟩ = some (.int .i64 0) := hX.cell 3
      have x4 : w1.cell? ⟨q, 4, none⟩ = some (.int .u64 0) := hX.cell 4
      have x5 : w1.cell? ⟨q, 5, none⟩ = some (.int .u64 0) := hX.cell 5
      have mk : ∀ W, Below w1.heap.size w1.drew W → W.cell? ⟨q, 0, none⟩ = some (.int .u64 0) ∧ W.cell? ⟨q, 1, none⟩ = some (.int .i64 0) ∧ W.cell? ⟨q, 2, none⟩ = some (.int .u64 0) ∧ W.cell? ⟨q, 3, none⟩ = some (.int .i64 0) ∧ W.cell? ⟨q, 4, none⟩ = some (.int .u64 0) ∧ W.cell? ⟨q, 5, none⟩ = some (.int .u64 0) := fun W hb => by
        have h0 : Blk w1.drew q VT #[.int .u64 0, .int .i64 0, .int .u64 0, .int .i64 0, .int .u64 0, .int .u64 0] := hX
        have h1 := h0.below hb hX.lt
        exact ⟨h1.cell 0, h1.cell 1, h1.cell 2, h1.cell 3, h1.cell 4, h1.cell 5⟩
      have hB0 : Below w1.heap.size w1.drew w1.drew := Below.refl _ _
      refine region_only 9 #[false, false, false, false, false, false, false, false, false] (S := (fun W => W.cell? ⟨q, 0, none⟩ = some (.int .u64 0) ∧ W.cell? ⟨q, 1, none⟩ = some (.int .i64 0) ∧ W.cell? ⟨q, 2, none⟩ = some (.int .u64 0) ∧ W.cell? ⟨q, 3, none⟩ = some (.int .i64 0) ∧ W.cell? ⟨q, 4, none⟩ = some (.int .u64 0) ∧ W.cell? ⟨q, 5, none⟩ = some (.int .u64 0))) rfl rfl (by kernel_rfl) ⟨x0, x1, x2, x3, x4, x5⟩ (fun hSw => ?_)
      refine wpAnyH_ready (fuel := 8) (rs := [0]) (by kernel_rfl) (by simp) (AllReadyH.cons rfl (fun K hK => ?_) AllReadyH.nil)
      go_simp
      refine Calls.mono (awake_c _) ?_
      rintro e u0 ⟨rfl, hn0⟩
      have hB1 := hB0.trans (hn0.mono hB0.size)
      refine hK.out _ _ (mk _ hB1) (fun hSw => ?_)
      clear hK K
      simp only [List.setIfInBounds_toArray, List.set_cons_zero]
      refine take_at 1 6 (fuel := 7) ?_ rfl rfl (by kernel_rfl) (by kernel_rfl) (by kernel_rfl) (Or.inl ⟨by rfl, ?_⟩) hSw ?_
      rotate_left
      · intro wx hSx
        (try dsimp only at hSx)
        go_split_ands
        go_simp
        (try with_reducible rfl)
      simp only [List.setIfInBounds_toArray, List.set_cons_zero, List.set_cons_succ]
      refine take_at 2 7 (fuel := 6) ?_ rfl rfl (by kernel_rfl) (by kernel_rfl) (by kernel_rfl) (Or.inl ⟨by rfl, ?_⟩) hSw ?_
      rotate_left
      · intro wx hSx
        (try dsimp only at hSx)
        go_split_ands
        go_simp
        (try with_reducible rfl)
      simp only [List.setIfInBounds_toArray, List.set_cons_zero, List.set_cons_succ]
      refine take_at 3 8 (fuel := 5) ?_ rfl rfl (by kernel_rfl) (by kernel_rfl) (by kernel_rfl) (Or.inl ⟨by rfl, ?_⟩) hSw ?_
      rotate_left
      · intro wx hSx
        (try dsimp only at hSx)
        go_split_ands
        go_simp
        (try with_reducible rfl)
      simp only [List.setIfInBounds_toArray, List.set_cons_zero, List.set_cons_succ]
      refine take_at 5 10 (fuel := 4) ?_ rfl rfl (by kernel_rfl) (by kernel_rfl) (by kernel_rfl) (Or.inl ⟨by rfl, ?_⟩) hSw ?_
      rotate_left
      · intro wx hSx
        (try dsimp only at hSx)
        go_split_ands
        go_simp
        (try with_reducible rfl)
      simp only [List.setIfInBounds_toArray, List.set_cons_zero, List.set_cons_succ]
      refine wpAnyH_ready (fuel := 3) (rs := [4]) (by kernel_rfl) (by simp) (AllReadyH.cons rfl (fun K hK => ?_) AllReadyH.nil)
      go_simp
      refine Calls.mono (check_c noV _) ?_
      rintro e u1 ⟨rfl, hn1⟩
      rw [d]
      have hB2 := hB1.trans (hn1.mono hB1.size)
      refine hK.out _ _ (mk _ hB2) (fun hSw => ?_)
      clear hK K
      simp only [List.setIfInBounds_toArray, List.set_cons_zero, List.set_cons_succ]
      refine wpAnyH_ready (fuel := 2) (rs := [6]) (by kernel_rfl) (by simp) (AllReadyH.cons rfl (fun K hK => ?_) AllReadyH.nil)
      go_simp
      refine Calls.mono (dcheck_c noV _) ?_
      rintro e u2 ⟨rfl, hn2⟩
      rw [d]
      have hB3 := hB2.trans (hn2.mono hB2.size)
      refine hK.out _ _ (mk _ hB3) (fun hSw => ?_)
      clear hK K
      simp only [List.setIfInBounds_toArray, List.set_cons_zero, List.set_cons_succ]
      refine take_at 7 12 (fuel := 1) ?_ rfl rfl (by kernel_rfl) (by kernel_rfl) (by kernel_rfl) (Or.inl ⟨by rfl, ?_⟩) hSw ?_
      rotate_left
      · intro wx hSx
        (try dsimp only at hSx)
        go_split_ands
        go_simp
        (try with_reducible rfl)
      simp only [List.setIfInBounds_toArray, List.set_cons_zero, List.set_cons_succ]
      refine take_at 8 13 (fuel := 0) ?_ rfl rfl (by kernel_rfl) (by kernel_rfl) (by kernel_rfl) (Or.inl ⟨by rfl, ?_⟩) hSw ?_
      rotate_left
      · intro wx hSx
        (try dsimp only at hSx)
        go_split_ands
        go_simp
        (try with_reducible rfl)
      simp only [List.setIfInBounds_toArray, List.set_cons_zero, List.set_cons_succ]
      refine wpAnyH_done (by kernel_rfl) ⟨rfl, ?_⟩ 0
      have hX3 : Blk u2 q VT #[.int .u64 0, .int .i64 0, .int .u64 0, .int .i64 0, .int .u64 0, .int .u64 0] := Blk.below (show Blk w1.drew q VT #[.int .u64 0, .int .i64 0, .int .u64 0, .int .i64 0, .int .u64 0, .int .u64 0] from hX) hB3 hX.lt
      have hb3 := hb.drew.trans (hB3.mono hb.drew.size)
      clear hSw mk x0 x1 x2 x3 x4 x5 hn0 hn1 hn2 hB0 hB1 hB2 hB3 hX hb
      have x0 : u2.cell? ⟨q, 0, none⟩ = some (.int .u64 0) := hX3.cell 0
      have x1 : u2.cell? ⟨q, 1, none⟩ = some (.int .i64 0) := hX3.cell 1
      have x2 : u2.cell? ⟨q, 2, none⟩ = some (.int .u64 0) := hX3.cell 2
      have x3 : u2.cell? ⟨q, 3, none⟩ = some (.int .i64 0) := hX3.cell 3
      have x4 : u2.cell? ⟨q, 4, none⟩ = some (.int .u64 0) := hX3.cell 4
      have x5 : u2.cell? ⟨q, 5, none⟩ = some (.int .u64 0) := hX3.cell 5
      go_wp2_with fail
      refine (check_c noV _).mono ?_
      rintro e u3 ⟨rfl, hbn⟩
      rw [d]
      replace hX3 := hX3.below hbn hX3.lt
      replace hb3 := hb3.trans (hbn.mono hb3.size)
      clear x0 x1 x2 x3 x4 x5 hbn
      have x0 : u3.cell? ⟨q, 0, none⟩ = some (.int .u64 0) := hX3.cell 0
      have x1 : u3.cell? ⟨q, 1, none⟩ = some (.int .i64 0) := hX3.cell 1
      have x2 : u3.cell? ⟨q, 2, none⟩ = some (.int .u64 0) := hX3.cell 2
      have x3 : u3.cell? ⟨q, 3, none⟩ = some (.int .i64 0) := hX3.cell 3
      have x4 : u3.cell? ⟨q, 4, none⟩ = some (.int .u64 0) := hX3.cell 4
      have x5 : u3.cell? ⟨q, 5, none⟩ = some (.int .u64 0) := hX3.cell 5
      have hq0 : ∀ w, (Op.equalIn 10000 VT (.agg #[.int .u64 0, .int .i64 0, .int .u64 0, .int .i64 0, .int .u64 0, .int .u64 0]) (.agg #[.int .u64 0, .int .i64 0, .int .u64 0, .int .i64 0, .int .u64 0, .int .u64 0])).run Try.prog w = .ok true w := fun w => eq_yes noV w
      go_upto_region 6 with (fail)
      have hqu := hX3.lt
      have hW : Blk (u3.alloc (.cells #[.int .u64 9, .int .i64 0, .int .u64 0, .int .i64 0, .int .u64 0, .int .u64 0] VT)) u3.heap.size VT #[.int .u64 9, .int .i64 0, .int .u64 0, .int .i64 0, .int .u64 0, .int .u64 0] := Blk.new u3 VT _
      have hX4 := hX3.alloc (.cells #[.int .u64 9, .int .i64 0, .int .u64 0, .int .i64 0, .int .u64 0, .int .u64 0] VT)
      have hb4 := hb3.alloc hb3.size (.cells #[.int .u64 9, .int .i64 0, .int .u64 0, .int .i64 0, .int .u64 0, .int .u64 0] VT)
      clear x0 x1 x2 x3 x4 x5
      generalize u3.alloc (.cells _ VT) = w4 at *
      generalize u3.heap.size = g at *
      have x0 : w4.cell? ⟨q, 0, none⟩ = some (.int .u64 0) := hX4.cell 0
      have x1 : w4.cell? ⟨q, 1, none⟩ = some (.int .i64 0) := hX4.cell 1
      have x2 : w4.cell? ⟨q, 2, none⟩ = some (.int .u64 0) := hX4.cell 2
      have x3 : w4.cell? ⟨q, 3, none⟩ = some (.int .i64 0) := hX4.cell 3
      have x4 : w4.cell? ⟨q, 4, none⟩ = some (.int .u64 0) := hX4.cell 4
      have x5 : w4.cell? ⟨q, 5, none⟩ = some (.int .u64 0) := hX4.cell 5
      have hmf : ∀ (fn : Fn) (first cap : Array Value) (w : World), (Instr.makeFunc fn first cap).run Try.prog w = .ok (.func fn first cap) w := fun _ _ _ _ => rfl
      have hpu := fun w => put_0 (w := w)
      have hdp := fun w => dput_0 (w := w)
      go_wp2_with fail
      refine (hpu _).mono ?_
      rintro e w5 ⟨rfl, hbn⟩
      have hX5 := hX4.below hbn hX4.lt
      have hW5 := hW.below hbn hW.lt
      have hb5 := hb4.trans (hbn.mono hb4.size)
      clear x0 x1 x2 x3 x4 x5 hX4 hW hb4 hbn
      have x0 : w5.cell? ⟨q, 0, none⟩ = some (.int .u64 0) := hX5.cell 0
      have x1 : w5.cell? ⟨q, 1, none⟩ = some (.int .i64 0) := hX5.cell 1
      have x2 : w5.cell? ⟨q, 2, none⟩ = some (.int .u64 0) := hX5.cell 2
      have x3 : w5.cell? ⟨q, 3, none⟩ = some (.int .i64 0) := hX5.cell 3
      have x4 : w5.cell? ⟨q, 4, none⟩ = some (.int .u64 0) := hX5.cell 4
      have x5 : w5.cell? ⟨q, 5, none⟩ = some (.int .u64 0) := hX5.cell 5
      go_wp2_with fail
      refine (Wirey.read_ok 16 enters #[.pointer (some ⟨g, 0, none⟩)] (six 0 0 0 0 0 0) [] w5 (fun j => j = g) (fun w2 => Blk w2 g VT #[.int .u64 0, .int .i64 0, .int .u64 0, .int .i64 0, .int .u64 0, .int .u64 0]) (fun j hj => by rw [hj]; exact hW5.lt) (fun w2 w3 h hb => Blk.below h hb hW5.lt) ?_).mono ?_
      · intro R O w6 hr hb hR hO
        have hgl := hW5.lt
        exact clos_0 rfl (by omega) (by omega) w6 hr (hW5.below hb hgl)
      rintro e w7 ⟨rfl, hk, hW7⟩
      rw [show (Wirey.endE ([] : List UInt8) : Int) = 0 from rfl]
      have hX7 := hk.blk hX5 (by omega)
      have hb7 : Below w.heap.size w w7 := Kp.low hk hb5 (fun j e => by have e2 : j = g := e; omega)
      clear x0 x1 x2 x3 x4 x5 hX5 hW5 hb5 hk
      go_upto_region 7 with (fail)
      have x0 : w7.cell? ⟨q, 0, none⟩ = some (.int .u64 0) := hX7.cell 0
      have x1 : w7.cell? ⟨q, 1, none⟩ = some (.int .i64 0) := hX7.cell 1
      have x2 : w7.cell? ⟨q, 2, none⟩ = some (.int .u64 0) := hX7.cell 2
      have x3 : w7.cell? ⟨q, 3, none⟩ = some (.int .i64 0) := hX7.cell 3
      have x4 : w7.cell? ⟨q, 4, none⟩ = some (.int .u64 0) := hX7.cell 4
      have x5 : w7.cell? ⟨q, 5, none⟩ = some (.int .u64 0) := hX7.cell 5
      have y0 : w7.cell? ⟨g, 0, none⟩ = some (.int .u64 0) := hW7.cell 0
      have y1 : w7.cell? ⟨g, 1, none⟩ = some (.int .i64 0) := hW7.cell 1
      have y2 : w7.cell? ⟨g, 2, none⟩ = some (.int .u64 0) := hW7.cell 2
      have y3 : w7.cell? ⟨g, 3, none⟩ = some (.int .i64 0) := hW7.cell 3
      have y4 : w7.cell? ⟨g, 4, none⟩ = some (.int .u64 0) := hW7.cell 4
      have y5 : w7.cell? ⟨g, 5, none⟩ = some (.int .u64 0) := hW7.cell 5
      have mk : ∀ W, Below w7.heap.size w7.drew W → W.cell? ⟨q, 0, none⟩ = some (.int .u64 0) ∧ W.cell? ⟨q, 1, none⟩ = some (.int .i64 0) ∧ W.cell? ⟨q, 2, none⟩ = some (.int .u64 0) ∧ W.cell? ⟨q, 3, none⟩ = some (.int .i64 0) ∧ W.cell? ⟨q, 4, none⟩ = some (.int .u64 0) ∧ W.cell? ⟨q, 5, none⟩ = some (.int .u64 0) ∧ W.cell? ⟨g, 0, none⟩ = some (.int .u64 0) ∧ W.cell? ⟨g, 1, none⟩ = some (.int .i64 0) ∧ W.cell? ⟨g, 2, none⟩ = some (.int .u64 0) ∧ W.cell? ⟨g, 3, none⟩ = some (.int .i64 0) ∧ W.cell? ⟨g, 4, none⟩ = some (.int .u64 0) ∧ W.cell? ⟨g, 5, none⟩ = some (.int .u64 0) := fun W hb => by
        have h0 : Blk w7.drew q VT #[.int .u64 0, .int .i64 0, .int .u64 0, .int .i64 0, .int .u64 0, .int .u64 0] := hX7
        have h1 := h0.below hb hX7.lt
        have h2 : Blk w7.drew g VT #[.int .u64 0, .int .i64 0, .int .u64 0, .int .i64 0, .int .u64 0, .int .u64 0] := hW7
        have h3 := h2.below hb hW7.lt
        exact ⟨h1.cell 0, h1.cell 1, h1.cell 2, h1.cell 3, h1.cell 4, h1.cell 5, h3.cell 0, h3.cell 1, h3.cell 2, h3.cell 3, h3.cell 4, h3.cell 5⟩
      have hB0 : Below w7.heap.size w7.drew w7.drew := Below.refl _ _
      have htl : ((str (six 0 0 0 0 0 0)).toList == (str (six 0 0 0 0 0 0)).toList) = true := by simp
      have hel : ((six 0 0 0 0 0 0) == (six 0 0 0 0 0 0)) = true := by simp
      have heq : ∀ w, (Op.equalIn 10000 VT (.agg #[.int .u64 0, .int .i64 0, .int .u64 0, .int .i64 0, .int .u64 0, .int .u64 0]) (.agg #[.int .u64 0, .int .i64 0, .int .u64 0, .int .i64 0, .int .u64 0, .int .u64 0])).run Try.prog w = .ok true w := fun w => eq_yes noV w
      refine region_only 15 #[false, false, false, false, false, false, false, false, false, false, false, false, false, false, false] (S := (fun W => W.cell? ⟨q, 0, none⟩ = some (.int .u64 0) ∧ W.cell? ⟨q, 1, none⟩ = some (.int .i64 0) ∧ W.cell? ⟨q, 2, none⟩ = some (.int .u64 0) ∧ W.cell? ⟨q, 3, none⟩ = some (.int .i64 0) ∧ W.cell? ⟨q, 4, none⟩ = some (.int .u64 0) ∧ W.cell? ⟨q, 5, none⟩ = some (.int .u64 0) ∧ W.cell? ⟨g, 0, none⟩ = some (.int .u64 0) ∧ W.cell? ⟨g, 1, none⟩ = some (.int .i64 0) ∧ W.cell? ⟨g, 2, none⟩ = some (.int .u64 0) ∧ W.cell? ⟨g, 3, none⟩ = some (.int .i64 0) ∧ W.cell? ⟨g, 4, none⟩ = some (.int .u64 0) ∧ W.cell? ⟨g, 5, none⟩ = some (.int .u64 0))) rfl rfl (by kernel_rfl) ⟨x0, x1, x2, x3, x4, x5, y0, y1, y2, y3, y4, y5⟩ (fun hSw => ?_)
      refine take_at 0 27 (fuel := 14) ?_ rfl rfl (by kernel_rfl) (by kernel_rfl) (by kernel_rfl) (Or.inl ⟨by rfl, ?_⟩) hSw ?_
      rotate_left
      · intro wx hSx
        (try dsimp only at hSx)
        go_split_ands
        go_simp
        (try with_reducible rfl)
      simp only [List.setIfInBounds_toArray, List.set_cons_zero, List.set_cons_succ]
      refine take_at 2 29 (fuel := 13) ?_ rfl rfl (by kernel_rfl) (by kernel_rfl) (by kernel_rfl) (Or.inl ⟨by rfl, ?_⟩) hSw ?_
      rotate_left
      · intro wx hSx
        (try dsimp only at hSx)
        go_split_ands
        go_simp
        (try with_reducible rfl)
      simp only [List.setIfInBounds_toArray, List.set_cons_zero, List.set_cons_succ]
      refine wpAnyH_ready (fuel := 12) (rs := [1]) (by kernel_rfl) (by simp) (AllReadyH.cons rfl (fun K hK => ?_) AllReadyH.nil)
      go_simp
      refine Calls.mono (hpu _) ?_
      rintro e u5 ⟨rfl, hn0⟩
      have hB1 := hB0.trans (hn0.mono hB0.size)
      refine hK.out _ _ (mk _ hB1) (fun hSw => ?_)
      clear hK K
      simp only [List.setIfInBounds_toArray, List.set_cons_zero, List.set_cons_succ]
      refine wpAnyH_ready (fuel := 11) (rs := [3]) (by kernel_rfl) (by simp) (AllReadyH.cons rfl (fun K hK => ?_) AllReadyH.nil)
      go_simp
      refine Calls.mono (hdp _) ?_
      rintro e u6 ⟨rfl, hn1⟩
      have hB2 := hB1.trans (hn1.mono hB1.size)
      refine hK.out _ _ (mk _ hB2) (fun hSw => ?_)
      clear hK K
      simp only [List.setIfInBounds_toArray, List.set_cons_zero, List.set_cons_succ]
      refine take_at 4 31 (fuel := 10) ?_ rfl rfl (by kernel_rfl) (by kernel_rfl) (by kernel_rfl) (Or.inl ⟨by rfl, ?_⟩) hSw ?_
      rotate_left
      · intro wx hSx
        (try dsimp only at hSx)
        go_split_ands
        go_simp
        (try with_reducible rfl)
      simp only [List.setIfInBounds_toArray, List.set_cons_zero, List.set_cons_succ]
      refine take_at 5 32 (fuel := 9) ?_ rfl rfl (by kernel_rfl) (by kernel_rfl) (by kernel_rfl) (Or.inl ⟨by rfl, ?_⟩) hSw ?_
      rotate_left
      · intro wx hSx
        (try dsimp only at hSx)
        go_split_ands
        go_simp
        (try with_reducible rfl)
      simp only [List.setIfInBounds_toArray, List.set_cons_zero, List.set_cons_succ]
      refine take_at 6 33 (fuel := 8) ?_ rfl rfl (by kernel_rfl) (by kernel_rfl) (by kernel_rfl) (Or.inl ⟨by rfl, ?_⟩) hSw ?_
      rotate_left
      · intro wx hSx
        (try dsimp only at hSx)
        go_split_ands
        go_simp
        (try with_reducible rfl)
      simp only [List.setIfInBounds_toArray, List.set_cons_zero, List.set_cons_succ]
      refine take_at 7 34 (fuel := 7) ?_ rfl rfl (by kernel_rfl) (by kernel_rfl) (by kernel_rfl) (Or.inl ⟨by rfl, ?_⟩) hSw ?_
      rotate_left
      · intro wx hSx
        (try dsimp only at hSx)
        go_split_ands
        go_simp
        (try with_reducible rfl)
      simp only [List.setIfInBounds_toArray, List.set_cons_zero, List.set_cons_succ]
      refine take_at 8 35 (fuel := 6) ?_ rfl rfl (by kernel_rfl) (by kernel_rfl) (by kernel_rfl) (Or.inl ⟨by rfl, ?_⟩) hSw ?_
      rotate_left
      · intro wx hSx
        (try dsimp only at hSx)
        go_split_ands
        go_simp
        (try with_reducible rfl)
      simp only [List.setIfInBounds_toArray, List.set_cons_zero, List.set_cons_succ]
      refine take_at 9 36 (fuel := 5) ?_ rfl rfl (by kernel_rfl) (by kernel_rfl) (by kernel_rfl) (Or.inl ⟨by rfl, ?_⟩) hSw ?_
      rotate_left
      · intro wx hSx
        (try dsimp only at hSx)
        go_split_ands
        go_simp
        (try with_reducible rfl)
      simp only [List.setIfInBounds_toArray, List.set_cons_zero, List.set_cons_succ]
      refine take_at 10 37 (fuel := 4) ?_ rfl rfl (by kernel_rfl) (by kernel_rfl) (by kernel_rfl) (Or.inl ⟨by rfl, ?_⟩) hSw ?_
      rotate_left
      · intro wx hSx
        (try dsimp only at hSx)
        go_split_ands
        go_simp
        (try with_reducible rfl)
      simp only [List.setIfInBounds_toArray, List.set_cons_zero, List.set_cons_succ]
      refine take_at 11 38 (fuel := 3) ?_ rfl rfl (by kernel_rfl) (by kernel_rfl) (by kernel_rfl) (Or.inl ⟨by rfl, ?_⟩) hSw ?_
      rotate_left
      · intro wx hSx
        (try dsimp only at hSx)
        go_split_ands
        go_simp
        (try with_reducible rfl)
      simp only [List.setIfInBounds_toArray, List.set_cons_zero, List.set_cons_succ]
      refine take_at 12 39 (fuel := 2) ?_ rfl rfl (by kernel_rfl) (by kernel_rfl) (by kernel_rfl) (Or.inl ⟨by rfl, ?_⟩) hSw ?_
      rotate_left
      · intro wx hSx
        (try dsimp only at hSx)
        go_split_ands
        go_simp
        (try with_reducible rfl)
      simp only [List.setIfInBounds_toArray, List.set_cons_zero, List.set_cons_succ]
      refine take_at 13 40 (fuel := 1) ?_ rfl rfl (by kernel_rfl) (by kernel_rfl) (by kernel_rfl) (Or.inl ⟨by rfl, ?_⟩) hSw ?_
      rotate_left
      · intro wx hSx
        (try dsimp only at hSx)
        go_split_ands
        go_simp
        (try with_reducible rfl)
      simp only [List.setIfInBounds_toArray, List.set_cons_zero, List.set_cons_succ]
      refine take_at 14 2 (fuel := 0) ?_ rfl rfl (by kernel_rfl) (by kernel_rfl) (by kernel_rfl) (Or.inl ⟨by rfl, ?_⟩) hSw ?_
      rotate_left
      · intro wx hSx
        (try dsimp only at hSx)
        go_split_ands
        go_simp
        (try with_reducible rfl)
      simp only [List.setIfInBounds_toArray, List.set_cons_zero, List.set_cons_succ]
      refine wpAnyH_done (by kernel_rfl) ⟨rfl, ?_⟩ 0
      have hb9 := hb7.drew.trans (hB2.mono hb7.drew.size)
      clear hSw mk x0 x1 x2 x3 x4 x5 y0 y1 y2 y3 y4 y5 hn0 hn1 hB0 hB1 hB2 hX7 hW7 hpu hdp htl hel heq
      go_wp2_with fail
      go_ret
      exact ⟨rfl, hb9⟩
    · have d : decide (May x) = false := decide_eq_false hm
      show Calls Try.prog 4 #[.agg #[.int .u64 (x.v : Int), .int .i64 x.pr, .int .u64 (x.pl : Int), .int .i64 x.ba, .int .u64 (x.bl : Int), .int .u64 (x.ep : Int)]] w _
      have hX := Blk.new w VT #[.int .u64 (x.v : Int), .int .i64 x.pr, .int .u64 (x.pl : Int), .int .i64 x.ba, .int .u64 (x.bl : Int), .int .u64 (x.ep : Int)]
      have hb := (Below.refl _ w).alloc (Nat.le_refl _) (.cells #[.int .u64 (x.v : Int), .int .i64 x.pr, .int .u64 (x.pl : Int), .int .i64 x.ba, .int .u64 (x.bl : Int), .int .u64 (x.ep : Int)] VT)
      go_enter Try.func4, Try.ntmps4
      go_upto_region 1 with (fail)
      generalize w.alloc (.cells _ VT) = w1 at *
      generalize hq : w.heap.size = q at hX ⊢
      have x0 : w1.cell? ⟨q, 0, none⟩ = some (.int .u64 (x.v : Int)) := hX.cell 0
      have x1 : w1.cell? ⟨q, 1, none⟩ = some (.int .i64 x.pr) := hX.cell 1
      have x2 : w1.cell? ⟨q, 2, none⟩ = some (.int .u64 (x.pl : Int)) := hX.cell 2
      have x3 : w1.cell? ⟨q, 3, none⟩ = some (.int .i64 x.ba) := hX.cell 3
      have x4 : w1.cell? ⟨q, 4, none⟩ = some (.int .u64 (x.bl : Int)) := hX.cell 4
      have x5 : w1.cell? ⟨q, 5, none⟩ = some (.int .u64 (x.ep : Int)) := hX.cell 5
      have mk : ∀ W, Below w1.heap.size w1.drew W → W.cell? ⟨q, 0, none⟩ = some (.int .u64 (x.v : Int)) ∧ W.cell? ⟨q, 1, none⟩ = some (.int .i64 x.pr) ∧ W.cell? ⟨q, 2, none⟩ = some (.int .u64 (x.pl : Int)) ∧ W.cell? ⟨q, 3, none⟩ = some (.int .i64 x.ba) ∧ W.cell? ⟨q, 4, none⟩ = some (.int .u64 (x.bl : Int)) ∧ W.cell? ⟨q, 5, none⟩ = some (.int .u64 (x.ep : Int)) := fun W hb => by
        have h0 : Blk w1.drew q VT #[.int .u64 (x.v : Int), .int .i64 x.pr, .int .u64 (x.pl : Int), .int .i64 x.ba, .int .u64 (x.bl : Int), .int .u64 (x.ep : Int)] := hX
        have h1 := h0.below hb hX.lt
        exact ⟨h1.cell 0, h1.cell 1, h1.cell 2, h1.cell 3, h1.cell 4, h1.cell 5⟩
      have hB0 : Below w1.heap.size w1.drew w1.drew := Below.refl _ _
      refine region_only 9 #[false, false, false, false, false, false, false, false, false] (S := (fun W => W.cell? ⟨q, 0, none⟩ = some (.int .u64 (x.v : Int)) ∧ W.cell? ⟨q, 1, none⟩ = some (.int .i64 x.pr) ∧ W.cell? ⟨q, 2, none⟩ = some (.int .u64 (x.pl : Int)) ∧ W.cell? ⟨q, 3, none⟩ = some (.int .i64 x.ba) ∧ W.cell? ⟨q, 4, none⟩ = some (.int .u64 (x.bl : Int)) ∧ W.cell? ⟨q, 5, none⟩ = some (.int .u64 (x.ep : Int)))) rfl rfl (by kernel_rfl) ⟨x0, x1, x2, x3, x4, x5⟩ (fun hSw => ?_)
      refine wpAnyH_ready (fuel := 8) (rs := [0]) (by kernel_rfl) (by simp) (AllReadyH.cons rfl (fun K hK => ?_) AllReadyH.nil)
      go_simp
      refine Calls.mono (awake_c _) ?_
      rintro e u0 ⟨rfl, hn0⟩
      have hB1 := hB0.trans (hn0.mono hB0.size)
      refine hK.out _ _ (mk _ hB1) (fun hSw => ?_)
      clear hK K
      simp only [List.setIfInBounds_toArray, List.set_cons_zero]
      refine take_at 1 6 (fuel := 7) ?_ rfl rfl (by kernel_rfl) (by kernel_rfl) (by kernel_rfl) (Or.inl ⟨by rfl, ?_⟩) hSw ?_
      rotate_left
      · intro wx hSx
        (try dsimp only at hSx)
        go_split_ands
        go_simp
        (try with_reducible rfl)
      simp only [List.setIfInBounds_toArray, List.set_cons_zero, List.set_cons_succ]
      refine take_at 2 7 (fuel := 6) ?_ rfl rfl (by kernel_rfl) (by kernel_rfl) (by kernel_rfl) (Or.inl ⟨by rfl, ?_⟩) hSw ?_
      rotate_left
      · intro wx hSx
        (try dsimp only at hSx)
        go_split_ands
        go_simp
        (try with_reducible rfl)
      simp only [List.setIfInBounds_toArray, List.set_cons_zero, List.set_cons_succ]
      refine take_at 3 8 (fuel := 5) ?_ rfl rfl (by kernel_rfl) (by kernel_rfl) (by kernel_rfl) (Or.inl ⟨by rfl, ?_⟩) hSw ?_
      rotate_left
      · intro wx hSx
        (try dsimp only at hSx)
        go_split_ands
        go_simp
        (try with_reducible rfl)
      simp only [List.setIfInBounds_toArray, List.set_cons_zero, List.set_cons_succ]
      refine take_at 5 10 (fuel := 4) ?_ rfl rfl (by kernel_rfl) (by kernel_rfl) (by kernel_rfl) (Or.inl ⟨by rfl, ?_⟩) hSw ?_
      rotate_left
      · intro wx hSx
        (try dsimp only at hSx)
        go_split_ands
        go_simp
        (try with_reducible rfl)
      simp only [List.setIfInBounds_toArray, List.set_cons_zero, List.set_cons_succ]
      refine wpAnyH_ready (fuel := 3) (rs := [4]) (by kernel_rfl) (by simp) (AllReadyH.cons rfl (fun K hK => ?_) AllReadyH.nil)
      go_simp
      refine Calls.mono (check_c x _) ?_
      rintro e u1 ⟨rfl, hn1⟩
      rw [d]
      have hB2 := hB1.trans (hn1.mono hB1.size)
      refine hK.out _ _ (mk _ hB2) (fun hSw => ?_)
      clear hK K
      simp only [List.setIfInBounds_toArray, List.set_cons_zero, List.set_cons_succ]
      refine wpAnyH_ready (fuel := 2) (rs := [6]) (by kernel_rfl) (by simp) (AllReadyH.cons rfl (fun K hK => ?_) AllReadyH.nil)
      go_simp
      refine Calls.mono (dcheck_c x _) ?_
      rintro e u2 ⟨rfl, hn2⟩
      rw [d]
      have hB3 := hB2.trans (hn2.mono hB2.size)
      refine hK.out _ _ (mk _ hB3) (fun hSw => ?_)
      clear hK K
      simp only [List.setIfInBounds_toArray, List.set_cons_zero, List.set_cons_succ]
      refine take_at 7 12 (fuel := 1) ?_ rfl rfl (by kernel_rfl) (by kernel_rfl) (by kernel_rfl) (Or.inl ⟨by rfl, ?_⟩) hSw ?_
      rotate_left
      · intro wx hSx
        (try dsimp only at hSx)
        go_split_ands
        go_simp
        (try with_reducible rfl)
      simp only [List.setIfInBounds_toArray, List.set_cons_zero, List.set_cons_succ]
      refine take_at 8 13 (fuel := 0) ?_ rfl rfl (by kernel_rfl) (by kernel_rfl) (by kernel_rfl) (Or.inl ⟨by rfl, ?_⟩) hSw ?_
      rotate_left
      · intro wx hSx
        (try dsimp only at hSx)
        go_split_ands
        go_simp
        (try with_reducible rfl)
      simp only [List.setIfInBounds_toArray, List.set_cons_zero, List.set_cons_succ]
      refine wpAnyH_done (by kernel_rfl) ⟨rfl, ?_⟩ 0
      have hX3 : Blk u2 q VT #[.int .u64 (x.v : Int), .int .i64 x.pr, .int .u64 (x.pl : Int), .int .i64 x.ba, .int .u64 (x.bl : Int), .int .u64 (x.ep : Int)] := Blk.below (show Blk w1.drew q VT #[.int .u64 (x.v : Int), .int .i64 x.pr, .int .u64 (x.pl : Int), .int .i64 x.ba, .int .u64 (x.bl : Int), .int .u64 (x.ep : Int)] from hX) hB3 hX.lt
      have hb3 := hb.drew.trans (hB3.mono hb.drew.size)
      clear hSw mk x0 x1 x2 x3 x4 x5 hn0 hn1 hn2 hB0 hB1 hB2 hB3 hX hb
      have x0 : u2.cell? ⟨q, 0, none⟩ = some (.int .u64 (x.v : Int)) := hX3.cell 0
      have x1 : u2.cell? ⟨q, 1, none⟩ = some (.int .i64 x.pr) := hX3.cell 1
      have x2 : u2.cell? ⟨q, 2, none⟩ = some (.int .u64 (x.pl : Int)) := hX3.cell 2
      have x3 : u2.cell? ⟨q, 3, none⟩ = some (.int .i64 x.ba) := hX3.cell 3
      have x4 : u2.cell? ⟨q, 4, none⟩ = some (.int .u64 (x.bl : Int)) := hX3.cell 4
      have x5 : u2.cell? ⟨q, 5, none⟩ = some (.int .u64 (x.ep : Int)) := hX3.cell 5
      go_wp2_with fail
      refine (check_c x _).mono ?_
      rintro e u3 ⟨rfl, hbn⟩
      rw [d]
      replace hX3 := hX3.below hbn hX3.lt
      replace hb3 := hb3.trans (hbn.mono hb3.size)
      clear x0 x1 x2 x3 x4 x5 hbn
      have x0 : u3.cell? ⟨q, 0, none⟩ = some (.int .u64 (x.v : Int)) := hX3.cell 0
      have x1 : u3.cell? ⟨q, 1, none⟩ = some (.int .i64 x.pr) := hX3.cell 1
      have x2 : u3.cell? ⟨q, 2, none⟩ = some (.int .u64 (x.pl : Int)) := hX3.cell 2
      have x3 : u3.cell? ⟨q, 3, none⟩ = some (.int .i64 x.ba) := hX3.cell 3
      have x4 : u3.cell? ⟨q, 4, none⟩ = some (.int .u64 (x.bl : Int)) := hX3.cell 4
      have x5 : u3.cell? ⟨q, 5, none⟩ = some (.int .u64 (x.ep : Int)) := hX3.cell 5
      have hq0 : ∀ w, (Op.equalIn 10000 VT (.agg #[.int .u64 (x.v : Int), .int .i64 x.pr, .int .u64 (x.pl : Int), .int .i64 x.ba, .int .u64 (x.bl : Int), .int .u64 (x.ep : Int)]) (.agg #[.int .u64 0, .int .i64 0, .int .u64 0, .int .i64 0, .int .u64 0, .int .u64 0])).run Try.prog w = .ok false w := fun w => by
        have h1 := eq_no (x := x) (y := noV) hz w
        rw [zero_cs] at h1
        exact h1
      go_wp2_with fail
      go_ret
      exact ⟨rfl, hb3⟩
set_option linter.unusedVariables false in
set_option maxRecDepth 100000 in
theorem cellViews_lifted (os : Os) (started : os.Started) (H : Type) (enc : TypeId × Value → H) :
    ReturnsInHanded {} Try.checked os 4 .any (Rows.cellViewsSpec.pre6 enc Try.prog Try.f4 Rows.cellViewsRow.domain false) (Rows.cellViewsSpec.post enc Try.prog Try.f4 false true false false) := by
  refine returnsInHanded_of_change (C := Try.checked) Kit.own started (by kernel_rfl) Try.func4
    (ChangeSpec.witness6 (enc := enc) (C := Try.checked) false ⟨#[], #[.agg #[.int .u64 0, .int .i64 0, .int .u64 0, .int .i64 0, .int .u64 0, .int .u64 0]], []⟩ 8 (by kernel_rfl) (by kernel_rfl) (by kernel_rfl) (by kernel_rfl)) ?_
  intro W base args ds gs before hval0 hW hcnd _
  have hval : ∀ (j : Nat) t v, Try.f4.params[j]? = some t → args[j]? = some v → Value.okWide Try.prog W .any base t v := hval0
  have hW' := hW
  obtain ⟨p, q, hA0, hV, rfl, hfz, hnd⟩ := hW
  have hA : DataW.TrodAll enc Try.prog W 0 (fun _ => true) true Try.f4.params.toList args.toList ds p := hA0
  rw [Try.params4] at hA hval
  obtain ⟨v0, vs0, d0, ds0, p0, q0, hargs, rfl, rfl, h0, r0⟩ := trodAll_cons hA
  obtain ⟨rfl, rfl, rfl⟩ := trodAll_nil r0
  obtain ⟨rfl, rfl⟩ := trodVars_none hV
  obtain rfl : args = #[v0] := by cases args; simp_all
  obtain ⟨cs0, rfl, -⟩ := okWide_struct Try.underlying25 (hval 0 25 v0 rfl rfl)
  obtain ⟨fuel0, hf0⟩ := h0
  obtain ⟨x0, e0, b0⟩ := open_vw hf0
  obtain rfl : cs0 = x0.cs := by cases cs0; simpa [Value.cells] using e0
  clear hA0 hval0
  refine (cellViews_walk x0 b0 W ).mono fun e W' ⟨he, hg⟩ => ?_
  subst he
  exact ⟨_, rfl, Kit.law_post hW' rfl (by kernel_rfl) rfl (by kernel_rfl) hg⟩

theorem cellViews_over : Rows.cellViewsRow.holds Try.pinned (OpenSpec.ofChange Rows.cellViewsSpec) :=
  OpenClaim.holds_of_wide 4 Try.f4 rfl rfl rfl rfl rfl rfl rfl ⟨rfl, rfl, rfl, rfl, rfl⟩ rfl rfl rfl rfl rfl (by kernel_rfl) Try.func4 (by kernel_rfl)
    (of_decide_eq_true (by kernel_rfl)) (by unfold Func.isWrapper; first | (rw [if_pos (by decide +kernel)]; kernel_rfl) | (rw [if_neg (by decide +kernel)]; exact ⟨rfl, rfl⟩))
    (fun os started H enc _ => cellViews_lifted os started H enc)

theorem cellViews_holds : Rows.CellViewsSaid :=
  cellViews_over
end Go.Proofs.Ytigkocdjllfhnaa.Celly
