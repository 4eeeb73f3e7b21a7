/- The program's log: a record is put behind all. The only condition: places are not near the end of the numbers. -/
import Derived.Test.YtajpmlmacnomfaaLogProg
namespace Go.Proofs.Ytajpmlmacnomfaa.Logy
open Go.ChangeShapes Go.WideShapes Go.ChangeAt Go.RowKit
open Wirey (Blk Row str str_size str_list str_cat Kp)
open Regy Slsy
section
variable {w0 w w' : World} {P S : Nat → Prop} {b base most : Nat} {l : List Rc}
set_option maxHeartbeats 2000000 in
set_option maxRecDepth 100000 in
theorem add_q (x : Rc) (hs : x.seq < 18446744073709551616) (hb : base + 500 < 18446744073709551616) (h : HeldL w0 w P b base most l) : Calls Try.prog 16 #[lp b, .agg x.cs] w fun e w' => e = .returned (.int .i64 (addE base most l x : Int)) ∧ ∃ P', HeldL w0 w' P' b base most (addL base most l x) ∧ Mv P P' w w' := by
  have hle := h.le
  have hX := Blk.new w RT #[.int .u64 (x.seq : Int), .int .u64 (x.now : Int), .int .u64 (x.ses : Int), .int .u64 (x.num : Int), .int .i64 x.kind, .string (str x.key), .string (str x.val), .int .u64 (x.ttl : Int), .int .u64 (x.ver : Int)]
  have hb1 : Below w.heap.size w (w.alloc (.cells #[.int .u64 (x.seq : Int), .int .u64 (x.now : Int), .int .u64 (x.ses : Int), .int .u64 (x.num : Int), .int .i64 x.kind, .string (str x.key), .string (str x.val), .int .u64 (x.ttl : Int), .int .u64 (x.ver : Int)] RT)) := (Below.refl _ w).alloc (Nat.le_refl _) _
  have h1 := h.below hb1
  by_cases e0 : x.seq = 0
  · have hE : addE base most l x = 123 := by unfold addE; rw [if_pos (by omega)]
    have hL : addL base most l x = l := by unfold addL; rw [if_pos (by omega)]
    rw [hE, hL]
    clear hE hL
    have d0 : ((x.seq : Int) == 0) = true := by rw [e0]; rfl
    clear e0
    go_enter Try.func16, Try.ntmps16
    go_wp2_with fail
    generalize w.alloc (.cells #[.int .u64 (x.seq : Int), .int .u64 (x.now : Int), .int .u64 (x.ses : Int), .int .u64 (x.num : Int), .int .i64 x.kind, .string (str x.key), .string (str x.val), .int .u64 (x.ttl : Int), .int .u64 (x.ver : Int)] RT) = w1 at *
    obtain ⟨a, c, c0, c1, c2⟩ := h1.cs
    have mk : ∀ W, Below w1.heap.size w1 W → W.cell? ⟨w.heap.size, 0, none⟩ = some (.int .u64 (x.seq : Int)) ∧ Below w1.heap.size w1 W := fun W hW => ⟨(hX.below hW hX.lt).cell 0, hW⟩
    refine (made_l c1 hle.2).mono ?_
    rintro e w' ⟨rfl, rfl⟩
    go_wp2_with fail
    refine region_only 11 #[false, false, false, false, false, false, false, false, false, false, false] (S := fun W => W.cell? ⟨w.heap.size, 0, none⟩ = some (.int .u64 (x.seq : Int)) ∧ Below w1.heap.size w1 W) rfl rfl (by kernel_rfl) (mk _ (Below.refl _ _).drew) (fun hSw => ?_)
    refine take_at 0 8 (fuel := 10) ?_ rfl rfl (by kernel_rfl) (by kernel_rfl) (by kernel_rfl) (Or.inl ⟨by rfl, ?_⟩) hSw ?_
    rotate_left
    · intro wx hSx
      (try dsimp only at hSx)
      go_split_ands
      go_simp
      (try with_reducible rfl)
    simp only [List.setIfInBounds_toArray, List.set_cons_zero, List.set_cons_succ]
    refine take_at 1 9 (fuel := 9) ?_ rfl rfl (by kernel_rfl) (by kernel_rfl) (by kernel_rfl) (Or.inl ⟨by rfl, ?_⟩) hSw ?_
    rotate_left
    · intro wx hSx
      (try dsimp only at hSx)
      go_split_ands
      go_simp
      (try with_reducible rfl)
    simp only [List.setIfInBounds_toArray, List.set_cons_zero, List.set_cons_succ]
    refine take_at 2 10 (fuel := 8) ?_ rfl rfl (by kernel_rfl) (by kernel_rfl) (by kernel_rfl) (Or.inl ⟨by rfl, ?_⟩) hSw ?_
    rotate_left
    · intro wx hSx
      (try dsimp only at hSx)
      go_split_ands
      go_simp
      (try with_reducible rfl)
    simp only [List.setIfInBounds_toArray, List.set_cons_zero, List.set_cons_succ]
    refine take_at 3 11 (fuel := 7) ?_ rfl rfl (by kernel_rfl) (by kernel_rfl) (by kernel_rfl) (Or.inl ⟨by rfl, ?_⟩) hSw ?_
    rotate_left
    · intro wx hSx
      (try dsimp only at hSx)
      go_split_ands
      go_simp
      (try with_reducible rfl)
    simp only [List.setIfInBounds_toArray, List.set_cons_zero, List.set_cons_succ]
    refine take_at 4 12 undef (fuel := 6) rfl rfl (by kernel_rfl) (by kernel_rfl) (by kernel_rfl) (Or.inr ⟨by rfl, rfl⟩) hSw ?_
    simp only [List.setIfInBounds_toArray, List.set_cons_zero, List.set_cons_succ]
    refine take_at 5 13 undef (fuel := 5) rfl rfl (by kernel_rfl) (by kernel_rfl) (by kernel_rfl) (Or.inr ⟨by rfl, rfl⟩) hSw ?_
    simp only [List.setIfInBounds_toArray, List.set_cons_zero, List.set_cons_succ]
    refine take_at 6 14 undef (fuel := 4) rfl rfl (by kernel_rfl) (by kernel_rfl) (by kernel_rfl) (Or.inr ⟨by rfl, rfl⟩) hSw ?_
    simp only [List.setIfInBounds_toArray, List.set_cons_zero, List.set_cons_succ]
    refine take_at 7 15 undef (fuel := 3) rfl rfl (by kernel_rfl) (by kernel_rfl) (by kernel_rfl) (Or.inr ⟨by rfl, rfl⟩) hSw ?_
    simp only [List.setIfInBounds_toArray, List.set_cons_zero, List.set_cons_succ]
    refine take_at 8 16 undef (fuel := 2) rfl rfl (by kernel_rfl) (by kernel_rfl) (by kernel_rfl) (Or.inr ⟨by rfl, rfl⟩) hSw ?_
    simp only [List.setIfInBounds_toArray, List.set_cons_zero, List.set_cons_succ]
    refine take_at 9 17 undef (fuel := 1) rfl rfl (by kernel_rfl) (by kernel_rfl) (by kernel_rfl) (Or.inr ⟨by rfl, rfl⟩) hSw ?_
    simp only [List.setIfInBounds_toArray, List.set_cons_zero, List.set_cons_succ]
    refine take_at 10 18 (fuel := 0) ?_ rfl rfl (by kernel_rfl) (by kernel_rfl) (by kernel_rfl) (Or.inl ⟨by rfl, ?_⟩) hSw ?_
    rotate_left
    · intro wx hSx
      (try dsimp only at hSx)
      go_split_ands
      go_simp
      (try with_reducible rfl)
    simp only [List.setIfInBounds_toArray, List.set_cons_zero, List.set_cons_succ]
    refine wpAnyH_done (by kernel_rfl) ⟨rfl, ?_⟩ 0
    go_wp2_with fail
    go_ret
    exact ⟨rfl, P, h1.below hSw.2, ⟨Kp.of_below (hb1.trans (hSw.2.mono hb1.size)), fun _ h => .inl h⟩⟩
  have d0 : ((x.seq : Int) == 0) = false := beq_eq_false_iff_ne.2 (by omega)
  have hw1 : IntKind.u64.wrap ((x.seq : Int) - 1) = (x.seq : Int) - 1 := IntWalk.u64_in _ (by omega)
  by_cases e1 : x.seq = base + l.length + 1
  rotate_left
  · have hE : addE base most l x = 123 := by unfold addE; rw [if_pos e1]
    have hL : addL base most l x = l := by unfold addL; rw [if_pos e1]
    rw [hE, hL]
    clear hE hL
    have d2 : ((x.seq : Int) - 1 == ((base + l.length : Nat) : Int)) = false := beq_eq_false_iff_ne.2 (by omega)
    have d3 : ¬ (x.seq : Int) - 1 = ((base + l.length : Nat) : Int) := by omega
    go_enter Try.func16, Try.ntmps16
    go_wp2_with fail
    generalize w.alloc (.cells #[.int .u64 (x.seq : Int), .int .u64 (x.now : Int), .int .u64 (x.ses : Int), .int .u64 (x.num : Int), .int .i64 x.kind, .string (str x.key), .string (str x.val), .int .u64 (x.ttl : Int), .int .u64 (x.ver : Int)] RT) = w1 at *
    obtain ⟨a, c, c0, c1, c2⟩ := h1.cs
    have mk : ∀ W, Below w1.heap.size w1 W → W.cell? ⟨w.heap.size, 0, none⟩ = some (.int .u64 (x.seq : Int)) ∧ Below w1.heap.size w1 W := fun W hW => ⟨(hX.below hW hX.lt).cell 0, hW⟩
    refine (made_l c1 hle.2).mono ?_
    rintro e w' ⟨rfl, rfl⟩
    go_wp2_with fail
    refine region_only 11 #[false, false, false, false, false, false, false, false, false, false, false] (S := fun W => W.cell? ⟨w.heap.size, 0, none⟩ = some (.int .u64 (x.seq : Int)) ∧ Below w1.heap.size w1 W) rfl rfl (by kernel_rfl) (mk _ (Below.refl _ _).drew) (fun hSw => ?_)
    refine take_at 0 8 (fuel := 10) ?_ rfl rfl (by kernel_rfl) (by kernel_rfl) (by kernel_rfl) (Or.inl ⟨by rfl, ?_⟩) hSw ?_
    rotate_left
    · intro wx hSx
      (try dsimp only at hSx)
      go_split_ands
      go_simp
      (try with_reducible rfl)
    simp only [List.setIfInBounds_toArray, List.set_cons_zero, List.set_cons_succ]
    refine take_at 1 9 (fuel := 9) ?_ rfl rfl (by kernel_rfl) (by kernel_rfl) (by kernel_rfl) (Or.inl ⟨by rfl, ?_⟩) hSw ?_
    rotate_left
    · intro wx hSx
      (try dsimp only at hSx)
      go_split_ands
      go_simp
      (try with_reducible rfl)
    simp only [List.setIfInBounds_toArray, List.set_cons_zero, List.set_cons_succ]
    refine take_at 2 10 (fuel := 8) ?_ rfl rfl (by kernel_rfl) (by kernel_rfl) (by kernel_rfl) (Or.inl ⟨by rfl, ?_⟩) hSw ?_
    rotate_left
    · intro wx hSx
      (try dsimp only at hSx)
      go_split_ands
      go_simp
      (try with_reducible rfl)
    simp only [List.setIfInBounds_toArray, List.set_cons_zero, List.set_cons_succ]
    refine take_at 3 11 (fuel := 7) ?_ rfl rfl (by kernel_rfl) (by kernel_rfl) (by kernel_rfl) (Or.inl ⟨by rfl, ?_⟩) hSw ?_
    rotate_left
    · intro wx hSx
      (try dsimp only at hSx)
      go_split_ands
      go_simp
      (try with_reducible rfl)
    simp only [List.setIfInBounds_toArray, List.set_cons_zero, List.set_cons_succ]
    refine take_at 4 12 (fuel := 6) ?_ rfl rfl (by kernel_rfl) (by kernel_rfl) (by kernel_rfl) (Or.inl ⟨by rfl, ?_⟩) hSw ?_
    rotate_left
    · intro wx hSx
      (try dsimp only at hSx)
      go_split_ands
      go_simp
      (try with_reducible rfl)
    simp only [List.setIfInBounds_toArray, List.set_cons_zero, List.set_cons_succ]
    refine take_at 5 13 (fuel := 5) ?_ rfl rfl (by kernel_rfl) (by kernel_rfl) (by kernel_rfl) (Or.inl ⟨by rfl, ?_⟩) hSw ?_
    rotate_left
    · intro wx hSx
      (try dsimp only at hSx)
      go_split_ands
      go_simp
      (try with_reducible rfl)
    simp only [List.setIfInBounds_toArray, List.set_cons_zero, List.set_cons_succ]
    refine take_at 6 14 (fuel := 4) ?_ rfl rfl (by kernel_rfl) (by kernel_rfl) (by kernel_rfl) (Or.inl ⟨by rfl, ?_⟩) hSw ?_
    rotate_left
    · intro wx hSx
      (try dsimp only at hSx)
      go_split_ands
      go_simp
      (try with_reducible rfl)
    simp only [List.setIfInBounds_toArray, List.set_cons_zero, List.set_cons_succ]
    refine take_at 7 15 (fuel := 3) ?_ rfl rfl (by kernel_rfl) (by kernel_rfl) (by kernel_rfl) (Or.inl ⟨by rfl, ?_⟩) hSw ?_
    rotate_left
    · intro wx hSx
      (try dsimp only at hSx)
      go_split_ands
      go_simp
      (try with_reducible rfl)
    simp only [List.setIfInBounds_toArray, List.set_cons_zero, List.set_cons_succ]
    refine wpAnyH_ready (fuel := 2) (rs := [8]) (by kernel_rfl) (by simp) (AllReadyH.cons rfl (fun K hK => ?_) AllReadyH.nil)
    go_simp
    refine Calls.mono (last_q hb (h1.below hSw.2)) ?_
    rintro e wv ⟨rfl, hbv⟩
    refine hK.out _ _ (mk _ (hSw.2.trans (hbv.mono hSw.2.size))) (fun hSw => ?_)
    clear hK K
    simp only [List.setIfInBounds_toArray, List.set_cons_zero, List.set_cons_succ]
    refine take_at 9 17 (fuel := 1) ?_ rfl rfl (by kernel_rfl) (by kernel_rfl) (by kernel_rfl) (Or.inl ⟨by rfl, ?_⟩) hSw ?_
    rotate_left
    · intro wx hSx
      (try dsimp only at hSx)
      go_split_ands
      go_simp
      (try with_reducible rfl)
    simp only [List.setIfInBounds_toArray, List.set_cons_zero, List.set_cons_succ]
    refine take_at 10 18 (fuel := 0) ?_ rfl rfl (by kernel_rfl) (by kernel_rfl) (by kernel_rfl) (Or.inl ⟨by rfl, ?_⟩) hSw ?_
    rotate_left
    · intro wx hSx
      (try dsimp only at hSx)
      go_split_ands
      go_simp
      (try with_reducible rfl)
    simp only [List.setIfInBounds_toArray, List.set_cons_zero, List.set_cons_succ]
    refine wpAnyH_done (by kernel_rfl) ⟨rfl, ?_⟩ 0
    (try rw [hw1])
    go_wp2_with fail
    go_ret
    exact ⟨rfl, P, h1.below hSw.2, ⟨Kp.of_below (hb1.trans (hSw.2.mono hb1.size)), fun _ h => .inl h⟩⟩
  have e9 : (IntKind.u64.wrap ((x.seq : Int) - 1) != (base : Int) + (l.length : Int)) = false := by rw [hw1, bne_eq_false_iff_eq]; omega
  have E9 := Lib.hid e9
  clear e9 hw1
  by_cases e2 : most ≤ l.length
  · have hE : addE base most l x = 130 := by unfold addE; rw [if_neg (by omega), if_pos e2]
    have hL : addL base most l x = l := by unfold addL; rw [if_neg (by omega), if_pos e2]
    rw [hE, hL]
    clear hE hL
    have d2 : decide (((most - l.length : Nat) : Int) = 0) = true := decide_eq_true (by omega)
    clear e1
    go_enter Try.func16, Try.ntmps16
    go_wp2_with fail
    generalize w.alloc (.cells #[.int .u64 (x.seq : Int), .int .u64 (x.now : Int), .int .u64 (x.ses : Int), .int .u64 (x.num : Int), .int .i64 x.kind, .string (str x.key), .string (str x.val), .int .u64 (x.ttl : Int), .int .u64 (x.ver : Int)] RT) = w1 at *
    obtain ⟨a, c, c0, c1, c2⟩ := h1.cs
    have mk : ∀ W, Below w1.heap.size w1 W → W.cell? ⟨w.heap.size, 0, none⟩ = some (.int .u64 (x.seq : Int)) ∧ Below w1.heap.size w1 W := fun W hW => ⟨(hX.below hW hX.lt).cell 0, hW⟩
    refine (made_l c1 hle.2).mono ?_
    rintro e w' ⟨rfl, rfl⟩
    go_wp2_with fail
    refine region_only 11 #[false, false, false, false, false, false, false, false, false, false, false] (S := fun W => W.cell? ⟨w.heap.size, 0, none⟩ = some (.int .u64 (x.seq : Int)) ∧ Below w1.heap.size w1 W) rfl rfl (by kernel_rfl) (mk _ (Below.refl _ _).drew) (fun hSw => ?_)
    refine take_at 0 8 (fuel := 10) ?_ rfl rfl (by kernel_rfl) (by kernel_rfl) (by kernel_rfl) (Or.inl ⟨by rfl, ?_⟩) hSw ?_
    rotate_left
    · intro wx hSx
      (try dsimp only at hSx)
      go_split_ands
      go_simp
      (try with_reducible rfl)
    simp only [List.setIfInBounds_toArray, List.set_cons_zero, List.set_cons_succ]
    refine take_at 1 9 (fuel := 9) ?_ rfl rfl (by kernel_rfl) (by kernel_rfl) (by kernel_rfl) (Or.inl ⟨by rfl, ?_⟩) hSw ?_
    rotate_left
    · intro wx hSx
      (try dsimp only at hSx)
      go_split_ands
      go_simp
      (try with_reducible rfl)
    simp only [List.setIfInBounds_toArray, List.set_cons_zero, List.set_cons_succ]
    refine take_at 2 10 (fuel := 8) ?_ rfl rfl (by kernel_rfl) (by kernel_rfl) (by kernel_rfl) (Or.inl ⟨by rfl, ?_⟩) hSw ?_
    rotate_left
    · intro wx hSx
      (try dsimp only at hSx)
      go_split_ands
      go_simp
      (try with_reducible rfl)
    simp only [List.setIfInBounds_toArray, List.set_cons_zero, List.set_cons_succ]
    refine take_at 3 11 (fuel := 7) ?_ rfl rfl (by kernel_rfl) (by kernel_rfl) (by kernel_rfl) (Or.inl ⟨by rfl, ?_⟩) hSw ?_
    rotate_left
    · intro wx hSx
      (try dsimp only at hSx)
      go_split_ands
      go_simp
      (try with_reducible rfl)
    simp only [List.setIfInBounds_toArray, List.set_cons_zero, List.set_cons_succ]
    refine take_at 4 12 (fuel := 6) ?_ rfl rfl (by kernel_rfl) (by kernel_rfl) (by kernel_rfl) (Or.inl ⟨by rfl, ?_⟩) hSw ?_
    rotate_left
    · intro wx hSx
      (try dsimp only at hSx)
      go_split_ands
      go_simp
      (try with_reducible rfl)
    simp only [List.setIfInBounds_toArray, List.set_cons_zero, List.set_cons_succ]
    refine take_at 5 13 (fuel := 5) ?_ rfl rfl (by kernel_rfl) (by kernel_rfl) (by kernel_rfl) (Or.inl ⟨by rfl, ?_⟩) hSw ?_
    rotate_left
    · intro wx hSx
      (try dsimp only at hSx)
      go_split_ands
      go_simp
      (try with_reducible rfl)
    simp only [List.setIfInBounds_toArray, List.set_cons_zero, List.set_cons_succ]
    refine take_at 6 14 (fuel := 4) ?_ rfl rfl (by kernel_rfl) (by kernel_rfl) (by kernel_rfl) (Or.inl ⟨by rfl, ?_⟩) hSw ?_
    rotate_left
    · intro wx hSx
      (try dsimp only at hSx)
      go_split_ands
      go_simp
      (try with_reducible rfl)
    simp only [List.setIfInBounds_toArray, List.set_cons_zero, List.set_cons_succ]
    refine take_at 7 15 (fuel := 3) ?_ rfl rfl (by kernel_rfl) (by kernel_rfl) (by kernel_rfl) (Or.inl ⟨by rfl, ?_⟩) hSw ?_
    rotate_left
    · intro wx hSx
      (try dsimp only at hSx)
      go_split_ands
      go_simp
      (try with_reducible rfl)
    simp only [List.setIfInBounds_toArray, List.set_cons_zero, List.set_cons_succ]
    refine wpAnyH_ready (fuel := 2) (rs := [8]) (by kernel_rfl) (by simp) (AllReadyH.cons rfl (fun K hK => ?_) AllReadyH.nil)
    go_simp
    refine Calls.mono (last_q hb (h1.below hSw.2)) ?_
    rintro e wv ⟨rfl, hbv⟩
    refine hK.out _ _ (mk _ (hSw.2.trans (hbv.mono hSw.2.size))) (fun hSw => ?_)
    clear hK K
    simp only [List.setIfInBounds_toArray, List.set_cons_zero, List.set_cons_succ]
    refine take_at 9 17 (fuel := 1) ?_ rfl rfl (by kernel_rfl) (by kernel_rfl) (by kernel_rfl) (Or.inl ⟨by rfl, ?_⟩) hSw ?_
    rotate_left
    · intro wx hSx
      (try dsimp only at hSx)
      go_split_ands
      go_simp
      (try with_reducible rfl)
    simp only [List.setIfInBounds_toArray, List.set_cons_zero, List.set_cons_succ]
    refine take_at 10 18 (fuel := 0) ?_ rfl rfl (by kernel_rfl) (by kernel_rfl) (by kernel_rfl) (Or.inl ⟨by rfl, ?_⟩) hSw ?_
    rotate_left
    · intro wx hSx
      (try dsimp only at hSx)
      go_split_ands
      go_simp
      (try with_reducible rfl)
    simp only [List.setIfInBounds_toArray, List.set_cons_zero, List.set_cons_succ]
    refine wpAnyH_done (by kernel_rfl) ⟨rfl, ?_⟩ 0
    have hB3 := hSw.2
    rw [E9.out]
    go_wp2_with fail
    refine (room_c (h1.below hSw.2)).mono ?_
    rintro e w3 ⟨rfl, hb3⟩
    have hB4 := hB3.trans (hb3.mono hB3.size)
    go_wp2_with fail
    go_ret
    exact ⟨rfl, P, h1.below hB4, ⟨Kp.of_below (hb1.trans (hB4.mono hb1.size)), fun _ h => .inl h⟩⟩
  · have hE : addE base most l x = 0 := by unfold addE; rw [if_neg (by omega), if_neg e2]
    have hL : addL base most l x = l ++ [x] := by unfold addL; rw [if_neg (by omega), if_neg e2]
    rw [hE, hL]
    clear hE hL
    have d2 : decide (((most - l.length : Nat) : Int) = 0) = false := decide_eq_false (by omega)
    clear e1
    go_enter Try.func16, Try.ntmps16
    go_wp2_with fail
    generalize w.alloc (.cells #[.int .u64 (x.seq : Int), .int .u64 (x.now : Int), .int .u64 (x.ses : Int), .int .u64 (x.num : Int), .int .i64 x.kind, .string (str x.key), .string (str x.val), .int .u64 (x.ttl : Int), .int .u64 (x.ver : Int)] RT) = w1 at *
    obtain ⟨a, c, c0, c1, c2⟩ := h1.cs
    have mk : ∀ W, Below w1.heap.size w1 W → W.cell? ⟨w.heap.size, 0, none⟩ = some (.int .u64 (x.seq : Int)) ∧ Below w1.heap.size w1 W := fun W hW => ⟨(hX.below hW hX.lt).cell 0, hW⟩
    refine (made_l c1 hle.2).mono ?_
    rintro e w' ⟨rfl, rfl⟩
    go_wp2_with fail
    refine region_only 11 #[false, false, false, false, false, false, false, false, false, false, false] (S := fun W => W.cell? ⟨w.heap.size, 0, none⟩ = some (.int .u64 (x.seq : Int)) ∧ Below w1.heap.size w1 W) rfl rfl (by kernel_rfl) (mk _ (Below.refl _ _).drew) (fun hSw => ?_)
    refine take_at 0 8 (fuel := 10) ?_ rfl rfl (by kernel_rfl) (by kernel_rfl) (by kernel_rfl) (Or.inl ⟨by rfl, ?_⟩) hSw ?_
    rotate_left
    · intro wx hSx
      (try dsimp only at hSx)
      go_split_ands
      go_simp
      (try with_reducible rfl)
    simp only [List.setIfInBounds_toArray, List.set_cons_zero, List.set_cons_succ]
    refine take_at 1 9 (fuel := 9) ?_ rfl rfl (by kernel_rfl) (by kernel_rfl) (by kernel_rfl) (Or.inl ⟨by rfl, ?_⟩) hSw ?_
    rotate_left
    · intro wx hSx
      (try dsimp only at hSx)
      go_split_ands
      go_simp
      (try with_reducible rfl)
    simp only [List.setIfInBounds_toArray, List.set_cons_zero, List.set_cons_succ]
    refine take_at 2 10 (fuel := 8) ?_ rfl rfl (by kernel_rfl) (by kernel_rfl) (by kernel_rfl) (Or.inl ⟨by rfl, ?_⟩) hSw ?_
    rotate_left
    · intro wx hSx
      (try dsimp only at hSx)
      go_split_ands
      go_simp
      (try with_reducible rfl)
    simp only [List.setIfInBounds_toArray, List.set_cons_zero, List.set_cons_succ]
    refine take_at 3 11 (fuel := 7) ?_ rfl rfl (by kernel_rfl) (by kernel_rfl) (by kernel_rfl) (Or.inl ⟨by rfl, ?_⟩) hSw ?_
    rotate_left
    · intro wx hSx
      (try dsimp only at hSx)
      go_split_ands
      go_simp
      (try with_reducible rfl)
    simp only [List.setIfInBounds_toArray, List.set_cons_zero, List.set_cons_succ]
    refine take_at 4 12 (fuel := 6) ?_ rfl rfl (by kernel_rfl) (by kernel_rfl) (by kernel_rfl) (Or.inl ⟨by rfl, ?_⟩) hSw ?_
    rotate_left
    · intro wx hSx
      (try dsimp only at hSx)
      go_split_ands
      go_simp
      (try with_reducible rfl)
    simp only [List.setIfInBounds_toArray, List.set_cons_zero, List.set_cons_succ]
    refine take_at 5 13 (fuel := 5) ?_ rfl rfl (by kernel_rfl) (by kernel_rfl) (by kernel_rfl) (Or.inl ⟨by rfl, ?_⟩) hSw ?_
    rotate_left
    · intro wx hSx
      (try dsimp only at hSx)
      go_split_ands
      go_simp
      (try with_reducible rfl)
    simp only [List.setIfInBounds_toArray, List.set_cons_zero, List.set_cons_succ]
    refine take_at 6 14 (fuel := 4) ?_ rfl rfl (by kernel_rfl) (by kernel_rfl) (by kernel_rfl) (Or.inl ⟨by rfl, ?_⟩) hSw ?_
    rotate_left
    · intro wx hSx
      (try dsimp only at hSx)
      go_split_ands
      go_simp
      (try with_reducible rfl)
    simp only [List.setIfInBounds_toArray, List.set_cons_zero, List.set_cons_succ]
    refine take_at 7 15 (fuel := 3) ?_ rfl rfl (by kernel_rfl) (by kernel_rfl) (by kernel_rfl) (Or.inl ⟨by rfl, ?_⟩) hSw ?_
    rotate_left
    · intro wx hSx
      (try dsimp only at hSx)
      go_split_ands
      go_simp
      (try with_reducible rfl)
    simp only [List.setIfInBounds_toArray, List.set_cons_zero, List.set_cons_succ]
    refine wpAnyH_ready (fuel := 2) (rs := [8]) (by kernel_rfl) (by simp) (AllReadyH.cons rfl (fun K hK => ?_) AllReadyH.nil)
    go_simp
    refine Calls.mono (last_q hb (h1.below hSw.2)) ?_
    rintro e wv ⟨rfl, hbv⟩
    refine hK.out _ _ (mk _ (hSw.2.trans (hbv.mono hSw.2.size))) (fun hSw => ?_)
    clear hK K
    simp only [List.setIfInBounds_toArray, List.set_cons_zero, List.set_cons_succ]
    refine take_at 9 17 (fuel := 1) ?_ rfl rfl (by kernel_rfl) (by kernel_rfl) (by kernel_rfl) (Or.inl ⟨by rfl, ?_⟩) hSw ?_
    rotate_left
    · intro wx hSx
      (try dsimp only at hSx)
      go_split_ands
      go_simp
      (try with_reducible rfl)
    simp only [List.setIfInBounds_toArray, List.set_cons_zero, List.set_cons_succ]
    refine take_at 10 18 (fuel := 0) ?_ rfl rfl (by kernel_rfl) (by kernel_rfl) (by kernel_rfl) (Or.inl ⟨by rfl, ?_⟩) hSw ?_
    rotate_left
    · intro wx hSx
      (try dsimp only at hSx)
      go_split_ands
      go_simp
      (try with_reducible rfl)
    simp only [List.setIfInBounds_toArray, List.set_cons_zero, List.set_cons_succ]
    refine wpAnyH_done (by kernel_rfl) ⟨rfl, ?_⟩ 0
    have hB3 := hSw.2
    rw [E9.out]
    go_wp2_with fail
    refine (room_c (h1.below hSw.2)).mono ?_
    rintro e w3 ⟨rfl, hb3⟩
    have hB4 := hB3.trans (hb3.mono hB3.size)
    go_wp2_with fail
    have h2 := h1.below hB4
    have hX2 := hX.below hB4 hX.lt
    clear hSw hB3 hb3 mk c0 c1 c2 h1
    generalize w3 = w2 at *
    obtain ⟨v, hb0, hd, ho, hl, hm, hP⟩ := h2
    obtain ⟨a, c, rfl⟩ := ho.form
    obtain ⟨a', ha'⟩ : ∃ a' : Value, a' = .slice a l.length c := ⟨_, rfl⟩
    have hA := Lib.hid ha'
    have hdl := hd.lt
    have hxl := hX2.lt
    have hbB : ¬ a'.ownBlock = some b := by
      rw [ha']
      intro e
      obtain ⟨g, cap, cur, hv, -, hb9, -⟩ := ho.2.resolve_left (fun h => by rw [h.1] at e; cases e)
      rw [hv] at e
      have e2 := Option.some.inj e
      subst e2
      have e3 := hd.symm.trans hb9
      injection e3 with e3
      injection e3 with _ e4
      exact absurd e4 (by decide)
    have hXB : ¬ a'.ownBlock = some w.heap.size := by
      rw [ha']
      intro e
      have h3 := hP w.heap.size
      have h4 := h.low w.heap.size
      have h5 := (h.low w.heap.size)
      obtain ⟨vv, -, -, -, -, -, hPh⟩ := h
      exact absurd (h4 (h3.2 (.inr e))).2 (Nat.lt_irrefl _)
    clear ha'
    obtain ⟨i0, hi0, hz0, hz1, hz2⟩ : ∃ i0, Try.prog.info? 43 = some i0 ∧ i0.zero = some zRec ∧ i0.size = 9 ∧ i0.bytes = 88 := rec_parts
    have cs : ∀ {W : World}, Kp (fun k => a'.ownBlock = some k) w2 W → (fun W : World => W.cell? ⟨b, 2, none⟩ = some (.slice a l.length c) ∧ W.cell? ⟨w.heap.size, 0, none⟩ = some (.int .u64 (x.seq : Int)) ∧ W.cell? ⟨w.heap.size, 1, none⟩ = some (.int .u64 (x.now : Int)) ∧ W.cell? ⟨w.heap.size, 2, none⟩ = some (.int .u64 (x.ses : Int)) ∧ W.cell? ⟨w.heap.size, 3, none⟩ = some (.int .u64 (x.num : Int)) ∧ W.cell? ⟨w.heap.size, 4, none⟩ = some (.int .i64 x.kind) ∧ W.cell? ⟨w.heap.size, 5, none⟩ = some (.string (str x.key)) ∧ W.cell? ⟨w.heap.size, 6, none⟩ = some (.string (str x.val)) ∧ W.cell? ⟨w.heap.size, 7, none⟩ = some (.int .u64 (x.ttl : Int)) ∧ W.cell? ⟨w.heap.size, 8, none⟩ = some (.int .u64 (x.ver : Int))) W := fun {W} hW => by
      have q0 : W.cell? ⟨b, 2, none⟩ = some (.slice a l.length c) := (hW.blk hd hbB).cell 2
      have q1 := hW.blk hX2 hXB
      exact ⟨q0, q1.cell 0, q1.cell 1, q1.cell 2, q1.cell 3, q1.cell 4, q1.cell 5, q1.cell 6, q1.cell 7, q1.cell 8⟩
    have k0 : Kp (fun k => a'.ownBlock = some k) w2 w2.drew := ⟨rfl, rfl, rfl, Nat.le_refl _, fun _ _ _ => rfl⟩
    replace ho : Ow w2.drew w0.heap.size RT Rc.enc 9 (.slice a l.length c) l := ho
    have hsz : w0.heap.size < w2.drew.heap.size := Nat.lt_of_le_of_lt hb0 hdl
    have hb0' := hb0
    refine regionK_only 11 #[false, false, false, false, false, false, false, false, false, false, false] 10 (V := (fun W : World => W.cell? ⟨b, 2, none⟩ = some (.slice a l.length c) ∧ W.cell? ⟨w.heap.size, 0, none⟩ = some (.int .u64 (x.seq : Int)) ∧ W.cell? ⟨w.heap.size, 1, none⟩ = some (.int .u64 (x.now : Int)) ∧ W.cell? ⟨w.heap.size, 2, none⟩ = some (.int .u64 (x.ses : Int)) ∧ W.cell? ⟨w.heap.size, 3, none⟩ = some (.int .u64 (x.num : Int)) ∧ W.cell? ⟨w.heap.size, 4, none⟩ = some (.int .i64 x.kind) ∧ W.cell? ⟨w.heap.size, 5, none⟩ = some (.string (str x.key)) ∧ W.cell? ⟨w.heap.size, 6, none⟩ = some (.string (str x.val)) ∧ W.cell? ⟨w.heap.size, 7, none⟩ = some (.int .u64 (x.ttl : Int)) ∧ W.cell? ⟨w.heap.size, 8, none⟩ = some (.int .u64 (x.ver : Int)))) rfl rfl (by kernel_rfl) (cs k0) (fun hSw => ?_)
    generalize w2.drew = w20 at k0 ho hsz hSw ⊢
    refine early_at 10 0 22 (fuel := 10) ?_ rfl rfl (by kernel_rfl) (by kernel_rfl) (by kernel_rfl) (by decide) rfl (by kernel_rfl) (by kernel_rfl) (Or.inl ⟨by rfl, ?_⟩) hSw ?_
    rotate_left
    · intro wx hSx
      (try dsimp only at hSx)
      go_split_ands
      go_simp
      (try with_reducible rfl)
    simp only [List.setIfInBounds_toArray, List.set_cons_zero, List.set_cons_succ]
    refine early_at 10 1 23 (fuel := 9) ?_ rfl rfl (by kernel_rfl) (by kernel_rfl) (by kernel_rfl) (by decide) rfl (by kernel_rfl) (by kernel_rfl) (Or.inl ⟨by rfl, ?_⟩) hSw ?_
    rotate_left
    · intro wx hSx
      (try dsimp only at hSx)
      go_split_ands
      go_simp
      (try with_reducible rfl)
    simp only [List.setIfInBounds_toArray, List.set_cons_zero, List.set_cons_succ]
    refine early_at 10 2 24 (fuel := 8) ?_ rfl rfl (by kernel_rfl) (by kernel_rfl) (by kernel_rfl) (by decide) rfl (by kernel_rfl) (by kernel_rfl) (Or.inl ⟨by rfl, ?_⟩) hSw ?_
    rotate_left
    · intro wx hSx
      (try dsimp only at hSx)
      go_split_ands
      go_simp
      (try with_reducible rfl)
    simp only [List.setIfInBounds_toArray, List.set_cons_zero, List.set_cons_succ]
    refine early_at 10 3 25 (fuel := 7) ?_ rfl rfl (by kernel_rfl) (by kernel_rfl) (by kernel_rfl) (by decide) rfl (by kernel_rfl) (by kernel_rfl) (Or.inl ⟨by rfl, ?_⟩) hSw ?_
    rotate_left
    · intro wx hSx
      (try dsimp only at hSx)
      go_split_ands
      go_simp
      (try with_reducible rfl)
    simp only [List.setIfInBounds_toArray, List.set_cons_zero, List.set_cons_succ]
    refine early_at 10 4 26 (fuel := 6) ?_ rfl rfl (by kernel_rfl) (by kernel_rfl) (by kernel_rfl) (by decide) rfl (by kernel_rfl) (by kernel_rfl) (Or.inl ⟨by rfl, ?_⟩) hSw ?_
    rotate_left
    · intro wx hSx
      (try dsimp only at hSx)
      go_split_ands
      go_simp
      (try with_reducible rfl)
    simp only [List.setIfInBounds_toArray, List.set_cons_zero, List.set_cons_succ]
    refine early_at 10 5 27 (fuel := 5) ?_ rfl rfl (by kernel_rfl) (by kernel_rfl) (by kernel_rfl) (by decide) rfl (by kernel_rfl) (by kernel_rfl) (Or.inl ⟨by rfl, ?_⟩) hSw ?_
    rotate_left
    · intro wx hSx
      (try dsimp only at hSx)
      go_split_ands
      go_simp
      (try with_reducible rfl)
    simp only [List.setIfInBounds_toArray, List.set_cons_zero, List.set_cons_succ]
    refine Wirey.wpAnyK_one 6 (by kernel_rfl) rfl (fun K hK => ?_)
    go_simp
    have k3 : Kp (fun k => a'.ownBlock = some k) w2 (w20.alloc (.cells #[.int .u64 (x.seq : Int), .int .u64 (x.now : Int), .int .u64 (x.ses : Int), .int .u64 (x.num : Int), .int .i64 x.kind, .string (str x.key), .string (str x.val), .int .u64 (x.ttl : Int), .int .u64 (x.ver : Int)] RT)) := k0.alloc _
    refine hK.out _ _ trivial (fun _ => cs k3) ?_
    clear hK K
    simp only [List.setIfInBounds_toArray, List.set_cons_zero, List.set_cons_succ]
    refine Wirey.wpAnyK_one 7 (by kernel_rfl) rfl (fun K hK => ?_)
    have hX3 := Blk.new w20 RT #[.int .u64 (x.seq : Int), .int .u64 (x.now : Int), .int .u64 (x.ses : Int), .int .u64 (x.num : Int), .int .i64 x.kind, .string (str x.key), .string (str x.val), .int .u64 (x.ttl : Int), .int .u64 (x.ver : Int)]
    have ho3 := ho.alloc (.cells #[.int .u64 (x.seq : Int), .int .u64 (x.now : Int), .int .u64 (x.ses : Int), .int .u64 (x.num : Int), .int .i64 x.kind, .string (str x.key), .string (str x.val), .int .u64 (x.ttl : Int), .int .u64 (x.ver : Int)] RT)
    have hs3 : w20.heap.size < (w20.alloc (.cells #[.int .u64 (x.seq : Int), .int .u64 (x.now : Int), .int .u64 (x.ses : Int), .int .u64 (x.num : Int), .int .i64 x.kind, .string (str x.key), .string (str x.val), .int .u64 (x.ttl : Int), .int .u64 (x.ver : Int)] RT)).heap.size := hX3.lt
    generalize w20.alloc (.cells #[.int .u64 (x.seq : Int), .int .u64 (x.now : Int), .int .u64 (x.ses : Int), .int .u64 (x.num : Int), .int .i64 x.kind, .string (str x.key), .string (str x.val), .int .u64 (x.ttl : Int), .int .u64 (x.ver : Int)] RT) = w21 at *
    refine step_append_own _ (by rfl) _ _ _ (by rfl) w0.heap.size 43 i0 _ 9 88 Try.underlying28 hi0 hz0 hz1 hz2 rfl (by omega) (.slice a l.length c) l.length (rws Rc.enc l) (by rfl) ho3 ⟨w20.heap.size, 0, none⟩ 1 1 x.enc (by rfl) (by rfl) (World.news_of_block (cs := #[.int .u64 (x.seq : Int), .int .u64 (x.now : Int), .int .u64 (x.ses : Int), .int .u64 (x.num : Int), .int .i64 x.kind, .string (str x.key), .string (str x.val), .int .u64 (x.ttl : Int), .int .u64 (x.ver : Int)]) (t := RT) (fr := (0, 0)) hX3) (Rc.one _) (by unfold maxLen; omega) (by omega) (by omega) ?_
    intro v2 w30 hown hgrow hat
    have k30 : Kp (fun k => a'.ownBlock = some k) w2 w30 := k3.trans ⟨hgrow.os, hgrow.tape, hgrow.output, hgrow.size, fun k hk hn => hgrow.block k hk (fun e => hn (hA.out ▸ e.symm))⟩
    have ho30 : Ow w30 w0.heap.size RT Rc.enc 9 v2 (l ++ [x]) := by unfold Ow; rw [List.length_append, rws_append, rws, rws, List.append_nil]; exact hown
    refine hK.out _ _ trivial (fun _ => cs k30) ?_
    have hSw := cs k30
    have hd30 := k30.blk hd hbB
    have y1 := hd30.cell 2
    have f1 := hd30.free 2
    simp only [List.getElem?_toArray, List.getElem?_cons_zero, List.getElem?_cons_succ] at y1
    clear hK K
    simp only [List.setIfInBounds_toArray, List.set_cons_zero, List.set_cons_succ]
    refine takeK_at 10 8 30 (fuel := 2) ?_ rfl rfl (by kernel_rfl) (by kernel_rfl) (by kernel_rfl) (by decide) (Or.inl ⟨by rfl, ?_⟩) hSw ?_
    rotate_left
    · intro wx hSx
      (try dsimp only at hSx)
      go_split_ands
      go_simp
      (try with_reducible rfl)
    simp only [List.setIfInBounds_toArray, List.set_cons_zero, List.set_cons_succ]
    refine early_at 10 9 31 (fuel := 1) ?_ rfl rfl (by kernel_rfl) (by kernel_rfl) (by kernel_rfl) (by decide) rfl (by kernel_rfl) (by kernel_rfl) (Or.inl ⟨by rfl, ?_⟩) hSw ?_
    rotate_left
    · intro wx hSx
      (try dsimp only at hSx)
      go_split_ands
      go_simp
      (try with_reducible rfl)
    simp only [List.setIfInBounds_toArray, List.set_cons_zero, List.set_cons_succ]
    refine Wirey.wpAnyK_one 10 (by kernel_rfl) rfl (fun K hK => ?_)
    obtain ⟨a2, c2', rfl⟩ := ho30.form
    go_simp
    refine hK.out _ _ trivial (fun h9 => absurd h9 (by decide)) ?_
    clear hK K
    refine Wirey.wpAnyK_done (by kernel_rfl) ⟨rfl, ?_⟩
    have hsz1 : w.heap.size ≤ w2.heap.size := Nat.le_trans hb1.size hB4.size
    have hsz2 := k0.size
    have hgb : ∀ g, (Value.slice a2 (l ++ [x]).length c2').ownBlock = some g → P g ∨ (w2.heap.size ≤ g ∧ g ≠ b) := fun g hg => by
      rcases hat with h | h
      · exact .inl ((hP g).2 (.inr (h ▸ hg)))
      · have e := Option.some.inj (h.symm.trans hg)
        exact .inr ⟨by omega, by omega⟩
    have hgn : ∀ g, (Value.slice a2 (l ++ [x]).length c2').ownBlock = some g → g ≠ b := fun g hg e => by
      rcases hat with h | h
      · exact hbB (hA.out ▸ (h.symm.trans (e ▸ hg)))
      · have e2 := Option.some.inj (h.symm.trans hg)
        omega
    have hd40 := hd30.put 2 (.slice a2 (l ++ [x]).length c2')
    simp only [List.setIfInBounds_toArray, List.set_cons_zero, List.set_cons_succ] at hd40
    have ho40 := ho30.stay (w' := w30.setCell ⟨b, 2, none⟩ (.slice a2 (l ++ [x]).length c2')) fun g hg => Below.heap_setCell _ _ _ _ (hgn g hg)
    have k40 : Kp P w (w30.setCell ⟨b, 2, none⟩ (.slice a2 (l ++ [x]).length c2')) :=
      ((Kp.of_below (S := P) (hb1.trans (hB4.mono hb1.size))).trans ⟨k30.os, k30.tape, k30.output, k30.size, fun k hk hn => k30.block k hk (fun e => hn ((hP k).2 (.inr (hA.out ▸ e))))⟩).set (p := ⟨b, 2, none⟩) ((hP b).2 (.inl rfl)) _
    clear hSw k30 ho30 hd30 k0 k3 ho ho3 hX3 hown hgrow cs y1 f1 hgn hat
    have hl2 : (l ++ [x]).length = l.length + 1 := List.length_append
    rw [hl2] at hd40 ho40 k40 hgb
    go_wp2_with fail
    go_ret
    exact ⟨rfl, fun k => k = b ∨ (Value.slice a2 (l.length + 1) c2').ownBlock = some k, ⟨_, hb0, hd40, ho40, by rw [hl2]; omega, hm, fun _ => Iff.rfl⟩, k40, fun k hk => hk.elim (fun e => .inl (e ▸ (hP b).2 (.inl rfl))) fun h => (hgb k h).imp id fun h => Nat.le_trans hsz1 h.1⟩
theorem add_c (x : Rc) (hs : x.seq < 18446744073709551616) (hb : base + 1000 < 18446744073709551616) (h : HeldL w0 w P b base most l) : Calls Try.prog 16 #[lp b, .agg x.cs] w fun e w' => e = .returned (.int .i64 (addE base most l x : Int)) ∧ ∃ P', HeldL w0 w' P' b base most (addL base most l x) ∧ Mv P P' w w' := add_q x hs (by omega) h
end
end Go.Proofs.Ytajpmlmacnomfaa.Logy
