/- The program's cache does a record, if it is the next one. The only condition: the cache may be; numbers are of 64 bits, and texts no longer than they may be. What sessions were told, in a map of its own. No condition. -/
import Derived.Test.YtkiabladmgagdabGreatDoorStoreOnce
import Derived.Test.YtkiabladmgagdabGreatDoorOpPutAll
import Derived.Test.YtkiabladmgagdabGreatDoorTabMoveAll
import Derived.Test.YtkiabladmgagdabGreatDoorLaysC
import Derived.Test.YtkiabladmgagdabGreatDoorSq
namespace Go.Proofs.YtkiabladmgagdabGreatDoor.Storey
open Go.ChangeShapes Go.WideShapes Go.ChangeAt Go.RowKit
open Wirey (Blk Row str str_size str_list str_cat Kp)
open Taby (En TabAt Tbl tp find ins drop size ended St)
open Policyy (Pv HeldP StepP Tell)
open Ringy (Key)
open Regy

section
variable {w0 w w' w'' : World} {B b T M C S : Nat} {H H' : Nat → Prop} {s t : Sv} {k : Key} {v : Value} {l : List Key} {o : Opn} {x : Rcd}
set_option maxHeartbeats 4000000 in
set_option maxRecDepth 100000 in
theorem apply_s (hO : s.Ok) (hx : x.Ok) (h : At w0 w b T M C S H s) :
  Calls Tryz.prog 11 #[tp b, .agg x.cs] w fun e w' => e = .returned (.tuple #[.agg (s.apply x).2.1.cs, .int .i64 ((s.apply x).2.2 : Int)]) ∧ ∃ H', At w0 w' b T M C S H' (s.apply x).1 ∧ Stp b T M S w H w' H' := by
 have hseq := hx.seq
 have hsq := hO.seq
 have hlen := hO.toBase.len.2
 have hn2 := hO.n2
 have hchk := fun W => Opy.pcheck_c x.op.kind x.op.key x.op.val x.op.ttl x.op.ver hx.key hx.val W
 have h1 := (h.alloc (.cells x.cs 38)).alloc (.cells rep0 45)
 have hq1 : Loc w.heap.size 38 x.cs b T M S H ((w.alloc (.cells x.cs 38)).alloc (.cells rep0 45)) := (Loc.new h _ _).alloc _
 have hr1 : Loc (w.heap.size + 1) 45 rep0 b T M S H ((w.alloc (.cells x.cs 38)).alloc (.cells rep0 45)) := by
  have := Loc.new (h.alloc (.cells x.cs 38)) 45 rep0
  rwa [show (w.alloc (.cells x.cs 38)).heap.size = w.heap.size + 1 by simp] at this
 have s1 : Stp b T M S w H ((w.alloc (.cells x.cs 38)).alloc (.cells rep0 45)) H := .of_below (((Below.refl _ w).alloc (Nat.le_refl _) _).alloc (by simp) _) (Nat.le_refl _)
 go_enter Tryz.func11, Tryz.ntmps11
 go_upto_region 1 with (fail)
 generalize (w.alloc (.cells x.cs 38)).alloc (.cells rep0 45) = w1 at *
 have hrq : w.heap.size ≤ w.heap.size + 1 := by omega
 have hqr : w.heap.size ≠ w.heap.size + 1 := by omega
 generalize hr : w.heap.size + 1 = r at *
 generalize hq : w.heap.size = q at hq1 hqr ⊢
 have hF : Fr w0 w b T M C S H q 38 x.cs r 45 rep0 w1 H s := ⟨h1, s1, hq1, hr1⟩
 clear h1 s1 hq1 hr1
 have hmade := made_s hF.at_
 have u0 : w1.cell? ⟨q, 4, none⟩ = some (.int .i64 x.op.kind) := hF.lq.c rfl
 have u1 : w1.cell? ⟨q, 5, none⟩ = some (.string (str x.op.key)) := hF.lq.c rfl
 have u2 : w1.cell? ⟨q, 6, none⟩ = some (.string (str x.op.val)) := hF.lq.c rfl
 have u3 : w1.cell? ⟨q, 7, none⟩ = some (.int .u64 x.op.ttl) := hF.lq.c rfl
 have u4 : w1.cell? ⟨q, 8, none⟩ = some (.int .u64 x.op.ver) := hF.lq.c rfl
 have hcd : Opy.chk x.op.kind x.op.key x.op.val x.op.ttl x.op.ver = x.op.chk := rfl
 rw [hcd] at hchk
 clear hcd
 go_wp2_with fail
 refine hmade.mono ?_
 rintro e w2 ⟨rfl, rfl⟩
 go_wp2_with fail
 refine (hchk _).mono ?_
 rintro e w3 ⟨rfl, hb3⟩
 replace hF := hF.below hb3
 clear hmade u0 u1 u2 u3 u4 hb3 hchk
 have u0 : w3.cell? ⟨q, 0, none⟩ = some (.int .u64 x.seq) := hF.lq.c rfl
 have u4 : w3.cell? ⟨b, 4, none⟩ = some (.int .u64 s.seq) := hF.at_.c rfl
 have z0 := hF.lr.f 0
 have z1 := hF.lr.f 1
 have z2 := hF.lr.f 2
 have z3 : w3.cell? ⟨r, 0, none⟩ = some (.int .i64 0) := hF.lr.c rfl
 have z4 : w3.cell? ⟨r, 1, none⟩ = some (.string ⟨#[]⟩) := hF.lr.c rfl
 have z5 : w3.cell? ⟨r, 2, none⟩ = some (.int .u64 0) := hF.lr.c rfl
 cases hc : x.op.chk with
 | false =>
  have HP : Hid (s.apply x = (s, .of 0, 1)) := Lib.hid (if_pos hc)
  go_wp2_with fail
  obtain ⟨zB, zA, zS⟩ := rep3 h hF.at_ hF.st hF.lr (by omega) (.int .i64 0) (.string ⟨#[]⟩) (.int .u64 0)
  exact bodyPost_ret (Taby.results_row_tmp rfl _ _ r rfl (run_loadVar_row _ _ _ _ _ _ _ zB Tryz.underlying45 rfl (by kernel_rfl))) rfl ⟨by rw [HP.out]; rfl, H, by rw [HP.out]; exact zA, zS⟩
 | true =>
  have HA : Hid (s.apply x = if x.seq ≠ s.seq + 1 then (s, .of 0, 123) else ((s.done x).1, (s.done x).2, 0)) := Lib.hid (if_neg (by rw [hc]; decide))
  clear z0 z1 z2 z3 z4 z5
  go_wp2_with fail
  have hFd := hF.drew
  by_cases a1 : x.seq = 0
  ·have HP : Hid (s.apply x = (s, .of 0, 123)) := Lib.hid (HA.out.trans (if_pos (by omega)))
   have d1 : ((x.seq : Int) == 0) = true := by rw [a1]; rfl
   clear a1
   refine region_only 13 #[false, false, false, false, false, false, false, false, false, false, false, false, false] (S := fun W => W.cell? ⟨q, 0, none⟩ = some (.int .u64 x.seq) ∧ W.cell? ⟨b, 4, none⟩ = some (.int .u64 s.seq)) rfl rfl (by kernel_rfl) ⟨u0, u4⟩ (fun hSw => ?_)
   refine tkA 0 16 12 ?_ rfl rfl ?_ hSw ?_
   rotate_left
   ·intro wx hSx; (try dsimp only at hSx); go_split_ands; go_simp; (try with_reducible rfl)
   simp only [sA, List.set_cons_zero, sC]
   refine tkA 1 17 11 ?_ rfl rfl ?_ hSw ?_
   rotate_left
   ·intro wx hSx; (try dsimp only at hSx); go_split_ands; go_simp; (try with_reducible rfl)
   simp only [sA, List.set_cons_zero, sC]
   refine tkA 2 18 10 ?_ rfl rfl ?_ hSw ?_
   rotate_left
   ·intro wx hSx; (try dsimp only at hSx); go_split_ands; go_simp; (try with_reducible rfl)
   simp only [sA, List.set_cons_zero, sC]
   refine tkA 3 19 9 ?_ rfl rfl ?_ hSw ?_
   rotate_left
   ·intro wx hSx; (try dsimp only at hSx); go_split_ands; go_simp; (try with_reducible rfl)
   simp only [sA, List.set_cons_zero, sC]
   refine take_at 4 20 undef (fuel := 8) rfl rfl (by kernel_rfl) (by kernel_rfl) (by kernel_rfl) (Or.inr ⟨by rfl, rfl⟩) hSw ?_
   simp only [sA, List.set_cons_zero, sC]
   refine take_at 5 21 undef (fuel := 7) rfl rfl (by kernel_rfl) (by kernel_rfl) (by kernel_rfl) (Or.inr ⟨by rfl, rfl⟩) hSw ?_
   simp only [sA, List.set_cons_zero, sC]
   refine take_at 6 22 undef (fuel := 6) rfl rfl (by kernel_rfl) (by kernel_rfl) (by kernel_rfl) (Or.inr ⟨by rfl, rfl⟩) hSw ?_
   simp only [sA, List.set_cons_zero, sC]
   refine take_at 7 23 undef (fuel := 5) rfl rfl (by kernel_rfl) (by kernel_rfl) (by kernel_rfl) (Or.inr ⟨by rfl, rfl⟩) hSw ?_
   simp only [sA, List.set_cons_zero, sC]
   refine take_at 8 24 undef (fuel := 4) rfl rfl (by kernel_rfl) (by kernel_rfl) (by kernel_rfl) (Or.inr ⟨by rfl, rfl⟩) hSw ?_
   simp only [sA, List.set_cons_zero, sC]
   refine take_at 9 25 undef (fuel := 3) rfl rfl (by kernel_rfl) (by kernel_rfl) (by kernel_rfl) (Or.inr ⟨by rfl, rfl⟩) hSw ?_
   simp only [sA, List.set_cons_zero, sC]
   refine take_at 10 26 undef (fuel := 2) rfl rfl (by kernel_rfl) (by kernel_rfl) (by kernel_rfl) (Or.inr ⟨by rfl, rfl⟩) hSw ?_
   simp only [sA, List.set_cons_zero, sC]
   refine take_at 11 27 undef (fuel := 1) rfl rfl (by kernel_rfl) (by kernel_rfl) (by kernel_rfl) (Or.inr ⟨by rfl, rfl⟩) hSw ?_
   simp only [sA, List.set_cons_zero, sC]
   refine tkA 12 28 0 ?_ rfl rfl ?_ hSw ?_
   rotate_left
   ·intro wx hSx; (try dsimp only at hSx); go_split_ands; go_simp; (try with_reducible rfl)
   simp only [sA, List.set_cons_zero, sC]
   refine wpAnyH_done (by kernel_rfl) ⟨rfl, ?_⟩ 0
   clear u0 u4 hSw hF
   generalize w3.drew = w4 at *
   have z0 := hFd.lr.f 0
   have z1 := hFd.lr.f 1
   have z2 := hFd.lr.f 2
   have z3 : w4.cell? ⟨r, 0, none⟩ = some (.int .i64 0) := hFd.lr.c rfl
   have z4 : w4.cell? ⟨r, 1, none⟩ = some (.string ⟨#[]⟩) := hFd.lr.c rfl
   have z5 : w4.cell? ⟨r, 2, none⟩ = some (.int .u64 0) := hFd.lr.c rfl
   go_wp2_with fail
   obtain ⟨zB, zA, zS⟩ := rep3 h hFd.at_ hFd.st hFd.lr (by omega) (.int .i64 0) (.string ⟨#[]⟩) (.int .u64 0)
   exact bodyPost_ret (Taby.results_row_tmp rfl _ _ r rfl (run_loadVar_row _ _ _ _ _ _ _ zB Tryz.underlying45 rfl (by kernel_rfl))) rfl ⟨by rw [HP.out]; rfl, H, by rw [HP.out]; exact zA, zS⟩
  have d1 : ((x.seq : Int) == 0) = false := beq_eq_false_iff_ne.2 (by omega)
  have hw : IntKind.u64.wrap ((x.seq : Int) - 1) = (x.seq : Int) - 1 := IntWalk.u64_in _ (by omega)
  by_cases a2 : x.seq = s.seq + 1
  case neg =>
   have HP : Hid (s.apply x = (s, .of 0, 123)) := Lib.hid (HA.out.trans (if_pos a2))
   have d2 : ((x.seq : Int) - 1 == (s.seq : Int)) = false := beq_eq_false_iff_ne.2 (by omega)
   have d3 : ¬ (x.seq : Int) - 1 = (s.seq : Int) := by omega
   clear a2
   refine region_only 13 #[false, false, false, false, false, false, false, false, false, false, false, false, false] (S := fun W => W.cell? ⟨q, 0, none⟩ = some (.int .u64 x.seq) ∧ W.cell? ⟨b, 4, none⟩ = some (.int .u64 s.seq)) rfl rfl (by kernel_rfl) ⟨u0, u4⟩ (fun hSw => ?_)
   refine tkA 0 16 12 ?_ rfl rfl ?_ hSw ?_
   rotate_left
   ·intro wx hSx; (try dsimp only at hSx); go_split_ands; go_simp; (try with_reducible rfl)
   simp only [sA, List.set_cons_zero, sC]
   refine tkA 1 17 11 ?_ rfl rfl ?_ hSw ?_
   rotate_left
   ·intro wx hSx; (try dsimp only at hSx); go_split_ands; go_simp; (try with_reducible rfl)
   simp only [sA, List.set_cons_zero, sC]
   refine tkA 2 18 10 ?_ rfl rfl ?_ hSw ?_
   rotate_left
   ·intro wx hSx; (try dsimp only at hSx); go_split_ands; go_simp; (try with_reducible rfl)
   simp only [sA, List.set_cons_zero, sC]
   refine tkA 3 19 9 ?_ rfl rfl ?_ hSw ?_
   rotate_left
   ·intro wx hSx; (try dsimp only at hSx); go_split_ands; go_simp; (try with_reducible rfl)
   simp only [sA, List.set_cons_zero, sC]
   refine tkA 4 20 8 ?_ rfl rfl ?_ hSw ?_
   rotate_left
   ·intro wx hSx; (try dsimp only at hSx); go_split_ands; go_simp; (try with_reducible rfl)
   simp only [sA, List.set_cons_zero, sC]
   refine tkA 5 21 7 ?_ rfl rfl ?_ hSw ?_
   rotate_left
   ·intro wx hSx; (try dsimp only at hSx); go_split_ands; go_simp; (try with_reducible rfl)
   simp only [sA, List.set_cons_zero, sC]
   refine tkA 6 22 6 ?_ rfl rfl ?_ hSw ?_
   rotate_left
   ·intro wx hSx; (try dsimp only at hSx); go_split_ands; go_simp; (try with_reducible rfl)
   simp only [sA, List.set_cons_zero, sC]
   refine tkA 7 23 5 ?_ rfl rfl ?_ hSw ?_
   rotate_left
   ·intro wx hSx; (try dsimp only at hSx); go_split_ands; go_simp; (try with_reducible rfl)
   simp only [sA, List.set_cons_zero, sC]
   refine tkA 8 24 4 ?_ rfl rfl ?_ hSw ?_
   rotate_left
   ·intro wx hSx; (try dsimp only at hSx); go_split_ands; go_simp; (try with_reducible rfl)
   simp only [sA, List.set_cons_zero, sC]
   refine tkA 9 25 3 ?_ rfl rfl ?_ hSw ?_
   rotate_left
   ·intro wx hSx; (try dsimp only at hSx); go_split_ands; go_simp; (try with_reducible rfl)
   simp only [sA, List.set_cons_zero, sC]
   refine tkA 10 26 2 ?_ rfl rfl ?_ hSw ?_
   rotate_left
   ·intro wx hSx; (try dsimp only at hSx); go_split_ands; go_simp; (try with_reducible rfl)
   simp only [sA, List.set_cons_zero, sC]
   refine tkA 11 27 1 ?_ rfl rfl ?_ hSw ?_
   rotate_left
   ·intro wx hSx; (try dsimp only at hSx); go_split_ands; go_simp; (try with_reducible rfl)
   simp only [sA, List.set_cons_zero, sC]
   refine tkA 12 28 0 ?_ rfl rfl ?_ hSw ?_
   rotate_left
   ·intro wx hSx; (try dsimp only at hSx); go_split_ands; go_simp; (try with_reducible rfl)
   simp only [sA, List.set_cons_zero, sC]
   refine wpAnyH_done (by kernel_rfl) ⟨rfl, ?_⟩ 0
   clear u0 u4 hSw hF
   generalize w3.drew = w4 at *
   have z0 := hFd.lr.f 0
   have z1 := hFd.lr.f 1
   have z2 := hFd.lr.f 2
   have z3 : w4.cell? ⟨r, 0, none⟩ = some (.int .i64 0) := hFd.lr.c rfl
   have z4 : w4.cell? ⟨r, 1, none⟩ = some (.string ⟨#[]⟩) := hFd.lr.c rfl
   have z5 : w4.cell? ⟨r, 2, none⟩ = some (.int .u64 0) := hFd.lr.c rfl
   (try rw [hw])
   go_wp2_with fail
   obtain ⟨zB, zA, zS⟩ := rep3 h hFd.at_ hFd.st hFd.lr (by omega) (.int .i64 0) (.string ⟨#[]⟩) (.int .u64 0)
   exact bodyPost_ret (Taby.results_row_tmp rfl _ _ r rfl (run_loadVar_row _ _ _ _ _ _ _ zB Tryz.underlying45 rfl (by kernel_rfl))) rfl ⟨by rw [HP.out]; rfl, H, by rw [HP.out]; exact zA, zS⟩
  case pos =>
   have HP : Hid (s.apply x = ((s.done x).1, (s.done x).2, 0)) := Lib.hid (HA.out.trans (if_neg (by omega)))
   have HA2 := Lib.hid a2
   clear a2
   refine region_only 13 #[false, false, false, false, false, false, false, false, false, false, false, false, false] (S := fun W => W.cell? ⟨q, 0, none⟩ = some (.int .u64 x.seq) ∧ W.cell? ⟨b, 4, none⟩ = some (.int .u64 s.seq)) rfl rfl (by kernel_rfl) ⟨u0, u4⟩ (fun hSw => ?_)
   refine tkA 0 16 12 ?_ rfl rfl ?_ hSw ?_
   rotate_left
   ·intro wx hSx; (try dsimp only at hSx); go_split_ands; go_simp; (try with_reducible rfl)
   simp only [sA, List.set_cons_zero, sC]
   refine tkA 1 17 11 ?_ rfl rfl ?_ hSw ?_
   rotate_left
   ·intro wx hSx; (try dsimp only at hSx); go_split_ands; go_simp; (try with_reducible rfl)
   simp only [sA, List.set_cons_zero, sC]
   refine tkA 2 18 10 ?_ rfl rfl ?_ hSw ?_
   rotate_left
   ·intro wx hSx; (try dsimp only at hSx); go_split_ands; go_simp; (try with_reducible rfl)
   simp only [sA, List.set_cons_zero, sC]
   refine tkA 3 19 9 ?_ rfl rfl ?_ hSw ?_
   rotate_left
   ·intro wx hSx; (try dsimp only at hSx); go_split_ands; go_simp; (try with_reducible rfl)
   simp only [sA, List.set_cons_zero, sC]
   refine tkA 4 20 8 ?_ rfl rfl ?_ hSw ?_
   rotate_left
   ·intro wx hSx; (try dsimp only at hSx); go_split_ands; go_simp; (try with_reducible rfl)
   simp only [sA, List.set_cons_zero, sC]
   refine tkA 5 21 7 ?_ rfl rfl ?_ hSw ?_
   rotate_left
   ·intro wx hSx; (try dsimp only at hSx); go_split_ands; go_simp; (try with_reducible rfl)
   simp only [sA, List.set_cons_zero, sC]
   refine tkA 6 22 6 ?_ rfl rfl ?_ hSw ?_
   rotate_left
   ·intro wx hSx; (try dsimp only at hSx); go_split_ands; go_simp; (try with_reducible rfl)
   simp only [sA, List.set_cons_zero, sC]
   refine tkA 7 23 5 ?_ rfl rfl ?_ hSw ?_
   rotate_left
   ·intro wx hSx; (try dsimp only at hSx); go_split_ands; go_simp; (try with_reducible rfl)
   simp only [sA, List.set_cons_zero, sC]
   refine tkA 8 24 4 ?_ rfl rfl ?_ hSw ?_
   rotate_left
   ·intro wx hSx; (try dsimp only at hSx); go_split_ands; go_simp; (try with_reducible rfl)
   simp only [sA, List.set_cons_zero, sC]
   refine tkA 9 25 3 ?_ rfl rfl ?_ hSw ?_
   rotate_left
   ·intro wx hSx; (try dsimp only at hSx); go_split_ands; go_simp; (try with_reducible rfl)
   simp only [sA, List.set_cons_zero, sC]
   refine tkA 10 26 2 ?_ rfl rfl ?_ hSw ?_
   rotate_left
   ·intro wx hSx; (try dsimp only at hSx); go_split_ands; go_simp; (try with_reducible rfl)
   simp only [sA, List.set_cons_zero, sC]
   refine tkA 11 27 1 ?_ rfl rfl ?_ hSw ?_
   rotate_left
   ·intro wx hSx; (try dsimp only at hSx); go_split_ands; go_simp; (try with_reducible rfl)
   simp only [sA, List.set_cons_zero, sC]
   refine tkA 12 28 0 ?_ rfl rfl ?_ hSw ?_
   rotate_left
   ·intro wx hSx; (try dsimp only at hSx); go_split_ands; go_simp; (try with_reducible rfl)
   simp only [sA, List.set_cons_zero, sC]
   refine wpAnyH_done (by kernel_rfl) ⟨rfl, ?_⟩ 0
   clear u0 u4 hSw hF
   generalize w3.drew = w4 at *
   (try rw [hw])
   have d2 : ((x.seq : Int) - 1 == (s.seq : Int)) = true := by rw [HA2.out]; simp
   have d3 : (x.seq : Int) - 1 = (s.seq : Int) := by have := HA2.out; omega
   have v0 : w4.cell? ⟨q, 0, none⟩ = some (.int .u64 x.seq) := hFd.lq.c rfl
   have v4 : w4.cell? ⟨b, 4, none⟩ = some (.int .u64 s.seq) := hFd.at_.c rfl
   have f4 := hFd.at_.box.free 4
   have HD := Lib.hid (And.intro d1 (And.intro d2 d3))
   obtain ⟨hA5, hS5⟩ := hFd.at_.cell (s' := s.place x.seq) 4 (.int .u64 x.seq) rfl rfl rfl rfl
   have hF5 := hFd.step hA5 hS5
   have hOp := hO.place hx.seq
   clear hFd hA5 hS5
   go_upto_region 6 with (fail)
   generalize w4.setCell ⟨b, 4, none⟩ (.int .u64 x.seq) = w5 at *
   clear v0 v4 f4 d1 d2 d3 hw
   have v1 : w5.cell? ⟨q, 1, none⟩ = some (.int .u64 x.now) := hF5.lq.c rfl
   have hmv := moveTo_s (now := x.now) hx.now hOp.now (by show s.m.length ≤ 100000; omega) hF5.at_
   have hOm := (hOp.move hx.now).1
   have HDN : Hid (s.done x = if x.op.kind = 5 then ((s.place x.seq).moveTo x.now, .of 0) else ((s.place x.seq).moveTo x.now).once x) := Lib.hid rfl
   generalize (s.place x.seq).moveTo x.now = sm at *
   go_wp2_with fail
   refine hmv.mono ?_
   rintro e w6 ⟨rfl, H6, h6, s6⟩
   have hF6 := hF5.step h6 s6
   clear hmv hF5 h6 s6 v1
   have y0 : w6.cell? ⟨q, 0, none⟩ = some (.int .u64 x.seq) := hF6.lq.c rfl
   have y1 : w6.cell? ⟨q, 1, none⟩ = some (.int .u64 x.now) := hF6.lq.c rfl
   have y2 : w6.cell? ⟨q, 2, none⟩ = some (.int .u64 x.ses) := hF6.lq.c rfl
   have y3 : w6.cell? ⟨q, 3, none⟩ = some (.int .u64 x.num) := hF6.lq.c rfl
   have y4 : w6.cell? ⟨q, 4, none⟩ = some (.int .i64 x.op.kind) := hF6.lq.c rfl
   have y5 : w6.cell? ⟨q, 5, none⟩ = some (.string (str x.op.key)) := hF6.lq.c rfl
   have y6 : w6.cell? ⟨q, 6, none⟩ = some (.string (str x.op.val)) := hF6.lq.c rfl
   have y7 : w6.cell? ⟨q, 7, none⟩ = some (.int .u64 x.op.ttl) := hF6.lq.c rfl
   have y8 : w6.cell? ⟨q, 8, none⟩ = some (.int .u64 x.op.ver) := hF6.lq.c rfl
   by_cases a5 : x.op.kind = 5
   ·have HQ : Hid (s.done x = (sm, .of 0)) := Lib.hid (HDN.out.trans (if_pos a5))
    have d5 : (x.op.kind == 5) = true := by rw [a5]; rfl
    clear a5
    have z0 := hF6.lr.f 0
    have z1 := hF6.lr.f 1
    have z2 := hF6.lr.f 2
    have z3 : w6.cell? ⟨r, 0, none⟩ = some (.int .i64 0) := hF6.lr.c rfl
    have z4 : w6.cell? ⟨r, 1, none⟩ = some (.string ⟨#[]⟩) := hF6.lr.c rfl
    have z5 : w6.cell? ⟨r, 2, none⟩ = some (.int .u64 0) := hF6.lr.c rfl
    go_wp2_with fail
    obtain ⟨zB, zA, zS⟩ := rep3 h hF6.at_ hF6.st hF6.lr (by omega) (.int .i64 0) (.string ⟨#[]⟩) (.int .u64 0)
    exact bodyPost_ret (Taby.results_row_tmp rfl _ _ r rfl (run_loadVar_row _ _ _ _ _ _ _ zB Tryz.underlying45 rfl (by kernel_rfl))) rfl ⟨by rw [HP.out, HQ.out]; rfl, H6, by rw [HP.out, HQ.out]; exact zA, zS⟩
   have HQ : Hid (s.done x = sm.once x) := Lib.hid (HDN.out.trans (if_neg a5))
   have d5 : (x.op.kind == 5) = false := beq_eq_false_iff_ne.2 a5
   have hcall := once_s hOm hx hc a5 hF6.at_
   generalize hrr : (sm.once x).2 = rr at *
   clear hOm
   go_wp2_with fail
   refine hcall.mono ?_
   rintro e w7 ⟨rfl, H7, h7, s7⟩
   have hF7 := hF6.step h7 s7
   clear hcall hF6 h7 s7 y0 y1 y2 y3 y4 y5 y6 y7 y8
   have z0 := hF7.lr.f 0
   have z1 := hF7.lr.f 1
   have z2 := hF7.lr.f 2
   have z3 : w7.cell? ⟨r, 0, none⟩ = some (.int .i64 0) := hF7.lr.c rfl
   have z4 : w7.cell? ⟨r, 1, none⟩ = some (.string ⟨#[]⟩) := hF7.lr.c rfl
   have z5 : w7.cell? ⟨r, 2, none⟩ = some (.int .u64 0) := hF7.lr.c rfl
   go_wp2_with fail
   obtain ⟨zB, zA, zS⟩ := rep3 h hF7.at_ hF7.st hF7.lr (by omega) (.int .i64 rr.e) (.string (str rr.val)) (.int .u64 rr.ver)
   exact bodyPost_ret (Taby.results_row_tmp rfl _ _ r rfl (run_loadVar_row _ _ _ _ _ _ _ zB Tryz.underlying45 rfl (by kernel_rfl))) rfl ⟨by rw [HP.out, HQ.out, hrr]; rfl, H7, by rw [HP.out, HQ.out]; exact zA, zS⟩
end
end Go.Proofs.YtkiabladmgagdabGreatDoor.Storey
namespace Go.Proofs.YtkiabladmgagdabGreatDoor.Storey
open Go.ChangeShapes Go.WideShapes Go.ChangeAt Go.RowKit Go.ChangeMaps Go.Maps
theorem clone_c {w : World} {S : Nat} {l : List Ses} {D : DataW Unit} (h : SesAt w S l D) : Calls Tryz.prog 27 #[.map (some S)] w fun e w' => e = .returned (.map (some w.heap.size)) ∧ SesAt w' w.heap.size l D ∧ Below w.heap.size w w' := by
 have hcon := AnyW.maps_Clone_owns Tryz.laysClone 22 RT S l.length D w h.mp
 change Calls Tryz.prog 27 _ _ _ at hcon
 exact hcon.mono fun e w' ⟨h1, h2, _, h4⟩ => ⟨h1, ⟨h2, h.has, h.val, h.size⟩, h4⟩
end Go.Proofs.YtkiabladmgagdabGreatDoor.Storey
