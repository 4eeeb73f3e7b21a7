/- Layer 12: a cache that is being read: whether table and policy agree. The only condition: it is as it may be. -/
import Derived.Test.YtkiabladmgagdabGreatDoorStoreEntAll
import Derived.Test.YtkiabladmgagdabGreatDoorStoreLocAll
import Derived.Test.YtkiabladmgagdabGreatDoorOpPutAll
import Derived.Lib.Hide
import Derived.BigQuiet
import Derived.Test.YtkiabladmgagdabGreatDoorSq
namespace Go.Proofs.YtkiabladmgagdabGreatDoor.Storey
open Go.ChangeShapes Go.WideShapes Go.ChangeAt Go.RowKit
open Wirey (Blk Row str str_size str_list str_cat Kp)
open Taby (En TabAt Tbl tp find ins drop size ended St Sl rows keysOf)
open Policyy (Pv HeldP StepP Tell)
open Ringy (Key)
open Regy
structure Hf (w0 w : World) (b T M C : Nat) (sv : Value) (H : Nat → Prop) (s : Sv) : Prop where
 box : Blk w b 61 #[.int .i64 s.kind, .int .i64 s.n, .int .i64 s.bytes, .int .u64 s.seed, .int .u64 s.seq, .int .u64 s.now, .int .u64 s.ver, .int .i64 s.asked, .int .i64 s.hits, tp T, tp C, sv]
 tab : TabAt w T M s.m
 pol : HeldP w0 C w s.p H
section
variable {w0 w w' : World} {b T M C : Nat} {sv : Value} {H : Nat → Prop} {s : Sv} {x : En}
theorem Hf.below (h : Hf w0 w b T M C sv H s) (hb : Below w.heap.size w w') : Hf w0 w' b T M C sv H s := ⟨h.box.below hb h.box.lt, h.tab.below hb, h.pol.later hb (Nat.le_refl _)⟩
theorem Hf.drew (h : Hf w0 w b T M C sv H s) : Hf w0 w.drew b T M C sv H s := h.below (Below.drew (Below.refl _ w))
theorem Hf.c (h : Hf w0 w b T M C sv H s) {i : Nat} {u : Value} (hu : (#[.int .i64 s.kind, .int .i64 s.n, .int .i64 s.bytes, .int .u64 s.seed, .int .u64 s.seq, .int .u64 s.now, .int .u64 s.ver, .int .i64 s.asked, .int .i64 s.hits, tp T, tp C, sv] : Array Value)[i]? = some u) : w.cell? ⟨b, i, none⟩ = some u := (h.box.cell i).trans hu
theorem made_h (h : Hf w0 w b T M C sv H s) : Calls Tryz.prog 18 #[tp b] w fun e w' => e = .returned (.bool true) ∧ w = w' := by
 have c10 : w.cell? ⟨b, 10, none⟩ = some (tp C) := h.c rfl
 go_enter Tryz.func18, Tryz.ntmps18
 go_wp2_with fail
 go_ret
 exact ⟨rfl, rfl⟩
set_option maxHeartbeats 8000000 in
set_option maxRecDepth 100000 in
theorem mayKeep_h (hO : s.Ok) (hx : x ∈ s.m) (h : Hf w0 w b T M C sv H s) :
  Calls Tryz.prog 78 #[tp b, .agg #[.string (str x.key), .string (str x.val), .int .u64 x.ver, .int .u64 x.fin]] w fun e w' => e = .returned (.bool true) ∧ Below w.heap.size w w' := by
 have hxo := hO.eok x hx
 obtain ⟨hk0, hv1, hv2⟩ := hO.ent x hx
 have hlive := hO.live x hx
 have hhas : s.p.has x.key = true := by rw [hO.has, Taby.find_of_mem hO.rise hx]; rfl
 have hP : ∀ W, HeldP w0 C W s.p H → Calls Tryz.prog 108 #[tp C, .string (str x.key)] W fun e w' => e = .returned (.bool true) ∧ W = w' := fun W hW => by
  have := Policyy.hasP_c (k := x.key) (by have := hxo.key; unfold maxLen; omega) hW
  rwa [hhas] at this
 have htl := Wirey.toList_str
 have e1 : (x.key == []) = false := by
  rw [beq_eq_false_iff_ne]
  intro e
  rw [e] at hk0
  exact absurd hk0 (by simp)
 have d1 : decide ((1 : Int) ≤ (x.ver : Int)) = true := decide_eq_true (by omega)
 have d2 : decide ((x.ver : Int) ≤ (s.ver : Int)) = true := decide_eq_true (by omega)
 have d1n : decide (1 ≤ x.ver) = true := decide_eq_true (by omega)
 have d2n : decide (x.ver ≤ s.ver) = true := decide_eq_true (by omega)
 have hX := Blk.new w 66 #[.string (str x.key), .string (str x.val), .int .u64 x.ver, .int .u64 x.fin]
 have hB := (Below.refl _ w).alloc (Nat.le_refl _) (.cells #[.string (str x.key), .string (str x.val), .int .u64 x.ver, .int .u64 x.fin] 66)
 have h1 := (h.below hB).drew
 have HB := Lib.hid hB.drew
 clear h hB hxo hk0 hv1 hv2 hhas
 go_enter Tryz.func78, Tryz.ntmps78
 go_upto_region 1 with (fail)
 generalize w.alloc (.cells #[.string (str x.key), .string (str x.val), .int .u64 x.ver, .int .u64 x.fin] 66) = w1 at *
 generalize w.heap.size = q at hX ⊢
 have hS : (w1.drew.cell? ⟨b, 10, none⟩ = some (tp C) ∧ w1.drew.cell? ⟨b, 6, none⟩ = some (.int .u64 s.ver) ∧ w1.drew.cell? ⟨b, 5, none⟩ = some (.int .u64 s.now) ∧ w1.drew.cell? ⟨q, 0, none⟩ = some (.string (str x.key)) ∧ w1.drew.cell? ⟨q, 2, none⟩ = some (.int .u64 x.ver) ∧ w1.drew.cell? ⟨q, 3, none⟩ = some (.int .u64 x.fin) ∧ HeldP w0 C w1.drew s.p H) := ⟨h1.c rfl, h1.c rfl, h1.c rfl, hX.cell 0, hX.cell 2, hX.cell 3, h1.pol⟩
 clear hX h1
 by_cases hf : x.fin = 0
 ·have e3 : ((x.fin : Int) == 0) = true := by rw [hf]; rfl
  clear hlive hf
  refine region_only 41 #[false, false, false, false, false, false, false, false, false, false, false, false, false, false, false, false, false, false, false, false, false, false, false, false, false, false, false, false, false, false, false, false, false, false, false, false, false, false, false, false, false] (S := (fun W => (W.cell? ⟨b, 10, none⟩ = some (tp C) ∧ W.cell? ⟨b, 6, none⟩ = some (.int .u64 s.ver) ∧ W.cell? ⟨b, 5, none⟩ = some (.int .u64 s.now) ∧ W.cell? ⟨q, 0, none⟩ = some (.string (str x.key)) ∧ W.cell? ⟨q, 2, none⟩ = some (.int .u64 x.ver) ∧ W.cell? ⟨q, 3, none⟩ = some (.int .u64 x.fin) ∧ HeldP w0 C W s.p H))) rfl rfl (by kernel_rfl) hS (fun hSw => ?_)
  refine tkA 0 5 40 ?_ rfl rfl ?_ hSw ?_
  rotate_left
  ·intro wx hSx; (try dsimp only at hSx); go_split_ands; go_simp; (try with_reducible rfl)
  simp only [sA, List.set_cons_zero, sC]
  refine tkA 1 6 39 ?_ rfl rfl ?_ hSw ?_
  rotate_left
  ·intro wx hSx; (try dsimp only at hSx); go_split_ands; go_simp; (try with_reducible rfl)
  simp only [sA, List.set_cons_zero, sC]
  refine tkA 2 7 38 ?_ rfl rfl ?_ hSw ?_
  rotate_left
  ·intro wx hSx; (try dsimp only at hSx); go_split_ands; go_simp; (try with_reducible rfl)
  simp only [sA, List.set_cons_zero, sC]
  refine tkA 3 8 37 ?_ rfl rfl ?_ hSw ?_
  rotate_left
  ·intro wx hSx; (try dsimp only at hSx); go_split_ands; go_simp; (try with_reducible rfl)
  simp only [sA, List.set_cons_zero, sC]
  refine tkA 4 9 36 ?_ rfl rfl ?_ hSw ?_
  rotate_left
  ·intro wx hSx; (try dsimp only at hSx); go_split_ands; go_simp; (try with_reducible rfl)
  simp only [sA, List.set_cons_zero, sC]
  refine tkA 5 10 35 ?_ rfl rfl ?_ hSw ?_
  rotate_left
  ·intro wx hSx; (try dsimp only at hSx); go_split_ands; go_simp; (try with_reducible rfl)
  simp only [sA, List.set_cons_zero, sC]
  refine rdA 34 6 rfl fun K hK => ?_
  go_simp
  refine Calls.mono (hP _ hSw.2.2.2.2.2.2) ?_
  rintro e wv ⟨rfl, rfl⟩
  refine hK.out _ _ hSw (fun hSw => ?_)
  clear hK K
  simp only [sA, List.set_cons_zero, sC]
  refine tkA 7 12 33 ?_ rfl rfl ?_ hSw ?_
  rotate_left
  ·intro wx hSx; (try dsimp only at hSx); go_split_ands; go_simp; (try with_reducible rfl)
  simp only [sA, List.set_cons_zero, sC]
  refine tkA 8 13 32 ?_ rfl rfl ?_ hSw ?_
  rotate_left
  ·intro wx hSx; (try dsimp only at hSx); go_split_ands; go_simp; (try with_reducible rfl)
  simp only [sA, List.set_cons_zero, sC]
  refine tkA 9 14 31 ?_ rfl rfl ?_ hSw ?_
  rotate_left
  ·intro wx hSx; (try dsimp only at hSx); go_split_ands; go_simp; (try with_reducible rfl)
  simp only [sA, List.set_cons_zero, sC]
  refine tkA 10 15 30 ?_ rfl rfl ?_ hSw ?_
  rotate_left
  ·intro wx hSx; (try dsimp only at hSx); go_split_ands; go_simp; (try with_reducible rfl)
  simp only [sA, List.set_cons_zero, sC]
  refine tkA 11 16 29 ?_ rfl rfl ?_ hSw ?_
  rotate_left
  ·intro wx hSx; (try dsimp only at hSx); go_split_ands; go_simp; (try with_reducible rfl)
  simp only [sA, List.set_cons_zero, sC]
  refine tkA 12 17 28 ?_ rfl rfl ?_ hSw ?_
  rotate_left
  ·intro wx hSx; (try dsimp only at hSx); go_split_ands; go_simp; (try with_reducible rfl)
  simp only [sA, List.set_cons_zero, sC]
  refine tkA 13 18 27 ?_ rfl rfl ?_ hSw ?_
  rotate_left
  ·intro wx hSx; (try dsimp only at hSx); go_split_ands; go_simp; (try with_reducible rfl)
  simp only [sA, List.set_cons_zero, sC]
  refine tkA 14 19 26 ?_ rfl rfl ?_ hSw ?_
  rotate_left
  ·intro wx hSx; (try dsimp only at hSx); go_split_ands; go_simp; (try with_reducible rfl)
  simp only [sA, List.set_cons_zero, sC]
  refine tkA 15 20 25 ?_ rfl rfl ?_ hSw ?_
  rotate_left
  ·intro wx hSx; (try dsimp only at hSx); go_split_ands; go_simp; (try with_reducible rfl)
  simp only [sA, List.set_cons_zero, sC]
  refine tkA 16 21 24 ?_ rfl rfl ?_ hSw ?_
  rotate_left
  ·intro wx hSx; (try dsimp only at hSx); go_split_ands; go_simp; (try with_reducible rfl)
  simp only [sA, List.set_cons_zero, sC]
  refine tkA 17 22 23 ?_ rfl rfl ?_ hSw ?_
  rotate_left
  ·intro wx hSx; (try dsimp only at hSx); go_split_ands; go_simp; (try with_reducible rfl)
  simp only [sA, List.set_cons_zero, sC]
  refine tkA 18 23 22 ?_ rfl rfl ?_ hSw ?_
  rotate_left
  ·intro wx hSx; (try dsimp only at hSx); go_split_ands; go_simp; (try with_reducible rfl)
  simp only [sA, List.set_cons_zero, sC]
  refine tkA 19 24 21 ?_ rfl rfl ?_ hSw ?_
  rotate_left
  ·intro wx hSx; (try dsimp only at hSx); go_split_ands; go_simp; (try with_reducible rfl)
  simp only [sA, List.set_cons_zero, sC]
  refine tkA 20 25 20 ?_ rfl rfl ?_ hSw ?_
  rotate_left
  ·intro wx hSx; (try dsimp only at hSx); go_split_ands; go_simp; (try with_reducible rfl)
  simp only [sA, List.set_cons_zero, sC]
  refine tkA 21 26 19 ?_ rfl rfl ?_ hSw ?_
  rotate_left
  ·intro wx hSx; (try dsimp only at hSx); go_split_ands; go_simp; (try with_reducible rfl)
  simp only [sA, List.set_cons_zero, sC]
  refine tkA 22 27 18 ?_ rfl rfl ?_ hSw ?_
  rotate_left
  ·intro wx hSx; (try dsimp only at hSx); go_split_ands; go_simp; (try with_reducible rfl)
  simp only [sA, List.set_cons_zero, sC]
  refine tkA 23 28 17 ?_ rfl rfl ?_ hSw ?_
  rotate_left
  ·intro wx hSx; (try dsimp only at hSx); go_split_ands; go_simp; (try with_reducible rfl)
  simp only [sA, List.set_cons_zero, sC]
  refine tkA 24 29 16 ?_ rfl rfl ?_ hSw ?_
  rotate_left
  ·intro wx hSx; (try dsimp only at hSx); go_split_ands; go_simp; (try with_reducible rfl)
  simp only [sA, List.set_cons_zero, sC]
  refine tkA 25 30 15 ?_ rfl rfl ?_ hSw ?_
  rotate_left
  ·intro wx hSx; (try dsimp only at hSx); go_split_ands; go_simp; (try with_reducible rfl)
  simp only [sA, List.set_cons_zero, sC]
  refine tkA 26 31 14 ?_ rfl rfl ?_ hSw ?_
  rotate_left
  ·intro wx hSx; (try dsimp only at hSx); go_split_ands; go_simp; (try with_reducible rfl)
  simp only [sA, List.set_cons_zero, sC]
  refine tkA 27 32 13 ?_ rfl rfl ?_ hSw ?_
  rotate_left
  ·intro wx hSx; (try dsimp only at hSx); go_split_ands; go_simp; (try with_reducible rfl)
  simp only [sA, List.set_cons_zero, sC]
  refine tkA 28 33 12 ?_ rfl rfl ?_ hSw ?_
  rotate_left
  ·intro wx hSx; (try dsimp only at hSx); go_split_ands; go_simp; (try with_reducible rfl)
  simp only [sA, List.set_cons_zero, sC]
  refine tkA 29 34 11 ?_ rfl rfl ?_ hSw ?_
  rotate_left
  ·intro wx hSx; (try dsimp only at hSx); go_split_ands; go_simp; (try with_reducible rfl)
  simp only [sA, List.set_cons_zero, sC]
  refine tkA 30 35 10 ?_ rfl rfl ?_ hSw ?_
  rotate_left
  ·intro wx hSx; (try dsimp only at hSx); go_split_ands; go_simp; (try with_reducible rfl)
  simp only [sA, List.set_cons_zero, sC]
  refine take_at 31 36 undef (fuel := 9) rfl rfl (by kernel_rfl) (by kernel_rfl) (by kernel_rfl) (Or.inr ⟨by rfl, rfl⟩) hSw ?_
  simp only [sA, List.set_cons_zero, sC]
  refine take_at 32 37 undef (fuel := 8) rfl rfl (by kernel_rfl) (by kernel_rfl) (by kernel_rfl) (Or.inr ⟨by rfl, rfl⟩) hSw ?_
  simp only [sA, List.set_cons_zero, sC]
  refine take_at 33 38 undef (fuel := 7) rfl rfl (by kernel_rfl) (by kernel_rfl) (by kernel_rfl) (Or.inr ⟨by rfl, rfl⟩) hSw ?_
  simp only [sA, List.set_cons_zero, sC]
  refine take_at 34 39 undef (fuel := 6) rfl rfl (by kernel_rfl) (by kernel_rfl) (by kernel_rfl) (Or.inr ⟨by rfl, rfl⟩) hSw ?_
  simp only [sA, List.set_cons_zero, sC]
  refine take_at 35 40 undef (fuel := 5) rfl rfl (by kernel_rfl) (by kernel_rfl) (by kernel_rfl) (Or.inr ⟨by rfl, rfl⟩) hSw ?_
  simp only [sA, List.set_cons_zero, sC]
  refine take_at 36 41 undef (fuel := 4) rfl rfl (by kernel_rfl) (by kernel_rfl) (by kernel_rfl) (Or.inr ⟨by rfl, rfl⟩) hSw ?_
  simp only [sA, List.set_cons_zero, sC]
  refine take_at 37 42 undef (fuel := 3) rfl rfl (by kernel_rfl) (by kernel_rfl) (by kernel_rfl) (Or.inr ⟨by rfl, rfl⟩) hSw ?_
  simp only [sA, List.set_cons_zero, sC]
  refine tkA 38 43 2 ?_ rfl rfl ?_ hSw ?_
  rotate_left
  ·intro wx hSx; (try dsimp only at hSx); go_split_ands; go_simp; (try with_reducible rfl)
  simp only [sA, List.set_cons_zero, sC]
  refine tkA 39 44 1 ?_ rfl rfl ?_ hSw ?_
  rotate_left
  ·intro wx hSx; (try dsimp only at hSx); go_split_ands; go_simp; (try with_reducible rfl)
  simp only [sA, List.set_cons_zero, sC]
  refine tkA 40 4 0 ?_ rfl rfl ?_ hSw ?_
  rotate_left
  ·intro wx hSx; (try dsimp only at hSx); go_split_ands; go_simp; (try with_reducible rfl)
  simp only [sA, List.set_cons_zero, sC]
  refine wpAnyH_done (by kernel_rfl) ⟨rfl, ?_⟩ 0
  clear hSw
  go_wp2_with fail
  go_ret
  exact ⟨rfl, HB.out⟩
 ·have e3 : ((x.fin : Int) == 0) = false := by rw [beq_eq_false_iff_ne]; omega
  have d3 : decide ((s.now : Int) < (x.fin : Int)) = true := decide_eq_true (by omega)
  have d3n : decide (s.now < x.fin) = true := decide_eq_true (by omega)
  clear hlive
  refine region_only 41 #[false, false, false, false, false, false, false, false, false, false, false, false, false, false, false, false, false, false, false, false, false, false, false, false, false, false, false, false, false, false, false, false, false, false, false, false, false, false, false, false, false] (S := (fun W => (W.cell? ⟨b, 10, none⟩ = some (tp C) ∧ W.cell? ⟨b, 6, none⟩ = some (.int .u64 s.ver) ∧ W.cell? ⟨b, 5, none⟩ = some (.int .u64 s.now) ∧ W.cell? ⟨q, 0, none⟩ = some (.string (str x.key)) ∧ W.cell? ⟨q, 2, none⟩ = some (.int .u64 x.ver) ∧ W.cell? ⟨q, 3, none⟩ = some (.int .u64 x.fin) ∧ HeldP w0 C W s.p H))) rfl rfl (by kernel_rfl) hS (fun hSw => ?_)
  refine tkA 0 5 40 ?_ rfl rfl ?_ hSw ?_
  rotate_left
  ·intro wx hSx; (try dsimp only at hSx); go_split_ands; go_simp; (try with_reducible rfl)
  simp only [sA, List.set_cons_zero, sC]
  refine tkA 1 6 39 ?_ rfl rfl ?_ hSw ?_
  rotate_left
  ·intro wx hSx; (try dsimp only at hSx); go_split_ands; go_simp; (try with_reducible rfl)
  simp only [sA, List.set_cons_zero, sC]
  refine tkA 2 7 38 ?_ rfl rfl ?_ hSw ?_
  rotate_left
  ·intro wx hSx; (try dsimp only at hSx); go_split_ands; go_simp; (try with_reducible rfl)
  simp only [sA, List.set_cons_zero, sC]
  refine tkA 3 8 37 ?_ rfl rfl ?_ hSw ?_
  rotate_left
  ·intro wx hSx; (try dsimp only at hSx); go_split_ands; go_simp; (try with_reducible rfl)
  simp only [sA, List.set_cons_zero, sC]
  refine tkA 4 9 36 ?_ rfl rfl ?_ hSw ?_
  rotate_left
  ·intro wx hSx; (try dsimp only at hSx); go_split_ands; go_simp; (try with_reducible rfl)
  simp only [sA, List.set_cons_zero, sC]
  refine tkA 5 10 35 ?_ rfl rfl ?_ hSw ?_
  rotate_left
  ·intro wx hSx; (try dsimp only at hSx); go_split_ands; go_simp; (try with_reducible rfl)
  simp only [sA, List.set_cons_zero, sC]
  refine rdA 34 6 rfl fun K hK => ?_
  go_simp
  refine Calls.mono (hP _ hSw.2.2.2.2.2.2) ?_
  rintro e wv ⟨rfl, rfl⟩
  refine hK.out _ _ hSw (fun hSw => ?_)
  clear hK K
  simp only [sA, List.set_cons_zero, sC]
  refine tkA 7 12 33 ?_ rfl rfl ?_ hSw ?_
  rotate_left
  ·intro wx hSx; (try dsimp only at hSx); go_split_ands; go_simp; (try with_reducible rfl)
  simp only [sA, List.set_cons_zero, sC]
  refine tkA 8 13 32 ?_ rfl rfl ?_ hSw ?_
  rotate_left
  ·intro wx hSx; (try dsimp only at hSx); go_split_ands; go_simp; (try with_reducible rfl)
  simp only [sA, List.set_cons_zero, sC]
  refine tkA 9 14 31 ?_ rfl rfl ?_ hSw ?_
  rotate_left
  ·intro wx hSx; (try dsimp only at hSx); go_split_ands; go_simp; (try with_reducible rfl)
  simp only [sA, List.set_cons_zero, sC]
  refine tkA 10 15 30 ?_ rfl rfl ?_ hSw ?_
  rotate_left
  ·intro wx hSx; (try dsimp only at hSx); go_split_ands; go_simp; (try with_reducible rfl)
  simp only [sA, List.set_cons_zero, sC]
  refine tkA 11 16 29 ?_ rfl rfl ?_ hSw ?_
  rotate_left
  ·intro wx hSx; (try dsimp only at hSx); go_split_ands; go_simp; (try with_reducible rfl)
  simp only [sA, List.set_cons_zero, sC]
  refine tkA 12 17 28 ?_ rfl rfl ?_ hSw ?_
  rotate_left
  ·intro wx hSx; (try dsimp only at hSx); go_split_ands; go_simp; (try with_reducible rfl)
  simp only [sA, List.set_cons_zero, sC]
  refine tkA 13 18 27 ?_ rfl rfl ?_ hSw ?_
  rotate_left
  ·intro wx hSx; (try dsimp only at hSx); go_split_ands; go_simp; (try with_reducible rfl)
  simp only [sA, List.set_cons_zero, sC]
  refine tkA 14 19 26 ?_ rfl rfl ?_ hSw ?_
  rotate_left
  ·intro wx hSx; (try dsimp only at hSx); go_split_ands; go_simp; (try with_reducible rfl)
  simp only [sA, List.set_cons_zero, sC]
  refine tkA 15 20 25 ?_ rfl rfl ?_ hSw ?_
  rotate_left
  ·intro wx hSx; (try dsimp only at hSx); go_split_ands; go_simp; (try with_reducible rfl)
  simp only [sA, List.set_cons_zero, sC]
  refine tkA 16 21 24 ?_ rfl rfl ?_ hSw ?_
  rotate_left
  ·intro wx hSx; (try dsimp only at hSx); go_split_ands; go_simp; (try with_reducible rfl)
  simp only [sA, List.set_cons_zero, sC]
  refine tkA 17 22 23 ?_ rfl rfl ?_ hSw ?_
  rotate_left
  ·intro wx hSx; (try dsimp only at hSx); go_split_ands; go_simp; (try with_reducible rfl)
  simp only [sA, List.set_cons_zero, sC]
  refine tkA 18 23 22 ?_ rfl rfl ?_ hSw ?_
  rotate_left
  ·intro wx hSx; (try dsimp only at hSx); go_split_ands; go_simp; (try with_reducible rfl)
  simp only [sA, List.set_cons_zero, sC]
  refine tkA 19 24 21 ?_ rfl rfl ?_ hSw ?_
  rotate_left
  ·intro wx hSx; (try dsimp only at hSx); go_split_ands; go_simp; (try with_reducible rfl)
  simp only [sA, List.set_cons_zero, sC]
  refine tkA 20 25 20 ?_ rfl rfl ?_ hSw ?_
  rotate_left
  ·intro wx hSx; (try dsimp only at hSx); go_split_ands; go_simp; (try with_reducible rfl)
  simp only [sA, List.set_cons_zero, sC]
  refine tkA 21 26 19 ?_ rfl rfl ?_ hSw ?_
  rotate_left
  ·intro wx hSx; (try dsimp only at hSx); go_split_ands; go_simp; (try with_reducible rfl)
  simp only [sA, List.set_cons_zero, sC]
  refine tkA 22 27 18 ?_ rfl rfl ?_ hSw ?_
  rotate_left
  ·intro wx hSx; (try dsimp only at hSx); go_split_ands; go_simp; (try with_reducible rfl)
  simp only [sA, List.set_cons_zero, sC]
  refine tkA 23 28 17 ?_ rfl rfl ?_ hSw ?_
  rotate_left
  ·intro wx hSx; (try dsimp only at hSx); go_split_ands; go_simp; (try with_reducible rfl)
  simp only [sA, List.set_cons_zero, sC]
  refine tkA 24 29 16 ?_ rfl rfl ?_ hSw ?_
  rotate_left
  ·intro wx hSx; (try dsimp only at hSx); go_split_ands; go_simp; (try with_reducible rfl)
  simp only [sA, List.set_cons_zero, sC]
  refine tkA 25 30 15 ?_ rfl rfl ?_ hSw ?_
  rotate_left
  ·intro wx hSx; (try dsimp only at hSx); go_split_ands; go_simp; (try with_reducible rfl)
  simp only [sA, List.set_cons_zero, sC]
  refine tkA 26 31 14 ?_ rfl rfl ?_ hSw ?_
  rotate_left
  ·intro wx hSx; (try dsimp only at hSx); go_split_ands; go_simp; (try with_reducible rfl)
  simp only [sA, List.set_cons_zero, sC]
  refine tkA 27 32 13 ?_ rfl rfl ?_ hSw ?_
  rotate_left
  ·intro wx hSx; (try dsimp only at hSx); go_split_ands; go_simp; (try with_reducible rfl)
  simp only [sA, List.set_cons_zero, sC]
  refine tkA 28 33 12 ?_ rfl rfl ?_ hSw ?_
  rotate_left
  ·intro wx hSx; (try dsimp only at hSx); go_split_ands; go_simp; (try with_reducible rfl)
  simp only [sA, List.set_cons_zero, sC]
  refine tkA 29 34 11 ?_ rfl rfl ?_ hSw ?_
  rotate_left
  ·intro wx hSx; (try dsimp only at hSx); go_split_ands; go_simp; (try with_reducible rfl)
  simp only [sA, List.set_cons_zero, sC]
  refine tkA 30 35 10 ?_ rfl rfl ?_ hSw ?_
  rotate_left
  ·intro wx hSx; (try dsimp only at hSx); go_split_ands; go_simp; (try with_reducible rfl)
  simp only [sA, List.set_cons_zero, sC]
  refine tkA 31 36 9 ?_ rfl rfl ?_ hSw ?_
  rotate_left
  ·intro wx hSx; (try dsimp only at hSx); go_split_ands; go_simp; (try with_reducible rfl)
  simp only [sA, List.set_cons_zero, sC]
  refine tkA 32 37 8 ?_ rfl rfl ?_ hSw ?_
  rotate_left
  ·intro wx hSx; (try dsimp only at hSx); go_split_ands; go_simp; (try with_reducible rfl)
  simp only [sA, List.set_cons_zero, sC]
  refine tkA 33 38 7 ?_ rfl rfl ?_ hSw ?_
  rotate_left
  ·intro wx hSx; (try dsimp only at hSx); go_split_ands; go_simp; (try with_reducible rfl)
  simp only [sA, List.set_cons_zero, sC]
  refine tkA 34 39 6 ?_ rfl rfl ?_ hSw ?_
  rotate_left
  ·intro wx hSx; (try dsimp only at hSx); go_split_ands; go_simp; (try with_reducible rfl)
  simp only [sA, List.set_cons_zero, sC]
  refine tkA 35 40 5 ?_ rfl rfl ?_ hSw ?_
  rotate_left
  ·intro wx hSx; (try dsimp only at hSx); go_split_ands; go_simp; (try with_reducible rfl)
  simp only [sA, List.set_cons_zero, sC]
  refine tkA 36 41 4 ?_ rfl rfl ?_ hSw ?_
  rotate_left
  ·intro wx hSx; (try dsimp only at hSx); go_split_ands; go_simp; (try with_reducible rfl)
  simp only [sA, List.set_cons_zero, sC]
  refine tkA 37 42 3 ?_ rfl rfl ?_ hSw ?_
  rotate_left
  ·intro wx hSx; (try dsimp only at hSx); go_split_ands; go_simp; (try with_reducible rfl)
  simp only [sA, List.set_cons_zero, sC]
  refine tkA 38 43 2 ?_ rfl rfl ?_ hSw ?_
  rotate_left
  ·intro wx hSx; (try dsimp only at hSx); go_split_ands; go_simp; (try with_reducible rfl)
  simp only [sA, List.set_cons_zero, sC]
  refine tkA 39 44 1 ?_ rfl rfl ?_ hSw ?_
  rotate_left
  ·intro wx hSx; (try dsimp only at hSx); go_split_ands; go_simp; (try with_reducible rfl)
  simp only [sA, List.set_cons_zero, sC]
  refine tkA 40 4 0 ?_ rfl rfl ?_ hSw ?_
  rotate_left
  ·intro wx hSx; (try dsimp only at hSx); go_split_ands; go_simp; (try with_reducible rfl)
  simp only [sA, List.set_cons_zero, sC]
  refine wpAnyH_done (by kernel_rfl) ⟨rfl, ?_⟩ 0
  clear hSw
  go_wp2_with fail
  go_ret
  exact ⟨rfl, HB.out⟩
set_option maxHeartbeats 2000000 in
set_option maxRecDepth 100000 in
theorem lit_h {X : Nat} (hO : s.Ok) (hx : x ∈ s.m) (h : Hf w0 w b T M C sv H s) (hX : w.cell? ⟨X, 0, none⟩ = some (tp b)) :
  Calls Tryz.prog 77 #[.agg #[.string (str x.key), .string (str x.val), .int .u64 x.ver, .int .u64 x.fin], .pointer (some ⟨X, 0, none⟩)] w fun e w' => e = .returned (.bool false) ∧ Below w.heap.size w w' := by
 have hE := Blk.new w 66 #[.string (str x.key), .string (str x.val), .int .u64 x.ver, .int .u64 x.fin]
 have hB := (Below.refl _ w).alloc (Nat.le_refl _) (.cells #[.string (str x.key), .string (str x.val), .int .u64 x.ver, .int .u64 x.fin] 66)
 have h1 := h.below hB
 have hX1 : (w.alloc (.cells #[.string (str x.key), .string (str x.val), .int .u64 x.ver, .int .u64 x.fin] 66)).cell? ⟨X, 0, none⟩ = some (tp b) := (World.cell?_of_block (Below.heap_alloc w _ _ (World.block_lt_of_cell? w _ hX))).trans hX
 have HB := Lib.hid hB
 clear h hB hX
 go_enter Tryz.func77, Tryz.ntmps77
 go_upto_region 1 with (fail)
 generalize w.alloc (.cells #[.string (str x.key), .string (str x.val), .int .u64 x.ver, .int .u64 x.fin] 66) = w1 at *
 generalize w.heap.size = q at hE ⊢
 have x0 := hE.cell 0
 have x1 := hE.cell 1
 have x2 := hE.cell 2
 have x3 := hE.cell 3
 simp only [gA, gB, gC] at x0 x1 x2 x3
 go_wp2_with fail
 refine (mayKeep_h hO hx h1).mono ?_
 rintro e w2 ⟨rfl, hb⟩
 have HB2 := Lib.hid (HB.out.trans (hb.mono HB.out.size))
 clear hb h1 hE x0 x1 x2 x3 hX1
 go_wp2_with fail
 go_ret
 exact ⟨rfl, HB2.out⟩
theorem enters_lit : ∀ (args : Array Value) (w : World), (callFunc 77 args).run Tryz.prog w = .ok (.enter 77 args) w := fun _ _ => by kernel_rfl
set_option maxHeartbeats 4000000 in
set_option maxRecDepth 100000 in
theorem index_h {X B : Nat} {v : Value} (hO : s.Ok) (h : Hf w0 w b T M C sv H s) (hX : w.cell? ⟨X, 0, none⟩ = some (tp b)) (hv : Sl w B v s.m) :
  Calls Tryz.prog 107 #[v, .func (.func 77) #[] #[.pointer (some ⟨X, 0, none⟩)]] w fun e w' => e = .returned (.int .i64 (-1)) ∧ Below w.heap.size w w' := by
 have hXl := World.block_lt_of_cell? w _ hX
 have hcf := enters_lit
 have hl := hO.toBase.len.2
 have hn2 := hO.n2
 obtain ⟨a, c, rfl⟩ := hv.form
 have HX := Lib.hid hX
 clear hX
 go_enter Tryz.func107, Tryz.ntmps107
 go_wp2_with fail
 go_loopw [8] (fun i wr => ∃ j : Nat, j ≤ s.m.length ∧ i = .int .i64 j ∧ Hid (Below w.heap.size w wr)) (fun i _ => s.m.length - (intOf i).toNat)
 case atStart => exact ⟨0, by omega, rfl, Lib.hid (Below.refl _ _)⟩
 case round =>
  obtain ⟨j, hj, rfl, HB⟩ := hrel
  by_cases hjl : j < s.m.length
  ·obtain ⟨x, hx⟩ : ∃ x, s.m[j]? = some x := ⟨_, List.getElem?_eq_getElem hjl⟩
   have hlt : (j : Int) < (s.m.length : Int) := by omega
   obtain ⟨g, rfl, -, -, hcell⟩ := (hv.below HB.out).at_ hx
   obtain ⟨x0, x1, x2, x3⟩ := hcell wr rfl
   have hX2 : wr.cell? ⟨X, 0, none⟩ = some (tp b) := (World.cell?_of_block (HB.out.block X hXl)).trans HX.out
   have hL := lit_h hO (List.mem_of_getElem? hx) (h.below HB.out) hX2
   clear hcell hX2 hx
   go_wp2_with fail
   refine hL.mono ?_
   rintro e w2 ⟨rfl, hb⟩
   have HB2 := Lib.hid (HB.out.trans (hb.mono HB.out.size))
   clear hb hL x0 x1 x2 x3 HB
   go_wp2_with fail
   go_roundw
   case rel => exact ⟨j + 1, by omega, rfl, HB2⟩
   case measure => simp [intOf]; omega
  ·obtain rfl : j = s.m.length := by omega
   have hlt : ¬ ((s.m.length : Int) < (s.m.length : Int)) := by omega
   go_wp2_with fail
   go_ret
   exact ⟨rfl, HB.out⟩
theorem contains_h {X B : Nat} {v : Value} (hO : s.Ok) (h : Hf w0 w b T M C sv H s) (hX : w.cell? ⟨X, 0, none⟩ = some (tp b)) (hv : Sl w B v s.m) :
  Calls Tryz.prog 76 #[v, .func (.func 77) #[] #[.pointer (some ⟨X, 0, none⟩)]] w fun e w' => e = .returned (.bool false) ∧ Below w.heap.size w w' := by
 have hI := index_h hO h hX hv
 obtain ⟨a, c, rfl⟩ := hv.form
 go_enter Tryz.func76, Tryz.ntmps76
 go_wp2_with fail
 refine hI.mono ?_
 rintro e w2 ⟨rfl, hb⟩
 go_wp2_with fail
 go_ret
 exact ⟨rfl, hb⟩
set_option maxHeartbeats 8000000 in
set_option maxRecDepth 100000 in
theorem agrees_h (hO : s.Ok) (h : Hf w0 w b T M C sv H s) :
  Calls Tryz.prog 42 #[tp b] w fun e w' => e = .returned (.bool true) ∧ Below w.heap.size w w' := by
 obtain ⟨hkept, hlen⟩ := hO.toBase.len
 have hsize := hO.size
 have hn2 := hO.n2
 have fK : ∀ W, HeldP w0 C W s.p H → Calls Tryz.prog 73 #[tp C] W fun e w' => e = .returned (.int .i64 s.kind) ∧ W = w' := fun W hW => by
  have := Policyy.kindP_c hW
  rwa [hO.pk] at this
 have hN : ∀ W, HeldP w0 C W s.p H → Calls Tryz.prog 74 #[tp C] W fun e w' => e = .returned (.int .i64 s.m.length) ∧ Below W.heap.size W w' := fun W hW => by
  have := Policyy.lenP_c hW
  rwa [hkept] at this
 have hT : ∀ W, TabAt W T M s.m → Calls Tryz.prog 46 #[tp T] W fun e w' => e = .returned (.int .i64 s.m.length) ∧ Below W.heap.size W w' := fun W hW => Taby.len_t W hW
 have hY : ∀ W, TabAt W T M s.m → Calls Tryz.prog 75 #[tp T] W fun e w' => e = .returned (.int .i64 (size s.m : Int)) ∧ Below W.heap.size W w' := fun W hW => Taby.bytes_c (w0 := { W with heap := #[] }) (by omega) ⟨M, hW, fun _ => Iff.rfl, by simp, by simp⟩
 have e1 : decide ((s.n : Int) < (s.m.length : Int)) = false := decide_eq_false (by omega)
 have e2 : decide ((s.bytes : Int) < (size s.m : Int)) = false := decide_eq_false (by omega)
 have e1n : decide (s.n < s.m.length) = false := decide_eq_false (by omega)
 have e2n : decide (s.bytes < size s.m) = false := decide_eq_false (by omega)
 have hX := Blk.new w 26 #[tp b]
 have hB := (Below.refl _ w).alloc (Nat.le_refl _) (.cells #[tp b] 26)
 have h1 := h.below hB
 have HB := Lib.hid hB
 clear h hB hsize
 go_enter Tryz.func42, Tryz.ntmps42
 go_upto_region 1 with (fail)
 generalize w.alloc (.cells #[tp b] 26) = w1 at *
 generalize hq : w.heap.size = q at hX ⊢
 have HQ := Lib.hid hq
 clear hq
 have hS : (w1.drew.cell? ⟨q, 0, none⟩ = some (tp b) ∧ w1.drew.cell? ⟨b, 10, none⟩ = some (tp C) ∧ w1.drew.cell? ⟨b, 9, none⟩ = some (tp T) ∧ w1.drew.cell? ⟨b, 0, none⟩ = some (.int .i64 s.kind) ∧ w1.drew.cell? ⟨b, 1, none⟩ = some (.int .i64 s.n) ∧ w1.drew.cell? ⟨b, 2, none⟩ = some (.int .i64 s.bytes) ∧ Hf w0 w1.drew b T M C sv H s ∧ q < w1.drew.heap.size ∧ Below w.heap.size w w1.drew) := ⟨hX.cell 0, h1.drew.c rfl, h1.drew.c rfl, h1.drew.c rfl, h1.drew.c rfl, h1.drew.c rfl, h1.drew, hX.lt, HB.out.drew⟩
 have stp : ∀ W W' : World, (W.cell? ⟨q, 0, none⟩ = some (tp b) ∧ W.cell? ⟨b, 10, none⟩ = some (tp C) ∧ W.cell? ⟨b, 9, none⟩ = some (tp T) ∧ W.cell? ⟨b, 0, none⟩ = some (.int .i64 s.kind) ∧ W.cell? ⟨b, 1, none⟩ = some (.int .i64 s.n) ∧ W.cell? ⟨b, 2, none⟩ = some (.int .i64 s.bytes) ∧ Hf w0 W b T M C sv H s ∧ q < W.heap.size ∧ Below w.heap.size w W) → Below W.heap.size W W' → (W'.cell? ⟨q, 0, none⟩ = some (tp b) ∧ W'.cell? ⟨b, 10, none⟩ = some (tp C) ∧ W'.cell? ⟨b, 9, none⟩ = some (tp T) ∧ W'.cell? ⟨b, 0, none⟩ = some (.int .i64 s.kind) ∧ W'.cell? ⟨b, 1, none⟩ = some (.int .i64 s.n) ∧ W'.cell? ⟨b, 2, none⟩ = some (.int .i64 s.bytes) ∧ Hf w0 W' b T M C sv H s ∧ q < W'.heap.size ∧ Below w.heap.size w W') := fun W W' h hb => ⟨(World.cell?_of_block (hb.block _ h.2.2.2.2.2.2.2.1)).trans h.1, (h.2.2.2.2.2.2.1.below hb).c rfl, (h.2.2.2.2.2.2.1.below hb).c rfl, (h.2.2.2.2.2.2.1.below hb).c rfl, (h.2.2.2.2.2.2.1.below hb).c rfl, (h.2.2.2.2.2.2.1.below hb).c rfl, h.2.2.2.2.2.2.1.below hb, Nat.lt_of_lt_of_le h.2.2.2.2.2.2.2.1 hb.size, h.2.2.2.2.2.2.2.2.trans (hb.mono h.2.2.2.2.2.2.2.2.size)⟩
 clear hX h1 HB
 refine region_only 24 #[false, false, false, false, false, false, false, false, false, false, false, false, false, false, false, false, false, false, false, false, false, false, false, false] (S := (fun W => (W.cell? ⟨q, 0, none⟩ = some (tp b) ∧ W.cell? ⟨b, 10, none⟩ = some (tp C) ∧ W.cell? ⟨b, 9, none⟩ = some (tp T) ∧ W.cell? ⟨b, 0, none⟩ = some (.int .i64 s.kind) ∧ W.cell? ⟨b, 1, none⟩ = some (.int .i64 s.n) ∧ W.cell? ⟨b, 2, none⟩ = some (.int .i64 s.bytes) ∧ Hf w0 W b T M C sv H s ∧ q < W.heap.size ∧ Below w.heap.size w W))) rfl rfl (by kernel_rfl) hS (fun hSw => ?_)
 refine tkA 0 3 23 ?_ rfl rfl ?_ hSw ?_
 rotate_left
 ·intro wx hSx; (try dsimp only at hSx); go_split_ands; go_simp; (try with_reducible rfl)
 simp only [sA, List.set_cons_zero, sC]
 refine tkA 1 4 22 ?_ rfl rfl ?_ hSw ?_
 rotate_left
 ·intro wx hSx; (try dsimp only at hSx); go_split_ands; go_simp; (try with_reducible rfl)
 simp only [sA, List.set_cons_zero, sC]
 refine tkA 2 5 21 ?_ rfl rfl ?_ hSw ?_
 rotate_left
 ·intro wx hSx; (try dsimp only at hSx); go_split_ands; go_simp; (try with_reducible rfl)
 simp only [sA, List.set_cons_zero, sC]
 refine tkA 3 6 20 ?_ rfl rfl ?_ hSw ?_
 rotate_left
 ·intro wx hSx; (try dsimp only at hSx); go_split_ands; go_simp; (try with_reducible rfl)
 simp only [sA, List.set_cons_zero, sC]
 refine tkA 5 8 19 ?_ rfl rfl ?_ hSw ?_
 rotate_left
 ·intro wx hSx; (try dsimp only at hSx); go_split_ands; go_simp; (try with_reducible rfl)
 simp only [sA, List.set_cons_zero, sC]
 refine tkA 6 9 18 ?_ rfl rfl ?_ hSw ?_
 rotate_left
 ·intro wx hSx; (try dsimp only at hSx); go_split_ands; go_simp; (try with_reducible rfl)
 simp only [sA, List.set_cons_zero, sC]
 refine tkA 7 10 17 ?_ rfl rfl ?_ hSw ?_
 rotate_left
 ·intro wx hSx; (try dsimp only at hSx); go_split_ands; go_simp; (try with_reducible rfl)
 simp only [sA, List.set_cons_zero, sC]
 refine tkA 8 11 16 ?_ rfl rfl ?_ hSw ?_
 rotate_left
 ·intro wx hSx; (try dsimp only at hSx); go_split_ands; go_simp; (try with_reducible rfl)
 simp only [sA, List.set_cons_zero, sC]
 refine tkA 9 12 15 ?_ rfl rfl ?_ hSw ?_
 rotate_left
 ·intro wx hSx; (try dsimp only at hSx); go_split_ands; go_simp; (try with_reducible rfl)
 simp only [sA, List.set_cons_zero, sC]
 refine rdA 14 4 rfl fun K hK => ?_
 go_simp
 refine Calls.mono (fK _ hSw.2.2.2.2.2.2.1.pol) ?_
 rintro e wv ⟨rfl, rfl⟩
 refine hK.out _ _ hSw (fun hSw => ?_)
 clear hK K
 simp only [sA, List.set_cons_zero, sC]
 refine tkA 10 13 13 ?_ rfl rfl ?_ hSw ?_
 rotate_left
 ·intro wx hSx; (try dsimp only at hSx); go_split_ands; go_simp; (try with_reducible rfl)
 simp only [sA, List.set_cons_zero, sC]
 refine tkA 11 14 12 ?_ rfl rfl ?_ hSw ?_
 rotate_left
 ·intro wx hSx; (try dsimp only at hSx); go_split_ands; go_simp; (try with_reducible rfl)
 simp only [sA, List.set_cons_zero, sC]
 refine tkA 12 15 11 ?_ rfl rfl ?_ hSw ?_
 rotate_left
 ·intro wx hSx; (try dsimp only at hSx); go_split_ands; go_simp; (try with_reducible rfl)
 simp only [sA, List.set_cons_zero, sC]
 refine tkA 13 16 10 ?_ rfl rfl ?_ hSw ?_
 rotate_left
 ·intro wx hSx; (try dsimp only at hSx); go_split_ands; go_simp; (try with_reducible rfl)
 simp only [sA, List.set_cons_zero, sC]
 refine tkA 14 17 9 ?_ rfl rfl ?_ hSw ?_
 rotate_left
 ·intro wx hSx; (try dsimp only at hSx); go_split_ands; go_simp; (try with_reducible rfl)
 simp only [sA, List.set_cons_zero, sC]
 refine tkA 15 18 8 ?_ rfl rfl ?_ hSw ?_
 rotate_left
 ·intro wx hSx; (try dsimp only at hSx); go_split_ands; go_simp; (try with_reducible rfl)
 simp only [sA, List.set_cons_zero, sC]
 refine tkA 17 20 7 ?_ rfl rfl ?_ hSw ?_
 rotate_left
 ·intro wx hSx; (try dsimp only at hSx); go_split_ands; go_simp; (try with_reducible rfl)
 simp only [sA, List.set_cons_zero, sC]
 refine tkA 18 21 6 ?_ rfl rfl ?_ hSw ?_
 rotate_left
 ·intro wx hSx; (try dsimp only at hSx); go_split_ands; go_simp; (try with_reducible rfl)
 simp only [sA, List.set_cons_zero, sC]
 refine tkA 19 22 5 ?_ rfl rfl ?_ hSw ?_
 rotate_left
 ·intro wx hSx; (try dsimp only at hSx); go_split_ands; go_simp; (try with_reducible rfl)
 simp only [sA, List.set_cons_zero, sC]
 refine tkA 20 23 4 ?_ rfl rfl ?_ hSw ?_
 rotate_left
 ·intro wx hSx; (try dsimp only at hSx); go_split_ands; go_simp; (try with_reducible rfl)
 simp only [sA, List.set_cons_zero, sC]
 refine rdA 3 16 rfl fun K hK => ?_
 go_simp
 refine Calls.mono (hN _ hSw.2.2.2.2.2.2.1.pol) ?_
 rintro e wa ⟨rfl, hb⟩
 refine hK.out _ _ (stp _ _ hSw hb) (fun hSw => ?_)
 clear hK K
 simp only [sA, List.set_cons_zero, sC]
 refine rdA 2 21 rfl fun K hK => ?_
 go_simp
 refine Calls.mono (hT _ hSw.2.2.2.2.2.2.1.tab) ?_
 rintro e wb ⟨rfl, hb⟩
 refine hK.out _ _ (stp _ _ hSw hb) (fun hSw => ?_)
 clear hK K
 simp only [sA, List.set_cons_zero, sC]
 refine tkA 22 25 1 ?_ rfl rfl ?_ hSw ?_
 rotate_left
 ·intro wx hSx; (try dsimp only at hSx); go_split_ands; go_simp; (try with_reducible rfl)
 simp only [sA, List.set_cons_zero, sC]
 refine tkA 23 26 0 ?_ rfl rfl ?_ hSw ?_
 rotate_left
 ·intro wx hSx; (try dsimp only at hSx); go_split_ands; go_simp; (try with_reducible rfl)
 simp only [sA, List.set_cons_zero, sC]
 refine wpAnyH_done (by kernel_rfl) ⟨rfl, ?_⟩ 0
 go_upto_region 3 with (fail)
 replace hS := stp _ _ hSw (Below.drew (Below.refl _ _))
 clear hSw
 refine region_only 24 #[false, false, false, false, false, false, false, false, false, false, false, false, false, false, false, false, false, false, false, false, false, false, false, false] (S := (fun W => (W.cell? ⟨q, 0, none⟩ = some (tp b) ∧ W.cell? ⟨b, 10, none⟩ = some (tp C) ∧ W.cell? ⟨b, 9, none⟩ = some (tp T) ∧ W.cell? ⟨b, 0, none⟩ = some (.int .i64 s.kind) ∧ W.cell? ⟨b, 1, none⟩ = some (.int .i64 s.n) ∧ W.cell? ⟨b, 2, none⟩ = some (.int .i64 s.bytes) ∧ Hf w0 W b T M C sv H s ∧ q < W.heap.size ∧ Below w.heap.size w W))) rfl rfl (by kernel_rfl) hS (fun hSw => ?_)
 refine tkA 0 27 23 ?_ rfl rfl ?_ hSw ?_
 rotate_left
 ·intro wx hSx; (try dsimp only at hSx); go_split_ands; go_simp; (try with_reducible rfl)
 simp only [sA, List.set_cons_zero, sC]
 refine tkA 1 28 22 ?_ rfl rfl ?_ hSw ?_
 rotate_left
 ·intro wx hSx; (try dsimp only at hSx); go_split_ands; go_simp; (try with_reducible rfl)
 simp only [sA, List.set_cons_zero, sC]
 refine tkA 2 29 21 ?_ rfl rfl ?_ hSw ?_
 rotate_left
 ·intro wx hSx; (try dsimp only at hSx); go_split_ands; go_simp; (try with_reducible rfl)
 simp only [sA, List.set_cons_zero, sC]
 refine tkA 3 30 20 ?_ rfl rfl ?_ hSw ?_
 rotate_left
 ·intro wx hSx; (try dsimp only at hSx); go_split_ands; go_simp; (try with_reducible rfl)
 simp only [sA, List.set_cons_zero, sC]
 refine tkA 5 32 19 ?_ rfl rfl ?_ hSw ?_
 rotate_left
 ·intro wx hSx; (try dsimp only at hSx); go_split_ands; go_simp; (try with_reducible rfl)
 simp only [sA, List.set_cons_zero, sC]
 refine tkA 6 33 18 ?_ rfl rfl ?_ hSw ?_
 rotate_left
 ·intro wx hSx; (try dsimp only at hSx); go_split_ands; go_simp; (try with_reducible rfl)
 simp only [sA, List.set_cons_zero, sC]
 refine tkA 7 34 17 ?_ rfl rfl ?_ hSw ?_
 rotate_left
 ·intro wx hSx; (try dsimp only at hSx); go_split_ands; go_simp; (try with_reducible rfl)
 simp only [sA, List.set_cons_zero, sC]
 refine tkA 8 35 16 ?_ rfl rfl ?_ hSw ?_
 rotate_left
 ·intro wx hSx; (try dsimp only at hSx); go_split_ands; go_simp; (try with_reducible rfl)
 simp only [sA, List.set_cons_zero, sC]
 refine tkA 9 36 15 ?_ rfl rfl ?_ hSw ?_
 rotate_left
 ·intro wx hSx; (try dsimp only at hSx); go_split_ands; go_simp; (try with_reducible rfl)
 simp only [sA, List.set_cons_zero, sC]
 refine rdA 14 4 rfl fun K hK => ?_
 go_simp
 refine Calls.mono (hT _ hSw.2.2.2.2.2.2.1.tab) ?_
 rintro e wc ⟨rfl, hb⟩
 refine hK.out _ _ (stp _ _ hSw hb) (fun hSw => ?_)
 clear hK K
 simp only [sA, List.set_cons_zero, sC]
 refine tkA 10 37 13 ?_ rfl rfl ?_ hSw ?_
 rotate_left
 ·intro wx hSx; (try dsimp only at hSx); go_split_ands; go_simp; (try with_reducible rfl)
 simp only [sA, List.set_cons_zero, sC]
 refine tkA 11 38 12 ?_ rfl rfl ?_ hSw ?_
 rotate_left
 ·intro wx hSx; (try dsimp only at hSx); go_split_ands; go_simp; (try with_reducible rfl)
 simp only [sA, List.set_cons_zero, sC]
 refine tkA 12 39 11 ?_ rfl rfl ?_ hSw ?_
 rotate_left
 ·intro wx hSx; (try dsimp only at hSx); go_split_ands; go_simp; (try with_reducible rfl)
 simp only [sA, List.set_cons_zero, sC]
 refine tkA 13 40 10 ?_ rfl rfl ?_ hSw ?_
 rotate_left
 ·intro wx hSx; (try dsimp only at hSx); go_split_ands; go_simp; (try with_reducible rfl)
 simp only [sA, List.set_cons_zero, sC]
 refine tkA 14 41 9 ?_ rfl rfl ?_ hSw ?_
 rotate_left
 ·intro wx hSx; (try dsimp only at hSx); go_split_ands; go_simp; (try with_reducible rfl)
 simp only [sA, List.set_cons_zero, sC]
 refine tkA 15 42 8 ?_ rfl rfl ?_ hSw ?_
 rotate_left
 ·intro wx hSx; (try dsimp only at hSx); go_split_ands; go_simp; (try with_reducible rfl)
 simp only [sA, List.set_cons_zero, sC]
 refine tkA 17 44 7 ?_ rfl rfl ?_ hSw ?_
 rotate_left
 ·intro wx hSx; (try dsimp only at hSx); go_split_ands; go_simp; (try with_reducible rfl)
 simp only [sA, List.set_cons_zero, sC]
 refine tkA 18 45 6 ?_ rfl rfl ?_ hSw ?_
 rotate_left
 ·intro wx hSx; (try dsimp only at hSx); go_split_ands; go_simp; (try with_reducible rfl)
 simp only [sA, List.set_cons_zero, sC]
 refine tkA 19 46 5 ?_ rfl rfl ?_ hSw ?_
 rotate_left
 ·intro wx hSx; (try dsimp only at hSx); go_split_ands; go_simp; (try with_reducible rfl)
 simp only [sA, List.set_cons_zero, sC]
 refine tkA 20 47 4 ?_ rfl rfl ?_ hSw ?_
 rotate_left
 ·intro wx hSx; (try dsimp only at hSx); go_split_ands; go_simp; (try with_reducible rfl)
 simp only [sA, List.set_cons_zero, sC]
 refine tkA 21 48 3 ?_ rfl rfl ?_ hSw ?_
 rotate_left
 ·intro wx hSx; (try dsimp only at hSx); go_split_ands; go_simp; (try with_reducible rfl)
 simp only [sA, List.set_cons_zero, sC]
 refine rdA 2 16 rfl fun K hK => ?_
 go_simp
 refine Calls.mono (hY _ hSw.2.2.2.2.2.2.1.tab) ?_
 rintro e wd ⟨rfl, hb⟩
 refine hK.out _ _ (stp _ _ hSw hb) (fun hSw => ?_)
 clear hK K
 simp only [sA, List.set_cons_zero, sC]
 refine tkA 22 49 1 ?_ rfl rfl ?_ hSw ?_
 rotate_left
 ·intro wx hSx; (try dsimp only at hSx); go_split_ands; go_simp; (try with_reducible rfl)
 simp only [sA, List.set_cons_zero, sC]
 refine tkA 23 50 0 ?_ rfl rfl ?_ hSw ?_
 rotate_left
 ·intro wx hSx; (try dsimp only at hSx); go_split_ands; go_simp; (try with_reducible rfl)
 simp only [sA, List.set_cons_zero, sC]
 refine wpAnyH_done (by kernel_rfl) ⟨rfl, ?_⟩ 0
 have hS := hSw
 clear hSw
 obtain ⟨p0, -, -, -, -, -, hH, hql, hB⟩ := hS
 have hE := entries_g (w := wd) (M := M) rfl (by omega) hH.tab (made_h hH) (fun hW => (hH.below hW).c rfl)
 have HH := Lib.hid hH
 have HB := Lib.hid hB
 have HP0 := Lib.hid p0
 clear hH hB stp fK hN hT hY
 have hmf : ∀ (fn : Fn) (first cap : Array Value) (w : World), (Instr.makeFunc fn first cap).run Tryz.prog w = .ok (.func fn first cap) w := fun _ _ _ _ => rfl
 go_wp2_with fail
 refine hE.mono ?_
 rintro e w5 ⟨v, rfl, hsl, hb5⟩
 have hC := contains_h hO (HH.out.below hb5) ((World.cell?_of_block (hb5.block _ hql)).trans HP0.out) hsl
 have HB5 := Lib.hid (HB.out.trans (hb5.mono HB.out.size))
 clear hE hsl hb5 HH HB
 go_wp2_with fail
 refine hC.mono ?_
 rintro e w6 ⟨rfl, hb6⟩
 have HB6 := Lib.hid (HB5.out.trans (hb6.mono HB5.out.size))
 clear hb6 hC HB5
 go_wp2_with fail
 go_ret
 exact ⟨rfl, HB6.out⟩
end
end Go.Proofs.YtkiabladmgagdabGreatDoor.Storey
