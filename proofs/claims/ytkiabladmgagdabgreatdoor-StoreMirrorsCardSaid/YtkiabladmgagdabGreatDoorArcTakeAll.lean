/- The document's own ARC in memory: four numbers and a row of lists, handed over by value; what asks it, and a key's going to a list's front. The only condition: it is as chapter 7 has it. The document's own ARC: a key's going to a list's front, the last one's being forgotten, the going of one that is kept. The only condition: it is as chapter 7 has it. The document's own ARC: a key is inserted. The only condition: it is as chapter 7 has it. The document's own ARC: a key that went is inserted again. The only condition: it is as chapter 7 has it. The document's own ARC: a new key is inserted. The only condition: it is as chapter 7 has it. The document's own ARC: inserting, touching, removing, evicting, its bytes, a new one. The only condition: it is as chapter 7 has it. The document's own ARC: evicting, its bytes, a new one. The only condition: it is as chapter 7 has it. The program's own ARC: its bytes, and what is read off them. The only condition: it is as chapter 7 has it. -/
import Derived.Test.YtkiabladmgagdabGreatDoorRingRoundAll
import Derived.Test.YtkiabladmgagdabGreatDoorRingExportAll
import Derived.BigRegionIn
import Derived.Deep.RegionHeld3
import Derived.Test.YtkiabladmgagdabGreatDoorRingTakeAll
import Derived.Test.YtkiabladmgagdabGreatDoorArcMakeAll
import Derived.Deep.CutRange
import Derived.Deep.CutBlock
import Derived.Test.YtkiabladmgagdabGreatDoorSq
namespace Go.Proofs.YtkiabladmgagdabGreatDoor.Arcy
open Go.ChangeShapes Go.WideShapes Go.ChangeAt Go.RowKit Go.Shelf
open Wirey (Blk Row str str_size str_list Kp)
open Ringy Go.ChangeMaps Go.Maps

abbrev Dat (x : World) (v : Av) (G : Nat) (vs : Nat → Value) : Prop := RefAt x (fun _ => False) G vs v.rg
section
variable {w x y : World} {v v' : Av} {G G' : Nat} {vs vs' : Nat → Value} {k : Key}
end
end Go.Proofs.YtkiabladmgagdabGreatDoor.Arcy
namespace Go.Proofs.YtkiabladmgagdabGreatDoor.Arcy
open Go.ChangeShapes Go.WideShapes Go.ChangeAt Go.RowKit Go.Shelf
open Wirey (Blk Row str str_size str_list Kp)
open Ringy Go.ChangeMaps Go.Maps

structure Av.Fine (v : Av) : Prop where
 ok : v.Ok
 out : ∀ i, 4 ≤ i → v.rg.l i = []
section
variable {w x y : World} {v v' v'' : Av} {G G' G'' : Nat} {vs vs' vs'' : Nat → Value} {k : Key}
end
end Go.Proofs.YtkiabladmgagdabGreatDoor.Arcy
namespace Go.Proofs.YtkiabladmgagdabGreatDoor.Arcy
open Go.ChangeShapes Go.WideShapes Go.ChangeAt Go.RowKit Go.Shelf
open Wirey (Blk Row str str_size str_list Kp)
open Ringy Go.ChangeMaps Go.Maps

section
variable {w x y : World} {v v' v'' : Av} {G G' G'' : Nat} {vs vs' vs'' : Nat → Value} {k : Key}
theorem Av.Fine.fr {j : Nat} (h : v.Fine) (hj : j < 4) (hv : (v.fr j k).Ok) : (v.fr j k).Fine := ⟨hv, fun i hi => by
  show (if i = j then k :: strike k (v.rg.l i) else strike k (v.rg.l i)) = []
  rw [if_neg (by omega), h.out i hi]
  rfl⟩
theorem Av.Fine.dr (h : v.Fine) (k : Key) : (v.dr k).Fine := ⟨h.ok.dr k, fun i hi => by
  show strike k (v.rg.l i) = []
  rw [h.out i hi]
  rfl⟩
theorem Av.Fine.forget (h : v.Fine) (i : Nat) : (v.forget i).Fine := by
 unfold Av.forget
 split
 ·exact h
 ·exact h.dr _
theorem Av.Fine.repl (h : v.Fine) (b : Bool) : (v.repl b).Fine := by
 unfold Av.repl
 split
 ·exact h
 ·next k e =>
  have hs : v.src b < 2 := by rcases Av.src_cases v b with e | e <;> omega
  exact h.fr (by omega) (Av.move_went h.ok hs (Av.last_mem e)).ok
theorem Av.Fine.up (h : v.Fine) : v.up.Fine := ⟨h.ok.up, h.out⟩
theorem Av.Fine.down (h : v.Fine) : v.down.Fine := ⟨h.ok.down, h.out⟩
end
end Go.Proofs.YtkiabladmgagdabGreatDoor.Arcy
namespace Go.Proofs.YtkiabladmgagdabGreatDoor.Arcy
open Go.ChangeShapes Go.WideShapes Go.ChangeAt Go.RowKit Go.Shelf
open Wirey (Blk Row str str_size str_list Kp)
open Ringy Go.ChangeMaps Go.Maps

section
variable {w x y : World} {v v' v'' : Av} {G G' G'' : Nat} {vs vs' vs'' : Nat → Value} {k : Key}
theorem Av.Fine.room (h : v.Fine) (b : Bool) : (v.room b).Fine := by
 unfold Av.room
 split
 ·exact h
 ·exact h.repl b
end
end Go.Proofs.YtkiabladmgagdabGreatDoor.Arcy
namespace Go.Proofs.YtkiabladmgagdabGreatDoor.Arcy
open Go.ChangeShapes Go.WideShapes Go.ChangeAt Go.RowKit Go.Shelf
open Wirey (Blk Row str str_size str_list Kp)
open Ringy Go.ChangeMaps Go.Maps

section
variable {w x y : World} {v v' v'' : Av} {G G' G'' : Nat} {vs vs' vs'' : Nat → Value} {k : Key}
theorem Av.Fine.fresh (h : v.Fine) : v.fresh.Fine := by
 unfold Av.fresh Av.shut
 split
 ·exact h.forget 0
 ·split
  ·exact (h.forget 2).room false
  ·split
   ·exact (h.forget 3).room false
   ·exact h.room false
end
end Go.Proofs.YtkiabladmgagdabGreatDoor.Arcy
namespace Go.Proofs.YtkiabladmgagdabGreatDoor.Arcy
open Go.ChangeShapes Go.WideShapes Go.ChangeAt Go.RowKit Go.Shelf
open Wirey (Blk Row str str_size str_list str_cat Kp enc)
open Ringy Go.ChangeMaps Go.Maps

section
variable {w x y : World} {v v' v'' : Av} {G G' G'' : Nat} {vs vs' vs'' : Nat → Value} {k : Key}
theorem Av.Fine.insert (h : v.Fine) (k : Key) : (v.insert k).Fine := by
 refine ⟨(Av.insert_ok h.ok k).1, ?_⟩
 have hfr : ∀ (u : Av) (j : Nat), u.Fine → j < 4 → ∀ i, 4 ≤ i → (u.fr j k).rg.l i = [] := fun u j hu hj i hi => by
  show (if i = j then k :: strike k (u.rg.l i) else strike k (u.rg.l i)) = []
  rw [if_neg (by omega), hu.out i hi]
  rfl
 unfold Av.insert Av.ins
 split
 ·exact h.out
 ·split
  ·exact hfr _ 0 h.fresh (by omega)
  ·exact hfr _ 1 (h.up.room false) (by omega)
  ·exact hfr _ 1 (h.down.room true) (by omega)
  ·exact hfr _ 1 h (by omega)
theorem Av.Fine.touch (h : v.Fine) (hv : (v.touch k).Ok) : (v.touch k).Fine := by
 unfold Av.touch at *
 split at hv
 ·rw [if_pos (by assumption)]; exact h.fr (by omega) hv
 ·rw [if_neg (by assumption)]; exact h
end
end Go.Proofs.YtkiabladmgagdabGreatDoor.Arcy
namespace Go.Proofs.YtkiabladmgagdabGreatDoor.Arcy
open Go.ChangeShapes Go.WideShapes Go.ChangeAt Go.RowKit Go.Shelf
open Wirey (Blk Row str str_size str_list str_cat Kp enc)
open Ringy Go.ChangeMaps Go.Maps

section
variable {w x y : World} {v v' v'' : Av} {G G' G'' : Nat} {vs vs' vs'' : Nat → Value} {k : Key}
def Av.put (v : Av) : List UInt8 := enc v.most ++ (enc v.tgt ++ v.rg.put)
end
end Go.Proofs.YtkiabladmgagdabGreatDoor.Arcy
namespace Go.Proofs.YtkiabladmgagdabGreatDoor.Arcy
open Go.ChangeShapes Go.WideShapes Go.ChangeAt Go.RowKit Go.Shelf
open Wirey (Blk Row str str_size str_list str_cat Kp Kept RS enc num_ok must_ok numR_enc)
open Ringy Go.ChangeMaps Go.Maps

structure Hb (w0 : World) (A P : Nat) (m : Rm) (v : Av) (wb W : World) : Prop where
 h : HeldA w0 A P W m v
 b : Below wb.heap.size wb W
section
variable {w0 w x y : World} {A P : Nat} {m : Rm} {v : Av}
theorem Hb.onto (h : Hb w0 A P m v w x) (hb : Below x.heap.size x y) : Hb w0 A P m v w y := ⟨h.h.later hb (Nat.le_refl _), h.b.trans (hb.mono h.b.size)⟩
theorem Hb.alloc (h : Hb w0 A P m v w x) (o : Obj) : Hb w0 A P m v w (x.alloc o) := h.onto ((Below.refl _ x).alloc (Nat.le_refl _) o)
theorem Hb.drewN (h : Hb w0 A P m v w x) (n : Nat) : Hb w0 A P m v w (x.drewN n) := h.onto ⟨rfl, rfl, rfl, Nat.le_refl _, fun _ _ => rfl⟩
theorem Hb.all (h : Hb w0 A P m v w x) : (x.cell? ⟨A, 0, none⟩ = some (.int .i64 v.most) ∧ x.cell? ⟨A, 1, none⟩ = some (.int .i64 v.tgt) ∧ x.cell? ⟨A, 2, none⟩ = some (.pointer (some ⟨P, 0, none⟩))) ∧ Hb w0 A P m v w x := ⟨h.h.cells, h⟩
theorem Hb.of (h : HeldA w0 A P w m v) : Hb w0 A P m v w w := ⟨h, Below.refl _ _⟩
theorem numW {n : Nat} (hn : n < 1000000000) (W : World) : Calls Tryz.prog 44 #[.int .u64 (IntKind.u64.wrap (n : Int))] W fun e w' => e = .returned (.string (str (enc n))) ∧ Below W.heap.size W w' := by
 have e : IntKind.u64.wrap (n : Int) = (n : Int) := by rw [IntKind.wrap_u64]; omega
 rw [e]
 exact Wirey.num_c n (by omega) W
set_option maxHeartbeats 600000 in
set_option maxRecDepth 100000 in
theorem expA_c (h : HeldA w0 A P w m v) :
  Calls Tryz.prog 222 #[.pointer (some ⟨A, 0, none⟩)] w fun e w' => e = .returned (.string (str v.put)) ∧ Hb w0 A P m v w w' := by
 have hok := h.ok
 have hm := made_c h
 have hm2 := hok.m2
 have ht2 := hok.t
 have hcat := str_cat
 have hsz := str_size
 have hs := hok.wf.small
 have fm : ∀ W, Hb w0 A P m v w W → Calls Tryz.prog 44 #[.int .u64 (IntKind.u64.wrap (v.most : Int))] W fun e W' => e = .returned (.string (str (enc v.most))) ∧ Hb w0 A P m v w W' := fun W hW => (numW (n := v.most) (by omega) W).mono fun _ _ ⟨a, b⟩ => ⟨a, hW.onto b⟩
 have ft : ∀ W, Hb w0 A P m v w W → Calls Tryz.prog 44 #[.int .u64 (IntKind.u64.wrap (v.tgt : Int))] W fun e W' => e = .returned (.string (str (enc v.tgt))) ∧ Hb w0 A P m v w W' := fun W hW => (numW (n := v.tgt) (by omega) W).mono fun _ _ ⟨a, b⟩ => ⟨a, hW.onto b⟩
 have fp : ∀ W, Hb w0 A P m v w W → Calls Tryz.prog 228 #[.pointer (some ⟨P, 0, none⟩)] W fun e W' => e = .returned (.string (str v.rg.put)) ∧ Hb w0 A P m v w W' := fun W hW => by
  have hc := exp_c W hW.h.h.at_ hs (by rw [hok.n]; decide)
  rw [hW.h.h.R] at hc
  exact hc.mono fun _ _ ⟨a, b⟩ => ⟨a, hW.onto b⟩
 have l1 := enc_ten (n := v.most) (by omega)
 have l2 := enc_ten (n := v.tgt) (by omega)
 have l3 := hs.putTo v.rg.n (Nat.le_refl _)
 rw [hok.n] at l3
 have l3' : v.rg.put.length ≤ 20 + 400000 * 4 := by unfold Rg.put; rw [hok.n]; exact l3
 have hv1 : ¬ (9223372036854775807 < (enc v.most).length + (enc v.tgt).length) := by omega
 have hv2 : ¬ (9223372036854775807 < (enc v.most ++ enc v.tgt).length + v.rg.put.length) := by rw [List.length_append]; omega
 have hv3 : ¬ (9223372036854775807 < (enc v.most).length + (enc v.tgt).length + v.rg.put.length) := by omega
 have hpu : v.put = enc v.most ++ (enc v.tgt ++ v.rg.put) := rfl
 have HPU := Lib.hid hpu
 have h1 := Hb.of h
 clear l1 l2 l3 l3' hpu h
 go_enter Tryz.func222, Tryz.ntmps222
 go_wp2_with fail
 refine hm.mono ?_
 rintro e w' ⟨rfl, rfl⟩
 go_upto_region 3 with (fail)
 have hd : (w.drew.cell? ⟨A, 0, none⟩ = some (.int .i64 v.most) ∧ w.drew.cell? ⟨A, 1, none⟩ = some (.int .i64 v.tgt) ∧ w.drew.cell? ⟨A, 2, none⟩ = some (.pointer (some ⟨P, 0, none⟩))) ∧ Hb w0 A P m v w w.drew := (h1.drewN 1).all
 go_region_held3 (fun W => (W.cell? ⟨A, 0, none⟩ = some (.int .i64 v.most) ∧ W.cell? ⟨A, 1, none⟩ = some (.int .i64 v.tgt) ∧ W.cell? ⟨A, 2, none⟩ = some (.pointer (some ⟨P, 0, none⟩))) ∧ Hb w0 A P m v w W)
  (first | assumption | exact hd | exact Hb.all (by assumption))
  (first | (go_at_call 44; (with_reducible refine Calls.mono (fm _ (by assumption : (_ ∧ _ ∧ _) ∧ _).2) ?_); rintro e wv ⟨rfl, hwv⟩) | (go_at_call 44; (with_reducible refine Calls.mono (ft _ (by assumption : (_ ∧ _ ∧ _) ∧ _).2) ?_); rintro e wv ⟨rfl, hwv⟩) | (go_at_call 228; (with_reducible refine Calls.mono (fp _ (by assumption : (_ ∧ _ ∧ _) ∧ _).2) ?_); rintro e wv ⟨rfl, hwv⟩) | fail)
 have hZ := (by assumption : (_ ∧ _ ∧ _) ∧ Hb w0 A P m v w _).2
 clear hd
 go_wp2_with fail
 go_ret
 exact ⟨by rw [HPU.out]; rfl, hZ⟩
theorem places_c {n : Nat} (hn : n ≤ 1000) (w : World) :
  Calls Tryz.prog 95 #[.int .i64 n] w fun e w' => e = .returned (.int .i64 (2 * (n : Int) + 1)) ∧ w = w' := by
 go_enter Tryz.func95, Tryz.ntmps95
 go_wp2_with fail
 go_ret
 exact ⟨rfl, rfl⟩
set_option maxHeartbeats 600000 in
set_option maxRecDepth 100000 in
theorem mayBe_c (h : HeldA w0 A P w m v) :
  Calls Tryz.prog 103 #[.pointer (some ⟨A, 0, none⟩)] w fun e w' => e = .returned (.bool true) ∧ Hb w0 A P m v w w' := by
 have hok := h.ok
 have h1 := Hb.of h
 have fl : ∀ W, Hb w0 A P m v w W → Calls Tryz.prog 130 #[.pointer (some ⟨P, 0, none⟩)] W fun e W' => e = .returned (.int .i64 4) ∧ W = W' := fun W hW => by
  have hc := lists_h hW.h.h
  rw [hok.n] at hc
  exact hc
 have fF : ∀ W, Hb w0 A P m v w W → Calls Tryz.prog 132 #[.pointer (some ⟨P, 0, none⟩)] W fun e W' => e = .returned (.int .i64 ((v.rg.places : Int) - (v.rg.many : Int))) ∧ Hb w0 A P m v w W' := fun W hW => (free_h hW.h.h).mono fun _ _ ⟨a, n, b⟩ => ⟨a, b ▸ hW.drewN n⟩
 have fP : ∀ W, Hb w0 A P m v w W → Calls Tryz.prog 95 #[.int .i64 v.most] W fun e W' => e = .returned (.int .i64 (2 * (v.most : Int) + 1)) ∧ Hb w0 A P m v w W' := fun W hW => (places_c hok.m2 W).mono fun _ _ ⟨a, b⟩ => ⟨a, b ▸ hW⟩
 have fL : ∀ W, Hb w0 A P m v w W → Calls Tryz.prog 133 #[.pointer (some ⟨A, 0, none⟩)] W fun e W' => e = .returned (.int .i64 v.kept) ∧ Hb w0 A P m v w W' := fun W hW => (lenA_c hW.h).mono fun _ _ ⟨a, o, b⟩ => ⟨a, b ▸ hW.alloc o⟩
 have f2 : ∀ W : World, Hb w0 A P m v w (W.alloc (.cells #[.int .i64 0, .int .i64 2] 3)) → Calls Tryz.prog 131 #[.pointer (some ⟨A, 0, none⟩), .slice (some ⟨W.heap.size, 0, none⟩) 2 2] (W.alloc (.cells #[.int .i64 0, .int .i64 2] 3)) fun e W' => e = .returned (.int .i64 v.one) ∧ Hb w0 A P m v w W' := fun W hW => (count2 (a := 0) (b := 2) (x := 0) (y := 2) rfl rfl (by omega) (by omega) (Blk.new W _ _) hW.h).mono fun _ _ ⟨a, b⟩ => ⟨a, b ▸ hW⟩
 have f4 := count4 (Blk.new w 3 #[.int .i64 0, .int .i64 1, .int .i64 2, .int .i64 3]) (h.alloc _)
 have hm2 := hok.m2
 have b1 := hok.kept
 have b2 := hok.one
 have b3 := hok.all
 have e1 := Av.many4 hok.n
 have e2 := hok.pl
 have u1 : IntKind.i64.wrap ((v.all : Int) + ((v.rg.places : Int) - (v.rg.many : Int))) = 2 * (v.most : Int) + 1 := by rw [IntKind.wrap_i64, e1, e2]; omega
 have u2 : IntKind.i64.wrap (2 * (v.most : Int)) = 2 * (v.most : Int) := by rw [IntKind.wrap_i64]; omega
 have d1 : decide ((v.kept : Int) ≤ (v.most : Int)) = true := decide_eq_true (by omega)
 have d2 : decide ((v.one : Int) ≤ (v.most : Int)) = true := decide_eq_true (by omega)
 have d3 : decide ((v.all : Int) ≤ 2 * (v.most : Int)) = true := decide_eq_true (by omega)
 have d1N : decide (v.kept ≤ v.most) = true := decide_eq_true (by omega)
 have d2N : decide (v.one ≤ v.most) = true := decide_eq_true (by omega)
 have d3N : decide (v.all ≤ 2 * v.most) = true := decide_eq_true (by omega)
 obtain ⟨c0, c1, c2⟩ := h.cells
 clear e1 e2 b1 b2 b3 h
 go_enter Tryz.func103, Tryz.ntmps103
 go_wp2_with fail
 refine (fl _ h1).mono ?_
 rintro e w' ⟨rfl, rfl⟩
 go_wp2_with fail
 refine f4.mono ?_
 rintro e w' ⟨rfl, rfl⟩
 have h2 := h1.alloc (.cells #[.int .i64 0, .int .i64 1, .int .i64 2, .int .i64 3] 3)
 clear f4 fl c0 c1 c2
 go_upto_region 4 with (fail)
 generalize w.alloc (.cells #[.int .i64 0, .int .i64 1, .int .i64 2, .int .i64 3] 3) = w2 at *
 refine region_only 42 #[false, false, false, false, false, false, false, false, false, false, false, false, false, false, false, false, false, false, false, false, false, false, false, false, false, false, false, false, false, false, false, false, false, false, false, false, false, false, false, false, false, false] (S := (fun W => (W.cell? ⟨A, 0, none⟩ = some (.int .i64 v.most) ∧ W.cell? ⟨A, 1, none⟩ = some (.int .i64 v.tgt) ∧ W.cell? ⟨A, 2, none⟩ = some (.pointer (some ⟨P, 0, none⟩))) ∧ Hb w0 A P m v w W)) rfl rfl (by kernel_rfl) (h2.drewN 1).all (fun hSw => ?_)
 refine tkA 0 13 41 ?_ rfl rfl ?_ hSw ?_
 rotate_left
 ·intro wx hSx; (try dsimp only at hSx); go_split_ands; go_simp; (try with_reducible rfl)
 simp only [sA, List.set_cons_zero, sC]
 refine tkA 1 14 40 ?_ rfl rfl ?_ hSw ?_
 rotate_left
 ·intro wx hSx; (try dsimp only at hSx); go_split_ands; go_simp; (try with_reducible rfl)
 simp only [sA, List.set_cons_zero, sC]
 refine tkA 2 15 39 ?_ rfl rfl ?_ hSw ?_
 rotate_left
 ·intro wx hSx; (try dsimp only at hSx); go_split_ands; go_simp; (try with_reducible rfl)
 simp only [sA, List.set_cons_zero, sC]
 refine tkA 3 16 38 ?_ rfl rfl ?_ hSw ?_
 rotate_left
 ·intro wx hSx; (try dsimp only at hSx); go_split_ands; go_simp; (try with_reducible rfl)
 simp only [sA, List.set_cons_zero, sC]
 refine tkA 4 17 37 ?_ rfl rfl ?_ hSw ?_
 rotate_left
 ·intro wx hSx; (try dsimp only at hSx); go_split_ands; go_simp; (try with_reducible rfl)
 simp only [sA, List.set_cons_zero, sC]
 refine tkA 7 20 36 ?_ rfl rfl ?_ hSw ?_
 rotate_left
 ·intro wx hSx; (try dsimp only at hSx); go_split_ands; go_simp; (try with_reducible rfl)
 simp only [sA, List.set_cons_zero, sC]
 refine tkA 8 21 35 ?_ rfl rfl ?_ hSw ?_
 rotate_left
 ·intro wx hSx; (try dsimp only at hSx); go_split_ands; go_simp; (try with_reducible rfl)
 simp only [sA, List.set_cons_zero, sC]
 refine tkA 9 22 34 ?_ rfl rfl ?_ hSw ?_
 rotate_left
 ·intro wx hSx; (try dsimp only at hSx); go_split_ands; go_simp; (try with_reducible rfl)
 simp only [sA, List.set_cons_zero, sC]
 refine tkA 10 23 33 ?_ rfl rfl ?_ hSw ?_
 rotate_left
 ·intro wx hSx; (try dsimp only at hSx); go_split_ands; go_simp; (try with_reducible rfl)
 simp only [sA, List.set_cons_zero, sC]
 refine rdA 32 5 rfl fun K hK => ?_
 go_simp
 refine Calls.mono (fF _ hSw.2) ?_
 rintro e wv ⟨rfl, hwv⟩
 refine hK.out _ _ (Hb.all hwv) (fun hSw => ?_)
 clear hK K
 simp only [sA, List.set_cons_zero, sC]
 refine tkA 6 19 31 ?_ rfl rfl ?_ hSw ?_
 rotate_left
 ·intro wx hSx; (try dsimp only at hSx); go_split_ands; go_simp; (try with_reducible rfl)
 simp only [sA, List.set_cons_zero, sC]
 refine rdA 30 11 rfl fun K hK => ?_
 go_simp
 refine Calls.mono (fP _ hSw.2) ?_
 rintro e wv ⟨rfl, hwv⟩
 refine hK.out _ _ (Hb.all hwv) (fun hSw => ?_)
 clear hK K
 simp only [sA, List.set_cons_zero, sC]
 refine tkA 12 25 29 ?_ rfl rfl ?_ hSw ?_
 rotate_left
 ·intro wx hSx; (try dsimp only at hSx); go_split_ands; go_simp; (try with_reducible rfl)
 simp only [sA, List.set_cons_zero, sC]
 refine tkA 13 26 28 ?_ rfl rfl ?_ hSw ?_
 rotate_left
 ·intro wx hSx; (try dsimp only at hSx); go_split_ands; go_simp; (try with_reducible rfl)
 simp only [sA, List.set_cons_zero, sC]
 refine tkA 14 27 27 ?_ rfl rfl ?_ hSw ?_
 rotate_left
 ·intro wx hSx; (try dsimp only at hSx); go_split_ands; go_simp; (try with_reducible rfl)
 simp only [sA, List.set_cons_zero, sC]
 refine tkA 16 29 26 ?_ rfl rfl ?_ hSw ?_
 rotate_left
 ·intro wx hSx; (try dsimp only at hSx); go_split_ands; go_simp; (try with_reducible rfl)
 simp only [sA, List.set_cons_zero, sC]
 refine tkA 17 30 25 ?_ rfl rfl ?_ hSw ?_
 rotate_left
 ·intro wx hSx; (try dsimp only at hSx); go_split_ands; go_simp; (try with_reducible rfl)
 simp only [sA, List.set_cons_zero, sC]
 refine tkA 18 31 24 ?_ rfl rfl ?_ hSw ?_
 rotate_left
 ·intro wx hSx; (try dsimp only at hSx); go_split_ands; go_simp; (try with_reducible rfl)
 simp only [sA, List.set_cons_zero, sC]
 refine tkA 19 32 23 ?_ rfl rfl ?_ hSw ?_
 rotate_left
 ·intro wx hSx; (try dsimp only at hSx); go_split_ands; go_simp; (try with_reducible rfl)
 simp only [sA, List.set_cons_zero, sC]
 refine rdA 22 15 rfl fun K hK => ?_
 go_simp
 refine Calls.mono (fL _ hSw.2) ?_
 rintro e wv ⟨rfl, hwv⟩
 refine hK.out _ _ (Hb.all hwv) (fun hSw => ?_)
 clear hK K
 simp only [sA, List.set_cons_zero, sC]
 refine tkA 20 33 21 ?_ rfl rfl ?_ hSw ?_
 rotate_left
 ·intro wx hSx; (try dsimp only at hSx); go_split_ands; go_simp; (try with_reducible rfl)
 simp only [sA, List.set_cons_zero, sC]
 refine tkA 21 34 20 ?_ rfl rfl ?_ hSw ?_
 rotate_left
 ·intro wx hSx; (try dsimp only at hSx); go_split_ands; go_simp; (try with_reducible rfl)
 simp only [sA, List.set_cons_zero, sC]
 refine tkA 22 35 19 ?_ rfl rfl ?_ hSw ?_
 rotate_left
 ·intro wx hSx; (try dsimp only at hSx); go_split_ands; go_simp; (try with_reducible rfl)
 simp only [sA, List.set_cons_zero, sC]
 refine tkA 23 36 18 ?_ rfl rfl ?_ hSw ?_
 rotate_left
 ·intro wx hSx; (try dsimp only at hSx); go_split_ands; go_simp; (try with_reducible rfl)
 simp only [sA, List.set_cons_zero, sC]
 refine tkA 26 39 17 ?_ rfl rfl ?_ hSw ?_
 rotate_left
 ·intro wx hSx; (try dsimp only at hSx); go_split_ands; go_simp; (try with_reducible rfl)
 simp only [sA, List.set_cons_zero, sC]
 refine tkA 27 40 16 ?_ rfl rfl ?_ hSw ?_
 rotate_left
 ·intro wx hSx; (try dsimp only at hSx); go_split_ands; go_simp; (try with_reducible rfl)
 simp only [sA, List.set_cons_zero, sC]
 refine tkA 28 41 15 ?_ rfl rfl ?_ hSw ?_
 rotate_left
 ·intro wx hSx; (try dsimp only at hSx); go_split_ands; go_simp; (try with_reducible rfl)
 simp only [sA, List.set_cons_zero, sC]
 refine tkA 29 42 14 ?_ rfl rfl ?_ hSw ?_
 rotate_left
 ·intro wx hSx; (try dsimp only at hSx); go_split_ands; go_simp; (try with_reducible rfl)
 simp only [sA, List.set_cons_zero, sC]
 refine rdA 13 24 rfl fun K hK => ?_
 go_simp
 refine hK.out _ _ (Hb.all (hSw.2.alloc _)) (fun hSw => ?_)
 clear hK K
 simp only [sA, List.set_cons_zero, sC]
 refine rdA 12 25 rfl fun K hK => ?_
 go_simp
 refine Calls.mono (f2 _ hSw.2) ?_
 rintro e wv ⟨rfl, hwv⟩
 refine hK.out _ _ (Hb.all hwv) (fun hSw => ?_)
 clear hK K
 simp only [sA, List.set_cons_zero, sC]
 refine tkA 30 43 11 ?_ rfl rfl ?_ hSw ?_
 rotate_left
 ·intro wx hSx; (try dsimp only at hSx); go_split_ands; go_simp; (try with_reducible rfl)
 simp only [sA, List.set_cons_zero, sC]
 refine tkA 31 44 10 ?_ rfl rfl ?_ hSw ?_
 rotate_left
 ·intro wx hSx; (try dsimp only at hSx); go_split_ands; go_simp; (try with_reducible rfl)
 simp only [sA, List.set_cons_zero, sC]
 refine tkA 32 45 9 ?_ rfl rfl ?_ hSw ?_
 rotate_left
 ·intro wx hSx; (try dsimp only at hSx); go_split_ands; go_simp; (try with_reducible rfl)
 simp only [sA, List.set_cons_zero, sC]
 refine tkA 33 46 8 ?_ rfl rfl ?_ hSw ?_
 rotate_left
 ·intro wx hSx; (try dsimp only at hSx); go_split_ands; go_simp; (try with_reducible rfl)
 simp only [sA, List.set_cons_zero, sC]
 refine tkA 34 47 7 ?_ rfl rfl ?_ hSw ?_
 rotate_left
 ·intro wx hSx; (try dsimp only at hSx); go_split_ands; go_simp; (try with_reducible rfl)
 simp only [sA, List.set_cons_zero, sC]
 refine tkA 35 48 6 ?_ rfl rfl ?_ hSw ?_
 rotate_left
 ·intro wx hSx; (try dsimp only at hSx); go_split_ands; go_simp; (try with_reducible rfl)
 simp only [sA, List.set_cons_zero, sC]
 refine tkA 36 49 5 ?_ rfl rfl ?_ hSw ?_
 rotate_left
 ·intro wx hSx; (try dsimp only at hSx); go_split_ands; go_simp; (try with_reducible rfl)
 simp only [sA, List.set_cons_zero, sC]
 refine tkA 37 50 4 ?_ rfl rfl ?_ hSw ?_
 rotate_left
 ·intro wx hSx; (try dsimp only at hSx); go_split_ands; go_simp; (try with_reducible rfl)
 simp only [sA, List.set_cons_zero, sC]
 refine tkA 38 51 3 ?_ rfl rfl ?_ hSw ?_
 rotate_left
 ·intro wx hSx; (try dsimp only at hSx); go_split_ands; go_simp; (try with_reducible rfl)
 simp only [sA, List.set_cons_zero, sC]
 refine tkA 39 52 2 ?_ rfl rfl ?_ hSw ?_
 rotate_left
 ·intro wx hSx; (try dsimp only at hSx); go_split_ands; go_simp; (try with_reducible rfl)
 simp only [sA, List.set_cons_zero, sC]
 refine tkA 40 53 1 ?_ rfl rfl ?_ hSw ?_
 rotate_left
 ·intro wx hSx; (try dsimp only at hSx); go_split_ands; go_simp; (try with_reducible rfl)
 simp only [sA, List.set_cons_zero, sC]
 refine tkA 41 2 0 ?_ rfl rfl ?_ hSw ?_
 rotate_left
 ·intro wx hSx; (try dsimp only at hSx); go_split_ands; go_simp; (try with_reducible rfl)
 simp only [sA, List.set_cons_zero, sC]
 refine wpAnyH_done (by kernel_rfl) ⟨rfl, ?_⟩ 0
 have hZ := hSw.2
 clear hSw
 go_wp2_with fail
 go_ret
 exact ⟨rfl, hZ⟩
theorem heldA_any {w : World} {A : Nat} {m : Rm} {v : Av} (hA : At w m v.rg) (hb : Blk w A 171 #[.int .i64 v.most, .int .i64 v.tgt, .pointer (some ⟨m.R, 0, none⟩)]) (hno : ¬ m.own A) (hok : v.Ok) : HeldA { w with heap := #[] } A m.R w m v :=
 ⟨held_any hA, hb, by simp, hno, hok⟩
set_option maxHeartbeats 600000 in
set_option maxRecDepth 100000 in
theorem takeA_r (hok : v.Ok) {R O : Nat} (rest : List UInt8) (hrest : rest.length ≤ 10000000) (w : World) (h : RS w R O (v.put ++ rest)) :
  Calls Tryz.prog 71 #[.pointer (some ⟨R, 0, none⟩)] w fun e w' => ∃ A m, e = .returned (.pointer (some ⟨A, 0, none⟩)) ∧ At w' m v.rg ∧ Blk w' A 171 #[.int .i64 v.most, .int .i64 v.tgt, .pointer (some ⟨m.R, 0, none⟩)] ∧ (∀ b, m.own b → w.heap.size ≤ b) ∧ w.heap.size ≤ A ∧ ¬ m.own A ∧ RS w' R O rest ∧ Kp (fun k => k = R ∨ k = O) w w' := by
 replace h : RS w R O (enc v.most ++ (enc v.tgt ++ (v.rg.put ++ rest))) := by
  have e : enc v.most ++ (enc v.tgt ++ (v.rg.put ++ rest)) = v.put ++ rest := by unfold Av.put; simp only [List.append_assoc]
  rw [e]
  exact h
 have hm1' := hok.m1
 have hm2 := hok.m2
 have ht2 := hok.t
 have hs := hok.wf.small
 have hRl := h.rd.lt
 have hOl := h.of.lt
 have l1 := enc_ten (n := v.most) (by omega)
 have l2 := enc_ten (n := v.tgt) (by omega)
 have l3 := hs.putTo v.rg.n (Nat.le_refl _)
 rw [hok.n] at l3
 have l3' : v.rg.put.length ≤ 20 + 400000 * 4 := by unfold Rg.put; rw [hok.n]; exact l3
 have hm1 := num_ok 1000 (numR_enc (n := v.most) (by omega) (enc v.tgt ++ (v.rg.put ++ rest))) hm2 (by simp only [List.length_append]; omega) w h
 rw [List.drop_left] at hm1
 have hmt := fun (W : World) (h : RS W R O (enc v.tgt ++ (v.rg.put ++ rest))) => num_ok v.most (numR_enc (n := v.tgt) (by omega) (v.rg.put ++ rest)) ht2 (by simp only [List.length_append]; omega) W h
 rw [List.drop_left] at hmt
 have e4 : ((1000 : Nat) : Int) = 1000 := by omega
 rw [e4] at hm1
 have HM1 := Lib.hid hm1
 have HMT := Lib.hid hmt
 have HTK := Lib.hid (fun (W : World) (h : RS W R O (v.rg.put ++ rest)) => Ringy.take_r hok.wf (by rw [hok.n]; decide) rest (by omega) W h)
 have hwp : decide ((0 : Int) < (v.most : Int)) = true := decide_eq_true (by omega)
 have hwpN : decide (0 < v.most) = true := decide_eq_true (by omega)
 have hw0 : ((v.most : Int) == 0) = false := by rw [beq_eq_false_iff_ne]; omega
 clear hm1 hmt e4 l1 l2 l3 l3' hs h
 go_enter Tryz.func71, Tryz.ntmps71
 go_wp2_with fail
 refine HM1.out.mono ?_
 rintro e v1 ⟨rfl, hk1, hr1⟩
 go_wp2_with fail
 refine (must_ok _).mono ?_
 rintro e w' ⟨rfl, rfl⟩
 have hz1 := hk1.size
 have hb1 := Blk.new v1 171 #[.int .i64 v.most, .int .i64 0, .pointer none]
 have hr2 := hr1.below ((Below.refl _ v1).alloc (Nat.le_refl _) (.cells #[.int .i64 v.most, .int .i64 0, .pointer none] 171))
 have hk2 := (Kp.of_kept (S := fun k => k = R ∨ k = O) hk1 (.inl rfl) (.inr rfl)).alloc (.cells #[.int .i64 v.most, .int .i64 0, .pointer none] 171)
 go_upto_region 6 with (fail)
 obtain ⟨A, hAe⟩ : ∃ A, A = v1.heap.size := ⟨_, rfl⟩
 rw [← hAe] at hb1 ⊢
 generalize v1.alloc (.cells #[.int .i64 v.most, .int .i64 0, .pointer none] 171) = v2 at *
 have hAw : w.heap.size ≤ A := by omega
 have hAR : ¬ (A = R ∨ A = O) := by omega
 clear hk1 hr1 hAe hz1
 go_wp2_with fail
 refine (HMT.out _ hr2).mono ?_
 rintro e v3 ⟨rfl, hk3, hr3⟩
 have hp3 := Kp.of_kept (S := fun k => k = R ∨ k = O) hk3 (.inl rfl) (.inr rfl)
 have hb3 := hp3.blk hb1 hAR
 have hk4 := hk2.trans hp3
 have a1 : v3.cell? ⟨A, 1, none⟩ = some (.int .i64 0) := hb3.cell 1
 have f1 := hb3.free 1
 have hb4 := hb3.put 1 (.int .i64 v.tgt)
 have hr4 : RS (v3.setCell ⟨A, 1, none⟩ (.int .i64 v.tgt)) R O (v.rg.put ++ rest) := ⟨hr3.rd.far (p := ⟨A, 1, none⟩) (by show R ≠ A; omega) _, hr3.of.far (p := ⟨A, 1, none⟩) (by show O ≠ A; omega) _⟩
 have hk5 : Kp (fun k => k = R ∨ k = O ∨ k = A) w (v3.setCell ⟨A, 1, none⟩ (.int .i64 v.tgt)) := Kp.set (S := fun k => k = R ∨ k = O ∨ k = A) ⟨hk4.os, hk4.tape, hk4.output, hk4.size, fun k hk hn => hk4.block k hk (fun e => hn (by rcases e with e | e; exact .inl e; exact .inr (.inl e)))⟩ (p := ⟨A, 1, none⟩) (.inr (.inr rfl)) _
 clear hk2 hk3 hp3 hb3 hk4 hr2 hr3 hb1
 go_upto_region 7 with (fail)
 generalize v3.setCell ⟨A, 1, none⟩ (.int .i64 v.tgt) = v4 at *
 clear a1 f1
 go_wp2_with fail
 refine (HTK.out _ hr4).mono ?_
 rintro e v5 ⟨m, rfl, hAt, hO, hr5, hp5⟩
 have hb5 : Blk v5 A 171 #[.int .i64 v.most, .int .i64 v.tgt, .pointer none] := hp5.blk hb4 hAR
 have a2 : v5.cell? ⟨A, 2, none⟩ = some (.pointer none) := hb5.cell 2
 have f2 := hb5.free 2
 have hAl := hb4.lt
 have hno : ¬ m.own A := fun ho => by have := hO A ho; omega
 have hb6 : Blk (v5.setCell ⟨A, 2, none⟩ (.pointer (some ⟨m.R, 0, none⟩))) A 171 #[.int .i64 v.most, .int .i64 v.tgt, .pointer (some ⟨m.R, 0, none⟩)] := hb5.put 2 _
 have hr6 : RS (v5.setCell ⟨A, 2, none⟩ (.pointer (some ⟨m.R, 0, none⟩))) R O rest := ⟨hr5.rd.far (p := ⟨A, 2, none⟩) (by show R ≠ A; omega) _, hr5.of.far (p := ⟨A, 2, none⟩) (by show O ≠ A; omega) _⟩
 have hA6 : At (v5.setCell ⟨A, 2, none⟩ (.pointer (some ⟨m.R, 0, none⟩))) m v.rg := hAt.stay (fun b hb => Below.heap_setCell v5 ⟨A, 2, none⟩ _ b (fun e => hno (by have e2 : b = A := e; rw [← e2]; exact hb)))
 have hk6 : Kp (fun k => k = R ∨ k = O ∨ k = A) w (v5.setCell ⟨A, 2, none⟩ (.pointer (some ⟨m.R, 0, none⟩))) := Kp.set (S := fun k => k = R ∨ k = O ∨ k = A) (hk5.trans ⟨hp5.os, hp5.tape, hp5.output, hp5.size, fun k hk hn => hp5.block k hk (fun e => hn (by rcases e with e | e; exact .inl e; exact .inr (.inl e)))⟩) (p := ⟨A, 2, none⟩) (.inr (.inr rfl)) _
 have hwz := hk5.size
 have hOO : ∀ b, m.own b → w.heap.size ≤ b := fun b hb => by have := hO b hb; omega
 clear hp5 hb5 hb4 hr4 hr5 hAt hk5 hO
 go_upto_region 8 with (fail)
 generalize v5.setCell ⟨A, 2, none⟩ (.pointer (some ⟨m.R, 0, none⟩)) = v6 at *
 clear a2 f2
 have hH := heldA_any hA6 hb6 hno hok
 go_wp2_with fail
 refine (mayBe_c hH).mono ?_
 rintro e v7 ⟨rfl, hB7⟩
 have hb7 := hB7.b
 have hr7 := hr6.below hb7
 have hA7 := hA6.below hb7 (Nat.le_refl _)
 have hb8 := hb6.below hb7 hb6.lt
 have hk7 : Kp (fun k => k = R ∨ k = O) w v7 := ⟨hb7.os.trans hk6.os, hb7.tape.trans hk6.tape, hb7.output.trans hk6.output, Nat.le_trans hk6.size hb7.size, fun k hk hn => (hb7.block k (Nat.lt_of_lt_of_le hk hk6.size)).trans (hk6.block k hk (fun e => by rcases e with e | e | e; exact hn (.inl e); exact hn (.inr e); omega))⟩
 clear hH hB7 hb7 hr6 hA6 hb6 hk6
 go_wp2_with fail
 refine (must_ok _).mono ?_
 rintro e w' ⟨rfl, rfl⟩
 go_wp2_with fail
 go_ret
 exact ⟨A, m, rfl, hA7, hb8, hOO, by omega, hno, hr7, hk7⟩
end
end Go.Proofs.YtkiabladmgagdabGreatDoor.Arcy
