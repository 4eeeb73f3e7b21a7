/- The document's own Tiny in memory: a number, a sketch and a row of lists, handed over by value; what asks it, and a key's going to a list's front. The only condition: it is as chapter 8 has it. The document's own Tiny: what asks it, missing, removing, evicting, making one, its bytes. The only condition: it is as chapter 8 has it. The document's own Tiny: evicting, and its bytes. The only condition: it is as chapter 8 has it. The program's own Tiny: its bytes, and what is read off them. The only condition: it is as chapter 8 has it. One act done to the program's Tiny and to the document's. The only condition: both are the same, and as chapter 8 has it. -/
import Derived.Test.YtkiabladmgagdabGreatDoorRingRoundAll
import Derived.Test.YtkiabladmgagdabGreatDoorRingExportAll
import Derived.BigRegionIn
import Derived.Deep.RegionHeld3
import Derived.Test.YtkiabladmgagdabGreatDoorRingTakeAll
import Derived.Test.YtkiabladmgagdabGreatDoorTinyMakeAll
import Derived.Test.YtkiabladmgagdabGreatDoorSketchRefAddAll
import Derived.Test.YtkiabladmgagdabGreatDoorSketchImportAll
import Derived.BigQuiet
import Derived.Test.YtkiabladmgagdabGreatDoorSq
namespace Go.Proofs.YtkiabladmgagdabGreatDoor.Tinyy
open Go.ChangeShapes Go.WideShapes Go.ChangeAt Go.RowKit Go.Shelf
open Wirey (Blk Row str str_size str_list Kp)
open Ringy Go.ChangeMaps Go.Maps
open Sketchy (Sk ksOf ksOf_lt Six)

section
variable {x : World} {b : Nat} {t : TypeId} {z0 z1 z2 z3 z4 z5 z6 z7 : Value}
end
structure Ad where
 R : Nat
 c : Nat
 D : Nat
 Gs : Nat → Nat
 G : Nat
 vs : Nat → Value
def Tv.Out (v : Tv) : Prop := ∀ i, 3 ≤ i → v.rg.l i = []
structure Tv.Fine (v : Tv) : Prop where
 fit : v.Fit
 out : v.Out
structure Dt (x : World) (v : Tv) (a : Ad) : Prop where
 s : Sketchy.Ref x a.R a.D a.Gs v.sk
 r : RefAt x (fun _ => False) a.G a.vs v.rg
section
variable {w x y : World} {v v' v'' : Tv} {a a' a'' : Ad} {k : Key} {j K : Nat}
end
end Go.Proofs.YtkiabladmgagdabGreatDoor.Tinyy
namespace Go.Proofs.YtkiabladmgagdabGreatDoor.Tinyy
open Go.ChangeShapes Go.WideShapes Go.ChangeAt Go.RowKit Go.Shelf
open Wirey (Blk Row str str_size str_list str_cat Kp enc)
open Ringy Go.ChangeMaps Go.Maps
open Sketchy (Sk ksOf ksOf_lt Six)

section
variable {w x y : World} {v v' v'' : Tv} {a a' a'' : Ad} {k : Key} {j K : Nat}
theorem Tv.new_fine {n seed : Nat} (h1 : 1 ≤ n) (h2 : n ≤ 1000) (h3 : seed < 18446744073709551616) : (Tv.new n seed).Fine := ⟨(Tv.new_ok h1 h2 h3).fit, fun _ _ => rfl⟩
end
end Go.Proofs.YtkiabladmgagdabGreatDoor.Tinyy
namespace Go.Proofs.YtkiabladmgagdabGreatDoor.Tinyy
open Go.ChangeShapes Go.WideShapes Go.ChangeAt Go.RowKit Go.Shelf
open Wirey (Blk Row str str_size str_list str_cat Kp enc)
open Ringy Go.ChangeMaps Go.Maps
open Sketchy (Sk ksOf ksOf_lt Six)

section
variable {w x y : World} {v v' v'' : Tv} {a a' a'' : Ad} {k : Key} {j K g : Nat}
def Tv.put (v : Tv) : List UInt8 := enc v.most ++ (v.sk.put ++ v.rg.put)
theorem skput_len {s : Sk} (h : s.Pre) : s.put.length ≤ 30000 := by
 have h1 := (Wirey.enc_len (n := s.wide) (by have := h.w2; omega)).2
 have h2 := (Wirey.enc_len (n := s.seed) h.seed).2
 have h3 := (Wirey.enc_len (n := s.added) (by have := h.w2; have := h.added; omega)).2
 have h4 := Sketchy.rowsTo_len h 4 (by omega)
 have h5 := h.w2
 rw [Sketchy.put_eq]
 show (enc s.wide ++ enc s.seed ++ enc s.added ++ Sketchy.rowsTo s 4 ++ s.door.map Sketchy.flagB).length ≤ _
 simp only [List.length_append, List.length_map, h4, h.dlen]
 omega
end
end Go.Proofs.YtkiabladmgagdabGreatDoor.Tinyy
namespace Go.Proofs.YtkiabladmgagdabGreatDoor.Tinyy
open Go.ChangeShapes Go.WideShapes Go.ChangeAt Go.RowKit Go.Shelf
open Wirey (Blk Row str str_size str_list str_cat Kp Kept RS enc num_ok must_ok numR_enc)
open Ringy Go.ChangeMaps Go.Maps
open Sketchy (Sk Six)

structure Hb (w0 : World) (A B P : Nat) (m : Rm) (v : Tv) (wb W : World) : Prop where
 h : HeldT w0 A B P W m v
 b : Below wb.heap.size wb W
section
variable {w0 w x y : World} {A B P g : Nat} {m : Rm} {v : Tv}
theorem Hb.onto (h : Hb w0 A B P m v w x) (hb : Below x.heap.size x y) : Hb w0 A B P m v w y := ⟨h.h.later hb (Nat.le_refl _), h.b.trans (hb.mono h.b.size)⟩
theorem Hb.alloc (h : Hb w0 A B P m v w x) (o : Obj) : Hb w0 A B P m v w (x.alloc o) := h.onto ((Below.refl _ x).alloc (Nat.le_refl _) o)
theorem Hb.drewN (h : Hb w0 A B P m v w x) (n : Nat) : Hb w0 A B P m v w (x.drewN n) := h.onto ⟨rfl, rfl, rfl, Nat.le_refl _, fun _ _ => rfl⟩
theorem Hb.all (h : Hb w0 A B P m v w x) : (x.cell? ⟨A, 0, none⟩ = some (.int .i64 v.most) ∧ x.cell? ⟨A, 1, none⟩ = some (.pointer (some ⟨B + 1, 0, none⟩)) ∧ x.cell? ⟨A, 2, none⟩ = some (.pointer (some ⟨P, 0, none⟩))) ∧ Hb w0 A B P m v w x := ⟨h.h.cells, h⟩
theorem Hb.of (h : HeldT w0 A B P w m v) : Hb w0 A B P m v w w := ⟨h, Below.refl _ _⟩
theorem numP {n : Nat} (hn : n < 1000000000) (W : World) : Calls Tryz.prog 44 #[.int .u64 (IntKind.u64.wrap (n : Int))] W fun e w' => e = .returned (.string (str (enc n))) ∧ Below W.heap.size W w' := by
 have e : IntKind.u64.wrap (n : Int) = (n : Int) := by rw [IntKind.wrap_u64]; omega
 rw [e]
 exact Wirey.num_c n (by omega) W
set_option maxHeartbeats 8000000 in
set_option maxRecDepth 100000 in
theorem expT_c (hok : v.Fine) (h : HeldT w0 A B P w m v) :
  Calls Tryz.prog 242 #[.pointer (some ⟨A, 0, none⟩)] w fun e w' => e = .returned (.string (str v.put)) ∧ Hb w0 A B P m v w w' := by
 have hm := made_c h
 have hm2 := hok.fit.m2
 have hcat := str_cat
 have hsz := str_size
 have hs := hok.fit.wf.small
 have l1 := enc_ten (n := v.most) (by omega)
 have l2 := skput_len hok.fit.sw.pre
 have l3 := hs.putTo v.rg.n (Nat.le_refl _)
 rw [hok.fit.n] at l3
 have l3' : v.rg.put.length ≤ 20 + 400000 * 3 := by unfold Rg.put; rw [hok.fit.n]; exact l3
 have hv1 : ¬ (9223372036854775807 < (enc v.most).length + v.sk.put.length) := by omega
 have hv2 : ¬ (9223372036854775807 < (enc v.most ++ v.sk.put).length + v.rg.put.length) := by rw [List.length_append]; omega
 have hv3 : ¬ (9223372036854775807 < (enc v.most).length + v.sk.put.length + v.rg.put.length) := by omega
 have hpu : v.put = enc v.most ++ (v.sk.put ++ v.rg.put) := rfl
 have HPU := Lib.hid hpu
 clear l1 l2 l3 l3' hpu
 have fm : ∀ W, Hb w0 A B P m v w W → Calls Tryz.prog 44 #[.int .u64 (IntKind.u64.wrap (v.most : Int))] W fun e W' => e = .returned (.string (str (enc v.most))) ∧ Hb w0 A B P m v w W' := fun W hW => (numP (n := v.most) (by omega) W).mono fun _ _ ⟨a, b⟩ => ⟨a, hW.onto b⟩
 have ft : ∀ W, Hb w0 A B P m v w W → Calls Tryz.prog 248 #[.pointer (some ⟨B + 1, 0, none⟩)] W fun e W' => e = .returned (.string (str v.sk.put)) ∧ Hb w0 A B P m v w W' := fun W hW => (Sketchy.export_c W hW.h.sk hok.fit.sw.pre).mono fun _ _ ⟨a, b⟩ => ⟨a, hW.onto b⟩
 have fp : ∀ W, Hb w0 A B P m v w W → Calls Tryz.prog 228 #[.pointer (some ⟨P, 0, none⟩)] W fun e W' => e = .returned (.string (str v.rg.put)) ∧ Hb w0 A B P m v w W' := fun W hW => by
  have hc := exp_c W hW.h.h.at_ hs (by rw [hok.fit.n]; decide)
  rw [hW.h.h.R] at hc
  exact hc.mono fun _ _ ⟨a, b⟩ => ⟨a, hW.onto b⟩
 have h1 := Hb.of h
 clear h hok
 go_enter Tryz.func242, Tryz.ntmps242
 go_wp2_with fail
 refine hm.mono ?_
 rintro e w' ⟨rfl, rfl⟩
 go_upto_region 3 with (fail)
 have hd := (h1.drewN 1).all
 go_region_held3 (fun W => (W.cell? ⟨A, 0, none⟩ = some (.int .i64 v.most) ∧ W.cell? ⟨A, 1, none⟩ = some (.pointer (some ⟨B + 1, 0, none⟩)) ∧ W.cell? ⟨A, 2, none⟩ = some (.pointer (some ⟨P, 0, none⟩))) ∧ Hb w0 A B P m v w W)
  (first | assumption | exact hd | exact Hb.all (by assumption))
  (first | (go_at_call 44; (with_reducible refine Calls.mono (fm _ (by assumption : (_ ∧ _ ∧ _) ∧ _).2) ?_); rintro e wv ⟨rfl, hwv⟩) | (go_at_call 248; (with_reducible refine Calls.mono (ft _ (by assumption : (_ ∧ _ ∧ _) ∧ _).2) ?_); rintro e wv ⟨rfl, hwv⟩) | (go_at_call 228; (with_reducible refine Calls.mono (fp _ (by assumption : (_ ∧ _ ∧ _) ∧ _).2) ?_); rintro e wv ⟨rfl, hwv⟩) | fail)
 have hZ := (by assumption : (_ ∧ _ ∧ _) ∧ Hb w0 A B P m v w _).2
 clear hd
 go_wp2_with fail
 go_ret
 exact ⟨by rw [HPU.out]; rfl, hZ⟩
set_option maxHeartbeats 8000000 in
set_option maxRecDepth 100000 in
theorem tooMany_b (h1 : Hb w0 A B P m v w x) :
  Calls Tryz.prog 139 #[.pointer (some ⟨A, 0, none⟩)] x fun e w' => e = .returned (.bool (decide (v.most < v.kept))) ∧ Hb w0 A B P m v x w' := by
 have h := h1.h
 have hm1 := h.fit.m1
 have hkm := h.fit.kept
 have hkm2 := h.fit.m2
 have hdec : decide (v.most < v.kept) = decide ((v.most : Int) < (v.kept : Int)) := by rw [decide_eq_decide]; omega
 have HD := Lib.hid hdec
 have hx := Hb.of h
 have fL : ∀ W, Hb w0 A B P m v x W → Calls Tryz.prog 138 #[.pointer (some ⟨A, 0, none⟩)] W fun e W' => e = .returned (.int .i64 v.kept) ∧ Hb w0 A B P m v x W' := fun W hW => (lenT_c hW.h).mono fun _ _ ⟨a, b⟩ => ⟨a, b ▸ hW⟩
 clear h h1 hdec
 go_enter Tryz.func139, Tryz.ntmps139
 go_upto_region 1 with (fail)
 have hd := (hx.drewN 1).all
 go_region_held3 (fun W => (W.cell? ⟨A, 0, none⟩ = some (.int .i64 v.most) ∧ W.cell? ⟨A, 1, none⟩ = some (.pointer (some ⟨B + 1, 0, none⟩)) ∧ W.cell? ⟨A, 2, none⟩ = some (.pointer (some ⟨P, 0, none⟩))) ∧ Hb w0 A B P m v x W)
  (first | assumption | exact hd | exact Hb.all (by assumption))
  (first | (go_at_call 138; (with_reducible refine Calls.mono (fL _ (by assumption : (_ ∧ _ ∧ _) ∧ _).2) ?_); rintro e wv ⟨rfl, hwv⟩) | fail)
 have hZ := (by assumption : (_ ∧ _ ∧ _) ∧ Hb w0 A B P m v x _).2
 clear hd
 go_wp2_with fail
 go_ret
 exact ⟨by rw [HD.out]; rfl, hZ⟩
theorem placesT_c {n : Nat} (hn : n ≤ 1000) (w : World) :
  Calls Tryz.prog 99 #[.int .i64 n] w fun e w' => e = .returned (.int .i64 ((n : Int) + 1)) ∧ w = w' := by
 go_enter Tryz.func99, Tryz.ntmps99
 go_wp2_with fail
 go_ret
 exact ⟨rfl, rfl⟩
theorem wideT_c {n : Nat} (h1 : 1 ≤ n) (h2 : n ≤ 1000) (W : World) : Calls Tryz.prog 98 #[.int .i64 n] W fun e w' => e = .returned (.int .i64 (wideOf n : Int)) ∧ W = w' := by
 have hw : wideOf n = min (8 * n) 4096 := rfl
 have HW := Lib.hid hw
 clear hw
 generalize wideOf n = z at *
 go_enter Tryz.func98, Tryz.ntmps98
 go_wp2_with fail
 all_goals
  go_ret
  refine ⟨congrArg Ending.returned (congrArg (Value.int .i64) ?_), rfl⟩
  have := HW.out
  omega
structure Mb (w0 : World) (A B P : Nat) (m : Rm) (v : Tv) (g : Nat) (w x : World) : Prop where
 h : Hb w0 A B P m v w x
 p : Blk x g 206 #[.int .i64 (wMost v.most : Int), .int .i64 (sMost v.most : Int)]
theorem Mb.onto (h : Mb w0 A B P m v g w x) (hb : Below x.heap.size x y) : Mb w0 A B P m v g w y := ⟨h.h.onto hb, h.p.below hb h.p.lt⟩
theorem Mb.drewN (h : Mb w0 A B P m v g w x) (n : Nat) : Mb w0 A B P m v g w (x.drewN n) := h.onto ⟨rfl, rfl, rfl, Nat.le_refl _, fun _ _ => rfl⟩
theorem Mb.all (h : Mb w0 A B P m v g w x) : (x.cell? ⟨A, 0, none⟩ = some (.int .i64 v.most) ∧ x.cell? ⟨A, 2, none⟩ = some (.pointer (some ⟨P, 0, none⟩)) ∧ x.cell? ⟨g, 0, none⟩ = some (.int .i64 (wMost v.most : Int)) ∧ x.cell? ⟨g, 1, none⟩ = some (.int .i64 (sMost v.most : Int))) ∧ Mb w0 A B P m v g w x := ⟨⟨h.h.h.cells.1, h.h.h.cells.2.2, h.p.cell 0, h.p.cell 1⟩, h⟩
set_option maxHeartbeats 8000000 in
set_option maxRecDepth 100000 in
theorem mayBeT_c (hOk : v.Ok) (h : HeldT w0 A B P w m v) :
  Calls Tryz.prog 106 #[.pointer (some ⟨A, 0, none⟩)] w fun e w' => e = .returned (.bool true) ∧ Hb w0 A B P m v w w' := by
 have h1 := Hb.of h
 have hpa := parts_c (c := v.most) hOk.fit.m1 hOk.fit.m2 w
 have fl : ∀ {g} W, Mb w0 A B P m v g w W → Calls Tryz.prog 130 #[.pointer (some ⟨P, 0, none⟩)] W fun e W' => e = .returned (.int .i64 3) ∧ Mb w0 A B P m v g w W' := fun W hW => by
  have hc := lists_h hW.h.h.h
  rw [hOk.fit.n] at hc
  exact hc.mono fun _ _ ⟨a, b⟩ => ⟨a, b ▸ hW⟩
 have fF : ∀ {g} W, Mb w0 A B P m v g w W → Calls Tryz.prog 132 #[.pointer (some ⟨P, 0, none⟩)] W fun e W' => e = .returned (.int .i64 ((v.rg.places : Int) - (v.rg.many : Int))) ∧ Mb w0 A B P m v g w W' := fun W hW => (free_h hW.h.h.h).mono fun _ _ ⟨a, n, b⟩ => ⟨a, b ▸ hW.drewN n⟩
 have fP : ∀ {g} W, Mb w0 A B P m v g w W → Calls Tryz.prog 99 #[.int .i64 v.most] W fun e W' => e = .returned (.int .i64 ((v.most : Int) + 1)) ∧ Mb w0 A B P m v g w W' := fun W hW => (placesT_c hOk.fit.m2 W).mono fun _ _ ⟨a, b⟩ => ⟨a, b ▸ hW⟩
 have fL : ∀ {g} W, Mb w0 A B P m v g w W → Calls Tryz.prog 138 #[.pointer (some ⟨A, 0, none⟩)] W fun e W' => e = .returned (.int .i64 v.kept) ∧ Mb w0 A B P m v g w W' := fun W hW => (lenT_c hW.h.h).mono fun _ _ ⟨a, b⟩ => ⟨a, b ▸ hW⟩
 have hk2 : decide (v.most < v.kept) = false := decide_eq_false (by have := hOk.kept; omega)
 have fT : ∀ {g} W, Mb w0 A B P m v g w W → Calls Tryz.prog 139 #[.pointer (some ⟨A, 0, none⟩)] W fun e W' => e = .returned (.bool false) ∧ Mb w0 A B P m v g w W' := fun W hW => (tooMany_b hW.h).mono fun _ _ ⟨a, b⟩ => ⟨by rw [a, hk2], hW.onto b.b⟩
 have f0 : ∀ {g} W, Mb w0 A B P m v g w W → Calls Tryz.prog 140 #[.pointer (some ⟨P, 0, none⟩), .int .i64 0] W fun e W' => e = .returned (.int .i64 (v.len 0 : Int)) ∧ Mb w0 A B P m v g w W' := fun W hW => (len_t (i := 0) (by omega) hW.h.h).mono fun _ _ ⟨a, b⟩ => ⟨a, b ▸ hW⟩
 have f2 : ∀ {g} W, Mb w0 A B P m v g w W → Calls Tryz.prog 140 #[.pointer (some ⟨P, 0, none⟩), .int .i64 2] W fun e W' => e = .returned (.int .i64 (v.len 2 : Int)) ∧ Mb w0 A B P m v g w W' := fun W hW => (len_t (i := 2) (by omega) hW.h.h).mono fun _ _ ⟨a, b⟩ => ⟨a, b ▸ hW⟩
 have hm2 := hOk.fit.m2
 have b1 := hOk.kept
 have b2 := hOk.win
 have b3 := hOk.sf
 have e1 := Tv.many3 hOk.fit.n
 have e2 := hOk.fit.pl
 have u1 : IntKind.i64.wrap ((v.kept : Int) + ((v.rg.places : Int) - (v.rg.many : Int))) = (v.most : Int) + 1 := by rw [IntKind.wrap_i64, e1, e2]; omega
 have d1 : decide ((v.len 0 : Int) ≤ (wMost v.most : Int)) = true := decide_eq_true (by omega)
 have d1N : decide (v.len 0 ≤ wMost v.most) = true := decide_eq_true b2
 have d2 : decide ((v.len 2 : Int) ≤ (sMost v.most : Int)) = true := decide_eq_true (by omega)
 have d2N : decide (v.len 2 ≤ sMost v.most) = true := decide_eq_true b3
 obtain ⟨c0, c1, c2⟩ := h.cells
 clear e1 e2 b1 hk2 h
 go_enter Tryz.func106, Tryz.ntmps106
 go_wp2_with fail
 refine hpa.mono ?_
 rintro e w1 ⟨rfl, o, rfl⟩
 have h2 := h1.alloc o
 clear c0 c1 c2 h1 hpa
 generalize w.alloc o = w1 at *
 go_upto_region 2 with (fail)
 have hM : Mb w0 A B P m v w1.heap.size w (w1.alloc (.cells #[.int .i64 (wMost v.most : Int), .int .i64 (sMost v.most : Int)] 206)) := ⟨h2.alloc _, Blk.new w1 _ _⟩
 generalize w1.alloc (.cells #[.int .i64 (wMost v.most : Int), .int .i64 (sMost v.most : Int)] 206) = w2 at *
 generalize w1.heap.size = g at *
 refine region_only 48 #[false, false, false, false, false, false, false, false, false, false, false, false, false, false, false, false, false, false, false, false, false, false, false, false, false, false, false, false, false, false, false, false, false, false, false, false, false, false, false, false, false, false, false, false, false, false, false, false] (S := (fun W => (W.cell? ⟨A, 0, none⟩ = some (.int .i64 v.most) ∧ W.cell? ⟨A, 2, none⟩ = some (.pointer (some ⟨P, 0, none⟩)) ∧ W.cell? ⟨g, 0, none⟩ = some (.int .i64 (wMost v.most : Int)) ∧ W.cell? ⟨g, 1, none⟩ = some (.int .i64 (sMost v.most : Int))) ∧ Mb w0 A B P m v g w W)) rfl rfl (by kernel_rfl) (hM.drewN 1).all (fun hSw => ?_)
 refine tkA 0 9 47 ?_ rfl rfl ?_ hSw ?_
 rotate_left
 ·intro wx hSx; (try dsimp only at hSx); go_split_ands; go_simp; (try with_reducible rfl)
 simp only [sA, List.set_cons_zero, sC]
 refine tkA 1 10 46 ?_ rfl rfl ?_ hSw ?_
 rotate_left
 ·intro wx hSx; (try dsimp only at hSx); go_split_ands; go_simp; (try with_reducible rfl)
 simp only [sA, List.set_cons_zero, sC]
 refine tkA 2 11 45 ?_ rfl rfl ?_ hSw ?_
 rotate_left
 ·intro wx hSx; (try dsimp only at hSx); go_split_ands; go_simp; (try with_reducible rfl)
 simp only [sA, List.set_cons_zero, sC]
 refine tkA 3 12 44 ?_ rfl rfl ?_ hSw ?_
 rotate_left
 ·intro wx hSx; (try dsimp only at hSx); go_split_ands; go_simp; (try with_reducible rfl)
 simp only [sA, List.set_cons_zero, sC]
 refine rdA 43 4 rfl fun K hK => ?_
 go_simp
 refine Calls.mono (fl _ hSw.2) ?_
 rintro e wv ⟨rfl, hwv⟩
 refine hK.out _ _ (Mb.all hwv) (fun hSw => ?_)
 clear hK K
 simp only [sA, List.set_cons_zero, sC]
 refine tkA 5 14 42 ?_ rfl rfl ?_ hSw ?_
 rotate_left
 ·intro wx hSx; (try dsimp only at hSx); go_split_ands; go_simp; (try with_reducible rfl)
 simp only [sA, List.set_cons_zero, sC]
 refine tkA 6 15 41 ?_ rfl rfl ?_ hSw ?_
 rotate_left
 ·intro wx hSx; (try dsimp only at hSx); go_split_ands; go_simp; (try with_reducible rfl)
 simp only [sA, List.set_cons_zero, sC]
 refine tkA 7 16 40 ?_ rfl rfl ?_ hSw ?_
 rotate_left
 ·intro wx hSx; (try dsimp only at hSx); go_split_ands; go_simp; (try with_reducible rfl)
 simp only [sA, List.set_cons_zero, sC]
 refine tkA 9 18 39 ?_ rfl rfl ?_ hSw ?_
 rotate_left
 ·intro wx hSx; (try dsimp only at hSx); go_split_ands; go_simp; (try with_reducible rfl)
 simp only [sA, List.set_cons_zero, sC]
 refine tkA 10 19 38 ?_ rfl rfl ?_ hSw ?_
 rotate_left
 ·intro wx hSx; (try dsimp only at hSx); go_split_ands; go_simp; (try with_reducible rfl)
 simp only [sA, List.set_cons_zero, sC]
 refine tkA 11 20 37 ?_ rfl rfl ?_ hSw ?_
 rotate_left
 ·intro wx hSx; (try dsimp only at hSx); go_split_ands; go_simp; (try with_reducible rfl)
 simp only [sA, List.set_cons_zero, sC]
 refine tkA 12 21 36 ?_ rfl rfl ?_ hSw ?_
 rotate_left
 ·intro wx hSx; (try dsimp only at hSx); go_split_ands; go_simp; (try with_reducible rfl)
 simp only [sA, List.set_cons_zero, sC]
 refine tkA 15 24 35 ?_ rfl rfl ?_ hSw ?_
 rotate_left
 ·intro wx hSx; (try dsimp only at hSx); go_split_ands; go_simp; (try with_reducible rfl)
 simp only [sA, List.set_cons_zero, sC]
 refine tkA 16 25 34 ?_ rfl rfl ?_ hSw ?_
 rotate_left
 ·intro wx hSx; (try dsimp only at hSx); go_split_ands; go_simp; (try with_reducible rfl)
 simp only [sA, List.set_cons_zero, sC]
 refine tkA 17 26 33 ?_ rfl rfl ?_ hSw ?_
 rotate_left
 ·intro wx hSx; (try dsimp only at hSx); go_split_ands; go_simp; (try with_reducible rfl)
 simp only [sA, List.set_cons_zero, sC]
 refine tkA 18 27 32 ?_ rfl rfl ?_ hSw ?_
 rotate_left
 ·intro wx hSx; (try dsimp only at hSx); go_split_ands; go_simp; (try with_reducible rfl)
 simp only [sA, List.set_cons_zero, sC]
 refine rdA 31 8 rfl fun K hK => ?_
 go_simp
 refine Calls.mono (fL _ hSw.2) ?_
 rintro e wv ⟨rfl, hwv⟩
 refine hK.out _ _ (Mb.all hwv) (fun hSw => ?_)
 clear hK K
 simp only [sA, List.set_cons_zero, sC]
 refine rdA 30 13 rfl fun K hK => ?_
 go_simp
 refine Calls.mono (fF _ hSw.2) ?_
 rintro e wv ⟨rfl, hwv⟩
 refine hK.out _ _ (Mb.all hwv) (fun hSw => ?_)
 clear hK K
 simp only [sA, List.set_cons_zero, sC]
 refine tkA 14 23 29 ?_ rfl rfl ?_ hSw ?_
 rotate_left
 ·intro wx hSx; (try dsimp only at hSx); go_split_ands; go_simp; (try with_reducible rfl)
 simp only [sA, List.set_cons_zero, sC]
 refine rdA 28 19 rfl fun K hK => ?_
 go_simp
 refine Calls.mono (fP _ hSw.2) ?_
 rintro e wv ⟨rfl, hwv⟩
 refine hK.out _ _ (Mb.all hwv) (fun hSw => ?_)
 clear hK K
 simp only [sA, List.set_cons_zero, sC]
 refine tkA 20 29 27 ?_ rfl rfl ?_ hSw ?_
 rotate_left
 ·intro wx hSx; (try dsimp only at hSx); go_split_ands; go_simp; (try with_reducible rfl)
 simp only [sA, List.set_cons_zero, sC]
 refine tkA 21 30 26 ?_ rfl rfl ?_ hSw ?_
 rotate_left
 ·intro wx hSx; (try dsimp only at hSx); go_split_ands; go_simp; (try with_reducible rfl)
 simp only [sA, List.set_cons_zero, sC]
 refine tkA 22 31 25 ?_ rfl rfl ?_ hSw ?_
 rotate_left
 ·intro wx hSx; (try dsimp only at hSx); go_split_ands; go_simp; (try with_reducible rfl)
 simp only [sA, List.set_cons_zero, sC]
 refine tkA 23 32 24 ?_ rfl rfl ?_ hSw ?_
 rotate_left
 ·intro wx hSx; (try dsimp only at hSx); go_split_ands; go_simp; (try with_reducible rfl)
 simp only [sA, List.set_cons_zero, sC]
 refine rdA 23 24 rfl fun K hK => ?_
 go_simp
 refine Calls.mono (fT _ hSw.2) ?_
 rintro e wv ⟨rfl, hwv⟩
 refine hK.out _ _ (Mb.all hwv) (fun hSw => ?_)
 clear hK K
 simp only [sA, List.set_cons_zero, sC]
 refine tkA 25 34 22 ?_ rfl rfl ?_ hSw ?_
 rotate_left
 ·intro wx hSx; (try dsimp only at hSx); go_split_ands; go_simp; (try with_reducible rfl)
 simp only [sA, List.set_cons_zero, sC]
 refine tkA 26 35 21 ?_ rfl rfl ?_ hSw ?_
 rotate_left
 ·intro wx hSx; (try dsimp only at hSx); go_split_ands; go_simp; (try with_reducible rfl)
 simp only [sA, List.set_cons_zero, sC]
 refine tkA 27 36 20 ?_ rfl rfl ?_ hSw ?_
 rotate_left
 ·intro wx hSx; (try dsimp only at hSx); go_split_ands; go_simp; (try with_reducible rfl)
 simp only [sA, List.set_cons_zero, sC]
 refine tkA 28 37 19 ?_ rfl rfl ?_ hSw ?_
 rotate_left
 ·intro wx hSx; (try dsimp only at hSx); go_split_ands; go_simp; (try with_reducible rfl)
 simp only [sA, List.set_cons_zero, sC]
 refine tkA 29 38 18 ?_ rfl rfl ?_ hSw ?_
 rotate_left
 ·intro wx hSx; (try dsimp only at hSx); go_split_ands; go_simp; (try with_reducible rfl)
 simp only [sA, List.set_cons_zero, sC]
 refine tkA 30 39 17 ?_ rfl rfl ?_ hSw ?_
 rotate_left
 ·intro wx hSx; (try dsimp only at hSx); go_split_ands; go_simp; (try with_reducible rfl)
 simp only [sA, List.set_cons_zero, sC]
 refine tkA 31 40 16 ?_ rfl rfl ?_ hSw ?_
 rotate_left
 ·intro wx hSx; (try dsimp only at hSx); go_split_ands; go_simp; (try with_reducible rfl)
 simp only [sA, List.set_cons_zero, sC]
 refine tkA 33 42 15 ?_ rfl rfl ?_ hSw ?_
 rotate_left
 ·intro wx hSx; (try dsimp only at hSx); go_split_ands; go_simp; (try with_reducible rfl)
 simp only [sA, List.set_cons_zero, sC]
 refine tkA 34 43 14 ?_ rfl rfl ?_ hSw ?_
 rotate_left
 ·intro wx hSx; (try dsimp only at hSx); go_split_ands; go_simp; (try with_reducible rfl)
 simp only [sA, List.set_cons_zero, sC]
 refine rdA 13 32 rfl fun K hK => ?_
 go_simp
 refine Calls.mono (f0 _ hSw.2) ?_
 rintro e wv ⟨rfl, hwv⟩
 refine hK.out _ _ (Mb.all hwv) (fun hSw => ?_)
 clear hK K
 simp only [sA, List.set_cons_zero, sC]
 refine tkA 35 44 12 ?_ rfl rfl ?_ hSw ?_
 rotate_left
 ·intro wx hSx; (try dsimp only at hSx); go_split_ands; go_simp; (try with_reducible rfl)
 simp only [sA, List.set_cons_zero, sC]
 refine tkA 36 45 11 ?_ rfl rfl ?_ hSw ?_
 rotate_left
 ·intro wx hSx; (try dsimp only at hSx); go_split_ands; go_simp; (try with_reducible rfl)
 simp only [sA, List.set_cons_zero, sC]
 refine tkA 37 46 10 ?_ rfl rfl ?_ hSw ?_
 rotate_left
 ·intro wx hSx; (try dsimp only at hSx); go_split_ands; go_simp; (try with_reducible rfl)
 simp only [sA, List.set_cons_zero, sC]
 refine tkA 38 47 9 ?_ rfl rfl ?_ hSw ?_
 rotate_left
 ·intro wx hSx; (try dsimp only at hSx); go_split_ands; go_simp; (try with_reducible rfl)
 simp only [sA, List.set_cons_zero, sC]
 refine tkA 39 48 8 ?_ rfl rfl ?_ hSw ?_
 rotate_left
 ·intro wx hSx; (try dsimp only at hSx); go_split_ands; go_simp; (try with_reducible rfl)
 simp only [sA, List.set_cons_zero, sC]
 refine tkA 40 49 7 ?_ rfl rfl ?_ hSw ?_
 rotate_left
 ·intro wx hSx; (try dsimp only at hSx); go_split_ands; go_simp; (try with_reducible rfl)
 simp only [sA, List.set_cons_zero, sC]
 refine tkA 41 50 6 ?_ rfl rfl ?_ hSw ?_
 rotate_left
 ·intro wx hSx; (try dsimp only at hSx); go_split_ands; go_simp; (try with_reducible rfl)
 simp only [sA, List.set_cons_zero, sC]
 refine tkA 43 52 5 ?_ rfl rfl ?_ hSw ?_
 rotate_left
 ·intro wx hSx; (try dsimp only at hSx); go_split_ands; go_simp; (try with_reducible rfl)
 simp only [sA, List.set_cons_zero, sC]
 refine tkA 44 53 4 ?_ rfl rfl ?_ hSw ?_
 rotate_left
 ·intro wx hSx; (try dsimp only at hSx); go_split_ands; go_simp; (try with_reducible rfl)
 simp only [sA, List.set_cons_zero, sC]
 refine rdA 3 42 rfl fun K hK => ?_
 go_simp
 refine Calls.mono (f2 _ hSw.2) ?_
 rintro e wv ⟨rfl, hwv⟩
 refine hK.out _ _ (Mb.all hwv) (fun hSw => ?_)
 clear hK K
 simp only [sA, List.set_cons_zero, sC]
 refine tkA 45 54 2 ?_ rfl rfl ?_ hSw ?_
 rotate_left
 ·intro wx hSx; (try dsimp only at hSx); go_split_ands; go_simp; (try with_reducible rfl)
 simp only [sA, List.set_cons_zero, sC]
 refine tkA 46 55 1 ?_ rfl rfl ?_ hSw ?_
 rotate_left
 ·intro wx hSx; (try dsimp only at hSx); go_split_ands; go_simp; (try with_reducible rfl)
 simp only [sA, List.set_cons_zero, sC]
 refine tkA 47 2 0 ?_ rfl rfl ?_ hSw ?_
 rotate_left
 ·intro wx hSx; (try dsimp only at hSx); go_split_ands; go_simp; (try with_reducible rfl)
 simp only [sA, List.set_cons_zero, sC]
 refine wpAnyH_done (by kernel_rfl) ⟨rfl, ?_⟩ 0
 have hZ := hSw.2
 go_wp2_with fail
 go_ret
 exact ⟨rfl, hZ.h⟩
structure Newly (lo A B : Nat) (m : Rm) (v : Tv) (x : World) : Prop where
 a : At x m v.rg
 s : Sketchy.At x B v.sk
 b : Blk x A 177 #[.int .i64 v.most, .pointer (some ⟨B + 1, 0, none⟩), .pointer (some ⟨m.R, 0, none⟩)]
 own : ∀ q, m.own q → lo ≤ q
 lA : lo ≤ A
 lB : lo ≤ B
 no : ¬ m.own A
 six : ∀ q, Six B q → q ≠ A ∧ ¬ m.own q
theorem Newly.any {lo : Nat} (h : Newly lo A B m v x) (hf : v.Fit) : HeldT { x with heap := #[] } A B m.R x m v :=
 ⟨held_any h.a, h.s, h.b, by simp, by simp, h.no, h.six, hf⟩
theorem Newly.kp {lo : Nat} {O : Nat → Prop} (h : Newly lo A B m v x) (hk : Kp O x y) (hO : ∀ q, O q → q < lo) : Newly lo A B m v y :=
 ⟨h.a.kp hk (fun b hb ho => by have := hO b ho; have := h.own b hb; omega), at_six h.s (fun b hb => hk.block b (by have := h.s.lt; have := hb.2; omega) (fun ho => by have := hO b ho; have := h.lB; have := hb.1; omega)), hk.blk h.b (fun ho => by have := hO A ho; have := h.lA; omega), h.own, h.lA, h.lB, h.no, h.six⟩
set_option maxHeartbeats 8000000 in
set_option maxRecDepth 100000 in
theorem takeT_r (hok : v.Fine) (hOk : v.Ok) {R O : Nat} (rest : List UInt8) (hrest : rest.length ≤ 10000000) (w : World) (h : RS w R O (v.put ++ rest)) :
  Calls Tryz.prog 72 #[.pointer (some ⟨R, 0, none⟩)] w fun e w' => ∃ A B m, e = .returned (.pointer (some ⟨A, 0, none⟩)) ∧ Newly w.heap.size A B m v w' ∧ RS w' R O rest ∧ Kp (fun k => k = R ∨ k = O) w w' := by
 replace h : RS w R O (enc v.most ++ (v.sk.put ++ (v.rg.put ++ rest))) := by
  have e : enc v.most ++ (v.sk.put ++ (v.rg.put ++ rest)) = v.put ++ rest := by unfold Tv.put; simp only [List.append_assoc]
  rw [e]
  exact h
 have hm1' := hok.fit.m1
 have hm2 := hok.fit.m2
 have hs := hok.fit.wf.small
 have hRl := h.rd.lt
 have hOl := h.of.lt
 have l1 := enc_ten (n := v.most) (by omega)
 have l2 := skput_len hok.fit.sw.pre
 have l3 := hs.putTo v.rg.n (Nat.le_refl _)
 rw [hok.fit.n] at l3
 have l3' : v.rg.put.length ≤ 20 + 400000 * 3 := by unfold Rg.put; rw [hok.fit.n]; exact l3
 have hm1 := num_ok 1000 (numR_enc (n := v.most) (by omega) (v.sk.put ++ (v.rg.put ++ rest))) hm2 (by simp only [List.length_append]; omega) w h
 rw [List.drop_left] at hm1
 have e4 : ((1000 : Nat) : Int) = 1000 := by omega
 rw [e4] at hm1
 have HM1 := Lib.hid hm1
 have HTS := Lib.hid (fun (W : World) (h : RS W R O (v.sk.put ++ (v.rg.put ++ rest))) => Sketchy.take_rest hok.fit.sw (rest := v.rg.put ++ rest) (by rw [List.length_append]; omega) W h)
 have HTK := Lib.hid (fun (W : World) (h : RS W R O (v.rg.put ++ rest)) => Ringy.take_r hok.fit.wf (by rw [hok.fit.n]; decide) rest (by omega) W h)
 have hwd := wideOf_le hok.fit.m1
 have hwi : ∀ W, Calls Tryz.prog 98 #[.int .i64 v.most] W fun e w' => e = .returned (.int .i64 v.sk.wide) ∧ W = w' := fun W => by rw [hok.fit.wd]; exact wideT_c hok.fit.m1 hok.fit.m2 W
 have hwp : decide ((0 : Int) < (v.most : Int)) = true := decide_eq_true (by omega)
 have hwpN : decide (0 < v.most) = true := decide_eq_true (by omega)
 have hw0 : ((v.most : Int) == 0) = false := by rw [beq_eq_false_iff_ne]; omega
 clear hm1 e4 l1 l2 l3 l3' hs h hwd
 go_enter Tryz.func72, Tryz.ntmps72
 go_wp2_with fail
 refine HM1.out.mono ?_
 rintro e v1 ⟨rfl, hk1, hr1⟩
 go_wp2_with fail
 refine (must_ok _).mono ?_
 rintro e w' ⟨rfl, rfl⟩
 have hz1 := hk1.size
 go_wp2_with fail
 refine (HTS.out _ hr1).mono ?_
 rintro e v2 ⟨B, rfl, hA2, hB2, hr2, hp2⟩
 have hz2 := hp2.size
 have hb3 := Blk.new v2 177 #[.int .i64 v.most, .pointer (some ⟨B + 1, 0, none⟩), .pointer none]
 have hal := (Below.refl _ v2).alloc (Nat.le_refl _) (.cells #[.int .i64 v.most, .pointer (some ⟨B + 1, 0, none⟩), .pointer none] 177)
 have hr3 := hr2.below hal
 have hA3 := hA2.below hal hA2.lt
 have hk3 := ((Kp.of_kept (S := fun k => k = R ∨ k = O) hk1 (.inl rfl) (.inr rfl)).trans hp2).alloc (.cells #[.int .i64 v.most, .pointer (some ⟨B + 1, 0, none⟩), .pointer none] 177)
 go_upto_region 6 with (fail)
 obtain ⟨A, hAe⟩ : ∃ A, A = v2.heap.size := ⟨_, rfl⟩
 rw [← hAe] at hb3 ⊢
 have hBA : B + 5 < A := by have := hA2.lt; omega
 generalize v2.alloc (.cells #[.int .i64 v.most, .pointer (some ⟨B + 1, 0, none⟩), .pointer none] 177) = v3 at *
 have hAw : w.heap.size ≤ A := by omega
 have hBw : w.heap.size ≤ B := by omega
 have hAR : ¬ (A = R ∨ A = O) := by omega
 clear hk1 hr1 hAe hz1 hz2 hp2 hr2 hA2 hB2 hal
 have a1 : v3.cell? ⟨A, 1, none⟩ = some (.pointer (some ⟨B + 1, 0, none⟩)) := hb3.cell 1
 go_wp2_with fail
 refine (Sketchy.wide_c v3 hA3).mono ?_
 rintro e w' ⟨rfl, rfl⟩
 go_wp2_with fail
 refine (hwi _).mono ?_
 rintro e w' ⟨rfl, rfl⟩
 go_wp2_with fail
 refine (must_ok _).mono ?_
 rintro e w' ⟨rfl, rfl⟩
 clear a1
 go_wp2_with fail
 refine (HTK.out _ hr3).mono ?_
 rintro e v5 ⟨m, rfl, hAt, hO, hr5, hp5⟩
 have hb5 : Blk v5 A 177 #[.int .i64 v.most, .pointer (some ⟨B + 1, 0, none⟩), .pointer none] := hp5.blk hb3 hAR
 have a2 : v5.cell? ⟨A, 2, none⟩ = some (.pointer none) := hb5.cell 2
 have f2 := hb5.free 2
 have hAl := hb3.lt
 have hA3l := hA3.lt
 have hno : ¬ m.own A := fun ho => by have := hO A ho; omega
 have hsix : ∀ q, Six B q → q ≠ A ∧ ¬ m.own q := fun q hq => ⟨by have := hq.2; omega, fun ho => by have := hO q ho; have := hq.2; omega⟩
 have hb6 : Blk (v5.setCell ⟨A, 2, none⟩ (.pointer (some ⟨m.R, 0, none⟩))) A 177 #[.int .i64 v.most, .pointer (some ⟨B + 1, 0, none⟩), .pointer (some ⟨m.R, 0, none⟩)] := hb5.put 2 _
 have hr6 : RS (v5.setCell ⟨A, 2, none⟩ (.pointer (some ⟨m.R, 0, none⟩))) R O rest := ⟨hr5.rd.far (p := ⟨A, 2, none⟩) (by show R ≠ A; omega) _, hr5.of.far (p := ⟨A, 2, none⟩) (by show O ≠ A; omega) _⟩
 have hA6 : At (v5.setCell ⟨A, 2, none⟩ (.pointer (some ⟨m.R, 0, none⟩))) m v.rg := hAt.stay (fun b hb => Below.heap_setCell v5 ⟨A, 2, none⟩ _ b (fun e => hno (by have e2 : b = A := e; rw [← e2]; exact hb)))
 have hs6 : Sketchy.At (v5.setCell ⟨A, 2, none⟩ (.pointer (some ⟨m.R, 0, none⟩))) B v.sk := at_six hA3 (fun b hb => (Below.heap_setCell v5 ⟨A, 2, none⟩ _ b (hsix b hb).1).trans (hp5.block b (by have := hb.2; omega) (fun ho => by have := hb.1; omega)))
 have hk6 : Kp (fun k => k = R ∨ k = O ∨ k = A) w (v5.setCell ⟨A, 2, none⟩ (.pointer (some ⟨m.R, 0, none⟩))) := Kp.set (S := fun k => k = R ∨ k = O ∨ k = A) ⟨hp5.os.trans hk3.os, hp5.tape.trans hk3.tape, hp5.output.trans hk3.output, Nat.le_trans hk3.size hp5.size, fun k hk hn => (hp5.block k (Nat.lt_of_lt_of_le hk hk3.size) (fun e => hn (by rcases e with e | e; exact .inl e; exact .inr (.inl e)))).trans (hk3.block k hk (fun e => hn (by rcases e with e | e; exact .inl e; exact .inr (.inl e))))⟩ (p := ⟨A, 2, none⟩) (.inr (.inr rfl)) _
 have hwz := hk3.size
 have hOO : ∀ b, m.own b → w.heap.size ≤ b := fun b hb => by have := hO b hb; omega
 clear hp5 hb5 hb3 hr3 hr5 hAt hk3 hO hA3
 go_upto_region 8 with (fail)
 generalize v5.setCell ⟨A, 2, none⟩ (.pointer (some ⟨m.R, 0, none⟩)) = v6 at *
 clear a2 f2
 have hN : Newly w.heap.size A B m v v6 := ⟨hA6, hs6, hb6, hOO, hAw, hBw, hno, hsix⟩
 go_wp2_with fail
 refine (mayBeT_c hOk (hN.any hok.fit)).mono ?_
 rintro e v7 ⟨rfl, hB7⟩
 have hb7 := hB7.b
 have hr7 := hr6.below hb7
 have hN7 : Newly w.heap.size A B m v v7 := hN.kp (O := fun _ => False) ⟨hb7.os, hb7.tape, hb7.output, hb7.size, fun k hk _ => hb7.block k hk⟩ (fun _ h => h.elim)
 have hk7 : Kp (fun k => k = R ∨ k = O) w v7 := ⟨hb7.os.trans hk6.os, hb7.tape.trans hk6.tape, hb7.output.trans hk6.output, Nat.le_trans hk6.size hb7.size, fun k hk hn => (hb7.block k (Nat.lt_of_lt_of_le hk hk6.size)).trans (hk6.block k hk (fun e => by rcases e with e | e | e; exact hn (.inl e); exact hn (.inr e); omega))⟩
 clear hB7 hb7 hr6 hA6 hb6 hk6 hN hs6
 go_wp2_with fail
 refine (must_ok _).mono ?_
 rintro e w' ⟨rfl, rfl⟩
 go_wp2_with fail
 go_ret
 exact ⟨A, B, m, rfl, hN7, hr7, hk7⟩
end
end Go.Proofs.YtkiabladmgagdabGreatDoor.Tinyy
namespace Go.Proofs.YtkiabladmgagdabGreatDoor.Tinyy
open Go.ChangeShapes Go.WideShapes Go.ChangeAt Go.RowKit Go.Shelf
open Wirey (Blk Row str str_size str_list str_cat Kp)
open Ringy Go.ChangeMaps Go.Maps
open Sketchy (Sk Six)

section
variable {w0 w x y : World} {A B P : Nat} {m m' : Rm} {v v' u u' v0 : Tv} {a a' a0 : Ad} {k : Key} {K : Nat → Prop} {i j : Nat}
theorem Tv.Out.fr (h : v.Out) (hj : j < 3) (k : Key) : (v.fr j k).Out := fun i hi => by
 show (if i = j then k :: strike k (v.rg.l i) else strike k (v.rg.l i)) = []
 rw [if_neg (by omega), h i hi]
 rfl
theorem Tv.Out.dr (h : v.Out) (k : Key) : (v.dr k).Out := fun i hi => by
 show strike k (v.rg.l i) = []
 rw [h i hi]
 rfl
theorem Tv.Out.note (h : v.Out) (k : Key) : (v.note k).Out := h
theorem Tv.Out.safe (h : v.Out) (k : Key) : (v.safe k).Out := by
 unfold Tv.safe
 split
 ·exact (h.fr (by omega) k).fr (by omega) _
 ·exact h.fr (by omega) k
theorem Tv.Out.touch (h : v.Out) (k : Key) : (v.touch k).Out := by
 unfold Tv.touch
 split
 ·exact h
 ·exact (h.note k).fr (by omega) k
 ·exact (h.note k).safe k
theorem Tv.Out.leave (h : v.Out) : v.leave.Out := by
 unfold Tv.leave Tv.leaveOf
 split
 ·exact h.fr (by omega) _
 ·split
  ·exact h.dr _
  ·exact (h.dr _).fr (by omega) _
theorem Tv.Out.fresh (h : v.Out) (k : Key) : (v.fresh k).Out := by
 have h1 : (v.came k).Out := (h.note k).fr (by omega) k
 unfold Tv.fresh
 split
 ·exact h1
 ·exact h1.leave
theorem Tv.Out.insert (h : v.Out) (k : Key) : (v.insert k).Out := by
 unfold Tv.insert Tv.ins
 split
 ·exact h
 ·split
  ·exact h.touch k
  ·exact h.fresh k
theorem Tv.Out.miss (h : v.Out) (k : Key) : (v.miss k).Out := by
 unfold Tv.miss
 split
 ·exact h
 ·exact h
theorem Tv.Out.evict (h : v.Out) : v.evict.Out := by
 unfold Tv.evict
 split
 ·exact h
 ·exact h.dr _
end
end Go.Proofs.YtkiabladmgagdabGreatDoor.Tinyy
