/- The program's Tiny through its bytes, and beside the document's. No condition but that it is as chapter 8 has it. -/
import Derived.Test.YtgfpedcdclgmiaaGreatTinyDoc
import Derived.Test.YtgfpedcdclgmiaaGreatTinyProg
import Derived.Test.YtgfpedcdclgmiaaGreatSketchImport
import Derived.Test.YtgfpedcdclgmiaaGreatRingTake
import Derived.BigQuiet
namespace Go.Proofs.YtgfpedcdclgmiaaGreat.Tinyy
open Go.ChangeShapes Go.WideShapes Go.ChangeAt Go.RowKit Go.Shelf
open Wirey (Blk Row str str_size str_list str_cat Kp Kept RS enc num_ok must_ok numR_enc)
open Ringy Go.ChangeMaps Go.Maps
open Sketchy (Sk Six)

/-- Nothing but memory behind is laid. -/
structure Hb (w0 : World) (A B P : Nat) (m : Rm) (v : Tv) (wb W : World) : Prop where
  h : HeldT w0 A B P W m v
  b : Below wb.heap.size wb W
section
variable {w0 w x y : World} {A B P g : Nat} {m : Rm} {v : Tv}
theorem Hb.onto (h : Hb w0 A B P m v w x) (hb : Below x.heap.size x y) : Hb w0 A B P m v w y := ⟨h.h.later hb (Nat.le_refl _), h.b.trans (hb.mono h.b.size)⟩
theorem Hb.alloc (h : Hb w0 A B P m v w x) (o : Obj) : Hb w0 A B P m v w (x.alloc o) := h.onto ((Below.refl _ x).alloc (Nat.le_refl _) o)
theorem Hb.drewN (h : Hb w0 A B P m v w x) (n : Nat) : Hb w0 A B P m v w (x.drewN n) := h.onto ⟨rfl, rfl, rfl, Nat.le_refl _, fun _ _ => rfl⟩
theorem Hb.all (h : Hb w0 A B P m v w x) : (x.cell? ⟨A, 0, none⟩ = some (.int .i64 (v.most : Int)) ∧ x.cell? ⟨A, 1, none⟩ = some (.pointer (some ⟨B + 1, 0, none⟩)) ∧ x.cell? ⟨A, 2, none⟩ = some (.pointer (some ⟨P, 0, none⟩))) ∧ Hb w0 A B P m v w x := ⟨h.h.cells, h⟩
theorem Hb.of (h : HeldT w0 A B P w m v) : Hb w0 A B P m v w w := ⟨h, Below.refl _ _⟩
theorem numP {n : Nat} (hn : n < 1000000000) (W : World) : Calls Tryz.prog 45 #[.int .u64 (IntKind.u64.wrap (n : Int))] W fun e w' => e = .returned (.string (str (enc n))) ∧ Below W.heap.size W w' := by
  have e : IntKind.u64.wrap (n : Int) = (n : Int) := by rw [IntKind.wrap_u64]; omega
  rw [e]
  exact Wirey.num_c n (by omega) W
set_option maxHeartbeats 8000000 in
set_option maxRecDepth 100000 in
theorem expT_c (hok : v.Fine) (h : HeldT w0 A B P w m v) :
    Calls Tryz.prog 14 #[.pointer (some ⟨A, 0, none⟩)] w fun e w' => e = .returned (.string (str v.put)) ∧ Hb w0 A B P m v w w' := by
  have hm := made_c h
  have hm2 := hok.fit.m2
  have hcat := str_cat
  have hsz := str_size
  have hs := hok.fit.wf.small
  have l1 := enc_ten (n := v.most) (by omega)
  have l2 := skput_len hok.fit.sw.pre
  have l3 := hs.putTo v.rg.n (Nat.le_refl _)
  rw [hok.fit.n] at l3
  have l3' : v.rg.put.length ≤ 20 + 400000 * 3 := by unfold Rg.put; rw [hok.fit.n]; exact l3
  have hv1 : ¬ (9223372036854775807 < (enc v.most).length + v.sk.put.length) := by omega
  have hv2 : ¬ (9223372036854775807 < (enc v.most ++ v.sk.put).length + v.rg.put.length) := by rw [List.length_append]; omega
  have hv3 : ¬ (9223372036854775807 < (enc v.most).length + v.sk.put.length + v.rg.put.length) := by omega
  have hpu : v.put = enc v.most ++ (v.sk.put ++ v.rg.put) := rfl
  have HPU := Lib.hid hpu
  clear l1 l2 l3 l3' hpu
  have fm : ∀ W, Hb w0 A B P m v w W → Calls Tryz.prog 45 #[.int .u64 (IntKind.u64.wrap (v.most : Int))] W fun e W' => e = .returned (.string (str (enc v.most))) ∧ Hb w0 A B P m v w W' := fun W hW => (numP (n := v.most) (by omega) W).mono fun _ _ ⟨a, b⟩ => ⟨a, hW.onto b⟩
  have ft : ∀ W, Hb w0 A B P m v w W → Calls Tryz.prog 46 #[.pointer (some ⟨B + 1, 0, none⟩)] W fun e W' => e = .returned (.string (str v.sk.put)) ∧ Hb w0 A B P m v w W' := fun W hW => (Sketchy.export_c W hW.h.sk hok.fit.sw.pre).mono fun _ _ ⟨a, b⟩ => ⟨a, hW.onto b⟩
  have fp : ∀ W, Hb w0 A B P m v w W → Calls Tryz.prog 47 #[.pointer (some ⟨P, 0, none⟩)] W fun e W' => e = .returned (.string (str v.rg.put)) ∧ Hb w0 A B P m v w W' := fun W hW => by
    have hc := exp_c W hW.h.h.at_ hs (by rw [hok.fit.n]; decide)
    rw [hW.h.h.R] at hc
    exact hc.mono fun _ _ ⟨a, b⟩ => ⟨a, hW.onto b⟩
  have h1 := Hb.of h
  clear h hok
  go_enter Tryz.func14, Tryz.ntmps14
  go_wp2_with fail
  refine hm.mono ?_
  rintro e w' ⟨rfl, rfl⟩
  go_upto_region 3 with (fail)
  have hd := (h1.drewN 1).all
  go_region_held3 (fun W => (W.cell? ⟨A, 0, none⟩ = some (.int .i64 (v.most : Int)) ∧ W.cell? ⟨A, 1, none⟩ = some (.pointer (some ⟨B + 1, 0, none⟩)) ∧ W.cell? ⟨A, 2, none⟩ = some (.pointer (some ⟨P, 0, none⟩))) ∧ Hb w0 A B P m v w W)
    (first | assumption | exact hd | exact Hb.all (by assumption))
    (first | (go_at_call 45; (with_reducible refine Calls.mono (fm _ (by assumption : (_ ∧ _ ∧ _) ∧ _).2) ?_); rintro e wv ⟨rfl, hwv⟩) | (go_at_call 46; (with_reducible refine Calls.mono (ft _ (by assumption : (_ ∧ _ ∧ _) ∧ _).2) ?_); rintro e wv ⟨rfl, hwv⟩) | (go_at_call 47; (with_reducible refine Calls.mono (fp _ (by assumption : (_ ∧ _ ∧ _) ∧ _).2) ?_); rintro e wv ⟨rfl, hwv⟩) | fail)
  have hZ := (by assumption : (_ ∧ _ ∧ _) ∧ Hb w0 A B P m v w _).2
  clear hd
  go_wp2_with fail
  go_ret
  exact ⟨by rw [HPU.out]; rfl, hZ⟩
set_option maxHeartbeats 8000000 in
set_option maxRecDepth 100000 in
theorem tooMany_b (h1 : Hb w0 A B P m v w x) :
    Calls Tryz.prog 57 #[.pointer (some ⟨A, 0, none⟩)] x fun e w' => e = .returned (.bool (decide (v.most < v.kept))) ∧ Hb w0 A B P m v x w' := by
  have h := h1.h
  have hm1 := h.fit.m1
  have hkm := h.fit.kept
  have hkm2 := h.fit.m2
  have hdec : decide (v.most < v.kept) = decide ((v.most : Int) < (v.kept : Int)) := by rw [decide_eq_decide]; omega
  have HD := Lib.hid hdec
  have hx := Hb.of h
  have fL : ∀ W, Hb w0 A B P m v x W → Calls Tryz.prog 26 #[.pointer (some ⟨A, 0, none⟩)] W fun e W' => e = .returned (.int .i64 (v.kept : Int)) ∧ Hb w0 A B P m v x W' := fun W hW => (lenT_c hW.h).mono fun _ _ ⟨a, b⟩ => ⟨a, b ▸ hW⟩
  clear h h1 hdec
  go_enter Tryz.func57, Tryz.ntmps57
  go_upto_region 1 with (fail)
  have hd := (hx.drewN 1).all
  go_region_held3 (fun W => (W.cell? ⟨A, 0, none⟩ = some (.int .i64 (v.most : Int)) ∧ W.cell? ⟨A, 1, none⟩ = some (.pointer (some ⟨B + 1, 0, none⟩)) ∧ W.cell? ⟨A, 2, none⟩ = some (.pointer (some ⟨P, 0, none⟩))) ∧ Hb w0 A B P m v x W)
    (first | assumption | exact hd | exact Hb.all (by assumption))
    (first | (go_at_call 26; (with_reducible refine Calls.mono (fL _ (by assumption : (_ ∧ _ ∧ _) ∧ _).2) ?_); rintro e wv ⟨rfl, hwv⟩) | fail)
  have hZ := (by assumption : (_ ∧ _ ∧ _) ∧ Hb w0 A B P m v x _).2
  clear hd
  go_wp2_with fail
  go_ret
  exact ⟨by rw [HD.out]; rfl, hZ⟩
theorem placesT_c {n : Nat} (hn : n ≤ 1000) (w : World) :
    Calls Tryz.prog 20 #[.int .i64 (n : Int)] w fun e w' => e = .returned (.int .i64 ((n : Int) + 1)) ∧ w = w' := by
  go_enter Tryz.func20, Tryz.ntmps20
  go_wp2_with fail
  go_ret
  exact ⟨rfl, rfl⟩
theorem wideT_c {n : Nat} (h1 : 1 ≤ n) (h2 : n ≤ 1000) (W : World) : Calls Tryz.prog 18 #[.int .i64 (n : Int)] W fun e w' => e = .returned (.int .i64 (wideOf n : Int)) ∧ W = w' := by
  have hw : wideOf n = min (8 * n) 4096 := rfl
  have HW := Lib.hid hw
  clear hw
  generalize wideOf n = z at *
  go_enter Tryz.func18, Tryz.ntmps18
  go_wp2_with fail
  all_goals
    go_ret
    refine ⟨congrArg Ending.returned (congrArg (Value.int .i64) ?_), rfl⟩
    have := HW.out
    omega
/-- With the parts in a block beside. -/
structure Mb (w0 : World) (A B P : Nat) (m : Rm) (v : Tv) (g : Nat) (w x : World) : Prop where
  h : Hb w0 A B P m v w x
  p : Blk x g 87 #[.int .i64 (wMost v.most : Int), .int .i64 (sMost v.most : Int)]
theorem Mb.onto (h : Mb w0 A B P m v g w x) (hb : Below x.heap.size x y) : Mb w0 A B P m v g w y := ⟨h.h.onto hb, h.p.below hb h.p.lt⟩
theorem Mb.drewN (h : Mb w0 A B P m v g w x) (n : Nat) : Mb w0 A B P m v g w (x.drewN n) := h.onto ⟨rfl, rfl, rfl, Nat.le_refl _, fun _ _ => rfl⟩
theorem Mb.all (h : Mb w0 A B P m v g w x) : (x.cell? ⟨A, 0, none⟩ = some (.int .i64 (v.most : Int)) ∧ x.cell? ⟨A, 2, none⟩ = some (.pointer (some ⟨P, 0, none⟩)) ∧ x.cell? ⟨g, 0, none⟩ = some (.int .i64 (wMost v.most : Int)) ∧ x.cell? ⟨g, 1, none⟩ = some (.int .i64 (sMost v.most : Int))) ∧ Mb w0 A B P m v g w x := ⟨⟨h.h.h.cells.1, h.h.h.cells.2.2, h.p.cell 0, h.p.cell 1⟩, h⟩
set_option maxHeartbeats 8000000 in
set_option maxRecDepth 100000 in
theorem mayBeT_c (hOk : v.Ok) (h : HeldT w0 A B P w m v) :
    Calls Tryz.prog 104 #[.pointer (some ⟨A, 0, none⟩)] w fun e w' => e = .returned (.bool true) ∧ Hb w0 A B P m v w w' := by
  have h1 := Hb.of h
  have hpa := parts_c (c := v.most) hOk.fit.m1 hOk.fit.m2 w
  have fl : ∀ {g} W, Mb w0 A B P m v g w W → Calls Tryz.prog 83 #[.pointer (some ⟨P, 0, none⟩)] W fun e W' => e = .returned (.int .i64 3) ∧ Mb w0 A B P m v g w W' := fun W hW => by
    have hc := lists_h hW.h.h.h
    rw [hOk.fit.n] at hc
    exact hc.mono fun _ _ ⟨a, b⟩ => ⟨a, b ▸ hW⟩
  have fF : ∀ {g} W, Mb w0 A B P m v g w W → Calls Tryz.prog 92 #[.pointer (some ⟨P, 0, none⟩)] W fun e W' => e = .returned (.int .i64 ((v.rg.places : Int) - (v.rg.many : Int))) ∧ Mb w0 A B P m v g w W' := fun W hW => (free_h hW.h.h.h).mono fun _ _ ⟨a, n, b⟩ => ⟨a, b ▸ hW.drewN n⟩
  have fP : ∀ {g} W, Mb w0 A B P m v g w W → Calls Tryz.prog 20 #[.int .i64 (v.most : Int)] W fun e W' => e = .returned (.int .i64 ((v.most : Int) + 1)) ∧ Mb w0 A B P m v g w W' := fun W hW => (placesT_c hOk.fit.m2 W).mono fun _ _ ⟨a, b⟩ => ⟨a, b ▸ hW⟩
  have fL : ∀ {g} W, Mb w0 A B P m v g w W → Calls Tryz.prog 26 #[.pointer (some ⟨A, 0, none⟩)] W fun e W' => e = .returned (.int .i64 (v.kept : Int)) ∧ Mb w0 A B P m v g w W' := fun W hW => (lenT_c hW.h.h).mono fun _ _ ⟨a, b⟩ => ⟨a, b ▸ hW⟩
  have hk2 : decide (v.most < v.kept) = false := decide_eq_false (by have := hOk.kept; omega)
  have fT : ∀ {g} W, Mb w0 A B P m v g w W → Calls Tryz.prog 57 #[.pointer (some ⟨A, 0, none⟩)] W fun e W' => e = .returned (.bool false) ∧ Mb w0 A B P m v g w W' := fun W hW => (tooMany_b hW.h).mono fun _ _ ⟨a, b⟩ => ⟨by rw [a, hk2], hW.onto b.b⟩
  have f0 : ∀ {g} W, Mb w0 A B P m v g w W → Calls Tryz.prog 55 #[.pointer (some ⟨P, 0, none⟩), .int .i64 0] W fun e W' => e = .returned (.int .i64 (v.len 0 : Int)) ∧ Mb w0 A B P m v g w W' := fun W hW => (len_t (i := 0) (by omega) hW.h.h).mono fun _ _ ⟨a, b⟩ => ⟨a, b ▸ hW⟩
  have f2 : ∀ {g} W, Mb w0 A B P m v g w W → Calls Tryz.prog 55 #[.pointer (some ⟨P, 0, none⟩), .int .i64 2] W fun e W' => e = .returned (.int .i64 (v.len 2 : Int)) ∧ Mb w0 A B P m v g w W' := fun W hW => (len_t (i := 2) (by omega) hW.h.h).mono fun _ _ ⟨a, b⟩ => ⟨a, b ▸ hW⟩
  have hm2 := hOk.fit.m2
  have b1 := hOk.kept
  have b2 := hOk.win
  have b3 := hOk.sf
  have e1 := Tv.many3 hOk.fit.n
  have e2 := hOk.fit.pl
  have u1 : IntKind.i64.wrap ((v.kept : Int) + ((v.rg.places : Int) - (v.rg.many : Int))) = (v.most : Int) + 1 := by rw [IntKind.wrap_i64, e1, e2]; omega
  have d1 : decide ((v.len 0 : Int) ≤ (wMost v.most : Int)) = true := decide_eq_true (by omega)
  have d1N : decide (v.len 0 ≤ wMost v.most) = true := decide_eq_true b2
  have d2 : decide ((v.len 2 : Int) ≤ (sMost v.most : Int)) = true := decide_eq_true (by omega)
  have d2N : decide (v.len 2 ≤ sMost v.most) = true := decide_eq_true b3
  obtain ⟨c0, c1, c2⟩ := h.cells
  clear e1 e2 b1 hk2 h
  go_enter Tryz.func104, Tryz.ntmps104
  go_wp2_with fail
  refine hpa.mono ?_
  rintro e w1 ⟨rfl, o, rfl⟩
  have h2 := h1.alloc o
  clear c0 c1 c2 h1 hpa
  generalize w.alloc o = w1 at *
  go_upto_region 2 with (fail)
  have hM : Mb w0 A B P m v w1.heap.size w (w1.alloc (.cells #[.int .i64 (wMost v.most : Int), .int .i64 (sMost v.most : Int)] 87)) := ⟨h2.alloc _, Blk.new w1 _ _⟩
  generalize w1.alloc (.cells #[.int .i64 (wMost v.most : Int), .int .i64 (sMost v.most : Int)] 87) = w2 at *
  generalize w1.heap.size = g at *
  refine region_only 48 #[false, false, false, false, false, false, false, false, false, false, false, false, false, false, false, false, false, false, false, false, false, false, false, false, false, false, false, false, false, false, false, false, false, false, false, false, false, false, false, false, false, false, false, false, false, false, false, false] (S := (fun W => (W.cell? ⟨A, 0, none⟩ = some (.int .i64 (v.most : Int)) ∧ W.cell? ⟨A, 2, none⟩ = some (.pointer (some ⟨P, 0, none⟩)) ∧ W.cell? ⟨g, 0, none⟩ = some (.int .i64 (wMost v.most : Int)) ∧ W.cell? ⟨g, 1, none⟩ = some (.int .i64 (sMost v.most : Int))) ∧ Mb w0 A B P m v g w W)) rfl rfl (by kernel_rfl) (hM.drewN 1).all (fun hSw => ?_)
  refine take_at 0 9 (fuel := 47) ?_ rfl rfl (by kernel_rfl) (by kernel_rfl) (by kernel_rfl) (Or.inl ⟨by rfl, ?_⟩) hSw ?_
  rotate_left
  · intro wx hSx
    (try dsimp only at hSx)
    go_split_ands
    go_simp
    (try with_reducible rfl)
  simp only [List.setIfInBounds_toArray, List.set_cons_zero, List.set_cons_succ]
  refine take_at 1 10 (fuel := 46) ?_ rfl rfl (by kernel_rfl) (by kernel_rfl) (by kernel_rfl) (Or.inl ⟨by rfl, ?_⟩) hSw ?_
  rotate_left
  · intro wx hSx
    (try dsimp only at hSx)
    go_split_ands
    go_simp
    (try with_reducible rfl)
  simp only [List.setIfInBounds_toArray, List.set_cons_zero, List.set_cons_succ]
  refine take_at 2 11 (fuel := 45) ?_ rfl rfl (by kernel_rfl) (by kernel_rfl) (by kernel_rfl) (Or.inl ⟨by rfl, ?_⟩) hSw ?_
  rotate_left
  · intro wx hSx
    (try dsimp only at hSx)
    go_split_ands
    go_simp
    (try with_reducible rfl)
  simp only [List.setIfInBounds_toArray, List.set_cons_zero, List.set_cons_succ]
  refine take_at 3 12 (fuel := 44) ?_ rfl rfl (by kernel_rfl) (by kernel_rfl) (by kernel_rfl) (Or.inl ⟨by rfl, ?_⟩) hSw ?_
  rotate_left
  · intro wx hSx
    (try dsimp only at hSx)
    go_split_ands
    go_simp
    (try with_reducible rfl)
  simp only [List.setIfInBounds_toArray, List.set_cons_zero, List.set_cons_succ]
  refine wpAnyH_ready (fuel := 43) (rs := [4]) (by kernel_rfl) (by simp) (AllReadyH.cons rfl (fun K hK => ?_) AllReadyH.nil)
  go_simp
  refine Calls.mono (fl _ hSw.2) ?_
  rintro e wv ⟨rfl, hwv⟩
  refine hK.out _ _ (Mb.all hwv) (fun hSw => ?_)
  clear hK K
  simp only [List.setIfInBounds_toArray, List.set_cons_zero, List.set_cons_succ]
  refine take_at 5 14 (fuel := 42) ?_ rfl rfl (by kernel_rfl) (by kernel_rfl) (by kernel_rfl) (Or.inl ⟨by rfl, ?_⟩) hSw ?_
  rotate_left
  · intro wx hSx
    (try dsimp only at hSx)
    go_split_ands
    go_simp
    (try with_reducible rfl)
  simp only [List.setIfInBounds_toArray, List.set_cons_zero, List.set_cons_succ]
  refine take_at 6 15 (fuel := 41) ?_ rfl rfl (by kernel_rfl) (by kernel_rfl) (by kernel_rfl) (Or.inl ⟨by rfl, ?_⟩) hSw ?_
  rotate_left
  · intro wx hSx
    (try dsimp only at hSx)
    go_split_ands
    go_simp
    (try with_reducible rfl)
  simp only [List.setIfInBounds_toArray, List.set_cons_zero, List.set_cons_succ]
  refine take_at 7 16 (fuel := 40) ?_ rfl rfl (by kernel_rfl) (by kernel_rfl) (by kernel_rfl) (Or.inl ⟨by rfl, ?_⟩) hSw ?_
  rotate_left
  · intro wx hSx
    (try dsimp only at hSx)
    go_split_ands
    go_simp
    (try with_reducible rfl)
  simp only [List.setIfInBounds_toArray, List.set_cons_zero, List.set_cons_succ]
  refine take_at 9 18 (fuel := 39) ?_ rfl rfl (by kernel_rfl) (by kernel_rfl) (by kernel_rfl) (Or.inl ⟨by rfl, ?_⟩) hSw ?_
  rotate_left
  · intro wx hSx
    (try dsimp only at hSx)
    go_split_ands
    go_simp
    (try with_reducible rfl)
  simp only [List.setIfInBounds_toArray, List.set_cons_zero, List.set_cons_succ]
  refine take_at 10 19 (fuel := 38) ?_ rfl rfl (by kernel_rfl) (by kernel_rfl) (by kernel_rfl) (Or.inl ⟨by rfl, ?_⟩) hSw ?_
  rotate_left
  · intro wx hSx
    (try dsimp only at hSx)
    go_split_ands
    go_simp
    (try with_reducible rfl)
  simp only [List.setIfInBounds_toArray, List.set_cons_zero, List.set_cons_succ]
  refine take_at 11 20 (fuel := 37) ?_ rfl rfl (by kernel_rfl) (by kernel_rfl) (by kernel_rfl) (Or.inl ⟨by rfl, ?_⟩) hSw ?_
  rotate_left
  · intro wx hSx
    (try dsimp only at hSx)
    go_split_ands
    go_simp
    (try with_reducible rfl)
  simp only [List.setIfInBounds_toArray, List.set_cons_zero, List.set_cons_succ]
  refine take_at 12 21 (fuel := 36) ?_ rfl rfl (by kernel_rfl) (by kernel_rfl) (by kernel_rfl) (Or.inl ⟨by rfl, ?_⟩) hSw ?_
  rotate_left
  · intro wx hSx
    (try dsimp only at hSx)
    go_split_ands
    go_simp
    (try with_reducible rfl)
  simp only [List.setIfInBounds_toArray, List.set_cons_zero, List.set_cons_succ]
  refine take_at 15 24 (fuel := 35) ?_ rfl rfl (by kernel_rfl) (by kernel_rfl) (by kernel_rfl) (Or.inl ⟨by rfl, ?_⟩) hSw ?_
  rotate_left
  · intro wx hSx
    (try dsimp only at hSx)
    go_split_ands
    go_simp
    (try with_reducible rfl)
  simp only [List.setIfInBounds_toArray, List.set_cons_zero, List.set_cons_succ]
  refine take_at 16 25 (fuel := 34) ?_ rfl rfl (by kernel_rfl) (by kernel_rfl) (by kernel_rfl) (Or.inl ⟨by rfl, ?_⟩) hSw ?_
  rotate_left
  · intro wx hSx
    (try dsimp only at hSx)
    go_split_ands
    go_simp
    (try with_reducible rfl)
  simp only [List.setIfInBounds_toArray, List.set_cons_zero, List.set_cons_succ]
  refine take_at 17 26 (fuel := 33) ?_ rfl rfl (by kernel_rfl) (by kernel_rfl) (by kernel_rfl) (Or.inl ⟨by rfl, ?_⟩) hSw ?_
  rotate_left
  · intro wx hSx
    (try dsimp only at hSx)
    go_split_ands
    go_simp
    (try with_reducible rfl)
  simp only [List.setIfInBounds_toArray, List.set_cons_zero, List.set_cons_succ]
  refine take_at 18 27 (fuel := 32) ?_ rfl rfl (by kernel_rfl) (by kernel_rfl) (by kernel_rfl) (Or.inl ⟨by rfl, ?_⟩) hSw ?_
  rotate_left
  · intro wx hSx
    (try dsimp only at hSx)
    go_split_ands
    go_simp
    (try with_reducible rfl)
  simp only [List.setIfInBounds_toArray, List.set_cons_zero, List.set_cons_succ]
  refine wpAnyH_ready (fuel := 31) (rs := [8]) (by kernel_rfl) (by simp) (AllReadyH.cons rfl (fun K hK => ?_) AllReadyH.nil)
  go_simp
  refine Calls.mono (fL _ hSw.2) ?_
  rintro e wv ⟨rfl, hwv⟩
  refine hK.out _ _ (Mb.all hwv) (fun hSw => ?_)
  clear hK K
  simp only [List.setIfInBounds_toArray, List.set_cons_zero, List.set_cons_succ]
  refine wpAnyH_ready (fuel := 30) (rs := [13]) (by kernel_rfl) (by simp) (AllReadyH.cons rfl (fun K hK => ?_) AllReadyH.nil)
  go_simp
  refine Calls.mono (fF _ hSw.2) ?_
  rintro e wv ⟨rfl, hwv⟩
  refine hK.out _ _ (Mb.all hwv) (fun hSw => ?_)
  clear hK K
  simp only [List.setIfInBounds_toArray, List.set_cons_zero, List.set_cons_succ]
  refine take_at 14 23 (fuel := 29) ?_ rfl rfl (by kernel_rfl) (by kernel_rfl) (by kernel_rfl) (Or.inl ⟨by rfl, ?_⟩) hSw ?_
  rotate_left
  · intro wx hSx
    (try dsimp only at hSx)
    go_split_ands
    go_simp
    (try with_reducible rfl)
  simp only [List.setIfInBounds_toArray, List.set_cons_zero, List.set_cons_succ]
  refine wpAnyH_ready (fuel := 28) (rs := [19]) (by kernel_rfl) (by simp) (AllReadyH.cons rfl (fun K hK => ?_) AllReadyH.nil)
  go_simp
  refine Calls.mono (fP _ hSw.2) ?_
  rintro e wv ⟨rfl, hwv⟩
  refine hK.out _ _ (Mb.all hwv) (fun hSw => ?_)
  clear hK K
  simp only [List.setIfInBounds_toArray, List.set_cons_zero, List.set_cons_succ]
  refine take_at 20 29 (fuel := 27) ?_ rfl rfl (by kernel_rfl) (by kernel_rfl) (by kernel_rfl) (Or.inl ⟨by rfl, ?_⟩) hSw ?_
  rotate_left
  · intro wx hSx
    (try dsimp only at hSx)
    go_split_ands
    go_simp
    (try with_reducible rfl)
  simp only [List.setIfInBounds_toArray, List.set_cons_zero, List.set_cons_succ]
  refine take_at 21 30 (fuel := 26) ?_ rfl rfl (by kernel_rfl) (by kernel_rfl) (by kernel_rfl) (Or.inl ⟨by rfl, ?_⟩) hSw ?_
  rotate_left
  · intro wx hSx
    (try dsimp only at hSx)
    go_split_ands
    go_simp
    (try with_reducible rfl)
  simp only [List.setIfInBounds_toArray, List.set_cons_zero, List.set_cons_succ]
  refine take_at 22 31 (fuel := 25) ?_ rfl rfl (by kernel_rfl) (by kernel_rfl) (by kernel_rfl) (Or.inl ⟨by rfl, ?_⟩) hSw ?_
  rotate_left
  · intro wx hSx
    (try dsimp only at hSx)
    go_split_ands
    go_simp
    (try with_reducible rfl)
  simp only [List.setIfInBounds_toArray, List.set_cons_zero, List.set_cons_succ]
  refine take_at 23 32 (fuel := 24) ?_ rfl rfl (by kernel_rfl) (by kernel_rfl) (by kernel_rfl) (Or.inl ⟨by rfl, ?_⟩) hSw ?_
  rotate_left
  · intro wx hSx
    (try dsimp only at hSx)
    go_split_ands
    go_simp
    (try with_reducible rfl)
  simp only [List.setIfInBounds_toArray, List.set_cons_zero, List.set_cons_succ]
  refine wpAnyH_ready (fuel := 23) (rs := [24]) (by kernel_rfl) (by simp) (AllReadyH.cons rfl (fun K hK => ?_) AllReadyH.nil)
  go_simp
  refine Calls.mono (fT _ hSw.2) ?_
  rintro e wv ⟨rfl, hwv⟩
  refine hK.out _ _ (Mb.all hwv) (fun hSw => ?_)
  clear hK K
  simp only [List.setIfInBounds_toArray, List.set_cons_zero, List.set_cons_succ]
  refine take_at 25 34 (fuel := 22) ?_ rfl rfl (by kernel_rfl) (by kernel_rfl) (by kernel_rfl) (Or.inl ⟨by rfl, ?_⟩) hSw ?_
  rotate_left
  · intro wx hSx
    (try dsimp only at hSx)
    go_split_ands
    go_simp
    (try with_reducible rfl)
  simp only [List.setIfInBounds_toArray, List.set_cons_zero, List.set_cons_succ]
  refine take_at 26 35 (fuel := 21) ?_ rfl rfl (by kernel_rfl) (by kernel_rfl) (by kernel_rfl) (Or.inl ⟨by rfl, ?_⟩) hSw ?_
  rotate_left
  · intro wx hSx
    (try dsimp only at hSx)
    go_split_ands
    go_simp
    (try with_reducible rfl)
  simp only [List.setIfInBounds_toArray, List.set_cons_zero, List.set_cons_succ]
  refine take_at 27 36 (fuel := 20) ?_ rfl rfl (by kernel_rfl) (by kernel_rfl) (by kernel_rfl) (Or.inl ⟨by rfl, ?_⟩) hSw ?_
  rotate_left
  · intro wx hSx
    (try dsimp only at hSx)
    go_split_ands
    go_simp
    (try with_reducible rfl)
  simp only [List.setIfInBounds_toArray, List.set_cons_zero, List.set_cons_succ]
  refine take_at 28 37 (fuel := 19) ?_ rfl rfl (by kernel_rfl) (by kernel_rfl) (by kernel_rfl) (Or.inl ⟨by rfl, ?_⟩) hSw ?_
  rotate_left
  · intro wx hSx
    (try dsimp only at hSx)
    go_split_ands
    go_simp
    (try with_reducible rfl)
  simp only [List.setIfInBounds_toArray, List.set_cons_zero, List.set_cons_succ]
  refine take_at 29 38 (fuel := 18) ?_ rfl rfl (by kernel_rfl) (by kernel_rfl) (by kernel_rfl) (Or.inl ⟨by rfl, ?_⟩) hSw ?_
  rotate_left
  · intro wx hSx
    (try dsimp only at hSx)
    go_split_ands
    go_simp
    (try with_reducible rfl)
  simp only [List.setIfInBounds_toArray, List.set_cons_zero, List.set_cons_succ]
  refine take_at 30 39 (fuel := 17) ?_ rfl rfl (by kernel_rfl) (by kernel_rfl) (by kernel_rfl) (Or.inl ⟨by rfl, ?_⟩) hSw ?_
  rotate_left
  · intro wx hSx
    (try dsimp only at hSx)
    go_split_ands
    go_simp
    (try with_reducible rfl)
  simp only [List.setIfInBounds_toArray, List.set_cons_zero, List.set_cons_succ]
  refine take_at 31 40 (fuel := 16) ?_ rfl rfl (by kernel_rfl) (by kernel_rfl) (by kernel_rfl) (Or.inl ⟨by rfl, ?_⟩) hSw ?_
  rotate_left
  · intro wx hSx
    (try dsimp only at hSx)
    go_split_ands
    go_simp
    (try with_reducible rfl)
  simp only [List.setIfInBounds_toArray, List.set_cons_zero, List.set_cons_succ]
  refine take_at 33 42 (fuel := 15) ?_ rfl rfl (by kernel_rfl) (by kernel_rfl) (by kernel_rfl) (Or.inl ⟨by rfl, ?_⟩) hSw ?_
  rotate_left
  · intro wx hSx
    (try dsimp only at hSx)
    go_split_ands
    go_simp
    (try with_reducible rfl)
  simp only [List.setIfInBounds_toArray, List.set_cons_zero, List.set_cons_succ]
  refine take_at 34 43 (fuel := 14) ?_ rfl rfl (by kernel_rfl) (by kernel_rfl) (by kernel_rfl) (Or.inl ⟨by rfl, ?_⟩) hSw ?_
  rotate_left
  · intro wx hSx
    (try dsimp only at hSx)
    go_split_ands
    go_simp
    (try with_reducible rfl)
  simp only [List.setIfInBounds_toArray, List.set_cons_zero, List.set_cons_succ]
  refine wpAnyH_ready (fuel := 13) (rs := [32]) (by kernel_rfl) (by simp) (AllReadyH.cons rfl (fun K hK => ?_) AllReadyH.nil)
  go_simp
  refine Calls.mono (f0 _ hSw.2) ?_
  rintro e wv ⟨rfl, hwv⟩
  refine hK.out _ _ (Mb.all hwv) (fun hSw => ?_)
  clear hK K
  simp only [List.setIfInBounds_toArray, List.set_cons_zero, List.set_cons_succ]
  refine take_at 35 44 (fuel := 12) ?_ rfl rfl (by kernel_rfl) (by kernel_rfl) (by kernel_rfl) (Or.inl ⟨by rfl, ?_⟩) hSw ?_
  rotate_left
  · intro wx hSx
    (try dsimp only at hSx)
    go_split_ands
    go_simp
    (try with_reducible rfl)
  simp only [List.setIfInBounds_toArray, List.set_cons_zero, List.set_cons_succ]
  refine take_at 36 45 (fuel := 11) ?_ rfl rfl (by kernel_rfl) (by kernel_rfl) (by kernel_rfl) (Or.inl ⟨by rfl, ?_⟩) hSw ?_
  rotate_left
  · intro wx hSx
    (try dsimp only at hSx)
    go_split_ands
    go_simp
    (try with_reducible rfl)
  simp only [List.setIfInBounds_toArray, List.set_cons_zero, List.set_cons_succ]
  refine take_at 37 46 (fuel := 10) ?_ rfl rfl (by kernel_rfl) (by kernel_rfl) (by kernel_rfl) (Or.inl ⟨by rfl, ?_⟩) hSw ?_
  rotate_left
  · intro wx hSx
    (try dsimp only at hSx)
    go_split_ands
    go_simp
    (try with_reducible rfl)
  simp only [List.setIfInBounds_toArray, List.set_cons_zero, List.set_cons_succ]
  refine take_at 38 47 (fuel := 9) ?_ rfl rfl (by kernel_rfl) (by kernel_rfl) (by kernel_rfl) (Or.inl ⟨by rfl, ?_⟩) hSw ?_
  rotate_left
  · intro wx hSx
    (try dsimp only at hSx)
    go_split_ands
    go_simp
    (try with_reducible rfl)
  simp only [List.setIfInBounds_toArray, List.set_cons_zero, List.set_cons_succ]
  refine take_at 39 48 (fuel := 8) ?_ rfl rfl (by kernel_rfl) (by kernel_rfl) (by kernel_rfl) (Or.inl ⟨by rfl, ?_⟩) hSw ?_
  rotate_left
  · intro wx hSx
    (try dsimp only at hSx)
    go_split_ands
    go_simp
    (try with_reducible rfl)
  simp only [List.setIfInBounds_toArray, List.set_cons_zero, List.set_cons_succ]
  refine take_at 40 49 (fuel := 7) ?_ rfl rfl (by kernel_rfl) (by kernel_rfl) (by kernel_rfl) (Or.inl ⟨by rfl, ?_⟩) hSw ?_
  rotate_left
  · intro wx hSx
    (try dsimp only at hSx)
    go_split_ands
    go_simp
    (try with_reducible rfl)
  simp only [List.setIfInBounds_toArray, List.set_cons_zero, List.set_cons_succ]
  refine take_at 41 50 (fuel := 6) ?_ rfl rfl (by kernel_rfl) (by kernel_rfl) (by kernel_rfl) (Or.inl ⟨by rfl, ?_⟩) hSw ?_
  rotate_left
  · intro wx hSx
    (try dsimp only at hSx)
    go_split_ands
    go_simp
    (try with_reducible rfl)
  simp only [List.setIfInBounds_toArray, List.set_cons_zero, List.set_cons_succ]
  refine take_at 43 52 (fuel := 5) ?_ rfl rfl (by kernel_rfl) (by kernel_rfl) (by kernel_rfl) (Or.inl ⟨by rfl, ?_⟩) hSw ?_
  rotate_left
  · intro wx hSx
    (try dsimp only at hSx)
    go_split_ands
    go_simp
    (try with_reducible rfl)
  simp only [List.setIfInBounds_toArray, List.set_cons_zero, List.set_cons_succ]
  refine take_at 44 53 (fuel := 4) ?_ rfl rfl (by kernel_rfl) (by kernel_rfl) (by kernel_rfl) (Or.inl ⟨by rfl, ?_⟩) hSw ?_
  rotate_left
  · intro wx hSx
    (try dsimp only at hSx)
    go_split_ands
    go_simp
    (try with_reducible rfl)
  simp only [List.setIfInBounds_toArray, List.set_cons_zero, List.set_cons_succ]
  refine wpAnyH_ready (fuel := 3) (rs := [42]) (by kernel_rfl) (by simp) (AllReadyH.cons rfl (fun K hK => ?_) AllReadyH.nil)
  go_simp
  refine Calls.mono (f2 _ hSw.2) ?_
  rintro e wv ⟨rfl, hwv⟩
  refine hK.out _ _ (Mb.all hwv) (fun hSw => ?_)
  clear hK K
  simp only [List.setIfInBounds_toArray, List.set_cons_zero, List.set_cons_succ]
  refine take_at 45 54 (fuel := 2) ?_ rfl rfl (by kernel_rfl) (by kernel_rfl) (by kernel_rfl) (Or.inl ⟨by rfl, ?_⟩) hSw ?_
  rotate_left
  · intro wx hSx
    (try dsimp only at hSx)
    go_split_ands
    go_simp
    (try with_reducible rfl)
  simp only [List.setIfInBounds_toArray, List.set_cons_zero, List.set_cons_succ]
  refine take_at 46 55 (fuel := 1) ?_ rfl rfl (by kernel_rfl) (by kernel_rfl) (by kernel_rfl) (Or.inl ⟨by rfl, ?_⟩) hSw ?_
  rotate_left
  · intro wx hSx
    (try dsimp only at hSx)
    go_split_ands
    go_simp
    (try with_reducible rfl)
  simp only [List.setIfInBounds_toArray, List.set_cons_zero, List.set_cons_succ]
  refine take_at 47 2 (fuel := 0) ?_ rfl rfl (by kernel_rfl) (by kernel_rfl) (by kernel_rfl) (Or.inl ⟨by rfl, ?_⟩) hSw ?_
  rotate_left
  · intro wx hSx
    (try dsimp only at hSx)
    go_split_ands
    go_simp
    (try with_reducible rfl)
  simp only [List.setIfInBounds_toArray, List.set_cons_zero, List.set_cons_succ]
  refine wpAnyH_done (by kernel_rfl) ⟨rfl, ?_⟩ 0
  have hZ := hSw.2
  go_wp2_with fail
  go_ret
  exact ⟨rfl, hZ.h⟩
/-- A policy that lies behind all. -/
structure Newly (lo A B : Nat) (m : Rm) (v : Tv) (x : World) : Prop where
  a : At x m v.rg
  s : Sketchy.At x B v.sk
  b : Blk x A 58 #[.int .i64 (v.most : Int), .pointer (some ⟨B + 1, 0, none⟩), .pointer (some ⟨m.R, 0, none⟩)]
  own : ∀ q, m.own q → lo ≤ q
  lA : lo ≤ A
  lB : lo ≤ B
  no : ¬ m.own A
  six : ∀ q, Six B q → q ≠ A ∧ ¬ m.own q
theorem Newly.held {lo : Nat} (h : Newly lo A B m v x) (hf : v.Fit) (hb : Below w0.heap.size w0 x) (hlo : w0.heap.size ≤ lo) : HeldT w0 A B m.R x m v :=
  ⟨⟨rfl, h.a, hb, fun b ho => Nat.le_trans hlo (h.own b ho)⟩, h.s, h.b, Nat.le_trans hlo h.lA, Nat.le_trans hlo h.lB, h.no, h.six, hf⟩
theorem Newly.any {lo : Nat} (h : Newly lo A B m v x) (hf : v.Fit) : HeldT { x with heap := #[] } A B m.R x m v :=
  ⟨held_any h.a, h.s, h.b, by simp, by simp, h.no, h.six, hf⟩
theorem Newly.kp {lo : Nat} {O : Nat → Prop} (h : Newly lo A B m v x) (hk : Kp O x y) (hO : ∀ q, O q → q < lo) : Newly lo A B m v y :=
  ⟨h.a.kp hk (fun b hb ho => by have := hO b ho; have := h.own b hb; omega), at_six h.s (fun b hb => hk.block b (by have := h.s.lt; have := hb.2; omega) (fun ho => by have := hO b ho; have := h.lB; have := hb.1; omega)), hk.blk h.b (fun ho => by have := hO A ho; have := h.lA; omega), h.own, h.lA, h.lB, h.no, h.six⟩
theorem Newly.low {lo lo' : Nat} (h : Newly lo A B m v x) (hl : lo' ≤ lo) : Newly lo' A B m v x := ⟨h.a, h.s, h.b, fun q hq => Nat.le_trans hl (h.own q hq), Nat.le_trans hl h.lA, Nat.le_trans hl h.lB, h.no, h.six⟩
set_option maxHeartbeats 8000000 in
set_option maxRecDepth 100000 in
theorem takeT_c (hok : v.Fine) (hOk : v.Ok) {R O : Nat} (w : World) (h : RS w R O v.put) :
    Calls Tryz.prog 69 #[.pointer (some ⟨R, 0, none⟩)] w fun e w' => ∃ A B m, e = .returned (.pointer (some ⟨A, 0, none⟩)) ∧ Newly w.heap.size A B m v w' ∧ RS w' R O [] ∧ Kp (fun k => k = R ∨ k = O) w w' := by
  have hm1' := hok.fit.m1
  have hm2 := hok.fit.m2
  have hs := hok.fit.wf.small
  have hRl := h.rd.lt
  have hOl := h.of.lt
  have l1 := enc_ten (n := v.most) (by omega)
  have l2 := skput_len hok.fit.sw.pre
  have l3 := hs.putTo v.rg.n (Nat.le_refl _)
  rw [hok.fit.n] at l3
  have l3' : v.rg.put.length ≤ 20 + 400000 * 3 := by unfold Rg.put; rw [hok.fit.n]; exact l3
  have hm1 := num_ok 1000 (numR_enc (n := v.most) (by omega) (v.sk.put ++ v.rg.put)) hm2 (by simp only [List.length_append]; omega) w h
  rw [List.drop_left] at hm1
  have e4 : ((1000 : Nat) : Int) = 1000 := by omega
  rw [e4] at hm1
  have HM1 := Lib.hid hm1
  have HTS := Lib.hid (fun (W : World) (h : RS W R O (v.sk.put ++ v.rg.put)) => Sketchy.take_rest hok.fit.sw (rest := v.rg.put) (by omega) W h)
  have HTK := Lib.hid (fun (W : World) (h : RS W R O v.rg.put) => Ringy.take_c hok.fit.wf (by rw [hok.fit.n]; decide) W h)
  have hwd := wideOf_le hok.fit.m1
  have hwi : ∀ W, Calls Tryz.prog 18 #[.int .i64 (v.most : Int)] W fun e w' => e = .returned (.int .i64 (v.sk.wide : Int)) ∧ W = w' := fun W => by rw [hok.fit.wd]; exact wideT_c hok.fit.m1 hok.fit.m2 W
  have hwp : decide ((0 : Int) < (v.most : Int)) = true := decide_eq_true (by omega)
  have hwpN : decide (0 < v.most) = true := decide_eq_true (by omega)
  have hw0 : ((v.most : Int) == 0) = false := by rw [beq_eq_false_iff_ne]; omega
  clear hm1 e4 l1 l2 l3 l3' hs h hwd
  go_enter Tryz.func69, Tryz.ntmps69
  go_wp2_with fail
  refine HM1.out.mono ?_
  rintro e v1 ⟨rfl, hk1, hr1⟩
  go_wp2_with fail
  refine (must_ok _).mono ?_
  rintro e w' ⟨rfl, rfl⟩
  have hz1 := hk1.size
  go_wp2_with fail
  refine (HTS.out _ hr1).mono ?_
  rintro e v2 ⟨B, rfl, hA2, hB2, hr2, hp2⟩
  have hz2 := hp2.size
  have hb3 := Blk.new v2 58 #[.int .i64 (v.most : Int), .pointer (some ⟨B + 1, 0, none⟩), .pointer none]
  have hal := (Below.refl _ v2).alloc (Nat.le_refl _) (.cells #[.int .i64 (v.most : Int), .pointer (some ⟨B + 1, 0, none⟩), .pointer none] 58)
  have hr3 := hr2.below hal
  have hA3 := hA2.below hal hA2.lt
  have hk3 := ((Kp.of_kept (S := fun k => k = R ∨ k = O) hk1 (.inl rfl) (.inr rfl)).trans hp2).alloc (.cells #[.int .i64 (v.most : Int), .pointer (some ⟨B + 1, 0, none⟩), .pointer none] 58)
  go_upto_region 6 with (fail)
  obtain ⟨A, hAe⟩ : ∃ A, A = v2.heap.size := ⟨_, rfl⟩
  rw [← hAe] at hb3 ⊢
  have hBA : B + 5 < A := by have := hA2.lt; omega
  generalize v2.alloc (.cells #[.int .i64 (v.most : Int), .pointer (some ⟨B + 1, 0, none⟩), .pointer none] 58) = v3 at *
  have hAw : w.heap.size ≤ A := by omega
  have hBw : w.heap.size ≤ B := by omega
  have hAR : ¬ (A = R ∨ A = O) := by omega
  clear hk1 hr1 hAe hz1 hz2 hp2 hr2 hA2 hB2 hal
  have a1 : v3.cell? ⟨A, 1, none⟩ = some (.pointer (some ⟨B + 1, 0, none⟩)) := hb3.cell 1
  go_wp2_with fail
  refine (Sketchy.wide_c v3 hA3).mono ?_
  rintro e w' ⟨rfl, rfl⟩
  go_wp2_with fail
  refine (hwi _).mono ?_
  rintro e w' ⟨rfl, rfl⟩
  go_wp2_with fail
  refine (must_ok _).mono ?_
  rintro e w' ⟨rfl, rfl⟩
  clear a1
  go_wp2_with fail
  refine (HTK.out _ hr3).mono ?_
  rintro e v5 ⟨m, rfl, hAt, hO, hr5, hp5⟩
  have hb5 : Blk v5 A 58 #[.int .i64 (v.most : Int), .pointer (some ⟨B + 1, 0, none⟩), .pointer none] := hp5.blk hb3 hAR
  have a2 : v5.cell? ⟨A, 2, none⟩ = some (.pointer none) := hb5.cell 2
  have f2 := hb5.free 2
  have hAl := hb3.lt
  have hA3l := hA3.lt
  have hno : ¬ m.own A := fun ho => by have := hO A ho; omega
  have hsix : ∀ q, Six B q → q ≠ A ∧ ¬ m.own q := fun q hq => ⟨by have := hq.2; omega, fun ho => by have := hO q ho; have := hq.2; omega⟩
  have hb6 : Blk (v5.setCell ⟨A, 2, none⟩ (.pointer (some ⟨m.R, 0, none⟩))) A 58 #[.int .i64 (v.most : Int), .pointer (some ⟨B + 1, 0, none⟩), .pointer (some ⟨m.R, 0, none⟩)] := hb5.put 2 _
  have hr6 : RS (v5.setCell ⟨A, 2, none⟩ (.pointer (some ⟨m.R, 0, none⟩))) R O [] := ⟨hr5.rd.far (p := ⟨A, 2, none⟩) (by show R ≠ A; omega) _, hr5.of.far (p := ⟨A, 2, none⟩) (by show O ≠ A; omega) _⟩
  have hA6 : At (v5.setCell ⟨A, 2, none⟩ (.pointer (some ⟨m.R, 0, none⟩))) m v.rg := hAt.stay (fun b hb => Below.heap_setCell v5 ⟨A, 2, none⟩ _ b (fun e => hno (by have e2 : b = A := e; rw [← e2]; exact hb)))
  have hs6 : Sketchy.At (v5.setCell ⟨A, 2, none⟩ (.pointer (some ⟨m.R, 0, none⟩))) B v.sk := at_six hA3 (fun b hb => (Below.heap_setCell v5 ⟨A, 2, none⟩ _ b (hsix b hb).1).trans (hp5.block b (by have := hb.2; omega) (fun ho => by have := hb.1; omega)))
  have hk6 : Kp (fun k => k = R ∨ k = O ∨ k = A) w (v5.setCell ⟨A, 2, none⟩ (.pointer (some ⟨m.R, 0, none⟩))) := Kp.set (S := fun k => k = R ∨ k = O ∨ k = A) ⟨hp5.os.trans hk3.os, hp5.tape.trans hk3.tape, hp5.output.trans hk3.output, Nat.le_trans hk3.size hp5.size, fun k hk hn => (hp5.block k (Nat.lt_of_lt_of_le hk hk3.size) (fun e => hn (by rcases e with e | e; exact .inl e; exact .inr (.inl e)))).trans (hk3.block k hk (fun e => hn (by rcases e with e | e; exact .inl e; exact .inr (.inl e))))⟩ (p := ⟨A, 2, none⟩) (.inr (.inr rfl)) _
  have hwz := hk3.size
  have hOO : ∀ b, m.own b → w.heap.size ≤ b := fun b hb => by have := hO b hb; omega
  clear hp5 hb5 hb3 hr3 hr5 hAt hk3 hO hA3
  go_upto_region 8 with (fail)
  generalize v5.setCell ⟨A, 2, none⟩ (.pointer (some ⟨m.R, 0, none⟩)) = v6 at *
  clear a2 f2
  have hN : Newly w.heap.size A B m v v6 := ⟨hA6, hs6, hb6, hOO, hAw, hBw, hno, hsix⟩
  go_wp2_with fail
  refine (mayBeT_c hOk (hN.any hok.fit)).mono ?_
  rintro e v7 ⟨rfl, hB7⟩
  have hb7 := hB7.b
  have hr7 := hr6.below hb7
  have hN7 : Newly w.heap.size A B m v v7 := hN.kp (O := fun _ => False) ⟨hb7.os, hb7.tape, hb7.output, hb7.size, fun k hk _ => hb7.block k hk⟩ (fun _ h => h.elim)
  have hk7 : Kp (fun k => k = R ∨ k = O) w v7 := ⟨hb7.os.trans hk6.os, hb7.tape.trans hk6.tape, hb7.output.trans hk6.output, Nat.le_trans hk6.size hb7.size, fun k hk hn => (hb7.block k (Nat.lt_of_lt_of_le hk hk6.size)).trans (hk6.block k hk (fun e => by rcases e with e | e | e; exact hn (.inl e); exact hn (.inr e); omega))⟩
  clear hB7 hb7 hr6 hA6 hb6 hk6 hN hs6
  go_wp2_with fail
  refine (must_ok _).mono ?_
  rintro e w' ⟨rfl, rfl⟩
  go_wp2_with fail
  go_ret
  exact ⟨A, B, m, rfl, hN7, hr7, hk7⟩
theorem enters_importT : ∀ (args : Array Value) (w : World), (callFunc 68 args).run Tryz.prog w = .ok (.enter 68 args) w := fun _ _ => by kernel_rfl
set_option maxHeartbeats 600000 in
theorem importT1_c (hok : v.Fine) (hOk : v.Ok) {R O Q : Nat} (w : World) (h : RS w R O v.put) (hP : Blk w Q 24 #[.pointer none]) (hPR : Q ≠ R) (hPO : Q ≠ O) :
    Calls Tryz.prog 68 #[.pointer (some ⟨R, 0, none⟩), .pointer (some ⟨Q, 0, none⟩)] w fun e w' => e = .returned (.tuple #[]) ∧ RS w' R O [] ∧ Kp (fun k => k = R ∨ k = O ∨ k = Q) w w' ∧ ∃ A B m, w'.cell? ⟨Q, 0, none⟩ = some (.pointer (some ⟨A, 0, none⟩)) ∧ Newly w.heap.size A B m v w' := by
  have hPl := hP.lt
  go_enter Tryz.func68, Tryz.ntmps68
  go_wp2_with fail
  refine (takeT_c hok hOk w h).mono ?_
  rintro e u ⟨A, B, m, rfl, hN, hR, hK⟩
  have hP2 : Blk u Q 24 #[.pointer none] := hK.blk hP (by rintro (e | e); exact hPR e; exact hPO e)
  have c0 : u.cell? ⟨Q, 0, none⟩ = some (.pointer none) := hP2.cell 0
  have z0 := hP2.free 0
  have hP3 : (u.setCell ⟨Q, 0, none⟩ (.pointer (some ⟨A, 0, none⟩))).cell? ⟨Q, 0, none⟩ = some (.pointer (some ⟨A, 0, none⟩)) := (hP2.put 0 (.pointer (some ⟨A, 0, none⟩))).cell 0
  have hR3 : RS (u.setCell ⟨Q, 0, none⟩ (.pointer (some ⟨A, 0, none⟩))) R O [] := ⟨hR.rd.far (by show R ≠ Q; exact Ne.symm hPR) _, hR.of.far (by show O ≠ Q; exact Ne.symm hPO) _⟩
  have hN3 : Newly w.heap.size A B m v (u.setCell ⟨Q, 0, none⟩ (.pointer (some ⟨A, 0, none⟩))) := hN.kp (O := fun q => q = Q) (Kp.set (S := fun q => q = Q) (Kp.refl _ u) (p := ⟨Q, 0, none⟩) rfl _) (fun q hq => by rw [hq]; exact hPl)
  have hK3 : Kp (fun k => k = R ∨ k = O ∨ k = Q) w (u.setCell ⟨Q, 0, none⟩ (.pointer (some ⟨A, 0, none⟩))) :=
    Kp.set (S := fun k => k = R ∨ k = O ∨ k = Q) ⟨hK.os, hK.tape, hK.output, hK.size, fun k hk hS => hK.block k hk (fun e => hS (by rcases e with e | e; exact .inl e; exact .inr (.inl e)))⟩ (p := ⟨Q, 0, none⟩) (.inr (.inr rfl)) _
  clear hN hR hK
  go_wp2_with fail
  go_end0
  exact ⟨rfl, hR3, hK3, A, B, m, hP3, hN3⟩
set_option maxHeartbeats 600000 in
theorem importT_c (hok : v.Fine) (hOk : v.Ok) (w : World) :
    Calls Tryz.prog 34 #[.string (str v.put)] w fun e w' => ∃ A B m, e = .returned (.tuple #[.pointer (some ⟨A, 0, none⟩), .int .i64 0]) ∧ Newly w.heap.size A B m v w' ∧ Below w.heap.size w w' := by
  have hP := Blk.new w 24 #[.pointer none]
  have hb := (Below.refl w.heap.size w).alloc (Nat.le_refl _) (.cells #[.pointer none] 24)
  have hmf : ∀ (fn : Fn) (first cap : Array Value) (w : World), (Instr.makeFunc fn first cap).run Tryz.prog w = .ok (.func fn first cap) w := fun _ _ _ _ => rfl
  have hsz : (w.alloc (.cells #[.pointer none] 24)).heap.size = w.heap.size + 1 := by simp
  go_enter Tryz.func34, Tryz.ntmps34
  go_wp2_with fail
  generalize w.alloc (.cells #[.pointer none] 24) = w1 at hP hb hsz ⊢
  refine (Wirey.read_ok2 _ enters_importT #[.pointer (some ⟨w.heap.size, 0, none⟩)] v.put [] w1 (fun j => j = w.heap.size)
    (fun w2 => ∃ A B m, w2.cell? ⟨w.heap.size, 0, none⟩ = some (.pointer (some ⟨A, 0, none⟩)) ∧ Newly (w1.heap.size + 2) A B m v w2)
    (fun j hj => by omega) ?_ ?_).mono ?_
  · rintro w2 w3 hs ⟨A, B, m, h1, h2⟩ hk
    exact ⟨A, B, m, (World.cell?_of_block (hk.block w.heap.size (by omega) (by omega))).trans h1, h2.kp hk (fun k hk2 => by omega)⟩
  · intro R O w2 hr hb2 hR hO
    have hne := hr.ne
    have hRl := hr.rd.lt
    have hOl := hr.of.lt
    refine (importT1_c hok hOk w2 hr (hP.below hb2 (by omega)) (by omega) (by omega)).mono ?_
    rintro e w3 ⟨rfl, h1, h2, A, B, m, h3, h4⟩
    exact ⟨rfl, h1, h2, A, B, m, h3, h4.low (by omega)⟩
  rintro e w2 ⟨rfl, hk, A, B, m, h1, h2⟩
  have hB : Below w.heap.size w w2 := ⟨hk.os.trans hb.os, hk.tape.trans hb.tape, hk.output.trans hb.output, Nat.le_trans hb.size hk.size, fun k hkl => (hk.block k (by omega) (by omega)).trans (hb.block k hkl)⟩
  rw [Wirey.endE_nil]
  go_wp2_with fail
  go_ret2
  exact ⟨A, B, m, rfl, h2.low (by omega), hB⟩
end
end Go.Proofs.YtgfpedcdclgmiaaGreat.Tinyy

namespace Go.Proofs.YtgfpedcdclgmiaaGreat.Tinyy
open Go.ChangeShapes Go.WideShapes Go.ChangeAt Go.RowKit Go.Shelf
open Wirey (Blk Row str str_size str_list str_cat Kp)
open Ringy Go.ChangeMaps Go.Maps
open Sketchy (Sk Six)

section
variable {w0 w x y : World} {A B P : Nat} {m m' : Rm} {v v' u u' v0 : Tv} {a a' a0 : Ad} {k : Key} {Kq : Nat → Prop}
theorem row_cell {B : Nat} {val : Value} {l : List Key} {p : Nat} (h : w.ownsRow B 9 1 val l.length (strsV l)) (hp : p < l.length) : ∃ g c, val = .slice (some ⟨g, 0, none⟩) l.length c ∧ w.cell? ⟨g, p, none⟩ = some (.string (str (l[p]?.getD []))) := by
  obtain ⟨g, c, hv, -, -⟩ := h.form (by omega)
  refine ⟨g, c, hv, ?_⟩
  rw [hv] at h
  rw [h.cellAt p (by omega)]
  exact strsV_at hp
set_option maxHeartbeats 1000000 in
set_option maxRecDepth 100000 in
theorem texts_c {B C : Nat} {a b : Value} {l : List Key} (hlen : l.length ≤ 100000) (w : World) (h1 : w.ownsRow B 9 1 a l.length (strsV l)) (h2 : w.ownsRow C 9 1 b l.length (strsV l)) :
    Calls Tryz.prog 36 #[a, b] w fun e w' => e = .returned (.bool true) ∧ Below w.heap.size w w' := by
  obtain ⟨a1, c1, hva⟩ := own_form h1
  obtain ⟨a2, c2, hvb⟩ := own_form h2
  subst hva hvb
  have htl := Wirey.toList_str
  go_enter Tryz.func36, Tryz.ntmps36
  go_wp2_with fail
  go_loopw [5] (fun i wr => ∃ j : Nat, j ≤ l.length ∧ i = .int .i64 j ∧ Below w.heap.size w wr) (fun i _ => l.length - (intOf i).toNat)
  case atStart => exact ⟨0, Nat.zero_le _, rfl, Below.refl _ _⟩
  case round =>
    obtain ⟨j, hj, rfl, hb⟩ := hrel
    by_cases hlt : j < l.length
    · have d1 : decide ((j : Int) < (l.length : Int)) = true := decide_eq_true (by omega)
      have r1 := ownsRow_stay (w' := wr) h1 fun b hb2 => hb.block b (h1.lt b hb2).2
      have r2 := ownsRow_stay (w' := wr) h2 fun b hb2 => hb.block b (h2.lt b hb2).2
      obtain ⟨g1, e1, hv1, hc1⟩ := row_cell r1 hlt
      obtain ⟨g2, e2, hv2, hc2⟩ := row_cell r2 hlt
      injection hv1 with q1 q2 q3
      injection hv2 with q4 q5 q6
      subst q1 q3 q4 q6
      have hj5 : j < 100000 := by omega
      have b1 : (0 : Int) ≤ (j : Int) := by omega
      have b2 : (j : Int) < (l.length : Int) := by omega
      generalize l[j]?.getD [] = t at *
      clear r1 r2 q2 q5 hlen
      go_upto_region 6 with (fail)
      have k1 : wr.drew.cell? ⟨g1, j, none⟩ = some (.string (str t)) := hc1
      have k2 : wr.drew.cell? ⟨g2, j, none⟩ = some (.string (str t)) := hc2
      go_quiet (fail)
      go_wp2_with fail
      go_roundw
      case rel => exact ⟨j + 1, by omega, by simp, ⟨hb.os, hb.tape, hb.output, hb.size, hb.block⟩⟩
      case measure => simp [intOf]; omega
    · obtain rfl : j = l.length := by omega
      go_wp2_with fail
      go_ret
      exact ⟨rfl, hb⟩
/-- A block that is neither the program's nor the document's. -/
structure Side (m : Rm) (A B : Nat) (a : Ad) (q : Nat) : Prop where
  own : ¬ m.own q
  ne : q ≠ A
  six : ¬ Six B q
  ad : ¬ a.has q
theorem Side.step {q : Nat} (h : Side m A B a q) (hS : StepT B x m y m') (hq : q < x.heap.size) : Side m' A B a q :=
  ⟨fun ho => by
    rcases hS.own q ho with h1 | h1
    · exact h.own h1
    · omega, h.ne, h.six, h.ad⟩
theorem Side.goes {q : Nat} (h : Side m A B a q) (hg : Goes x a u' a' y) (hq : q < x.heap.size) : Side m A B a' q :=
  ⟨h.own, h.ne, h.six, fun ho => by
    rcases hg.new q ho with h1 | h1
    · exact h.ad h1
    · omega⟩
/-- The program's Tiny and the document's: no block of the one is the other's. -/
structure Two (w0 : World) (A B P : Nat) (m : Rm) (v u : Tv) (a : Ad) (x : World) : Prop where
  h : HeldT w0 A B P x m v
  d : Dt x u a
  no : ∀ q, a.has q → ¬ m.own q ∧ q ≠ A ∧ ¬ Six B q
theorem Two.fresh (h : Two w0 A B P m v u a x) (hn : u.rg.n = 3) {q : Nat} (hq : x.heap.size ≤ q) : Side m A B a q :=
  ⟨fun ho => by have := h.h.h.lt q ho; omega, fun e => by have := h.h.lt; omega, fun ho => by have := h.h.sk.lt; have := ho.2; omega, fun ho => by have := h.d.lt hn ho; omega⟩
theorem Two.onto (h : Two w0 A B P m v u a x) (hb : Below x.heap.size x y) : Two w0 A B P m v u a y := ⟨h.h.later hb (Nat.le_refl _), h.d.onto hb, h.no⟩
theorem Two.drewN (h : Two w0 A B P m v u a x) (n : Nat) : Two w0 A B P m v u a (x.drewN n) := h.onto ⟨rfl, rfl, rfl, Nat.le_refl _, fun _ _ => rfl⟩
theorem Two.step (h : Two w0 A B P m v u a x) (hn : u.rg.n = 3) (hH : HeldT w0 A B P y m' v') (hS : StepT B x m y m') : Two w0 A B P m' v' u a y :=
  ⟨hH, h.d.stay hn hS.kp.size (fun q hq => hS.kp.block q (h.d.lt hn hq) (fun ho => ho.elim (h.no q hq).1 (h.no q hq).2.2)), fun q hq => ⟨fun ho => by
    rcases hS.own q ho with h1 | h1
    · exact (h.no q hq).1 h1
    · have := h.d.lt hn hq; omega, (h.no q hq).2⟩⟩
theorem Two.goes (h : Two w0 A B P m v u a x) (hg : Goes x a u' a' y) : Two w0 A B P m v u' a' y :=
  ⟨h.h.later hg.below (Nat.le_refl _), hg.d, fun q hq => by
    rcases hg.new q hq with h1 | h1
    · exact h.no q h1
    · exact ⟨fun ho => by have := h.h.h.lt q ho; omega, fun e => by have := h.h.lt; omega, fun ho => by have := h.h.sk.lt; have := ho.2; omega⟩⟩
/-- Another block turns. -/
theorem Two.beside {q : Nat} (h : Two w0 A B P m v u a x) (hn : u.rg.n = 3) (hq : Side m A B a q) (hlo : w0.heap.size ≤ q) (hk : Kp (fun b => b = q) x y) : Two w0 A B P m v u a y :=
  ⟨h.h.kp hk (fun b hb => by subst hb; exact ⟨hlo, hq.own, hq.ne, hq.six⟩), h.d.stay hn hk.size (fun b hb => hk.block b (h.d.lt hn hb) (fun e => by subst e; exact hq.ad hb)), h.no⟩
theorem kp8 (x : World) (b : Nat) (c0 c1 c2 c3 c4 c5 c6 c7 : Value) : Kp (fun q => q = b) x ((((((((x.setCell ⟨b, 0, none⟩ c0).setCell ⟨b, 1, none⟩ c1).setCell ⟨b, 2, none⟩ c2).setCell ⟨b, 3, none⟩ c3).setCell ⟨b, 4, none⟩ c4).setCell ⟨b, 5, none⟩ c5).setCell ⟨b, 6, none⟩ c6).setCell ⟨b, 7, none⟩ c7) :=
  ⟨by simp only [set_os], by simp only [set_tape], by simp only [set_out], by simp only [set_size]; exact Nat.le_refl _, fun q _ hq => far8 x hq _ _ _ _ _ _ _ _⟩
/-- What stands while lists are held against lists. -/
structure Sm (w0 : World) (A B P : Nat) (m : Rm) (v : Tv) (a : Ad) (w : World) (g : Nat) (V : Nat → Value) (x : World) : Prop where
  two : Two w0 A B P m v v a x
  box : Blk x w.heap.size 36 #[.int .i64 (v.most : Int), .int .i64 (v.sk.wide : Int), .int .u64 (v.sk.seed : Int), .slice (some ⟨a.R, 0, none⟩) 4 a.c, .slice (some ⟨a.D, 0, none⟩) v.sk.wide v.sk.wide, .int .i64 (v.sk.added : Int), .slice (some ⟨a.G, 0, none⟩) 3 3, .int .i64 (v.pl : Int)]
  all3 : Blk x g 76 #[V 0, V 1, V 2]
  rows : ∀ t, t < 3 → x.ownsRow 0 9 1 (V t) (v.len t) (strsV (v.rg.l t))
  below : Below w.heap.size w x
theorem Sm.onto {g : Nat} {V : Nat → Value} (h : Sm w0 A B P m v a w g V x) (hb : Below x.heap.size x y) : Sm w0 A B P m v a w g V y :=
  ⟨h.two.onto hb, h.box.below hb h.box.lt, h.all3.below hb h.all3.lt, fun t ht => ownsRow_stay (h.rows t ht) fun b hb2 => hb.block b ((h.rows t ht).lt b hb2).2, h.below.trans (hb.mono h.below.size)⟩
theorem Sm.drewN {g : Nat} {V : Nat → Value} (h : Sm w0 A B P m v a w g V x) (n : Nat) : Sm w0 A B P m v a w g V (x.drewN n) := h.onto ⟨rfl, rfl, rfl, Nat.le_refl _, fun _ _ => rfl⟩
theorem Sm.all {g : Nat} {V : Nat → Value} (h : Sm w0 A B P m v a w g V x) : ((x.cell? ⟨w.heap.size, 0, none⟩ = some (.int .i64 (v.most : Int)) ∧ x.cell? ⟨w.heap.size, 1, none⟩ = some (.int .i64 (v.sk.wide : Int)) ∧ x.cell? ⟨w.heap.size, 2, none⟩ = some (.int .u64 (v.sk.seed : Int)) ∧ x.cell? ⟨w.heap.size, 3, none⟩ = some (.slice (some ⟨a.R, 0, none⟩) 4 a.c) ∧ x.cell? ⟨w.heap.size, 4, none⟩ = some (.slice (some ⟨a.D, 0, none⟩) v.sk.wide v.sk.wide) ∧ x.cell? ⟨w.heap.size, 5, none⟩ = some (.int .i64 (v.sk.added : Int)) ∧ x.cell? ⟨w.heap.size, 6, none⟩ = some (.slice (some ⟨a.G, 0, none⟩) 3 3) ∧ x.cell? ⟨w.heap.size, 7, none⟩ = some (.int .i64 (v.pl : Int))) ∧ x.cell? ⟨g, 0, none⟩ = some (V 0) ∧ x.cell? ⟨g, 1, none⟩ = some (V 1) ∧ x.cell? ⟨g, 2, none⟩ = some (V 2) ∧ x.cell? ⟨a.G, 0, none⟩ = some (a.vs 0) ∧ x.cell? ⟨a.G, 1, none⟩ = some (a.vs 1) ∧ x.cell? ⟨a.G, 2, none⟩ = some (a.vs 2)) ∧ Sm w0 A B P m v a w g V x := by
  have hn := h.two.h.fit.n
  exact ⟨⟨⟨h.box.cell 0, h.box.cell 1, h.box.cell 2, h.box.cell 3, h.box.cell 4, h.box.cell 5, h.box.cell 6, h.box.cell 7⟩, h.all3.cell 0, h.all3.cell 1, h.all3.cell 2, (h.two.d.r.at_ (i := 0) (by omega)).1, (h.two.d.r.at_ (i := 1) (by omega)).1, (h.two.d.r.at_ (i := 2) (by omega)).1⟩, h⟩
theorem sm_texts {g : Nat} {V : Nat → Value} (i : Nat) (hi : i < 3) (h : Sm w0 A B P m v a w g V x) :
    Calls Tryz.prog 36 #[V i, a.vs i] x fun e y => e = .returned (.bool true) ∧ Sm w0 A B P m v a w g V y := by
  have hl := h.two.h.fit.len_le hi
  refine (texts_c (l := v.rg.l i) (by unfold Tv.len at hl; omega) x (h.rows i hi) (h.two.d.r.row i (by rw [h.two.h.fit.n]; exact hi))).mono ?_
  rintro e y ⟨rfl, hb⟩
  exact ⟨rfl, h.onto hb⟩
theorem sm_len {g : Nat} {V : Nat → Value} (h : Sm w0 A B P m v a w g V x) :
    Calls Tryz.prog 26 #[.pointer (some ⟨A, 0, none⟩)] x fun e y => e = .returned (.int .i64 (v.kept : Int)) ∧ Sm w0 A B P m v a w g V y :=
  (lenT_c h.two.h).mono fun _ _ ⟨p, q⟩ => ⟨p, q ▸ h⟩
theorem sm_rlen {g : Nat} {V : Nat → Value} (hok : v.Fine) (h : Sm w0 A B P m v a w g V x) :
    Calls Tryz.prog 38 #[.agg #[.int .i64 (v.most : Int), .int .i64 (v.sk.wide : Int), .int .u64 (v.sk.seed : Int), .slice (some ⟨a.R, 0, none⟩) 4 a.c, .slice (some ⟨a.D, 0, none⟩) v.sk.wide v.sk.wide, .int .i64 (v.sk.added : Int), .slice (some ⟨a.G, 0, none⟩) 3 3, .int .i64 (v.pl : Int)]] x fun e y => e = .returned (.int .i64 (v.kept : Int)) ∧ Sm w0 A B P m v a w g V y :=
  (rlen_c hok x h.two.d).mono fun _ _ ⟨p, q⟩ => ⟨p, h.onto q⟩
set_option maxHeartbeats 8000000 in
set_option maxRecDepth 100000 in
theorem sameT_c (hok : v.Fine) (h : Two w0 A B P m v v a w) :
    Calls Tryz.prog 9 #[.pointer (some ⟨A, 0, none⟩), .agg #[.int .i64 (v.most : Int), .int .i64 (v.sk.wide : Int), .int .u64 (v.sk.seed : Int), .slice (some ⟨a.R, 0, none⟩) 4 a.c, .slice (some ⟨a.D, 0, none⟩) v.sk.wide v.sk.wide, .int .i64 (v.sk.added : Int), .slice (some ⟨a.G, 0, none⟩) 3 3, .int .i64 (v.pl : Int)]] w fun e w' => e = .returned (.bool true) ∧ Below w.heap.size w w' := by
  have hb1 := (Below.refl _ w).alloc (Nat.le_refl _) (.cells #[.int .i64 (v.most : Int), .int .i64 (v.sk.wide : Int), .int .u64 (v.sk.seed : Int), .slice (some ⟨a.R, 0, none⟩) 4 a.c, .slice (some ⟨a.D, 0, none⟩) v.sk.wide v.sk.wide, .int .i64 (v.sk.added : Int), .slice (some ⟨a.G, 0, none⟩) 3 3, .int .i64 (v.pl : Int)] 36)
  have h1 := h.onto hb1
  have hx1 := Blk.new w 36 #[.int .i64 (v.most : Int), .int .i64 (v.sk.wide : Int), .int .u64 (v.sk.seed : Int), .slice (some ⟨a.R, 0, none⟩) 4 a.c, .slice (some ⟨a.D, 0, none⟩) v.sk.wide v.sk.wide, .int .i64 (v.sk.added : Int), .slice (some ⟨a.G, 0, none⟩) 3 3, .int .i64 (v.pl : Int)]
  have hL := listsT_c h1.h
  clear h
  go_enter Tryz.func9, Tryz.ntmps9
  go_upto_region 1 with (fail)
  generalize w.alloc (.cells #[.int .i64 (v.most : Int), .int .i64 (v.sk.wide : Int), .int .u64 (v.sk.seed : Int), .slice (some ⟨a.R, 0, none⟩) 4 a.c, .slice (some ⟨a.D, 0, none⟩) v.sk.wide v.sk.wide, .int .i64 (v.sk.added : Int), .slice (some ⟨a.G, 0, none⟩) 3 3, .int .i64 (v.pl : Int)] 36) = w1 at *
  go_wp2_with fail
  refine hL.mono ?_
  rintro e w2 ⟨V, rfl, hR, hb2⟩
  have h3 : Sm w0 A B P m v a w w2.heap.size V (w2.alloc (.cells #[V 0, V 1, V 2] 76)) := by
    have hbb := (Below.refl _ w2).alloc (Nat.le_refl _) (.cells #[V 0, V 1, V 2] 76)
    refine ⟨(h1.onto hb2).onto hbb, (hx1.below hb2 hx1.lt).alloc _, Blk.new w2 _ _, fun t ht => ownsRow_stay (own_low (hR t ht)) fun b hb3 => Below.heap_alloc w2 _ b ((hR t ht).lt b hb3).2, (hb1.trans (hb2.mono hb1.size)).trans (hbb.mono ?_)⟩
    have := hb2.size
    have := hb1.size
    omega
  obtain ⟨a0, c0, v0⟩ := own_form (hR 0 (by omega))
  obtain ⟨a1, c1, v1⟩ := own_form (hR 1 (by omega))
  obtain ⟨a2, c2, v2⟩ := own_form (hR 2 (by omega))
  rw [v0, v1, v2] at h3 ⊢
  clear h1 hx1 hL hR hb2 hb1 v0 v1 v2
  go_upto_region 2 with (fail)
  generalize w2.heap.size = g at *
  generalize w2.alloc (.cells #[.slice a0 (v.len 0) c0, .slice a1 (v.len 1) c1, .slice a2 (v.len 2) c2] 76) = w3 at *
  have f0 := fun W (h : Sm w0 A B P m v a w g V W) => sm_texts 0 (by omega) h
  have f1 := fun W (h : Sm w0 A B P m v a w g V W) => sm_texts 1 (by omega) h
  have f2 := fun W (h : Sm w0 A B P m v a w g V W) => sm_texts 2 (by omega) h
  have f3 := fun W (h : Sm w0 A B P m v a w g V W) => sm_len h
  have f4 := fun W (h : Sm w0 A B P m v a w g V W) => sm_rlen hok h
  refine region_only 36 #[false, false, false, false, false, false, false, false, false, false, false, false, false, false, false, false, false, false, false, false, false, false, false, false, false, false, false, false, false, false, false, false, false, false, false, false] (S := (fun W => ((W.cell? ⟨w.heap.size, 0, none⟩ = some (.int .i64 (v.most : Int)) ∧ W.cell? ⟨w.heap.size, 1, none⟩ = some (.int .i64 (v.sk.wide : Int)) ∧ W.cell? ⟨w.heap.size, 2, none⟩ = some (.int .u64 (v.sk.seed : Int)) ∧ W.cell? ⟨w.heap.size, 3, none⟩ = some (.slice (some ⟨a.R, 0, none⟩) 4 a.c) ∧ W.cell? ⟨w.heap.size, 4, none⟩ = some (.slice (some ⟨a.D, 0, none⟩) v.sk.wide v.sk.wide) ∧ W.cell? ⟨w.heap.size, 5, none⟩ = some (.int .i64 (v.sk.added : Int)) ∧ W.cell? ⟨w.heap.size, 6, none⟩ = some (.slice (some ⟨a.G, 0, none⟩) 3 3) ∧ W.cell? ⟨w.heap.size, 7, none⟩ = some (.int .i64 (v.pl : Int))) ∧ W.cell? ⟨g, 0, none⟩ = some (V 0) ∧ W.cell? ⟨g, 1, none⟩ = some (V 1) ∧ W.cell? ⟨g, 2, none⟩ = some (V 2) ∧ W.cell? ⟨a.G, 0, none⟩ = some (a.vs 0) ∧ W.cell? ⟨a.G, 1, none⟩ = some (a.vs 1) ∧ W.cell? ⟨a.G, 2, none⟩ = some (a.vs 2)) ∧ Sm w0 A B P m v a w g V W)) rfl rfl (by kernel_rfl) (h3.drewN 1).all (fun hSw => ?_)
  refine take_at 0 8 (fuel := 35) ?_ rfl rfl (by kernel_rfl) (by kernel_rfl) (by kernel_rfl) (Or.inl ⟨by rfl, ?_⟩) hSw ?_
  rotate_left
  · intro wx hSx
    (try dsimp only at hSx)
    go_split_ands
    go_simp
    (try with_reducible rfl)
  simp only [List.setIfInBounds_toArray, List.set_cons_zero, List.set_cons_succ]
  refine take_at 1 9 (fuel := 34) ?_ rfl rfl (by kernel_rfl) (by kernel_rfl) (by kernel_rfl) (Or.inl ⟨by rfl, ?_⟩) hSw ?_
  rotate_left
  · intro wx hSx
    (try dsimp only at hSx)
    go_split_ands
    go_simp
    (try with_reducible rfl)
  simp only [List.setIfInBounds_toArray, List.set_cons_zero, List.set_cons_succ]
  refine take_at 2 10 (fuel := 33) ?_ rfl rfl (by kernel_rfl) (by kernel_rfl) (by kernel_rfl) (Or.inl ⟨by rfl, ?_⟩) hSw ?_
  rotate_left
  · intro wx hSx
    (try dsimp only at hSx)
    go_split_ands
    go_simp
    (try with_reducible rfl)
  simp only [List.setIfInBounds_toArray, List.set_cons_zero, List.set_cons_succ]
  refine take_at 3 11 (fuel := 32) ?_ rfl rfl (by kernel_rfl) (by kernel_rfl) (by kernel_rfl) (Or.inl ⟨by rfl, ?_⟩) hSw ?_
  rotate_left
  · intro wx hSx
    (try dsimp only at hSx)
    go_split_ands
    go_simp
    (try with_reducible rfl)
  simp only [List.setIfInBounds_toArray, List.set_cons_zero, List.set_cons_succ]
  refine take_at 4 12 (fuel := 31) ?_ rfl rfl (by kernel_rfl) (by kernel_rfl) (by kernel_rfl) (Or.inl ⟨by rfl, ?_⟩) hSw ?_
  rotate_left
  · intro wx hSx
    (try dsimp only at hSx)
    go_split_ands
    go_simp
    (try with_reducible rfl)
  simp only [List.setIfInBounds_toArray, List.set_cons_zero, List.set_cons_succ]
  refine take_at 5 13 (fuel := 30) ?_ rfl rfl (by kernel_rfl) (by kernel_rfl) (by kernel_rfl) (Or.inl ⟨by rfl, ?_⟩) hSw ?_
  rotate_left
  · intro wx hSx
    (try dsimp only at hSx)
    go_split_ands
    go_simp
    (try with_reducible rfl)
  simp only [List.setIfInBounds_toArray, List.set_cons_zero, List.set_cons_succ]
  refine take_at 6 14 (fuel := 29) ?_ rfl rfl (by kernel_rfl) (by kernel_rfl) (by kernel_rfl) (Or.inl ⟨by rfl, ?_⟩) hSw ?_
  rotate_left
  · intro wx hSx
    (try dsimp only at hSx)
    go_split_ands
    go_simp
    (try with_reducible rfl)
  simp only [List.setIfInBounds_toArray, List.set_cons_zero, List.set_cons_succ]
  refine wpAnyH_ready (fuel := 28) (rs := [7]) (by kernel_rfl) (by simp) (AllReadyH.cons rfl (fun K hK => ?_) AllReadyH.nil)
  go_simp
  refine Calls.mono (f0 _ hSw.2) ?_
  rintro e wv ⟨rfl, hwv⟩
  refine hK.out _ _ (Sm.all hwv) (fun hSw => ?_)
  clear hK K
  simp only [List.setIfInBounds_toArray, List.set_cons_zero, List.set_cons_succ]
  refine take_at 8 16 (fuel := 27) ?_ rfl rfl (by kernel_rfl) (by kernel_rfl) (by kernel_rfl) (Or.inl ⟨by rfl, ?_⟩) hSw ?_
  rotate_left
  · intro wx hSx
    (try dsimp only at hSx)
    go_split_ands
    go_simp
    (try with_reducible rfl)
  simp only [List.setIfInBounds_toArray, List.set_cons_zero, List.set_cons_succ]
  refine take_at 9 17 (fuel := 26) ?_ rfl rfl (by kernel_rfl) (by kernel_rfl) (by kernel_rfl) (Or.inl ⟨by rfl, ?_⟩) hSw ?_
  rotate_left
  · intro wx hSx
    (try dsimp only at hSx)
    go_split_ands
    go_simp
    (try with_reducible rfl)
  simp only [List.setIfInBounds_toArray, List.set_cons_zero, List.set_cons_succ]
  refine take_at 10 18 (fuel := 25) ?_ rfl rfl (by kernel_rfl) (by kernel_rfl) (by kernel_rfl) (Or.inl ⟨by rfl, ?_⟩) hSw ?_
  rotate_left
  · intro wx hSx
    (try dsimp only at hSx)
    go_split_ands
    go_simp
    (try with_reducible rfl)
  simp only [List.setIfInBounds_toArray, List.set_cons_zero, List.set_cons_succ]
  refine take_at 11 19 (fuel := 24) ?_ rfl rfl (by kernel_rfl) (by kernel_rfl) (by kernel_rfl) (Or.inl ⟨by rfl, ?_⟩) hSw ?_
  rotate_left
  · intro wx hSx
    (try dsimp only at hSx)
    go_split_ands
    go_simp
    (try with_reducible rfl)
  simp only [List.setIfInBounds_toArray, List.set_cons_zero, List.set_cons_succ]
  refine take_at 12 20 (fuel := 23) ?_ rfl rfl (by kernel_rfl) (by kernel_rfl) (by kernel_rfl) (Or.inl ⟨by rfl, ?_⟩) hSw ?_
  rotate_left
  · intro wx hSx
    (try dsimp only at hSx)
    go_split_ands
    go_simp
    (try with_reducible rfl)
  simp only [List.setIfInBounds_toArray, List.set_cons_zero, List.set_cons_succ]
  refine take_at 13 21 (fuel := 22) ?_ rfl rfl (by kernel_rfl) (by kernel_rfl) (by kernel_rfl) (Or.inl ⟨by rfl, ?_⟩) hSw ?_
  rotate_left
  · intro wx hSx
    (try dsimp only at hSx)
    go_split_ands
    go_simp
    (try with_reducible rfl)
  simp only [List.setIfInBounds_toArray, List.set_cons_zero, List.set_cons_succ]
  refine take_at 14 22 (fuel := 21) ?_ rfl rfl (by kernel_rfl) (by kernel_rfl) (by kernel_rfl) (Or.inl ⟨by rfl, ?_⟩) hSw ?_
  rotate_left
  · intro wx hSx
    (try dsimp only at hSx)
    go_split_ands
    go_simp
    (try with_reducible rfl)
  simp only [List.setIfInBounds_toArray, List.set_cons_zero, List.set_cons_succ]
  refine take_at 15 23 (fuel := 20) ?_ rfl rfl (by kernel_rfl) (by kernel_rfl) (by kernel_rfl) (Or.inl ⟨by rfl, ?_⟩) hSw ?_
  rotate_left
  · intro wx hSx
    (try dsimp only at hSx)
    go_split_ands
    go_simp
    (try with_reducible rfl)
  simp only [List.setIfInBounds_toArray, List.set_cons_zero, List.set_cons_succ]
  refine wpAnyH_ready (fuel := 19) (rs := [16]) (by kernel_rfl) (by simp) (AllReadyH.cons rfl (fun K hK => ?_) AllReadyH.nil)
  go_simp
  refine Calls.mono (f1 _ hSw.2) ?_
  rintro e wv ⟨rfl, hwv⟩
  refine hK.out _ _ (Sm.all hwv) (fun hSw => ?_)
  clear hK K
  simp only [List.setIfInBounds_toArray, List.set_cons_zero, List.set_cons_succ]
  refine take_at 17 25 (fuel := 18) ?_ rfl rfl (by kernel_rfl) (by kernel_rfl) (by kernel_rfl) (Or.inl ⟨by rfl, ?_⟩) hSw ?_
  rotate_left
  · intro wx hSx
    (try dsimp only at hSx)
    go_split_ands
    go_simp
    (try with_reducible rfl)
  simp only [List.setIfInBounds_toArray, List.set_cons_zero, List.set_cons_succ]
  refine take_at 18 26 (fuel := 17) ?_ rfl rfl (by kernel_rfl) (by kernel_rfl) (by kernel_rfl) (Or.inl ⟨by rfl, ?_⟩) hSw ?_
  rotate_left
  · intro wx hSx
    (try dsimp only at hSx)
    go_split_ands
    go_simp
    (try with_reducible rfl)
  simp only [List.setIfInBounds_toArray, List.set_cons_zero, List.set_cons_succ]
  refine take_at 19 27 (fuel := 16) ?_ rfl rfl (by kernel_rfl) (by kernel_rfl) (by kernel_rfl) (Or.inl ⟨by rfl, ?_⟩) hSw ?_
  rotate_left
  · intro wx hSx
    (try dsimp only at hSx)
    go_split_ands
    go_simp
    (try with_reducible rfl)
  simp only [List.setIfInBounds_toArray, List.set_cons_zero, List.set_cons_succ]
  refine take_at 20 28 (fuel := 15) ?_ rfl rfl (by kernel_rfl) (by kernel_rfl) (by kernel_rfl) (Or.inl ⟨by rfl, ?_⟩) hSw ?_
  rotate_left
  · intro wx hSx
    (try dsimp only at hSx)
    go_split_ands
    go_simp
    (try with_reducible rfl)
  simp only [List.setIfInBounds_toArray, List.set_cons_zero, List.set_cons_succ]
  refine take_at 21 29 (fuel := 14) ?_ rfl rfl (by kernel_rfl) (by kernel_rfl) (by kernel_rfl) (Or.inl ⟨by rfl, ?_⟩) hSw ?_
  rotate_left
  · intro wx hSx
    (try dsimp only at hSx)
    go_split_ands
    go_simp
    (try with_reducible rfl)
  simp only [List.setIfInBounds_toArray, List.set_cons_zero, List.set_cons_succ]
  refine take_at 22 30 (fuel := 13) ?_ rfl rfl (by kernel_rfl) (by kernel_rfl) (by kernel_rfl) (Or.inl ⟨by rfl, ?_⟩) hSw ?_
  rotate_left
  · intro wx hSx
    (try dsimp only at hSx)
    go_split_ands
    go_simp
    (try with_reducible rfl)
  simp only [List.setIfInBounds_toArray, List.set_cons_zero, List.set_cons_succ]
  refine take_at 23 31 (fuel := 12) ?_ rfl rfl (by kernel_rfl) (by kernel_rfl) (by kernel_rfl) (Or.inl ⟨by rfl, ?_⟩) hSw ?_
  rotate_left
  · intro wx hSx
    (try dsimp only at hSx)
    go_split_ands
    go_simp
    (try with_reducible rfl)
  simp only [List.setIfInBounds_toArray, List.set_cons_zero, List.set_cons_succ]
  refine take_at 24 32 (fuel := 11) ?_ rfl rfl (by kernel_rfl) (by kernel_rfl) (by kernel_rfl) (Or.inl ⟨by rfl, ?_⟩) hSw ?_
  rotate_left
  · intro wx hSx
    (try dsimp only at hSx)
    go_split_ands
    go_simp
    (try with_reducible rfl)
  simp only [List.setIfInBounds_toArray, List.set_cons_zero, List.set_cons_succ]
  refine take_at 25 33 (fuel := 10) ?_ rfl rfl (by kernel_rfl) (by kernel_rfl) (by kernel_rfl) (Or.inl ⟨by rfl, ?_⟩) hSw ?_
  rotate_left
  · intro wx hSx
    (try dsimp only at hSx)
    go_split_ands
    go_simp
    (try with_reducible rfl)
  simp only [List.setIfInBounds_toArray, List.set_cons_zero, List.set_cons_succ]
  refine wpAnyH_ready (fuel := 9) (rs := [26]) (by kernel_rfl) (by simp) (AllReadyH.cons rfl (fun K hK => ?_) AllReadyH.nil)
  go_simp
  refine Calls.mono (f2 _ hSw.2) ?_
  rintro e wv ⟨rfl, hwv⟩
  refine hK.out _ _ (Sm.all hwv) (fun hSw => ?_)
  clear hK K
  simp only [List.setIfInBounds_toArray, List.set_cons_zero, List.set_cons_succ]
  refine take_at 27 35 (fuel := 8) ?_ rfl rfl (by kernel_rfl) (by kernel_rfl) (by kernel_rfl) (Or.inl ⟨by rfl, ?_⟩) hSw ?_
  rotate_left
  · intro wx hSx
    (try dsimp only at hSx)
    go_split_ands
    go_simp
    (try with_reducible rfl)
  simp only [List.setIfInBounds_toArray, List.set_cons_zero, List.set_cons_succ]
  refine take_at 28 36 (fuel := 7) ?_ rfl rfl (by kernel_rfl) (by kernel_rfl) (by kernel_rfl) (Or.inl ⟨by rfl, ?_⟩) hSw ?_
  rotate_left
  · intro wx hSx
    (try dsimp only at hSx)
    go_split_ands
    go_simp
    (try with_reducible rfl)
  simp only [List.setIfInBounds_toArray, List.set_cons_zero, List.set_cons_succ]
  refine take_at 29 37 (fuel := 6) ?_ rfl rfl (by kernel_rfl) (by kernel_rfl) (by kernel_rfl) (Or.inl ⟨by rfl, ?_⟩) hSw ?_
  rotate_left
  · intro wx hSx
    (try dsimp only at hSx)
    go_split_ands
    go_simp
    (try with_reducible rfl)
  simp only [List.setIfInBounds_toArray, List.set_cons_zero, List.set_cons_succ]
  refine take_at 31 39 (fuel := 5) ?_ rfl rfl (by kernel_rfl) (by kernel_rfl) (by kernel_rfl) (Or.inl ⟨by rfl, ?_⟩) hSw ?_
  rotate_left
  · intro wx hSx
    (try dsimp only at hSx)
    go_split_ands
    go_simp
    (try with_reducible rfl)
  simp only [List.setIfInBounds_toArray, List.set_cons_zero, List.set_cons_succ]
  refine wpAnyH_ready (fuel := 4) (rs := [30]) (by kernel_rfl) (by simp) (AllReadyH.cons rfl (fun K hK => ?_) AllReadyH.nil)
  go_simp
  refine Calls.mono (f3 _ hSw.2) ?_
  rintro e wv ⟨rfl, hwv⟩
  refine hK.out _ _ (Sm.all hwv) (fun hSw => ?_)
  clear hK K
  simp only [List.setIfInBounds_toArray, List.set_cons_zero, List.set_cons_succ]
  refine wpAnyH_ready (fuel := 3) (rs := [32]) (by kernel_rfl) (by simp) (AllReadyH.cons rfl (fun K hK => ?_) AllReadyH.nil)
  go_simp
  refine Calls.mono (f4 _ hSw.2) ?_
  rintro e wv ⟨rfl, hwv⟩
  refine hK.out _ _ (Sm.all hwv) (fun hSw => ?_)
  clear hK K
  simp only [List.setIfInBounds_toArray, List.set_cons_zero, List.set_cons_succ]
  refine take_at 33 41 (fuel := 2) ?_ rfl rfl (by kernel_rfl) (by kernel_rfl) (by kernel_rfl) (Or.inl ⟨by rfl, ?_⟩) hSw ?_
  rotate_left
  · intro wx hSx
    (try dsimp only at hSx)
    go_split_ands
    go_simp
    (try with_reducible rfl)
  simp only [List.setIfInBounds_toArray, List.set_cons_zero, List.set_cons_succ]
  refine take_at 34 42 (fuel := 1) ?_ rfl rfl (by kernel_rfl) (by kernel_rfl) (by kernel_rfl) (Or.inl ⟨by rfl, ?_⟩) hSw ?_
  rotate_left
  · intro wx hSx
    (try dsimp only at hSx)
    go_split_ands
    go_simp
    (try with_reducible rfl)
  simp only [List.setIfInBounds_toArray, List.set_cons_zero, List.set_cons_succ]
  refine take_at 35 4 (fuel := 0) ?_ rfl rfl (by kernel_rfl) (by kernel_rfl) (by kernel_rfl) (Or.inl ⟨by rfl, ?_⟩) hSw ?_
  rotate_left
  · intro wx hSx
    (try dsimp only at hSx)
    go_split_ands
    go_simp
    (try with_reducible rfl)
  simp only [List.setIfInBounds_toArray, List.set_cons_zero, List.set_cons_succ]
  refine wpAnyH_done (by kernel_rfl) ⟨rfl, ?_⟩ 0
  have hZ := hSw.2
  clear hSw f0 f1 f2 f3 f4 h3
  go_wp2_with fail
  go_ret
  exact ⟨rfl, hZ.below⟩
end
end Go.Proofs.YtgfpedcdclgmiaaGreat.Tinyy
