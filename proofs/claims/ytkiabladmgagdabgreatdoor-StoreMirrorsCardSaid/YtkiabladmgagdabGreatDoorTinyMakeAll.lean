/- Contracts of the program's Tiny: who goes when the window has too many, and Insert. The only condition: a key is no longer than a text may be. Contracts of the program's Insert. The only condition: a key is no longer than a text may be. How often a key was seen, exactly, while no other key shares a counter with it; what the laws of layer 8 begin with; no policy at all. No condition. -/
import Derived.Test.YtkiabladmgagdabGreatDoorTinyDoAll
import Derived.Test.YtkiabladmgagdabGreatDoorRingRoundAll
import Derived.Test.YtkiabladmgagdabGreatDoorSq
namespace Go.Proofs.YtkiabladmgagdabGreatDoor.Tinyy
open Go.ChangeShapes Go.WideShapes Go.ChangeAt Go.RowKit
open Wirey (Blk Row str str_size str_list Kp)
open Ringy
open Sketchy (Sk ksOf Six)

section
variable {w0 w w' w'' : World} {A B P : Nat} {m m' m'' : Rm} {v u : Tv} {k one : Key}
theorem Tv.Full.stays_in (hF : v.Full k u one) {o : Key} (h : u.first [1, 2] = some o) : o.length ≤ 64 ∧ o ≠ one ∧ ∃ i, i < 3 ∧ o ∈ u.rg.l i := by
 obtain ⟨i, hi, hmo, hil⟩ := Tv.first_mem (by simp) h
 have hi12 : i = 1 ∨ i = 2 := by simpa using hil
 refine ⟨hF.fit.klen hi hmo, fun e => ?_, i, hi, hmo⟩
 subst e
 have := hF.fit.dj hi (by omega) hmo hF.mem
 omega
set_option maxHeartbeats 4000000 in
set_option maxRecDepth 100000 in
theorem leave_c (hF : v.Full k u one) (h : HeldT w0 A B P w m u) :
  Calls Tryz.prog 249 #[.pointer (some ⟨A, 0, none⟩)] w fun e w' => ∃ val m', e = .returned val ∧ HeldT w0 A B P w' m' u.leave ∧ StepT B w m w' m' ∧ Tell w.heap.size B m' val u.leaveK w' := by
 have hs : u.leave = u.leaveOf one := by unfold Tv.leave; rw [hF.last]; rfl
 have hsk : u.leaveK = u.leaveOfK one := by unfold Tv.leaveK; rw [hF.last]; rfl
 have hol : one.length ≤ 64 := hF.fit.klen (by omega) hF.mem
 have hl1 := fun (W : World) (g : Nat) (hb : Blk W g 3 #[.int .i64 0]) (hW : HeldT w0 A B P W m u) => last1 (a := 0) (x := 0) rfl (by omega) hb hW
 rw [hF.last] at hl1
 simp only [Option.getD_some, Option.isSome_some] at hl1
 have hB := (Beside.of h).alloc (.cells #[.int .i64 0] 3)
 have ht := tooMany_c hB.h
 have hl := hl1 _ _ (Blk.new w 3 #[.int .i64 0]) hB.h
 clear hl1
 have HB := Lib.hid hB
 by_cases e1 : u.kept ≤ u.most
 ·have hx1 : u.leaveOf one = u.fr 1 one := if_pos e1
  have hx2 : u.leaveOfK one = [] := if_pos e1
  rw [hs, hsk, hx1, hx2]
  have hc := hF.fit.in_ hF.fit.n (by omega) hF.mem
  have e2 : decide (u.most < u.kept) = false := decide_eq_false (by omega)
  rw [e2] at ht
  clear h hs hsk hx1 hx2 hB e1 e2 hF
  go_enter Tryz.func249, Tryz.ntmps249
  go_wp2_with fail
  refine hl.mono ?_
  rintro e w' ⟨rfl, rfl⟩
  go_wp2_with fail
  refine ht.mono ?_
  rintro e w1 ⟨rfl, hx⟩
  have hS1 := HB.out.s.trans hx.s
  obtain ⟨c0, c1, c2⟩ := hx.h.cells
  go_wp2_with fail
  refine (front_t (j := 1) (by omega) hol hc hx.h).mono ?_
  rintro e w2 ⟨rfl, m2, h2, hS2⟩
  go_wp2_with fail
  go_ret
  exact ⟨_, m2, rfl, h2, hS1.trans hS2, Tell.nil _ _ _ _⟩
 ·have e2 : decide (u.most < u.kept) = true := decide_eq_true (by omega)
  rw [e2] at ht
  have hx1 : u.leaveOf one = match u.stays one with | none => u.dr one | some o => (u.dr o).fr 1 one := if_neg e1
  have hx2 : u.leaveOfK one = match u.stays one with | none => [one] | some o => [o] := if_neg e1
  rw [hs, hsk, hx1, hx2]
  have hl2 := fun (W : World) (g : Nat) (hb : Blk W g 3 #[.int .i64 1, .int .i64 2]) (hW : HeldT w0 A B P W m u) => last2 hb hW
  clear h hs hsk hx1 hx2 hB e1 e2
  cases e3 : u.first [1, 2] with
  | none =>
   have hst : u.stays one = none := by unfold Tv.stays; rw [e3]
   rw [e3] at hl2
   simp only [Option.getD_none, Option.isSome_none] at hl2
   rw [hst]
   simp only
   have hr := fun (W : World) (hW : HeldT w0 A B P W m u) => removeT_c (k := one) (by unfold maxLen; omega) hW
   clear hF hst e3
   go_enter Tryz.func249, Tryz.ntmps249
   go_wp2_with fail
   refine hl.mono ?_
   rintro e w' ⟨rfl, rfl⟩
   go_wp2_with fail
   refine ht.mono ?_
   rintro e w1 ⟨rfl, hx⟩
   have hS1 := HB.out.s.trans hx.s
   go_wp2_with fail
   refine (hl2 _ _ (Blk.new w1 3 _) (hx.h.alloc _)).mono ?_
   rintro e w' ⟨rfl, rfl⟩
   have hx3 := hx.alloc (.cells #[.int .i64 1, .int .i64 2] 3)
   go_wp2_with fail
   refine (hr _ hx3.h).mono ?_
   rintro e w2 ⟨rfl, m2, h2, hS2⟩
   have hS3 := (hS1.alloc (.cells #[.int .i64 1, .int .i64 2] 3)).trans hS2
   go_wp2_with fail
   go_ret
   exact ⟨_, m2, rfl, h2.alloc _, hS3.alloc _, Tell.lit h2 hS3.kp.size one⟩
  | some o =>
   obtain ⟨hol2, hne, i, hi, hmo⟩ := hF.stays_in e3
   rw [e3] at hl2
   simp only [Option.getD_some, Option.isSome_some] at hl2
   have hse1 := fun (W : World) (hW : HeldT w0 A B P W m u) => seenT_c (k := one) (by omega) hW
   have hse2 := fun (W : World) (hW : HeldT w0 A B P W m u) => seenT_c (k := o) (by omega) hW
   by_cases e4 : u.seen one ≤ u.seen o
   ·have hst : u.stays one = none := by unfold Tv.stays; rw [e3]; exact if_pos e4
    have d4 : decide ((u.seen one : Int) ≤ (u.seen o : Int)) = true := decide_eq_true (by omega)
    rw [hst]
    simp only
    have hr := fun (W : World) (hW : HeldT w0 A B P W m u) => removeT_c (k := one) (by unfold maxLen; omega) hW
    clear hF hst e3 hmo
    go_enter Tryz.func249, Tryz.ntmps249
    go_wp2_with fail
    refine hl.mono ?_
    rintro e w' ⟨rfl, rfl⟩
    go_wp2_with fail
    refine ht.mono ?_
    rintro e w1 ⟨rfl, hx⟩
    have hS1 := HB.out.s.trans hx.s
    go_wp2_with fail
    refine (hl2 _ _ (Blk.new w1 3 _) (hx.h.alloc _)).mono ?_
    rintro e w' ⟨rfl, rfl⟩
    have hx3 := hx.alloc (.cells #[.int .i64 1, .int .i64 2] 3)
    go_wp2_with fail
    refine (hse1 _ hx3.h).mono ?_
    rintro e w' ⟨rfl, n1, rfl⟩
    have hx4 := hx3.drewN n1
    go_wp2_with fail
    refine (hse2 _ hx4.h).mono ?_
    rintro e w' ⟨rfl, n2, rfl⟩
    have hx5 := hx3.drewN (n1 + n2)
    go_wp2_with fail
    refine (hr _ hx5.h).mono ?_
    rintro e w2 ⟨rfl, m2, h2, hS2⟩
    have hS3 := (((hS1.alloc (.cells #[.int .i64 1, .int .i64 2] 3)).drewN (n1 + n2))).trans hS2
    go_wp2_with fail
    go_ret
    exact ⟨_, m2, rfl, h2.alloc _, hS3.alloc _, Tell.lit h2 hS3.kp.size one⟩
   ·have hst : u.stays one = some o := by unfold Tv.stays; rw [e3]; exact if_neg e4
    have d4 : decide ((u.seen one : Int) ≤ (u.seen o : Int)) = false := decide_eq_false (by omega)
    rw [hst]
    simp only
    have hr := fun (W : World) (hW : HeldT w0 A B P W m u) => removeT_c (k := o) (by unfold maxLen; omega) hW
    have hc : (u.dr o).can one := (hF.fit.dr o).in_ (hF.fit.dr o).n (i := 0) (by omega) (Tv.mem_dr.2 ⟨hF.mem, fun e => hne e.symm⟩)
    clear hF hst e3 hmo
    go_enter Tryz.func249, Tryz.ntmps249
    go_wp2_with fail
    refine hl.mono ?_
    rintro e w' ⟨rfl, rfl⟩
    go_wp2_with fail
    refine ht.mono ?_
    rintro e w1 ⟨rfl, hx⟩
    have hS1 := HB.out.s.trans hx.s
    go_wp2_with fail
    refine (hl2 _ _ (Blk.new w1 3 _) (hx.h.alloc _)).mono ?_
    rintro e w' ⟨rfl, rfl⟩
    have hx3 := hx.alloc (.cells #[.int .i64 1, .int .i64 2] 3)
    go_wp2_with fail
    refine (hse1 _ hx3.h).mono ?_
    rintro e w' ⟨rfl, n1, rfl⟩
    have hx4 := hx3.drewN n1
    go_wp2_with fail
    refine (hse2 _ hx4.h).mono ?_
    rintro e w' ⟨rfl, n2, rfl⟩
    have hx5 := hx3.drewN (n1 + n2)
    go_wp2_with fail
    refine (hr _ hx5.h).mono ?_
    rintro e w2 ⟨rfl, m2, h2, hS2⟩
    have hS3 := (((hS1.alloc (.cells #[.int .i64 1, .int .i64 2] 3)).drewN (n1 + n2))).trans hS2
    obtain ⟨c0, c1, c2⟩ := h2.cells
    go_wp2_with fail
    refine (front_t (j := 1) (by omega) hol hc h2).mono ?_
    rintro e w3 ⟨rfl, m3, h3, hS4⟩
    have hS5 := hS3.trans hS4
    go_wp2_with fail
    go_ret
    exact ⟨_, m3, rfl, h3.alloc _, hS5.alloc _, Tell.lit h3 hS5.kp.size o⟩
end
end Go.Proofs.YtkiabladmgagdabGreatDoor.Tinyy
namespace Go.Proofs.YtkiabladmgagdabGreatDoor.Tinyy
open Go.ChangeShapes Go.WideShapes Go.ChangeAt Go.RowKit
open Wirey (Blk Row str str_size str_list Kp)
open Ringy
open Sketchy (Sk ksOf Six)

section
variable {w0 w w' w'' : World} {A B P : Nat} {m m' m'' : Rm} {v u : Tv} {k one : Key}
set_option maxHeartbeats 4000000 in
set_option maxRecDepth 100000 in
theorem insert_new (hk : k.length ≤ 64) (hno : v.has k = false) (hok : v.Ok) (h : HeldT w0 A B P w m v) :
  Calls Tryz.prog 244 #[.pointer (some ⟨A, 0, none⟩), .string (str k)] w fun e w' => ∃ val m', e = .returned val ∧ HeldT w0 A B P w' m' (v.fresh k) ∧ StepT B w m w' m' ∧ Tell w.heap.size B m' val (v.freshK k) w' := by
 have hm := made_c h
 have hsz := str_size k
 have hat : v.at_ k = none := by unfold Tv.has at hno; cases e : v.at_ k with | none => rfl | some i => rw [e] at hno; cases hno
 have hto : v.touch k = v := by unfold Tv.touch; rw [hat]
 have ht := touchT_c (k := k) (by unfold maxLen; omega) hok h
 rw [hno, hto] at ht
 have hn := fun (W : World) (m1 : Rm) (hW : HeldT w0 A B P W m1 v) => note_t (k := k) (by omega) hW
 have hf := fun (W : World) (m1 : Rm) (hW : HeldT w0 A B P W m1 (v.note k)) => front_t (j := 0) (by omega) hk ((hok.note k).fit.room (hok.note k).kept) hW
 obtain ⟨c0, c1, c2⟩ := h.cells
 have hmo : (v.came k).most = v.most := rfl
 have hm1 := hok.fit.m1
 have hm2 := hok.fit.m2
 have hkept : (v.came k).len 0 ≤ wMost v.most → (v.came k).kept ≤ v.most := fun hw => by
  have hI := Tv.ins_spec hok hk
  have h1 : v.ins k = v.came k := by unfold Tv.ins; rw [if_neg (by rw [hno]; decide)]; exact if_pos hw
  rw [h1] at hI
  exact hI.ok.kept
 have hF := fun hw => Tv.full_of hok hk hno hw
 have hq1 : (v.came k).len 0 ≤ wMost v.most → v.fresh k = v.came k ∧ v.freshK k = [] := fun hw => ⟨if_pos hw, if_pos hw⟩
 have hq2 : ¬ (v.came k).len 0 ≤ wMost v.most → v.fresh k = (v.came k).leave ∧ v.freshK k = (v.came k).leaveK := fun hw => ⟨if_neg hw, if_neg hw⟩
 have hc : v.came k = (v.note k).fr 0 k := rfl
 rw [← hc] at hf
 generalize v.fresh k = s at *
 generalize v.freshK k = sk at *
 generalize v.came k = u at *
 clear h hno hat hto hok hc
 go_enter Tryz.func244, Tryz.ntmps244
 go_wp2_with fail
 refine hm.mono ?_
 rintro e w' ⟨rfl, rfl⟩
 go_wp2_with fail
 refine ht.mono ?_
 rintro e w1 ⟨rfl, m1, h1, hS1⟩
 clear c0 c1 c2 hm ht
 obtain ⟨c0, c1, c2⟩ := h1.cells
 go_wp2_with fail
 refine (hn _ _ h1).mono ?_
 rintro e w2 ⟨rfl, h2, hS2⟩
 clear c0 c1 c2 hn
 obtain ⟨c0, c1, c2⟩ := h2.cells
 go_wp2_with fail
 refine (hf _ _ h2).mono ?_
 rintro e w3 ⟨rfl, m3, h3, hS3⟩
 clear c0 c1 c2 hf
 obtain ⟨c0, c1, c2⟩ := h3.cells
 rw [hmo] at c0
 have hS := (hS1.trans hS2).trans hS3
 have hB := Beside.of h3
 have hd := b1 hB.drew
 rw [hmo] at hd
 have hf0 := fun W => field0 (wMost v.most : Int) (sMost v.most : Int) W
 have hl0 := h3.fit.len_le (i := 0) (by omega)
 by_cases hw : u.len 0 ≤ wMost v.most
 ·have d1 : decide ((wMost v.most : Int) < (u.len 0 : Int)) = false := decide_eq_false (by omega)
  have d3 : decide (wMost v.most < u.len 0) = false := decide_eq_false (by omega)
  have d4 : ¬ wMost v.most < u.len 0 := by omega
  have d2 : decide (u.most < u.kept) = false := decide_eq_false (by have := hkept hw; omega)
  have HQ := Lib.hid (hq1 hw)
  have htm := fun (W : World) (hW : HeldT w0 A B P W m3 u) => tooMany_c hW
  rw [d2] at htm
  clear hq1 hq2 hF hkept hw
  have HMO := Lib.hid hmo
  clear hmo
  go_wp2_with fail
  go_region_held3 (fun w' => w'.cell? ⟨A, 0, none⟩ = some (.int .i64 v.most) ∧ w'.cell? ⟨A, 2, none⟩ = some (.pointer (some ⟨P, 0, none⟩)) ∧ Beside w0 A B P w3 m3 u w')
   (first | exact ⟨hd.1, hd.2.h.cells.2.2, hd.2⟩ | exact b3A HMO.out (by assumption) _ | exact b3D HMO.out (by assumption) | exact b3 HMO.out (by assumption) | exact b3 HMO.out (Beside.drewN hB _) | go_keep)
   (first | (go_at_call 140; refine (onto (s3 (by assumption)) (len_t (i := 0) (by omega) (s3 (by assumption)).h)).mono ?_; rintro e wv ⟨rfl, hbv⟩) | (go_at_call 137; refine (parts_c hm1 hm2 _).mono ?_; rintro e wv ⟨rfl, o, rfl⟩) | (go_at_call 139; refine (ontoB (s3 (by assumption)) (htm _ (s3 (by assumption)).h)).mono ?_; rintro e wv ⟨rfl, hbv⟩))
  have hS5 := hS.trans hbv.s
  go_wp2_with fail
  go_ret
  obtain ⟨q1, q2⟩ := HQ.out
  rw [q1, q2]
  exact ⟨_, m3, rfl, hbv.h, hS5, Tell.nil _ _ _ _⟩
 ·have d1 : decide ((wMost v.most : Int) < (u.len 0 : Int)) = true := decide_eq_true (by omega)
  have d3 : decide (wMost v.most < u.len 0) = true := decide_eq_true (by omega)
  have d4 : wMost v.most < u.len 0 := by omega
  have HQ := Lib.hid (hq2 hw)
  obtain ⟨one, hF⟩ := hF hw
  clear hq1 hq2 hkept hw
  have HMO := Lib.hid hmo
  clear hmo
  go_wp2_with fail
  refine region_only 16 #[false, false, false, false, false, false, false, false, false, false, false, false, false, false, false, false] (S := (fun W => W.cell? ⟨A, 0, none⟩ = some (.int .i64 v.most) ∧ W.cell? ⟨A, 2, none⟩ = some (.pointer (some ⟨P, 0, none⟩)) ∧ Beside w0 A B P w3 m3 u W)) rfl rfl (by kernel_rfl) (b3 HMO.out hB.drew) (fun hSw => ?_)
  refine tkA 0 30 15 ?_ rfl rfl ?_ hSw ?_
  rotate_left
  ·intro wx hSx; (try dsimp only at hSx); go_split_ands; go_simp; (try with_reducible rfl)
  simp only [sA, List.set_cons_zero, sC]
  refine tkA 1 31 14 ?_ rfl rfl ?_ hSw ?_
  rotate_left
  ·intro wx hSx; (try dsimp only at hSx); go_split_ands; go_simp; (try with_reducible rfl)
  simp only [sA, List.set_cons_zero, sC]
  refine tkA 2 32 13 ?_ rfl rfl ?_ hSw ?_
  rotate_left
  ·intro wx hSx; (try dsimp only at hSx); go_split_ands; go_simp; (try with_reducible rfl)
  simp only [sA, List.set_cons_zero, sC]
  refine tkA 3 33 12 ?_ rfl rfl ?_ hSw ?_
  rotate_left
  ·intro wx hSx; (try dsimp only at hSx); go_split_ands; go_simp; (try with_reducible rfl)
  simp only [sA, List.set_cons_zero, sC]
  refine tkA 5 35 11 ?_ rfl rfl ?_ hSw ?_
  rotate_left
  ·intro wx hSx; (try dsimp only at hSx); go_split_ands; go_simp; (try with_reducible rfl)
  simp only [sA, List.set_cons_zero, sC]
  refine tkA 6 36 10 ?_ rfl rfl ?_ hSw ?_
  rotate_left
  ·intro wx hSx; (try dsimp only at hSx); go_split_ands; go_simp; (try with_reducible rfl)
  simp only [sA, List.set_cons_zero, sC]
  refine tkA 7 37 9 ?_ rfl rfl ?_ hSw ?_
  rotate_left
  ·intro wx hSx; (try dsimp only at hSx); go_split_ands; go_simp; (try with_reducible rfl)
  simp only [sA, List.set_cons_zero, sC]
  refine tkA 8 38 8 ?_ rfl rfl ?_ hSw ?_
  rotate_left
  ·intro wx hSx; (try dsimp only at hSx); go_split_ands; go_simp; (try with_reducible rfl)
  simp only [sA, List.set_cons_zero, sC]
  refine rdA 7 4 rfl fun K hK => ?_
  go_simp
  refine Calls.mono (onto (s3 hSw) (len_t (i := 0) (by omega) (s3 hSw).h)) ?_
  rintro e wv ⟨rfl, hbv⟩
  refine hK.out _ _ (b3 HMO.out hbv) (fun hSw => ?_)
  clear hK K
  simp only [sA, List.set_cons_zero, sC]
  refine rdA 6 9 rfl fun K hK => ?_
  go_simp
  refine Calls.mono (parts_c hm1 hm2 _) ?_
  rintro e wv ⟨rfl, o, rfl⟩
  refine hK.out _ _ (b3A HMO.out hSw o) (fun hSw => ?_)
  clear hK K
  simp only [sA, List.set_cons_zero, sC]
  refine tkA 10 40 5 ?_ rfl rfl ?_ hSw ?_
  rotate_left
  ·intro wx hSx; (try dsimp only at hSx); go_split_ands; go_simp; (try with_reducible rfl)
  simp only [sA, List.set_cons_zero, sC]
  refine tkA 11 41 4 ?_ rfl rfl ?_ hSw ?_
  rotate_left
  ·intro wx hSx; (try dsimp only at hSx); go_split_ands; go_simp; (try with_reducible rfl)
  simp only [sA, List.set_cons_zero, sC]
  refine tkA 12 42 3 ?_ rfl rfl ?_ hSw ?_
  rotate_left
  ·intro wx hSx; (try dsimp only at hSx); go_split_ands; go_simp; (try with_reducible rfl)
  simp only [sA, List.set_cons_zero, sC]
  refine take_at 13 43 undef (fuel := 2) rfl rfl (by kernel_rfl) (by kernel_rfl) (by kernel_rfl) (Or.inr ⟨by rfl, rfl⟩) hSw ?_
  simp only [sA, List.set_cons_zero, sC]
  refine take_at 14 44 undef (fuel := 1) rfl rfl (by kernel_rfl) (by kernel_rfl) (by kernel_rfl) (Or.inr ⟨by rfl, rfl⟩) hSw ?_
  simp only [sA, List.set_cons_zero, sC]
  refine tkA 15 45 0 ?_ rfl rfl ?_ hSw ?_
  rotate_left
  ·intro wx hSx; (try dsimp only at hSx); go_split_ands; go_simp; (try with_reducible rfl)
  simp only [sA, List.set_cons_zero, sC]
  refine wpAnyH_done (by kernel_rfl) ⟨rfl, ?_⟩ 0
  have hx := s3 hSw
  have hS5 := hS.trans hx.s
  clear hSw c0 c1 c2 hd
  go_wp2_with fail
  refine (leave_c hF hx.h).mono ?_
  rintro e w5 ⟨val, m5, rfl, h5, hS6, hT⟩
  go_wp2_with fail
  go_ret
  obtain ⟨q1, q2⟩ := HQ.out
  rw [q1, q2]
  exact ⟨_, m5, rfl, h5, hS5.trans hS6, hT.low hS5.kp.size⟩
theorem insertT_c (hk : k.length ≤ maxLen) (hok : v.Ok) (h : HeldT w0 A B P w m v) :
  Calls Tryz.prog 244 #[.pointer (some ⟨A, 0, none⟩), .string (str k)] w fun e w' => ∃ val m', e = .returned val ∧ HeldT w0 A B P w' m' (v.insert k) ∧ StepT B w m w' m' ∧ Tell w.heap.size B m' val (v.insertK k) w' := by
 unfold Tv.insert Tv.insertK
 by_cases hl : 64 < k.length
 ·rw [if_pos hl, if_pos hl]
  have hm := made_c h
  have HH := Lib.hid h
  have hsz := str_size k
  clear h
  unfold maxLen at hk
  go_enter Tryz.func244, Tryz.ntmps244
  go_wp2_with fail
  refine hm.mono ?_
  rintro e w' ⟨rfl, rfl⟩
  go_wp2_with fail
  go_ret
  exact ⟨_, rfl, m, HH.out, StepT.refl _ _ _, Tell.nil _ _ _ _⟩
 ·rw [if_neg hl, if_neg hl]
  unfold Tv.ins Tv.insK
  by_cases hh : v.has k = true
  ·rw [if_pos hh, if_pos hh]
   have hm := made_c h
   have hsz := str_size k
   have ht := touchT_c hk hok h
   rw [hh] at ht
   clear h hh hok
   generalize v.touch k = s at *
   go_enter Tryz.func244, Tryz.ntmps244
   go_wp2_with fail
   refine hm.mono ?_
   rintro e w' ⟨rfl, rfl⟩
   go_wp2_with fail
   refine ht.mono ?_
   rintro e w2 ⟨rfl, m2, h2, hS2⟩
   go_wp2_with fail
   go_ret
   exact ⟨_, m2, rfl, h2, hS2, Tell.nil _ _ _ _⟩
  ·rw [if_neg hh, if_neg hh]
   rw [Bool.not_eq_true] at hh
   exact insert_new (by omega) hh hok h
end

theorem Held.low {w0 w1 w : World} {P : Nat} {m : Rm} {r : Rg} (h : Held w1 P w m r) (hb : Below w0.heap.size w0 w1) : Held w0 P w m r :=
 ⟨h.R, h.at_, hb.trans (h.below.mono hb.size), fun b ho => Nat.le_trans hb.size (h.own b ho)⟩
set_option maxHeartbeats 1000000 in
theorem newT_c {n seed : Nat} (h1 : 1 ≤ n) (h2 : n ≤ 1000) (h3 : seed < 18446744073709551616) (w : World) :
  Calls Tryz.prog 66 #[.int .i64 n, .int .u64 seed] w fun e w' => ∃ A m, e = .returned (.tuple #[.pointer (some ⟨A, 0, none⟩), .int .i64 0]) ∧ HeldT w A w.heap.size (w.heap.size + 8) w' m (Tv.new n seed) := by
 have hmk := fun W => mayKeep_yes h1 h2 W
 have hwd := wideOf_le h1
 have hwi : ∀ W, Calls Tryz.prog 98 #[.int .i64 n] W fun e w' => e = .returned (.int .i64 (wideOf n : Int)) ∧ W = w' := fun W => by
  have hw : wideOf n = min (8 * n) 4096 := rfl
  have HW := Lib.hid hw
  clear hw hwd
  generalize wideOf n = z at *
  go_enter Tryz.func98, Tryz.ntmps98
  go_wp2_with fail
  all_goals
   go_ret
   refine ⟨congrArg Ending.returned (congrArg (Value.int .i64) ?_), rfl⟩
   have := HW.out
   omega
 have hpl : ∀ W, Calls Tryz.prog 99 #[.int .i64 n] W fun e w' => e = .returned (.int .i64 ((n + 1 : Nat) : Int)) ∧ W = w' := fun W => by
  go_enter Tryz.func99, Tryz.ntmps99
  go_wp2_with fail
  go_ret
  exact ⟨by simp, rfl⟩
 have hs := Sketchy.new_c (n := wideOf n) (seed := seed) hwd.1 hwd.2 w
 have hN := fun W => new_h (n := 3) (places := n + 1) (by omega) (by omega) (by omega) W
 have hok := Tv.new_ok h1 h2 h3
 go_enter Tryz.func66, Tryz.ntmps66
 go_wp2_with fail
 refine (hmk _).mono ?_
 rintro e w' ⟨rfl, rfl⟩
 go_wp2_with fail
 refine (hwi _).mono ?_
 rintro e w' ⟨rfl, rfl⟩
 go_wp2_with fail
 refine hs.mono ?_
 rintro e w1 ⟨rfl, hA, hb1, hz1⟩
 go_wp2_with fail
 refine (hpl _).mono ?_
 rintro e w' ⟨rfl, rfl⟩
 go_wp2_with fail
 refine (hN _).mono ?_
 rintro e w2 ⟨rfl, m, hH⟩
 go_wp2_with fail
 go_ret2
 have hz2 := hH.below.size
 have hH1 := Held.low hH hb1
 have e8 : w1.heap.size + 2 = w.heap.size + 8 := by omega
 rw [e8] at hH1
 have hH2 := hH1.alloc (.cells #[.int .i64 n, .pointer (some ⟨w.heap.size + 1, 0, none⟩), .pointer (some ⟨w.heap.size + 6 + 2, 0, none⟩)] 177)
 have hlt := hH.lt
 have hown := hH.own
 refine ⟨w2.heap.size, m, rfl, hH2, (at_six hA (fun b hb => hH.below.block b (by have := hb.2; omega))).alloc _, Blk.new w2 _ _, by omega, Nat.le_refl _, fun ho => by have := hlt _ ho; omega, fun b hb => ⟨by have := hb.2; omega, fun ho => by have := hown b ho; have := hb.2; omega⟩, hok.fit⟩
end Go.Proofs.YtkiabladmgagdabGreatDoor.Tinyy
namespace Go.Proofs.YtkiabladmgagdabGreatDoor.Tinyy
open Go.ChangeShapes Go.WideShapes Go.ChangeAt Go.RowKit
open Wirey (Blk Row str str_size str_list str_take Kp)
open Ringy
open Sketchy (Sk ksOf ksOf_lt Six upRow)

section
variable {s : Sk} {ks ks' : Nat → Nat} {m : Nat}
end
section
variable {v : Tv} {seed n : Nat} {k x : Key} {m : Nat}
end
section
variable {v : Tv} {a b c : List Key} {k : Key}
end
section
variable {w : World} {base B : Nat} {m : Rm} {val : Value} {k : Key} {l : List Key}
end
def fewL (l : List UInt8) : List UInt8 := if 80 < l.length then l.take 80 else l
end Go.Proofs.YtkiabladmgagdabGreatDoor.Tinyy
