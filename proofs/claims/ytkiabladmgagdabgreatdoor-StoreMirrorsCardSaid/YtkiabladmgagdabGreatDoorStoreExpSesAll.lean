/- The program's cache: which may be, and a new one; what there is not. The only condition: numbers are of 64 bits. The laws' own beginning (awake): it is true. No condition. The program's cache tells what sessions were told as bytes. The only condition: there are at most twelve of them. -/
import Derived.Test.YtkiabladmgagdabGreatDoorStoreEntAll
import Derived.Test.YtkiabladmgagdabGreatDoorStoreLocAll
import Derived.Test.YtkiabladmgagdabGreatDoorTabMoveAll
import Derived.Test.YtkiabladmgagdabGreatDoorOpPutAll
import Derived.Test.YtkiabladmgagdabGreatDoorSq
namespace Go.Proofs.YtkiabladmgagdabGreatDoor.Storey
open Go.ChangeShapes Go.WideShapes Go.ChangeAt Go.RowKit
open Wirey (Blk Row str str_size str_list str_cat Kp)
open Taby (En TabAt Tbl tp find ins drop size ended St)
open Policyy (Pv HeldP StepP Tell)
open Ringy (Key)
open Regy

section
variable {w0 w w' w'' : World} {B b T M C S : Nat} {H H' : Nat → Prop} {s t : Sv} {k : Key} {v : Value} {l : List Key} {o : Opn} {x : Rcd}
def mayB (k n bytes : Int) : Bool := (decide (k = 1) || decide (k = 2)) && decide (1 ≤ n) && decide (n ≤ 1000) && decide (1 ≤ bytes) && decide (bytes ≤ 1048576)
set_option maxHeartbeats 4000000 in
set_option maxRecDepth 100000 in
theorem check_c (k n bytes seed : Int) (w : World) : Calls Tryz.prog 32 #[.agg #[.int .i64 k, .int .i64 n, .int .i64 bytes, .int .u64 seed]] w fun e w' => e = .returned (.bool (mayB k n bytes)) ∧ Below w.heap.size w w' := by
 have hb := (Below.refl _ w).alloc (Nat.le_refl _) (.cells #[.int .i64 k, .int .i64 n, .int .i64 bytes, .int .u64 seed] 24)
 have HB := Lib.hid hb
 clear hb
 unfold mayB
 by_cases k1 : k = 1
 ·subst k1
  have e0 : decide ((1 : Int) = 1) = true := rfl
  rw [e0]
  by_cases a0 : 1 ≤ n
  case neg =>
   have da0 : decide (1 ≤ n) = false := decide_eq_false a0
   rw [da0]
   simp only [Bool.and_false, Bool.false_and]
   go_enter Tryz.func32, Tryz.ntmps32
   go_wp2_with fail
   go_ret
   exact ⟨rfl, HB.out⟩
  have da0 : decide (1 ≤ n) = true := decide_eq_true a0
  by_cases a1 : n ≤ 1000
  case neg =>
   have da1 : decide (n ≤ 1000) = false := decide_eq_false a1
   rw [da1]
   simp only [Bool.and_false, Bool.false_and]
   go_enter Tryz.func32, Tryz.ntmps32
   go_wp2_with fail
   go_ret
   exact ⟨rfl, HB.out⟩
  have da1 : decide (n ≤ 1000) = true := decide_eq_true a1
  by_cases a2 : 1 ≤ bytes
  case neg =>
   have da2 : decide (1 ≤ bytes) = false := decide_eq_false a2
   rw [da2]
   simp only [Bool.and_false, Bool.false_and]
   go_enter Tryz.func32, Tryz.ntmps32
   go_wp2_with fail
   go_ret
   exact ⟨rfl, HB.out⟩
  have da2 : decide (1 ≤ bytes) = true := decide_eq_true a2
  by_cases a3 : bytes ≤ 1048576
  case neg =>
   have da3 : decide (bytes ≤ 1048576) = false := decide_eq_false a3
   rw [da3]
   simp only [Bool.and_false]
   go_enter Tryz.func32, Tryz.ntmps32
   go_wp2_with fail
   go_ret
   exact ⟨rfl, HB.out⟩
  have da3 : decide (bytes ≤ 1048576) = true := decide_eq_true a3
  rw [da0, da1, da2, da3]
  simp only [Bool.and_true, Bool.true_or]
  go_enter Tryz.func32, Tryz.ntmps32
  go_wp2_with fail
  go_ret
  exact ⟨rfl, HB.out⟩
 have e1 : (k == 1) = false := beq_eq_false_iff_ne.2 k1
 have f1 : decide (k = 1) = false := decide_eq_false k1
 by_cases k2 : k = 2
 ·subst k2
  rw [f1]
  have e0 : decide ((2 : Int) = 2) = true := rfl
  rw [e0]
  by_cases a0 : 1 ≤ n
  case neg =>
   have da0 : decide (1 ≤ n) = false := decide_eq_false a0
   rw [da0]
   simp only [Bool.and_false, Bool.false_and]
   go_enter Tryz.func32, Tryz.ntmps32
   go_wp2_with fail
   go_ret
   exact ⟨rfl, HB.out⟩
  have da0 : decide (1 ≤ n) = true := decide_eq_true a0
  by_cases a1 : n ≤ 1000
  case neg =>
   have da1 : decide (n ≤ 1000) = false := decide_eq_false a1
   rw [da1]
   simp only [Bool.and_false, Bool.false_and]
   go_enter Tryz.func32, Tryz.ntmps32
   go_wp2_with fail
   go_ret
   exact ⟨rfl, HB.out⟩
  have da1 : decide (n ≤ 1000) = true := decide_eq_true a1
  by_cases a2 : 1 ≤ bytes
  case neg =>
   have da2 : decide (1 ≤ bytes) = false := decide_eq_false a2
   rw [da2]
   simp only [Bool.and_false, Bool.false_and]
   go_enter Tryz.func32, Tryz.ntmps32
   go_wp2_with fail
   go_ret
   exact ⟨rfl, HB.out⟩
  have da2 : decide (1 ≤ bytes) = true := decide_eq_true a2
  by_cases a3 : bytes ≤ 1048576
  case neg =>
   have da3 : decide (bytes ≤ 1048576) = false := decide_eq_false a3
   rw [da3]
   simp only [Bool.and_false]
   go_enter Tryz.func32, Tryz.ntmps32
   go_wp2_with fail
   go_ret
   exact ⟨rfl, HB.out⟩
  have da3 : decide (bytes ≤ 1048576) = true := decide_eq_true a3
  rw [da0, da1, da2, da3]
  simp only [Bool.and_true, Bool.or_true]
  go_enter Tryz.func32, Tryz.ntmps32
  go_wp2_with fail
  go_ret
  exact ⟨rfl, HB.out⟩
 have e2 : (k == 2) = false := beq_eq_false_iff_ne.2 k2
 have f2 : decide (k = 2) = false := decide_eq_false k2
 rw [f1, f2]
 simp only [Bool.or_false, Bool.false_and]
 go_enter Tryz.func32, Tryz.ntmps32
 go_wp2_with fail
 go_ret
 exact ⟨rfl, HB.out⟩
theorem new_at {W : World} {p : Pv} {D : DataW Unit} (hp : HeldP w0 C W p H) (hT : TabAt W T M []) (hS : SesAt W S [] D) (ep : s.p = p) (em : s.m = []) (es : s.ss = []) (lT : w0.heap.size ≤ T) (lM : w0.heap.size ≤ M) (lS : w0.heap.size ≤ S) (ST : S ≠ T) (SM : S ≠ M) (HT : ¬ H T) (HM : ¬ H M) (HS : ¬ H S) :
  At w0 (W.alloc (.cells (s.cells T C S) 61)) W.heap.size T M C S H s := by
 have hb := (Below.refl _ W).alloc (Nat.le_refl _) (.cells (s.cells T C S) 61)
 have l1 := hT.hd.lt
 have l2 := hT.ltM
 have l3 := hS.mp.lt
 subst ep
 exact ⟨Blk.new _ _ _, by rw [em]; exact hT.below hb, hp.alloc _, ⟨D, by rw [es]; exact hS.stay (hb.block _ l3)⟩, hp.below.size, lT, lM, lS, by omega, by omega, by omega, ST, SM, fun h => by have := (hp.own _ h).2; omega, HT, HM, HS⟩
set_option maxHeartbeats 4000000 in
set_option maxRecDepth 100000 in
theorem newS_c {kind n bytes seed : Nat} (hk : kind = 1 ∨ kind = 2) (h1 : 1 ≤ n) (h2 : n ≤ 1000) (b1 : 1 ≤ bytes) (b2 : bytes ≤ 1048576) (h3 : seed < 18446744073709551616) (w : World) :
  Calls Tryz.prog 13 #[.agg #[.int .i64 kind, .int .i64 n, .int .i64 bytes, .int .u64 seed]] w fun e w' => ∃ b T M C S H, e = .returned (.tuple #[tp b, .int .i64 0]) ∧ At w w' b T M C S H (Sv.new kind n bytes seed) := by
 have hm : mayB kind n bytes = true := by
  unfold mayB
  simp only [Bool.and_eq_true, Bool.or_eq_true, decide_eq_true_eq]
  omega
 have hc := fun W => check_c kind n bytes seed W
 rw [hm] at hc
 have hb0 := (Below.refl _ w).alloc (Nat.le_refl _) (.cells #[.int .i64 kind, .int .i64 n, .int .i64 bytes, .int .u64 seed] 24)
 have hL0 := Blk.new w 24 #[.int .i64 kind, .int .i64 n, .int .i64 bytes, .int .u64 seed]
 go_enter Tryz.func13, Tryz.ntmps13
 go_upto_region 1 with (fail)
 generalize w.alloc (.cells #[.int .i64 kind, .int .i64 n, .int .i64 bytes, .int .u64 seed] 24) = w1 at *
 have hqw : w.heap.size ≤ w.heap.size := Nat.le_refl _
 generalize hq : w.heap.size = q at hL0 hqw ⊢
 have c0 : w1.cell? ⟨q, 0, none⟩ = some (.int .i64 kind) := hL0.cell 0
 have c1 : w1.cell? ⟨q, 1, none⟩ = some (.int .i64 n) := hL0.cell 1
 have c2 : w1.cell? ⟨q, 2, none⟩ = some (.int .i64 bytes) := hL0.cell 2
 have c3 : w1.cell? ⟨q, 3, none⟩ = some (.int .u64 seed) := hL0.cell 3
 go_wp2_with fail
 refine (hc _).mono ?_
 rintro e w2 ⟨rfl, hb2⟩
 replace hL0 := hL0.below hb2 hL0.lt
 have hb2' := hb0.trans (hb2.mono hb0.size)
 clear c0 c1 c2 c3 hb2 hb0 hc
 have c0 : w2.cell? ⟨q, 0, none⟩ = some (.int .i64 kind) := hL0.cell 0
 have c1 : w2.cell? ⟨q, 1, none⟩ = some (.int .i64 n) := hL0.cell 1
 have c3 : w2.cell? ⟨q, 3, none⟩ = some (.int .u64 seed) := hL0.cell 3
 go_wp2_with fail
 refine (Policyy.newP_c hk h1 h2 h3 w2).mono ?_
 rintro e w3 ⟨C, H, rfl, hp⟩
 have hq2 : q < w2.heap.size := hL0.lt
 replace hL0 := hL0.below hp.below hL0.lt
 replace hp := hp.low hb2'
 have hps := hp.own
 clear c0 c1 c3
 go_upto_region 6 with (fail)
 have mk : ∀ W, Blk W q 24 #[.int .i64 kind, .int .i64 n, .int .i64 bytes, .int .u64 seed] → W.cell? ⟨q, 0, none⟩ = some (.int .i64 kind) ∧ W.cell? ⟨q, 1, none⟩ = some (.int .i64 n) ∧ W.cell? ⟨q, 2, none⟩ = some (.int .i64 bytes) ∧ W.cell? ⟨q, 3, none⟩ = some (.int .u64 seed) := fun W h => ⟨h.cell 0, h.cell 1, h.cell 2, h.cell 3⟩
 have hwl : w.heap.size ≤ w3.heap.size := hp.below.size
 refine region_only 8 #[false, false, false, false, false, false, false, false] (S := fun W => W.cell? ⟨q, 0, none⟩ = some (.int .i64 kind) ∧ W.cell? ⟨q, 1, none⟩ = some (.int .i64 n) ∧ W.cell? ⟨q, 2, none⟩ = some (.int .i64 bytes) ∧ W.cell? ⟨q, 3, none⟩ = some (.int .u64 seed)) rfl rfl (by kernel_rfl) (mk _ (show Blk w3.drew q _ _ from hL0)) (fun hSw => ?_)
 replace hp := hp.drewN 1
 replace hps : ∀ b, H b → w.heap.size ≤ b ∧ b < w3.drew.heap.size := hps
 replace hwl : w.heap.size ≤ w3.drew.heap.size := hwl
 replace hL0 : Blk w3.drew q _ _ := hL0
 change HeldP w C w3.drew _ H at hp
 generalize w3.drew = w4 at *
 refine tkA 0 22 7 ?_ rfl rfl ?_ hSw ?_
 rotate_left
 ·intro wx hSx; (try dsimp only at hSx); go_split_ands; go_simp; (try with_reducible rfl)
 simp only [sA, List.set_cons_zero, sC]
 refine tkA 2 24 6 ?_ rfl rfl ?_ hSw ?_
 rotate_left
 ·intro wx hSx; (try dsimp only at hSx); go_split_ands; go_simp; (try with_reducible rfl)
 simp only [sA, List.set_cons_zero, sC]
 refine wpAnyH_ready (fuel := 5) (rs := [1, 3]) (by kernel_rfl) (by simp) (AllReadyH.cons rfl (fun K hK => ?_) (AllReadyH.cons rfl (fun K hK => ?_) AllReadyH.nil))
 ·go_simp
  refine (Taby.new_c _).mono ?_
  rintro e wv ⟨P, T, rfl, ⟨M, hT, -, hTl, hMl⟩, hbv⟩
  have hLv := hL0.below hbv hL0.lt
  have hpv := hp.later hbv (Nat.le_refl _)
  refine hK.out _ _ (mk _ hLv) (fun hSw => ?_)
  clear hK K
  simp only [sA, List.set_cons_zero, sC]
  refine rdA 4 3 rfl fun K hK => ?_
  go_simp
  have hts := hT.hd.lt
  have htm := hT.ltM
  have hL2 := hLv.alloc (.map #[] 0)
  have hp2 := hpv.alloc (.map #[] 0)
  have hs2 := SesAt.new wv
  have hT2 := hT.below ((Below.refl _ wv).alloc (Nat.le_refl _) (.map #[] 0))
  refine hK.out _ _ (mk _ hL2) (fun hSw => ?_)
  clear hK K
  simp only [sA, List.set_cons_zero, sC]
  refine tkA 4 26 3 ?_ rfl rfl ?_ hSw ?_
  rotate_left
  ·intro wx hSx; (try dsimp only at hSx); go_split_ands; go_simp; (try with_reducible rfl)
  simp only [sA, List.set_cons_zero, sC]
  refine rdA 2 5 rfl fun K hK => ?_
  go_simp
  have hAt := new_at (s := Sv.new kind n bytes seed) hp2 hT2 hs2 rfl rfl rfl (by omega) (by omega) (by have := hbv.size; omega) (by omega) (by omega) (fun h => by have := (hps _ h).2; omega) (fun h => by have := (hps _ h).2; omega) (fun h => by have := (hps _ h).2; have := hbv.size; omega)
  rw [show (wv.alloc (.map #[] 0)).heap.size = wv.heap.size + 1 by simp] at hAt
  refine hK.out _ _ (mk _ (hL2.alloc _)) (fun hSw => ?_)
  clear hK K
  simp only [sA, List.set_cons_zero, sC]
  refine tkA 6 2 1 ?_ rfl rfl ?_ hSw ?_
  rotate_left
  ·intro wx hSx; (try dsimp only at hSx); go_split_ands; go_simp; (try with_reducible rfl)
  simp only [sA, List.set_cons_zero, sC]
  refine tkA 7 3 0 ?_ rfl rfl ?_ hSw ?_
  rotate_left
  ·intro wx hSx; (try dsimp only at hSx); go_split_ands; go_simp; (try with_reducible rfl)
  simp only [sA, List.set_cons_zero, sC]
  refine wpAnyH_done (by kernel_rfl) ⟨rfl, ?_⟩ 0
  go_wp2_with fail
  go_ret2
  exact ⟨_, _, _, _, _, _, rfl, hAt⟩
 ·go_simp
  have hL2 := hL0.alloc (.map #[] 0)
  have hp2 := hp.alloc (.map #[] 0)
  have hs2 := SesAt.new w4
  refine hK.out _ _ (mk _ hL2) (fun hSw => ?_)
  clear hK K
  simp only [sA, List.set_cons_zero, sC]
  refine rdA 4 1 rfl fun K hK => ?_
  go_simp
  refine (Taby.new_c _).mono ?_
  rintro e wv ⟨P, T, rfl, ⟨M, hT, -, hTl, hMl⟩, hbv⟩
  have hLv := hL2.below hbv hL2.lt
  have hpv := hp2.later hbv (Nat.le_refl _)
  have hsv := hs2.stay (hbv.block _ (by simp))
  have hts := hT.hd.lt
  have htm := hT.ltM
  simp only [World.size_alloc] at hTl hMl
  refine hK.out _ _ (mk _ hLv) (fun hSw => ?_)
  clear hK K
  simp only [sA, List.set_cons_zero, sC]
  refine tkA 4 26 3 ?_ rfl rfl ?_ hSw ?_
  rotate_left
  ·intro wx hSx; (try dsimp only at hSx); go_split_ands; go_simp; (try with_reducible rfl)
  simp only [sA, List.set_cons_zero, sC]
  refine rdA 2 5 rfl fun K hK => ?_
  go_simp
  have hAt := new_at (s := Sv.new kind n bytes seed) hpv hT hsv rfl rfl rfl (by omega) (by omega) (by omega) (by omega) (by omega) (fun h => by have := (hps _ h).2; omega) (fun h => by have := (hps _ h).2; omega) (fun h => by have := (hps _ h).2; omega)
  refine hK.out _ _ (mk _ (hLv.alloc _)) (fun hSw => ?_)
  clear hK K
  simp only [sA, List.set_cons_zero, sC]
  refine tkA 6 2 1 ?_ rfl rfl ?_ hSw ?_
  rotate_left
  ·intro wx hSx; (try dsimp only at hSx); go_split_ands; go_simp; (try with_reducible rfl)
  simp only [sA, List.set_cons_zero, sC]
  refine tkA 7 3 0 ?_ rfl rfl ?_ hSw ?_
  rotate_left
  ·intro wx hSx; (try dsimp only at hSx); go_split_ands; go_simp; (try with_reducible rfl)
  simp only [sA, List.set_cons_zero, sC]
  refine wpAnyH_done (by kernel_rfl) ⟨rfl, ?_⟩ 0
  go_wp2_with fail
  go_ret2
  exact ⟨_, _, _, _, _, _, rfl, hAt⟩
end
end Go.Proofs.YtkiabladmgagdabGreatDoor.Storey
namespace Go.Proofs.YtkiabladmgagdabGreatDoor.Storey
open Go.ChangeShapes Go.WideShapes Go.ChangeAt Go.RowKit
open Wirey (Blk Row str str_size str_list str_cat Kp)
open Taby (En TabAt Tbl tp find ins drop size ended St)
open Policyy (Pv HeldP StepP Tell)
open Ringy (Key)
open Regy

section
variable {w0 w w' w'' : World} {B b T M C S : Nat} {H H' : Nat → Prop} {s t : Sv} {k : Key} {v : Value} {l : List Key} {o : Opn} {x : Rcd}
def aw0 : Sv := Sv.new 1 2 100 0
def aw1 : Rcd := ⟨1, 0, 1, 1, ⟨2, [107], [118], 0, 0⟩⟩
def aw2 : Rcd := ⟨2, 0, 1, 2, ⟨1, [107], [], 0, 0⟩⟩
theorem aw1_ok : aw1.Ok := ⟨by decide, by decide, by decide, by decide, by decide, by decide, by decide, by decide⟩
theorem aw2_ok : aw2.Ok := ⟨by decide, by decide, by decide, by decide, by decide, by decide, by decide, by decide⟩
theorem aw0_ok : aw0.Ok := Sv.new_ok (.inl rfl) (by decide) (by decide) (by decide) (by decide) (by decide)
theorem aw1_is : (aw0.apply aw1).2 = (⟨0, [], 1⟩, 0) := by rfl
theorem aw2_is : ((aw0.apply aw1).1.apply aw2).2 = (⟨0, [118], 1⟩, 0) := by rfl
theorem aw2_seq : ((aw0.apply aw1).1.apply aw2).1.seq = 2 := by rfl
theorem aw2_m : ((aw0.apply aw1).1.apply aw2).1.m.length = 1 := by rfl
set_option maxHeartbeats 4000000 in
set_option maxRecDepth 100000 in
theorem apply1_a {s t : Sv} {r : Rep} {n : Nat} (hO : s.Ok) (hx : x.Ok) (ht : (s.apply x).1 = t) (hr : (s.apply x).2 = (r, n)) (h : At w0 w b T M C S H s) :
  Calls Tryz.prog 11 #[tp b, .agg x.cs] w fun e w' => e = .returned (.tuple #[.agg r.cs, .int .i64 n]) ∧ ∃ H', At w0 w' b T M C S H' t ∧ Stp b T M S w H w' H' := by
 have := apply_s hO hx h
 rw [hr, ht] at this
 exact this
set_option maxHeartbeats 4000000 in
set_option maxRecDepth 100000 in
theorem awake_c (w : World) : Calls Tryz.prog 8 #[] w fun e w' => e = .returned (.bool true) ∧ Below w.heap.size w w' := by
 have hN := newS_c (kind := 1) (n := 2) (bytes := 100) (seed := 0) (.inl rfl) (by omega) (by omega) (by omega) (by omega) (by omega) w
 have h1k := (aw0_ok.apply aw1_ok).1
 have h2k := (h1k.apply aw2_ok).1
 generalize ht1 : (aw0.apply aw1).1 = t1 at *
 have hr2 : (t1.apply aw2).2 = (⟨0, [118], 1⟩, 0) := by rw [← ht1]; exact aw2_is
 have hs2 : (t1.apply aw2).1.seq = 2 := by rw [← ht1]; exact aw2_seq
 have hm2 : (t1.apply aw2).1.m.length = 1 := by rw [← ht1]; exact aw2_m
 generalize ht2 : (t1.apply aw2).1 = t2 at *
 have hA1 : ∀ {w0 w : World} {b T M C S : Nat} {H : Nat → Prop}, At w0 w b T M C S H aw0 → Calls Tryz.prog 11 #[tp b, .agg #[.int .u64 1, .int .u64 0, .int .u64 1, .int .u64 1, .int .i64 2, .string ⟨#[107]⟩, .string ⟨#[118]⟩, .int .u64 0, .int .u64 0]] w fun e w' => e = .returned (.tuple #[.agg #[.int .i64 0, .string ⟨#[]⟩, .int .u64 1], .int .i64 0]) ∧ ∃ H', At w0 w' b T M C S H' t1 ∧ Stp b T M S w H w' H' := fun h => apply1_a aw0_ok aw1_ok ht1 aw1_is h
 have hA2 : ∀ {w0 w : World} {b T M C S : Nat} {H : Nat → Prop}, At w0 w b T M C S H t1 → Calls Tryz.prog 11 #[tp b, .agg #[.int .u64 2, .int .u64 0, .int .u64 1, .int .u64 2, .int .i64 1, .string ⟨#[107]⟩, .string ⟨#[]⟩, .int .u64 0, .int .u64 0]] w fun e w' => e = .returned (.tuple #[.agg #[.int .i64 0, .string ⟨#[118]⟩, .int .u64 1], .int .i64 0]) ∧ ∃ H', At w0 w' b T M C S H' t2 ∧ Stp b T M S w H w' H' := fun h => apply1_a h1k aw2_ok ht2 hr2 h
 have HN : Hid (Calls Tryz.prog 13 #[.agg #[.int .i64 1, .int .i64 2, .int .i64 100, .int .u64 0]] w fun e w' => ∃ b T M C S H, e = .returned (.tuple #[tp b, .int .i64 0]) ∧ At w w' b T M C S H aw0) := Lib.hid hN
 have hlen2 := h2k.toBase.len.2
 have hn2 := h2k.n2
 clear ht1 ht2 hr2 h1k hN
 go_enter Tryz.func8, Tryz.ntmps8
 go_wp2_with fail
 refine HN.out.mono ?_
 rintro e w1 ⟨b, T, M, C, S, H, rfl, h1⟩
 clear HN
 go_wp2_with fail
 refine (hA1 h1).mono ?_
 rintro e w2 ⟨rfl, H2, h2, s2⟩
 have hl2 := Loc.new h2 45 #[.int .i64 0, .string ⟨#[]⟩, .int .u64 1]
 replace h2 := h2.alloc (.cells #[.int .i64 0, .string ⟨#[]⟩, .int .u64 1] 45)
 clear hA1 h1 s2
 go_upto_region 3 with (fail)
 generalize w2.alloc (.cells #[.int .i64 0, .string ⟨#[]⟩, .int .u64 1] 45) = w3 at *
 generalize w2.heap.size = p at *
 go_wp2_with fail
 refine (hA2 h2).mono ?_
 rintro e w4 ⟨rfl, H4, h4, s4⟩
 have hl4 := (hl2.step s4).alloc (.cells #[.int .i64 0, .string ⟨#[118]⟩, .int .u64 1] 45)
 have hq4 := Loc.new h4 45 #[.int .i64 0, .string ⟨#[118]⟩, .int .u64 1]
 replace h4 := h4.alloc (.cells #[.int .i64 0, .string ⟨#[118]⟩, .int .u64 1] 45)
 clear hA2 h2 s4 hl2
 go_upto_region 4 with (fail)
 generalize w4.alloc (.cells #[.int .i64 0, .string ⟨#[118]⟩, .int .u64 1] 45) = w5 at *
 generalize w4.heap.size = q at *
 have x2 : w5.cell? ⟨p, 2, none⟩ = some (.int .u64 1) := hl4.c rfl
 have x1 : w5.cell? ⟨q, 1, none⟩ = some (.string ⟨#[118]⟩) := hq4.c rfl
 have hsq := seq_s h4
 rw [hs2] at hsq
 have hsq2 : Calls Tryz.prog 10 #[tp b] w5 fun e w' => e = .returned (.int .u64 2) ∧ w5 = w' := hsq
 clear hsq
 have hen := entries_s (by omega) h4
 have hbel := h4.since
 go_wp2_with fail
 refine hsq2.mono ?_
 rintro e w6 ⟨rfl, rfl⟩
 go_wp2_with fail
 refine hen.mono ?_
 rintro e w7 ⟨v, rfl, hsl, hb7⟩
 obtain ⟨va, vc, rfl⟩ := hsl.form
 rw [hm2]
 go_wp2_with fail
 go_ret
 exact ⟨rfl, hbel.trans (hb7.mono hbel.size)⟩
end
end Go.Proofs.YtkiabladmgagdabGreatDoor.Storey
namespace Go.Proofs.YtkiabladmgagdabGreatDoor.Storey
open Go.ChangeShapes Go.WideShapes Go.ChangeAt Go.RowKit Go.ChangeMaps Go.Maps
open Wirey (Blk Row str str_size str_list str_cat Kp Bld Kb bws_y bstr_y enc enc_len txt num_c text_c)
open Numsy (Nums)
open Taby (En TabAt Tbl tp find ins drop size ended)
open Policyy (Pv HeldP StepP Tell)
open Ringy (Key)

def oneS (x : Ses) : List UInt8 := enc x.id ++ (enc x.num ++ Opy.replyB x.rep.e x.rep.val x.rep.ver)
def bodyS : List Ses → List UInt8
 | [] => []
 | x :: l => oneS x ++ bodyS l
def allS (l : List Ses) : List UInt8 := enc l.length ++ bodyS l
theorem bodyS_snoc : ∀ (l : List Ses) (x : Ses), bodyS (l ++ [x]) = bodyS l ++ oneS x
 | [], x => by simp [bodyS]
 | y :: l, x => by rw [List.cons_append, bodyS, bodyS_snoc l x, bodyS, List.append_assoc]
theorem rep_len {r : Rep} (h : r.Ok) : (Opy.replyB r.e r.val r.ver).length ≤ 4200 := by
 obtain ⟨h1, h2, h3⟩ := h
 have l1 := enc_len (n := r.e) (by omega)
 have l2 := enc_len (n := r.val.length) (by omega)
 have l3 := enc_len (n := r.ver) h3
 unfold Opy.replyB txt
 simp only [List.length_append]
 omega
theorem oneS_len {x : Ses} (h : x.Ok) : (oneS x).length ≤ 4300 := by
 have l1 := enc_len h.id
 have l2 := enc_len h.num
 have l3 := rep_len h.rep
 unfold oneS
 simp only [List.length_append]
 omega
theorem bodyS_len : ∀ {l : List Ses}, (∀ x ∈ l, x.Ok) → (bodyS l).length ≤ l.length * 4300
 | [], _ => Nat.zero_le _
 | x :: l, h => by
  have h1 := oneS_len (h x List.mem_cons_self)
  have ih := bodyS_len fun y hy => h y (List.mem_cons_of_mem _ hy)
  rw [bodyS, List.length_append, List.length_cons]
  omega
theorem sorted_ext : ∀ {a b : List Nat}, a.Pairwise (· < ·) → b.Pairwise (· < ·) → (∀ x, x ∈ a ↔ x ∈ b) → a = b
 | [], [], _, _, _ => rfl
 | [], y :: b, _, _, h => by have := (h y).2 List.mem_cons_self; simp at this
 | x :: a, [], _, _, h => by have := (h x).1 List.mem_cons_self; simp at this
 | x :: a, y :: b, ha, hb, h => by
  rw [List.pairwise_cons] at ha hb
  have exy : x = y := by
   have h1 := (h x).1 List.mem_cons_self
   have h2 := (h y).2 List.mem_cons_self
   rcases List.mem_cons.1 h1 with e | h1
   ·exact e
   ·rcases List.mem_cons.1 h2 with e | h2
    ·exact e.symm
    ·have := hb.1 x h1; have := ha.1 y h2; omega
  subst exy
  rw [sorted_ext ha.2 hb.2 fun z => ?_]
  constructor
  ·intro hz
   rcases List.mem_cons.1 ((h z).1 (List.mem_cons_of_mem _ hz)) with e | h1
   ·have := ha.1 z hz; omega
   ·exact h1
  ·intro hz
   rcases List.mem_cons.1 ((h z).2 (List.mem_cons_of_mem _ hz)) with e | h1
   ·have := hb.1 z hz; omega
   ·exact h1
theorem ids_of {w : World} {S : Nat} {l : List Ses} {D : DataW Unit} {L : List Nat} (h : SesAt w S l D) (hu : Up l) (hok : ∀ x ∈ l, x.Ok) (hC : CollU D (fun _ => false) L) : (∀ x, x ∈ L ↔ x ∈ l.map (·.id)) ∧ L.length = l.length := by
 have hm : ∀ x, x ∈ L ↔ x ∈ l.map (·.id) := fun x => by
  have hseek : (seek x l).isSome = true ↔ x ∈ l.map (·.id) := by
   rw [List.mem_map]
   constructor
   ·intro hs
    obtain ⟨y, hy⟩ := Option.isSome_iff_exists.1 hs
    obtain ⟨h1, h2⟩ := seek_mem hy
    exact ⟨y, h1, h2⟩
   ·rintro ⟨y, hy, rfl⟩
    rw [seek_of_mem hu hy]; rfl
  constructor
  ·intro hx
   have h1 := (hC.2.2 x (hC.2.1 x hx)).1 hx
   rw [h.has] at h1
   exact hseek.1 h1.1
  ·intro hx
   obtain ⟨y, hy, rfl⟩ := List.mem_map.1 hx
   exact (hC.2.2 y.id (hok y hy).id).2 ⟨by rw [h.has]; exact hseek.2 hx, rfl⟩
 refine ⟨hm, ?_⟩
 have hnd : (l.map (·.id)).Nodup := by
  unfold List.Nodup
  rw [List.pairwise_map]
  exact hu.imp fun h e => by omega
 have := ((List.perm_ext_iff_of_nodup hC.1 hnd).2 hm).length_eq
 rw [this, List.length_map]
theorem ids_eq {w : World} {S : Nat} {l : List Ses} {D : DataW Unit} {L : List Nat} (h : SesAt w S l D) (hu : Up l) (hok : ∀ x ∈ l, x.Ok) (hC : CollU D (fun _ => false) L) (hs : L.Pairwise (· < ·)) : L = l.map (·.id) :=
 sorted_ext hs (by rw [List.pairwise_map]; exact hu) (ids_of h hu hok hC).1
theorem SortedAt.stay {w w' : World} {B : Nat} {v : Value} {L : List Nat} (h : SortedAt w B v L) (hs : w.heap.size ≤ w'.heap.size) (hb : ∀ g cs, B ≤ g → Blk w g 22 cs → w'.heap[g]? = w.heap[g]?) : SortedAt w' B v L := by
 rcases h with h | ⟨g, c, rfl, hg, hN⟩
 ·exact .inl h
 ·obtain ⟨cs, hcs⟩ := hN.kind
  have e := hb g cs hg hcs
  exact .inr ⟨g, c, rfl, hg, ⟨hN.row.of_block hs e, cs, e.trans hcs⟩⟩
structure ExS (w : World) (q B : Nat) (v : Value) (L : List Nat) (l : List UInt8) (W : World) : Prop where
 bld : Bld W q l
 st : SortedAt W B v L
 lo : q < B
 bel : Below q w W
section
variable {w W W' : World} {q B X : Nat} {v : Value} {L : List Nat} {l l' : List UInt8} {cs : Array Value}
theorem ExS.below (h : ExS w q B v L l W) (hb : Below W.heap.size W W') : ExS w q B v L l W' :=
 ⟨h.bld.grown hb, h.st.stay hb.size fun g _ _ hc => hb.block g hc.lt, h.lo, h.bel.trans (hb.mono (Nat.le_of_lt h.bld.lt))⟩
theorem ExS.kb (h : ExS w q B v L l W) (hB : Bld W' q l') (hk : Kb q W W') : ExS w q B v L l' W' :=
 ⟨hB, h.st.stay hk.below.size fun g _ hg hc => (hk.oth g _ hc (fun e => by have := Option.some.inj e; have := h.lo; omega) (fun c fz e => by injection e with _ e2; exact absurd e2 (by decide))).trans hc.symm, h.lo, h.bel.trans hk.below⟩
theorem told_kb (h : Blk W X 72 cs) (hX : q < X) (hk : Kb q W W') : Blk W' X 72 cs :=
 hk.oth X _ h (fun e => by have := Option.some.inj e; omega) (fun c fz e => by injection e with _ e2; exact absurd e2 (by decide))
end
theorem SesAt.look1 {w : World} {S : Nat} {l : List Ses} {D : DataW Unit} {x : Ses} (h : SesAt w S l D) (hs : seek x.id l = some x) (hi : x.id < 18446744073709551616) :
  (Instr.lookup 59 (.map (some S)) (.int .u64 x.id) false).run Tryz.prog w = .ok (.agg (tcs x.num x.rep)) w := by
 obtain ⟨es, clock, hb, F, _, hD⟩ := h.mp
 rcases Maps.fit_look false ukey_law Tryz.underlying59 (zeroT w) hb F (nkey_of hi) with ⟨hrun, _, hat⟩ | ⟨e0, y, _, _, hrun, hRv, hat, _⟩
 ·rw [← hD] at hat
  have e1 := Maps.has_false_of_atKey hat
  rw [h.has, hs] at e1
  cases e1
 ·rw [← hD] at hat
  obtain ⟨n', r', hv, hy⟩ := RT_inv hRv
  have e2 := (h.val x.id x hs (.agg [])).symm.trans (hat (.agg []))
  rw [hy] at e2
  obtain ⟨e3, e4⟩ := td_inj e2
  rw [hrun, hv, ← e3, ← e4]
  rfl
set_option maxHeartbeats 4000000 in
set_option maxRecDepth 100000 in
theorem expSes_c {w0 w : World} {b T M C S : Nat} {H : Nat → Prop} {s : Sv} (h : At w0 w b T M C S H s) (hO : s.Ok) (h12 : s.ss.length ≤ 12) :
  Calls Tryz.prog 22 #[tp b] w fun e w' => e = .returned (.string (str (allS s.ss))) ∧ Below w.heap.size w w' := by
 obtain ⟨D, hD⟩ := h.ses
 have hbox := h.box
 have hup := hO.up
 have hok := hO.sok
 have hbl := bodyS_len hok
 have hen := enc_len (n := s.ss.length) (by omega)
 have hb0 := (Below.refl _ w).alloc (Nat.le_refl _) (.cells #[.pointer none, .slice none 0 0] 98)
 have hB0 := Bld.new w
 have hbq := h.box.lt
 have hSq := hD.mp.lt
 have hwr : IntKind.u64.wrap (s.ss.length : Int) = (s.ss.length : Int) := IntWalk.u64_in _ (by omega)
 have c11 : (w.alloc (.cells #[.pointer none, .slice none 0 0] 98)).cell? ⟨b, 11, none⟩ = some (.map (some S)) := (hb0.cell (p := ⟨b, 11, none⟩) hbq).trans (hbox.cell 11)
 have hlen := fun ty => (hD.stay (hb0.block S hSq)).len ty
 clear h
 go_enter Tryz.func22, Tryz.ntmps22
 go_upto_region 2 with (fail)
 generalize w.alloc (.cells #[.pointer none, .slice none 0 0] 98) = w1 at *
 have HB0 := Lib.hid hb0
 have hbl1 : w.heap.size < w1.heap.size := hB0.lt
 clear hb0
 generalize hq : w.heap.size = q at *
 have HQ := Lib.hid hq
 clear hq
 go_wp2_with fail
 refine (num_c s.ss.length (by omega) w1).mono ?_
 rintro e w3 ⟨rfl, hb3⟩
 have hb3q := HB0.out.trans (hb3.mono (by omega))
 have hs3 := hb3.size
 have hB3 := hB0.grown hb3
 clear c11 hlen
 go_wp2_with fail
 refine (bws_y q [] (enc s.ss.length) w3 hB3 (by simp only [List.length_nil]; omega)).mono ?_
 rintro e w4 ⟨rfl, hB4, hk4⟩
 rw [List.nil_append] at hB4
 have hb4q := hb3q.trans hk4.below
 have hq4 : q < w4.heap.size := hB4.lt
 have c11 : w4.cell? ⟨b, 11, none⟩ = some (.map (some S)) := (hb4q.cell (p := ⟨b, 11, none⟩) hbq).trans (hbox.cell 11)
 have hD4 := hD.stay (hb4q.block S hSq)
 clear hB0 hB3 hb3 hk4 hb3q hs3 hbl1 HB0
 go_wp2_with fail
 refine (keys_c S w4).mono ?_
 rintro e w5 ⟨rfl, rfl⟩
 have hX5 := Blk.new w4 59 #[.map (some S)]
 have hb5 := (Below.refl _ w4).alloc (Nat.le_refl _) (.cells #[.map (some S)] 59)
 have hD5 := hD4.stay (hb5.block S hD4.mp.lt)
 have hSor := sortedU_c (Bm := w4.heap.size) (S := S) (w4.alloc (.cells #[.map (some S)] 59)) hX5.lt (hX5.cell 0) hD5.mp (by rw [hD5.size]; omega) (fun ss hC => by rw [(ids_of hD5 hup hok hC).2]; exact h12)
 have hs5 : w4.heap.size < (w4.alloc (.cells #[.map (some S)] 59)).heap.size := hX5.lt
 clear c11
 generalize w4.alloc (.cells #[.map (some S)] 59) = w5 at *
 go_wp2_with fail
 refine hSor.mono ?_
 rintro e w6 ⟨v, L, rfl, hC, hsort, hSt, hb6⟩
 have hL := ids_eq hD5 hup hok hC hsort
 have hLl : L.length = s.ss.length := by rw [hL, List.length_map]
 have hX6 : ExS w q w5.heap.size v L (enc s.ss.length ++ bodyS (s.ss.take 0)) w6 := ⟨by rw [List.take_zero]; simpa [bodyS] using (hB4.grown hb5).grown hb6, hSt, by omega, (hb4q.trans (hb5.mono (by omega))).trans (hb6.mono (by omega))⟩
 clear hSt hB4 hb4q hD4 hD5 hb5 hb6 hSor hX5 hC hsort
 generalize w5.heap.size = B at *
 have hform : ∃ oa oc, v = .slice oa s.ss.length oc := by
  rcases hX6.st with ⟨rfl, rfl⟩ | ⟨g, c, rfl, -, -⟩
  ·exact ⟨none, 0, by rw [← hLl]; rfl⟩
  ·exact ⟨_, _, by rw [hLl]⟩
 obtain ⟨oa, oc, rfl⟩ := hform
 go_wp2_with fail
 go_loopw [22] (fun i wr => ∃ j : Nat, j ≤ s.ss.length ∧ i = .int .i64 j ∧ ExS w q B (.slice oa s.ss.length oc) L (enc s.ss.length ++ bodyS (s.ss.take j)) wr) (fun i _ => s.ss.length - (intOf i).toNat)
 case atStart => exact ⟨0, by omega, rfl, hX6⟩
 case round =>
  clear hX6
  obtain ⟨j, hj, rfl, hE⟩ := hrel
  have hblj := bodyS_len (l := s.ss.take j) fun y hy => hok y (List.mem_of_mem_take hy)
  rw [List.length_take] at hblj
  by_cases h3 : j < s.ss.length
  ·obtain ⟨x, hx⟩ : ∃ x, s.ss[j]? = some x := ⟨_, List.getElem?_eq_getElem h3⟩
   have hxm := List.mem_of_getElem? hx
   have hxo := hok x hxm
   have a1 := hxo.id
   have a2 := hxo.num
   have a3 := hxo.rep
   have l1 := enc_len a1
   have l2 := enc_len a2
   have l3 := rep_len a3
   obtain ⟨r1, r2, r3⟩ := a3
   have hst := hE.st
   rcases hst with ⟨hn1, hn2⟩ | ⟨g, c, hv, hBg, hN⟩
   ·rw [hn2] at hLl; simp at hLl; omega
   ·injection hv with e1 e2 e3
    subst e1 e3
    have c0 : wr.cell? ⟨g, j, none⟩ = some (.int .u64 x.id) := hN.row.cell j _ (by
      rw [hL, List.getElem?_map, List.getElem?_map, hx]; rfl)
    have hlt : (j : Int) < (s.ss.length : Int) := by omega
    have c1 : wr.cell? ⟨b, 11, none⟩ = some (.map (some S)) := (hE.bel.cell (p := ⟨b, 11, none⟩) hbq).trans (hbox.cell 11)
    have hlook := (hD.stay (hE.bel.block S hSq)).look1 (seek_of_mem hup hxm) a1
    have hX1 := Blk.new wr 72 #[.int .u64 x.num, .int .i64 x.rep.e, .string (str x.rep.val), .int .u64 x.rep.ver]
    have hE1 := hE.below ((Below.refl _ wr).alloc (Nat.le_refl _) (.cells #[.int .u64 x.num, .int .i64 x.rep.e, .string (str x.rep.val), .int .u64 x.rep.ver] 72))
    have hqX : q < wr.heap.size := hE.bld.lt
    clear hE hN
    clear e2
    go_upto_region 7 with (fail)
    generalize wr.alloc (.cells #[.int .u64 x.num, .int .i64 x.rep.e, .string (str x.rep.val), .int .u64 x.rep.ver] 72) = v1 at *
    generalize wr.heap.size = X at *
    clear hlook c0 c1 hBg
    go_wp2_with fail
    refine (num_c x.id a1 v1).mono ?_
    rintro e u1 ⟨rfl, hb1⟩
    have hE1b := hE1.below hb1
    have hX1b := hX1.below hb1 hX1.lt
    go_wp2_with fail
    refine (bws_y q (enc s.ss.length ++ bodyS (s.ss.take j)) (enc x.id) u1 hE1b.bld (by simp only [List.length_append]; omega)).mono ?_
    rintro e v2 ⟨rfl, hB2, hk2⟩
    have hE2 := hE1b.kb hB2 hk2
    have hX2 := told_kb hX1b hqX hk2
    clear hb1 hE1b hX1b hB2 hk2 hE1 hX1
    have x0 := hX2.cell 0
    simp only [List.getElem?_toArray, List.getElem?_cons_zero] at x0
    go_wp2_with fail
    refine (num_c x.num a2 v2).mono ?_
    rintro e u2 ⟨rfl, hb2⟩
    have hE2b := hE2.below hb2
    have hX2b := hX2.below hb2 hX2.lt
    go_wp2_with fail
    refine (bws_y q (enc s.ss.length ++ bodyS (s.ss.take j) ++ enc x.id) (enc x.num) u2 hE2b.bld (by simp only [List.length_append]; omega)).mono ?_
    rintro e v3 ⟨rfl, hB3, hk3⟩
    have hE3 := hE2b.kb hB3 hk3
    have hX3 := told_kb hX2b hqX hk3
    clear x0 hb2 hE2b hX2b hB3 hk3 hE2 hX2
    have x1 := hX3.cell 1
    have x2 := hX3.cell 2
    have x3 := hX3.cell 3
    simp only [gA, gB, gC] at x1 x2 x3
    go_wp2_with fail
    refine (Opy.pputReply_c r1 (by omega) r3 v3).mono ?_
    rintro e u3 ⟨rfl, hb3⟩
    have hE3b := hE3.below hb3
    clear x1 x2 x3
    go_wp2_with fail
    refine (bws_y q (enc s.ss.length ++ bodyS (s.ss.take j) ++ enc x.id ++ enc x.num) (Opy.replyB x.rep.e x.rep.val x.rep.ver) u3 hE3b.bld (by simp only [List.length_append]; omega)).mono ?_
    rintro e v4 ⟨rfl, hB4, hk4⟩
    have hE4 := hE3b.kb hB4 hk4
    have eB : enc s.ss.length ++ bodyS (s.ss.take j) ++ enc x.id ++ enc x.num ++ Opy.replyB x.rep.e x.rep.val x.rep.ver = enc s.ss.length ++ bodyS (s.ss.take (j + 1)) := by
     rw [List.take_add_one, hx]
     show _ = enc s.ss.length ++ bodyS (s.ss.take j ++ [x])
     rw [bodyS_snoc]
     unfold oneS
     simp only [List.append_assoc]
    rw [eB] at hE4
    have HE := Lib.hid hE4
    clear hb3 hE3b hB4 hk4 hE3 hX3 hE4 eB
    go_wp2_with fail
    go_roundw
    case rel => exact ⟨j + 1, by omega, rfl, HE.out⟩
    case measure => simp [intOf]; omega
  ·obtain rfl : j = s.ss.length := by omega
   have hge : ¬ ((s.ss.length : Int) < (s.ss.length : Int)) := by omega
   rw [List.take_length] at hE
   have hne : enc s.ss.length ++ bodyS s.ss ≠ [] := fun e => by
    have := congrArg List.length e
    simp only [List.length_append, List.length_nil] at this
    omega
   go_wp2_with fail
   have hstr := bstr_y q _ wr hE.bld hne
   have hbel := hE.bel
   clear hE
   go_wp2_with fail
   refine hstr.mono ?_
   rintro e w9 ⟨rfl, hk9⟩
   go_wp2_with fail
   (try simp only [Exit.inBlock, Exit.then])
   go_ret
   refine ⟨rfl, ?_⟩
   have h9 := hbel.trans hk9.below
   rw [← HQ.out] at h9
   exact h9
end Go.Proofs.YtkiabladmgagdabGreatDoor.Storey
