/- The program's cache: which may be, and a new one; what there is not. The only condition: numbers are of 64 bits. The laws' own beginning (awake): it is true. No condition. -/
import Derived.Test.YtlnjnpchkdipdaaGreatStoreEntAll
namespace Go.Proofs.YtlnjnpchkdipdaaGreat.Storey
open Go.ChangeShapes Go.WideShapes Go.ChangeAt Go.RowKit
open Wirey (Blk Row str str_size str_list Kp)
open Taby (En TabAt Tbl tp find ins drop size ended St)
open Policyy (Pv HeldP StepP Tell)
open Ringy (Key)
open Regy

section
variable {w0 w w' w'' : World} {B b T M C S : Nat} {H H' : Nat → Prop} {s t : Sv} {k : Key} {v : Value} {l : List Key} {o : Opn} {x : Rcd}
/-- May a cache be such? -/
def mayB (k n bytes : Int) : Bool := (decide (k = 1) || decide (k = 2)) && decide (1 ≤ n) && decide (n ≤ 1000) && decide (1 ≤ bytes) && decide (bytes ≤ 1048576)
set_option maxHeartbeats 4000000 in
set_option maxRecDepth 100000 in
theorem check_c (k n bytes seed : Int) (w : World) : Calls Tryz.prog 24 #[.agg #[.int .i64 k, .int .i64 n, .int .i64 bytes, .int .u64 seed]] w fun e w' => e = .returned (.bool (mayB k n bytes)) ∧ Below w.heap.size w w' := by
  have hb := (Below.refl _ w).alloc (Nat.le_refl _) (.cells #[.int .i64 k, .int .i64 n, .int .i64 bytes, .int .u64 seed] 24)
  have HB := Lib.hid hb
  clear hb
  unfold mayB
  by_cases k1 : k = 1
  · subst k1
    have e0 : decide ((1 : Int) = 1) = true := rfl
    rw [e0]
    by_cases a0 : 1 ≤ n
    case neg =>
      have da0 : decide (1 ≤ n) = false := decide_eq_false a0
      rw [da0]
      simp only [Bool.and_false, Bool.false_and]
      go_enter Tryz.func24, Tryz.ntmps24
      go_wp2_with fail
      go_ret
      exact ⟨rfl, HB.out⟩
    have da0 : decide (1 ≤ n) = true := decide_eq_true a0
    by_cases a1 : n ≤ 1000
    case neg =>
      have da1 : decide (n ≤ 1000) = false := decide_eq_false a1
      rw [da1]
      simp only [Bool.and_false, Bool.false_and]
      go_enter Tryz.func24, Tryz.ntmps24
      go_wp2_with fail
      go_ret
      exact ⟨rfl, HB.out⟩
    have da1 : decide (n ≤ 1000) = true := decide_eq_true a1
    by_cases a2 : 1 ≤ bytes
    case neg =>
      have da2 : decide (1 ≤ bytes) = false := decide_eq_false a2
      rw [da2]
      simp only [Bool.and_false, Bool.false_and]
      go_enter Tryz.func24, Tryz.ntmps24
      go_wp2_with fail
      go_ret
      exact ⟨rfl, HB.out⟩
    have da2 : decide (1 ≤ bytes) = true := decide_eq_true a2
    by_cases a3 : bytes ≤ 1048576
    case neg =>
      have da3 : decide (bytes ≤ 1048576) = false := decide_eq_false a3
      rw [da3]
      simp only [Bool.and_false]
      go_enter Tryz.func24, Tryz.ntmps24
      go_wp2_with fail
      go_ret
      exact ⟨rfl, HB.out⟩
    have da3 : decide (bytes ≤ 1048576) = true := decide_eq_true a3
    rw [da0, da1, da2, da3]
    simp only [Bool.and_true, Bool.true_or]
    go_enter Tryz.func24, Tryz.ntmps24
    go_wp2_with fail
    go_ret
    exact ⟨rfl, HB.out⟩
  have e1 : (k == 1) = false := beq_eq_false_iff_ne.2 k1
  have f1 : decide (k = 1) = false := decide_eq_false k1
  by_cases k2 : k = 2
  · subst k2
    rw [f1]
    have e0 : decide ((2 : Int) = 2) = true := rfl
    rw [e0]
    by_cases a0 : 1 ≤ n
    case neg =>
      have da0 : decide (1 ≤ n) = false := decide_eq_false a0
      rw [da0]
      simp only [Bool.and_false, Bool.false_and]
      go_enter Tryz.func24, Tryz.ntmps24
      go_wp2_with fail
      go_ret
      exact ⟨rfl, HB.out⟩
    have da0 : decide (1 ≤ n) = true := decide_eq_true a0
    by_cases a1 : n ≤ 1000
    case neg =>
      have da1 : decide (n ≤ 1000) = false := decide_eq_false a1
      rw [da1]
      simp only [Bool.and_false, Bool.false_and]
      go_enter Tryz.func24, Tryz.ntmps24
      go_wp2_with fail
      go_ret
      exact ⟨rfl, HB.out⟩
    have da1 : decide (n ≤ 1000) = true := decide_eq_true a1
    by_cases a2 : 1 ≤ bytes
    case neg =>
      have da2 : decide (1 ≤ bytes) = false := decide_eq_false a2
      rw [da2]
      simp only [Bool.and_false, Bool.false_and]
      go_enter Tryz.func24, Tryz.ntmps24
      go_wp2_with fail
      go_ret
      exact ⟨rfl, HB.out⟩
    have da2 : decide (1 ≤ bytes) = true := decide_eq_true a2
    by_cases a3 : bytes ≤ 1048576
    case neg =>
      have da3 : decide (bytes ≤ 1048576) = false := decide_eq_false a3
      rw [da3]
      simp only [Bool.and_false]
      go_enter Tryz.func24, Tryz.ntmps24
      go_wp2_with fail
      go_ret
      exact ⟨rfl, HB.out⟩
    have da3 : decide (bytes ≤ 1048576) = true := decide_eq_true a3
    rw [da0, da1, da2, da3]
    simp only [Bool.and_true, Bool.or_true]
    go_enter Tryz.func24, Tryz.ntmps24
    go_wp2_with fail
    go_ret
    exact ⟨rfl, HB.out⟩
  have e2 : (k == 2) = false := beq_eq_false_iff_ne.2 k2
  have f2 : decide (k = 2) = false := decide_eq_false k2
  rw [f1, f2]
  simp only [Bool.or_false, Bool.false_and]
  go_enter Tryz.func24, Tryz.ntmps24
  go_wp2_with fail
  go_ret
  exact ⟨rfl, HB.out⟩
theorem new_at {W : World} {p : Pv} {D : DataW Unit} (hp : HeldP w0 C W p H) (hT : TabAt W T M []) (hS : SesAt W S [] D) (ep : s.p = p) (em : s.m = []) (es : s.ss = []) (lT : w0.heap.size ≤ T) (lM : w0.heap.size ≤ M) (lS : w0.heap.size ≤ S) (ST : S ≠ T) (SM : S ≠ M) (HT : ¬ H T) (HM : ¬ H M) (HS : ¬ H S) :
    At w0 (W.alloc (.cells (s.cells T C S) 92)) W.heap.size T M C S H s := by
  have hb := (Below.refl _ W).alloc (Nat.le_refl _) (.cells (s.cells T C S) 92)
  have l1 := hT.hd.lt
  have l2 := hT.ltM
  have l3 := hS.mp.lt
  subst ep
  exact ⟨Blk.new _ _ _, by rw [em]; exact hT.below hb, hp.alloc _, ⟨D, by rw [es]; exact hS.stay (hb.block _ l3)⟩, hp.below.size, lT, lM, lS, by omega, by omega, by omega, ST, SM, fun h => by have := (hp.own _ h).2; omega, HT, HM, HS⟩
set_option maxHeartbeats 4000000 in
set_option maxRecDepth 100000 in
theorem newS_c {kind n bytes seed : Nat} (hk : kind = 1 ∨ kind = 2) (h1 : 1 ≤ n) (h2 : n ≤ 1000) (b1 : 1 ≤ bytes) (b2 : bytes ≤ 1048576) (h3 : seed < 18446744073709551616) (w : World) :
    Calls Tryz.prog 8 #[.agg #[.int .i64 (kind : Int), .int .i64 (n : Int), .int .i64 (bytes : Int), .int .u64 (seed : Int)]] w fun e w' => ∃ b T M C S H, e = .returned (.tuple #[tp b, .int .i64 0]) ∧ At w w' b T M C S H (Sv.new kind n bytes seed) := by
  have hm : mayB kind n bytes = true := by
    unfold mayB
    simp only [Bool.and_eq_true, Bool.or_eq_true, decide_eq_true_eq]
    omega
  have hc := fun W => check_c kind n bytes seed W
  rw [hm] at hc
  have hb0 := (Below.refl _ w).alloc (Nat.le_refl _) (.cells #[.int .i64 (kind : Int), .int .i64 (n : Int), .int .i64 (bytes : Int), .int .u64 (seed : Int)] 24)
  have hL0 := Blk.new w 24 #[.int .i64 (kind : Int), .int .i64 (n : Int), .int .i64 (bytes : Int), .int .u64 (seed : Int)]
  go_enter Tryz.func8, Tryz.ntmps8
  go_upto_region 1 with (fail)
  generalize w.alloc (.cells #[.int .i64 (kind : Int), .int .i64 (n : Int), .int .i64 (bytes : Int), .int .u64 (seed : Int)] 24) = w1 at *
  have hqw : w.heap.size ≤ w.heap.size := Nat.le_refl _
  generalize hq : w.heap.size = q at hL0 hqw ⊢
  have c0 : w1.cell? ⟨q, 0, none⟩ = some (.int .i64 (kind : Int)) := hL0.cell 0
  have c1 : w1.cell? ⟨q, 1, none⟩ = some (.int .i64 (n : Int)) := hL0.cell 1
  have c2 : w1.cell? ⟨q, 2, none⟩ = some (.int .i64 (bytes : Int)) := hL0.cell 2
  have c3 : w1.cell? ⟨q, 3, none⟩ = some (.int .u64 (seed : Int)) := hL0.cell 3
  go_wp2_with fail
  refine (hc _).mono ?_
  rintro e w2 ⟨rfl, hb2⟩
  replace hL0 := hL0.below hb2 hL0.lt
  have hb2' := hb0.trans (hb2.mono hb0.size)
  clear c0 c1 c2 c3 hb2 hb0 hc
  have c0 : w2.cell? ⟨q, 0, none⟩ = some (.int .i64 (kind : Int)) := hL0.cell 0
  have c1 : w2.cell? ⟨q, 1, none⟩ = some (.int .i64 (n : Int)) := hL0.cell 1
  have c3 : w2.cell? ⟨q, 3, none⟩ = some (.int .u64 (seed : Int)) := hL0.cell 3
  go_wp2_with fail
  refine (Policyy.newP_c hk h1 h2 h3 w2).mono ?_
  rintro e w3 ⟨C, H, rfl, hp⟩
  have hq2 : q < w2.heap.size := hL0.lt
  replace hL0 := hL0.below hp.below hL0.lt
  replace hp := hp.low hb2'
  have hps := hp.own
  clear c0 c1 c3
  go_upto_region 6 with (fail)
  have mk : ∀ W, Blk W q 24 #[.int .i64 (kind : Int), .int .i64 (n : Int), .int .i64 (bytes : Int), .int .u64 (seed : Int)] → W.cell? ⟨q, 0, none⟩ = some (.int .i64 (kind : Int)) ∧ W.cell? ⟨q, 1, none⟩ = some (.int .i64 (n : Int)) ∧ W.cell? ⟨q, 2, none⟩ = some (.int .i64 (bytes : Int)) ∧ W.cell? ⟨q, 3, none⟩ = some (.int .u64 (seed : Int)) := fun W h => ⟨h.cell 0, h.cell 1, h.cell 2, h.cell 3⟩
  have hwl : w.heap.size ≤ w3.heap.size := hp.below.size
  refine region_only 8 #[false, false, false, false, false, false, false, false] (S := fun W => W.cell? ⟨q, 0, none⟩ = some (.int .i64 (kind : Int)) ∧ W.cell? ⟨q, 1, none⟩ = some (.int .i64 (n : Int)) ∧ W.cell? ⟨q, 2, none⟩ = some (.int .i64 (bytes : Int)) ∧ W.cell? ⟨q, 3, none⟩ = some (.int .u64 (seed : Int))) rfl rfl (by kernel_rfl) (mk _ (show Blk w3.drew q _ _ from hL0)) (fun hSw => ?_)
  replace hp := hp.drewN 1
  replace hps : ∀ b, H b → w.heap.size ≤ b ∧ b < w3.drew.heap.size := hps
  replace hwl : w.heap.size ≤ w3.drew.heap.size := hwl
  replace hL0 : Blk w3.drew q _ _ := hL0
  change HeldP w C w3.drew _ H at hp
  generalize w3.drew = w4 at *
  refine take_at 0 22 (fuel := 7) ?_ rfl rfl (by kernel_rfl) (by kernel_rfl) (by kernel_rfl) (Or.inl ⟨by rfl, ?_⟩) hSw ?_
  rotate_left
  · intro wx hSx
    (try dsimp only at hSx)
    go_split_ands
    go_simp
    (try with_reducible rfl)
  simp only [List.setIfInBounds_toArray, List.set_cons_zero, List.set_cons_succ]
  refine take_at 2 24 (fuel := 6) ?_ rfl rfl (by kernel_rfl) (by kernel_rfl) (by kernel_rfl) (Or.inl ⟨by rfl, ?_⟩) hSw ?_
  rotate_left
  · intro wx hSx
    (try dsimp only at hSx)
    go_split_ands
    go_simp
    (try with_reducible rfl)
  simp only [List.setIfInBounds_toArray, List.set_cons_zero, List.set_cons_succ]
  refine wpAnyH_ready (fuel := 5) (rs := [1, 3]) (by kernel_rfl) (by simp) (AllReadyH.cons rfl (fun K hK => ?_) (AllReadyH.cons rfl (fun K hK => ?_) AllReadyH.nil))
  · go_simp
    refine (Taby.new_c _).mono ?_
    rintro e wv ⟨P, T, rfl, ⟨M, hT, -, hTl, hMl⟩, hbv⟩
    have hLv := hL0.below hbv hL0.lt
    have hpv := hp.later hbv (Nat.le_refl _)
    refine hK.out _ _ (mk _ hLv) (fun hSw => ?_)
    clear hK K
    simp only [List.setIfInBounds_toArray, List.set_cons_zero, List.set_cons_succ]
    refine wpAnyH_ready (fuel := 4) (rs := [3]) (by kernel_rfl) (by simp) (AllReadyH.cons rfl (fun K hK => ?_) AllReadyH.nil)
    go_simp
    have hts := hT.hd.lt
    have htm := hT.ltM
    have hL2 := hLv.alloc (.map #[] 0)
    have hp2 := hpv.alloc (.map #[] 0)
    have hs2 := SesAt.new wv
    have hT2 := hT.below ((Below.refl _ wv).alloc (Nat.le_refl _) (.map #[] 0))
    refine hK.out _ _ (mk _ hL2) (fun hSw => ?_)
    clear hK K
    simp only [List.setIfInBounds_toArray, List.set_cons_zero, List.set_cons_succ]
    refine take_at 4 26 (fuel := 3) ?_ rfl rfl (by kernel_rfl) (by kernel_rfl) (by kernel_rfl) (Or.inl ⟨by rfl, ?_⟩) hSw ?_
    rotate_left
    · intro wx hSx
      (try dsimp only at hSx)
      go_split_ands
      go_simp
      (try with_reducible rfl)
    simp only [List.setIfInBounds_toArray, List.set_cons_zero, List.set_cons_succ]
    refine wpAnyH_ready (fuel := 2) (rs := [5]) (by kernel_rfl) (by simp) (AllReadyH.cons rfl (fun K hK => ?_) AllReadyH.nil)
    go_simp
    have hAt := new_at (s := Sv.new kind n bytes seed) hp2 hT2 hs2 rfl rfl rfl (by omega) (by omega) (by have := hbv.size; omega) (by omega) (by omega) (fun h => by have := (hps _ h).2; omega) (fun h => by have := (hps _ h).2; omega) (fun h => by have := (hps _ h).2; have := hbv.size; omega)
    rw [show (wv.alloc (.map #[] 0)).heap.size = wv.heap.size + 1 by simp] at hAt
    refine hK.out _ _ (mk _ (hL2.alloc _)) (fun hSw => ?_)
    clear hK K
    simp only [List.setIfInBounds_toArray, List.set_cons_zero, List.set_cons_succ]
    refine take_at 6 2 (fuel := 1) ?_ rfl rfl (by kernel_rfl) (by kernel_rfl) (by kernel_rfl) (Or.inl ⟨by rfl, ?_⟩) hSw ?_
    rotate_left
    · intro wx hSx
      (try dsimp only at hSx)
      go_split_ands
      go_simp
      (try with_reducible rfl)
    simp only [List.setIfInBounds_toArray, List.set_cons_zero, List.set_cons_succ]
    refine take_at 7 3 (fuel := 0) ?_ rfl rfl (by kernel_rfl) (by kernel_rfl) (by kernel_rfl) (Or.inl ⟨by rfl, ?_⟩) hSw ?_
    rotate_left
    · intro wx hSx
      (try dsimp only at hSx)
      go_split_ands
      go_simp
      (try with_reducible rfl)
    simp only [List.setIfInBounds_toArray, List.set_cons_zero, List.set_cons_succ]
    refine wpAnyH_done (by kernel_rfl) ⟨rfl, ?_⟩ 0
    go_wp2_with fail
    go_ret2
    exact ⟨_, _, _, _, _, _, rfl, hAt⟩
  · go_simp
    have hL2 := hL0.alloc (.map #[] 0)
    have hp2 := hp.alloc (.map #[] 0)
    have hs2 := SesAt.new w4
    refine hK.out _ _ (mk _ hL2) (fun hSw => ?_)
    clear hK K
    simp only [List.setIfInBounds_toArray, List.set_cons_zero, List.set_cons_succ]
    refine wpAnyH_ready (fuel := 4) (rs := [1]) (by kernel_rfl) (by simp) (AllReadyH.cons rfl (fun K hK => ?_) AllReadyH.nil)
    go_simp
    refine (Taby.new_c _).mono ?_
    rintro e wv ⟨P, T, rfl, ⟨M, hT, -, hTl, hMl⟩, hbv⟩
    have hLv := hL2.below hbv hL2.lt
    have hpv := hp2.later hbv (Nat.le_refl _)
    have hsv := hs2.stay (hbv.block _ (by simp))
    have hts := hT.hd.lt
    have htm := hT.ltM
    simp only [World.size_alloc] at hTl hMl
    refine hK.out _ _ (mk _ hLv) (fun hSw => ?_)
    clear hK K
    simp only [List.setIfInBounds_toArray, List.set_cons_zero, List.set_cons_succ]
    refine take_at 4 26 (fuel := 3) ?_ rfl rfl (by kernel_rfl) (by kernel_rfl) (by kernel_rfl) (Or.inl ⟨by rfl, ?_⟩) hSw ?_
    rotate_left
    · intro wx hSx
      (try dsimp only at hSx)
      go_split_ands
      go_simp
      (try with_reducible rfl)
    simp only [List.setIfInBounds_toArray, List.set_cons_zero, List.set_cons_succ]
    refine wpAnyH_ready (fuel := 2) (rs := [5]) (by kernel_rfl) (by simp) (AllReadyH.cons rfl (fun K hK => ?_) AllReadyH.nil)
    go_simp
    have hAt := new_at (s := Sv.new kind n bytes seed) hpv hT hsv rfl rfl rfl (by omega) (by omega) (by omega) (by omega) (by omega) (fun h => by have := (hps _ h).2; omega) (fun h => by have := (hps _ h).2; omega) (fun h => by have := (hps _ h).2; omega)
    refine hK.out _ _ (mk _ (hLv.alloc _)) (fun hSw => ?_)
    clear hK K
    simp only [List.setIfInBounds_toArray, List.set_cons_zero, List.set_cons_succ]
    refine take_at 6 2 (fuel := 1) ?_ rfl rfl (by kernel_rfl) (by kernel_rfl) (by kernel_rfl) (Or.inl ⟨by rfl, ?_⟩) hSw ?_
    rotate_left
    · intro wx hSx
      (try dsimp only at hSx)
      go_split_ands
      go_simp
      (try with_reducible rfl)
    simp only [List.setIfInBounds_toArray, List.set_cons_zero, List.set_cons_succ]
    refine take_at 7 3 (fuel := 0) ?_ rfl rfl (by kernel_rfl) (by kernel_rfl) (by kernel_rfl) (Or.inl ⟨by rfl, ?_⟩) hSw ?_
    rotate_left
    · intro wx hSx
      (try dsimp only at hSx)
      go_split_ands
      go_simp
      (try with_reducible rfl)
    simp only [List.setIfInBounds_toArray, List.set_cons_zero, List.set_cons_succ]
    refine wpAnyH_done (by kernel_rfl) ⟨rfl, ?_⟩ 0
    go_wp2_with fail
    go_ret2
    exact ⟨_, _, _, _, _, _, rfl, hAt⟩
end
end Go.Proofs.YtlnjnpchkdipdaaGreat.Storey
namespace Go.Proofs.YtlnjnpchkdipdaaGreat.Storey
open Go.ChangeShapes Go.WideShapes Go.ChangeAt Go.RowKit
open Wirey (Blk Row str str_size str_list Kp)
open Taby (En TabAt Tbl tp find ins drop size ended St)
open Policyy (Pv HeldP StepP Tell)
open Ringy (Key)
open Regy

section
variable {w0 w w' w'' : World} {B b T M C S : Nat} {H H' : Nat → Prop} {s t : Sv} {k : Key} {v : Value} {l : List Key} {o : Opn} {x : Rcd}
def aw0 : Sv := Sv.new 1 2 100 0
def aw1 : Rcd := ⟨1, 0, 1, 1, ⟨2, [107], [118], 0, 0⟩⟩
def aw2 : Rcd := ⟨2, 0, 1, 2, ⟨1, [107], [], 0, 0⟩⟩
theorem aw1_ok : aw1.Ok := ⟨by decide, by decide, by decide, by decide, by decide, by decide, by decide, by decide⟩
theorem aw2_ok : aw2.Ok := ⟨by decide, by decide, by decide, by decide, by decide, by decide, by decide, by decide⟩
theorem aw0_ok : aw0.Ok := Sv.new_ok (.inl rfl) (by decide) (by decide) (by decide) (by decide) (by decide)
theorem aw1_is : (aw0.apply aw1).2 = (⟨0, [], 1⟩, 0) := by rfl
theorem aw2_is : ((aw0.apply aw1).1.apply aw2).2 = (⟨0, [118], 1⟩, 0) := by rfl
theorem aw2_seq : ((aw0.apply aw1).1.apply aw2).1.seq = 2 := by rfl
theorem aw2_m : ((aw0.apply aw1).1.apply aw2).1.m.length = 1 := by rfl
set_option maxHeartbeats 4000000 in
set_option maxRecDepth 100000 in
theorem apply1_a {s t : Sv} {r : Rep} {n : Nat} (hO : s.Ok) (hx : x.Ok) (ht : (s.apply x).1 = t) (hr : (s.apply x).2 = (r, n)) (h : At w0 w b T M C S H s) :
    Calls Tryz.prog 13 #[tp b, .agg x.cs] w fun e w' => e = .returned (.tuple #[.agg r.cs, .int .i64 (n : Int)]) ∧ ∃ H', At w0 w' b T M C S H' t ∧ Stp b T M S w H w' H' := by
  have := apply_s hO hx h
  rw [hr, ht] at this
  exact this
set_option maxHeartbeats 4000000 in
set_option maxRecDepth 100000 in
theorem awake_c (w : World) : Calls Tryz.prog 10 #[] w fun e w' => e = .returned (.bool true) ∧ Below w.heap.size w w' := by
  have hN := newS_c (kind := 1) (n := 2) (bytes := 100) (seed := 0) (.inl rfl) (by omega) (by omega) (by omega) (by omega) (by omega) w
  have h1k := (aw0_ok.apply aw1_ok).1
  have h2k := (h1k.apply aw2_ok).1
  generalize ht1 : (aw0.apply aw1).1 = t1 at *
  have hr2 : (t1.apply aw2).2 = (⟨0, [118], 1⟩, 0) := by rw [← ht1]; exact aw2_is
  have hs2 : (t1.apply aw2).1.seq = 2 := by rw [← ht1]; exact aw2_seq
  have hm2 : (t1.apply aw2).1.m.length = 1 := by rw [← ht1]; exact aw2_m
  generalize ht2 : (t1.apply aw2).1 = t2 at *
  have hA1 : ∀ {w0 w : World} {b T M C S : Nat} {H : Nat → Prop}, At w0 w b T M C S H aw0 → Calls Tryz.prog 13 #[tp b, .agg #[.int .u64 1, .int .u64 0, .int .u64 1, .int .u64 1, .int .i64 2, .string ⟨#[107]⟩, .string ⟨#[118]⟩, .int .u64 0, .int .u64 0]] w fun e w' => e = .returned (.tuple #[.agg #[.int .i64 0, .string ⟨#[]⟩, .int .u64 1], .int .i64 0]) ∧ ∃ H', At w0 w' b T M C S H' t1 ∧ Stp b T M S w H w' H' := fun h => apply1_a aw0_ok aw1_ok ht1 aw1_is h
  have hA2 : ∀ {w0 w : World} {b T M C S : Nat} {H : Nat → Prop}, At w0 w b T M C S H t1 → Calls Tryz.prog 13 #[tp b, .agg #[.int .u64 2, .int .u64 0, .int .u64 1, .int .u64 2, .int .i64 1, .string ⟨#[107]⟩, .string ⟨#[]⟩, .int .u64 0, .int .u64 0]] w fun e w' => e = .returned (.tuple #[.agg #[.int .i64 0, .string ⟨#[118]⟩, .int .u64 1], .int .i64 0]) ∧ ∃ H', At w0 w' b T M C S H' t2 ∧ Stp b T M S w H w' H' := fun h => apply1_a h1k aw2_ok ht2 hr2 h
  have HN : Hid (Calls Tryz.prog 8 #[.agg #[.int .i64 1, .int .i64 2, .int .i64 100, .int .u64 0]] w fun e w' => ∃ b T M C S H, e = .returned (.tuple #[tp b, .int .i64 0]) ∧ At w w' b T M C S H aw0) := Lib.hid hN
  have hlen2 := h2k.toBase.len.2
  have hn2 := h2k.n2
  clear ht1 ht2 hr2 h1k hN
  go_enter Tryz.func10, Tryz.ntmps10
  go_wp2_with fail
  refine HN.out.mono ?_
  rintro e w1 ⟨b, T, M, C, S, H, rfl, h1⟩
  clear HN
  go_wp2_with fail
  refine (hA1 h1).mono ?_
  rintro e w2 ⟨rfl, H2, h2, s2⟩
  have hl2 := Loc.new h2 61 #[.int .i64 0, .string ⟨#[]⟩, .int .u64 1]
  replace h2 := h2.alloc (.cells #[.int .i64 0, .string ⟨#[]⟩, .int .u64 1] 61)
  clear hA1 h1 s2
  go_upto_region 3 with (fail)
  generalize w2.alloc (.cells #[.int .i64 0, .string ⟨#[]⟩, .int .u64 1] 61) = w3 at *
  generalize w2.heap.size = p at *
  go_wp2_with fail
  refine (hA2 h2).mono ?_
  rintro e w4 ⟨rfl, H4, h4, s4⟩
  have hl4 := (hl2.step s4).alloc (.cells #[.int .i64 0, .string ⟨#[118]⟩, .int .u64 1] 61)
  have hq4 := Loc.new h4 61 #[.int .i64 0, .string ⟨#[118]⟩, .int .u64 1]
  replace h4 := h4.alloc (.cells #[.int .i64 0, .string ⟨#[118]⟩, .int .u64 1] 61)
  clear hA2 h2 s4 hl2
  go_upto_region 4 with (fail)
  generalize w4.alloc (.cells #[.int .i64 0, .string ⟨#[118]⟩, .int .u64 1] 61) = w5 at *
  generalize w4.heap.size = q at *
  have x2 : w5.cell? ⟨p, 2, none⟩ = some (.int .u64 1) := hl4.c rfl
  have x1 : w5.cell? ⟨q, 1, none⟩ = some (.string ⟨#[118]⟩) := hq4.c rfl
  have hsq := seq_s h4
  rw [hs2] at hsq
  have hsq2 : Calls Tryz.prog 12 #[tp b] w5 fun e w' => e = .returned (.int .u64 2) ∧ w5 = w' := hsq
  clear hsq
  have hen := entries_s (by omega) h4
  have hbel := h4.since
  go_wp2_with fail
  refine hsq2.mono ?_
  rintro e w6 ⟨rfl, rfl⟩
  go_wp2_with fail
  refine hen.mono ?_
  rintro e w7 ⟨v, rfl, hsl, hb7⟩
  obtain ⟨va, vc, rfl⟩ := hsl.form
  rw [hm2]
  go_wp2_with fail
  go_ret
  exact ⟨rfl, hbel.trans (hb7.mono hbel.size)⟩
end
end Go.Proofs.YtlnjnpchkdipdaaGreat.Storey
