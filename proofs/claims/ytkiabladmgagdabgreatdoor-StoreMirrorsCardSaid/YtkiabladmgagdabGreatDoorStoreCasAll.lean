/- The program's cache: what is asked for, taken away, laid in the place of another one, done. The only condition: the cache may be, and the operation may be. The program's cache: a value in the place of another one, and any operation. The only condition: the cache may be, and the operation may be. -/
import Derived.Test.YtkiabladmgagdabGreatDoorStorePut
import Derived.Test.YtkiabladmgagdabGreatDoorSq
namespace Go.Proofs.YtkiabladmgagdabGreatDoor.Storey
open Go.ChangeShapes Go.WideShapes Go.ChangeAt Go.RowKit
open Wirey (Blk Row str str_size str_list str_cat Kp)
open Taby (En TabAt Tbl tp find ins drop size ended St)
open Policyy (Pv HeldP StepP Tell)
open Ringy (Key)
open Regy

section
variable {w0 w w' w'' : World} {B b T M C S : Nat} {H H' : Nat → Prop} {s t : Sv} {k : Key} {v : Value} {l : List Key} {o : Opn} {x : Rcd}
theorem look_no (hk : k.length ≤ 64) (e : find k s.m = none) (h : At w0 w b T M C S H s) : Calls Tryz.prog 54 #[tp T, .string (str k)] w fun e w' => e = .returned (.tuple #[.agg #[.string ⟨#[]⟩, .string ⟨#[]⟩, .int .u64 0, .int .u64 0], .bool false]) ∧ Below w.heap.size w w' := by
 have := Taby.get_t k hk w h.tab
 rw [e] at this
 exact this
theorem look_yes {x : En} (hk : k.length ≤ 64) (e : find k s.m = some x) (h : At w0 w b T M C S H s) : Calls Tryz.prog 54 #[tp T, .string (str k)] w fun e w' => e = .returned (.tuple #[.agg x.cs, .bool true]) ∧ Below w.heap.size w w' := by
 have := Taby.get_t k hk w h.tab
 rw [e] at this
 exact this
set_option maxHeartbeats 4000000 in
set_option maxRecDepth 100000 in
theorem get_s (hB : s.Base) (hk : k.length ≤ 64) (h : At w0 w b T M C S H s) :
  Calls Tryz.prog 88 #[tp b, .string (str k)] w fun e w' => e = .returned (.agg (s.get k).2.cs) ∧ ∃ H', At w0 w' b T M C S H' (s.get k).1 ∧ Stp b T M S w H w' H' := by
 have hask := hB.asked
 have hhit := hB.hits
 have hkm : k.length ≤ maxLen := by unfold maxLen; omega
 have hone := fun W => one64_c (n := s.asked) (by omega) W
 have hone2 := fun W => one64_c (n := s.hits) (by omega) W
 have h1 := h.alloc (.cells rep0 45)
 have hr1 := Loc.new h 45 rep0
 have s1 : Stp b T M S w H (w.alloc (.cells rep0 45)) H := .of_below ((Below.refl _ w).alloc (Nat.le_refl _) _) (Nat.le_refl _)
 go_enter Tryz.func88, Tryz.ntmps88
 go_upto_region 1 with (fail)
 generalize w.alloc (.cells rep0 45) = w1 at *
 have hrq : w.heap.size ≤ w.heap.size := Nat.le_refl _
 generalize hr : w.heap.size = r at hr1 hrq ⊢
 obtain ⟨-, -, -, -, -, -, -, c7, -, -, -, -⟩ := h1.cs
 have f7 := h1.box.free 7
 generalize hV : one s.asked 9223372036854775807 = V at *
 go_wp2_with fail
 refine (hone _).mono ?_
 rintro e w2 ⟨rfl, rfl⟩
 obtain ⟨h2, s2⟩ := h1.cell (s' := { s with asked := V }) 7 (.int .i64 V) rfl rfl rfl rfl
 have hr2 := hr1.step s2
 replace s2 := s1.trans s2
 clear h1 hr1 s1 hone
 go_upto_region 2 with (fail)
 generalize w1.setCell ⟨b, 7, none⟩ (.int .i64 V) = w2 at *
 clear c7 f7
 obtain ⟨-, -, -, -, -, -, -, -, -, c9, -, -⟩ := h2.cs
 cases e : find k s.m with
 | none =>
  have hP : s.get k = (s.ask k none, .of 2) := by unfold Sv.get; rw [e]
  have HP := Lib.hid hP
  clear hP
  go_wp2_with fail
  refine (look_no hk (by show find k s.m = none; exact e) h2).mono ?_
  rintro e' w3 ⟨rfl, hb3⟩
  have h4 := (h2.below hb3).alloc (.cells #[.string ⟨#[]⟩, .string ⟨#[]⟩, .int .u64 0, .int .u64 0] 66)
  have hr4 := (hr2.below hb3).alloc (.cells #[.string ⟨#[]⟩, .string ⟨#[]⟩, .int .u64 0, .int .u64 0] 66)
  have s4 : Stp b T M S w H (w3.alloc (.cells #[.string ⟨#[]⟩, .string ⟨#[]⟩, .int .u64 0, .int .u64 0] 66)) H := (s2.later hb3 (Nat.le_refl _)).later ((Below.refl _ w3).alloc (Nat.le_refl _) _) (Nat.le_refl _)
  clear h2 hr2 s2 c9 hb3
  go_upto_region 3 with (fail)
  generalize w3.alloc (.cells #[.string ⟨#[]⟩, .string ⟨#[]⟩, .int .u64 0, .int .u64 0] 66) = w4 at *
  obtain ⟨-, -, -, -, -, -, -, -, -, -, c10, -⟩ := h4.cs
  go_wp2_with fail
  refine (Policyy.missP_c hkm h4.pol).mono ?_
  rintro e' w5 ⟨rfl, H5, hpa, hps⟩
  obtain ⟨h5, s5⟩ := h4.pols hpa hps
  have hr5 := hr4.step s5
  replace s5 := s4.trans s5
  clear h4 hr4 s4 hpa hps c10
  have z0 := hr5.f 0
  have z1 := hr5.f 1
  have z2 := hr5.f 2
  have z3 : w5.cell? ⟨r, 0, none⟩ = some (.int .i64 0) := hr5.c rfl
  have z4 : w5.cell? ⟨r, 1, none⟩ = some (.string ⟨#[]⟩) := hr5.c rfl
  have z5 : w5.cell? ⟨r, 2, none⟩ = some (.int .u64 0) := hr5.c rfl
  go_wp2_with fail
  obtain ⟨zB, zA, zS⟩ := rep3 h h5 s5 hr5 (by omega) (.int .i64 2) (.string ⟨#[]⟩) (.int .u64 0)
  exact bodyPost_ret (results_cell_row rfl _ _ r 45 _ _ _ rfl zB Tryz.underlying45 rfl (by kernel_rfl)) rfl ⟨by rw [HP.out]; rfl, H5, by rw [HP.out, Sv.ask, hV]; exact zA, zS⟩
 | some x =>
  have hP : s.get k = (s.ask k (some x), ⟨0, x.val, x.ver⟩) := by unfold Sv.get; rw [e]
  have HP := Lib.hid hP
  clear hP
  go_wp2_with fail
  refine (look_yes hk (by show find k s.m = some x; exact e) h2).mono ?_
  rintro e' w3 ⟨rfl, hb3⟩
  have h4 := (h2.below hb3).alloc (.cells x.cs 66)
  have hr4 := (hr2.below hb3).alloc (.cells x.cs 66)
  have hx4 := Loc.new (h2.below hb3) 66 x.cs
  have hxr : w3.heap.size ≠ r := by have := (hr2.below hb3).blk.lt; omega
  have s4 : Stp b T M S w H (w3.alloc (.cells x.cs 66)) H := (s2.later hb3 (Nat.le_refl _)).later ((Below.refl _ w3).alloc (Nat.le_refl _) _) (Nat.le_refl _)
  clear h2 hr2 s2 c9 hb3
  go_upto_region 3 with (fail)
  generalize w3.alloc (.cells x.cs 66) = w4 at *
  generalize w3.heap.size = p at *
  obtain ⟨-, -, -, -, -, -, -, -, c8, -, -, -⟩ := h4.cs
  have f8 := h4.box.free 8
  have HV := Lib.hid hV
  clear hV
  generalize hU : one s.hits 9223372036854775807 = U at *
  go_wp2_with fail
  refine (hone2 _).mono ?_
  rintro e' w5 ⟨rfl, rfl⟩
  obtain ⟨h5, s5⟩ := h4.cell (s' := { s with asked := V, hits := U }) 8 (.int .i64 U) rfl rfl rfl rfl
  have hr5 := hr4.step s5
  have hx5 := hx4.step s5
  replace s5 := s4.trans s5
  clear h4 hr4 hx4 s4 hone2
  go_upto_region 7 with (fail)
  generalize w4.setCell ⟨b, 8, none⟩ (.int .i64 U) = w5 at *
  clear c8 f8
  obtain ⟨-, -, -, -, -, -, -, -, -, -, c10, -⟩ := h5.cs
  go_wp2_with fail
  refine (Policyy.touchP_c hkm h5.pol).mono ?_
  rintro e' w6 ⟨rfl, H6, hpa, hps⟩
  obtain ⟨h6, s6⟩ := h5.pols hpa hps
  have hr6 := hr5.step s6
  have hx6 := hx5.step s6
  replace s6 := s5.trans s6
  clear h5 hr5 hx5 s5 hpa hps c10
  have x1 : w6.cell? ⟨p, 1, none⟩ = some (.string (str x.val)) := hx6.c rfl
  have x2 : w6.cell? ⟨p, 2, none⟩ = some (.int .u64 x.ver) := hx6.c rfl
  have z0 := hr6.f 0
  have z1 := hr6.f 1
  have z2 := hr6.f 2
  have z3 : w6.cell? ⟨r, 0, none⟩ = some (.int .i64 0) := hr6.c rfl
  have z4 : w6.cell? ⟨r, 1, none⟩ = some (.string ⟨#[]⟩) := hr6.c rfl
  have z5 : w6.cell? ⟨r, 2, none⟩ = some (.int .u64 0) := hr6.c rfl
  go_wp2_with fail
  obtain ⟨zB, zA, zS⟩ := rep3 h h6 s6 hr6 (by omega) (.int .i64 0) (.string (str x.val)) (.int .u64 x.ver)
  exact bodyPost_ret (results_cell_row rfl _ _ r 45 _ _ _ rfl zB Tryz.underlying45 rfl (by kernel_rfl)) rfl ⟨by rw [HP.out]; rfl, H6, by rw [HP.out, Sv.ask, HV.out, hU]; exact zA, zS⟩
set_option maxHeartbeats 4000000 in
set_option maxRecDepth 100000 in
theorem del_s (hB : s.Base) (hk : k.length ≤ 64) (h : At w0 w b T M C S H s) :
  Calls Tryz.prog 89 #[tp b, .string (str k)] w fun e w' => e = .returned (.agg (s.del k).2.cs) ∧ ∃ H', At w0 w' b T M C S H' (s.del k).1 ∧ Stp b T M S w H w' H' := by
 have hlen := hB.len.2
 have hn2 := hB.n2
 have h1 := h.alloc (.cells rep0 45)
 have hr1 := Loc.new h 45 rep0
 have s1 : Stp b T M S w H (w.alloc (.cells rep0 45)) H := .of_below ((Below.refl _ w).alloc (Nat.le_refl _) _) (Nat.le_refl _)
 go_enter Tryz.func89, Tryz.ntmps89
 go_upto_region 1 with (fail)
 generalize w.alloc (.cells rep0 45) = w1 at *
 have hrq : w.heap.size ≤ w.heap.size := Nat.le_refl _
 generalize hr : w.heap.size = r at hr1 hrq ⊢
 obtain ⟨-, -, -, -, -, -, -, -, -, c9, -, -⟩ := h1.cs
 cases e : find k s.m with
 | none =>
  have hP : s.del k = (s, .of 2) := by unfold Sv.del; rw [e]
  have HP := Lib.hid hP
  clear hP
  go_wp2_with fail
  refine (look_no hk e h1).mono ?_
  rintro e' w3 ⟨rfl, hb3⟩
  have h4 := (h1.below hb3).alloc (.cells #[.string ⟨#[]⟩, .string ⟨#[]⟩, .int .u64 0, .int .u64 0] 66)
  have hr4 := (hr1.below hb3).alloc (.cells #[.string ⟨#[]⟩, .string ⟨#[]⟩, .int .u64 0, .int .u64 0] 66)
  have s4 : Stp b T M S w H (w3.alloc (.cells #[.string ⟨#[]⟩, .string ⟨#[]⟩, .int .u64 0, .int .u64 0] 66)) H := (s1.later hb3 (Nat.le_refl _)).later ((Below.refl _ w3).alloc (Nat.le_refl _) _) (Nat.le_refl _)
  clear h1 hr1 s1 c9 hb3
  go_upto_region 2 with (fail)
  generalize w3.alloc (.cells #[.string ⟨#[]⟩, .string ⟨#[]⟩, .int .u64 0, .int .u64 0] 66) = w4 at *
  have z0 := hr4.f 0
  have z1 := hr4.f 1
  have z2 := hr4.f 2
  have z3 : w4.cell? ⟨r, 0, none⟩ = some (.int .i64 0) := hr4.c rfl
  have z4 : w4.cell? ⟨r, 1, none⟩ = some (.string ⟨#[]⟩) := hr4.c rfl
  have z5 : w4.cell? ⟨r, 2, none⟩ = some (.int .u64 0) := hr4.c rfl
  go_wp2_with fail
  obtain ⟨zB, zA, zS⟩ := rep3 h h4 s4 hr4 (by omega) (.int .i64 2) (.string ⟨#[]⟩) (.int .u64 0)
  exact bodyPost_ret (results_cell_row rfl _ _ r 45 _ _ _ rfl zB Tryz.underlying45 rfl (by kernel_rfl)) rfl ⟨by rw [HP.out]; rfl, H, by rw [HP.out]; exact zA, zS⟩
 | some x =>
  have hP : s.del k = (s.away k, ⟨0, [], x.ver⟩) := by unfold Sv.del; rw [e]
  have HP := Lib.hid hP
  clear hP
  go_wp2_with fail
  refine (look_yes hk e h1).mono ?_
  rintro e' w3 ⟨rfl, hb3⟩
  have h4 := (h1.below hb3).alloc (.cells x.cs 66)
  have hr4 := (hr1.below hb3).alloc (.cells x.cs 66)
  have hx4 := Loc.new (h1.below hb3) 66 x.cs
  have s4 : Stp b T M S w H (w3.alloc (.cells x.cs 66)) H := (s1.later hb3 (Nat.le_refl _)).later ((Below.refl _ w3).alloc (Nat.le_refl _) _) (Nat.le_refl _)
  clear h1 hr1 s1 c9 hb3
  go_upto_region 2 with (fail)
  generalize w3.alloc (.cells x.cs 66) = w4 at *
  generalize w3.heap.size = p at *
  go_wp2_with fail
  refine (away_s hk (by omega) h4).mono ?_
  rintro e' w6 ⟨rfl, H6, h6, s6⟩
  have hr6 := hr4.step s6
  have hx6 := hx4.step s6
  replace s6 := s4.trans s6
  clear h4 hr4 hx4 s4
  have x2 : w6.cell? ⟨p, 2, none⟩ = some (.int .u64 x.ver) := hx6.c rfl
  have z0 := hr6.f 0
  have z1 := hr6.f 1
  have z2 := hr6.f 2
  have z3 : w6.cell? ⟨r, 0, none⟩ = some (.int .i64 0) := hr6.c rfl
  have z4 : w6.cell? ⟨r, 1, none⟩ = some (.string ⟨#[]⟩) := hr6.c rfl
  have z5 : w6.cell? ⟨r, 2, none⟩ = some (.int .u64 0) := hr6.c rfl
  go_wp2_with fail
  obtain ⟨zB, zA, zS⟩ := rep3 h h6 s6 hr6 (by omega) (.int .i64 0) (.string ⟨#[]⟩) (.int .u64 x.ver)
  exact bodyPost_ret (results_cell_row rfl _ _ r 45 _ _ _ rfl zB Tryz.underlying45 rfl (by kernel_rfl)) rfl ⟨by rw [HP.out]; rfl, H6, by rw [HP.out]; exact zA, zS⟩
end
end Go.Proofs.YtkiabladmgagdabGreatDoor.Storey
namespace Go.Proofs.YtkiabladmgagdabGreatDoor.Storey
open Go.ChangeShapes Go.WideShapes Go.ChangeAt Go.RowKit
open Wirey (Blk Row str str_size str_list str_cat Kp)
open Taby (En TabAt Tbl tp find ins drop size ended St)
open Policyy (Pv HeldP StepP Tell)
open Ringy (Key)
open Regy

section
variable {w0 w w' w'' : World} {B b T M C S : Nat} {H H' : Nat → Prop} {s t : Sv} {k : Key} {v : Value} {l : List Key} {o : Opn} {x : Rcd}
theorem look_any (hk : k.length ≤ 64) (h : At w0 w b T M C S H s) : Calls Tryz.prog 54 #[tp T, .string (str k)] w fun e w' => e = .returned (.tuple #[.agg ((find k s.m).getD En.none).cs, .bool (find k s.m).isSome]) ∧ Below w.heap.size w w' := Taby.get_t k hk w h.tab
set_option maxHeartbeats 4000000 in
set_option maxRecDepth 100000 in
theorem cas_s (hB : s.Base) (hk : o.key.length ≤ 64) (hk1 : 0 < o.key.length) (hv : o.val.length ≤ 4096) (ht : o.ttl ≤ 1073741824) (h : At w0 w b T M C S H s) :
  Calls Tryz.prog 90 #[tp b, .agg o.cs] w fun e w' => e = .returned (.agg (s.cas o).2.cs) ∧ ∃ H', At w0 w' b T M C S H' (s.cas o).1 ∧ Stp b T M S w H w' H' := by
 have h1 := (h.alloc (.cells o.cs 36)).alloc (.cells rep0 45)
 have hq1 : Loc w.heap.size 36 o.cs b T M S H ((w.alloc (.cells o.cs 36)).alloc (.cells rep0 45)) := (Loc.new h _ _).alloc _
 have hr1 : Loc (w.heap.size + 1) 45 rep0 b T M S H ((w.alloc (.cells o.cs 36)).alloc (.cells rep0 45)) := by
  have := Loc.new (h.alloc (.cells o.cs 36)) 45 rep0
  rwa [show (w.alloc (.cells o.cs 36)).heap.size = w.heap.size + 1 by simp] at this
 have s1 : Stp b T M S w H ((w.alloc (.cells o.cs 36)).alloc (.cells rep0 45)) H := .of_below (((Below.refl _ w).alloc (Nat.le_refl _) _).alloc (by simp) _) (Nat.le_refl _)
 go_enter Tryz.func90, Tryz.ntmps90
 go_upto_region 1 with (fail)
 generalize (w.alloc (.cells o.cs 36)).alloc (.cells rep0 45) = w1 at *
 have hrq : w.heap.size ≤ w.heap.size + 1 := by omega
 have hqr : w.heap.size ≠ w.heap.size + 1 := by omega
 generalize hr : w.heap.size + 1 = r at *
 generalize hq : w.heap.size = q at hq1 hqr ⊢
 have hF : Fr w0 w b T M C S H q 36 o.cs r 45 rep0 w1 H s := ⟨h1, s1, hq1, hr1⟩
 clear h1 s1 hq1 hr1
 have h0 := h.since.size
 have mk : ∀ W, Fr w0 w b T M C S H q 36 o.cs r 45 rep0 W H s → W.cell? ⟨b, 9, none⟩ = some (tp T) ∧ W.cell? ⟨q, 1, none⟩ = some (.string (str o.key)) := fun W h => ⟨h.at_.c rfl, h.lq.c rfl⟩
 generalize hy : (find o.key s.m).getD En.none = y at *
 generalize hi : (find o.key s.m).isSome = is at *
 have hlk := fun W (hF : Fr w0 w b T M C S H q 36 o.cs r 45 rep0 W H s) => look_any hk hF.at_
 rw [hy, hi] at hlk
 go_cut [5, 6] from 7 (fun v5 v6 wx => ∃ p, v5 = .pointer (some ⟨p, 0, none⟩) ∧ v6 = .bool is ∧ Fr w0 w b T M C S H q 36 o.cs r 45 rep0 wx H s ∧ Loc p 66 y.cs b T M S H wx)
 case first =>
  refine region_only 13 #[false, false, false, false, false, false, false, false, false, false, false, false, false] (S := fun W => W.cell? ⟨b, 9, none⟩ = some (tp T) ∧ W.cell? ⟨q, 1, none⟩ = some (.string (str o.key))) rfl rfl (by kernel_rfl) (mk _ hF.drew) (fun hSw => ?_)
  replace hF := hF.drew
  generalize w1.drew = w2 at *
  refine tkA 0 8 12 ?_ rfl rfl ?_ hSw ?_
  rotate_left
  ·intro wx hSx; (try dsimp only at hSx); go_split_ands; go_simp; (try with_reducible rfl)
  simp only [sA, List.set_cons_zero, sC]
  refine tkA 1 9 11 ?_ rfl rfl ?_ hSw ?_
  rotate_left
  ·intro wx hSx; (try dsimp only at hSx); go_split_ands; go_simp; (try with_reducible rfl)
  simp only [sA, List.set_cons_zero, sC]
  refine tkA 2 10 10 ?_ rfl rfl ?_ hSw ?_
  rotate_left
  ·intro wx hSx; (try dsimp only at hSx); go_split_ands; go_simp; (try with_reducible rfl)
  simp only [sA, List.set_cons_zero, sC]
  refine tkA 3 11 9 ?_ rfl rfl ?_ hSw ?_
  rotate_left
  ·intro wx hSx; (try dsimp only at hSx); go_split_ands; go_simp; (try with_reducible rfl)
  simp only [sA, List.set_cons_zero, sC]
  refine tkA 4 12 8 ?_ rfl rfl ?_ hSw ?_
  rotate_left
  ·intro wx hSx; (try dsimp only at hSx); go_split_ands; go_simp; (try with_reducible rfl)
  simp only [sA, List.set_cons_zero, sC]
  refine tkA 5 13 7 ?_ rfl rfl ?_ hSw ?_
  rotate_left
  ·intro wx hSx; (try dsimp only at hSx); go_split_ands; go_simp; (try with_reducible rfl)
  simp only [sA, List.set_cons_zero, sC]
  refine wpAnyH_ready (fuel := 6) (rs := [6, 10]) (by kernel_rfl) (by simp) (AllReadyH.cons rfl (fun K hK => ?_) (AllReadyH.cons rfl (fun K hK => ?_) AllReadyH.nil))
  ·go_simp
   refine (hlk _ hF).mono ?_
   rintro e wv ⟨rfl, hbv⟩
   have hFv := hF.below hbv
   refine hK.out _ _ (mk _ hFv) (fun hSw => ?_)
   clear hK K
   simp only [sA, List.set_cons_zero, sC]
   refine tkA 7 7 5 ?_ rfl rfl ?_ hSw ?_
   rotate_left
   ·intro wx hSx; (try dsimp only at hSx); go_split_ands; go_simp; (try with_reducible rfl)
   simp only [sA, List.set_cons_zero, sC]
   refine tkA 8 15 4 ?_ rfl rfl ?_ hSw ?_
   rotate_left
   ·intro wx hSx; (try dsimp only at hSx); go_split_ands; go_simp; (try with_reducible rfl)
   simp only [sA, List.set_cons_zero, sC]
   refine tkA 9 16 3 ?_ rfl rfl ?_ hSw ?_
   rotate_left
   ·intro wx hSx; (try dsimp only at hSx); go_split_ands; go_simp; (try with_reducible rfl)
   simp only [sA, List.set_cons_zero, sC]
   refine rdA 2 10 rfl fun K hK => ?_
   go_simp
   have hpv := Loc.new hFv.at_ 66 #[.string ⟨#[]⟩, .string ⟨#[]⟩, .int .u64 0, .int .u64 0]
   have hne := hFv.ne (Nat.le_refl wv.heap.size)
   have hFw := hFv.alloc (.cells #[.string ⟨#[]⟩, .string ⟨#[]⟩, .int .u64 0, .int .u64 0] 66)
   refine hK.out _ _ (mk _ hFw) (fun hSw => ?_)
   clear hK K
   simp only [sA, List.set_cons_zero, sC]
   refine rdA 1 11 rfl fun K hK => ?_
   go_simp
   have hF3 := hFv.alloc (.cells y.cs 66)
   have hp3 := Loc.new hFv.at_ 66 y.cs
   refine hK.out _ _ (mk _ hF3) (fun hSw => ?_)
   clear hK K
   simp only [sA, List.set_cons_zero, sC]
   refine tkA 12 6 0 ?_ rfl rfl ?_ hSw ?_
   rotate_left
   ·intro wx hSx; (try dsimp only at hSx); go_split_ands; go_simp; (try with_reducible rfl)
   simp only [sA, List.set_cons_zero, sC]
   refine wpAnyH_done (by kernel_rfl) ⟨rfl, ?_⟩ 0
   go_wp2_with fail
   go_meet
   exact ⟨_, rfl, rfl, hF3, hp3⟩
  ·go_simp
   have hp := Loc.new hF.at_ 66 #[.string ⟨#[]⟩, .string ⟨#[]⟩, .int .u64 0, .int .u64 0]
   have hne := hF.ne (Nat.le_refl w2.heap.size)
   have hF2 := hF.alloc (.cells #[.string ⟨#[]⟩, .string ⟨#[]⟩, .int .u64 0, .int .u64 0] 66)
   refine hK.out _ _ (mk _ hF2) (fun hSw => ?_)
   clear hK K
   simp only [sA, List.set_cons_zero, sC]
   refine rdA 5 6 rfl fun K hK => ?_
   go_simp
   refine (hlk _ hF2).mono ?_
   rintro e wv ⟨rfl, hbv⟩
   have hFv := hF2.below hbv
   have hpv := hp.below hbv
   refine hK.out _ _ (mk _ hFv) (fun hSw => ?_)
   clear hK K
   simp only [sA, List.set_cons_zero, sC]
   refine tkA 7 7 4 ?_ rfl rfl ?_ hSw ?_
   rotate_left
   ·intro wx hSx; (try dsimp only at hSx); go_split_ands; go_simp; (try with_reducible rfl)
   simp only [sA, List.set_cons_zero, sC]
   refine tkA 8 15 3 ?_ rfl rfl ?_ hSw ?_
   rotate_left
   ·intro wx hSx; (try dsimp only at hSx); go_split_ands; go_simp; (try with_reducible rfl)
   simp only [sA, List.set_cons_zero, sC]
   refine tkA 9 16 2 ?_ rfl rfl ?_ hSw ?_
   rotate_left
   ·intro wx hSx; (try dsimp only at hSx); go_split_ands; go_simp; (try with_reducible rfl)
   simp only [sA, List.set_cons_zero, sC]
   refine rdA 1 11 rfl fun K hK => ?_
   go_simp
   have g0 := hpv.f 0
   have g1 := hpv.f 1
   have g2 := hpv.f 2
   have g3 := hpv.f 3
   have c0 : wv.cell? ⟨w2.heap.size, 0, none⟩ = some (.string ⟨#[]⟩) := hpv.c rfl
   have c1 : wv.cell? ⟨w2.heap.size, 1, none⟩ = some (.string ⟨#[]⟩) := hpv.c rfl
   have c2 : wv.cell? ⟨w2.heap.size, 2, none⟩ = some (.int .u64 0) := hpv.c rfl
   have c3 : wv.cell? ⟨w2.heap.size, 3, none⟩ = some (.int .u64 0) := hpv.c rfl
   go_simp
   have hF3 := (((hFv.set h0 hpv.no hne.1 hne.2.1 hne.2.2 0 (.string (str y.key))).set h0 hpv.no hne.1 hne.2.1 hne.2.2 1 (.string (str y.val))).set h0 hpv.no hne.1 hne.2.1 hne.2.2 2 (.int .u64 y.ver)).set h0 hpv.no hne.1 hne.2.1 hne.2.2 3 (.int .u64 y.fin)
   have hp3 : Loc w2.heap.size 66 y.cs b T M S H ((((wv.setCell ⟨w2.heap.size, 0, none⟩ (.string (str y.key))).setCell ⟨w2.heap.size, 1, none⟩ (.string (str y.val))).setCell ⟨w2.heap.size, 2, none⟩ (.int .u64 y.ver)).setCell ⟨w2.heap.size, 3, none⟩ (.int .u64 y.fin)) := ⟨(((hpv.blk.put 0 _).put 1 _).put 2 _).put 3 _, hpv.no⟩
   refine hK.out _ _ (mk _ hF3) (fun hSw => ?_)
   clear hK K
   simp only [sA, List.set_cons_zero, sC]
   refine tkA 12 6 0 ?_ rfl rfl ?_ hSw ?_
   rotate_left
   ·intro wx hSx; (try dsimp only at hSx); go_split_ands; go_simp; (try with_reducible rfl)
   simp only [sA, List.set_cons_zero, sC]
   refine wpAnyH_done (by kernel_rfl) ⟨rfl, ?_⟩ 0
   go_wp2_with fail
   go_meet
   exact ⟨_, rfl, rfl, hF3, hp3⟩
 case rest =>
  obtain ⟨p, rfl, rfl, hF, hp⟩ := hcut
  clear mk hlk
  cases e : find o.key s.m with
  | none =>
   rw [e] at hi
   have hi' : false = is := hi
   subst hi'
   have hP : s.cas o = (s, .of 2) := by unfold Sv.cas; rw [e]
   have HP := Lib.hid hP
   clear hP hi hy e
   have z0 := hF.lr.f 0
   have z1 := hF.lr.f 1
   have z2 := hF.lr.f 2
   have z3 : wc.cell? ⟨r, 0, none⟩ = some (.int .i64 0) := hF.lr.c rfl
   have z4 : wc.cell? ⟨r, 1, none⟩ = some (.string ⟨#[]⟩) := hF.lr.c rfl
   have z5 : wc.cell? ⟨r, 2, none⟩ = some (.int .u64 0) := hF.lr.c rfl
   go_wp2_with fail
   obtain ⟨zB, zA, zS⟩ := rep3 h hF.at_ hF.st hF.lr (by omega) (.int .i64 2) (.string ⟨#[]⟩) (.int .u64 0)
   exact bodyPost_ret (results_cell_row rfl _ _ r 45 _ _ _ rfl zB Tryz.underlying45 rfl (by kernel_rfl)) rfl ⟨by rw [HP.out]; rfl, H, by rw [HP.out]; exact zA, zS⟩
  | some z =>
   rw [e] at hi hy
   have hi' : true = is := hi
   have hy' : z = y := hy
   subst hi' hy'
   have x2 : wc.cell? ⟨p, 2, none⟩ = some (.int .u64 z.ver) := hp.c rfl
   have x4 : wc.cell? ⟨q, 4, none⟩ = some (.int .u64 o.ver) := hF.lq.c rfl
   by_cases hv2 : z.ver = o.ver
   ·have hP : s.cas o = s.put o := by unfold Sv.cas; rw [e]; exact if_pos hv2
    have HP := Lib.hid hP
    have d1 : ((z.ver : Int) == (o.ver : Int)) = true := by rw [hv2]; exact beq_self_eq_true _
    clear hP hi hy e
    have y0 : wc.cell? ⟨q, 0, none⟩ = some (.int .i64 o.kind) := hF.lq.c rfl
    have y1 : wc.cell? ⟨q, 1, none⟩ = some (.string (str o.key)) := hF.lq.c rfl
    have y2 : wc.cell? ⟨q, 2, none⟩ = some (.string (str o.val)) := hF.lq.c rfl
    have y3 : wc.cell? ⟨q, 3, none⟩ = some (.int .u64 o.ttl) := hF.lq.c rfl
    have hcall := put_s hB hk hk1 hv ht hF.at_
    have HV2 := Lib.hid hv2
    clear hv2
    generalize hrr : (s.put o).2 = rr at *
    go_wp2_with fail
    refine hcall.mono ?_
    rintro e' w5 ⟨rfl, H5, h5, s5⟩
    have hF5 := hF.step h5 s5
    have hr5 := hF5.lr
    clear hcall
    have z0 := hr5.f 0
    have z1 := hr5.f 1
    have z2 := hr5.f 2
    have z3 : w5.cell? ⟨r, 0, none⟩ = some (.int .i64 0) := hr5.c rfl
    have z4 : w5.cell? ⟨r, 1, none⟩ = some (.string ⟨#[]⟩) := hr5.c rfl
    have z5 : w5.cell? ⟨r, 2, none⟩ = some (.int .u64 0) := hr5.c rfl
    go_wp2_with fail
    obtain ⟨zB, zA, zS⟩ := rep3 h hF5.at_ hF5.st hF5.lr (by omega) (.int .i64 rr.e) (.string (str rr.val)) (.int .u64 rr.ver)
    exact bodyPost_ret (results_cell_row rfl _ _ r 45 _ _ _ rfl zB Tryz.underlying45 rfl (by kernel_rfl)) rfl ⟨by rw [HP.out, hrr], H5, by rw [HP.out]; exact zA, zS⟩
   ·have hP : s.cas o = (s, ⟨121, [], z.ver⟩) := by unfold Sv.cas; rw [e]; exact if_neg hv2
    have HP := Lib.hid hP
    have d1 : ((z.ver : Int) == (o.ver : Int)) = false := beq_eq_false_iff_ne.2 (by omega)
    have d2 : ¬ (z.ver : Int) = (o.ver : Int) := by omega
    clear hP hi hy e
    have z0 := hF.lr.f 0
    have z1 := hF.lr.f 1
    have z2 := hF.lr.f 2
    have z3 : wc.cell? ⟨r, 0, none⟩ = some (.int .i64 0) := hF.lr.c rfl
    have z4 : wc.cell? ⟨r, 1, none⟩ = some (.string ⟨#[]⟩) := hF.lr.c rfl
    have z5 : wc.cell? ⟨r, 2, none⟩ = some (.int .u64 0) := hF.lr.c rfl
    go_wp2_with fail
    obtain ⟨zB, zA, zS⟩ := rep3 h hF.at_ hF.st hF.lr (by omega) (.int .i64 121) (.string ⟨#[]⟩) (.int .u64 z.ver)
    exact bodyPost_ret (results_cell_row rfl _ _ r 45 _ _ _ rfl zB Tryz.underlying45 rfl (by kernel_rfl)) rfl ⟨by rw [HP.out]; rfl, H, by rw [HP.out]; exact zA, zS⟩
set_option maxHeartbeats 4000000 in
set_option maxRecDepth 100000 in
theorem act_s (hB : s.Base) (hk : o.key.length ≤ 64) (hk1 : 0 < o.key.length) (hv : o.val.length ≤ 4096) (ht : o.ttl ≤ 1073741824) (h : At w0 w b T M C S H s) :
  Calls Tryz.prog 61 #[tp b, .agg o.cs] w fun e w' => e = .returned (.agg (s.act o).2.cs) ∧ ∃ H', At w0 w' b T M C S H' (s.act o).1 ∧ Stp b T M S w H w' H' := by
 have h1 := (h.alloc (.cells o.cs 36)).alloc (.cells rep0 45)
 have hq1 : Loc w.heap.size 36 o.cs b T M S H ((w.alloc (.cells o.cs 36)).alloc (.cells rep0 45)) := (Loc.new h _ _).alloc _
 have hr1 : Loc (w.heap.size + 1) 45 rep0 b T M S H ((w.alloc (.cells o.cs 36)).alloc (.cells rep0 45)) := by
  have := Loc.new (h.alloc (.cells o.cs 36)) 45 rep0
  rwa [show (w.alloc (.cells o.cs 36)).heap.size = w.heap.size + 1 by simp] at this
 have s1 : Stp b T M S w H ((w.alloc (.cells o.cs 36)).alloc (.cells rep0 45)) H := .of_below (((Below.refl _ w).alloc (Nat.le_refl _) _).alloc (by simp) _) (Nat.le_refl _)
 go_enter Tryz.func61, Tryz.ntmps61
 go_upto_region 1 with (fail)
 generalize (w.alloc (.cells o.cs 36)).alloc (.cells rep0 45) = w1 at *
 have hrq : w.heap.size ≤ w.heap.size + 1 := by omega
 have hqr : w.heap.size ≠ w.heap.size + 1 := by omega
 generalize hr : w.heap.size + 1 = r at *
 generalize hq : w.heap.size = q at hq1 hqr ⊢
 have hF : Fr w0 w b T M C S H q 36 o.cs r 45 rep0 w1 H s := ⟨h1, s1, hq1, hr1⟩
 clear h1 s1 hq1 hr1
 have y0 : w1.cell? ⟨q, 0, none⟩ = some (.int .i64 o.kind) := hF.lq.c rfl
 have y1 : w1.cell? ⟨q, 1, none⟩ = some (.string (str o.key)) := hF.lq.c rfl
 have y2 : w1.cell? ⟨q, 2, none⟩ = some (.string (str o.val)) := hF.lq.c rfl
 have y3 : w1.cell? ⟨q, 3, none⟩ = some (.int .u64 o.ttl) := hF.lq.c rfl
 have y4 : w1.cell? ⟨q, 4, none⟩ = some (.int .u64 o.ver) := hF.lq.c rfl
 by_cases a1 : o.kind = 1
 ·have e1 : (o.kind == 1) = true := by rw [a1]; rfl
  have hP : s.act o = s.get o.key := by unfold Sv.act; rw [if_pos a1]
  have HP := Lib.hid hP
  clear hP
  have hcall := get_s hB hk hF.at_
  generalize hrr : (s.get o.key).2 = rr at *
  go_wp2_with fail
  refine hcall.mono ?_
  rintro e' w5 ⟨rfl, H5, h5, s5⟩
  have hF5 := hF.step h5 s5
  have hr5 := hF5.lr
  clear hcall
  have z0 := hr5.f 0
  have z1 := hr5.f 1
  have z2 := hr5.f 2
  have z3 : w5.cell? ⟨r, 0, none⟩ = some (.int .i64 0) := hr5.c rfl
  have z4 : w5.cell? ⟨r, 1, none⟩ = some (.string ⟨#[]⟩) := hr5.c rfl
  have z5 : w5.cell? ⟨r, 2, none⟩ = some (.int .u64 0) := hr5.c rfl
  go_wp2_with fail
  obtain ⟨zB, zA, zS⟩ := rep3 h hF5.at_ hF5.st hF5.lr (by omega) (.int .i64 rr.e) (.string (str rr.val)) (.int .u64 rr.ver)
  exact bodyPost_ret (results_cell_row rfl _ _ r 45 _ _ _ rfl zB Tryz.underlying45 rfl (by kernel_rfl)) rfl ⟨by rw [HP.out, hrr], H5, by rw [HP.out]; exact zA, zS⟩
 have e1 : (o.kind == 1) = false := beq_eq_false_iff_ne.2 a1
 by_cases a3 : o.kind = 3
 ·have e3 : (o.kind == 3) = true := by rw [a3]; rfl
  have hP : s.act o = s.del o.key := by unfold Sv.act; rw [if_neg a1, if_pos a3]
  have HP := Lib.hid hP
  clear hP
  have hcall := del_s hB hk hF.at_
  generalize hrr : (s.del o.key).2 = rr at *
  go_wp2_with fail
  refine hcall.mono ?_
  rintro e' w5 ⟨rfl, H5, h5, s5⟩
  have hF5 := hF.step h5 s5
  have hr5 := hF5.lr
  clear hcall
  have z0 := hr5.f 0
  have z1 := hr5.f 1
  have z2 := hr5.f 2
  have z3 : w5.cell? ⟨r, 0, none⟩ = some (.int .i64 0) := hr5.c rfl
  have z4 : w5.cell? ⟨r, 1, none⟩ = some (.string ⟨#[]⟩) := hr5.c rfl
  have z5 : w5.cell? ⟨r, 2, none⟩ = some (.int .u64 0) := hr5.c rfl
  go_wp2_with fail
  obtain ⟨zB, zA, zS⟩ := rep3 h hF5.at_ hF5.st hF5.lr (by omega) (.int .i64 rr.e) (.string (str rr.val)) (.int .u64 rr.ver)
  exact bodyPost_ret (results_cell_row rfl _ _ r 45 _ _ _ rfl zB Tryz.underlying45 rfl (by kernel_rfl)) rfl ⟨by rw [HP.out, hrr], H5, by rw [HP.out]; exact zA, zS⟩
 have e3 : (o.kind == 3) = false := beq_eq_false_iff_ne.2 a3
 by_cases a4 : o.kind = 4
 ·have e4 : (o.kind == 4) = true := by rw [a4]; rfl
  have hP : s.act o = s.cas o := by unfold Sv.act; rw [if_neg a1, if_neg a3, if_pos a4]
  have HP := Lib.hid hP
  clear hP
  have hcall := cas_s hB hk hk1 hv ht hF.at_
  clear a4
  generalize hrr : (s.cas o).2 = rr at *
  go_wp2_with fail
  refine hcall.mono ?_
  rintro e' w5 ⟨rfl, H5, h5, s5⟩
  have hF5 := hF.step h5 s5
  have hr5 := hF5.lr
  clear hcall
  have z0 := hr5.f 0
  have z1 := hr5.f 1
  have z2 := hr5.f 2
  have z3 : w5.cell? ⟨r, 0, none⟩ = some (.int .i64 0) := hr5.c rfl
  have z4 : w5.cell? ⟨r, 1, none⟩ = some (.string ⟨#[]⟩) := hr5.c rfl
  have z5 : w5.cell? ⟨r, 2, none⟩ = some (.int .u64 0) := hr5.c rfl
  go_wp2_with fail
  obtain ⟨zB, zA, zS⟩ := rep3 h hF5.at_ hF5.st hF5.lr (by omega) (.int .i64 rr.e) (.string (str rr.val)) (.int .u64 rr.ver)
  exact bodyPost_ret (results_cell_row rfl _ _ r 45 _ _ _ rfl zB Tryz.underlying45 rfl (by kernel_rfl)) rfl ⟨by rw [HP.out, hrr], H5, by rw [HP.out]; exact zA, zS⟩
 have e4 : (o.kind == 4) = false := beq_eq_false_iff_ne.2 a4
 have hP : s.act o = s.put o := by unfold Sv.act; rw [if_neg a1, if_neg a3, if_neg a4]
 have HP := Lib.hid hP
 clear hP
 have hcall := put_s hB hk hk1 hv ht hF.at_
 generalize hrr : (s.put o).2 = rr at *
 go_wp2_with fail
 refine hcall.mono ?_
 rintro e' w5 ⟨rfl, H5, h5, s5⟩
 have hF5 := hF.step h5 s5
 have hr5 := hF5.lr
 clear hcall
 have z0 := hr5.f 0
 have z1 := hr5.f 1
 have z2 := hr5.f 2
 have z3 : w5.cell? ⟨r, 0, none⟩ = some (.int .i64 0) := hr5.c rfl
 have z4 : w5.cell? ⟨r, 1, none⟩ = some (.string ⟨#[]⟩) := hr5.c rfl
 have z5 : w5.cell? ⟨r, 2, none⟩ = some (.int .u64 0) := hr5.c rfl
 go_wp2_with fail
 obtain ⟨zB, zA, zS⟩ := rep3 h hF5.at_ hF5.st hF5.lr (by omega) (.int .i64 rr.e) (.string (str rr.val)) (.int .u64 rr.ver)
 exact bodyPost_ret (results_cell_row rfl _ _ r 45 _ _ _ rfl zB Tryz.underlying45 rfl (by kernel_rfl)) rfl ⟨by rw [HP.out, hrr], H5, by rw [HP.out]; exact zA, zS⟩
end
end Go.Proofs.YtkiabladmgagdabGreatDoor.Storey
