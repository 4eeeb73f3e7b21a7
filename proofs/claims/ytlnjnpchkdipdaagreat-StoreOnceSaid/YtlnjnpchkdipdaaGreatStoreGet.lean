/- The program's cache: what is asked for, taken away, laid in the place of another one, done. The only condition: the cache may be, and the operation may be. -/
import Derived.Test.YtlnjnpchkdipdaaGreatStorePut
namespace Go.Proofs.YtlnjnpchkdipdaaGreat.Storey
open Go.ChangeShapes Go.WideShapes Go.ChangeAt Go.RowKit
open Wirey (Blk Row str str_size str_list Kp)
open Taby (En TabAt Tbl tp find ins drop size ended St)
open Policyy (Pv HeldP StepP Tell)
open Ringy (Key)
open Regy

section
variable {w0 w w' w'' : World} {B b T M C S : Nat} {H H' : Nat → Prop} {s t : Sv} {k : Key} {v : Value} {l : List Key} {o : Opn} {x : Rcd}
theorem look_no (hk : k.length ≤ 64) (e : find k s.m = none) (h : At w0 w b T M C S H s) : Calls Tryz.prog 47 #[tp T, .string (str k)] w fun e w' => e = .returned (.tuple #[.agg #[.string ⟨#[]⟩, .string ⟨#[]⟩, .int .u64 0, .int .u64 0], .bool false]) ∧ Below w.heap.size w w' := by
  have := Taby.get_t k hk w h.tab
  rw [e] at this
  exact this
theorem look_yes {x : En} (hk : k.length ≤ 64) (e : find k s.m = some x) (h : At w0 w b T M C S H s) : Calls Tryz.prog 47 #[tp T, .string (str k)] w fun e w' => e = .returned (.tuple #[.agg x.cs, .bool true]) ∧ Below w.heap.size w w' := by
  have := Taby.get_t k hk w h.tab
  rw [e] at this
  exact this
set_option maxHeartbeats 4000000 in
set_option maxRecDepth 100000 in
theorem get_s (hB : s.Base) (hk : k.length ≤ 64) (h : At w0 w b T M C S H s) :
    Calls Tryz.prog 90 #[tp b, .string (str k)] w fun e w' => e = .returned (.agg (s.get k).2.cs) ∧ ∃ H', At w0 w' b T M C S H' (s.get k).1 ∧ Stp b T M S w H w' H' := by
  have hask := hB.asked
  have hhit := hB.hits
  have hkm : k.length ≤ maxLen := by unfold maxLen; omega
  have hone := fun W => one64_c (n := s.asked) (by omega) W
  have hone2 := fun W => one64_c (n := s.hits) (by omega) W
  have h1 := h.alloc (.cells rep0 61)
  have hr1 := Loc.new h 61 rep0
  have s1 : Stp b T M S w H (w.alloc (.cells rep0 61)) H := .of_below ((Below.refl _ w).alloc (Nat.le_refl _) _) (Nat.le_refl _)
  go_enter Tryz.func90, Tryz.ntmps90
  go_upto_region 1 with (fail)
  generalize w.alloc (.cells rep0 61) = w1 at *
  have hrq : w.heap.size ≤ w.heap.size := Nat.le_refl _
  generalize hr : w.heap.size = r at hr1 hrq ⊢
  obtain ⟨-, -, -, -, -, -, -, c7, -, -, -, -⟩ := h1.cs
  have f7 := h1.box.free 7
  generalize hV : one s.asked 9223372036854775807 = V at *
  go_wp2_with fail
  refine (hone _).mono ?_
  rintro e w2 ⟨rfl, rfl⟩
  obtain ⟨h2, s2⟩ := h1.cell (s' := { s with asked := V }) 7 (.int .i64 (V : Int)) rfl rfl rfl rfl
  have hr2 := hr1.step s2
  replace s2 := s1.trans s2
  clear h1 hr1 s1 hone
  go_upto_region 2 with (fail)
  generalize w1.setCell ⟨b, 7, none⟩ (.int .i64 (V : Int)) = w2 at *
  clear c7 f7
  obtain ⟨-, -, -, -, -, -, -, -, -, c9, -, -⟩ := h2.cs
  cases e : find k s.m with
  | none =>
    have hP : s.get k = (s.ask k none, .of 2) := by unfold Sv.get; rw [e]
    have HP := Lib.hid hP
    clear hP
    go_wp2_with fail
    refine (look_no hk (by show find k s.m = none; exact e) h2).mono ?_
    rintro e' w3 ⟨rfl, hb3⟩
    have h4 := (h2.below hb3).alloc (.cells #[.string ⟨#[]⟩, .string ⟨#[]⟩, .int .u64 0, .int .u64 0] 81)
    have hr4 := (hr2.below hb3).alloc (.cells #[.string ⟨#[]⟩, .string ⟨#[]⟩, .int .u64 0, .int .u64 0] 81)
    have s4 : Stp b T M S w H (w3.alloc (.cells #[.string ⟨#[]⟩, .string ⟨#[]⟩, .int .u64 0, .int .u64 0] 81)) H := (s2.later hb3 (Nat.le_refl _)).later ((Below.refl _ w3).alloc (Nat.le_refl _) _) (Nat.le_refl _)
    clear h2 hr2 s2 c9 hb3
    go_upto_region 3 with (fail)
    generalize w3.alloc (.cells #[.string ⟨#[]⟩, .string ⟨#[]⟩, .int .u64 0, .int .u64 0] 81) = w4 at *
    obtain ⟨-, -, -, -, -, -, -, -, -, -, c10, -⟩ := h4.cs
    go_wp2_with fail
    refine (Policyy.missP_c hkm h4.pol).mono ?_
    rintro e' w5 ⟨rfl, H5, hpa, hps⟩
    obtain ⟨h5, s5⟩ := h4.pols hpa hps
    have hr5 := hr4.step s5
    replace s5 := s4.trans s5
    clear h4 hr4 s4 hpa hps c10
    have z0 := hr5.f 0
    have z1 := hr5.f 1
    have z2 := hr5.f 2
    have z3 : w5.cell? ⟨r, 0, none⟩ = some (.int .i64 0) := hr5.c rfl
    have z4 : w5.cell? ⟨r, 1, none⟩ = some (.string ⟨#[]⟩) := hr5.c rfl
    have z5 : w5.cell? ⟨r, 2, none⟩ = some (.int .u64 0) := hr5.c rfl
    go_wp2_with fail
    obtain ⟨zB, zA, zS⟩ := rep3 h h5 s5 hr5 (by omega) (.int .i64 2) (.string ⟨#[]⟩) (.int .u64 0)
    exact bodyPost_ret (results_cell_row rfl _ _ r 61 _ _ _ rfl zB Tryz.underlying61 rfl (by kernel_rfl)) rfl ⟨by rw [HP.out]; rfl, H5, by rw [HP.out, Sv.ask, hV]; exact zA, zS⟩
  | some x =>
    have hP : s.get k = (s.ask k (some x), ⟨0, x.val, x.ver⟩) := by unfold Sv.get; rw [e]
    have HP := Lib.hid hP
    clear hP
    go_wp2_with fail
    refine (look_yes hk (by show find k s.m = some x; exact e) h2).mono ?_
    rintro e' w3 ⟨rfl, hb3⟩
    have h4 := (h2.below hb3).alloc (.cells x.cs 81)
    have hr4 := (hr2.below hb3).alloc (.cells x.cs 81)
    have hx4 := Loc.new (h2.below hb3) 81 x.cs
    have hxr : w3.heap.size ≠ r := by have := (hr2.below hb3).blk.lt; omega
    have s4 : Stp b T M S w H (w3.alloc (.cells x.cs 81)) H := (s2.later hb3 (Nat.le_refl _)).later ((Below.refl _ w3).alloc (Nat.le_refl _) _) (Nat.le_refl _)
    clear h2 hr2 s2 c9 hb3
    go_upto_region 3 with (fail)
    generalize w3.alloc (.cells x.cs 81) = w4 at *
    generalize w3.heap.size = p at *
    obtain ⟨-, -, -, -, -, -, -, -, c8, -, -, -⟩ := h4.cs
    have f8 := h4.box.free 8
    have HV := Lib.hid hV
    clear hV
    generalize hU : one s.hits 9223372036854775807 = U at *
    go_wp2_with fail
    refine (hone2 _).mono ?_
    rintro e' w5 ⟨rfl, rfl⟩
    obtain ⟨h5, s5⟩ := h4.cell (s' := { s with asked := V, hits := U }) 8 (.int .i64 (U : Int)) rfl rfl rfl rfl
    have hr5 := hr4.step s5
    have hx5 := hx4.step s5
    replace s5 := s4.trans s5
    clear h4 hr4 hx4 s4 hone2
    go_upto_region 7 with (fail)
    generalize w4.setCell ⟨b, 8, none⟩ (.int .i64 (U : Int)) = w5 at *
    clear c8 f8
    obtain ⟨-, -, -, -, -, -, -, -, -, -, c10, -⟩ := h5.cs
    go_wp2_with fail
    refine (Policyy.touchP_c hkm h5.pol).mono ?_
    rintro e' w6 ⟨rfl, H6, hpa, hps⟩
    obtain ⟨h6, s6⟩ := h5.pols hpa hps
    have hr6 := hr5.step s6
    have hx6 := hx5.step s6
    replace s6 := s5.trans s6
    clear h5 hr5 hx5 s5 hpa hps c10
    have x1 : w6.cell? ⟨p, 1, none⟩ = some (.string (str x.val)) := hx6.c rfl
    have x2 : w6.cell? ⟨p, 2, none⟩ = some (.int .u64 (x.ver : Int)) := hx6.c rfl
    have z0 := hr6.f 0
    have z1 := hr6.f 1
    have z2 := hr6.f 2
    have z3 : w6.cell? ⟨r, 0, none⟩ = some (.int .i64 0) := hr6.c rfl
    have z4 : w6.cell? ⟨r, 1, none⟩ = some (.string ⟨#[]⟩) := hr6.c rfl
    have z5 : w6.cell? ⟨r, 2, none⟩ = some (.int .u64 0) := hr6.c rfl
    go_wp2_with fail
    obtain ⟨zB, zA, zS⟩ := rep3 h h6 s6 hr6 (by omega) (.int .i64 0) (.string (str x.val)) (.int .u64 (x.ver : Int))
    exact bodyPost_ret (results_cell_row rfl _ _ r 61 _ _ _ rfl zB Tryz.underlying61 rfl (by kernel_rfl)) rfl ⟨by rw [HP.out]; rfl, H6, by rw [HP.out, Sv.ask, HV.out, hU]; exact zA, zS⟩
set_option maxHeartbeats 4000000 in
set_option maxRecDepth 100000 in
theorem del_s (hB : s.Base) (hk : k.length ≤ 64) (h : At w0 w b T M C S H s) :
    Calls Tryz.prog 91 #[tp b, .string (str k)] w fun e w' => e = .returned (.agg (s.del k).2.cs) ∧ ∃ H', At w0 w' b T M C S H' (s.del k).1 ∧ Stp b T M S w H w' H' := by
  have hlen := hB.len.2
  have hn2 := hB.n2
  have h1 := h.alloc (.cells rep0 61)
  have hr1 := Loc.new h 61 rep0
  have s1 : Stp b T M S w H (w.alloc (.cells rep0 61)) H := .of_below ((Below.refl _ w).alloc (Nat.le_refl _) _) (Nat.le_refl _)
  go_enter Tryz.func91, Tryz.ntmps91
  go_upto_region 1 with (fail)
  generalize w.alloc (.cells rep0 61) = w1 at *
  have hrq : w.heap.size ≤ w.heap.size := Nat.le_refl _
  generalize hr : w.heap.size = r at hr1 hrq ⊢
  obtain ⟨-, -, -, -, -, -, -, -, -, c9, -, -⟩ := h1.cs
  cases e : find k s.m with
  | none =>
    have hP : s.del k = (s, .of 2) := by unfold Sv.del; rw [e]
    have HP := Lib.hid hP
    clear hP
    go_wp2_with fail
    refine (look_no hk e h1).mono ?_
    rintro e' w3 ⟨rfl, hb3⟩
    have h4 := (h1.below hb3).alloc (.cells #[.string ⟨#[]⟩, .string ⟨#[]⟩, .int .u64 0, .int .u64 0] 81)
    have hr4 := (hr1.below hb3).alloc (.cells #[.string ⟨#[]⟩, .string ⟨#[]⟩, .int .u64 0, .int .u64 0] 81)
    have s4 : Stp b T M S w H (w3.alloc (.cells #[.string ⟨#[]⟩, .string ⟨#[]⟩, .int .u64 0, .int .u64 0] 81)) H := (s1.later hb3 (Nat.le_refl _)).later ((Below.refl _ w3).alloc (Nat.le_refl _) _) (Nat.le_refl _)
    clear h1 hr1 s1 c9 hb3
    go_upto_region 2 with (fail)
    generalize w3.alloc (.cells #[.string ⟨#[]⟩, .string ⟨#[]⟩, .int .u64 0, .int .u64 0] 81) = w4 at *
    have z0 := hr4.f 0
    have z1 := hr4.f 1
    have z2 := hr4.f 2
    have z3 : w4.cell? ⟨r, 0, none⟩ = some (.int .i64 0) := hr4.c rfl
    have z4 : w4.cell? ⟨r, 1, none⟩ = some (.string ⟨#[]⟩) := hr4.c rfl
    have z5 : w4.cell? ⟨r, 2, none⟩ = some (.int .u64 0) := hr4.c rfl
    go_wp2_with fail
    obtain ⟨zB, zA, zS⟩ := rep3 h h4 s4 hr4 (by omega) (.int .i64 2) (.string ⟨#[]⟩) (.int .u64 0)
    exact bodyPost_ret (results_cell_row rfl _ _ r 61 _ _ _ rfl zB Tryz.underlying61 rfl (by kernel_rfl)) rfl ⟨by rw [HP.out]; rfl, H, by rw [HP.out]; exact zA, zS⟩
  | some x =>
    have hP : s.del k = (s.away k, ⟨0, [], x.ver⟩) := by unfold Sv.del; rw [e]
    have HP := Lib.hid hP
    clear hP
    go_wp2_with fail
    refine (look_yes hk e h1).mono ?_
    rintro e' w3 ⟨rfl, hb3⟩
    have h4 := (h1.below hb3).alloc (.cells x.cs 81)
    have hr4 := (hr1.below hb3).alloc (.cells x.cs 81)
    have hx4 := Loc.new (h1.below hb3) 81 x.cs
    have s4 : Stp b T M S w H (w3.alloc (.cells x.cs 81)) H := (s1.later hb3 (Nat.le_refl _)).later ((Below.refl _ w3).alloc (Nat.le_refl _) _) (Nat.le_refl _)
    clear h1 hr1 s1 c9 hb3
    go_upto_region 2 with (fail)
    generalize w3.alloc (.cells x.cs 81) = w4 at *
    generalize w3.heap.size = p at *
    go_wp2_with fail
    refine (away_s hk (by omega) h4).mono ?_
    rintro e' w6 ⟨rfl, H6, h6, s6⟩
    have hr6 := hr4.step s6
    have hx6 := hx4.step s6
    replace s6 := s4.trans s6
    clear h4 hr4 hx4 s4
    have x2 : w6.cell? ⟨p, 2, none⟩ = some (.int .u64 (x.ver : Int)) := hx6.c rfl
    have z0 := hr6.f 0
    have z1 := hr6.f 1
    have z2 := hr6.f 2
    have z3 : w6.cell? ⟨r, 0, none⟩ = some (.int .i64 0) := hr6.c rfl
    have z4 : w6.cell? ⟨r, 1, none⟩ = some (.string ⟨#[]⟩) := hr6.c rfl
    have z5 : w6.cell? ⟨r, 2, none⟩ = some (.int .u64 0) := hr6.c rfl
    go_wp2_with fail
    obtain ⟨zB, zA, zS⟩ := rep3 h h6 s6 hr6 (by omega) (.int .i64 0) (.string ⟨#[]⟩) (.int .u64 (x.ver : Int))
    exact bodyPost_ret (results_cell_row rfl _ _ r 61 _ _ _ rfl zB Tryz.underlying61 rfl (by kernel_rfl)) rfl ⟨by rw [HP.out]; rfl, H6, by rw [HP.out]; exact zA, zS⟩
end
end Go.Proofs.YtlnjnpchkdipdaaGreat.Storey
