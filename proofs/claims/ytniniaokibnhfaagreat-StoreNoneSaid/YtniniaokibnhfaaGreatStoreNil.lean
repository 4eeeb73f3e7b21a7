/- The program's cache where there is none: nothing; and which caches may be, as the document has it. No condition. -/
import Derived.Test.YtniniaokibnhfaaGreatStoreKnownAll
namespace Go.Proofs.YtniniaokibnhfaaGreat.Storey
open Go.ChangeShapes Go.WideShapes Go.ChangeAt Go.RowKit
open Wirey (Blk Row str str_size str_list Kp)
open Taby (En TabAt Tbl tp find ins drop size ended St)
open Policyy (Pv HeldP StepP Tell)
open Ringy (Key)
open Regy

section
variable {w0 w w' w'' : World} {B b T M C S : Nat} {H H' : Nat → Prop} {s t : Sv} {k : Key} {v : Value} {l : List Key} {o : Opn} {x : Rcd}
theorem results_3 {fn : Func} {p t u : Tmp} {ty : TypeId} {P : Program} (h : fn.results = #[.tmp t, .cell p ty, .tmp u]) (tmps : Array Value) (w : World) (g : Nat) {cs : Array Value}
    (hp : tmps.getD p undef = .pointer (some ⟨g, 0, none⟩)) (hl : (loadVar ty ⟨g, 0, none⟩).run P w = .ok (.agg cs) w) :
    (results fn tmps).run P w = .ok (.tuple #[tmps.getD t undef, .agg cs, tmps.getD u undef]) w := by
  have hp' : tmps[p]?.getD undef = .pointer (some ⟨g, 0, none⟩) := by simpa using hp
  simp [results, h, hp', asAddr, Result.andThen, hl]
theorem made_n (w : World) : Calls Tryz.prog 36 #[.pointer none] w fun e w' => e = .returned (.bool false) ∧ w = w' := by
  go_enter Tryz.func36, Tryz.ntmps36
  go_wp2_with fail
  go_ret
  exact ⟨rfl, rfl⟩
theorem seq_n (w : World) : Calls Tryz.prog 17 #[.pointer none] w fun e w' => e = .returned (.int .u64 0) ∧ w = w' := by
  go_enter Tryz.func17, Tryz.ntmps17
  go_wp2_with fail
  refine (made_n _).mono ?_
  rintro e w' ⟨rfl, rfl⟩
  go_wp2_with fail
  go_ret
  exact ⟨rfl, rfl⟩
theorem now_n (w : World) : Calls Tryz.prog 28 #[.pointer none] w fun e w' => e = .returned (.int .u64 0) ∧ w = w' := by
  go_enter Tryz.func28, Tryz.ntmps28
  go_wp2_with fail
  refine (made_n _).mono ?_
  rintro e w' ⟨rfl, rfl⟩
  go_wp2_with fail
  go_ret
  exact ⟨rfl, rfl⟩
theorem entries_n (w : World) : Calls Tryz.prog 26 #[.pointer none] w fun e w' => e = .returned (.slice none 0 0) ∧ w = w' := by
  go_enter Tryz.func26, Tryz.ntmps26
  go_wp2_with fail
  refine (made_n _).mono ?_
  rintro e w' ⟨rfl, rfl⟩
  go_wp2_with fail
  go_ret
  exact ⟨rfl, rfl⟩
theorem export_n (w : World) : Calls Tryz.prog 22 #[.pointer none] w fun e w' => e = .returned (.string ⟨#[]⟩) ∧ w = w' := by
  go_enter Tryz.func22, Tryz.ntmps22
  go_wp2_with fail
  refine (made_n _).mono ?_
  rintro e w' ⟨rfl, rfl⟩
  go_wp2_with fail
  go_ret
  exact ⟨rfl, rfl⟩
theorem copy_n (w : World) : Calls Tryz.prog 30 #[.pointer none] w fun e w' => e = .returned (.pointer none) ∧ w = w' := by
  go_enter Tryz.func30, Tryz.ntmps30
  go_wp2_with fail
  refine (made_n _).mono ?_
  rintro e w' ⟨rfl, rfl⟩
  go_wp2_with fail
  go_ret
  exact ⟨rfl, rfl⟩
theorem tally_n (w : World) : Calls Tryz.prog 27 #[.pointer none] w fun e w' => e = .returned (.agg #[.int .i64 0, .int .i64 0]) ∧ Below w.heap.size w w' := by
  go_enter Tryz.func27, Tryz.ntmps27
  go_wp2_with fail
  refine (made_n _).mono ?_
  rintro e w' ⟨rfl, rfl⟩
  go_wp2_with fail
  exact bodyPost_ret (results_cell_row rfl _ _ w.heap.size 78 _ _ _ rfl (Blk.new w _ _) Tryz.underlying78 rfl (by kernel_rfl)) rfl ⟨rfl, (Below.refl _ w).alloc (Nat.le_refl _) _⟩
theorem config_n (w : World) : Calls Tryz.prog 24 #[.pointer none] w fun e w' => e = .returned (.agg #[.int .i64 0, .int .i64 0, .int .i64 0, .int .u64 0]) ∧ Below w.heap.size w w' := by
  go_enter Tryz.func24, Tryz.ntmps24
  go_wp2_with fail
  refine (made_n _).mono ?_
  rintro e w' ⟨rfl, rfl⟩
  go_wp2_with fail
  exact bodyPost_ret (results_cell_row rfl _ _ w.heap.size 24 _ _ _ rfl (Blk.new w _ _) Tryz.underlying24 rfl (by kernel_rfl)) rfl ⟨rfl, (Below.refl _ w).alloc (Nat.le_refl _) _⟩
set_option maxHeartbeats 4000000 in
set_option maxRecDepth 100000 in
theorem told_n (i : Int) (w : World) : Calls Tryz.prog 21 #[.pointer none, .int .u64 i] w fun e w' => e = .returned (.tuple #[.int .u64 0, .agg rep0, .bool false]) ∧ Below w.heap.size w w' := by
  go_enter Tryz.func21, Tryz.ntmps21
  go_wp2_with fail
  refine (made_n _).mono ?_
  rintro e w' ⟨rfl, rfl⟩
  go_wp2_with fail
  refine bodyPost_ret (results_3 rfl _ _ w.heap.size rfl (run_loadVar_row _ _ _ _ _ _ _ (Blk.new w 61 rep0) Tryz.underlying61 rfl (by kernel_rfl))) rfl ⟨rfl, (Below.refl _ w).alloc (Nat.le_refl _) _⟩
set_option maxHeartbeats 4000000 in
set_option maxRecDepth 100000 in
theorem apply_n (x : Rcd) (w : World) : Calls Tryz.prog 18 #[.pointer none, .agg x.cs] w fun e w' => e = .returned (.tuple #[.agg rep0, .int .i64 1]) ∧ Below w.heap.size w w' := by
  have hb := ((Below.refl _ w).alloc (Nat.le_refl _) (.cells x.cs 54)).alloc (by simp) (.cells rep0 61)
  have hB := Blk.new (w.alloc (.cells x.cs 54)) 61 rep0
  rw [show (w.alloc (.cells x.cs 54)).heap.size = w.heap.size + 1 by simp] at hB
  go_enter Tryz.func18, Tryz.ntmps18
  go_wp2_with fail
  refine (made_n _).mono ?_
  rintro e w' ⟨rfl, rfl⟩
  go_wp2_with fail
  refine bodyPost_ret (Taby.results_row_tmp rfl _ _ (w.heap.size + 1) rfl (run_loadVar_row _ _ _ _ _ _ _ hB Tryz.underlying61 rfl (by kernel_rfl))) rfl ⟨rfl, hb⟩
set_option maxHeartbeats 4000000 in
set_option maxRecDepth 100000 in
theorem rcheck_c (k n bytes seed : Int) (w : World) : Calls Tryz.prog 32 #[.agg #[.int .i64 k, .int .i64 n, .int .i64 bytes, .int .u64 seed]] w fun e w' => e = .returned (.bool (mayB k n bytes)) ∧ Below w.heap.size w w' := by
  have hb := (Below.refl _ w).alloc (Nat.le_refl _) (.cells #[.int .i64 k, .int .i64 n, .int .i64 bytes, .int .u64 seed] 24)
  have HB := Lib.hid hb
  clear hb
  unfold mayB
  by_cases k1 : k = 1
  · subst k1
    have e0 : decide ((1 : Int) = 1) = true := rfl
    rw [e0]
    by_cases a0 : 1 ≤ n
    case neg =>
      have da0 : decide (1 ≤ n) = false := decide_eq_false a0
      have pa0 : decide ((0 : Int) < n) = false := decide_eq_false (by omega)
      have ppa0 : ¬ (0 : Int) < n := by omega
      rw [da0]
      simp only [Bool.and_false, Bool.false_and]
      go_enter Tryz.func32, Tryz.ntmps32
      go_wp2_with fail
      go_ret
      exact ⟨rfl, HB.out⟩
    have da0 : decide (1 ≤ n) = true := decide_eq_true a0
    have pa0 : decide ((0 : Int) < n) = true := decide_eq_true (by omega)
    have ppa0 : (0 : Int) < n := by omega
    by_cases a1 : n ≤ 1000
    case neg =>
      have da1 : decide (n ≤ 1000) = false := decide_eq_false a1
      rw [da1]
      simp only [Bool.and_false, Bool.false_and]
      go_enter Tryz.func32, Tryz.ntmps32
      go_wp2_with fail
      go_ret
      exact ⟨rfl, HB.out⟩
    have da1 : decide (n ≤ 1000) = true := decide_eq_true a1
    by_cases a2 : 1 ≤ bytes
    case neg =>
      have da2 : decide (1 ≤ bytes) = false := decide_eq_false a2
      have pa2 : decide ((0 : Int) < bytes) = false := decide_eq_false (by omega)
      have ppa2 : ¬ (0 : Int) < bytes := by omega
      rw [da2]
      simp only [Bool.and_false, Bool.false_and]
      go_enter Tryz.func32, Tryz.ntmps32
      go_wp2_with fail
      go_ret
      exact ⟨rfl, HB.out⟩
    have da2 : decide (1 ≤ bytes) = true := decide_eq_true a2
    have pa2 : decide ((0 : Int) < bytes) = true := decide_eq_true (by omega)
    have ppa2 : (0 : Int) < bytes := by omega
    by_cases a3 : bytes ≤ 1048576
    case neg =>
      have da3 : decide (bytes ≤ 1048576) = false := decide_eq_false a3
      rw [da3]
      simp only [Bool.and_false]
      go_enter Tryz.func32, Tryz.ntmps32
      go_wp2_with fail
      go_ret
      exact ⟨rfl, HB.out⟩
    have da3 : decide (bytes ≤ 1048576) = true := decide_eq_true a3
    rw [da0, da1, da2, da3]
    simp only [Bool.and_true, Bool.true_or]
    go_enter Tryz.func32, Tryz.ntmps32
    go_wp2_with fail
    go_ret
    exact ⟨rfl, HB.out⟩
  have e1 : (k == 1) = false := beq_eq_false_iff_ne.2 k1
  have f1 : decide (k = 1) = false := decide_eq_false k1
  by_cases k2 : k = 2
  · subst k2
    rw [f1]
    have e0 : decide ((2 : Int) = 2) = true := rfl
    rw [e0]
    by_cases a0 : 1 ≤ n
    case neg =>
      have da0 : decide (1 ≤ n) = false := decide_eq_false a0
      have pa0 : decide ((0 : Int) < n) = false := decide_eq_false (by omega)
      have ppa0 : ¬ (0 : Int) < n := by omega
      rw [da0]
      simp only [Bool.and_false, Bool.false_and]
      go_enter Tryz.func32, Tryz.ntmps32
      go_wp2_with fail
      go_ret
      exact ⟨rfl, HB.out⟩
    have da0 : decide (1 ≤ n) = true := decide_eq_true a0
    have pa0 : decide ((0 : Int) < n) = true := decide_eq_true (by omega)
    have ppa0 : (0 : Int) < n := by omega
    by_cases a1 : n ≤ 1000
    case neg =>
      have da1 : decide (n ≤ 1000) = false := decide_eq_false a1
      rw [da1]
      simp only [Bool.and_false, Bool.false_and]
      go_enter Tryz.func32, Tryz.ntmps32
      go_wp2_with fail
      go_ret
      exact ⟨rfl, HB.out⟩
    have da1 : decide (n ≤ 1000) = true := decide_eq_true a1
    by_cases a2 : 1 ≤ bytes
    case neg =>
      have da2 : decide (1 ≤ bytes) = false := decide_eq_false a2
      have pa2 : decide ((0 : Int) < bytes) = false := decide_eq_false (by omega)
      have ppa2 : ¬ (0 : Int) < bytes := by omega
      rw [da2]
      simp only [Bool.and_false, Bool.false_and]
      go_enter Tryz.func32, Tryz.ntmps32
      go_wp2_with fail
      go_ret
      exact ⟨rfl, HB.out⟩
    have da2 : decide (1 ≤ bytes) = true := decide_eq_true a2
    have pa2 : decide ((0 : Int) < bytes) = true := decide_eq_true (by omega)
    have ppa2 : (0 : Int) < bytes := by omega
    by_cases a3 : bytes ≤ 1048576
    case neg =>
      have da3 : decide (bytes ≤ 1048576) = false := decide_eq_false a3
      rw [da3]
      simp only [Bool.and_false]
      go_enter Tryz.func32, Tryz.ntmps32
      go_wp2_with fail
      go_ret
      exact ⟨rfl, HB.out⟩
    have da3 : decide (bytes ≤ 1048576) = true := decide_eq_true a3
    rw [da0, da1, da2, da3]
    simp only [Bool.and_true, Bool.or_true]
    go_enter Tryz.func32, Tryz.ntmps32
    go_wp2_with fail
    go_ret
    exact ⟨rfl, HB.out⟩
  have e2 : (k == 2) = false := beq_eq_false_iff_ne.2 k2
  have f2 : decide (k = 2) = false := decide_eq_false k2
  rw [f1, f2]
  simp only [Bool.or_false, Bool.false_and]
  go_enter Tryz.func32, Tryz.ntmps32
  go_wp2_with fail
  go_ret
  exact ⟨rfl, HB.out⟩
end
end Go.Proofs.YtniniaokibnhfaaGreat.Storey
