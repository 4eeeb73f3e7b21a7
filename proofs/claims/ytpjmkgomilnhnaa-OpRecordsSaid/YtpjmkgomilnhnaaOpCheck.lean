/- Layer 10: what the program's Check answers. The only condition: no text is longer than a text may be. -/
import Derived.Test.YtpjmkgomilnhnaaOpMath
import Derived.Test.YtpjmkgomilnhnaaWireFly
namespace Go.Proofs.Ytpjmkgomilnhnaa.Opy
open Go.ChangeShapes Go.WideShapes Go.ChangeAt Go.RowKit
open Wirey (Blk Row str str_size str_list str_cat enc)

set_option maxHeartbeats 4000000 in
set_option maxRecDepth 100000 in
theorem pcheck_c (k : Int) (key val : List UInt8) (t v : Nat) (hk : key.length ≤ maxLen) (hv : val.length ≤ maxLen) (w : World) :
    Calls Try.prog 7 #[.agg #[.int .i64 k, .string (str key), .string (str val), .int .u64 (t : Int), .int .u64 (v : Int)]] w fun e w' => e = .returned (.bool (chk k key val t v)) ∧ Below w.heap.size w w' := by
  unfold maxLen at hk hv
  have hsz := str_size
  have htl := Wirey.toList_str
  have hb := (Below.refl _ w).alloc (Nat.le_refl _) (.cells #[.int .i64 k, .string (str key), .string (str val), .int .u64 (t : Int), .int .u64 (v : Int)] 24)
  have HB := Lib.hid hb
  clear hb
  by_cases a1 : 64 < key.length
  · have d1 : decide ((64 : Int) < (key.length : Int)) = true := decide_eq_true (by omega)
    have hc : chk k key val t v = false := if_pos (.inl a1)
    rw [hc]
    clear hc
    go_enter Try.func7, Try.ntmps7
    go_wp2_with fail
    go_ret
    exact ⟨rfl, HB.out⟩
  have d1 : decide ((64 : Int) < (key.length : Int)) = false := decide_eq_false (by omega)
  by_cases a2 : 4096 < val.length
  · have d2 : decide ((4096 : Int) < (val.length : Int)) = true := decide_eq_true (by omega)
    have hc : chk k key val t v = false := if_pos (.inr (.inl a2))
    rw [hc]
    clear hc
    go_enter Try.func7, Try.ntmps7
    go_wp2_with fail
    go_ret
    exact ⟨rfl, HB.out⟩
  have d2 : decide ((4096 : Int) < (val.length : Int)) = false := decide_eq_false (by omega)
  by_cases a3 : 1073741824 < t
  · have d3 : decide ((1073741824 : Int) < (t : Int)) = true := decide_eq_true (by omega)
    have hc : chk k key val t v = false := if_pos (.inr (.inr a3))
    rw [hc]
    clear hc
    go_enter Try.func7, Try.ntmps7
    go_wp2_with fail
    go_ret
    exact ⟨rfl, HB.out⟩
  have d3 : decide ((1073741824 : Int) < (t : Int)) = false := decide_eq_false (by omega)
  have hc : chk k key val t v = (if k = 1 ∨ k = 3 then !key.isEmpty && (val.isEmpty && decide (t = 0)) && decide (v = 0) else if k = 2 then !key.isEmpty && decide (v = 0) else if k = 4 then !key.isEmpty && decide (0 < v) else if k = 5 then key.isEmpty && (val.isEmpty && decide (t = 0)) && decide (v = 0) else false) := if_neg (by omega)
  rw [hc]
  clear hc a1 a2 a3
  have f1 : (key == ([] : List UInt8)) = key.isEmpty := by cases key <;> rfl
  have f2 : (val == ([] : List UInt8)) = val.isEmpty := by cases val <;> rfl
  have f3 : ((t : Int) == 0) = decide (t = 0) := by
    by_cases h : t = 0
    · subst h; rfl
    · rw [decide_eq_false h, beq_eq_false_iff_ne]; omega
  have f4 : ((v : Int) == 0) = decide (v = 0) := by
    by_cases h : v = 0
    · subst h; rfl
    · rw [decide_eq_false h, beq_eq_false_iff_ne]; omega
  have fe : (⟨#[]⟩ : ByteArray).toList = [] := Wirey.toList_str []
  generalize key.isEmpty = b1 at *
  generalize val.isEmpty = b2 at *
  generalize decide (t = 0) = b3 at *
  generalize decide (v = 0) = b4 at *
  by_cases h1 : k = 1
  · subst h1
    rw [if_pos (.inl rfl)]
    cases b1 <;> cases b2 <;> cases b3 <;> cases b4
    all_goals
      go_enter Try.func7, Try.ntmps7
      go_wp2_with fail
      go_ret
      exact ⟨rfl, HB.out⟩
  by_cases h3 : k = 3
  · subst h3
    rw [if_pos (.inr rfl)]
    cases b1 <;> cases b2 <;> cases b3 <;> cases b4
    all_goals
      go_enter Try.func7, Try.ntmps7
      go_wp2_with fail
      go_ret
      exact ⟨rfl, HB.out⟩
  by_cases h2 : k = 2
  · subst h2
    rw [if_neg (by decide), if_pos rfl]
    cases b1 <;> cases b2
    all_goals
      go_enter Try.func7, Try.ntmps7
      go_wp2_with fail
      go_ret
      exact ⟨rfl, HB.out⟩
  by_cases h4 : k = 4
  · subst h4
    rw [if_neg (by decide), if_neg (by decide), if_pos rfl]
    cases b1 <;> cases b2
    all_goals
      go_enter Try.func7, Try.ntmps7
      go_wp2_with fail
      go_ret
      exact ⟨rfl, HB.out⟩
  by_cases h5 : k = 5
  · subst h5
    rw [if_neg (by decide), if_neg (by decide), if_neg (by decide), if_pos rfl]
    cases b1 <;> cases b2 <;> cases b3 <;> cases b4
    all_goals
      go_enter Try.func7, Try.ntmps7
      go_wp2_with fail
      go_ret
      exact ⟨rfl, HB.out⟩
  rw [if_neg (by omega), if_neg h2, if_neg h4, if_neg h5]
  have g1 : (k == 1) = false := beq_eq_false_iff_ne.2 h1
  have g2 : (k == 2) = false := beq_eq_false_iff_ne.2 h2
  have g3 : (k == 3) = false := beq_eq_false_iff_ne.2 h3
  have g4 : (k == 4) = false := beq_eq_false_iff_ne.2 h4
  have g5 : (k == 5) = false := beq_eq_false_iff_ne.2 h5
  cases b2
  all_goals
    go_enter Try.func7, Try.ntmps7
    go_wp2_with fail
    go_ret
    exact ⟨rfl, HB.out⟩
end Go.Proofs.Ytpjmkgomilnhnaa.Opy
