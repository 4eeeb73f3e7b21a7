/- Contracts of a Reader's text and of its yes or no (layer 3), whatever limit; of the functions text and flag of the laws' own, and of num where it fails. Nothing that was there turns. -/
import Derived.Test.YtmoammadibepkaaDoorWireTake
import Derived.Test.YtmoammadibepkaaDoorWireRefMore
namespace Go.Proofs.YtmoammadibepkaaDoor.Wirey
open Go.ChangeShapes Go.WideShapes Go.ChangeAt Go.RowKit

set_option maxHeartbeats 2000000 in
theorem gtext_ok {R O : Nat} {l : List UInt8} {n k : Nat} (top : Int) (htop : top ≤ 9223372036854775807) (hR : numR l = (n, k, 0)) (ht : n ≤ topN top) (hn : k + n ≤ l.length) (hl : l.length < 1099511627776) (w : World) (h : RS w R O l) :
    Calls Tryd.prog 34 #[.pointer (some ⟨R, 0, none⟩), .int .i64 top] w (Took w R O (.string (str ((l.drop k).take n))) (l.drop (k + n))) := by
  have HR := Lib.hid hR
  have hkl := numR_le HR.out
  clear hR
  by_cases h0 : top < 0
  · have h1 : topN top = 0 := if_pos h0
    have hmx : max top 0 = 0 := by omega
    rw [h1] at ht
    go_enter Tryd.func34, Tryd.ntmps34
    go_wp2_with fail
    refine (num_ok 0 HR.out ht hl _ h).mono ?_
    rintro e w1 ⟨rfl, hk1, hr1⟩
    go_wp2_with fail
    refine (bytes_ok n (by rw [List.length_drop]; omega) (by rw [List.length_drop]; omega) _ hr1).mono ?_
    rintro e w2 ⟨rfl, hk2, hr2⟩
    rw [List.drop_drop] at hr2
    go_wp2_with fail
    go_ret
    exact ⟨rfl, hk1.trans hk2, hr2⟩
  · have h1 : (topN top : Int) = top := by unfold topN; rw [if_neg h0]; omega
    obtain ⟨T, hT⟩ : ∃ T, T = topN top := ⟨_, rfl⟩
    rw [← hT] at h1 ht
    subst h1
    clear hT
    have hmx : max (T : Int) 0 = (T : Int) := by omega
    go_enter Tryd.func34, Tryd.ntmps34
    go_wp2_with fail
    refine (num_ok T HR.out ht hl _ h).mono ?_
    rintro e w1 ⟨rfl, hk1, hr1⟩
    go_wp2_with fail
    refine (bytes_ok n (by rw [List.length_drop]; omega) (by rw [List.length_drop]; omega) _ hr1).mono ?_
    rintro e w2 ⟨rfl, hk2, hr2⟩
    rw [List.drop_drop] at hr2
    go_wp2_with fail
    go_ret
    exact ⟨rfl, hk1.trans hk2, hr2⟩

set_option maxHeartbeats 2000000 in
theorem gtext_short {R O : Nat} {l : List UInt8} {n k : Nat} (top : Int) (htop : top ≤ 9223372036854775807) (hR : numR l = (n, k, 0)) (ht : n ≤ topN top) (hn : l.length < k + n) (hl : l.length < 1099511627776) (w : World) (h : RS w R O l) :
    Calls Tryd.prog 34 #[.pointer (some ⟨R, 0, none⟩), .int .i64 top] w (Fell w R O 4) := by
  have HR := Lib.hid hR
  have hkl := numR_le HR.out
  clear hR
  by_cases h0 : top < 0
  · have h1 : topN top = 0 := if_pos h0
    have hmx : max top 0 = 0 := by omega
    rw [h1] at ht
    go_enter Tryd.func34, Tryd.ntmps34
    go_wp2_with fail
    refine (num_ok 0 HR.out ht hl _ h).mono ?_
    rintro e w1 ⟨rfl, hk1, hr1⟩
    go_wp2_with fail
    refine (bytes_short (n : Int) (.inr (by rw [List.length_drop]; omega)) _ hr1).mono ?_
    rintro e w2 ⟨rfl, hk2, hr2⟩
    exact ⟨rfl, rfl, hk1.trans hk2, hr2⟩
  · have h1 : (topN top : Int) = top := by unfold topN; rw [if_neg h0]; omega
    obtain ⟨T, hT⟩ : ∃ T, T = topN top := ⟨_, rfl⟩
    rw [← hT] at h1 ht
    subst h1
    clear hT
    have hmx : max (T : Int) 0 = (T : Int) := by omega
    go_enter Tryd.func34, Tryd.ntmps34
    go_wp2_with fail
    refine (num_ok T HR.out ht hl _ h).mono ?_
    rintro e w1 ⟨rfl, hk1, hr1⟩
    go_wp2_with fail
    refine (bytes_short (n : Int) (.inr (by rw [List.length_drop]; omega)) _ hr1).mono ?_
    rintro e w2 ⟨rfl, hk2, hr2⟩
    exact ⟨rfl, rfl, hk1.trans hk2, hr2⟩

set_option maxHeartbeats 2000000 in
theorem gtext_over {R O : Nat} {l : List UInt8} {n k : Nat} (top : Int) (htop : top ≤ 9223372036854775807) (hR : numR l = (n, k, 0)) (ht : topN top < n) (hl : l.length < 1099511627776) (w : World) (h : RS w R O l) :
    Calls Tryd.prog 34 #[.pointer (some ⟨R, 0, none⟩), .int .i64 top] w (Fell w R O 3) := by
  have HR := Lib.hid hR
  clear hR
  by_cases h0 : top < 0
  · have h1 : topN top = 0 := if_pos h0
    have hmx : max top 0 = 0 := by omega
    rw [h1] at ht
    go_enter Tryd.func34, Tryd.ntmps34
    go_wp2_with fail
    refine (num_over 0 HR.out ht hl _ h).mono ?_
    rintro e w1 ⟨rfl, hk1, hr1⟩
    exact ⟨rfl, rfl, hk1, hr1⟩
  · have h1 : (topN top : Int) = top := by unfold topN; rw [if_neg h0]; omega
    obtain ⟨T, hT⟩ : ∃ T, T = topN top := ⟨_, rfl⟩
    rw [← hT] at h1 ht
    subst h1
    clear hT
    have hmx : max (T : Int) 0 = (T : Int) := by omega
    go_enter Tryd.func34, Tryd.ntmps34
    go_wp2_with fail
    refine (num_over T HR.out ht hl _ h).mono ?_
    rintro e w1 ⟨rfl, hk1, hr1⟩
    exact ⟨rfl, rfl, hk1, hr1⟩

set_option maxHeartbeats 2000000 in
theorem gtext_bad {R O : Nat} {l : List UInt8} {n k e0 : Nat} (top : Int) (htop : top ≤ 9223372036854775807) (hR : numR l = (n, k, e0)) (he : e0 ≠ 0) (hl : l.length < 1099511627776) (w : World) (h : RS w R O l) :
    Calls Tryd.prog 34 #[.pointer (some ⟨R, 0, none⟩), .int .i64 top] w (Fell w R O e0) := by
  have HR := Lib.hid hR
  clear hR
  by_cases h0 : top < 0
  · have h1 : topN top = 0 := if_pos h0
    have hmx : max top 0 = 0 := by omega
    go_enter Tryd.func34, Tryd.ntmps34
    go_wp2_with fail
    refine (num_bad 0 HR.out he hl _ h).mono ?_
    rintro e w1 ⟨rfl, hk1, hr1⟩
    exact ⟨rfl, rfl, hk1, hr1⟩
  · have h1 : (topN top : Int) = top := by unfold topN; rw [if_neg h0]; omega
    obtain ⟨T, hT⟩ : ∃ T, T = topN top := ⟨_, rfl⟩
    rw [← hT] at h1
    subst h1
    clear hT
    have hmx : max (T : Int) 0 = (T : Int) := by omega
    go_enter Tryd.func34, Tryd.ntmps34
    go_wp2_with fail
    refine (num_bad T HR.out he hl _ h).mono ?_
    rintro e w1 ⟨rfl, hk1, hr1⟩
    exact ⟨rfl, rfl, hk1, hr1⟩

set_option maxHeartbeats 2000000 in
theorem wflag_true (w : World) :
    Calls Tryd.prog 24 #[.bool true] w fun e w' => e = .returned (.string (str [1])) ∧ w = w' := by
  go_enter Tryd.func24, Tryd.ntmps24
  go_wp2_with fail
  go_ret
  exact ⟨rfl, rfl⟩
set_option maxHeartbeats 2000000 in
theorem wflag_false (w : World) :
    Calls Tryd.prog 24 #[.bool false] w fun e w' => e = .returned (.string (str [0])) ∧ w = w' := by
  go_enter Tryd.func24, Tryd.ntmps24
  go_wp2_with fail
  go_ret
  exact ⟨rfl, rfl⟩
set_option maxHeartbeats 4000000 in
theorem rflag_yes {R O : Nat} {l : List UInt8} (hl : l.length < 549755813888) (w : World) (h : RS w R O (1 :: l)) :
    Calls Tryd.prog 35 #[.pointer (some ⟨R, 0, none⟩)] w (Took w R O (.bool true) l) := by
  have htl := toList_str
  go_enter Tryd.func35, Tryd.ntmps35
  go_wp2_with fail
  refine (bytes_ok 1 (by simp) (by rw [List.length_cons]; omega) _ h).mono ?_
  rintro e w1 ⟨rfl, hk1, hr1⟩
  rw [List.drop_succ_cons, List.drop_zero] at hr1
  rw [List.take_succ_cons, List.take_zero]
  go_wp2_with fail
  refine (wflag_true _).mono ?_
  rintro e w' ⟨rfl, rfl⟩
  go_wp2_with fail
  refine (must_ok _).mono ?_
  rintro e w' ⟨rfl, rfl⟩
  go_wp2_with fail
  refine (wflag_true _).mono ?_
  rintro e w' ⟨rfl, rfl⟩
  go_wp2_with fail
  go_ret
  exact ⟨rfl, hk1, hr1⟩
set_option maxHeartbeats 4000000 in
theorem rflag_no {R O : Nat} {l : List UInt8} (hl : l.length < 549755813888) (w : World) (h : RS w R O (0 :: l)) :
    Calls Tryd.prog 35 #[.pointer (some ⟨R, 0, none⟩)] w (Took w R O (.bool false) l) := by
  have htl := toList_str
  go_enter Tryd.func35, Tryd.ntmps35
  go_wp2_with fail
  refine (bytes_ok 1 (by simp) (by rw [List.length_cons]; omega) _ h).mono ?_
  rintro e w1 ⟨rfl, hk1, hr1⟩
  rw [List.drop_succ_cons, List.drop_zero] at hr1
  rw [List.take_succ_cons, List.take_zero]
  go_wp2_with fail
  refine (wflag_true _).mono ?_
  rintro e w' ⟨rfl, rfl⟩
  go_wp2_with fail
  refine (wflag_false _).mono ?_
  rintro e w' ⟨rfl, rfl⟩
  go_wp2_with fail
  refine (must_ok _).mono ?_
  rintro e w' ⟨rfl, rfl⟩
  go_wp2_with fail
  refine (wflag_true _).mono ?_
  rintro e w' ⟨rfl, rfl⟩
  go_wp2_with fail
  go_ret
  exact ⟨rfl, hk1, hr1⟩
set_option maxHeartbeats 4000000 in
theorem rflag_bad {R O : Nat} {l : List UInt8} {c : UInt8} (hl : l.length < 549755813888) (hc : 1 < c.toNat) (w : World) (h : RS w R O (c :: l)) :
    Calls Tryd.prog 35 #[.pointer (some ⟨R, 0, none⟩)] w (Fell w R O 6) := by
  have htl := toList_str
  have hc1 : (c == 1) = false := by rw [beq_eq_false_iff_ne]; intro e; subst e; exact absurd hc (by decide)
  have hc0 : (c == 0) = false := by rw [beq_eq_false_iff_ne]; intro e; subst e; exact absurd hc (by decide)
  go_enter Tryd.func35, Tryd.ntmps35
  go_wp2_with fail
  refine (bytes_ok 1 (by simp) (by rw [List.length_cons]; omega) _ h).mono ?_
  rintro e w1 ⟨rfl, hk1, hr1⟩
  rw [List.drop_succ_cons, List.drop_zero] at hr1
  rw [List.take_succ_cons, List.take_zero]
  go_wp2_with fail
  refine (wflag_true _).mono ?_
  rintro e w' ⟨rfl, rfl⟩
  go_wp2_with fail
  refine (wflag_false _).mono ?_
  rintro e w' ⟨rfl, rfl⟩
  go_wp2_with fail
  refine (must_no _ hr1).mono ?_
  rintro e w2 ⟨rfl, hk2, hr2⟩
  exact ⟨rfl, rfl, hk1.trans hk2, hr2⟩
set_option maxHeartbeats 4000000 in
theorem rflag_none {R O : Nat} (w : World) (h : RS w R O []) :
    Calls Tryd.prog 35 #[.pointer (some ⟨R, 0, none⟩)] w (Fell w R O 4) := by
  go_enter Tryd.func35, Tryd.ntmps35
  go_wp2_with fail
  refine (bytes_short 1 (.inr (by simp)) _ h).mono ?_
  rintro e w1 ⟨rfl, hk1, hr1⟩
  exact ⟨rfl, rfl, hk1, hr1⟩
end Go.Proofs.YtmoammadibepkaaDoor.Wirey
