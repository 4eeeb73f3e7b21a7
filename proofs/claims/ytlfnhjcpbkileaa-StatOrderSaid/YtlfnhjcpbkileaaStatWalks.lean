/- Contracts of layer 2's functions (stat, and the document's own answers): each call returns what StatNums gives, for all bits of a double below 2^64; what it changes in memory is new. -/
import Derived.Test.YtlfnhjcpbkileaaRows
import Derived.Test.YtlfnhjcpbkileaaStatNums
import Derived.WalkKit
import Derived.Lib.Hide
import Derived.ProofKit
import Derived.OpenShut
import Derived.WalkLawsBesides
import Derived.Laws.FloatArith
namespace Go.Proofs.Ytlfnhjcpbkileaa.Fl
open Go.ChangeShapes Go.WideShapes Go.ChangeAt Go.RowKit

theorem bits_run (b : Nat) (w : World) : (callFunc 27 #[.float .f64 b]).run Try.prog w = .ok (.value (.int .u64 b)) w := by
  rw [run_callFunc_extern Try.func27 (by kernel_rfl) (by kernel_rfl) (by kernel_rfl) (e := Extern.MathFloatBits.float64bits) (by kernel_rfl)]; rfl
theorem ord_self {x : Nat} (hx : x < 18446744073709551616) : (FloatKind.f64.format.order x x != some .eq) = isNaN x := by
  rw [bne, ord_eq hx hx]; cases isNaN x <;> simp

theorem isNaN_c (x : Nat) (hx : x < 18446744073709551616) (w : World) :
    Calls Try.prog 22 #[.float .f64 x] w fun e w' => e = .returned (.bool (isNaN x)) ∧ w = w' := by
  have h := ord_self hx
  go_enter Try.func22, Try.ntmps22
  go_wp2
  go_ret
  exact ⟨rfl, rfl⟩
theorem wrap_bits {x : Nat} (hx : x < 18446744073709551616) : decide (wrap64 (x : Int) < 0) = neg x := by
  unfold neg wrap64
  rw [Bool.eq_iff_iff, decide_eq_true_eq, decide_eq_true_eq]
  unfold S; omega
theorem signbit_c (x : Nat) (hx : x < 18446744073709551616) (w : World) :
    Calls Try.prog 24 #[.float .f64 x] w fun e w' => e = .returned (.bool (neg x)) ∧ w = w' := by
  have h := wrap_bits hx
  have hb := bits_run x
  go_enter Try.func24, Try.ntmps24
  go_wp2
  go_ret
  exact ⟨by rw [← h]; rfl, rfl⟩

/-! The order of all words -/
theorem nan_zero : isNaN 0 = false := by decide +kernel
theorem key_zero : key 0 = 0 := by decide +kernel
theorem nan_ONE : isNaN ONE = false := by decide +kernel
theorem key_ONE : key ONE = (ONE : Int) := by decide +kernel
theorem ord_zero {x : Nat} (hx : x < 18446744073709551616) (hn : isNaN x = false) : (FloatKind.f64.format.order x 0 == some .eq) = decide (key x = 0) := by
  rw [ord_eq hx (by omega), nan_zero, hn, key_zero]; rfl
theorem rank_num {a : Nat} (na : isNaN a = false) : rank a = if a < S then (a : Int) else -((a : Int) - S) - 1 := by
  unfold rank; rw [if_neg (by rw [na]; simp)]
theorem less_iff {a b : Nat} (ha : a < 18446744073709551616) (hb : b < 18446744073709551616) (na : isNaN a = false) (nb : isNaN b = false) :
    lessB a b = decide (key a < key b ∨ key a = key b ∧ neg a = true ∧ neg b = false) := by
  unfold lessB
  rw [rank_num na, rank_num nb, Bool.eq_iff_iff, decide_eq_true_eq, decide_eq_true_eq]
  unfold key neg S
  simp only [decide_eq_true_eq, decide_eq_false_iff_not]
  omega
theorem nan_lt {a : Nat} (ha : a < 18446744073709551616) (na : isNaN a = false) : rank a < 18446744073709551616 := by
  unfold rank
  rw [if_neg (by rw [na]; simp)]
  unfold S; omega
theorem less_nan_l {a b : Nat} (hb : b < 18446744073709551616) (na : isNaN a = true) : lessB a b = false := by
  unfold lessB
  rw [decide_eq_false_iff_not]
  have ea : rank a = 18446744073709551616 := by unfold rank; rw [if_pos na]
  cases nb : isNaN b
  · have := nan_lt hb nb; omega
  · have eb : rank b = 18446744073709551616 := by unfold rank; rw [if_pos nb]
    omega
theorem less_nan_r {a b : Nat} (ha : a < 18446744073709551616) (na : isNaN a = false) (nb : isNaN b = true) : lessB a b = true := by
  unfold lessB
  rw [decide_eq_true_eq]
  have eb : rank b = 18446744073709551616 := by unfold rank; rw [if_pos nb]
  have := nan_lt ha na; omega
theorem less_num {a b : Nat} (ha : a < 18446744073709551616) (hb : b < 18446744073709551616) (na : isNaN a = false) (nb : isNaN b = false) (h : ¬ (key a = 0 ∧ key b = 0)) :
    (FloatKind.f64.format.order a b == some .lt) = lessB a b := by
  rw [ord_lt ha hb, less_iff ha hb na nb, na, nb]
  simp only [Bool.not_false, Bool.true_and]
  rw [Bool.eq_iff_iff, decide_eq_true_eq, decide_eq_true_eq]
  unfold key neg S at *
  simp only [decide_eq_true_eq, decide_eq_false_iff_not]
  omega
theorem less_same {a b : Nat} (ha : a < 18446744073709551616) (hb : b < 18446744073709551616) (na : isNaN a = false) (nb : isNaN b = false) (h : key a = key b) :
    (neg a && !neg b) = lessB a b := by
  rw [less_iff ha hb na nb, Bool.eq_iff_iff, decide_eq_true_eq]
  cases neg a <;> cases neg b <;> simp <;> omega
theorem less_other {a b : Nat} (ha : a < 18446744073709551616) (hb : b < 18446744073709551616) (na : isNaN a = false) (nb : isNaN b = false) (h : key a ≠ key b) :
    (FloatKind.f64.format.order a b == some .gt) = lessB b a := by
  rw [ord_gt ha hb, less_iff hb ha nb na, na, nb]
  simp only [Bool.not_false, Bool.true_and]
  rw [Bool.eq_iff_iff, decide_eq_true_eq, decide_eq_true_eq]
  omega

set_option maxHeartbeats 1000000 in
theorem less_c (a b : Nat) (ha : a < 18446744073709551616) (hb : b < 18446744073709551616) (w : World) :
    Calls Try.prog 19 #[.float .f64 a, .float .f64 b] w fun e w' => e = .returned (.bool (lessB a b)) ∧ w = w' := by
  have fa := ord_self ha
  have fb := ord_self hb
  have ga : (FloatKind.f64.format.order a a == some .eq) = !isNaN a := by rw [← fa, bne, Bool.not_not]
  cases na : isNaN a
  · cases nb : isNaN b
    · rw [na] at fa ga; rw [nb] at fb
      have za := ord_zero ha na
      have zb := ord_zero hb nb
      by_cases ka : key a = 0
      · by_cases kb : key b = 0
        · have hl := less_same ha hb na nb (ka.trans kb.symm)
          rw [decide_eq_true ka] at za
          rw [decide_eq_true kb] at zb
          have HL := Lib.hid hl
          clear hl ka kb na nb
          cases sa : neg a
          · rw [sa] at HL
            go_enter Try.func19, Try.ntmps19
            go_wp2_with fail
            refine (signbit_c a ha _).mono ?_
            rintro e w' ⟨rfl, rfl⟩
            rw [sa]
            go_wp2_with fail
            go_ret
            exact ⟨by rw [← HL.out]; rfl, rfl⟩
          · rw [sa] at HL
            go_enter Try.func19, Try.ntmps19
            go_wp2_with fail
            refine (signbit_c a ha _).mono ?_
            rintro e w' ⟨rfl, rfl⟩
            rw [sa]
            go_wp2_with fail
            refine (signbit_c b hb _).mono ?_
            rintro e w' ⟨rfl, rfl⟩
            go_wp2_with fail
            go_ret
            exact ⟨by rw [← HL.out]; rfl, rfl⟩
        · have HL := Lib.hid (less_num ha hb na nb (fun h => kb h.2))
          rw [decide_eq_true ka] at za
          rw [decide_eq_false kb] at zb
          clear ka kb na nb
          go_enter Try.func19, Try.ntmps19
          go_wp2_with fail
          go_ret
          exact ⟨by rw [HL.out]; rfl, rfl⟩
      · have HL := Lib.hid (less_num ha hb na nb (fun h => ka h.1))
        rw [decide_eq_false ka] at za
        clear ka na nb zb
        go_enter Try.func19, Try.ntmps19
        go_wp2_with fail
        go_ret
        exact ⟨by rw [HL.out]; rfl, rfl⟩
    · rw [na] at fa ga; rw [nb] at fb
      have HL := Lib.hid (less_nan_r ha na nb)
      clear na nb
      go_enter Try.func19, Try.ntmps19
      go_wp2_with fail
      go_ret
      exact ⟨by rw [HL.out]; rfl, rfl⟩
  · rw [na] at fa ga
    have HL := Lib.hid (less_nan_l (b := b) hb na)
    clear na fb
    go_enter Try.func19, Try.ntmps19
    go_wp2_with fail
    go_ret
    exact ⟨by rw [HL.out]; rfl, rfl⟩
theorem same_c (a b : Nat) (ha : a < 18446744073709551616) (hb : b < 18446744073709551616) (w : World) :
    Calls Try.prog 11 #[.float .f64 a, .float .f64 b] w fun e w' => e = .returned (.bool (sameB a b)) ∧ w = w' := by
  have HS := Lib.hid (same_eq a b)
  go_enter Try.func11, Try.ntmps11
  go_wp2_with fail
  refine (less_c a b ha hb _).mono ?_
  rintro e w' ⟨rfl, rfl⟩
  cases hl : lessB a b
  · rw [hl] at HS
    go_wp2_with fail
    refine (less_c b a hb ha _).mono ?_
    rintro e w' ⟨rfl, rfl⟩
    go_wp2_with fail
    go_ret
    exact ⟨by rw [← HS.out]; simp, rfl⟩
  · rw [hl] at HS
    go_wp2_with fail
    go_ret
    exact ⟨by rw [← HS.out]; simp, rfl⟩

set_option maxHeartbeats 1000000 in
theorem above_c (a b : Nat) (ha : a < 18446744073709551616) (hb : b < 18446744073709551616) (w : World) :
    Calls Try.prog 23 #[.float .f64 a, .float .f64 b] w fun e w' => e = .returned (.bool (lessB b a)) ∧ w = w' := by
  cases na : isNaN a
  · cases nb : isNaN b
    · by_cases hk : key a = key b
      · have e1 := ord_eq ha hb
        rw [na, nb, decide_eq_true hk] at e1
        have HL := Lib.hid (less_same hb ha nb na hk.symm)
        clear hk
        cases sb : neg b
        · rw [sb] at HL
          go_enter Try.func23, Try.ntmps23
          go_wp2_with fail
          refine (isNaN_c a ha _).mono ?_
          rintro e w' ⟨rfl, rfl⟩
          go_wp2_with fail
          refine (isNaN_c b hb _).mono ?_
          rintro e w' ⟨rfl, rfl⟩
          go_wp2_with fail
          refine (signbit_c b hb _).mono ?_
          rintro e w' ⟨rfl, rfl⟩
          go_wp2_with fail
          go_ret
          exact ⟨by rw [← HL.out]; rfl, rfl⟩
        · rw [sb] at HL
          go_enter Try.func23, Try.ntmps23
          go_wp2_with fail
          refine (isNaN_c a ha _).mono ?_
          rintro e w' ⟨rfl, rfl⟩
          go_wp2_with fail
          refine (isNaN_c b hb _).mono ?_
          rintro e w' ⟨rfl, rfl⟩
          go_wp2_with fail
          refine (signbit_c b hb _).mono ?_
          rintro e w' ⟨rfl, rfl⟩
          go_wp2_with fail
          refine (signbit_c a ha _).mono ?_
          rintro e w' ⟨rfl, rfl⟩
          go_wp2_with fail
          go_ret
          exact ⟨by rw [← HL.out]; rfl, rfl⟩
      · have e1 := ord_eq ha hb
        rw [na, nb, decide_eq_false hk] at e1
        have HL := Lib.hid (less_other ha hb na nb hk)
        clear hk
        go_enter Try.func23, Try.ntmps23
        go_wp2_with fail
        refine (isNaN_c a ha _).mono ?_
        rintro e w' ⟨rfl, rfl⟩
        go_wp2_with fail
        refine (isNaN_c b hb _).mono ?_
        rintro e w' ⟨rfl, rfl⟩
        go_wp2_with fail
        go_ret
        exact ⟨by rw [← HL.out]; rfl, rfl⟩
    · have HL := Lib.hid (less_nan_l (b := a) ha nb)
      go_enter Try.func23, Try.ntmps23
      go_wp2_with fail
      refine (isNaN_c a ha _).mono ?_
      rintro e w' ⟨rfl, rfl⟩
      go_wp2_with fail
      refine (isNaN_c b hb _).mono ?_
      rintro e w' ⟨rfl, rfl⟩
      go_wp2_with fail
      refine (isNaN_c b hb _).mono ?_
      rintro e w' ⟨rfl, rfl⟩
      go_wp2_with fail
      go_ret
      exact ⟨by rw [HL.out]; rfl, rfl⟩
  · cases nb : isNaN b
    · have HL := Lib.hid (less_nan_r (b := a) hb nb na)
      go_enter Try.func23, Try.ntmps23
      go_wp2_with fail
      refine (isNaN_c a ha _).mono ?_
      rintro e w' ⟨rfl, rfl⟩
      go_wp2_with fail
      refine (isNaN_c b hb _).mono ?_
      rintro e w' ⟨rfl, rfl⟩
      go_wp2_with fail
      go_ret
      exact ⟨by rw [HL.out]; rfl, rfl⟩
    · have HL := Lib.hid (less_nan_l (b := a) ha nb)
      go_enter Try.func23, Try.ntmps23
      go_wp2_with fail
      refine (isNaN_c a ha _).mono ?_
      rintro e w' ⟨rfl, rfl⟩
      go_wp2_with fail
      refine (isNaN_c b hb _).mono ?_
      rintro e w' ⟨rfl, rfl⟩
      go_wp2_with fail
      go_ret
      exact ⟨by rw [HL.out]; rfl, rfl⟩

/-- -1, 0, 1 -/
def orderV (a b : Nat) : Int := if lessB a b = true then -1 else if lessB b a = true then 1 else 0
set_option maxHeartbeats 400000 in
theorem order_c (a b : Nat) (ha : a < 18446744073709551616) (hb : b < 18446744073709551616) (w : World) :
    Calls Try.prog 18 #[.float .f64 a, .float .f64 b] w fun e w' => e = .returned (.int .i64 (orderV a b)) ∧ w = w' := by
  cases h1 : lessB a b
  · cases h2 : lessB b a
    · have HO : Hid (orderV a b = 0) := Lib.hid (by unfold orderV; rw [h1, h2]; rfl)
      go_enter Try.func18, Try.ntmps18
      go_wp2_with fail
      refine (above_c b a hb ha _).mono ?_
      rintro e w' ⟨rfl, rfl⟩
      go_wp2_with fail
      refine (above_c a b ha hb _).mono ?_
      rintro e w' ⟨rfl, rfl⟩
      go_wp2_with fail
      go_ret
      exact ⟨by rw [HO.out]; rfl, rfl⟩
    · have HO : Hid (orderV a b = 1) := Lib.hid (by unfold orderV; rw [h1, h2]; rfl)
      go_enter Try.func18, Try.ntmps18
      go_wp2_with fail
      refine (above_c b a hb ha _).mono ?_
      rintro e w' ⟨rfl, rfl⟩
      go_wp2_with fail
      refine (above_c a b ha hb _).mono ?_
      rintro e w' ⟨rfl, rfl⟩
      go_wp2_with fail
      go_ret
      exact ⟨by rw [HO.out]; rfl, rfl⟩
  · have HO : Hid (orderV a b = -1) := Lib.hid (by unfold orderV; rw [h1]; rfl)
    go_enter Try.func18, Try.ntmps18
    go_wp2_with fail
    refine (above_c b a hb ha _).mono ?_
    rintro e w' ⟨rfl, rfl⟩
    go_wp2_with fail
    go_ret
    exact ⟨by rw [HO.out]; rfl, rfl⟩

/-! Between two -/
def geB (x y : Nat) : Bool := !isNaN x && !isNaN y && decide (key y ≤ key x)
def gtB (x y : Nat) : Bool := !isNaN x && !isNaN y && decide (key y < key x)
theorem ord_ge {x y : Nat} (hx : x < 18446744073709551616) (hy : y < 18446744073709551616) :
    (FloatKind.f64.format.order x y == some .gt || FloatKind.f64.format.order x y == some .eq) = geB x y := by
  rw [ord_gt hx hy, ord_eq hx hy]
  unfold geB
  cases isNaN x <;> cases isNaN y <;> simp
  rw [Bool.eq_iff_iff]; simp; omega
theorem ord_le {x y : Nat} (hx : x < 18446744073709551616) (hy : y < 18446744073709551616) :
    (FloatKind.f64.format.order x y == some .lt || FloatKind.f64.format.order x y == some .eq) = geB y x := by
  rw [ord_lt hx hy, ord_eq hx hy]
  unfold geB
  cases isNaN x <;> cases isNaN y <;> simp
  rw [Bool.eq_iff_iff]; simp; omega
/-- a number between two others, the document's way -/
def clampOf (f low high : Nat) : Nat := if geB f low = true then (if gtB f high = true then high else f) else low
theorem clamp_lt {f low high : Nat} (h1 : f < 18446744073709551616) (h2 : low < 18446744073709551616) (h3 : high < 18446744073709551616) : clampOf f low high < 18446744073709551616 := by
  unfold clampOf; split
  · split
    · exact h3
    · exact h1
  · exact h2
theorem clamp_in {f low high : Nat} (h : geB high low = true) : geB (clampOf f low high) low = true ∧ geB high (clampOf f low high) = true := by
  unfold clampOf
  unfold geB at h
  simp only [Bool.and_eq_true, Bool.not_eq_true', decide_eq_true_eq] at h
  obtain ⟨⟨h1, h2⟩, h3⟩ := h
  split
  · rename_i hg
    have hg' := hg
    unfold geB at hg
    simp only [Bool.and_eq_true, Bool.not_eq_true', decide_eq_true_eq] at hg
    obtain ⟨⟨g1, _⟩, g3⟩ := hg
    split
    · unfold geB; simp only [h1, h2, decide_eq_true h3, decide_eq_true (Int.le_refl _), Bool.not_false, Bool.and_self, and_self]
    · rename_i hh
      have hk : key f ≤ key high := by
        unfold gtB at hh
        rw [g1, h1] at hh
        simp at hh; omega
      refine ⟨hg', ?_⟩
      unfold geB
      simp only [h1, g1, decide_eq_true hk, Bool.not_false, Bool.and_self]
  · unfold geB; simp only [h1, h2, decide_eq_true h3, decide_eq_true (Int.le_refl _), Bool.not_false, Bool.and_self, and_self]
set_option maxHeartbeats 400000 in
theorem clamp_c (f low high : Nat) (h1 : f < 18446744073709551616) (h2 : low < 18446744073709551616) (h3 : high < 18446744073709551616) (w : World) :
    Calls Try.prog 15 #[.float .f64 f, .float .f64 low, .float .f64 high] w fun e w' => e = .returned (.float .f64 (clampOf f low high)) ∧ w = w' := by
  have e1 := ord_ge h1 h2
  have e2 : (FloatKind.f64.format.order f high == some .gt) = gtB f high := ord_gt h1 h3
  cases g1 : geB f low
  · have HC : Hid (clampOf f low high = low) := Lib.hid (by unfold clampOf; rw [g1]; rfl)
    rw [g1] at e1
    clear g1 e2
    go_enter Try.func15, Try.ntmps15
    go_wp2_with fail
    go_ret
    exact ⟨by rw [HC.out]; rfl, rfl⟩
  · cases g2 : gtB f high
    · have HC : Hid (clampOf f low high = f) := Lib.hid (by unfold clampOf; rw [g1, g2]; rfl)
      rw [g1] at e1; rw [g2] at e2
      clear g1 g2
      go_enter Try.func15, Try.ntmps15
      go_wp2_with fail
      go_ret
      exact ⟨by rw [HC.out]; rfl, rfl⟩
    · have HC : Hid (clampOf f low high = high) := Lib.hid (by unfold clampOf; rw [g1, g2]; rfl)
      rw [g1] at e1; rw [g2] at e2
      clear g1 g2
      go_enter Try.func15, Try.ntmps15
      go_wp2_with fail
      go_ret
      exact ⟨by rw [HC.out]; rfl, rfl⟩
set_option maxHeartbeats 400000 in
theorem refclamp_c (f low high : Nat) (h1 : f < 18446744073709551616) (h2 : low < 18446744073709551616) (h3 : high < 18446744073709551616) (w : World) :
    Calls Try.prog 16 #[.float .f64 f, .float .f64 low, .float .f64 high] w fun e w' => e = .returned (.float .f64 (clampOf f low high)) ∧ w = w' := by
  have e1 := ord_ge h1 h2
  have e2 : (FloatKind.f64.format.order f high == some .gt) = gtB f high := ord_gt h1 h3
  cases g1 : geB f low
  · have HC : Hid (clampOf f low high = low) := Lib.hid (by unfold clampOf; rw [g1]; rfl)
    rw [g1] at e1
    clear g1 e2
    go_enter Try.func16, Try.ntmps16
    go_wp2_with fail
    go_ret
    exact ⟨by rw [HC.out]; rfl, rfl⟩
  · cases g2 : gtB f high
    · have HC : Hid (clampOf f low high = f) := Lib.hid (by unfold clampOf; rw [g1, g2]; rfl)
      rw [g1] at e1; rw [g2] at e2
      clear g1 g2
      go_enter Try.func16, Try.ntmps16
      go_wp2_with fail
      go_ret
      exact ⟨by rw [HC.out]; rfl, rfl⟩
    · have HC : Hid (clampOf f low high = high) := Lib.hid (by unfold clampOf; rw [g1, g2]; rfl)
      rw [g1] at e1; rw [g2] at e2
      clear g1 g2
      go_enter Try.func16, Try.ntmps16
      go_wp2_with fail
      go_ret
      exact ⟨by rw [HC.out]; rfl, rfl⟩

/-! Rates and averages -/
theorem sub_run (x y : Nat) (t : TypeId) (w : World) : (binOp .sub t (.float .f64 x) (.float .f64 y)).run Try.prog w = .ok (.float .f64 (fr .sub x y w)) (fw .sub x y w) := run_fop w .sub (by simp) t x y
theorem add_run (x y : Nat) (t : TypeId) (w : World) : (binOp .add t (.float .f64 x) (.float .f64 y)).run Try.prog w = .ok (.float .f64 (fr .add x y w)) (fw .add x y w) := run_fop w .add (by simp) t x y
theorem mul_run (x y : Nat) (t : TypeId) (w : World) : (binOp .mul t (.float .f64 x) (.float .f64 y)).run Try.prog w = .ok (.float .f64 (fr .mul x y w)) (fw .mul x y w) := run_fop w .mul (by simp) t x y
theorem quo_run (x y : Nat) (t : TypeId) (w : World) : (binOp .quo t (.float .f64 x) (.float .f64 y)).run Try.prog w = .ok (.float .f64 (fr .quo x y w)) (fw .quo x y w) := run_fop w .quo (by simp) t x y
theorem fw_below (op : BinOp) (x y : Nat) {B : Nat} {w0 w : World} (h : Below B w0 w) (hB : B ≤ w.heap.size) : Below B w0 (fw op x y w) :=
  h.trans ((fw_heap op x y w).1.mono hB)

set_option maxHeartbeats 400000 in
theorem blend_c (old now weight : Nat) (h1 : old < 18446744073709551616) (h2 : now < 18446744073709551616) (h3 : weight < 18446744073709551616) (w : World) :
    Calls Try.prog 13 #[.float .f64 old, .float .f64 now, .float .f64 weight] w fun e w' => ∃ r, e = .returned (.float .f64 r) ∧ Blent old now weight r ∧ r < 18446744073709551616 ∧ Below w.heap.size w w' := by
  cases n1 : isNaN old
  · cases n2 : isNaN now
    · cases n3 : isNaN weight
      · have hs := sub_run
        have ha := add_run
        have hm := mul_run
        go_enter Try.func13, Try.ntmps13
        go_wp2_with fail
        refine (isNaN_c old h1 _).mono ?_
        rintro e w' ⟨rfl, rfl⟩
        go_wp2_with fail
        refine (isNaN_c now h2 _).mono ?_
        rintro e w' ⟨rfl, rfl⟩
        go_wp2_with fail
        refine (isNaN_c weight h3 _).mono ?_
        rintro e w' ⟨rfl, rfl⟩
        go_wp2_with fail
        go_ret
        refine ⟨_, rfl, .inr (.inr ⟨n1, by rw [n2, n3]; rfl, _, _, _, fr_ans _ _ _ _, fr_ans _ _ _ _, fr_ans _ _ _ _, fr_ans _ _ _ _⟩), fr_lt _ _ _ _, ?_⟩
        refine fw_below _ _ _ (fw_below _ _ _ (fw_below _ _ _ (fw_below _ _ _ (Below.refl _ _) (Nat.le_refl _)) ?_) ?_) ?_ <;> simp only [(fw_heap _ _ _ _).2, Nat.le_refl]
      · go_enter Try.func13, Try.ntmps13
        go_wp2_with fail
        refine (isNaN_c old h1 _).mono ?_
        rintro e w' ⟨rfl, rfl⟩
        go_wp2_with fail
        refine (isNaN_c now h2 _).mono ?_
        rintro e w' ⟨rfl, rfl⟩
        go_wp2_with fail
        refine (isNaN_c weight h3 _).mono ?_
        rintro e w' ⟨rfl, rfl⟩
        go_wp2_with fail
        go_ret
        exact ⟨old, rfl, .inr (.inl ⟨n1, by rw [n2, n3]; rfl, rfl⟩), h1, Below.refl _ _⟩
    · go_enter Try.func13, Try.ntmps13
      go_wp2_with fail
      refine (isNaN_c old h1 _).mono ?_
      rintro e w' ⟨rfl, rfl⟩
      go_wp2_with fail
      refine (isNaN_c now h2 _).mono ?_
      rintro e w' ⟨rfl, rfl⟩
      go_wp2_with fail
      go_ret
      exact ⟨old, rfl, .inr (.inl ⟨n1, by rw [n2]; rfl, rfl⟩), h1, Below.refl _ _⟩
  · go_enter Try.func13, Try.ntmps13
    go_wp2_with fail
    refine (isNaN_c old h1 _).mono ?_
    rintro e w' ⟨rfl, rfl⟩
    go_wp2_with fail
    go_ret
    exact ⟨now, rfl, .inl ⟨n1, rfl⟩, h2, Below.refl _ _⟩
set_option maxHeartbeats 400000 in
theorem refblend_c (old now weight : Nat) (h1 : old < 18446744073709551616) (h2 : now < 18446744073709551616) (h3 : weight < 18446744073709551616) (w : World) :
    Calls Try.prog 14 #[.float .f64 old, .float .f64 now, .float .f64 weight] w fun e w' => ∃ r, e = .returned (.float .f64 r) ∧ Blent old now weight r ∧ r < 18446744073709551616 ∧ Below w.heap.size w w' := by
  have f1 := ord_self h1
  have f2 := ord_self h2
  have f3 := ord_self h3
  cases n1 : isNaN old
  · rw [n1] at f1
    cases n2 : isNaN now
    · rw [n2] at f2
      cases n3 : isNaN weight
      · rw [n3] at f3
        have hs := sub_run
        have ha := add_run
        have hm := mul_run
        go_enter Try.func14, Try.ntmps14
        go_wp2_with fail
        go_ret
        refine ⟨_, rfl, .inr (.inr ⟨n1, by rw [n2, n3]; rfl, _, _, _, fr_ans _ _ _ _, fr_ans _ _ _ _, fr_ans _ _ _ _, fr_ans _ _ _ _⟩), fr_lt _ _ _ _, ?_⟩
        refine fw_below _ _ _ (fw_below _ _ _ (fw_below _ _ _ (fw_below _ _ _ (Below.refl _ _) (Nat.le_refl _)) ?_) ?_) ?_ <;> simp only [(fw_heap _ _ _ _).2, Nat.le_refl]
      · rw [n3] at f3
        go_enter Try.func14, Try.ntmps14
        go_wp2_with fail
        go_ret
        exact ⟨old, rfl, .inr (.inl ⟨n1, by rw [n2, n3]; rfl, rfl⟩), h1, Below.refl _ _⟩
    · rw [n2] at f2
      go_enter Try.func14, Try.ntmps14
      go_wp2_with fail
      go_ret
      exact ⟨old, rfl, .inr (.inl ⟨n1, by rw [n2]; rfl, rfl⟩), h1, Below.refl _ _⟩
  · rw [n1] at f1
    go_enter Try.func14, Try.ntmps14
    go_wp2_with fail
    go_ret
    exact ⟨now, rfl, .inl ⟨n1, rfl⟩, h2, Below.refl _ _⟩
set_option maxHeartbeats 400000 in
theorem rate_c (asked hits : Int) (w : World) :
    Calls Try.prog 9 #[.agg #[.int .i64 asked, .int .i64 hits]] w fun e w' => ∃ r, e = .returned (.float .f64 r) ∧ Ans .quo (floatOfInt .f64 hits) (floatOfInt .f64 asked) r ∧ r < 18446744073709551616 ∧ Below w.heap.size w w' := by
  have hq := quo_run
  go_enter Try.func9, Try.ntmps9
  go_wp2_with fail
  go_ret
  exact ⟨_, rfl, fr_ans _ _ _ _, fr_lt _ _ _ _, fw_below _ _ _ ((Below.refl _ _).alloc (Nat.le_refl _) _) (by simp)⟩

/-! Thousandths -/
def floW (r : Nat) : Nat := Ieee.double.write ((Ieee.double.read r).integral .down)
theorem floor_run (r : Nat) (hr : r < 18446744073709551616) (hn : isNaN r = false) (w : World) : (callFunc 25 #[.float .f64 r]).run Try.prog w = .ok (.value (.float .f64 (floW r))) w := by
  rw [run_callFunc_extern Try.func25 (by kernel_rfl) (by kernel_rfl) (by kernel_rfl) (e := Extern.MathFloor.toIntegral "math.archFloor" .down) (by kernel_rfl)]
  have hd : ∀ s t, Ieee.double.read r ≠ .nan s t := by
    intro s t h
    have h' := (num_iff r).1 hn
    by_cases hi : r % S = I
    · rw [read_inf hr hi] at h; cases h
    · rw [read_fin hr (by omega)] at h; cases h
  have e : (Extern.MathFloor.toIntegral "math.archFloor" .down #[.float .f64 r]).run Try.prog w = .ok (.float .f64 (floW r)) w := by
    unfold floW
    show (match Ieee.double.read r with
      | .nan s t => _
      | d => (pure (.float .f64 (FloatKind.f64.encode (d.integral .down))) : Sem Value)).run Try.prog w = _
    cases hx : Ieee.double.read r with
    | nan s t => exact absurd hx (hd s t)
    | number s m i => rfl
    | infinity s => rfl
  rw [e]; rfl
theorem floW_K {r : Nat} (h : r ≤ K ∨ r = S) : isNaN r = false ∧ r < 18446744073709551616 ∧ flo r ≤ 1000 ∧ floatToIntVal .f64 (floW r) .i64 = some (flo r : Int) := by
  have hI := ONE_lt
  have h1 := I_lt_S
  have h2 := S_lt
  rcases h with h | rfl
  · refine ⟨(num_iff r).2 (by rw [Nat.mod_eq_of_lt (by omega)]; omega), by omega, flo_le h, ?_⟩
    unfold floW
    rw [floor_num (by omega)]
    exact whole_back ⟨flo r, by have := flo_le h; omega⟩
  · have e : flo S = 0 := by unfold flo; rw [if_neg (Nat.lt_irrefl _)]
    rw [e]
    exact ⟨by decide +kernel, by omega, by omega, by decide +kernel⟩
/-- a whole number of at most a thousand is held against a number as the number's whole part is -/
theorem ord_whole {r : Nat} (h : r ≤ K ∨ r = S) {k : Nat} (hk : k < 1000) :
    (FloatKind.f64.format.order (floatOfInt .f64 ((k : Int) + 1)) r == some .lt || FloatKind.f64.format.order (floatOfInt .f64 ((k : Int) + 1)) r == some .eq) = decide (k < flo r) := by
  have hI := ONE_lt
  have h1 := I_lt_S
  have h2 := S_lt
  obtain ⟨hn, hr, _⟩ := floW_K h
  have ek : ((k : Int) + 1) = ((k + 1 : Nat) : Int) := by omega
  have hf : fi (k + 1) < I := fi_lt (by omega)
  have hf0 : 0 < fi (k + 1) := by have := fi_mono (show 1 ≤ k + 1 by omega); rw [fi_one] at this; omega
  have hfn : isNaN (fi (k + 1)) = false := (num_iff _).2 (by rw [Nat.mod_eq_of_lt (by omega)]; omega)
  have hf2 : fi (k + 1) < 18446744073709551616 := by omega
  have hv : val (fi (k + 1)) = (k + 1) * 2 ^ L := val_fi ⟨k + 1, by omega⟩
  have HV := Lib.hid hv
  clear hv
  rw [ek, fi_eq, ord_le hf2 hr]
  unfold geB
  rw [hn, hfn]
  simp only [Bool.not_false, Bool.true_and]
  rw [Bool.eq_iff_iff, decide_eq_true_eq, decide_eq_true_eq]
  have kf : key (fi (k + 1)) = (fi (k + 1) : Int) := by unfold key; rw [if_pos (by omega)]
  rw [kf]
  rcases h with h | rfl
  · have kr : key r = (r : Int) := by unfold key; rw [if_pos (by omega)]
    rw [kr]
    unfold flo
    rw [if_pos (by omega), Nat.lt_iff_add_one_le, Nat.le_div_iff_mul_le (Nat.two_pow_pos _), ← HV.out, val_le_iff]
    omega
  · have ks : key S = 0 := by unfold key; rw [if_neg (Nat.lt_irrefl _)]; omega
    have fs : flo S = 0 := by unfold flo; rw [if_neg (Nat.lt_irrefl _)]
    rw [ks, fs]
    omega
def perMil (f : Nat) : Int := if (geB f 0 && geB ONE f) = true then (flo (mulK f) : Int) else -1
theorem rate_iff (f : Nat) : (geB f 0 && geB ONE f) = inRate f := by
  unfold geB inRate
  rw [nan_zero, key_zero, nan_ONE, key_ONE]
  cases isNaN f <;> simp
set_option maxHeartbeats 400000 in
theorem perMille_c (f : Nat) (hf : f < 18446744073709551616) (w : World) :
    Calls Try.prog 12 #[.float .f64 f] w fun e w' => e = .returned (.int .i64 (perMil f)) ∧ w = w' := by
  have e1 : (FloatKind.f64.format.order f 0 == some .gt || FloatKind.f64.format.order f 0 == some .eq) = geB f 0 := ord_ge hf (by omega)
  have e2 : (FloatKind.f64.format.order f 4607182418800017408 == some .lt || FloatKind.f64.format.order f 4607182418800017408 == some .eq) = geB ONE f := ord_le hf (by omega)
  cases g1 : geB f 0
  · have HP : Hid (perMil f = -1) := Lib.hid (by unfold perMil; rw [g1]; rfl)
    rw [g1] at e1
    clear e2
    go_enter Try.func12, Try.ntmps12
    go_wp2_with fail
    go_ret
    exact ⟨by rw [HP.out]; rfl, rfl⟩
  · cases g2 : geB ONE f
    · have HP : Hid (perMil f = -1) := Lib.hid (by unfold perMil; rw [g1, g2]; rfl)
      rw [g1] at e1; rw [g2] at e2
      go_enter Try.func12, Try.ntmps12
      go_wp2_with fail
      go_ret
      exact ⟨by rw [HP.out]; rfl, rfl⟩
    · have hr := rate_iff f
      rw [g1, g2] at hr
      obtain ⟨m1, m2⟩ := mulK_some hr.symm
      obtain ⟨i1, i2, i3, i4⟩ := floW_K m2
      have HP : Hid (perMil f = (flo (mulK f) : Int)) := Lib.hid (by unfold perMil; rw [g1, g2]; rfl)
      have hm : ∀ t w, (binOp .mul t (.float .f64 f) (.float .f64 4652007308841189376)).run Try.prog w = .ok (.float .f64 (mulK f)) w := fun t w => run_float_arith w .mul t .f64 f K _ m1
      have hfl := floor_run (mulK f) i2 i1
      have hc : ∀ w, (convert 22 3 (.float .f64 (floW (mulK f)))).run Try.prog w = .ok (.int .i64 (flo (mulK f) : Int)) w := fun w => run_convert_float_int w 22 3 .f64 .i64 _ _ (by rw [Try.underlying22]; rfl) Try.underlying3 i4
      rw [g1] at e1; rw [g2] at e2
      clear hr m1 m2 i1 i4
      go_enter Try.func12, Try.ntmps12
      go_wp2
      go_ret
      exact ⟨by rw [HP.out]; rfl, rfl⟩
set_option maxRecDepth 100000 in
set_option maxHeartbeats 1000000 in
theorem refperMille_c (f : Nat) (hf : f < 18446744073709551616) (w : World) :
    Calls Try.prog 17 #[.float .f64 f] w fun e w' => e = .returned (.int .i64 (perMil f)) ∧ w = w' := by
  have e1 : (FloatKind.f64.format.order f 0 == some .gt || FloatKind.f64.format.order f 0 == some .eq) = geB f 0 := ord_ge hf (by omega)
  have e2 : (FloatKind.f64.format.order f 4607182418800017408 == some .lt || FloatKind.f64.format.order f 4607182418800017408 == some .eq) = geB ONE f := ord_le hf (by omega)
  cases g1 : geB f 0
  · have HP : Hid (perMil f = -1) := Lib.hid (by unfold perMil; rw [g1]; rfl)
    rw [g1] at e1
    clear e2
    go_enter Try.func17, Try.ntmps17
    go_wp2_with fail
    go_ret
    exact ⟨by rw [HP.out]; rfl, rfl⟩
  · cases g2 : geB ONE f
    · have HP : Hid (perMil f = -1) := Lib.hid (by unfold perMil; rw [g1, g2]; rfl)
      rw [g1] at e1; rw [g2] at e2
      go_enter Try.func17, Try.ntmps17
      go_wp2_with fail
      go_ret
      exact ⟨by rw [HP.out]; rfl, rfl⟩
    · have hr := rate_iff f
      rw [g1, g2] at hr
      obtain ⟨m1, m2⟩ := mulK_some hr.symm
      obtain ⟨i1, i2, i3, i4⟩ := floW_K m2
      have HP : Hid (perMil f = (flo (mulK f) : Int)) := Lib.hid (by unfold perMil; rw [g1, g2]; rfl)
      have hm : ∀ t w, (binOp .mul t (.float .f64 f) (.float .f64 4652007308841189376)).run Try.prog w = .ok (.float .f64 (mulK f)) w := fun t w => run_float_arith w .mul t .f64 f K _ m1
      have HO : ∀ k : Nat, k < 1000 → Hid ((FloatKind.f64.format.order (floatOfInt .f64 ((k : Int) + 1)) (mulK f) == some .lt || FloatKind.f64.format.order (floatOfInt .f64 ((k : Int) + 1)) (mulK f) == some .eq) = decide (k < flo (mulK f))) := fun k hk => Lib.hid (ord_whole m2 hk)
      rw [g1] at e1; rw [g2] at e2
      clear hr m1 m2 i1 i2 i4 g1 g2
      go_enter Try.func17, Try.ntmps17
      go_wp2
      go_loop [3] (fun n => ∃ k : Nat, k ≤ flo (mulK f) ∧ n = .int .i64 k) (fun n => 1000 - (intOf n).toNat)
      case atStart => exact ⟨0, Nat.zero_le _, rfl⟩
      case round =>
        obtain ⟨k, hk, rfl⟩ := hrel
        by_cases hlt : k < 1000
        · by_cases hk2 : k < flo (mulK f)
          · have hb := (HO k hlt).out
            rw [decide_eq_true hk2] at hb
            clear HO
            go_wp2
            go_round
            case rel => exact ⟨k + 1, by omega, by go_num⟩
            case measure => simp [intOf]; omega
          · have hb := (HO k hlt).out
            rw [decide_eq_false hk2] at hb
            have he : k = flo (mulK f) := by omega
            have HE := Lib.hid he
            clear he HO
            go_wp2
            go_ret
            exact ⟨by rw [HP.out, ← HE.out]; rfl, rfl⟩
        · have he : k = flo (mulK f) := by omega
          have HE := Lib.hid he
          clear he HO
          go_wp2
          go_ret
          exact ⟨by rw [HP.out, ← HE.out]; rfl, rfl⟩
end Go.Proofs.Ytlfnhjcpbkileaa.Fl
