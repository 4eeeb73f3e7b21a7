/- Layer 2 (stat), plain mathematics of doubles: a finite word's magnitude in units of the least number (val), the order of words as an order of integers (rank), and rounding to nearest that keeps the order. No condition but that words are below 2^64. -/
import Derived.Laws.FloatArith
import Derived.Below
namespace Go.Proofs.Ytlfnhjcpbkileaa.Fl
open Ieee RowKit

/-- rungs to a binade; the rung of infinity; the sign's weight -/
def B : Nat := 4503599627370496
def I : Nat := 9218868437227405312
def S : Nat := 9223372036854775808
theorem B_pow : B = 2 ^ 52 := by decide +kernel
theorem binade_d : double.binade = B := by decide +kernel
theorem infRung_d : double.infRung = I := by decide +kernel
theorem signWeight_d : double.signWeight = S := by decide +kernel
theorem least_d : double.leastPlace = -1074 := by decide +kernel
theorem frac_d : double.fractionBits = 52 := rfl

/-- the digits of a rung, and how far up they stand -/
def mg (r : Nat) : Nat := if r < B then r else B + r % B
def pl (r : Nat) : Nat := if r < B then 0 else r / B - 1
/-- a finite rung's magnitude, in units of the least number -/
def val (r : Nat) : Nat := mg r * 2 ^ pl r

theorem B_pos : 0 < B := by unfold B; omega
theorem val_zero : val 0 = 0 := by simp [val, mg, B_pos]
theorem val_step (r : Nat) : val r < val (r + 1) := by
  unfold val mg pl
  have hB := B_pos
  generalize B = B at *
  by_cases h : r + 1 < B
  · rw [if_pos (by omega), if_pos (by omega), if_pos h, if_pos h]; omega
  · rw [if_neg h, if_neg h]
    by_cases h1 : r < B
    · obtain rfl : B = r + 1 := by omega
      rw [if_pos h1, if_pos h1, Nat.div_self (by omega), Nat.mod_self]; omega
    · rw [if_neg h1, if_neg h1]
      have hd := Nat.div_add_mod r B
      have hm := Nat.mod_lt r hB
      have hq : 1 ≤ r / B := (Nat.one_le_div_iff hB).2 (by omega)
      generalize hqe : r / B = q at hd hq
      generalize hme : r % B = m at hd hm
      by_cases h2 : m + 1 < B
      · have e1 : (r + 1) / B = q := by
          rw [← hd, Nat.add_assoc, Nat.mul_add_div hB, Nat.div_eq_of_lt h2]; rfl
        have e2 : (r + 1) % B = m + 1 := by
          rw [← hd, Nat.add_assoc, Nat.mul_add_mod, Nat.mod_eq_of_lt h2]
        rw [e1, e2]
        exact Nat.mul_lt_mul_of_pos_right (by omega) (Nat.two_pow_pos _)
      · obtain rfl : B = m + 1 := by omega
        have e1 : (r + 1) / (m + 1) = q + 1 := by
          rw [← hd, Nat.add_assoc, Nat.mul_add_div hB, Nat.div_self hB]
        have e2 : (r + 1) % (m + 1) = 0 := by
          rw [← hd, Nat.add_assoc, Nat.mul_add_mod, Nat.mod_self]
        rw [e1, e2]
        have e3 : q + 1 - 1 = (q - 1) + 1 := by omega
        rw [e3, Nat.pow_succ]
        have := Nat.two_pow_pos (q - 1)
        generalize 2 ^ (q - 1) = z at this
        have : (m + 1 + m) * z + z = (m + 1 + 0) * (z * 2) := by
          rw [Nat.mul_comm z 2, ← Nat.mul_assoc, ← Nat.succ_mul]; congr 1; omega
        omega
theorem val_mono {a b : Nat} (h : a < b) : val a < val b := by
  induction b with
  | zero => omega
  | succ b ih =>
    by_cases e : a = b
    · subst e; exact val_step a
    · exact Nat.lt_trans (ih (by omega)) (val_step b)
theorem val_lt_iff {a b : Nat} : val a < val b ↔ a < b := by
  constructor
  · intro h
    by_cases e : a < b
    · exact e
    · by_cases e2 : a = b
      · subst e2; omega
      · have := val_mono (a := b) (b := a) (by omega); omega
  · exact val_mono
theorem val_inj {a b : Nat} (h : val a = val b) : a = b := by
  have h1 := val_lt_iff (a := a) (b := b)
  have h2 := val_lt_iff (a := b) (b := a)
  omega
theorem val_le_iff {a b : Nat} : val a ≤ val b ↔ a ≤ b := by
  have h1 := val_lt_iff (a := b) (b := a)
  omega

/-! What a word stands for -/
def isNaN (x : Nat) : Bool := decide (I < x % S)
def neg (x : Nat) : Bool := decide (S ≤ x)
/-- a word's place among all that are numbers, both zeros being one -/
def key (x : Nat) : Int := if x < S then (x : Int) else -((x : Int) - S)
theorem neg_eq {x : Nat} (h : x < 18446744073709551616) : (x / S % 2 == 1) = neg x := by
  unfold neg
  rw [Bool.eq_iff_iff, beq_iff_eq, decide_eq_true_eq]
  unfold S; omega
theorem read_fin {x : Nat} (h : x < 18446744073709551616) (hf : x % S < I) : double.read x = .number (neg x) (mg (x % S)) (-1074 + (pl (x % S) : Nat)) := by
  unfold Format.read
  simp only [signWeight_d, binade_d, infRung_d, least_d, neg_eq h]
  unfold mg pl
  by_cases h1 : x % S < B
  · rw [if_pos h1, if_pos h1, if_pos h1]; simp
  · rw [if_neg h1, if_pos hf, if_neg h1, if_neg h1]
theorem read_inf {x : Nat} (h : x < 18446744073709551616) (hf : x % S = I) : double.read x = .infinity (neg x) := by
  have hBI : B < I := by decide +kernel
  unfold Format.read
  simp only [signWeight_d, binade_d, infRung_d, neg_eq h]
  rw [if_neg (by omega), if_neg (by omega), if_pos hf]
theorem read_nan {x : Nat} (h : x < 18446744073709551616) (hf : I < x % S) : double.read x = .nan (neg x) (x % S - I) := by
  have hBI : B < I := by decide +kernel
  unfold Format.read
  simp only [signWeight_d, binade_d, infRung_d, neg_eq h]
  rw [if_neg (by omega), if_neg (by omega), if_neg (by omega)]

/-- 'compare' of two integers that stand to each other as two others do -/
theorem compare_congr {a b c d : Int} (h1 : a < b ↔ c < d) (h2 : a = b ↔ c = d) : compare a b = compare c d := by
  show compareOfLessAndEq a b = compareOfLessAndEq c d
  unfold compareOfLessAndEq
  simp only [h1, h2]
theorem signed_eq (s : Bool) (m u : Nat) : signed s m u = if s then -((m * 2 ^ u : Nat) : Int) else ((m * 2 ^ u : Nat) : Int) := by
  unfold signed; rw [Nat.shiftLeft_eq]
theorem shift_up (m a k : Nat) (h : k ≤ a) : m * 2 ^ (a - k) * 2 ^ k = m * 2 ^ a := by
  rw [Nat.mul_assoc, ← Nat.pow_add, Nat.sub_add_cancel h]
theorem scale_lt {a b c d k : Nat} (hk : 0 < k) (h1 : a * k = c) (h2 : b * k = d) : (a < b ↔ c < d) ∧ (a = b ↔ c = d) := by
  subst h1; subst h2
  exact ⟨(Nat.mul_lt_mul_right hk).symm, (Nat.mul_left_inj (by omega)).symm⟩

theorem order_fin {x y : Nat} (hx : x < 18446744073709551616) (hy : y < 18446744073709551616) (fx : x % S < I) (fy : y % S < I) :
    double.order x y = some (compare (key x) (key y)) := by
  unfold Format.order
  rw [read_fin hx fx, read_fin hy fy]
  simp only [Datum.order]
  congr 1
  have ex : ((-1074 + (pl (x % S) : Nat) : Int) - min ((-1074 : Int) + (pl (x % S) : Nat)) (-1074 + (pl (y % S) : Nat))).toNat = pl (x % S) - min (pl (x % S)) (pl (y % S)) := by omega
  have ey : ((-1074 + (pl (y % S) : Nat) : Int) - min ((-1074 : Int) + (pl (x % S) : Nat)) (-1074 + (pl (y % S) : Nat))).toNat = pl (y % S) - min (pl (x % S)) (pl (y % S)) := by omega
  rw [ex, ey, signed_eq, signed_eq]
  obtain ⟨s1, s2⟩ := scale_lt (Nat.two_pow_pos (min (pl (x % S)) (pl (y % S)))) (shift_up (mg (x % S)) (pl (x % S)) (min (pl (x % S)) (pl (y % S))) (by omega)) (shift_up (mg (y % S)) (pl (y % S)) (min (pl (x % S)) (pl (y % S))) (by omega))
  obtain ⟨t1, t2⟩ := scale_lt (Nat.two_pow_pos (min (pl (x % S)) (pl (y % S)))) (shift_up (mg (y % S)) (pl (y % S)) (min (pl (x % S)) (pl (y % S))) (by omega)) (shift_up (mg (x % S)) (pl (x % S)) (min (pl (x % S)) (pl (y % S))) (by omega))
  have zx : mg (x % S) * 2 ^ (pl (x % S) - min (pl (x % S)) (pl (y % S))) = 0 ↔ val (x % S) = 0 := by
    have := Nat.two_pow_pos (pl (x % S) - min (pl (x % S)) (pl (y % S)))
    have := Nat.two_pow_pos (pl (x % S))
    rw [val, Nat.mul_eq_zero, Nat.mul_eq_zero]; omega
  have zy : mg (y % S) * 2 ^ (pl (y % S) - min (pl (x % S)) (pl (y % S))) = 0 ↔ val (y % S) = 0 := by
    have := Nat.two_pow_pos (pl (y % S) - min (pl (x % S)) (pl (y % S)))
    have := Nat.two_pow_pos (pl (y % S))
    rw [val, Nat.mul_eq_zero, Nat.mul_eq_zero]; omega
  change _ ↔ val (x % S) < val (y % S) at s1
  change _ ↔ val (x % S) = val (y % S) at s2
  change _ ↔ val (y % S) < val (x % S) at t1
  rw [val_lt_iff] at s1 t1
  have s3 : mg (x % S) * 2 ^ (pl (x % S) - min (pl (x % S)) (pl (y % S))) = mg (y % S) * 2 ^ (pl (y % S) - min (pl (x % S)) (pl (y % S))) ↔ x % S = y % S := s2.trans ⟨val_inj, fun h => by rw [h]⟩
  have zx' : mg (x % S) * 2 ^ (pl (x % S) - min (pl (x % S)) (pl (y % S))) = 0 ↔ x % S = 0 := zx.trans ⟨fun h => val_inj (h.trans val_zero.symm), fun h => by rw [h]; exact val_zero⟩
  have zy' : mg (y % S) * 2 ^ (pl (y % S) - min (pl (x % S)) (pl (y % S))) = 0 ↔ y % S = 0 := zy.trans ⟨fun h => val_inj (h.trans val_zero.symm), fun h => by rw [h]; exact val_zero⟩
  generalize mg (x % S) * 2 ^ (pl (x % S) - min (pl (x % S)) (pl (y % S))) = u at s1 t1 s3 zx'
  generalize mg (y % S) * 2 ^ (pl (y % S) - min (pl (x % S)) (pl (y % S))) = v at s1 t1 s3 zy'
  clear zx zy s2 t2 ex ey
  unfold neg key
  unfold S at *
  apply compare_congr <;> (simp only [decide_eq_true_eq]; omega)

theorem nan_iff (x : Nat) : isNaN x = true ↔ I < x % S := by unfold isNaN; rw [decide_eq_true_eq]
theorem num_iff (x : Nat) : isNaN x = false ↔ x % S ≤ I := by unfold isNaN; rw [decide_eq_false_iff_not]; omega
theorem order_num {x y : Nat} (hx : x < 18446744073709551616) (hy : y < 18446744073709551616) (fx : isNaN x = false) (fy : isNaN y = false) :
    double.order x y = some (compare (key x) (key y)) := by
  have hIS : I < S := by decide +kernel
  have fx' : x % S ≤ I := (num_iff x).1 fx
  have fy' : y % S ≤ I := (num_iff y).1 fy
  by_cases ix : x % S = I
  · by_cases iy : y % S = I
    · unfold Format.order
      rw [read_inf hx ix, read_inf hy iy]
      simp only [Datum.order]
      have e1 : key x = if neg x then -(I : Int) else I := by unfold key neg S at *; simp only [decide_eq_true_eq]; omega
      have e2 : key y = if neg y then -(I : Int) else I := by unfold key neg S at *; simp only [decide_eq_true_eq]; omega
      rw [e1, e2]
      cases neg x <;> cases neg y <;> decide +kernel
    · unfold Format.order
      rw [read_inf hx ix, read_fin hy (by omega)]
      simp only [Datum.order]
      have e1 : key x = if neg x then -(I : Int) else I := by unfold key neg S at *; simp only [decide_eq_true_eq]; omega
      have e2 : -(I : Int) < key y ∧ key y < I := by unfold key S at *; omega
      rw [e1]
      congr 1
      cases neg x
      · exact (Int.compare_eq_gt.2 e2.2).symm
      · exact (Int.compare_eq_lt.2 e2.1).symm
  · by_cases iy : y % S = I
    · unfold Format.order
      rw [read_inf hy iy, read_fin hx (by omega)]
      simp only [Datum.order]
      have e1 : key y = if neg y then -(I : Int) else I := by unfold key neg S at *; simp only [decide_eq_true_eq]; omega
      have e2 : -(I : Int) < key x ∧ key x < I := by unfold key S at *; omega
      rw [e1]
      congr 1
      cases neg y
      · exact (Int.compare_eq_lt.2 e2.2).symm
      · exact (Int.compare_eq_gt.2 e2.1).symm
    · exact order_fin hx hy (by omega) (by omega)
theorem order_nan {x y : Nat} (hx : x < 18446744073709551616) (hy : y < 18446744073709551616) (h : isNaN x = true ∨ isNaN y = true) :
    double.order x y = none := by
  unfold Format.order
  rcases h with h | h
  · rw [read_nan hx ((nan_iff x).1 h)]; rfl
  · rw [read_nan hy ((nan_iff y).1 h)]; cases double.read x <;> rfl

/-! The comparisons, as the walk shows them -/
theorem cmp_lt {a b : Int} : (some (compare a b) == some Ordering.lt) = decide (a < b) := by
  rw [Bool.eq_iff_iff, beq_iff_eq, decide_eq_true_eq, Option.some_inj, Int.compare_eq_lt]
theorem cmp_gt {a b : Int} : (some (compare a b) == some Ordering.gt) = decide (b < a) := by
  rw [Bool.eq_iff_iff, beq_iff_eq, decide_eq_true_eq, Option.some_inj, Int.compare_eq_gt]
theorem cmp_eq {a b : Int} : (some (compare a b) == some Ordering.eq) = decide (a = b) := by
  rw [Bool.eq_iff_iff, beq_iff_eq, decide_eq_true_eq, Option.some_inj, Int.compare_eq_eq]
theorem ord_lt {x y : Nat} (hx : x < 18446744073709551616) (hy : y < 18446744073709551616) :
    (FloatKind.f64.format.order x y == some .lt) = (!isNaN x && !isNaN y && decide (key x < key y)) := by
  show (double.order x y == _) = _
  cases nx : isNaN x
  · cases ny : isNaN y
    · rw [order_num hx hy nx ny, cmp_lt]; rfl
    · rw [order_nan hx hy (.inr ny)]; rfl
  · rw [order_nan hx hy (.inl nx)]; rfl
theorem ord_gt {x y : Nat} (hx : x < 18446744073709551616) (hy : y < 18446744073709551616) :
    (FloatKind.f64.format.order x y == some .gt) = (!isNaN x && !isNaN y && decide (key y < key x)) := by
  show (double.order x y == _) = _
  cases nx : isNaN x
  · cases ny : isNaN y
    · rw [order_num hx hy nx ny, cmp_gt]; rfl
    · rw [order_nan hx hy (.inr ny)]; rfl
  · rw [order_nan hx hy (.inl nx)]; rfl
theorem ord_eq {x y : Nat} (hx : x < 18446744073709551616) (hy : y < 18446744073709551616) :
    (FloatKind.f64.format.order x y == some .eq) = (!isNaN x && !isNaN y && decide (key x = key y)) := by
  show (double.order x y == _) = _
  cases nx : isNaN x
  · cases ny : isNaN y
    · rw [order_num hx hy nx ny, cmp_eq]; rfl
    · rw [order_nan hx hy (.inr ny)]; rfl
  · rw [order_nan hx hy (.inl nx)]; rfl

/-- a word's place among all words: both zeros apart, all that are no number one, above all -/
def rank (x : Nat) : Int := if isNaN x then 18446744073709551616 else if x < S then (x : Int) else -((x : Int) - S) - 1
def lessB (x y : Nat) : Bool := decide (rank x < rank y)
/-- the same, all that are no number being one -/
def sameB (x y : Nat) : Bool := decide (rank x = rank y)
theorem same_eq (x y : Nat) : (!lessB x y && !lessB y x) = sameB x y := by
  unfold lessB sameB
  rw [Bool.eq_iff_iff]; simp only [Bool.and_eq_true, Bool.not_eq_true', decide_eq_false_iff_not, decide_eq_true_eq]; omega

/-! Rounding -/
/-- n / 2 ^ d, to the nearest whole number, between two to the even one -/
def rnd (n d : Nat) : Nat := n / 2 ^ d + (decide (2 ^ d < 2 * (n % 2 ^ d)) || ((2 ^ d == 2 * (n % 2 ^ d)) && (n / 2 ^ d % 2 == 1))).toNat
theorem toNat_le (b : Bool) : b.toNat ≤ 1 := by cases b <;> decide
theorem rnd_ge (n d : Nat) : n / 2 ^ d ≤ rnd n d := by unfold rnd; omega
theorem rnd_le (n d : Nat) : rnd n d ≤ n / 2 ^ d + 1 := by unfold rnd; have := toNat_le (decide (2 ^ d < 2 * (n % 2 ^ d)) || ((2 ^ d == 2 * (n % 2 ^ d)) && (n / 2 ^ d % 2 == 1))); omega
theorem rnd_zero (n : Nat) : rnd n 0 = n := by
  unfold rnd; rw [Nat.pow_zero, Nat.div_one, Nat.mod_one]; simp
theorem rnd_scale (n d k : Nat) : rnd (n * 2 ^ k) (d + k) = rnd n d := by
  have hk := Nat.two_pow_pos k
  unfold rnd
  rw [Nat.pow_add, Nat.mul_div_mul_right _ _ hk, Nat.mul_mod_mul_right, ← Nat.mul_assoc]
  have e1 : decide (2 ^ d * 2 ^ k < 2 * (n % 2 ^ d) * 2 ^ k) = decide (2 ^ d < 2 * (n % 2 ^ d)) := by
    rw [Bool.eq_iff_iff, decide_eq_true_eq, decide_eq_true_eq, Nat.mul_lt_mul_right hk]
  have e2 : (2 ^ d * 2 ^ k == 2 * (n % 2 ^ d) * 2 ^ k) = (2 ^ d == 2 * (n % 2 ^ d)) := by
    rw [Bool.eq_iff_iff, beq_iff_eq, beq_iff_eq, Nat.mul_left_inj (by omega)]
  rw [e1, e2]
theorem rnd_mono {a b : Nat} (d : Nat) (h : a ≤ b) : rnd a d ≤ rnd b d := by
  have hq := Nat.div_le_div_right (c := 2 ^ d) h
  by_cases e : a / 2 ^ d = b / 2 ^ d
  · have ha := Nat.div_add_mod a (2 ^ d)
    have hb := Nat.div_add_mod b (2 ^ d)
    have hm : a % 2 ^ d ≤ b % 2 ^ d := by rw [e] at ha; omega
    unfold rnd
    rw [e]
    apply Nat.add_le_add_left
    generalize b / 2 ^ d = q
    generalize a % 2 ^ d = x at hm
    generalize b % 2 ^ d = y at hm
    generalize 2 ^ d = z
    by_cases h1 : z < 2 * y
    · rw [decide_eq_true h1]; simp only [Bool.true_or]; exact toNat_le _
    · have h2 : ¬ z < 2 * x := by omega
      rw [decide_eq_false h1, decide_eq_false h2, Bool.false_or, Bool.false_or]
      by_cases h3 : z = 2 * x
      · have h4 : z = 2 * y := by omega
        rw [beq_iff_eq.2 h3, beq_iff_eq.2 h4]; exact Nat.le_refl _
      · rw [beq_eq_false_iff_ne.2 h3]; simp
  · have := rnd_le a d
    have := rnd_ge b d
    omega
theorem cut_even (s : Bool) (n drop : Nat) : Toward.even.cut s n drop = rnd n drop := by
  have h1 := Nat.lt_log2_self (n := n)
  unfold Toward.cut
  simp only [Nat.shiftLeft_eq, Nat.one_mul]
  by_cases h : drop ≤ n.log2 + 2
  · rw [Nat.min_eq_left h]; rfl
  · rw [Nat.min_eq_right (by omega)]
    have e : (2 : Nat) ^ (n.log2 + 2) = 2 ^ (n.log2 + 1) * 2 := Nat.pow_succ ..
    have e2 : (2 : Nat) ^ (n.log2 + 2) ≤ 2 ^ drop := Nat.pow_le_pow_right (by omega) (by omega)
    unfold rnd
    rw [Nat.div_eq_of_lt (a := n) (b := 2 ^ (n.log2 + 2)) (by omega), Nat.mod_eq_of_lt (a := n) (b := 2 ^ (n.log2 + 2)) (by omega), Nat.div_eq_of_lt (a := n) (b := 2 ^ drop) (by omega), Nat.mod_eq_of_lt (a := n) (b := 2 ^ drop) (by omega)]
    have d1 : decide (2 ^ (n.log2 + 2) < 2 * n) = false := decide_eq_false (by omega)
    have d2 : decide (2 ^ drop < 2 * n) = false := decide_eq_false (by omega)
    have d3 : (2 ^ (n.log2 + 2) == 2 * n) = false := beq_eq_false_iff_ne.2 (by omega)
    have d4 : (2 ^ drop == 2 * n) = false := beq_eq_false_iff_ne.2 (by omega)
    rw [d1, d2, d3, d4]
theorem cut_down (n drop : Nat) : Toward.down.cut false n drop = n / 2 ^ drop := by
  have h1 := Nat.lt_log2_self (n := n)
  unfold Toward.cut
  simp only [Nat.shiftLeft_eq, Nat.one_mul]
  by_cases h : drop ≤ n.log2 + 2
  · rw [Nat.min_eq_left h]; rfl
  · rw [Nat.min_eq_right (by omega)]
    have e : (2 : Nat) ^ (n.log2 + 2) = 2 ^ (n.log2 + 1) * 2 := Nat.pow_succ ..
    have e2 : (2 : Nat) ^ (n.log2 + 2) ≤ 2 ^ drop := Nat.pow_le_pow_right (by omega) (by omega)
    rw [Nat.div_eq_of_lt (a := n) (b := 2 ^ drop) (by omega), Nat.div_eq_of_lt (by omega)]; rfl

/-- the digits' last place, and what is kept: of mag * 2 ^ (b + a), where the least place is b + l -/
def top (mag a l : Nat) : Nat := max (a + mag.log2 - 52) l
def rung (mag a l : Nat) : Nat := (top mag a l - l) * B + rnd (mag * 2 ^ a) (top mag a l)
theorem nearest_eq (s : Bool) (mag : Nat) (hm : mag ≠ 0) (b : Int) (a l : Nat) (hb : b + l = -1074) (place : Int) (hp : place = b + a) :
    double.nearest s mag place = double.word s (min (rung mag a l) I) := by
  subst hp
  unfold Format.nearest
  simp only [frac_d, binade_d, infRung_d, least_d]
  rw [if_neg hm]
  have e1 : max (b + (a : Int) + (mag.log2 : Int) - ((52 : Nat) : Int)) (-1074) = b + (top mag a l : Int) := by unfold top; omega
  rw [e1]
  have e2 : (b + (top mag a l : Int) - -1074).toNat = top mag a l - l := by omega
  have e3 : (b + (a : Int) - (b + (top mag a l : Int))).toNat = a - top mag a l := by omega
  have e4 : (b + (top mag a l : Int) - (b + (a : Int))).toNat = top mag a l - a := by omega
  rw [e2, e3, e4, Nat.shiftLeft_eq, cut_even]
  unfold rung
  congr 3
  by_cases h : top mag a l ≤ a
  · have e5 : top mag a l - a = 0 := by omega
    rw [e5, ← rnd_scale _ 0 (top mag a l), shift_up _ _ _ h, Nat.zero_add]
  · have e5 : a - top mag a l = 0 := by omega
    rw [e5, Nat.pow_zero, Nat.mul_one, ← rnd_scale _ _ a]
    congr 1; omega
theorem rung_mono {m n a c l : Nat} (hm : m ≠ 0) (hn : n ≠ 0) (h : m * 2 ^ a ≤ n * 2 ^ c) : rung m a l ≤ rung n c l := by
  have m1 := Nat.log2_self_le hm
  have m2 := Nat.lt_log2_self (n := m)
  have n1 := Nat.log2_self_le hn
  have n2 := Nat.lt_log2_self (n := n)
  have pa := Nat.two_pow_pos a
  have pc := Nat.two_pow_pos c
  have M1 : 2 ^ (m.log2 + a) ≤ m * 2 ^ a := by rw [Nat.pow_add]; exact Nat.mul_le_mul_right _ m1
  have M2 : m * 2 ^ a < 2 ^ (m.log2 + 1 + a) := by rw [Nat.pow_add]; exact Nat.mul_lt_mul_of_pos_right m2 pa
  have N1 : 2 ^ (n.log2 + c) ≤ n * 2 ^ c := by rw [Nat.pow_add]; exact Nat.mul_le_mul_right _ n1
  have N2 : n * 2 ^ c < 2 ^ (n.log2 + 1 + c) := by rw [Nat.pow_add]; exact Nat.mul_lt_mul_of_pos_right n2 pc
  have le : m.log2 + a ≤ n.log2 + c := by
    have : m.log2 + a < n.log2 + 1 + c := (Nat.pow_lt_pow_iff_right (a := 2) (by omega)).1 (by omega)
    omega
  have ht : top m a l ≤ top n c l := by unfold top; omega
  by_cases e : top m a l = top n c l
  · unfold rung; rw [e]
    exact Nat.add_le_add_left (rnd_mono _ h) _
  · have hN : n.log2 + c = 52 + top n c l := by unfold top at *; omega
    have hM : m.log2 + 1 + a ≤ 53 + top m a l := by unfold top; omega
    have hl : l ≤ top m a l := by unfold top; omega
    have k2 : B ≤ rnd (n * 2 ^ c) (top n c l) := by
      refine Nat.le_trans ?_ (rnd_ge _ _)
      rw [Nat.le_div_iff_mul_le (Nat.two_pow_pos _), B_pow, ← Nat.pow_add, ← hN]; exact N1
    have k1 : rnd (m * 2 ^ a) (top m a l) ≤ 2 * B := by
      refine Nat.le_trans (rnd_le _ _) ?_
      have : m * 2 ^ a / 2 ^ top m a l < 2 * B := by
        rw [Nat.div_lt_iff_lt_mul (Nat.two_pow_pos _), B_pow, Nat.mul_comm 2, ← Nat.pow_succ, ← Nat.pow_add]
        exact Nat.lt_of_lt_of_le M2 (Nat.pow_le_pow_right (by omega) hM)
      omega
    unfold rung
    have : (top m a l - l) * B + 2 * B ≤ (top n c l - l) * B + B := by
      have : (top m a l - l + 1) * B ≤ (top n c l - l) * B := Nat.mul_le_mul_right _ (by omega)
      rw [Nat.add_mul] at this
      omega
    omega
theorem rung_shift (m a l k : Nat) : rung m (a + k) (l + k) = rung m a l := by
  have e : top m (a + k) (l + k) = top m a l + k := by unfold top; omega
  unfold rung
  rw [e, Nat.pow_add, ← Nat.mul_assoc, rnd_scale]
  congr 2; omega
/-- how far down the least number stands -/
def L : Nat := 1074
theorem L_eq : L = 1074 := rfl
theorem word_pos (r : Nat) : double.word false r = r := rfl
theorem word_neg (r : Nat) : double.word true r = S + r := by rw [← signWeight_d]; rfl

/-! A whole number as a float -/
def ONE : Nat := 4607182418800017408
def K : Nat := 4652007308841189376
def fi (n : Nat) : Nat := if n = 0 then 0 else min (rung n L 0) I
theorem fi_eq (n : Nat) : floatOfInt .f64 (n : Int) = fi n := by
  show double.nearest (decide ((n : Int) < 0)) ((n : Int).natAbs) 0 = fi n
  rw [decide_eq_false (by omega), Int.natAbs_natCast]
  unfold fi
  by_cases h : n = 0
  · rw [if_pos h]; subst h; rfl
  · rw [if_neg h, nearest_eq false n h (-1074) L 0 (by omega) 0 (by rw [L_eq]; omega), word_pos]
theorem fi_mono {m n : Nat} (h : m ≤ n) : fi m ≤ fi n := by
  unfold fi
  by_cases h1 : m = 0
  · rw [if_pos h1]; exact Nat.zero_le _
  · rw [if_neg h1, if_neg (by omega)]
    have := rung_mono (a := L) (c := L) (l := 0) h1 (by omega : n ≠ 0) (Nat.mul_le_mul_right _ h)
    omega
theorem fi_one : fi 1 = ONE := by decide +kernel
theorem fi_top : fi 9223372036854775808 < I := by decide +kernel
theorem fi_lt {n : Nat} (h : n < 9223372036854775808) : fi n < I := Nat.lt_of_le_of_lt (fi_mono (by omega)) fi_top
theorem I_lt_S : I < S := by decide +kernel
theorem S_lt : S + S = 18446744073709551616 := by decide +kernel
theorem ONE_lt : 0 < ONE ∧ ONE < K ∧ K < I := by decide +kernel

/-! The quotient of two that rise -/
theorem mg_lt (r : Nat) : mg r < 2 * B := by
  unfold mg; have := Nat.mod_lt r B_pos
  by_cases h : r < B
  · rw [if_pos h]; omega
  · rw [if_neg h]; omega
theorem mg_zero {r : Nat} (h : mg r = 0) : r = 0 := by
  have hB := B_pos
  unfold mg at h
  by_cases h1 : r < B
  · rw [if_pos h1] at h; exact h
  · rw [if_neg h1] at h; omega
theorem read_pos {r : Nat} (h : r < I) : double.read r = .number false (mg r) (-1074 + (pl r : Nat)) := by
  have h1 := I_lt_S
  have h2 := S_lt
  have e := read_fin (x := r) (by omega) (by rw [Nat.mod_eq_of_lt (by omega)]; exact h)
  rw [Nat.mod_eq_of_lt (by omega)] at e
  rw [e]; congr 1
  unfold neg; rw [decide_eq_false (by omega)]
theorem rung_one (k : Nat) : rung 1 (L + k) k = ONE := by
  have h := rung_shift 1 L 0 k
  rw [Nat.zero_add] at h
  rw [h]; decide +kernel
theorem quo_le {x y : Nat} (h : x ≤ y) (hy : y < I) (hy0 : 0 < y) : ∃ r, floatBits .quo .f64 x y = some r ∧ r ≤ ONE := by
  have hv := val_le_iff.2 h
  have hn : mg y ≠ 0 := fun e => by have := mg_zero e; omega
  show ∃ r, double.div x y = some r ∧ r ≤ ONE
  unfold Format.div
  rw [read_pos (Nat.lt_of_le_of_lt h hy), read_pos hy]
  unfold Datum.quotient
  simp only [frac_d]
  rw [if_neg hn]
  refine ⟨_, rfl, ?_⟩
  unfold Format.write
  generalize hmore : 52 + 2 + (mg y).log2 - (mg x).log2 = more
  rw [Nat.shiftLeft_eq]
  by_cases h0 : mg x = 0
  · rw [h0, Nat.zero_mul, Nat.zero_div, Nat.zero_mod]
    exact Nat.le_of_lt ONE_lt.1
  · have l1 := Nat.log2_self_le h0
    have l2 := Nat.lt_log2_self (n := mg y)
    have lx : (mg x).log2 < 53 := (Nat.log2_lt h0).2 (by have := mg_lt x; rw [B_pow] at this; omega)
    unfold val at hv
    have le : (mg x).log2 + pl x ≤ (mg y).log2 + pl y := by
      have a1 : 2 ^ ((mg x).log2 + pl x) ≤ mg x * 2 ^ pl x := by rw [Nat.pow_add]; exact Nat.mul_le_mul_right _ l1
      have a2 : mg y * 2 ^ pl y < 2 ^ ((mg y).log2 + 1 + pl y) := by rw [Nat.pow_add]; exact Nat.mul_lt_mul_of_pos_right l2 (Nat.two_pow_pos _)
      have : (mg x).log2 + pl x < (mg y).log2 + 1 + pl y := (Nat.pow_lt_pow_iff_right (a := 2) (by omega)).1 (by omega)
      omega
    obtain ⟨e, he⟩ : ∃ e, e + pl x = pl y + more := ⟨pl y + more - pl x, by omega⟩
    have hD : mg x * 2 ^ more ≤ mg y * 2 ^ e := by
      have : mg x * 2 ^ more * 2 ^ pl x ≤ mg y * 2 ^ e * 2 ^ pl x := by
        rw [Nat.mul_assoc (mg y), ← Nat.pow_add, he, Nat.pow_add, ← Nat.mul_assoc, Nat.mul_right_comm]
        exact Nat.mul_le_mul_right _ hv
      exact Nat.le_of_mul_le_mul_right this (Nat.two_pow_pos _)
    generalize mg x * 2 ^ more = D at hD
    have hq : 2 * (D / mg y) + (D % mg y != 0).toNat ≤ 2 ^ (e + 1) := by
      have d := Nat.div_add_mod D (mg y)
      have p2 : (2 : Nat) ^ (e + 1) = 2 * 2 ^ e := by rw [Nat.pow_succ, Nat.mul_comm]
      rw [p2]
      by_cases hlt : D / mg y < 2 ^ e
      · have := toNat_le (D % mg y != 0); omega
      · have hle : D / mg y ≤ 2 ^ e := by
          have := Nat.div_le_div_right (c := mg y) hD
          rwa [Nat.mul_div_cancel_left _ (by omega)] at this
        have heq : D / mg y = 2 ^ e := by omega
        rw [heq] at d ⊢
        have : D % mg y = 0 := by omega
        rw [this]; simp
    generalize 2 * (D / mg y) + (D % mg y != 0).toNat = q at hq
    by_cases hq0 : q = 0
    · subst hq0; exact Nat.le_of_lt ONE_lt.1
    · show double.nearest false q _ ≤ ONE
      rw [nearest_eq false q hq0 (-1074 - ((e + 1 : Nat) : Int)) L (e + 1) (by omega) _ (by rw [L_eq]; omega), word_pos]
      have := rung_mono (m := q) (n := 1) (a := L) (c := L + (e + 1)) (l := e + 1) hq0 (by omega) (by
        rw [Nat.one_mul, Nat.add_comm L, Nat.pow_add]; exact Nat.mul_le_mul_right _ hq)
      rw [rung_one] at this
      exact Nat.le_trans (Nat.min_le_left _ _) this

/-! A rate in thousandths -/
def inRate (x : Nat) : Bool := !isNaN x && decide (0 ≤ key x) && decide (key x ≤ (ONE : Int))
theorem inRate_cases {x : Nat} (h : inRate x = true) : x ≤ ONE ∨ x = S := by
  unfold inRate at h
  simp only [Bool.and_eq_true, decide_eq_true_eq] at h
  obtain ⟨⟨_, h1⟩, h2⟩ := h
  have := ONE_lt
  have := I_lt_S
  have := S_lt
  unfold key at h1 h2
  by_cases hs : x < S
  · rw [if_pos hs] at h2; omega
  · rw [if_neg hs] at h1; omega
theorem val_ONE : val ONE = 2 ^ L := by decide +kernel
theorem rung_K : rung (mg K) (pl K) 0 = K := by decide +kernel
theorem mg_K : mg K ≠ 0 := by decide +kernel
theorem mul_bound {m c p k l : Nat} (h : m * 2 ^ p ≤ 2 ^ l) : m * c * 2 ^ (p + k) ≤ c * 2 ^ (k + l) := by
  rw [Nat.pow_add, Nat.mul_mul_mul_comm, Nat.pow_add, ← Nat.mul_assoc c, Nat.mul_comm (m * 2 ^ p)]
  exact Nat.mul_le_mul_left _ h
theorem mul_K {x : Nat} (h : x ≤ ONE) : ∃ r, floatBits .mul .f64 x K = some r ∧ r ≤ K := by
  have ho := ONE_lt
  have hv := val_le_iff.2 h
  rw [val_ONE] at hv
  show ∃ r, double.mul x K = some r ∧ r ≤ K
  unfold Format.mul
  rw [read_pos (by omega), read_pos (by omega)]
  unfold Datum.product
  refine ⟨_, rfl, ?_⟩
  show double.nearest false (mg x * mg K) _ ≤ K
  by_cases h0 : mg x = 0
  · rw [h0, Nat.zero_mul]; exact Nat.zero_le _
  · have h1 : mg x * mg K ≠ 0 := by have := mg_K; rw [Ne, Nat.mul_eq_zero]; omega
    rw [nearest_eq false _ h1 (-2148) (pl x + pl K) L (by rw [L_eq]; omega) _ (by omega), word_pos]
    have := rung_mono (m := mg x * mg K) (n := mg K) (a := pl x + pl K) (c := pl K + L) (l := L) h1 mg_K (mul_bound hv)
    have e := rung_shift (mg K) (pl K) 0 L
    rw [Nat.zero_add, rung_K] at e
    rw [e] at this
    omega
theorem mul_K_S : floatBits .mul .f64 S K = some S := by decide +kernel
def mulK (x : Nat) : Nat := (floatBits .mul .f64 x K).getD 0
theorem mulK_some {x : Nat} (h : inRate x = true) : floatBits .mul .f64 x K = some (mulK x) ∧ (mulK x ≤ K ∨ mulK x = S) := by
  rcases inRate_cases h with h | h
  · obtain ⟨r, h1, h2⟩ := mul_K h
    have : mulK x = r := by unfold mulK; rw [h1]; rfl
    rw [this]; exact ⟨h1, .inl h2⟩
  · subst h
    have : mulK S = S := by unfold mulK; rw [mul_K_S]; rfl
    rw [this]; exact ⟨mul_K_S, .inr rfl⟩

/-- the whole part of a number of the document's thousandths -/
def flo (r : Nat) : Nat := if r < S then val r / 2 ^ L else 0
theorem val_K : val K = 1000 * 2 ^ L := by decide +kernel
theorem flo_le {r : Nat} (h : r ≤ K) : flo r ≤ 1000 := by
  have hv := val_le_iff.2 h
  rw [val_K] at hv
  unfold flo
  by_cases hs : r < S
  · rw [if_pos hs]
    exact Nat.div_le_of_le_mul (by rw [Nat.mul_comm]; exact hv)
  · rw [if_neg hs]; omega
theorem floor_num {r : Nat} (h : r < I) : (double.read r).integral .down = .number false (flo r) 0 := by
  rw [read_pos h]
  unfold Datum.integral flo
  rw [if_pos (by have := I_lt_S; omega)]
  simp only
  rw [cut_down, Nat.shiftLeft_eq]
  congr 1
  unfold val
  have hL := L_eq
  by_cases hp : pl r ≤ L
  · have e1 : ((-1074 : Int) + (pl r : Nat)).toNat = 0 := by omega
    have e2 : (-((-1074 : Int) + (pl r : Nat))).toNat = L - pl r := by omega
    rw [e1, e2, Nat.pow_zero, Nat.mul_one]
    have e3 : (2 : Nat) ^ L = 2 ^ (L - pl r) * 2 ^ pl r := by rw [← Nat.pow_add]; congr 1; omega
    rw [e3, Nat.mul_div_mul_right _ _ (Nat.two_pow_pos _)]
  · have e1 : ((-1074 : Int) + (pl r : Nat)).toNat = pl r - L := by omega
    have e2 : (-((-1074 : Int) + (pl r : Nat))).toNat = 0 := by omega
    rw [e1, e2, Nat.pow_zero, Nat.div_one, ← shift_up (mg r) (pl r) L (by omega), Nat.mul_div_cancel _ (Nat.two_pow_pos _)]
theorem whole_back : ∀ k : Fin 1001, floatToIntVal .f64 (double.write (.number false k.1 0)) .i64 = some (k.1 : Int) := by decide +kernel
theorem val_fi : ∀ k : Fin 1001, val (fi k.1) = k.1 * 2 ^ L := by decide +kernel

/-! What an operation gives, drawn or not -/
theorem read_nan' {x : Nat} (h : isNaN x = true) : ∃ s t, double.read x = .nan s t := by
  have hBI : B < I := by decide +kernel
  have h' := (nan_iff x).1 h
  unfold Format.read
  simp only [signWeight_d, binade_d, infRung_d]
  rw [if_neg (by omega), if_neg (by omega), if_neg (by omega)]
  exact ⟨_, _, rfl⟩
/-- 'r' is an answer of the operation: its bits, or some that are no number where it has none -/
def Ans (op : BinOp) (x y r : Nat) : Prop := floatBits op .f64 x y = some r ∨ (floatBits op .f64 x y = none ∧ isNaN r = true)
/-- the same, all that are no number being one -/
def Sim (a b : Nat) : Prop := a = b ∨ (isNaN a = true ∧ isNaN b = true)
theorem sum_nan_l (s : Bool) (t : Nat) (d : Datum) : (Datum.nan s t).sum d = none := rfl
theorem sum_nan_r (s : Bool) (t : Nat) (d : Datum) : d.sum (Datum.nan s t) = none := by cases d <;> rfl
theorem prod_nan_l (s : Bool) (t : Nat) (d : Datum) : (Datum.nan s t).product d = none := rfl
theorem prod_nan_r (s : Bool) (t : Nat) (d : Datum) : d.product (Datum.nan s t) = none := by cases d <;> rfl
theorem quo_nan_l (k : Nat) (s : Bool) (t : Nat) (d : Datum) : (Datum.nan s t).quotient k d = none := rfl
theorem quo_nan_r (k : Nat) (s : Bool) (t : Nat) (d : Datum) : d.quotient k (Datum.nan s t) = none := by cases d <;> rfl
theorem fmt64 : FloatKind.f64.format = double := rfl
theorem none_left {x y : Nat} (op : BinOp) (h : isNaN x = true) : floatBits op .f64 x y = none := by
  obtain ⟨s, t, e⟩ := read_nan' h
  unfold floatBits
  rw [fmt64]
  split
  · rw [Format.add, e, sum_nan_l]; rfl
  · rw [Format.sub, e, sum_nan_l]; rfl
  · rw [Format.mul, e, prod_nan_l]; rfl
  · rw [Format.div, e, quo_nan_l]; rfl
  · rfl
theorem none_right {x y : Nat} (op : BinOp) (h : isNaN y = true) : floatBits op .f64 x y = none := by
  obtain ⟨s, t, e⟩ := read_nan' h
  unfold floatBits
  rw [fmt64]
  split
  · rw [Format.add, e, sum_nan_r]; rfl
  · rw [Format.sub, e, Datum.opposite, sum_nan_r]; rfl
  · rw [Format.mul, e, prod_nan_r]; rfl
  · rw [Format.div, e, quo_nan_r]; rfl
  · rfl
theorem ans_sim {op : BinOp} {x y x' y' r r' : Nat} (h : Ans op x y r) (h' : Ans op x' y' r') (hx : Sim x x') (hy : Sim y y') : Sim r r' := by
  have key : ∀ {a b a' b' : Nat}, floatBits op .f64 a b = none → floatBits op .f64 a' b' = none → Ans op a b r → Ans op a' b' r' → Sim r r' := by
    intro a b a' b' n1 n2 h1 h2
    rcases h1 with h1 | ⟨_, h1⟩
    · rw [n1] at h1; cases h1
    · rcases h2 with h2 | ⟨_, h2⟩
      · rw [n2] at h2; cases h2
      · exact .inr ⟨h1, h2⟩
  rcases hx with rfl | ⟨a, b⟩
  · rcases hy with rfl | ⟨a, b⟩
    · rcases h with h | ⟨h0, h⟩
      · rcases h' with h' | ⟨h0', h'⟩
        · rw [h] at h'; exact .inl (Option.some_inj.1 h')
        · rw [h] at h0'; cases h0'
      · rcases h' with h' | ⟨h0', h'⟩
        · rw [h0] at h'; cases h'
        · exact .inr ⟨h, h'⟩
    · exact key (none_right op a) (none_right op b) h h'
  · exact key (none_left op a) (none_left op b) h h'
theorem sim_rank {a b : Nat} (h : Sim a b) : sameB a b = true := by
  unfold sameB; rw [decide_eq_true_eq]
  rcases h with rfl | ⟨h1, h2⟩
  · rfl
  · unfold rank; rw [if_pos h1, if_pos h2]

def fr (op : BinOp) (x y : Nat) (w : World) : Nat :=
  match floatBits op .f64 x y with
  | some r => r
  | none => (Question.nanBits .f64 x y).cut (w.tape w.drawn (.nanBits .f64 x y))
def fw (op : BinOp) (x y : Nat) (w : World) : World :=
  match floatBits op .f64 x y with
  | some _ => w
  | none => w.drew
theorem run_fop {P : Program} (w : World) (op : BinOp) (hop : op = .add ∨ op = .sub ∨ op = .mul ∨ op = .quo) (t : TypeId) (x y : Nat) :
    (binOp op t (.float .f64 x) (.float .f64 y)).run P w = .ok (.float .f64 (fr op x y w)) (fw op x y w) := by
  unfold fr fw
  cases h : floatBits op .f64 x y with
  | some r => exact run_float_arith w op t .f64 x y r h
  | none =>
    unfold floatBits at h
    rcases hop with rfl | rfl | rfl | rfl <;> (simp only at h; simp [binOp, Op.floatArith, h, Question.forced])
theorem fr_lt (op : BinOp) (x y : Nat) (w : World) : fr op x y w < 18446744073709551616 := by
  unfold fr
  cases h : floatBits op .f64 x y with
  | some r => have := floatBits_wf h; simpa [Lit.wf] using this
  | none => simp only [Question.cut]; omega
theorem nan_draw (t : Nat) : isNaN ((t % 2) * 2 ^ 63 + 0x7ff0000000000000 + 1 + (t / 2) % (2 ^ 52 - 1)) = true := by
  have h1 : t % 2 < 2 := Nat.mod_lt _ (by omega)
  have h2 : (t / 2) % (2 ^ 52 - 1) < 2 ^ 52 - 1 := Nat.mod_lt _ (by omega)
  generalize t % 2 = a at h1
  generalize (t / 2) % (2 ^ 52 - 1) = b at h2
  rw [nan_iff]; unfold I S
  rcases (by omega : a = 0 ∨ a = 1) with rfl | rfl <;> omega
theorem fr_ans (op : BinOp) (x y : Nat) (w : World) : Ans op x y (fr op x y w) := by
  unfold fr Ans
  cases h : floatBits op .f64 x y with
  | some r => exact .inl rfl
  | none => exact .inr ⟨rfl, nan_draw _⟩
theorem fr_some {op : BinOp} {x y r : Nat} (h : floatBits op .f64 x y = some r) (w : World) : fr op x y w = r ∧ fw op x y w = w := by
  unfold fr fw; rw [h]; exact ⟨rfl, rfl⟩
theorem fw_heap (op : BinOp) (x y : Nat) (w : World) : Below w.heap.size w (fw op x y w) ∧ (fw op x y w).heap.size = w.heap.size := by
  unfold fw
  cases floatBits op .f64 x y with
  | some r => exact ⟨Below.refl _ _, rfl⟩
  | none => exact ⟨(Below.refl _ _).drew, rfl⟩

/-- an average that moves on, as the document says: of what is no number any -/
def Blent (old now weight r : Nat) : Prop :=
  (isNaN old = true ∧ r = now) ∨ (isNaN old = false ∧ (isNaN now || isNaN weight) = true ∧ r = old) ∨
  (isNaN old = false ∧ (isNaN now || isNaN weight) = false ∧ ∃ a p q, Ans .sub ONE weight a ∧ Ans .mul old a p ∧ Ans .mul now weight q ∧ Ans .add p q r)
theorem blent_sim {old now weight r r' : Nat} (h : Blent old now weight r) (h' : Blent old now weight r') : Sim r r' := by
  rcases h with ⟨a, rfl⟩ | ⟨a, b, rfl⟩ | ⟨a, b, x, p, q, h1, h2, h3, h4⟩
  · rcases h' with ⟨a', rfl⟩ | ⟨a', b', rfl⟩ | ⟨a', b', _⟩
    · exact .inl rfl
    · rw [a] at a'; cases a'
    · rw [a] at a'; cases a'
  · rcases h' with ⟨a', rfl⟩ | ⟨a', b', rfl⟩ | ⟨a', b', _⟩
    · rw [a] at a'; cases a'
    · exact .inl rfl
    · rw [b] at b'; cases b'
  · rcases h' with ⟨a', rfl⟩ | ⟨a', b', rfl⟩ | ⟨a', b', x', p', q', h1', h2', h3', h4'⟩
    · rw [a] at a'; cases a'
    · rw [b] at b'; cases b'
    · exact ans_sim h4 h4' (ans_sim h2 h2' (.inl rfl) (ans_sim h1 h1' (.inl rfl) (.inl rfl))) (ans_sim h3 h3' (.inl rfl) (.inl rfl))

/-- a number between two others -/
def clampV (f low high : Nat) : Nat :=
  if (!isNaN f && !isNaN low && decide (key low ≤ key f)) = true then (if (!isNaN f && !isNaN high && decide (key high < key f)) = true then high else f) else low
/-- thousandths -/
def perMille (f : Nat) : Int := if inRate f = true then (flo (mulK f) : Int) else -1
end Go.Proofs.Ytlfnhjcpbkileaa.Fl
