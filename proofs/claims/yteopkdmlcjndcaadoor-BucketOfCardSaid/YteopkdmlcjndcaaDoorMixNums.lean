/- Plain facts on numbers of 64 bits for layer 1 (mix): folding undoes itself, a product by an odd factor is undone by its inverse, turning left by 29 and then by 35 is nothing; the 64 upper bits of a product by halves. No program is read here. -/
import Derived.Laws.BitsAllLaws
import Derived.Laws.Bits64b
import Derived.Lib.Mul64
namespace Go.Proofs.YteopkdmlcjndcaaDoor.Mixy

/-- a number and its upper half below it -/
def fold (x : Nat) : Nat := x ^^^ x / 4294967296
def mulF (x : Nat) : Nat := x * 11400714819323198485 % 18446744073709551616
def mulU (x : Nat) : Nat := x * 17428512612931826493 % 18446744073709551616
/-- turned left by 29, by 35 -/
def rot29 (x : Nat) : Nat := x % 34359738368 * 536870912 + x / 34359738368
def rot35 (x : Nat) : Nat := x % 536870912 * 34359738368 + x / 536870912
def mix (x : Nat) : Nat := fold (mulF (rot29 (mulF (fold x))))
def unmix (x : Nat) : Nat := fold (mulU (rot35 (mulU (fold x))))
/-- turned left by one, so many times -/
def turn1 (x : Nat) : Nat := x * 2 % 18446744073709551616 + x / 9223372036854775808
def turns (x : Nat) : Nat → Nat
  | 0 => x
  | k + 1 => turn1 (turns x k)

theorem fold_lt {x : Nat} (h : x < 18446744073709551616) : fold x < 18446744073709551616 := by
  have h1 : x / 4294967296 < 2 ^ 64 := by omega
  have h2 : x < 2 ^ 64 := by omega
  have := Nat.xor_lt_two_pow h2 h1
  unfold fold; omega
theorem mulF_lt (x : Nat) : mulF x < 18446744073709551616 := Nat.mod_lt _ (by decide)
theorem mulU_lt (x : Nat) : mulU x < 18446744073709551616 := Nat.mod_lt _ (by decide)
theorem rot29_lt {x : Nat} (h : x < 18446744073709551616) : rot29 x < 18446744073709551616 := by unfold rot29; omega
theorem rot35_lt {x : Nat} (h : x < 18446744073709551616) : rot35 x < 18446744073709551616 := by unfold rot35; omega
theorem mix_lt (x : Nat) : mix x < 18446744073709551616 := fold_lt (mulF_lt _)
theorem unmix_lt (x : Nat) : unmix x < 18446744073709551616 := fold_lt (mulU_lt _)
theorem fold_fold {x : Nat} (h : x < 18446744073709551616) : fold (fold x) = x := by
  unfold fold
  have e : ∀ y : Nat, y / 4294967296 = y >>> 32 := fun y => by rw [Nat.shiftRight_eq_div_pow]
  rw [e, e, Nat.shiftRight_xor_distrib, ← Nat.shiftRight_add]
  have z : x >>> (32 + 32) = 0 := by rw [Nat.shiftRight_eq_div_pow]; omega
  rw [z, Nat.xor_zero, Nat.xor_assoc, Nat.xor_self, Nat.xor_zero]
theorem rot_rot {x : Nat} (h : x < 18446744073709551616) : rot35 (rot29 x) = x := by unfold rot35 rot29; omega
theorem rot_rot' {x : Nat} (h : x < 18446744073709551616) : rot29 (rot35 x) = x := by unfold rot35 rot29; omega
theorem mul_mul {x : Nat} (h : x < 18446744073709551616) : mulU (mulF x) = x := by
  unfold mulU mulF; omega
theorem mul_mul' {x : Nat} (h : x < 18446744073709551616) : mulF (mulU x) = x := by
  unfold mulU mulF; omega
theorem unmix_mix {x : Nat} (h : x < 18446744073709551616) : unmix (mix x) = x := by
  unfold unmix mix
  rw [fold_fold (mulF_lt _), mul_mul (rot29_lt (mulF_lt _)), rot_rot (mulF_lt _), mul_mul (fold_lt h), fold_fold h]
theorem mix_unmix {x : Nat} (h : x < 18446744073709551616) : mix (unmix x) = x := by
  unfold unmix mix
  rw [fold_fold (mulU_lt _), mul_mul' (rot35_lt (mulU_lt _)), rot_rot' (mulU_lt _), mul_mul' (fold_lt h), fold_fold h]
theorem mix_inj {x y : Nat} (hx : x < 18446744073709551616) (hy : y < 18446744073709551616) (h : mix x = mix y) : x = y := by
  rw [← unmix_mix hx, ← unmix_mix hy, h]

theorem turn_step {x : Nat} (A B C D : Nat) (hD : A * D = 18446744073709551616) (hA : A = 2 * B) (hB : B * C = 18446744073709551616) (hC : C = 2 * D) (h : x < 18446744073709551616) :
    turn1 (x % A * D + x / A) = x % B * C + x / B := by
  subst hA hC
  have hBp : 0 < B := by rcases Nat.eq_zero_or_pos B with rfl | h; simp at hB; exact h
  have hDp : 0 < D := by rcases Nat.eq_zero_or_pos D with rfl | h; simp at hD; exact h
  have e2 : x / B / 2 = x / (2 * B) := by rw [Nat.div_div_eq_div_mul, Nat.mul_comm]
  have e3 : x % (2 * B) = x % B + B * (x / B % 2) := by rw [Nat.mul_comm 2 B, Nat.mod_mul]
  have hr : x % B < B := Nat.mod_lt _ hBp
  have hq : x / (2 * B) < D := by
    rw [Nat.div_lt_iff_lt_mul (by omega)]; rw [Nat.mul_comm] at hD; omega
  have hb : x / B % 2 = 0 ∨ x / B % 2 = 1 := by omega
  have hrD : (x % B + 1) * D ≤ B * D := Nat.mul_le_mul_right _ hr
  rw [Nat.add_mul, Nat.one_mul] at hrD
  have hBD : B * D = 9223372036854775808 := by
    have : 2 * (B * D) = 18446744073709551616 := by rw [← Nat.mul_assoc]; exact hD
    omega
  have hx2 : x / B = 2 * (x / (2 * B)) + x / B % 2 := by omega
  have hCC : x % B * (2 * D) = 2 * (x % B * D) := by rw [Nat.mul_left_comm]
  unfold turn1
  rcases hb with hb | hb
  · rw [e3, hb, Nat.mul_zero, Nat.add_zero, hCC]; omega
  · rw [e3, hb, Nat.mul_one, Nat.add_mul (x % B) B D, hBD, hCC]; omega
theorem turns_eq (x : Nat) (h : x < 18446744073709551616) : ∀ k : Nat, k ≤ 63 → turns x k = x % 2 ^ (64 - k) * 2 ^ k + x / 2 ^ (64 - k)
  | 0, _ => by simp [turns]; omega
  | k + 1, hk => by
    rw [turns, turns_eq x h k (by omega)]
    refine turn_step _ _ _ _ ?_ ?_ ?_ ?_ h
    · rw [← Nat.pow_add, show 64 - k + k = 64 from by omega]
    · rw [show 64 - k = (64 - (k + 1)) + 1 from by omega, Nat.pow_succ, Nat.mul_comm]
    · rw [← Nat.pow_add, show 64 - (k + 1) + (k + 1) = 64 from by omega]
    · rw [Nat.pow_succ, Nat.mul_comm]
theorem turns_lt {x : Nat} (h : x < 18446744073709551616) : ∀ k : Nat, turns x k < 18446744073709551616
  | 0 => h
  | k + 1 => by have := turns_lt h k; rw [turns]; unfold turn1; omega
theorem turns_29 {x : Nat} (h : x < 18446744073709551616) : turns x 29 = rot29 x := by
  rw [turns_eq x h 29 (by omega)]; rfl

/-- one byte more of a text; all of them; a text's number -/
def byteIn (x : Nat) (c : UInt8) : Nat := (x ^^^ c.toNat) * 1099511628211 % 18446744073709551616
def basis : Nat := 14695981039346656037
def bytesIn (seed : Nat) (l : List UInt8) : Nat := l.foldl byteIn (basis ^^^ mix seed)
def text (seed : Nat) (l : List UInt8) : Nat := mix (bytesIn seed l ^^^ l.length)
theorem bytesIn_snoc (seed : Nat) (l : List UInt8) (c : UInt8) : bytesIn seed (l ++ [c]) = byteIn (bytesIn seed l) c := by
  unfold bytesIn; rw [List.foldl_append, List.foldl_cons, List.foldl_nil]
theorem xor_lt {a b : Nat} (ha : a < 18446744073709551616) (hb : b < 18446744073709551616) : a ^^^ b < 18446744073709551616 := by
  have := Nat.xor_lt_two_pow (n := 64) (x := a) (y := b) (by omega) (by omega)
  omega
theorem basis_lt (seed : Nat) : basis ^^^ mix seed < 18446744073709551616 := xor_lt (by decide) (mix_lt _)
theorem bytesIn_lt (seed : Nat) (l : List UInt8) : bytesIn seed l < 18446744073709551616 := by
  have base := basis_lt seed
  have all : ∀ (l : List UInt8) (x : Nat), x < 18446744073709551616 → l.foldl byteIn x < 18446744073709551616 := by
    intro l
    induction l with
    | nil => intro x h; exact h
    | cons c l ih => intro x _; exact ih _ (Nat.mod_lt _ (by decide))
  exact all l _ base
theorem text_lt (seed : Nat) (l : List UInt8) : text seed l < 18446744073709551616 := mix_lt _
end Go.Proofs.YteopkdmlcjndcaaDoor.Mixy
