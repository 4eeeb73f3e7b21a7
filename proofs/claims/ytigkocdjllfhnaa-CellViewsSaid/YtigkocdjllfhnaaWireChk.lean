/- Contracts of the check (layer 3) and of the document's own answer: for every text, the check of its bytes; no world turns. Condition: the table of halves holds what the program's text lays. -/
import Derived.Test.YtigkocdjllfhnaaRows
import Derived.Test.YtigkocdjllfhnaaWireCrc
import Derived.WalkKit
import Derived.Lib.Hide
import Derived.ProofKit
import Derived.OpenShut
import Derived.Lib.LaidTab
namespace Go.Proofs.Ytigkocdjllfhnaa.Wirey
open Go.ChangeShapes Go.WideShapes Go.ChangeAt Go.RowKit

theorem take_snoc (s : ByteArray) (k : Nat) (h : k < s.size) : s.data.toList.take (k + 1) = s.data.toList.take k ++ [s[k]] := by
  rw [List.take_succ_eq_append_getElem (by simpa using h)]; rfl
theorem and15 (x : Nat) (h : x < 4294967296) : bits .and .u32 (x : Int) 15 = ((x % 16 : Nat) : Int) := by
  have := u32_and_nat x 15 h (by omega)
  rw [show ((15 : Nat) : Int) = 15 from rfl] at this
  rw [this, show (15 : Nat) = 2 ^ 4 - 1 from rfl, Nat.and_two_pow_sub_one_eq_mod]
theorem div16 (x : Nat) : (x : Int) / 16 = ((x / 16 : Nat) : Int) := by omega
theorem hs_int (x : Nat) (h : x < 4294967296) : bits .xor .u32 ((x : Int) / 16) ((tab (x % 16) : Nat) : Int) = ((hs x : Nat) : Int) := by
  rw [div16, u32_xor_nat _ _ (by omega) (tab_lt (by omega))]; rfl
theorem xorb_int (x : Nat) (h : x < 4294967296) (c : UInt8) : bits .xor .u32 (x : Int) (c.toNat : Int) = ((x ^^^ c.toNat : Nat) : Int) := u32_xor_nat _ _ h (byte_lt32 c)

theorem max_xor (x : Nat) (h : x < 4294967296) : 4294967295 ^^^ x = 4294967295 - x := by
  apply Nat.eq_of_testBit_eq
  intro i
  have h1 := Nat.testBit_two_pow_sub_succ (n := 32) (x := x) h i
  have h2 := Nat.testBit_two_pow_sub_one 32 i
  rw [show (2 : Nat) ^ 32 - (x + 1) = 4294967295 - x by omega] at h1
  rw [show (2 : Nat) ^ 32 - 1 = 4294967295 from rfl] at h2
  rw [h1, Nat.testBit_xor, h2]
  by_cases hi : i < 32
  · simp [hi]
  · have : x.testBit i = false := Nat.testBit_lt_two_pow (Nat.lt_of_lt_of_le h (Nat.pow_le_pow_right (n := 2) (by omega) (show 32 ≤ i by omega)))
    simp [hi, this]
theorem xor_max (x : Nat) (h : x < 4294967296) : bits .xor .u32 IntKind.u32.max (x : Int) = ((4294967295 - x : Nat) : Int) := by
  rw [show IntKind.u32.max = ((4294967295 : Nat) : Int) from rfl, u32_xor_nat _ _ (by omega) h, max_xor _ h]
theorem ret_u32 {a b : Int} (h : a = b) : Ending.returned (.int .u32 a) = .returned (.int .u32 b) := by rw [h]

theorem bit_and (b k : Nat) (hb : b < 256) : bits .and .u32 ((b / 2 ^ k : Nat) : Int) 1 = ((b / 2 ^ k % 2 : Nat) : Int) := by
  have h1 : b / 2 ^ k ≤ b := Nat.div_le_self _ _
  have := u32_and_nat (b / 2 ^ k) 1 (by omega) (by omega)
  rw [show ((1 : Nat) : Int) = 1 from rfl] at this
  rw [this, show (1 : Nat) = 2 ^ 1 - 1 from rfl, Nat.and_two_pow_sub_one_eq_mod]
theorem and1 (r : Nat) (h : r < 4294967296) : bits .and .u32 (r : Int) 1 = ((r % 2 : Nat) : Int) := by
  have := u32_and_nat r 1 h (by omega)
  rw [show ((1 : Nat) : Int) = 1 from rfl] at this
  rw [this, show (1 : Nat) = 2 ^ 1 - 1 from rfl, Nat.and_two_pow_sub_one_eq_mod]

theorem cond_iff (r c m : Nat) (hr : r < 4294967296) (hc : c < 256) :
    (bits .xor .u32 (bits .and .u32 (r : Int) 1) (bits .and .u32 ((c : Int) / 2 ^ m % 4294967296) 1) == 1) = decide ((r % 2 + c / 2 ^ m) % 2 = 1) := by
  have e1 : (c : Int) / 2 ^ m % 4294967296 = ((c / 2 ^ m : Nat) : Int) := by
    have h1 : c / 2 ^ m ≤ c := Nat.div_le_self _ _
    have h2 : ((c / 2 ^ m : Nat) : Int) = (c : Int) / 2 ^ m := by simp
    rw [← h2]
    have h5 : c / 2 ^ m < 4294967296 := by omega
    clear h1 h2
    generalize c / 2 ^ m = q at h5 ⊢
    omega
  rw [e1, and1 r hr, bit_and c m hc, u32_xor_nat _ _ (by omega) (by omega)]
  have h3 : (r % 2 ^^^ (c / 2 ^ m % 2)) < 2 := Nat.xor_lt_two_pow (n := 1) (by omega) (by omega)
  have h4 := mod2_xor (r % 2) (c / 2 ^ m % 2)
  rw [Bool.eq_iff_iff, beq_iff_eq, decide_eq_true_eq]
  omega
theorem bit_yes {c m r : Nat} (h : (r % 2 + c / 2 ^ m) % 2 = 1) (hr : r < 4294967296) : bits .xor .u32 ((r : Int) / 2) 3945912366 = ((bit1 c m r : Nat) : Int) := by
  have := u32_xor_nat (r / 2) 3945912366 (by omega) (by omega)
  rw [show ((3945912366 : Nat) : Int) = 3945912366 from rfl, show ((r / 2 : Nat) : Int) = (r : Int) / 2 by omega] at this
  rw [this]; unfold bit1; rw [if_pos h]
theorem bit_no {c m r : Nat} (h : ¬ (r % 2 + c / 2 ^ m) % 2 = 1) : (r : Int) / 2 = ((bit1 c m r : Nat) : Int) := by
  unfold bit1; rw [if_neg h]; omega

end Go.Proofs.Ytigkocdjllfhnaa.Wirey
