/- The contract of layer 3's reading of a number off the beginning of bytes: whatever bytes, the plain function's answer. -/
import Derived.Test.YtajpmlmacnomfaaWireRead
import Derived.Test.YtajpmlmacnomfaaWireNumF
namespace Go.Proofs.Ytajpmlmacnomfaa.Wirey
open Go.ChangeShapes Go.WideShapes Go.ChangeAt Go.RowKit

/-! The number with which bytes begin -/
theorem go1_snoc {l : List UInt8} {c : UInt8} (h : Go1 l) (hc : 128 ≤ c.toNat) : Go1 (l ++ [c]) := by
  intro x hx
  rcases List.mem_append.1 hx with hx | hx
  · exact h x hx
  · obtain rfl := List.mem_singleton.1 hx; exact hc
theorem list_at (s : ByteArray) (k : Nat) (h : k < s.size) : s.data.toList = s.data.toList.take k ++ s[k] :: s.data.toList.drop (k + 1) := by
  have e : s[k] = s.data.toList[k]'(by simpa using h) := rfl
  rw [e, List.getElem_cons_drop, List.take_append_drop]
/-- What a byte's seven bits come to at their place. -/
def unt (k : Nat) : Nat := 128 ^ k
theorem unt_le {k : Nat} (h : k ≤ 9) : unt k ≤ 9223372036854775808 := by
  have := Nat.pow_le_pow_right (n := 128) (by omega) h
  rw [pow9] at this; exact this
theorem unt_two (k : Nat) : unt k = 2 ^ (7 * k) := by unfold unt; rw [Nat.pow_mul]
/-- The bits of a byte laid above those that were there are added to them. -/
theorem or_unt (k x b : Nat) (hx : x < unt k) (hs : x + b * unt k < 18446744073709551616) : bits .or .u64 (x : Int) ((b * unt k : Nat) : Int) = ((x + b * unt k : Nat) : Int) := by
  rw [u64_or_nat x (b * unt k) (by omega) (by omega)]
  rw [unt_two] at hx ⊢
  have h2 := Nat.shiftLeft_add_eq_or_of_lt (i := 7 * k) (b := x) hx b
  rw [Nat.shiftLeft_eq] at h2
  rw [Nat.or_comm, ← h2, Nat.add_comm]
theorem shl_unt (k c : Nat) (hs : c % 128 * unt k < 18446744073709551616) : IntKind.u64.wrap ((c : Int) % 128 * 2 ^ (k * 7)) = ((c % 128 * unt k : Nat) : Int) := by
  have e2 : (c : Int) % 128 * 2 ^ (k * 7) = ((c % 128 * unt k : Nat) : Int) := by
    rw [unt_two, Nat.mul_comm k 7]; simp
  rw [e2, IntKind.wrap_u64]
  omega

end Go.Proofs.Ytajpmlmacnomfaa.Wirey
