/- The mathematics of layer 3's numbers as the document's own reader has them: byte by byte, the first error in the order of the bytes. Plain numbers and lists; no condition. -/
import Derived.Test.YtigkocdjllfhnaaWireNums
namespace Go.Proofs.Ytigkocdjllfhnaa.Wirey

theorem val_snoc (l : List UInt8) (c : UInt8) : val (l ++ [c]) = val l + c.toNat % 128 * 128 ^ l.length := by
  induction l with
  | nil => simp [val]
  | cons d l ih =>
    show val (l ++ [c]) * 128 + d.toNat % 128 = val l * 128 + d.toNat % 128 + c.toNat % 128 * 128 ^ (l.length + 1)
    rw [ih, Nat.pow_succ, Nat.add_mul, Nat.mul_assoc]
    omega
theorem val_lt (l : List UInt8) : val l < 128 ^ l.length := by
  induction l with
  | nil => simp [val]
  | cons d l ih =>
    show val l * 128 + d.toNat % 128 < 128 ^ (l.length + 1)
    rw [Nat.pow_succ]
    omega
theorem go1_lastOf {l : List UInt8} {k : Nat} (hk : k ≤ l.length) (hg : Go1 (l.take k)) : k ≤ lastOf l := by
  have h := List.take_append_drop k l
  unfold lastOf
  rw [← h, List.takeWhile_append_of_pos (by intro c hc; simpa using hg c hc), List.length_append, List.length_take]
  omega
end Go.Proofs.Ytigkocdjllfhnaa.Wirey
