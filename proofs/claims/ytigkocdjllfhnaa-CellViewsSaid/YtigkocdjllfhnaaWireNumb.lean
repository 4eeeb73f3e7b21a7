/- The contract of layer 3's reading of a number off the beginning of bytes: whatever bytes, the plain function's answer. -/
import Derived.Test.YtigkocdjllfhnaaWireRead
import Derived.Test.YtigkocdjllfhnaaWireNumF
namespace Go.Proofs.Ytigkocdjllfhnaa.Wirey
open Go.ChangeShapes Go.WideShapes Go.ChangeAt Go.RowKit

/-! The number with which bytes begin -/
theorem go1_snoc {l : List UInt8} {c : UInt8} (h : Go1 l) (hc : 128 ≤ c.toNat) : Go1 (l ++ [c]) := by
  intro x hx
  rcases List.mem_append.1 hx with hx | hx
  · exact h x hx
  · obtain rfl := List.mem_singleton.1 hx; exact hc
theorem list_at (s : ByteArray) (k : Nat) (h : k < s.size) : s.data.toList = s.data.toList.take k ++ s[k] :: s.data.toList.drop (k + 1) := by
  have e : s[k] = s.data.toList[k]'(by simpa using h) := rfl
  rw [e, List.getElem_cons_drop, List.take_append_drop]
/-- What a byte's seven bits come to at their place. -/
def unt (k : Nat) : Nat := 128 ^ k
theorem unt_le {k : Nat} (h : k ≤ 9) : unt k ≤ 9223372036854775808 := by
  have := Nat.pow_le_pow_right (n := 128) (by omega) h
  rw [pow9] at this; exact this
theorem unt_two (k : Nat) : unt k = 2 ^ (7 * k) := by unfold unt; rw [Nat.pow_mul]
/-- The bits of a byte laid above those that were there are added to them. -/
theorem or_unt (k x b : Nat) (hx : x < unt k) (hs : x + b * unt k < 18446744073709551616) : bits .or .u64 (x : Int) ((b * unt k : Nat) : Int) = ((x + b * unt k : Nat) : Int) := by
  rw [u64_or_nat x (b * unt k) (by omega) (by omega)]
  rw [unt_two] at hx ⊢
  have h2 := Nat.shiftLeft_add_eq_or_of_lt (i := 7 * k) (b := x) hx b
  rw [Nat.shiftLeft_eq] at h2
  rw [Nat.or_comm, ← h2, Nat.add_comm]
theorem shl_unt (k c : Nat) (hs : c % 128 * unt k < 18446744073709551616) : IntKind.u64.wrap ((c : Int) % 128 * 2 ^ (k * 7)) = ((c % 128 * unt k : Nat) : Int) := by
  have e2 : (c : Int) % 128 * 2 ^ (k * 7) = ((c % 128 * unt k : Nat) : Int) := by
    rw [unt_two, Nat.mul_comm k 7]; simp
  rw [e2, IntKind.wrap_u64]
  omega

set_option maxHeartbeats 4000000 in
set_option maxRecDepth 100000 in
theorem number_s (s : ByteArray) (hz : s.size ≤ maxLen) (w : World) :
    Calls Try.prog 33 #[.string s] w fun e w' =>
      e = .returned (.tuple #[.int .u64 ((numR s.data.toList).1 : Int), .int .i64 ((numR s.data.toList).2.1 : Int), .int .i64 ((numR s.data.toList).2.2 : Int)]) ∧ w = w' := by
  unfold maxLen at hz
  have hsl : s.data.toList.length = s.size := by simp
  go_enter Try.func33, Try.ntmps33
  go_wp2
  all_goals
    go_loop [2, 12] (fun n i => ∃ k : Nat, k ≤ 9 ∧ k ≤ s.size ∧ i = .int .i64 k ∧ n = .int .u64 (val (s.data.toList.take k) : Int) ∧ Go1 (s.data.toList.take k)) (fun _ i => 10 - (intOf i).toNat)
    case atStart => exact ⟨0, by omega, Nat.zero_le _, rfl, rfl, fun _ h => absurd h (by simp)⟩
    case round =>
      obtain ⟨k, hk9, hk, rfl, rfl, hg⟩ := hrel
      by_cases hlt : k < s.size
      · obtain ⟨c, hc⟩ : ∃ c, c = s[k] := ⟨_, rfl⟩
        have HC : Hid (s[k] = c) := Lib.hid hc.symm
        have hsp := list_at s k hlt
        have ht := take_snoc s k hlt
        rw [← hc] at hsp ht
        have hcl := c.toNat_lt
        have hkt : (s.data.toList.take k).length = k := by rw [List.length_take]; omega
        have hF : ∀ h : c.toNat < 128, numR s.data.toList = if bad k c then (0, 0, 6) else (val (s.data.toList.take (k + 1)), k + 1, 0) := by
          intro h
          have := numR_split (rest := s.data.toList.drop (k + 1)) hg h
          rw [← hsp, hkt, ← ht] at this
          exact this
        by_cases hA : k = 9 ∧ 1 < c.toNat
        · have hR : numR s.data.toList = (0, 0, 6) := by
            by_cases h128 : 128 ≤ c.toNat
            · refine numR_long (go1_lastOf (k := 10) (by omega) ?_)
              have := go1_snoc hg h128
              rw [← ht, hA.1] at this; exact this
            · rw [hF (by omega), if_pos]
              unfold bad; simp [hA.1, hA.2]
          have HR := Lib.hid hR
          obtain ⟨h9, hA⟩ := hA
          have h9' : ((k : Int) == 9) = true := by rw [beq_iff_eq]; omega
          have h0 : 0 < k := by omega
          have hz1 : ((c.toNat : Int) == 0) = false := by rw [beq_eq_false_iff_ne]; omega
          clear hR h9 hF hsp ht hkt hg
          rw [hc] at hA hz1
          clear hc HC
          go_wp2
          go_ret3
          exact ⟨by rw [HR.out]; rfl, rfl⟩
        · by_cases hZ : 0 < k ∧ c.toNat = 0
          · have hR : numR s.data.toList = (0, 0, 6) := by
              rw [hF (by omega), if_pos]
              unfold bad; simp [hZ.1, hZ.2]
            have HR := Lib.hid hR
            obtain ⟨h0, hZ⟩ := hZ
            have hz1 : ((c.toNat : Int) == 0) = true := by rw [beq_iff_eq]; omega
            have hz2 : ¬ 1 < c.toNat := by omega
            clear hR hZ hA hF hsp ht hkt hg
            rw [hc] at hz1 hz2
            clear hc HC
            by_cases h9 : k = 9
            · have h9' : ((k : Int) == 9) = true := by rw [beq_iff_eq]; omega
              clear h9
              go_wp2
              go_ret3
              exact ⟨by rw [HR.out]; rfl, rfl⟩
            · have h9' : ((k : Int) == 9) = false := by rw [beq_eq_false_iff_ne]; omega
              clear h9
              go_wp2
              go_ret3
              exact ⟨by rw [HR.out]; rfl, rfl⟩
          · have hbad : ¬ bad k c = true := by
              unfold bad
              simp only [Bool.or_eq_true, Bool.and_eq_true, decide_eq_true_eq]
              omega
            have hVs := val_snoc (s.data.toList.take k) c
            rw [← ht, hkt] at hVs
            have hvl := val_lt (s.data.toList.take k)
            rw [hkt] at hvl
            have hun : 128 ^ k = unt k := rfl
            rw [hun] at hVs hvl
            have hule := unt_le hk9
            have hprod : c.toNat % 128 * unt k ≤ 9223372036854775808 := by
              by_cases h9 : k = 9
              · have : c.toNat % 128 * unt k ≤ 1 * unt k := Nat.mul_le_mul_right _ (by omega)
                omega
              · have h8 : unt k ≤ 72057594037927936 := Nat.pow_le_pow_right (n := 128) (by omega) (show k ≤ 8 by omega)
                have : c.toNat % 128 * unt k ≤ 128 * 72057594037927936 := Nat.mul_le_mul (by omega) h8
                omega
            have hshl := shl_unt k c.toNat (by omega)
            have hor := or_unt k (val (s.data.toList.take k)) (c.toNat % 128) hvl (by omega)
            rw [← hVs] at hor
            obtain ⟨D, hD⟩ : ∃ D, D = c.toNat % 128 * unt k := ⟨_, rfl⟩
            rw [← hD] at hshl hor hprod
            rw [hc] at hshl
            have hg2 : 128 ≤ c.toNat → Go1 (s.data.toList.take (k + 1)) := fun h128 => by have := go1_snoc hg h128; rw [← ht] at this; exact this
            have HF : Hid (c.toNat < 128 → numR s.data.toList = (val (s.data.toList.take (k + 1)), k + 1, 0)) := Lib.hid fun h => by rw [hF h, if_neg hbad]
            have HG2 := Lib.hid hg2
            have hz1 : 0 < k → ((c.toNat : Int) == 0) = false := fun h => by rw [beq_eq_false_iff_ne]; omega
            clear hD hVs hvl hun hule hg2 hF hg ht hsp hbad hkt
            by_cases h9 : k = 9
            · have h9' : ((k : Int) == 9) = true := by rw [beq_iff_eq]; omega
              have hz := hz1 (by omega)
              have hc1 : ¬ 1 < c.toNat := by omega
              have hk0 : 0 < k := by omega
              have HR := Lib.hid (HF.out (by omega))
              clear hz1 hA hZ h9 HF HG2
              rw [hc] at hz hc1
              clear hc HC
              go_wp2
              go_ret3
              exact ⟨by rw [HR.out]; rfl, rfl⟩
            · have h9' : ((k : Int) == 9) = false := by rw [beq_eq_false_iff_ne]; omega
              by_cases h128 : 128 ≤ c.toNat
              · have hg2 := Lib.hid (HG2.out h128)
                by_cases h0 : 0 < k
                · have hz := hz1 h0
                  clear hz1 hA hZ HF HG2
                  rw [hc] at hz h128
                  clear hc HC
                  go_wp2
                  go_round
                  case rel => exact ⟨k + 1, by omega, by omega, by go_num, rfl, hg2.out⟩
                  case measure => simp [intOf]; omega
                · clear hz1 hA hZ HF HG2
                  rw [hc] at h128
                  clear hc HC
                  go_wp2
                  go_round
                  case rel => exact ⟨k + 1, by omega, by omega, by go_num, rfl, hg2.out⟩
                  case measure => simp [intOf]; omega
              · have HR := Lib.hid (HF.out (by omega))
                by_cases h0 : 0 < k
                · have hz := hz1 h0
                  clear hz1 hA hZ HF HG2
                  rw [hc] at hz h128
                  clear hc HC
                  go_wp2
                  go_ret3
                  exact ⟨by rw [HR.out]; rfl, rfl⟩
                · clear hz1 hA hZ HF HG2
                  rw [hc] at h128
                  clear hc HC
                  go_wp2
                  go_ret3
                  exact ⟨by rw [HR.out]; rfl, rfl⟩
      · obtain rfl : k = s.size := by omega
        rw [List.take_of_length_le (by omega)] at hg
        have HR := Lib.hid (numR_all hg (by omega))
        clear hg
        go_wp2
        all_goals
          go_ret3
          exact ⟨by rw [HR.out]; rfl, rfl⟩
end Go.Proofs.Ytigkocdjllfhnaa.Wirey
