/- Contracts of the check (layer 3) and of the document's own answer: for every text, the check of its bytes; no world turns. Condition: the table of halves holds what the program's text lays. -/
import Derived.Test.YtmoammadibepkaaDoorRows
import Derived.Test.YtmoammadibepkaaDoorWireCrc
import Derived.WalkKit
import Derived.Lib.Hide
import Derived.ProofKit
import Derived.OpenShut
import Derived.Lib.LaidTab
namespace Go.Proofs.YtmoammadibepkaaDoor.Wirey
open Go.ChangeShapes Go.WideShapes Go.ChangeAt Go.RowKit

/-- The table's cells. -/
def Halves (w : World) : Prop := ∀ i : Nat, i < 16 → w.cell? ⟨0, i, none⟩ = some (.int .u32 (tab i : Int))
theorem Halves.lt {w : World} (h : Halves w) : 0 < w.heap.size := by
  have := h 0 (by omega)
  rcases Nat.lt_or_ge 0 w.heap.size with hlt | hge
  · exact hlt
  · simp [World.cell?, Array.getElem?_eq_none hge] at this
theorem Halves.below {w w' : World} {B : Nat} (h : Halves w) (hb : Below B w w') (hB : 0 < B) : Halves w' := fun i hi => (hb.cell (p := ⟨0, i, none⟩) hB).trans (h i hi)

theorem take_snoc (s : ByteArray) (k : Nat) (h : k < s.size) : s.data.toList.take (k + 1) = s.data.toList.take k ++ [s[k]] := by
  rw [List.take_succ_eq_append_getElem (by simpa using h)]; rfl
theorem and15 (x : Nat) (h : x < 4294967296) : bits .and .u32 (x : Int) 15 = ((x % 16 : Nat) : Int) := by
  have := u32_and_nat x 15 h (by omega)
  rw [show ((15 : Nat) : Int) = 15 from rfl] at this
  rw [this, show (15 : Nat) = 2 ^ 4 - 1 from rfl, Nat.and_two_pow_sub_one_eq_mod]
theorem div16 (x : Nat) : (x : Int) / 16 = ((x / 16 : Nat) : Int) := by omega
theorem hs_int (x : Nat) (h : x < 4294967296) : bits .xor .u32 ((x : Int) / 16) ((tab (x % 16) : Nat) : Int) = ((hs x : Nat) : Int) := by
  rw [div16, u32_xor_nat _ _ (by omega) (tab_lt (by omega))]; rfl
theorem xorb_int (x : Nat) (h : x < 4294967296) (c : UInt8) : bits .xor .u32 (x : Int) (c.toNat : Int) = ((x ^^^ c.toNat : Nat) : Int) := u32_xor_nat _ _ h (byte_lt32 c)

theorem max_xor (x : Nat) (h : x < 4294967296) : 4294967295 ^^^ x = 4294967295 - x := by
  apply Nat.eq_of_testBit_eq
  intro i
  have h1 := Nat.testBit_two_pow_sub_succ (n := 32) (x := x) h i
  have h2 := Nat.testBit_two_pow_sub_one 32 i
  rw [show (2 : Nat) ^ 32 - (x + 1) = 4294967295 - x by omega] at h1
  rw [show (2 : Nat) ^ 32 - 1 = 4294967295 from rfl] at h2
  rw [h1, Nat.testBit_xor, h2]
  by_cases hi : i < 32
  · simp [hi]
  · have : x.testBit i = false := Nat.testBit_lt_two_pow (Nat.lt_of_lt_of_le h (Nat.pow_le_pow_right (n := 2) (by omega) (show 32 ≤ i by omega)))
    simp [hi, this]
theorem xor_max (x : Nat) (h : x < 4294967296) : bits .xor .u32 IntKind.u32.max (x : Int) = ((4294967295 - x : Nat) : Int) := by
  rw [show IntKind.u32.max = ((4294967295 : Nat) : Int) from rfl, u32_xor_nat _ _ (by omega) h, max_xor _ h]
theorem ret_u32 {a b : Int} (h : a = b) : Ending.returned (.int .u32 a) = .returned (.int .u32 b) := by rw [h]

set_option maxHeartbeats 1000000 in
theorem check_c (s : ByteArray) (hz : s.size ≤ maxLen) (w : World) (hT : Halves w) :
    Calls Tryd.prog 25 #[.string s] w fun e w' => e = .returned (.int .u32 (chk s.data.toList : Int)) ∧ w = w' := by
  unfold maxLen at hz
  go_enter Tryd.func25, Tryd.ntmps25
  go_wp2
  go_loop [3, 7] (fun c i => ∃ k : Nat, k ≤ s.size ∧ i = .int .i64 k ∧ c = .int .u32 (reg 4294967295 (s.data.toList.take k) : Int)) (fun _ i => s.size - (intOf i).toNat)
  case atStart => exact ⟨0, Nat.zero_le _, rfl, rfl⟩
  case round =>
    obtain ⟨k, hk, rfl, rfl⟩ := hrel
    have hr := reg_lt (s.data.toList.take k) (show 4294967295 < 4294967296 by omega)
    by_cases hlt : k < s.size
    · have hm : ((s[k].toNat : Nat) : Int) % 4294967296 = (s[k].toNat : Int) := by have := s[k].toNat_lt; omega
      have hx1 := xorb_int _ hr s[k]
      have hl1 := xor_lt32 hr (byte_lt32 s[k])
      have hl2 := hs_lt hl1
      have ha1 := and15 _ hl1
      have ha2 := and15 _ hl2
      have hh1 := hs_int _ hl1
      have hh2 := hs_int _ hl2
      have hc1 := hT ((reg 4294967295 (s.data.toList.take k) ^^^ s[k].toNat) % 16) (by omega)
      have hc2 := hT (hs (reg 4294967295 (s.data.toList.take k) ^^^ s[k].toNat) % 16) (by omega)
      go_wp2
      go_round
      case rel => exact ⟨k + 1, by omega, by go_num, by rw [take_snoc s k hlt, reg_snoc]; rfl⟩
      case measure => simp [intOf]; omega
    · obtain rfl : k = s.size := by omega
      go_wp2
      go_ret
      refine ⟨?_, rfl⟩
      refine ret_u32 ?_
      rw [List.take_of_length_le (by simp), xor_max _ (reg_lt _ (by omega)), chk]

theorem bit_and (b k : Nat) (hb : b < 256) : bits .and .u32 ((b / 2 ^ k : Nat) : Int) 1 = ((b / 2 ^ k % 2 : Nat) : Int) := by
  have h1 : b / 2 ^ k ≤ b := Nat.div_le_self _ _
  have := u32_and_nat (b / 2 ^ k) 1 (by omega) (by omega)
  rw [show ((1 : Nat) : Int) = 1 from rfl] at this
  rw [this, show (1 : Nat) = 2 ^ 1 - 1 from rfl, Nat.and_two_pow_sub_one_eq_mod]
theorem and1 (r : Nat) (h : r < 4294967296) : bits .and .u32 (r : Int) 1 = ((r % 2 : Nat) : Int) := by
  have := u32_and_nat r 1 h (by omega)
  rw [show ((1 : Nat) : Int) = 1 from rfl] at this
  rw [this, show (1 : Nat) = 2 ^ 1 - 1 from rfl, Nat.and_two_pow_sub_one_eq_mod]

theorem cond_iff (r c m : Nat) (hr : r < 4294967296) (hc : c < 256) :
    (bits .xor .u32 (bits .and .u32 (r : Int) 1) (bits .and .u32 ((c : Int) / 2 ^ m % 4294967296) 1) == 1) = decide ((r % 2 + c / 2 ^ m) % 2 = 1) := by
  have e1 : (c : Int) / 2 ^ m % 4294967296 = ((c / 2 ^ m : Nat) : Int) := by
    have h1 : c / 2 ^ m ≤ c := Nat.div_le_self _ _
    have h2 : ((c / 2 ^ m : Nat) : Int) = (c : Int) / 2 ^ m := by simp
    rw [← h2]
    have h5 : c / 2 ^ m < 4294967296 := by omega
    clear h1 h2
    generalize c / 2 ^ m = q at h5 ⊢
    omega
  rw [e1, and1 r hr, bit_and c m hc, u32_xor_nat _ _ (by omega) (by omega)]
  have h3 : (r % 2 ^^^ (c / 2 ^ m % 2)) < 2 := Nat.xor_lt_two_pow (n := 1) (by omega) (by omega)
  have h4 := mod2_xor (r % 2) (c / 2 ^ m % 2)
  rw [Bool.eq_iff_iff, beq_iff_eq, decide_eq_true_eq]
  omega
theorem bit_yes {c m r : Nat} (h : (r % 2 + c / 2 ^ m) % 2 = 1) (hr : r < 4294967296) : bits .xor .u32 ((r : Int) / 2) 3945912366 = ((bit1 c m r : Nat) : Int) := by
  have := u32_xor_nat (r / 2) 3945912366 (by omega) (by omega)
  rw [show ((3945912366 : Nat) : Int) = 3945912366 from rfl, show ((r / 2 : Nat) : Int) = (r : Int) / 2 by omega] at this
  rw [this]; unfold bit1; rw [if_pos h]
theorem bit_no {c m r : Nat} (h : ¬ (r % 2 + c / 2 ^ m) % 2 = 1) : (r : Int) / 2 = ((bit1 c m r : Nat) : Int) := by
  unfold bit1; rw [if_neg h]; omega

set_option maxHeartbeats 2000000 in
theorem refcheck_c (s : ByteArray) (hz : s.size ≤ maxLen) (w : World) :
    Calls Tryd.prog 26 #[.string s] w fun e w' => e = .returned (.int .u32 (chk s.data.toList : Int)) ∧ w = w' := by
  unfold maxLen at hz
  go_enter Tryd.func26, Tryd.ntmps26
  go_wp2
  go_loop [3, 4, 5, 6] (fun c i _ _ => ∃ k : Nat, k ≤ s.size ∧ i = .int .i64 k ∧ c = .int .u32 (reg 4294967295 (s.data.toList.take k) : Int)) (fun _ i _ _ => s.size - (intOf i).toNat)
  case atStart => exact ⟨0, Nat.zero_le _, rfl, rfl⟩
  case round =>
    obtain ⟨k, hk, rfl, rfl⟩ := hrel
    have hr := reg_lt (s.data.toList.take k) (show 4294967295 < 4294967296 by omega)
    by_cases hlt : k < s.size
    · have hb := s[k].toNat_lt
      obtain ⟨R, hR⟩ : ∃ R, R = reg 4294967295 (s.data.toList.take k) := ⟨_, rfl⟩
      have HR := Lib.hid hR
      rw [← hR] at hr ⊢
      clear hR
      go_wp2
      go_loop [3, 5, 6] (fun c j _ => ∃ m : Nat, m ≤ 8 ∧ j = .int .i64 m ∧ c = .int .u32 (bits1 s[k].toNat m R : Int)) (fun _ j _ => 8 - (intOf j).toNat)
      case atStart => exact ⟨0, by omega, rfl, rfl⟩
      case round =>
        obtain ⟨m, hm, rfl, rfl⟩ := hrel
        have hq := bits1_lt (b := s[k].toNat) hr m
        by_cases hlm : m < 8
        · have hcnd := cond_iff (bits1 s[k].toNat m R) s[k].toNat m hq hb
          by_cases hd : (bits1 s[k].toNat m R % 2 + s[k].toNat / 2 ^ m) % 2 = 1
          · rw [decide_eq_true hd] at hcnd
            have hy := Lib.hid (bit_yes hd hq)
            clear hd
            go_wp2
            go_round
            case rel => exact ⟨m + 1, by omega, by go_num, by rw [hy.out]; rfl⟩
            case measure => simp [intOf]; omega
          · rw [decide_eq_false hd] at hcnd
            have hy := Lib.hid (bit_no hd)
            clear hd
            go_wp2
            go_round
            case rel => exact ⟨m + 1, by omega, by go_num, by rw [hy.out]; rfl⟩
            case measure => simp [intOf]; omega
        · obtain rfl : m = 8 := by omega
          go_wp2
          go_round
          case rel => exact ⟨k + 1, by omega, by go_num, by rw [take_snoc s k hlt, reg_snoc, ← HR.out, byteS_bits]⟩
          case measure => simp [intOf]; omega
    · obtain rfl : k = s.size := by omega
      go_wp2
      go_ret
      refine ⟨?_, rfl⟩
      refine ret_u32 ?_
      rw [List.take_of_length_le (by simp)] at hr ⊢
      unfold chk; omega
end Go.Proofs.YtmoammadibepkaaDoor.Wirey
