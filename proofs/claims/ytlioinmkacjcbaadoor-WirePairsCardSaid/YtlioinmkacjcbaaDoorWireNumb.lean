/- The contract of layer 3's reading of a number off the beginning of bytes: whatever bytes, the plain function's answer. -/
import Derived.Test.YtlioinmkacjcbaaDoorWireRead
namespace Go.Proofs.YtlioinmkacjcbaaDoor.Wirey
open Go.ChangeShapes Go.WideShapes Go.ChangeAt Go.RowKit

/-! The number with which bytes begin -/
theorem or7 (x r : Nat) (hr : r < 128) (hx : x * 128 + r < 18446744073709551616) : bits .or .u64 ((x : Int) * 128) (r : Int) = ((x * 128 + r : Nat) : Int) := by
  have h := u64_or_nat (x * 128) r (by omega) (by omega)
  rw [show ((x * 128 : Nat) : Int) = (x : Int) * 128 by omega] at h
  rw [h]
  have h2 := Nat.shiftLeft_add_eq_or_of_lt (i := 7) (b := r) (by omega) x
  rw [Nat.shiftLeft_eq] at h2
  rw [show x * 2 ^ 7 = x * 128 from rfl] at h2
  rw [h2]
theorem val_drop_lt (cs : List UInt8) (d : UInt8) (hd : d.toNat < 128) (hb : bad cs.length d = false) (j : Nat) (hj : 1 ≤ j) : val ((cs ++ [d]).drop j) * 128 + 127 < 18446744073709551616 := by
  by_cases hjl : cs.length < j
  · rw [List.drop_of_length_le (by rw [List.length_append]; show cs.length + 1 ≤ j; omega)]; show 0 * 128 + 127 < _; omega
  · have e : (cs ++ [d]).drop j = cs.drop j ++ [d] := by rw [List.drop_append_of_le_length (by omega)]
    have h := (val_last (cs.drop j) d hd).2
    rw [e]
    rw [List.length_drop] at h
    have hb' : ¬ (10 ≤ cs.length) ∧ ¬ (cs.length = 9 ∧ 1 < d.toNat) := by
      unfold bad at hb
      simp only [Bool.or_eq_false_iff, Bool.and_eq_false_iff, decide_eq_false_iff_not] at hb
      omega
    have h8 : 128 ^ (cs.length - j) ≤ 128 ^ 8 := Nat.pow_le_pow_right (by omega) (by omega)
    have e8 : (128 : Nat) ^ 8 = 72057594037927936 := rfl
    have e7 : (128 : Nat) ^ 7 = 562949953421312 := rfl
    by_cases h9 : cs.length = 9
    · have : (d.toNat + 1) * 128 ^ (cs.length - j) ≤ 2 * 128 ^ 8 := Nat.mul_le_mul (by omega) h8
      omega
    · have h7 : 128 ^ (cs.length - j) ≤ 128 ^ 7 := Nat.pow_le_pow_right (by omega) (by omega)
      have : (d.toNat + 1) * 128 ^ (cs.length - j) ≤ 128 * 128 ^ 7 := Nat.mul_le_mul (by omega) h7
      omega
theorem go1_snoc {l : List UInt8} {c : UInt8} (h : Go1 l) (hc : 128 ≤ c.toNat) : Go1 (l ++ [c]) := by
  intro x hx
  rcases List.mem_append.1 hx with hx | hx
  · exact h x hx
  · obtain rfl := List.mem_singleton.1 hx; exact hc
theorem list_at (s : ByteArray) (k : Nat) (h : k < s.size) : s.data.toList = s.data.toList.take k ++ s[k] :: s.data.toList.drop (k + 1) := by
  have e : s[k] = s.data.toList[k]'(by simpa using h) := rfl
  rw [e, List.getElem_cons_drop, List.take_append_drop]
theorem val_step (s : ByteArray) (k j : Nat) (h : k < s.size) (hj : j ≤ k) :
    val ((s.data.toList.take (k + 1)).drop j) = val ((s.data.toList.take (k + 1)).drop (j + 1)) * 128 + (s[j]'(by omega)).toNat % 128 := by
  have hsl : s.data.toList.length = s.size := by simp
  have hl : j < (s.data.toList.take (k + 1)).length := by rw [List.length_take]; omega
  rw [List.drop_eq_getElem_cons hl]
  show val _ * 128 + _ = _
  congr 2
  rw [List.getElem_take]
  rfl

set_option maxHeartbeats 4000000 in
set_option maxRecDepth 100000 in
theorem number_s (s : ByteArray) (hz : s.size ≤ maxLen) (w : World) :
    Calls Tryd.prog 50 #[.string s] w fun e w' =>
      e = .returned (.tuple #[.int .u64 ((numR s.data.toList).1 : Int), .int .i64 ((numR s.data.toList).2.1 : Int), .int .i64 ((numR s.data.toList).2.2 : Int)]) ∧ w = w' := by
  unfold maxLen at hz
  have hsl : s.data.toList.length = s.size := by simp
  go_enter Tryd.func50, Tryd.ntmps50
  go_wp2
  go_loop [5] (fun i => ∃ k : Nat, k ≤ s.size ∧ i = .int .i64 k ∧ Go1 (s.data.toList.take k)) (fun i => s.size - (intOf i).toNat)
  case atStart => exact ⟨0, Nat.zero_le _, rfl, fun _ h => absurd h (by simp)⟩
  case round =>
    obtain ⟨k, hk, rfl, hg⟩ := hrel
    by_cases hlt : k < s.size
    · by_cases hc : 128 ≤ s[k].toNat
      · have hg2 := Lib.hid (go1_snoc hg hc)
        rw [← take_snoc s k hlt] at hg2
        clear hg
        go_wp2
        go_round
        case rel => exact ⟨k + 1, by omega, by go_num, hg2.out⟩
        case measure => simp [intOf] <;> omega
      · have hd : s[k].toNat < 128 := by omega
        have hkl : (s.data.toList.take k).length = k := by rw [List.length_take]; omega
        have hR := numR_split (rest := s.data.toList.drop (k + 1)) hg hd
        rw [← list_at s k hlt, hkl, ← take_snoc s k hlt] at hR
        have hdl := val_drop_lt (s.data.toList.take k) s[k] hd
        rw [hkl, ← take_snoc s k hlt] at hdl
        have HR := Lib.hid hR
        have HD := Lib.hid hdl
        have HG := Lib.hid hg
        clear hR hdl hg
        by_cases hb : bad k s[k] = true
        · have HR2 : Hid (numR s.data.toList = (0, 0, 6)) := by have := HR.out; rw [if_pos hb] at this; exact this
          clear HR HD HG
          have hb2 : 10 ≤ k ∨ (k = 9 ∧ 1 < s[k].toNat) ∨ (0 < k ∧ s[k].toNat = 0) := by
            unfold bad at hb
            simp only [Bool.or_eq_true, Bool.and_eq_true, decide_eq_true_eq] at hb
            omega
          clear hb
          by_cases h10 : 10 ≤ k
          · clear hb2
            have h9 : ((k : Int) == 9) = false := by rw [beq_eq_false_iff_ne]; omega
            go_wp2
            go_ret3
            exact ⟨by rw [HR2.out]; rfl, rfl⟩
          · by_cases h9 : k = 9 ∧ 1 < s[k].toNat
            · obtain ⟨rfl, h1⟩ := h9
              clear hb2 h10
              go_wp2
              go_ret3
              exact ⟨by rw [HR2.out]; rfl, rfl⟩
            · have h0 : 0 < k ∧ s[k].toNat = 0 := by omega
              obtain ⟨h0, hs0⟩ := h0
              have hs1 : ((s[k].toNat : Int) == 0) = true := by rw [beq_iff_eq]; omega
              have hs2 : ¬ 1 < s[k].toNat := by omega
              clear hb2 h9 hs0
              by_cases h9 : k = 9
              · have h9' : ((k : Int) == 9) = true := by rw [beq_iff_eq]; omega
                clear h9
                go_wp2
                go_ret3
                exact ⟨by rw [HR2.out]; rfl, rfl⟩
              · have h9' : ((k : Int) == 9) = false := by rw [beq_eq_false_iff_ne]; omega
                clear h9
                go_wp2
                go_ret3
                exact ⟨by rw [HR2.out]; rfl, rfl⟩
        · have HR2 : Hid (numR s.data.toList = (val (s.data.toList.take (k + 1)), k + 1, 0)) := by have := HR.out; rw [if_neg hb] at this; exact this
          have hb' : bad k s[k] = false := by simpa using hb
          have HX : Hid (∀ j, 1 ≤ j → val ((s.data.toList.take (k + 1)).drop j) * 128 + 127 < 18446744073709551616) := HD.out hb'
          clear HR HD HG
          have hb2 : ¬ 10 ≤ k ∧ ¬ (k = 9 ∧ 1 < s[k].toNat) ∧ ¬ (0 < k ∧ s[k].toNat = 0) := by
            unfold bad at hb
            simp only [Bool.or_eq_true, Bool.and_eq_true, decide_eq_true_eq] at hb
            omega
          obtain ⟨h10, hn9, hn0⟩ := hb2
          clear hb hb'
          by_cases h0 : 0 < k
          · have hs0 : ((s[k].toNat : Int) == 0) = false := by rw [beq_eq_false_iff_ne]; omega
            by_cases h9 : k = 9
            · have h9' : ((k : Int) == 9) = true := by rw [beq_iff_eq]; omega
              have hs1 : s[k].toNat ≤ 1 := by omega
              clear hn0 hn9 h9
              go_wp2
              go_loop [2, 9] (fun n i => ∃ j : Nat, j ≤ k + 1 ∧ i = .int .i64 ((j : Int) - 1) ∧ n = .int .u64 (val ((s.data.toList.take (k + 1)).drop j) : Int)) (fun _ i => (intOf i + 1).toNat)
              case atStart => exact ⟨k + 1, by omega, by first | rfl | (congr 1; omega), by rw [List.drop_of_length_le (by rw [List.length_take]; omega)]; rfl⟩
              case round =>
                obtain ⟨j, hj, rfl, rfl⟩ := hrel
                by_cases hj0 : 1 ≤ j
                · obtain ⟨i, rfl⟩ : ∃ i, j = i + 1 := ⟨j - 1, by omega⟩
                  have hv := HX.out (i + 1) (by omega)
                  have hvs := Lib.hid (val_step s k i hlt (by omega))
                  have ho := or7 (val ((s.data.toList.take (k + 1)).drop (i + 1))) (s[i].toNat % 128) (by omega) (by omega)
                  rw [show ((s[i].toNat % 128 : Nat) : Int) = (s[i].toNat : Int) % 128 by omega] at ho
                  have hi : ((i + 1 : Nat) : Int) - 1 = (i : Int) := by omega
                  rw [hi]
                  clear hi
                  go_wp2
                  go_round
                  case rel => exact ⟨i, by omega, rfl, by rw [hvs.out]; go_num⟩
                  case measure => simp [intOf] <;> omega
                · obtain rfl : j = 0 := by omega
                  go_wp2
                  go_ret3
                  exact ⟨by rw [HR2.out]; rfl, rfl⟩
            · have h9' : ((k : Int) == 9) = false := by rw [beq_eq_false_iff_ne]; omega
              clear hn0 hn9 h9
              go_wp2
              go_loop [2, 9] (fun n i => ∃ j : Nat, j ≤ k + 1 ∧ i = .int .i64 ((j : Int) - 1) ∧ n = .int .u64 (val ((s.data.toList.take (k + 1)).drop j) : Int)) (fun _ i => (intOf i + 1).toNat)
              case atStart => exact ⟨k + 1, by omega, by first | rfl | (congr 1; omega), by rw [List.drop_of_length_le (by rw [List.length_take]; omega)]; rfl⟩
              case round =>
                obtain ⟨j, hj, rfl, rfl⟩ := hrel
                by_cases hj0 : 1 ≤ j
                · obtain ⟨i, rfl⟩ : ∃ i, j = i + 1 := ⟨j - 1, by omega⟩
                  have hv := HX.out (i + 1) (by omega)
                  have hvs := Lib.hid (val_step s k i hlt (by omega))
                  have ho := or7 (val ((s.data.toList.take (k + 1)).drop (i + 1))) (s[i].toNat % 128) (by omega) (by omega)
                  rw [show ((s[i].toNat % 128 : Nat) : Int) = (s[i].toNat : Int) % 128 by omega] at ho
                  have hi : ((i + 1 : Nat) : Int) - 1 = (i : Int) := by omega
                  rw [hi]
                  clear hi
                  go_wp2
                  go_round
                  case rel => exact ⟨i, by omega, rfl, by rw [hvs.out]; go_num⟩
                  case measure => simp [intOf] <;> omega
                · obtain rfl : j = 0 := by omega
                  go_wp2
                  go_ret3
                  exact ⟨by rw [HR2.out]; rfl, rfl⟩
          · obtain rfl : k = 0 := by omega
            clear hn0 hn9
            go_wp2
            go_loop [2, 9] (fun n i => ∃ j : Nat, j ≤ 1 ∧ i = .int .i64 ((j : Int) - 1) ∧ n = .int .u64 (val ((s.data.toList.take 1).drop j) : Int)) (fun _ i => (intOf i + 1).toNat)
            case atStart => exact ⟨1, by omega, by first | rfl | (congr 1; omega), by rw [List.drop_of_length_le (by rw [List.length_take]; omega)]; rfl⟩
            case round =>
              obtain ⟨j, hj, rfl, rfl⟩ := hrel
              by_cases hj0 : 1 ≤ j
              · obtain ⟨i, rfl⟩ : ∃ i, j = i + 1 := ⟨j - 1, by omega⟩
                have hv : val ((s.data.toList.take 1).drop (i + 1)) * 128 + 127 < 18446744073709551616 := HX.out (i + 1) (by omega)
                have hvs : Hid (val ((s.data.toList.take 1).drop i) = val ((s.data.toList.take 1).drop (i + 1)) * 128 + (s[i]'(by omega)).toNat % 128) := val_step s 0 i hlt (by omega)
                have ho := or7 (val ((s.data.toList.take 1).drop (i + 1))) (s[i].toNat % 128) (by omega) (by omega)
                rw [show ((s[i].toNat % 128 : Nat) : Int) = (s[i].toNat : Int) % 128 by omega] at ho
                have hi : ((i + 1 : Nat) : Int) - 1 = (i : Int) := by omega
                rw [hi]
                clear hi
                go_wp2
                go_round
                case rel => exact ⟨i, by omega, rfl, by rw [hvs.out]; go_num⟩
                case measure => simp [intOf] <;> omega
              · obtain rfl : j = 0 := by omega
                go_wp2
                go_ret3
                exact ⟨by rw [HR2.out]; rfl, rfl⟩
    · obtain rfl : k = s.size := by omega
      rw [List.take_of_length_le (by omega)] at hg
      have HR := Lib.hid (numR_all hg)
      clear hg
      go_wp2
      go_ret3
      exact ⟨by rw [HR.out]; rfl, rfl⟩
end Go.Proofs.YtlioinmkacjcbaaDoor.Wirey
