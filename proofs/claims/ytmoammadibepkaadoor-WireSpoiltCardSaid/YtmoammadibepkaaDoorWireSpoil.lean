/- The mathematics of layer 3's frames: what is opened is a frame of what it tells; a frame of which one byte is another one is none. -/
import Derived.Test.YtmoammadibepkaaDoorWireAwake
namespace Go.Proofs.YtmoammadibepkaaDoor.Wirey

theorem four_inj {a b : Nat} (ha : a < 4294967296) (hb : b < 4294967296) (h : four a = four b) : a = b := by
  unfold four at h
  simp only [List.cons.injEq] at h
  obtain ⟨h1, h2, h3, h4, _⟩ := h
  have e1 := congrArg UInt8.toNat h1
  have e2 := congrArg UInt8.toNat h2
  have e3 := congrArg UInt8.toNat h3
  have e4 := congrArg UInt8.toNat h4
  rw [toNat_of (by omega), toNat_of (by omega)] at e1 e2 e3 e4
  omega
/-- It is refused, or opened. -/
theorem openR_or (f : List UInt8) : (∃ e, e ≠ 0 ∧ openR f = ([], e)) ∨ ∃ s, openR f = (s, 0) := by
  rcases f with _ | ⟨v, l1⟩
  · exact .inl ⟨4, by decide, rfl⟩
  · unfold openR
    dsimp only
    by_cases h1 : v ≠ 49
    · rw [if_pos h1]; exact .inl ⟨6, by decide, rfl⟩
    rw [if_neg h1]
    by_cases h2 : (numR l1).2.2 ≠ 0
    · rw [if_pos h2]; exact .inl ⟨_, h2, rfl⟩
    rw [if_neg h2]
    by_cases h3 : 65536 < (numR l1).1
    · rw [if_pos h3]; exact .inl ⟨3, by decide, rfl⟩
    rw [if_neg h3]
    by_cases h4 : l1.length < (numR l1).2.1 + (numR l1).1
    · rw [if_pos h4]; exact .inl ⟨4, by decide, rfl⟩
    rw [if_neg h4]
    by_cases h5 : (l1.drop ((numR l1).2.1 + (numR l1).1)).length < 4
    · rw [if_pos h5]; exact .inl ⟨4, by decide, rfl⟩
    rw [if_neg h5]
    split
    · exact .inl ⟨6, by decide, rfl⟩
    · split
      · exact .inl ⟨5, by decide, rfl⟩
      · exact .inr ⟨_, rfl⟩
/-- What is opened is a frame of what it tells. -/
theorem openR_inv {f s : List UInt8} (h : openR f = (s, 0)) : f = frm s := by
  rcases f with _ | ⟨v, l1⟩
  · simp [openR] at h
  · unfold openR at h
    dsimp only at h
    by_cases h1 : v ≠ 49
    · rw [if_pos h1] at h; simp at h
    rw [if_neg h1] at h
    obtain rfl : v = 49 := Classical.not_not.1 h1
    obtain ⟨n, k, e0, hR⟩ : ∃ n k e0, numR l1 = (n, k, e0) := ⟨_, _, _, rfl⟩
    rw [hR] at h
    dsimp only at h
    by_cases h2 : e0 ≠ 0
    · rw [if_pos h2] at h
      have := congrArg Prod.snd h
      exact absurd this h2
    rw [if_neg h2] at h
    obtain rfl : e0 = 0 := Classical.not_not.1 h2
    by_cases h3 : 65536 < n
    · rw [if_pos h3] at h; simp at h
    rw [if_neg h3] at h
    by_cases h4 : l1.length < k + n
    · rw [if_pos h4] at h; simp at h
    rw [if_neg h4] at h
    by_cases h5 : (l1.drop (k + n)).length < 4
    · rw [if_pos h5] at h; simp at h
    rw [if_neg h5] at h
    by_cases h6 : (l1.drop (k + n)).take 4 ≠ four (chk ((49 :: l1).take (l1.length + 1 - (l1.drop (k + n)).length)))
    · rw [if_pos h6] at h; simp at h
    rw [if_neg h6] at h
    by_cases h7 : (l1.drop (k + n)).drop 4 ≠ []
    · rw [if_pos h7] at h; simp at h
    rw [if_neg h7] at h
    have h6' := Classical.not_not.1 h6
    have h7' := Classical.not_not.1 h7
    obtain ⟨hn, hk, hl⟩ := numR_own hR
    have hs : s = (l1.drop k).take n := by have := congrArg Prod.fst h; exact this.symm
    have hsl : s.length = n := by rw [hs, List.length_take, List.length_drop]; omega
    have h8 : (l1.drop (k + n)) = four (chk ((49 :: l1).take (l1.length + 1 - (l1.drop (k + n)).length))) := by
      have e := (List.take_append_drop 4 (l1.drop (k + n))).symm
      rw [h7', List.append_nil] at e
      exact e.trans h6'
    have h9 : l1.drop k = s ++ l1.drop (k + n) := by
      rw [hs, ← List.drop_drop, List.take_append_drop]
    have h10 : (49 :: l1).take (l1.length + 1 - (l1.drop (k + n)).length) = 49 :: (enc n ++ s) := by
      have e : 49 :: l1 = (49 :: (enc n ++ s)) ++ l1.drop (k + n) := by
        conv => lhs; rw [hl, h9]
        simp
      have e2 : l1.length + 1 - (l1.drop (k + n)).length = (49 :: (enc n ++ s)).length := by
        have := congrArg List.length e
        rw [List.length_append, List.length_cons] at this
        omega
      rw [e2, e, List.take_left]
    rw [h10] at h8
    rw [frm_eq]
    unfold txt
    rw [hsl, ← h8, ← h9, ← hl]
theorem enc_sum {a b : Nat} (h : (enc a).length + a = (enc b).length + b) : a = b := by
  rcases Nat.lt_trichotomy a b with h1 | h1 | h1
  · have := enc_mono (Nat.le_of_lt h1); omega
  · exact h1
  · have := enc_mono (Nat.le_of_lt h1); omega
theorem frm_len (l : List UInt8) : (frm l).length = 1 + (enc l.length).length + l.length + 4 := by
  rw [frm_eq]; simp [four_len]; omega
theorem frm_take (l : List UInt8) : (frm l).take (1 + (enc l.length).length + l.length) = 49 :: txt l := by
  unfold frm
  have e : 1 + (enc l.length).length + l.length = (49 :: txt l).length := by unfold txt; simp; omega
  rw [e, List.take_left]
theorem frm_drop (l : List UInt8) : (frm l).drop (1 + (enc l.length).length + l.length) = four (chk (49 :: txt l)) := by
  unfold frm
  have e : 1 + (enc l.length).length + l.length = (49 :: txt l).length := by unfold txt; simp; omega
  rw [e, List.drop_left]
/-- A frame of which one byte is another one is refused. -/
theorem spoilt (l : List UInt8) (k : Nat) (hk : k < (frm l).length) (x : UInt8) (hx : x ≠ (frm l)[k]) : ∃ e, e ≠ 0 ∧ openR ((frm l).set k x) = ([], e) := by
  rcases openR_or ((frm l).set k x) with h | ⟨s, h⟩
  · exact h
  exfalso
  have hf := openR_inv h
  have hlen : (frm s).length = (frm l).length := by rw [← hf, List.length_set]
  rw [frm_len, frm_len] at hlen
  have hsl : s.length = l.length := enc_sum (by omega)
  obtain ⟨m, hm⟩ : ∃ m, m = 1 + (enc l.length).length + l.length := ⟨_, rfl⟩
  have t1 := frm_take l
  have d1 := frm_drop l
  have t2 := frm_take s
  have d2 := frm_drop s
  rw [hsl] at t2 d2
  rw [← hm] at t1 d1 t2 d2
  rw [← hf] at t2 d2
  by_cases hkm : k < m
  · rw [List.drop_set_of_lt hkm, d1] at d2
    have hc := four_inj (chk_lt _) (chk_lt _) d2
    rw [← t1, ← t2, List.take_set] at hc
    have hkl : k < ((frm l).take m).length := by rw [List.length_take]; omega
    rw [List.set_eq_take_append_cons_drop, if_pos hkl] at hc
    have hg : ((frm l).take m)[k] = (frm l)[k] := List.getElem_take
    have hsplit : (frm l).take m = ((frm l).take m).take k ++ (frm l)[k] :: ((frm l).take m).drop (k + 1) := by
      rw [← hg, List.getElem_cons_drop, List.take_append_drop]
    rw [hsplit] at hc
    have hcc := hc
    have e1 : (((frm l).take m).take k ++ (frm l)[k] :: ((frm l).take m).drop (k + 1)).take k = ((frm l).take m).take k := by rw [← hsplit]
    have e2 : (((frm l).take m).take k ++ (frm l)[k] :: ((frm l).take m).drop (k + 1)).drop (k + 1) = ((frm l).take m).drop (k + 1) := by rw [← hsplit]
    rw [e1, e2] at hcc
    exact chk_one (fun e => hx e.symm) hcc
  · have e : ((frm l).set k x).take m = (frm l).take m := by rw [List.take_set, List.set_eq_of_length_le (by rw [List.length_take]; omega)]
    rw [e, t1] at t2
    rw [← t2, ← d1] at d2
    have hsame : (frm l).set k x = frm l := by
      rw [← List.take_append_drop m ((frm l).set k x), e, d2, List.take_append_drop]
    have := List.getElem_set_self (l := frm l) (i := k) (a := x) (by rw [List.length_set]; exact hk)
    have h2 : ((frm l).set k x)[k]? = (frm l)[k]? := by rw [hsame]
    rw [List.getElem?_eq_getElem (by rw [List.length_set]; exact hk), this, List.getElem?_eq_getElem hk] at h2
    exact hx (Option.some.inj h2)
end Go.Proofs.YtmoammadibepkaaDoor.Wirey
