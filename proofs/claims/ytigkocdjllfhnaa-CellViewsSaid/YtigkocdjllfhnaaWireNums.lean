/- The mathematics of layer 3's numbers: a number's bytes (seven bits a byte, the lowest first), the number of bytes, the number with which bytes begin; each comes back, and bytes that are read as a number are that number's own. Plain numbers and lists; no condition. -/
namespace Go.Proofs.Ytigkocdjllfhnaa.Wirey

/-- A number's bytes. -/
def enc (n : Nat) : List UInt8 := if n < 128 then [UInt8.ofNat n] else UInt8.ofNat (128 + n % 128) :: enc (n / 128)
theorem enc_small {n : Nat} (h : n < 128) : enc n = [UInt8.ofNat n] := by rw [enc, if_pos h]
theorem enc_big {n : Nat} (h : ¬ n < 128) : enc n = UInt8.ofNat (128 + n % 128) :: enc (n / 128) := by rw [enc, if_neg h]
/-- The number that bytes make. -/
def val : List UInt8 → Nat
  | [] => 0
  | c :: l => val l * 128 + c.toNat % 128
/-- All bytes say that they are not the last. -/
def Go1 (l : List UInt8) : Prop := ∀ c ∈ l, 128 ≤ c.toNat

theorem toNat_of {n : Nat} (h : n < 256) : (UInt8.ofNat n).toNat = n := by rw [UInt8.toNat_ofNat']; omega
theorem enc_split (n : Nat) : ∃ cs d, enc n = cs ++ [d] ∧ Go1 cs ∧ d.toNat < 128 ∧ (cs = [] ∨ d.toNat ≠ 0) := by
  induction n using Nat.strongRecOn with
  | ind n ih =>
    by_cases h : n < 128
    · exact ⟨[], UInt8.ofNat n, enc_small h, fun _ hc => absurd hc (List.not_mem_nil), by rw [toNat_of (by omega)]; exact h, .inl rfl⟩
    · obtain ⟨cs, d, e, hg, hd, hz⟩ := ih (n / 128) (by omega)
      refine ⟨UInt8.ofNat (128 + n % 128) :: cs, d, by rw [enc_big h, e]; rfl, ?_, hd, .inr ?_⟩
      · intro c hc
        rcases List.mem_cons.1 hc with rfl | hc
        · rw [toNat_of (by omega)]; omega
        · exact hg c hc
      · rcases hz with rfl | hz
        · have h1 : n / 128 < 128 := by
            by_cases h2 : n / 128 < 128
            · exact h2
            · rw [enc_big h2] at e
              have := congrArg List.length e
              obtain ⟨c, d', e', _⟩ := ih (n / 128 / 128) (by omega)
              rw [e'] at this
              simp at this
          rw [enc_small h1] at e
          have : d = UInt8.ofNat (n / 128) := by simpa using e.symm
          rw [this, toNat_of (by omega)]; omega
        · exact hz
theorem val_enc (n : Nat) : val (enc n) = n := by
  induction n using Nat.strongRecOn with
  | ind n ih =>
    by_cases h : n < 128
    · rw [enc_small h]; show 0 * 128 + (UInt8.ofNat n).toNat % 128 = n; rw [toNat_of (by omega)]; omega
    · rw [enc_big h]; show val (enc (n / 128)) * 128 + (UInt8.ofNat (128 + n % 128)).toNat % 128 = n
      rw [ih _ (by omega), toNat_of (by omega)]; omega
theorem enc_inj {a b : Nat} (h : enc a = enc b) : a = b := by rw [← val_enc a, h, val_enc]
theorem val_last (cs : List UInt8) (d : UInt8) (hd : d.toNat < 128) : d.toNat * 128 ^ cs.length ≤ val (cs ++ [d]) ∧ val (cs ++ [d]) < (d.toNat + 1) * 128 ^ cs.length := by
  induction cs with
  | nil => simp [val]; omega
  | cons c cs ih =>
    show d.toNat * 128 ^ (cs.length + 1) ≤ val (cs ++ [d]) * 128 + c.toNat % 128 ∧ val (cs ++ [d]) * 128 + c.toNat % 128 < (d.toNat + 1) * 128 ^ (cs.length + 1)
    rw [Nat.pow_succ, ← Nat.mul_assoc, ← Nat.mul_assoc]
    omega
theorem enc_val (cs : List UInt8) (d : UInt8) (hg : Go1 cs) (hd : d.toNat < 128) (hz : cs = [] ∨ d.toNat ≠ 0) : enc (val (cs ++ [d])) = cs ++ [d] := by
  induction cs with
  | nil =>
    show enc (0 * 128 + d.toNat % 128) = [d]
    rw [Nat.zero_mul, Nat.zero_add, Nat.mod_eq_of_lt hd, enc_small hd, UInt8.ofNat_toNat]
  | cons c cs ih =>
    have hd0 : d.toNat ≠ 0 := hz.resolve_left (List.cons_ne_nil _ _)
    have hv := (val_last cs d hd).1
    have hp : 1 ≤ 128 ^ cs.length := Nat.one_le_pow _ _ (by omega)
    have hv1 : 1 ≤ val (cs ++ [d]) := Nat.le_trans (Nat.le_trans hp (Nat.le_mul_of_pos_left _ (by omega))) hv
    have hc := hg c (List.mem_cons_self ..)
    have hc2 := c.toNat_lt
    show enc (val (cs ++ [d]) * 128 + c.toNat % 128) = c :: (cs ++ [d])
    rw [enc_big (by omega), show (val (cs ++ [d]) * 128 + c.toNat % 128) / 128 = val (cs ++ [d]) by omega, ih (fun x hx => hg x (List.mem_cons_of_mem _ hx)) (.inr hd0)]
    rw [show 128 + (val (cs ++ [d]) * 128 + c.toNat % 128) % 128 = c.toNat by omega, UInt8.ofNat_toNat]
theorem pow9 : (128 : Nat) ^ 9 = 9223372036854775808 := rfl
theorem pow10 : (128 : Nat) ^ 10 = 1180591620717411303424 := rfl

/-- How many bytes say that they are not the last. -/
def lastOf (l : List UInt8) : Nat := (l.takeWhile fun c => decide (128 ≤ c.toNat)).length
theorem lastOf_split (cs : List UInt8) (d : UInt8) (rest : List UInt8) (hg : Go1 cs) (hd : d.toNat < 128) : lastOf (cs ++ d :: rest) = cs.length := by
  unfold lastOf
  rw [List.takeWhile_append_of_pos (by intro c hc; simpa using hg c hc), List.takeWhile_cons_of_neg (by simpa using hd)]
  simp
theorem lastOf_all {l : List UInt8} (hg : Go1 l) : lastOf l = l.length := by
  unfold lastOf
  have : l.takeWhile (fun c => decide (128 ≤ c.toNat)) = l := by
    induction l with
    | nil => rfl
    | cons c l ih =>
      rw [List.takeWhile_cons_of_pos (by simpa using hg c (List.mem_cons_self ..)), ih (fun x hx => hg x (List.mem_cons_of_mem _ hx))]
  rw [this]
theorem split_at (l : List UInt8) : (Go1 l) ∨ ∃ cs d rest, l = cs ++ d :: rest ∧ Go1 cs ∧ d.toNat < 128 := by
  induction l with
  | nil => exact .inl fun _ hc => absurd hc (List.not_mem_nil)
  | cons c l ih =>
    by_cases hc : 128 ≤ c.toNat
    · rcases ih with ih | ⟨cs, d, rest, rfl, hg, hd⟩
      · left
        intro x hx
        rcases List.mem_cons.1 hx with rfl | hx
        · exact hc
        · exact ih x hx
      · right
        refine ⟨c :: cs, d, rest, rfl, ?_, hd⟩
        intro x hx
        rcases List.mem_cons.1 hx with rfl | hx
        · exact hc
        · exact hg x hx
    · exact .inr ⟨[], c, l, rfl, fun _ h => absurd h (List.not_mem_nil), by omega⟩

/-- What the number with which bytes begin is refused for, if its last byte d stands behind so many others. -/
def bad (k : Nat) (d : UInt8) : Bool := decide (10 ≤ k) || (decide (k = 9) && decide (1 < d.toNat)) || (decide (0 < k) && decide (d.toNat = 0))
/-- The number with which bytes begin, how many bytes it has, why it can't be read: as the program has it. -/
def numQ (l : List UInt8) : Nat × Nat × Nat :=
  if lastOf l = l.length then (0, 0, 4)
  else if bad (lastOf l) (l.getD (lastOf l) 0) then (0, 0, 6)
  else (val (l.take (lastOf l + 1)), lastOf l + 1, 0)
theorem numQ_all {l : List UInt8} (hg : Go1 l) : numQ l = (0, 0, 4) := by unfold numQ; rw [if_pos (lastOf_all hg)]
theorem numQ_split {cs : List UInt8} {d : UInt8} {rest : List UInt8} (hg : Go1 cs) (hd : d.toNat < 128) :
    numQ (cs ++ d :: rest) = if bad cs.length d then (0, 0, 6) else (val (cs ++ [d]), cs.length + 1, 0) := by
  unfold numQ
  rw [lastOf_split cs d rest hg hd, if_neg (by simp)]
  have e1 : (cs ++ d :: rest).getD cs.length 0 = d := by simp
  have e2 : (cs ++ d :: rest).take (cs.length + 1) = cs ++ [d] := by
    rw [List.take_append, List.take_of_length_le (by omega)]; simp
  rw [e1, e2]
/-- A number's bytes are read as that number. -/
theorem numQ_enc {n : Nat} (h : n < 18446744073709551616) (rest : List UInt8) : numQ (enc n ++ rest) = (n, (enc n).length, 0) := by
  obtain ⟨cs, d, e, hg, hd, hz⟩ := enc_split n
  have hv := val_enc n
  rw [e] at hv ⊢
  have hl := val_last cs d hd
  rw [hv] at hl
  rw [List.append_assoc]
  show numQ (cs ++ d :: rest) = _
  rw [numQ_split hg hd, if_neg, hv]
  · simp
  · unfold bad
    have hp := pow9
    have hq := pow10
    have h10 : cs.length < 10 := by
      apply Nat.lt_of_not_le
      intro h10
      have h1 : 128 ^ 10 ≤ 128 ^ cs.length := Nat.pow_le_pow_right (by omega) h10
      have h2 : d.toNat ≠ 0 := hz.resolve_left (by intro e; rw [e] at h10; simp at h10)
      have h3 : 128 ^ cs.length ≤ d.toNat * 128 ^ cs.length := Nat.le_mul_of_pos_left _ (by omega)
      omega
    have h9 : cs.length = 9 → d.toNat ≤ 1 := by
      intro h9
      rw [h9, hp] at hl
      omega
    have h0 : 0 < cs.length → d.toNat ≠ 0 := fun h0 => hz.resolve_left (by intro e; rw [e] at h0; simp at h0)
    simp only [Bool.or_eq_true, Bool.and_eq_true, decide_eq_true_eq]
    omega
/-- Bytes that are read as a number begin with that number's own. -/
theorem numQ_own {l : List UInt8} {n k : Nat} (h : numQ l = (n, k, 0)) : n < 18446744073709551616 ∧ k = (enc n).length ∧ l = enc n ++ l.drop k := by
  rcases split_at l with hg | ⟨cs, d, rest, rfl, hg, hd⟩
  · rw [numQ_all hg] at h; simp at h
  · rw [numQ_split hg hd] at h
    by_cases hb : bad cs.length d = true
    · rw [if_pos hb] at h; simp at h
    · rw [if_neg hb] at h
      simp only [Prod.mk.injEq] at h
      obtain ⟨rfl, rfl, _⟩ := h
      unfold bad at hb
      simp only [Bool.or_eq_true, Bool.and_eq_true, decide_eq_true_eq] at hb
      have hz : cs = [] ∨ d.toNat ≠ 0 := by
        by_cases hc : cs = []
        · exact .inl hc
        · have : 0 < cs.length := List.length_pos_iff.2 hc
          exact .inr (by omega)
      have hl := (val_last cs d hd).2
      have hle : 128 ^ cs.length ≤ 128 ^ 9 := Nat.pow_le_pow_right (by omega) (by omega)
      have hp := pow9
      refine ⟨?_, ?_, ?_⟩
      · by_cases h9 : cs.length = 9
        · rw [h9, hp] at hl; omega
        · have h8 : 128 ^ cs.length ≤ 128 ^ 8 := Nat.pow_le_pow_right (by omega) (by omega)
          have e8 : (128 : Nat) ^ 8 = 72057594037927936 := rfl
          have : (d.toNat + 1) * 128 ^ cs.length ≤ 128 * 128 ^ 8 := Nat.mul_le_mul (by omega) h8
          omega
      · rw [enc_val cs d hg hd hz]; simp
      · rw [enc_val cs d hg hd hz]
        have : (cs ++ d :: rest).drop (cs.length + 1) = rest := by
          rw [List.drop_append]; simp
        rw [this]; simp
theorem numQ_le {l : List UInt8} {n k : Nat} (h : numQ l = (n, k, 0)) : k ≤ l.length := by
  obtain ⟨_, h1, h2⟩ := numQ_own h
  have := congrArg List.length h2
  rw [List.length_append] at this
  omega
theorem enc_len {n : Nat} (h : n < 18446744073709551616) : 1 ≤ (enc n).length ∧ (enc n).length ≤ 10 := by
  obtain ⟨cs, d, e, hg, hd, hz⟩ := enc_split n
  have hv := val_enc n
  have hl := val_last cs d hd
  rw [e] at hv ⊢
  rw [hv] at hl
  have hq := pow10
  refine ⟨by simp, ?_⟩
  rw [List.length_append]
  show cs.length + 1 ≤ 10
  apply Nat.le_of_lt_succ
  apply Nat.lt_of_not_le
  intro h10
  have h1 : 128 ^ 10 ≤ 128 ^ cs.length := Nat.pow_le_pow_right (by omega) (by omega)
  have h2 : d.toNat ≠ 0 := hz.resolve_left (by intro e; rw [e] at h10; simp at h10)
  have h3 : 128 ^ cs.length ≤ d.toNat * 128 ^ cs.length := Nat.le_mul_of_pos_left _ (by omega)
  omega
/-- A greater number has at least as many bytes. -/
theorem enc_mono {a b : Nat} (h : a ≤ b) : (enc a).length ≤ (enc b).length := by
  induction b using Nat.strongRecOn generalizing a with
  | ind b ih =>
    by_cases hb : b < 128
    · rw [enc_small hb, enc_small (by omega)]; simp
    · rw [enc_big hb]
      by_cases ha : a < 128
      · rw [enc_small ha]; simp
      · rw [enc_big ha]
        have := ih (b / 128) (by omega) (a := a / 128) (by omega)
        simpa using this
/-- None begins with another one's bytes. -/
theorem enc_pre {a b : Nat} {rest : List UInt8} (ha : a < 18446744073709551616) (hb : b < 18446744073709551616) (h : enc b = enc a ++ rest) : a = b := by
  have h1 := numQ_enc ha rest
  have h2 := numQ_enc hb []
  rw [List.append_nil, h, h1] at h2
  simp only [Prod.mk.injEq] at h2
  exact h2.1
/-- The number with which bytes begin, how many bytes it has, why it can't be read: byte by byte. -/
def numF (l : List UInt8) : Nat × Nat × Nat :=
  if 10 ≤ lastOf l then (0, 0, 6)
  else if lastOf l = l.length then (0, 0, 4)
  else if bad (lastOf l) (l.getD (lastOf l) 0) then (0, 0, 6)
  else (val (l.take (lastOf l + 1)), lastOf l + 1, 0)
theorem numF_long {l : List UInt8} (hg : 10 ≤ lastOf l) : numF l = (0, 0, 6) := by unfold numF; rw [if_pos hg]
theorem numF_all {l : List UInt8} (hg : Go1 l) (h : l.length < 10) : numF l = (0, 0, 4) := by unfold numF; rw [lastOf_all hg, if_neg (by omega), if_pos rfl]
theorem numF_split {cs : List UInt8} {d : UInt8} {rest : List UInt8} (hg : Go1 cs) (hd : d.toNat < 128) :
    numF (cs ++ d :: rest) = if bad cs.length d then (0, 0, 6) else (val (cs ++ [d]), cs.length + 1, 0) := by
  unfold numF
  rw [lastOf_split cs d rest hg hd]
  have e1 : (cs ++ d :: rest).getD cs.length 0 = d := by simp
  have e2 : (cs ++ d :: rest).take (cs.length + 1) = cs ++ [d] := by
    rw [List.take_append, List.take_of_length_le (by omega)]; simp
  rw [e1, e2]
  by_cases h : 10 ≤ cs.length
  · rw [if_pos h, if_pos]; unfold bad; simp [h]
  · rw [if_neg h, if_neg (by simp)]
/-- Where it is a number at all both readings are one. -/
theorem numF_ok {l : List UInt8} {n k : Nat} : numF l = (n, k, 0) ↔ numQ l = (n, k, 0) := by
  rcases split_at l with hg | ⟨cs, d, rest, rfl, hg, hd⟩
  · rw [numQ_all hg]
    constructor
    · intro h
      unfold numF at h
      rw [lastOf_all hg] at h
      split at h
      · simp at h
      · rw [if_pos rfl] at h; simp at h
    · intro h; simp at h
  · rw [numQ_split hg hd, numF_split hg hd]
theorem numF_enc {n : Nat} (h : n < 18446744073709551616) (rest : List UInt8) : numF (enc n ++ rest) = (n, (enc n).length, 0) := numF_ok.2 (numQ_enc h rest)
theorem numF_le {l : List UInt8} {n k : Nat} (h : numF l = (n, k, 0)) : k ≤ l.length := numQ_le (numF_ok.1 h)

/-- The reading that the program's text has: the document's own. -/
def numR (l : List UInt8) : Nat × Nat × Nat := numF l
theorem numR_long {l : List UInt8} (hg : 10 ≤ lastOf l) : numR l = (0, 0, 6) := numF_long hg
theorem numR_all {l : List UInt8} (hg : Go1 l) (h : l.length < 10) : numR l = (0, 0, 4) := numF_all hg h
theorem numR_split {cs : List UInt8} {d : UInt8} {rest : List UInt8} (hg : Go1 cs) (hd : d.toNat < 128) :
    numR (cs ++ d :: rest) = if bad cs.length d then (0, 0, 6) else (val (cs ++ [d]), cs.length + 1, 0) := numF_split hg hd
theorem numR_enc {n : Nat} (h : n < 18446744073709551616) (rest : List UInt8) : numR (enc n ++ rest) = (n, (enc n).length, 0) := numF_enc h rest
theorem numR_own {l : List UInt8} {n k : Nat} (h : numR l = (n, k, 0)) : n < 18446744073709551616 ∧ k = (enc n).length ∧ l = enc n ++ l.drop k := numQ_own (numF_ok.1 h)
theorem numR_le {l : List UInt8} {n k : Nat} (h : numR l = (n, k, 0)) : k ≤ l.length := numF_le h
theorem numSame (l : List UInt8) : numR l = numF l := rfl
end Go.Proofs.Ytigkocdjllfhnaa.Wirey
