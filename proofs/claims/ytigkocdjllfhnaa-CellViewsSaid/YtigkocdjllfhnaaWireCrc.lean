/- The mathematics of layer 3's check: one bit's step of the register, half a byte's step by the table, the check of bytes; two rows of bytes of which one byte differs have unlike checks. Plain numbers; no condition. -/
namespace Go.Proofs.Ytigkocdjllfhnaa.Wirey

/-- One bit's step. -/
def bs (r : Nat) : Nat := if r % 2 = 1 then (r / 2) ^^^ 3945912366 else r / 2
/-- The table of halves. -/
def tab (i : Nat) : Nat := bs (bs (bs (bs i)))
/-- Half a byte's step. -/
def hs (r : Nat) : Nat := (r / 16) ^^^ tab (r % 16)
/-- A byte's step. -/
def byteS (r : Nat) (c : UInt8) : Nat := hs (hs (r ^^^ c.toNat))
/-- The register behind bytes. -/
def reg (r : Nat) (l : List UInt8) : Nat := l.foldl byteS r
/-- The check of bytes. -/
def chk (l : List UInt8) : Nat := 4294967295 - reg 4294967295 l

theorem xor_lt32 {a b : Nat} (ha : a < 4294967296) (hb : b < 4294967296) : a ^^^ b < 4294967296 := Nat.xor_lt_two_pow (n := 32) ha hb
theorem div2_xor (a b : Nat) : (a ^^^ b) / 2 = a / 2 ^^^ b / 2 := Nat.xor_div_two
theorem mod2_xor (a b : Nat) : (a ^^^ b) % 2 = (a + b) % 2 := by
  have h : (a ^^^ b) % 2 ^ 1 = a % 2 ^ 1 ^^^ b % 2 ^ 1 := Nat.xor_mod_two_pow
  rw [show (2 : Nat) ^ 1 = 2 from rfl] at h
  rw [h]
  rcases Nat.mod_two_eq_zero_or_one a with ha | ha <;> rcases Nat.mod_two_eq_zero_or_one b with hb | hb <;> rw [ha, hb] <;> (simp; omega)
theorem xor_cancel_r {a b c : Nat} (h : a ^^^ c = b ^^^ c) : a = b := by
  have := congrArg (· ^^^ c) h
  simpa [Nat.xor_assoc] using this
theorem xor_cancel_l {a b c : Nat} (h : c ^^^ a = c ^^^ b) : a = b := by
  rw [Nat.xor_comm c a, Nat.xor_comm c b] at h; exact xor_cancel_r h
theorem bs_xor (a b : Nat) : bs (a ^^^ b) = bs a ^^^ bs b := by
  unfold bs
  have h := mod2_xor a b
  rw [div2_xor]
  rcases Nat.mod_two_eq_zero_or_one a with ha | ha <;> rcases Nat.mod_two_eq_zero_or_one b with hb | hb
  · rw [if_neg (by omega), if_neg (by omega), if_neg (by omega)]
  · rw [if_pos (by omega), if_neg (by omega), if_pos (by omega), Nat.xor_assoc]
  · rw [if_pos (by omega), if_pos (by omega), if_neg (by omega), Nat.xor_assoc, Nat.xor_assoc, Nat.xor_comm (b / 2)]
  · rw [if_neg (by omega), if_pos (by omega), if_pos (by omega)]
    rw [Nat.xor_assoc, Nat.xor_comm (b / 2), ← Nat.xor_assoc 3945912366, Nat.xor_self, Nat.zero_xor]
theorem bs_lt {r : Nat} (h : r < 4294967296) : bs r < 4294967296 := by
  unfold bs
  split
  · exact xor_lt32 (by omega) (by omega)
  · omega
theorem bs_even (q : Nat) : bs (2 * q) = q := by
  unfold bs; rw [if_neg (by omega)]; omega
theorem join16 (r : Nat) : r = (16 * (r / 16)) ^^^ (r % 16) := by
  have e : 16 * (r / 16) = (r / 2 ^ 4) <<< 4 := by rw [Nat.shiftLeft_eq]; omega
  rw [e, show r % 16 = r % 2 ^ 4 from rfl]
  apply Nat.eq_of_testBit_eq
  intro i
  rw [Nat.testBit_xor, Nat.testBit_shiftLeft, Nat.testBit_mod_two_pow, Nat.testBit_div_two_pow]
  by_cases hi : 4 ≤ i
  · have h1 : ¬ i < 4 := by omega
    simp [hi, h1]
  · have h1 : i < 4 := by omega
    simp [hi, h1]
theorem bs4_xor (a b : Nat) : bs (bs (bs (bs (a ^^^ b)))) = bs (bs (bs (bs a))) ^^^ bs (bs (bs (bs b))) := by
  rw [bs_xor, bs_xor, bs_xor, bs_xor]
/-- Half a byte's step is four bits' steps. -/
theorem hs_bs (r : Nat) : hs r = bs (bs (bs (bs r))) := by
  conv => rhs; rw [join16 r]
  rw [bs4_xor, show 16 * (r / 16) = 2 * (2 * (2 * (2 * (r / 16)))) by omega, bs_even, bs_even, bs_even, bs_even]
  rfl
theorem hs_lt {r : Nat} (h : r < 4294967296) : hs r < 4294967296 := by
  rw [hs_bs]; exact bs_lt (bs_lt (bs_lt (bs_lt h)))
theorem tab_lt {i : Nat} (h : i < 16) : tab i < 4294967296 := bs_lt (bs_lt (bs_lt (bs_lt (by omega))))
theorem byte_lt32 (c : UInt8) : c.toNat < 4294967296 := by have := c.toNat_lt; omega
theorem byteS_lt {r : Nat} (h : r < 4294967296) (c : UInt8) : byteS r c < 4294967296 := hs_lt (hs_lt (xor_lt32 h (byte_lt32 c)))
theorem reg_lt (l : List UInt8) : ∀ {r : Nat}, r < 4294967296 → reg r l < 4294967296 := by
  induction l with
  | nil => exact fun h => h
  | cons c l ih => exact fun h => ih (byteS_lt h c)
theorem reg_snoc (r : Nat) (l : List UInt8) (c : UInt8) : reg r (l ++ [c]) = byteS (reg r l) c := by
  unfold reg; rw [List.foldl_append]; rfl
theorem chk_lt (l : List UInt8) : chk l < 4294967296 := by unfold chk; omega

/-! Bit by bit, as the document's own answer goes -/
/-- A bit's step of a register beside a byte's bit k. -/
def bit1 (b k r : Nat) : Nat := if (r % 2 + b / 2 ^ k) % 2 = 1 then (r / 2) ^^^ 3945912366 else r / 2
def bits1 (b : Nat) : Nat → Nat → Nat
  | 0, r => r
  | k + 1, r => bit1 b k (bits1 b k r)
def bsn : Nat → Nat → Nat
  | 0, r => r
  | k + 1, r => bs (bsn k r)
theorem bit_split (q : Nat) : q = (q % 2) ^^^ (2 * (q / 2)) := by
  have e : 2 * (q / 2) = (q / 2 ^ 1) <<< 1 := by rw [Nat.shiftLeft_eq]; omega
  rw [e, show q % 2 = q % 2 ^ 1 from rfl]
  apply Nat.eq_of_testBit_eq
  intro i
  rw [Nat.testBit_xor, Nat.testBit_shiftLeft, Nat.testBit_mod_two_pow, Nat.testBit_div_two_pow]
  by_cases hi : 1 ≤ i
  · have h1 : ¬ i < 1 := by omega
    simp [hi, h1]
  · have h1 : i < 1 := by omega
    simp [hi, h1]
theorem bs_bit (r q : Nat) (hq : q < 2) : bs (r ^^^ q) = if (r % 2 + q) % 2 = 1 then (r / 2) ^^^ 3945912366 else r / 2 := by
  unfold bs
  rw [mod2_xor, div2_xor, show q / 2 = 0 by omega, Nat.xor_zero]
  congr 1
  rw [show (r + q) % 2 = (r % 2 + q) % 2 by omega]
theorem bits1_inv (b r : Nat) : ∀ k, bits1 b k r ^^^ (b / 2 ^ k) = bsn k (r ^^^ b) := by
  intro k
  induction k with
  | zero => simp [bits1, bsn]
  | succ k ih =>
    have h1 : bit1 b k (bits1 b k r) = bs (bits1 b k r ^^^ (b / 2 ^ k % 2)) := by
      rw [bs_bit _ _ (by omega)]
      unfold bit1
      rw [show (bits1 b k r % 2 + b / 2 ^ k % 2) % 2 = (bits1 b k r % 2 + b / 2 ^ k) % 2 by omega]
    have h2 : b / 2 ^ k / 2 = b / 2 ^ (k + 1) := by rw [Nat.div_div_eq_div_mul, Nat.pow_succ]
    show bit1 b k (bits1 b k r) ^^^ (b / 2 ^ (k + 1)) = bs (bsn k (r ^^^ b))
    rw [← ih, h1, ← h2]
    conv => rhs; rw [bit_split (b / 2 ^ k), ← Nat.xor_assoc, bs_xor, bs_even]
theorem byteS_bits (r : Nat) (c : UInt8) : byteS r c = bits1 c.toNat 8 r := by
  have h := bits1_inv c.toNat r 8
  have hc := c.toNat_lt
  rw [show c.toNat / 2 ^ 8 = 0 by omega, Nat.xor_zero] at h
  rw [h]; unfold byteS; rw [hs_bs, hs_bs]; rfl
theorem bit1_lt {b k r : Nat} (h : r < 4294967296) : bit1 b k r < 4294967296 := by
  unfold bit1
  split
  · exact xor_lt32 (by omega) (by omega)
  · omega
theorem bits1_lt {b r : Nat} (h : r < 4294967296) : ∀ k, bits1 b k r < 4294967296
  | 0 => h
  | k + 1 => bit1_lt (bits1_lt h k)

/-! No two registers go to one; one byte that is another one is found -/
theorem bs_inj {a b : Nat} (ha : a < 4294967296) (hb : b < 4294967296) (h : bs a = bs b) : a = b := by
  have key : ∀ {x : Nat}, x < 2147483648 → 2147483648 ≤ x ^^^ 3945912366 := by
    intro x hx
    have hb : (x ^^^ 3945912366).testBit 31 = true := by
      rw [Nat.testBit_xor, Nat.testBit_lt_two_pow (show x < 2 ^ 31 by omega)]
      decide
    exact Nat.ge_two_pow_of_testBit hb
  unfold bs at h
  rcases Nat.mod_two_eq_zero_or_one a with h1 | h1 <;> rcases Nat.mod_two_eq_zero_or_one b with h2 | h2
  · rw [if_neg (by omega), if_neg (by omega)] at h; omega
  · rw [if_neg (by omega), if_pos h2] at h; have := key (x := b / 2) (by omega); omega
  · rw [if_pos h1, if_neg (by omega)] at h; have := key (x := a / 2) (by omega); omega
  · rw [if_pos h1, if_pos h2] at h; have := xor_cancel_r h; omega
theorem hs_inj {a b : Nat} (ha : a < 4294967296) (hb : b < 4294967296) (h : hs a = hs b) : a = b := by
  rw [hs_bs, hs_bs] at h
  exact bs_inj ha hb (bs_inj (bs_lt ha) (bs_lt hb) (bs_inj (bs_lt (bs_lt ha)) (bs_lt (bs_lt hb)) (bs_inj (bs_lt (bs_lt (bs_lt ha))) (bs_lt (bs_lt (bs_lt hb))) h)))
theorem byteS_reg_inj {a b : Nat} (ha : a < 4294967296) (hb : b < 4294967296) (c : UInt8) (h : byteS a c = byteS b c) : a = b := by
  have hc := byte_lt32 c
  have := hs_inj (xor_lt32 ha hc) (xor_lt32 hb hc) (hs_inj (hs_lt (xor_lt32 ha hc)) (hs_lt (xor_lt32 hb hc)) h)
  exact xor_cancel_r this
theorem byteS_byte_inj {a : Nat} (ha : a < 4294967296) (c d : UInt8) (h : byteS a c = byteS a d) : c = d := by
  have hc := byte_lt32 c
  have hd := byte_lt32 d
  have := hs_inj (xor_lt32 ha hc) (xor_lt32 ha hd) (hs_inj (hs_lt (xor_lt32 ha hc)) (hs_lt (xor_lt32 ha hd)) h)
  exact UInt8.toNat_inj.1 (xor_cancel_l this)
theorem reg_inj (l : List UInt8) : ∀ {a b : Nat}, a < 4294967296 → b < 4294967296 → reg a l = reg b l → a = b := by
  induction l with
  | nil => exact fun _ _ h => h
  | cons c l ih => exact fun ha hb h => byteS_reg_inj ha hb c (ih (byteS_lt ha c) (byteS_lt hb c) h)
/-- Of two rows of bytes that differ in one byte the checks differ. -/
theorem chk_one {l m : List UInt8} {c d : UInt8} (hcd : c ≠ d) : chk (l ++ c :: m) ≠ chk (l ++ d :: m) := by
  intro h
  have hr : (4294967295 : Nat) < 4294967296 := by omega
  have h1 := reg_lt (l ++ c :: m) hr
  have h2 := reg_lt (l ++ d :: m) hr
  unfold chk at h
  have h3 : reg 4294967295 (l ++ c :: m) = reg 4294967295 (l ++ d :: m) := by omega
  unfold reg at h3
  rw [List.foldl_append, List.foldl_append, List.foldl_cons, List.foldl_cons] at h3
  have hl := reg_lt l hr
  exact hcd (byteS_byte_inj hl c d (reg_inj m (byteS_lt hl c) (byteS_lt hl d) h3))
end Go.Proofs.Ytigkocdjllfhnaa.Wirey
