/- Many numbers side by side in one, and chapter 4's block over many lanes at once. Plain numbers and lists; no condition. -/
import Derived.Test.YtccaomaobokldaaDoorBlakeMath
namespace Go.Proofs.YtccaomaobokldaaDoor.Simdy
open Wirey

/-- 2 ^ k lanes of b bits each, from lane lo on. -/
def T (b : Nat) (f : Nat → Nat) : Nat → Nat → Nat
  | 0, lo => f lo
  | k + 1, lo => T b f k lo + 2 ^ (b * 2 ^ k) * T b f k (lo + 2 ^ k)
section
variable {b k lo : Nat} {f g : Nat → Nat}
theorem wid (b k : Nat) : 2 ^ (b * 2 ^ (k + 1)) = 2 ^ (b * 2 ^ k) * 2 ^ (b * 2 ^ k) := by
  rw [← Nat.pow_add, Nat.pow_succ, ← Nat.mul_assoc, Nat.mul_two]
theorem T_lt (hf : ∀ j, f j < 2 ^ b) : ∀ k lo, T b f k lo < 2 ^ (b * 2 ^ k)
  | 0, lo => by rw [Nat.pow_zero, Nat.mul_one]; exact hf lo
  | k + 1, lo => by
    rw [T, wid]
    have h1 := T_lt hf k lo
    have h2 := T_lt hf k (lo + 2 ^ k)
    have h3 := Nat.mul_le_mul_left (2 ^ (b * 2 ^ k)) (Nat.succ_le_of_lt h2)
    rw [Nat.mul_succ] at h3
    omega
theorem T_add : ∀ k lo, T b (fun j => f j + g j) k lo = T b f k lo + T b g k lo
  | 0, _ => rfl
  | k + 1, lo => by rw [T, T, T, T_add k lo, T_add k (lo + 2 ^ k), Nat.mul_add]; omega
theorem T_mul (c : Nat) : ∀ k lo, T b (fun j => f j * c) k lo = T b f k lo * c
  | 0, _ => rfl
  | k + 1, lo => by rw [T, T, T_mul c k lo, T_mul c k (lo + 2 ^ k), Nat.add_mul, Nat.mul_assoc]
theorem T_zero : ∀ k lo, T b (fun _ => 0) k lo = 0
  | 0, _ => rfl
  | k + 1, lo => by rw [T, T_zero k lo, T_zero k (lo + 2 ^ k)]; omega
theorem T_ext (h : ∀ j, f j = g j) (k lo : Nat) : T b f k lo = T b g k lo := by rw [show f = g from funext h]
theorem and_split {w x A y B : Nat} (hx : x < 2 ^ w) (hy : y < 2 ^ w) : (x + 2 ^ w * A) &&& (y + 2 ^ w * B) = (x &&& y) + 2 ^ w * (A &&& B) := by
  have h := Nat.mod_add_div ((x + 2 ^ w * A) &&& (y + 2 ^ w * B)) (2 ^ w)
  have hp : 0 < 2 ^ w := Nat.two_pow_pos w
  rw [Nat.and_mod_two_pow, Nat.and_div_two_pow, Nat.add_mul_mod_self_left, Nat.add_mul_mod_self_left, Nat.mod_eq_of_lt hx, Nat.mod_eq_of_lt hy, Nat.add_mul_div_left _ _ hp, Nat.add_mul_div_left _ _ hp, Nat.div_eq_of_lt hx, Nat.div_eq_of_lt hy, Nat.zero_add, Nat.zero_add] at h
  exact h.symm
theorem or_split {w x A y B : Nat} (hx : x < 2 ^ w) (hy : y < 2 ^ w) : (x + 2 ^ w * A) ||| (y + 2 ^ w * B) = (x ||| y) + 2 ^ w * (A ||| B) := by
  have h := Nat.mod_add_div ((x + 2 ^ w * A) ||| (y + 2 ^ w * B)) (2 ^ w)
  have hp : 0 < 2 ^ w := Nat.two_pow_pos w
  rw [Nat.or_mod_two_pow, Nat.or_div_two_pow, Nat.add_mul_mod_self_left, Nat.add_mul_mod_self_left, Nat.mod_eq_of_lt hx, Nat.mod_eq_of_lt hy, Nat.add_mul_div_left _ _ hp, Nat.add_mul_div_left _ _ hp, Nat.div_eq_of_lt hx, Nat.div_eq_of_lt hy, Nat.zero_add, Nat.zero_add] at h
  exact h.symm
theorem xor_split {w x A y B : Nat} (hx : x < 2 ^ w) (hy : y < 2 ^ w) : (x + 2 ^ w * A) ^^^ (y + 2 ^ w * B) = (x ^^^ y) + 2 ^ w * (A ^^^ B) := by
  have h := Nat.mod_add_div ((x + 2 ^ w * A) ^^^ (y + 2 ^ w * B)) (2 ^ w)
  have hp : 0 < 2 ^ w := Nat.two_pow_pos w
  rw [Nat.xor_mod_two_pow, Nat.xor_div_two_pow, Nat.add_mul_mod_self_left, Nat.add_mul_mod_self_left, Nat.mod_eq_of_lt hx, Nat.mod_eq_of_lt hy, Nat.add_mul_div_left _ _ hp, Nat.add_mul_div_left _ _ hp, Nat.div_eq_of_lt hx, Nat.div_eq_of_lt hy, Nat.zero_add, Nat.zero_add] at h
  exact h.symm
theorem T_and (hf : ∀ j, f j < 2 ^ b) (hg : ∀ j, g j < 2 ^ b) : ∀ k lo, T b f k lo &&& T b g k lo = T b (fun j => f j &&& g j) k lo
  | 0, _ => rfl
  | k + 1, lo => by rw [T, T, T, and_split (T_lt hf k lo) (T_lt hg k lo), T_and hf hg k lo, T_and hf hg k (lo + 2 ^ k)]
theorem T_or (hf : ∀ j, f j < 2 ^ b) (hg : ∀ j, g j < 2 ^ b) : ∀ k lo, T b f k lo ||| T b g k lo = T b (fun j => f j ||| g j) k lo
  | 0, _ => rfl
  | k + 1, lo => by rw [T, T, T, or_split (T_lt hf k lo) (T_lt hg k lo), T_or hf hg k lo, T_or hf hg k (lo + 2 ^ k)]
theorem T_xor (hf : ∀ j, f j < 2 ^ b) (hg : ∀ j, g j < 2 ^ b) : ∀ k lo, T b f k lo ^^^ T b g k lo = T b (fun j => f j ^^^ g j) k lo
  | 0, _ => rfl
  | k + 1, lo => by rw [T, T, T, xor_split (T_lt hf k lo) (T_lt hg k lo), T_xor hf hg k lo, T_xor hf hg k (lo + 2 ^ k)]
theorem shr_split {W s x A m M : Nat} (hs : s ≤ W) (hx : x < 2 ^ W) (hm : m * 2 ^ s < 2 ^ W) : (x + 2 ^ W * A) / 2 ^ s &&& (m + 2 ^ W * M) = (x / 2 ^ s &&& m) + 2 ^ W * (A / 2 ^ s &&& M) := by
  obtain ⟨v, rfl⟩ : ∃ v, W = v + s := ⟨W - s, by omega⟩
  have hp : 0 < 2 ^ s := Nat.two_pow_pos s
  have hpv : 0 < 2 ^ v := Nat.two_pow_pos v
  have hw : 2 ^ (v + s) = 2 ^ v * 2 ^ s := Nat.pow_add ..
  have hmv : m < 2 ^ v := by rw [hw] at hm; exact Nat.lt_of_mul_lt_mul_right hm
  have hxv : x / 2 ^ s < 2 ^ v := by rw [hw] at hx; exact (Nat.div_lt_iff_lt_mul hp).2 hx
  have e1 : x + 2 ^ (v + s) * A = x + 2 ^ s * (2 ^ v * A) := by rw [hw, Nat.mul_comm (2 ^ v), Nat.mul_assoc]
  have e2 : 2 ^ v * A = 2 ^ v * (A % 2 ^ s) + 2 ^ (v + s) * (A / 2 ^ s) := by
    rw [hw, Nat.mul_assoc, ← Nat.mul_add, Nat.mod_add_div]
  have hlow : x / 2 ^ s + 2 ^ v * (A % 2 ^ s) < 2 ^ (v + s) := by
    have h2 := Nat.mul_le_mul_left (2 ^ v) (Nat.succ_le_of_lt (Nat.mod_lt A hp))
    rw [Nat.mul_succ, ← hw] at h2
    omega
  have hms : m < 2 ^ (v + s) := Nat.lt_of_lt_of_le hmv (by rw [hw]; exact Nat.le_mul_of_pos_right _ hp)
  have e3 : (x / 2 ^ s + 2 ^ v * (A % 2 ^ s)) &&& m = x / 2 ^ s &&& m := by
    have h := and_split (w := v) (A := A % 2 ^ s) (B := 0) hxv hmv
    rw [Nat.mul_zero, Nat.add_zero, Nat.and_zero, Nat.mul_zero, Nat.add_zero] at h
    exact h
  rw [e1, Nat.add_mul_div_left _ _ hp, e2, ← Nat.add_assoc, and_split hlow hms, e3]
theorem le_wid (b k : Nat) : b ≤ b * 2 ^ k := Nat.le_mul_of_pos_right _ (Nat.two_pow_pos k)
theorem T_shr {s c : Nat} (hs : s ≤ b) (hf : ∀ j, f j < 2 ^ b) (hc : c * 2 ^ s < 2 ^ b) (hfc : ∀ j, f j / 2 ^ s &&& c = f j / 2 ^ s) : ∀ k lo, T b f k lo / 2 ^ s &&& T b (fun _ => c) k lo = T b (fun j => f j / 2 ^ s) k lo
  | 0, lo => hfc lo
  | k + 1, lo => by
    have hm : T b (fun _ => c) k lo * 2 ^ s < 2 ^ (b * 2 ^ k) := by rw [← T_mul]; exact T_lt (fun _ => hc) k lo
    rw [T, T, T, shr_split (Nat.le_trans hs (le_wid b k)) (T_lt hf k lo) hm, T_shr hs hf hc hfc k lo, T_shr hs hf hc hfc k (lo + 2 ^ k)]
/-- A lane, taken out. -/
theorem T_at (hf : ∀ j, f j < 2 ^ b) : ∀ k lo i, i < 2 ^ k → T b f k lo / 2 ^ (b * i) % 2 ^ b = f (lo + i)
  | 0, lo, i, hi => by
    obtain rfl : i = 0 := by rw [Nat.pow_zero] at hi; omega
    rw [Nat.mul_zero, Nat.pow_zero, Nat.div_one]; exact Nat.mod_eq_of_lt (hf lo)
  | k + 1, lo, i, hi => by
    rw [T]
    rw [Nat.pow_succ] at hi
    have hx := T_lt hf k lo
    by_cases h : i < 2 ^ k
    · obtain ⟨d, hd⟩ : ∃ d, 2 ^ k = i + 1 + d := ⟨2 ^ k - (i + 1), by omega⟩
      have hw : 2 ^ (b * 2 ^ k) = 2 ^ (b * i) * (2 ^ b * 2 ^ (b * d)) := by
        rw [← Nat.pow_add, ← Nat.pow_add, hd]; congr 1; rw [Nat.mul_add, Nat.mul_add, Nat.mul_one, Nat.add_assoc]
      rw [← T_at hf k lo i h, hw, Nat.mul_assoc, Nat.add_mul_div_left _ _ (Nat.two_pow_pos _), Nat.mul_assoc, Nat.add_mul_mod_self_left]
    · obtain ⟨d, rfl⟩ : ∃ d, i = 2 ^ k + d := ⟨i - 2 ^ k, by omega⟩
      rw [← Nat.add_assoc, ← T_at hf k (lo + 2 ^ k) d (by omega), Nat.mul_add b, Nat.pow_add, ← Nat.div_div_eq_div_mul, Nat.add_mul_div_left _ _ (Nat.two_pow_pos _), Nat.div_eq_of_lt hx, Nat.zero_add]
/-- No lane is c. -/
def chk (b c : Nat) : Nat → Nat → Bool
  | 0, x => x != c
  | k + 1, x => chk b c k (x % 2 ^ (b * 2 ^ k)) && chk b c k (x / 2 ^ (b * 2 ^ k))
theorem chk_ok {c : Nat} (hf : ∀ j, f j < 2 ^ b) : ∀ k lo, chk b c k (T b f k lo) = true → ∀ i, i < 2 ^ k → f (lo + i) ≠ c
  | 0, lo, h, i, hi => by
    obtain rfl : i = 0 := by rw [Nat.pow_zero] at hi; omega
    exact ne_of_beq_false (by simpa [chk, T] using h)
  | k + 1, lo, h, i, hi => by
    rw [chk, T, Nat.add_mul_mod_self_left, Nat.mod_eq_of_lt (T_lt hf k lo), Nat.add_mul_div_left _ _ (Nat.two_pow_pos _), Nat.div_eq_of_lt (T_lt hf k lo), Nat.zero_add, Bool.and_eq_true] at h
    rw [Nat.pow_succ] at hi
    by_cases hk : i < 2 ^ k
    · exact chk_ok hf k lo h.1 i hk
    · have := chk_ok hf k (lo + 2 ^ k) h.2 (i - 2 ^ k) (by omega)
      rwa [show lo + 2 ^ k + (i - 2 ^ k) = lo + i by omega] at this
end

/-! A block over many lanes of 64 bits -/
def ones (k : Nat) : Nat := T 64 (fun _ => 4294967295) k 0
def rotM (s k : Nat) : Nat := T 64 (fun _ => 2 ^ (32 - s) - 1) k 0
def rotP (k X s : Nat) : Nat := (X / 2 ^ s &&& rotM s k) ||| (X * 2 ^ (32 - s) &&& ones k)
theorem p32 : (2 : Nat) ^ 32 = 4294967296 := rfl
theorem p64 : (2 : Nat) ^ 64 = 18446744073709551616 := rfl
theorem mod_ok {f : Nat → Nat} (hf : ∀ j, f j < 2 ^ 64) (k : Nat) : T 64 f k 0 &&& ones k = T 64 (fun j => f j % 4294967296) k 0 := by
  unfold ones
  rw [T_and hf (fun _ => by decide)]
  refine T_ext (fun j => ?_) k 0
  rw [show 4294967295 = 2 ^ 32 - 1 from rfl, Nat.and_two_pow_sub_one_eq_mod]
theorem rot_ok {f : Nat → Nat} (hf : ∀ j, f j < 4294967296) (k : Nat) {s : Nat} (hs : s ≤ 32) : rotP k (T 64 f k 0) s = T 64 (fun j => rot (f j) s) k 0 := by
  have h64 : ∀ {x : Nat}, x < 4294967296 → x < 2 ^ 64 := fun h => Nat.lt_trans h (by decide)
  have hp : (2 : Nat) ^ 32 = 2 ^ (32 - s) * 2 ^ s := by rw [← Nat.pow_add]; congr 1; omega
  have hps : 0 < 2 ^ s := Nat.two_pow_pos s
  have hd : ∀ j, f j / 2 ^ s < 2 ^ (32 - s) := fun j => (Nat.div_lt_iff_lt_mul hps).2 (by rw [← hp]; exact hf j)
  have h1 : T 64 f k 0 / 2 ^ s &&& rotM s k = T 64 (fun j => f j / 2 ^ s) k 0 := by
    unfold rotM
    refine T_shr (by omega) (fun j => h64 (hf j)) ?_ (fun j => ?_) k 0
    · have : (2 ^ (32 - s) - 1) * 2 ^ s ≤ 2 ^ (32 - s) * 2 ^ s := Nat.mul_le_mul_right _ (Nat.sub_le ..)
      rw [← hp] at this
      exact Nat.lt_of_le_of_lt this (by decide)
    · rw [Nat.and_two_pow_sub_one_eq_mod, Nat.mod_eq_of_lt (hd j)]
  have hm : ∀ j, f j * 2 ^ (32 - s) < 2 ^ 64 := fun j => by
    have e : (2 : Nat) ^ 64 = 4294967296 * 2 ^ 32 := rfl
    have l : 2 ^ (32 - s) ≤ 2 ^ 32 := Nat.pow_le_pow_right (by omega) (by omega)
    rw [e]
    exact Nat.lt_of_lt_of_le (Nat.mul_lt_mul_of_pos_right (hf j) (Nat.two_pow_pos _)) (Nat.mul_le_mul_left _ l)
  unfold rotP
  rw [h1, ← T_mul, mod_ok hm k, T_or (fun j => h64 (Nat.lt_of_le_of_lt (Nat.div_le_self ..) (hf j))) (fun j => h64 (Nat.mod_lt _ (by decide)))]
  rfl
def gAP (k : Nat) (S : List Nat) (a b X : Nat) : List Nat := S.set a ((nat_ S a + nat_ S b + X) &&& ones k)
def gXP (k : Nat) (S : List Nat) (d a s : Nat) : List Nat := S.set d (rotP k (nat_ S d ^^^ nat_ S a) s)
/-- A packed state holds the lanes' states. -/
structure RP (k : Nat) (S : List Nat) (st : Nat → List Nat) : Prop where
  len : S.length = 16
  ln : ∀ j, (st j).length = 16
  wd : ∀ j, Wd (st j)
  at_ : ∀ s, s < 16 → nat_ S s = T 64 (fun j => nat_ (st j) s) k 0
theorem gA_ok {k : Nat} {S : List Nat} {st : Nat → List Nat} (h : RP k S st) {a b X : Nat} {x : Nat → Nat} (ha : a < 16) (hb : b < 16) (hx : ∀ j, x j < 4294967296) (hX : X = T 64 x k 0) : RP k (gAP k S a b X) (fun j => gA (st j) a b (x j)) := by
  refine ⟨by unfold gAP; rw [List.length_set]; exact h.len, fun j => by rw [gA_len]; exact h.ln j, fun j => gA_wd (h.wd j) _ _ _, fun s hs => ?_⟩
  unfold gAP
  rw [nat_set (by rw [h.len]; exact ha)]
  by_cases e : a = s
  · subst e
    rw [if_pos rfl, h.at_ a ha, h.at_ b hb, hX, ← T_add, ← T_add, mod_ok (fun j => by
      have := nat_lt (h.wd j) a; have := nat_lt (h.wd j) b; have := hx j; rw [p64]; omega)]
    refine T_ext (fun j => ?_) k 0
    unfold gA
    rw [nat_set (by rw [h.ln j]; exact ha), if_pos rfl]
  · rw [if_neg e, h.at_ s hs]
    refine T_ext (fun j => ?_) k 0
    unfold gA
    rw [nat_set (by rw [h.ln j]; exact ha), if_neg e]
theorem gX_ok {k : Nat} {S : List Nat} {st : Nat → List Nat} (h : RP k S st) {d a s : Nat} (hd : d < 16) (ha : a < 16) (hs : s ≤ 32) : RP k (gXP k S d a s) (fun j => gX (st j) d a s) := by
  have h64 : ∀ {x : Nat}, x < 4294967296 → x < 2 ^ 64 := fun h => Nat.lt_trans h (by decide)
  refine ⟨by unfold gXP; rw [List.length_set]; exact h.len, fun j => by rw [gX_len]; exact h.ln j, fun j => gX_wd (h.wd j) _ _ _, fun i hi => ?_⟩
  unfold gXP
  rw [nat_set (by rw [h.len]; exact hd)]
  by_cases e : d = i
  · subst e
    rw [if_pos rfl, h.at_ d hd, h.at_ a ha, T_xor (fun j => h64 (nat_lt (h.wd j) _)) (fun j => h64 (nat_lt (h.wd j) _)), rot_ok (fun j => xor_lt (nat_lt (h.wd j) _) (nat_lt (h.wd j) _)) k hs]
    refine T_ext (fun j => ?_) k 0
    unfold gX
    rw [nat_set (by rw [h.ln j]; exact hd), if_pos rfl]
  · rw [if_neg e, h.at_ i hi]
    refine T_ext (fun j => ?_) k 0
    unfold gX
    rw [nat_set (by rw [h.ln j]; exact hd), if_neg e]
def mixGP (k : Nat) (l : List Nat) (a b c d x y : Nat) : List Nat :=
  gXP k (gAP k (gXP k (gAP k (gXP k (gAP k (gXP k (gAP k l a b x) d a 16) c d 0) b c 12) a b y) d a 8) c d 0) b c 7
theorem mixG_ok {k : Nat} {S : List Nat} {st : Nat → List Nat} (h : RP k S st) {a b c d X Y : Nat} {x y : Nat → Nat} (ha : a < 16) (hb : b < 16) (hc : c < 16) (hd : d < 16) (hx : ∀ j, x j < 4294967296) (hX : X = T 64 x k 0) (hy : ∀ j, y j < 4294967296) (hY : Y = T 64 y k 0) :
    RP k (mixGP k S a b c d X Y) (fun j => mixG (st j) a b c d (x j) (y j)) := by
  have z : ∀ _ : Nat, (0 : Nat) < 4294967296 := fun _ => by decide
  exact gX_ok (gA_ok (gX_ok (gA_ok (gX_ok (gA_ok (gX_ok (gA_ok h ha hb hx hX) hd ha (by decide)) hc hd z (T_zero k 0).symm) hb hc (by decide)) ha hb hy hY) hd ha (by decide)) hc hd z (T_zero k 0).symm) hb hc (by decide)
def mixesP (k : Nat) (m st : List Nat) : Nat → List Nat
  | 0 => st
  | n + 1 => mixGP k (mixesP k m st n) (col (n % 8) 0) (col (n % 8) 1) (col (n % 8) 2) (col (n % 8) 3) (nat_ m (ord (n / 8) (2 * (n % 8)))) (nat_ m (ord (n / 8) (2 * (n % 8) + 1)))
theorem mixes_ok {k : Nat} {S M : List Nat} {st m : Nat → List Nat} (h : RP k S st) (hM : ∀ s, s < 16 → nat_ M s = T 64 (fun j => nat_ (m j) s) k 0) (hm : ∀ j, Wd (m j)) : ∀ n, n ≤ 80 → RP k (mixesP k M S n) (fun j => mixes (m j) (st j) n)
  | 0, _ => h
  | n + 1, hn => mixG_ok (mixes_ok h hM hm n (by omega)) (col_lt _ _) (col_lt _ _) (col_lt _ _) (col_lt _ _) (fun j => nat_lt (hm j) _) (hM _ (ord_lt (by omega) (by omega))) (fun j => nat_lt (hm j) _) (hM _ (ord_lt (by omega) (by omega)))
/-- Lanes' first eight words, their bytes' count, and whether it is the last block: the packed state at the beginning. -/
def hl (h : Nat → Nat → Nat) (j : Nat) : List Nat := [h j 0, h j 1, h j 2, h j 3, h j 4, h j 5, h j 6, h j 7]
def S0 (h : Nat → Nat → Nat) (many : Nat → Nat) (last : Nat) (k : Nat) : List Nat :=
  [T 64 (fun j => h j 0) k 0, T 64 (fun j => h j 1) k 0, T 64 (fun j => h j 2) k 0, T 64 (fun j => h j 3) k 0, T 64 (fun j => h j 4) k 0, T 64 (fun j => h j 5) k 0, T 64 (fun j => h j 6) k 0, T 64 (fun j => h j 7) k 0,
   T 64 (fun _ => 1779033703) k 0, T 64 (fun _ => 3144134277) k 0, T 64 (fun _ => 1013904242) k 0, T 64 (fun _ => 2773480762) k 0, T 64 (fun j => 1359893119 ^^^ many j) k 0, T 64 (fun _ => 2600822924) k 0, T 64 (fun _ => last) k 0, T 64 (fun _ => 1541459225) k 0]
def lastW (last : Bool) : Nat := if last then 3766232660 else 528734635
theorem s14_list (a0 a1 a2 a3 a4 a5 a6 a7 many : Nat) (last : Bool) (hm : many < 4294967296) : s14 [a0, a1, a2, a3, a4, a5, a6, a7] many last = [a0, a1, a2, a3, a4, a5, a6, a7, 1779033703, 3144134277, 1013904242, 2773480762, 1359893119 ^^^ many, 2600822924, lastW last, 1541459225] := by
  have e1 : many % 4294967296 = many := Nat.mod_eq_of_lt hm
  have e2 : many / 4294967296 = 0 := Nat.div_eq_of_lt hm
  cases last <;> simp [s14, s13, s12, e1, e2, nat_, ivs, lastW]
theorem hl_wd {h : Nat → Nat → Nat} (hh : ∀ j s, h j s < 4294967296) (j : Nat) : Wd (hl h j) := by
  intro x hx
  unfold hl at hx
  simp only [List.mem_cons, List.not_mem_nil, or_false] at hx
  rcases hx with rfl | rfl | rfl | rfl | rfl | rfl | rfl | rfl <;> exact hh _ _
theorem S0_ok {h : Nat → Nat → Nat} {many : Nat → Nat} (last : Bool) (k : Nat) (hh : ∀ j s, h j s < 4294967296) (hm : ∀ j, many j < 4294967296) : RP k (S0 h many (lastW last) k) (fun j => s14 (hl h j) (many j) last) := by
  refine ⟨rfl, fun j => s14_len _ _ rfl, fun j => s14_wd _ (hl_wd hh j) (Nat.lt_trans (hm j) (by decide)), fun s hs => ?_⟩
  have e : ∀ j, s14 (hl h j) (many j) last = [h j 0, h j 1, h j 2, h j 3, h j 4, h j 5, h j 6, h j 7, 1779033703, 3144134277, 1013904242, 2773480762, 1359893119 ^^^ many j, 2600822924, lastW last, 1541459225] := fun j => s14_list _ _ _ _ _ _ _ _ _ _ (hm j)
  rw [T_ext (fun j => by rw [e j])]
  match s, hs with
  | 0, _ => rfl
  | 1, _ => rfl
  | 2, _ => rfl
  | 3, _ => rfl
  | 4, _ => rfl
  | 5, _ => rfl
  | 6, _ => rfl
  | 7, _ => rfl
  | 8, _ => rfl
  | 9, _ => rfl
  | 10, _ => rfl
  | 11, _ => rfl
  | 12, _ => rfl
  | 13, _ => rfl
  | 14, _ => rfl
  | 15, _ => rfl
  | n + 16, hs => omega
def M0 (m : Nat → Nat → Nat) (k : Nat) : List Nat := (List.range 16).map fun s => T 64 (fun j => m j s) k 0
def ml (m : Nat → Nat → Nat) (j : Nat) : List Nat := (List.range 16).map (m j)
theorem ml_at (m : Nat → Nat → Nat) (j : Nat) {s : Nat} (hs : s < 16) : nat_ (ml m j) s = m j s := by
  unfold nat_ ml
  rw [List.getD_eq_getElem?_getD, List.getElem?_map, List.getElem?_range hs]; rfl
theorem M0_at (m : Nat → Nat → Nat) (k : Nat) {s : Nat} (hs : s < 16) : nat_ (M0 m k) s = T 64 (fun j => nat_ (ml m j) s) k 0 := by
  rw [T_ext (fun j => ml_at m j hs)]
  unfold nat_ M0
  rw [List.getD_eq_getElem?_getD, List.getElem?_map, List.getElem?_range hs]; rfl
theorem ml_wd {m : Nat → Nat → Nat} (hm : ∀ j s, m j s < 4294967296) (j : Nat) : Wd (ml m j) := by
  intro x hx
  obtain ⟨s, _, rfl⟩ := List.mem_map.1 hx
  exact hm j s
theorem outs_at (h v : List Nat) : ∀ n s, s < n → nat_ (outs h v n) s = nat_ h s ^^^ nat_ v s ^^^ nat_ v (s + 8)
  | 0, s, hs => by omega
  | n + 1, s, hs => by
    have hn := outs_len h v n
    by_cases e : s < n
    · rw [← outs_at h v n s e]
      unfold nat_
      rw [outs, List.getD_eq_getElem?_getD, List.getD_eq_getElem?_getD, List.getElem?_append_left (by omega)]
    · obtain rfl : s = n := by omega
      show (outs h v s ++ [nat_ h s ^^^ nat_ v s ^^^ nat_ v (s + 8)]).getD s 0 = _
      rw [List.getD_eq_getElem?_getD, List.getElem?_append_right (by omega), hn, Nat.sub_self]
      rfl
/-- One word of what the lanes come to behind their block. -/
def outP (h : Nat → Nat → Nat) (V : List Nat) (k s : Nat) : Nat := T 64 (fun j => h j s) k 0 ^^^ nat_ V s ^^^ nat_ V (s + 8)
theorem blk_ok {h m : Nat → Nat → Nat} {many : Nat → Nat} (last : Bool) (k : Nat) (hh : ∀ j s, h j s < 4294967296) (hm : ∀ j s, m j s < 4294967296) (hn : ∀ j, many j < 4294967296) {s : Nat} (hs : s < 8) :
    outP h (mixesP k (M0 m k) (S0 h many (lastW last) k) 80) k s = T 64 (fun j => nat_ (blk (hl h j) (ml m j) (many j) last) s) k 0 := by
  have h64 : ∀ {x : Nat}, x < 4294967296 → x < 2 ^ 64 := fun h => Nat.lt_trans h (by decide)
  have R := mixes_ok (S0_ok last k hh hn) (fun s hs => M0_at m k hs) (ml_wd hm) 80 (Nat.le_refl _)
  unfold outP
  rw [R.at_ s (by omega), R.at_ (s + 8) (by omega), T_xor (fun j => h64 (hh j s)) (fun j => h64 (nat_lt (R.wd j) _)), T_xor (fun j => h64 (xor_lt (hh j s) (nat_lt (R.wd j) _))) (fun j => h64 (nat_lt (R.wd j) _))]
  refine T_ext (fun j => ?_) k 0
  unfold blk
  rw [outs_at _ _ 8 s hs]
  congr 2
  match s, hs with
  | 0, _ => rfl
  | 1, _ => rfl
  | 2, _ => rfl
  | 3, _ => rfl
  | 4, _ => rfl
  | 5, _ => rfl
  | 6, _ => rfl
  | 7, _ => rfl
  | n + 8, hs => omega
end Go.Proofs.YtccaomaobokldaaDoor.Simdy
