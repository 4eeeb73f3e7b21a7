/- The mathematics of layer 4 (blake): words of 32 bits in rows, the mixings, the rounds, a block, the sum of bytes, as chapter 4 has them. Plain numbers and lists; no condition. -/
namespace Go.Proofs.YteopkdmlcjndcaaDoor.Wirey

/-- A row's number at a place. -/
def nat_ (l : List Nat) (i : Nat) : Nat := l.getD i 0
/-- All of a row's numbers are words. -/
def Wd (l : List Nat) : Prop := ∀ x ∈ l, x < 4294967296
theorem nat_lt {l : List Nat} (h : Wd l) (i : Nat) : nat_ l i < 4294967296 := by
  unfold nat_
  by_cases hi : i < l.length
  · rw [List.getD_eq_getElem?_getD, List.getElem?_eq_getElem hi]; exact h _ (List.getElem_mem hi)
  · rw [List.getD_eq_getElem?_getD, List.getElem?_eq_none (by omega)]; show 0 < _; omega
theorem Wd.set_ {l : List Nat} (h : Wd l) (i : Nat) {x : Nat} (hx : x < 4294967296) : Wd (l.set i x) := by
  intro y hy
  rcases List.mem_or_eq_of_mem_set hy with hy | rfl
  · exact h y hy
  · exact hx
theorem nat_set {l : List Nat} {i j x : Nat} (hi : i < l.length) : nat_ (l.set i x) j = if i = j then x else nat_ l j := by
  unfold nat_
  rw [List.getD_eq_getElem?_getD, List.getElem?_set]
  by_cases e : i = j
  · rw [if_pos e, if_pos e, if_pos hi]; rfl
  · rw [if_neg e, if_neg e]; rfl
/-- A word turned right. -/
def rot (n k : Nat) : Nat := n / 2 ^ k ||| n * 2 ^ (32 - k) % 4294967296
theorem rot_lt {n k : Nat} (h : n < 4294967296) : rot n k < 4294967296 := by
  unfold rot
  refine Nat.or_lt_two_pow (n := 32) ?_ ?_
  · exact Nat.lt_of_le_of_lt (Nat.div_le_self _ _) h
  · exact Nat.mod_lt _ (by omega)
/-- To one place another one's number, and one of the block's, are added. -/
def gA (l : List Nat) (a b x : Nat) : List Nat := l.set a ((nat_ l a + nat_ l b + x) % 4294967296)
/-- One place is laid against another one, and turned. -/
def gX (l : List Nat) (d a k : Nat) : List Nat := l.set d (rot (nat_ l d ^^^ nat_ l a) k)
theorem gA_len (l : List Nat) (a b x : Nat) : (gA l a b x).length = l.length := List.length_set ..
theorem gX_len (l : List Nat) (d a k : Nat) : (gX l d a k).length = l.length := List.length_set ..
theorem gA_wd {l : List Nat} (h : Wd l) (a b x : Nat) : Wd (gA l a b x) := h.set_ a (Nat.mod_lt _ (by omega))
theorem xor_lt {a b : Nat} (ha : a < 4294967296) (hb : b < 4294967296) : a ^^^ b < 4294967296 := Nat.xor_lt_two_pow (n := 32) ha hb
theorem gX_wd {l : List Nat} (h : Wd l) (d a k : Nat) : Wd (gX l d a k) := h.set_ d (rot_lt (xor_lt (nat_lt h d) (nat_lt h a)))
/-- A mixing. -/
def mixG (l : List Nat) (a b c d x y : Nat) : List Nat :=
  gX (gA (gX (gA (gX (gA (gX (gA l a b x) d a 16) c d 0) b c 12) a b y) d a 8) c d 0) b c 7
theorem mixG_len (l : List Nat) (a b c d x y : Nat) : (mixG l a b c d x y).length = l.length := by
  unfold mixG; simp only [gA_len, gX_len]
theorem mixG_wd {l : List Nat} (h : Wd l) (a b c d x y : Nat) : Wd (mixG l a b c d x y) :=
  gX_wd (gA_wd (gX_wd (gA_wd (gX_wd (gA_wd (gX_wd (gA_wd h _ _ _) _ _ _) _ _ _) _ _ _) _ _ _) _ _ _) _ _ _) _ _ _
/-- The places of the eight mixings of a round. -/
def cols : List (List Nat) := [[0, 4, 8, 12], [1, 5, 9, 13], [2, 6, 10, 14], [3, 7, 11, 15], [0, 5, 10, 15], [1, 6, 11, 12], [2, 7, 8, 13], [3, 4, 9, 14]]
def col (i j : Nat) : Nat := nat_ (cols.getD i []) j
theorem col_lt (i j : Nat) : col i j < 16 := by
  unfold col cols nat_
  by_cases hi : i < 8
  · have h : ∀ i : Fin 8, ∀ j : Fin 4, ((([[0, 4, 8, 12], [1, 5, 9, 13], [2, 6, 10, 14], [3, 7, 11, 15], [0, 5, 10, 15], [1, 6, 11, 12], [2, 7, 8, 13], [3, 4, 9, 14]] : List (List Nat)).getD i.val []).getD j.val 0) < 16 ∧ ((([[0, 4, 8, 12], [1, 5, 9, 13], [2, 6, 10, 14], [3, 7, 11, 15], [0, 5, 10, 15], [1, 6, 11, 12], [2, 7, 8, 13], [3, 4, 9, 14]] : List (List Nat)).getD i.val []).length = 4) := by decide +kernel
    by_cases hj : j < 4
    · exact (h ⟨i, hi⟩ ⟨j, hj⟩).1
    · have h4 := (h ⟨i, hi⟩ 0).2
      rw [List.getD_eq_getElem?_getD (i := j), List.getElem?_eq_none (by have : (⟨i, hi⟩ : Fin 8).val = i := rfl; rw [this] at h4; omega)]
      show 0 < 16; omega
  · rw [List.getD_eq_getElem?_getD (i := i), List.getElem?_eq_none (by show 8 ≤ i; omega)]
    show (0 : Nat) < 16; omega
/-- The orders in which the rounds take a block's words. -/
def orders : List (List Nat) := [[0, 1, 2, 3, 4, 5, 6, 7, 8, 9, 10, 11, 12, 13, 14, 15], [14, 10, 4, 8, 9, 15, 13, 6, 1, 12, 0, 2, 11, 7, 5, 3], [11, 8, 12, 0, 5, 2, 15, 13, 10, 14, 3, 6, 7, 1, 9, 4], [7, 9, 3, 1, 13, 12, 11, 14, 2, 6, 5, 10, 4, 0, 15, 8], [9, 0, 5, 7, 2, 4, 10, 15, 14, 1, 11, 12, 6, 8, 3, 13], [2, 12, 6, 10, 0, 11, 8, 3, 4, 13, 7, 5, 15, 14, 1, 9], [12, 5, 1, 15, 14, 13, 4, 10, 0, 7, 6, 3, 9, 2, 8, 11], [13, 11, 7, 14, 12, 1, 3, 9, 5, 0, 15, 4, 8, 6, 2, 10], [6, 15, 14, 9, 11, 3, 0, 8, 12, 2, 13, 7, 1, 4, 10, 5], [10, 2, 8, 4, 7, 6, 1, 5, 15, 11, 9, 14, 3, 12, 13, 0]]
def ord (r j : Nat) : Nat := nat_ (orders.getD r []) j
theorem ord_lt {r j : Nat} (hr : r < 10) (hj : j < 16) : ord r j < 16 := by
  have h : ∀ r : Fin 10, ∀ j : Fin 16, ord r.val j.val < 16 := by decide +kernel
  exact h ⟨r, hr⟩ ⟨j, hj⟩
/-- So many mixings. -/
def mixes (m st : List Nat) : Nat → List Nat
  | 0 => st
  | n + 1 => mixG (mixes m st n) (col (n % 8) 0) (col (n % 8) 1) (col (n % 8) 2) (col (n % 8) 3) (nat_ m (ord (n / 8) (2 * (n % 8)))) (nat_ m (ord (n / 8) (2 * (n % 8) + 1)))
theorem mixes_len (m st : List Nat) (n : Nat) : (mixes m st n).length = st.length := by
  induction n with
  | zero => rfl
  | succ n ih => show (mixG _ _ _ _ _ _ _).length = _; rw [mixG_len, ih]
theorem mixes_wd (m : List Nat) {st : List Nat} (h : Wd st) (n : Nat) : Wd (mixes m st n) := by
  induction n with
  | zero => exact h
  | succ n ih => exact mixG_wd ih _ _ _ _ _ _
theorem mixes_at (m st : List Nat) {r i : Nat} (hi : i < 8) : mixes m st (8 * r + i + 1) = mixG (mixes m st (8 * r + i)) (col i 0) (col i 1) (col i 2) (col i 3) (nat_ m (ord r (2 * i))) (nat_ m (ord r (2 * i + 1))) := by
  show mixG _ _ _ _ _ _ _ = _
  rw [show (8 * r + i) % 8 = i by omega, show (8 * r + i) / 8 = r by omega]
/-- The eight words with which all begins. -/
def ivs : List Nat := [1779033703, 3144134277, 1013904242, 2773480762, 1359893119, 2600822924, 528734635, 1541459225]
theorem ivs_wd : Wd ivs := by
  intro x hx
  have h : ivs.all (fun x => decide (x < 4294967296)) = true := by decide +kernel
  exact of_decide_eq_true (List.all_eq_true.1 h x hx)
/-- A block's sixteen words. -/
def s12 (h : List Nat) (many : Nat) : List Nat := (h ++ ivs).set 12 (nat_ (h ++ ivs) 12 ^^^ many % 4294967296)
def s13 (h : List Nat) (many : Nat) : List Nat := (s12 h many).set 13 (nat_ (s12 h many) 13 ^^^ many / 4294967296)
def s14 (h : List Nat) (many : Nat) (last : Bool) : List Nat := if last then (s13 h many).set 14 (4294967295 - nat_ (s13 h many) 14) else s13 h many
theorem s14_len {h : List Nat} (many : Nat) (last : Bool) (hl : h.length = 8) : (s14 h many last).length = 16 := by
  unfold s14 s13 s12; cases last <;> simp [hl, ivs]
theorem app_wd {h : List Nat} (hw : Wd h) : Wd (h ++ ivs) := by
  intro x hx
  rcases List.mem_append.1 hx with hx | hx
  · exact hw x hx
  · exact ivs_wd x hx
theorem s12_wd {h : List Nat} {many : Nat} (hw : Wd h) : Wd (s12 h many) := (app_wd hw).set_ _ (xor_lt (nat_lt (app_wd hw) _) (Nat.mod_lt _ (by omega)))
theorem s13_wd {h : List Nat} {many : Nat} (hw : Wd h) (hm : many < 18446744073709551616) : Wd (s13 h many) := (s12_wd hw).set_ _ (xor_lt (nat_lt (s12_wd hw) _) (by omega))
theorem s14_wd {h : List Nat} {many : Nat} (last : Bool) (hw : Wd h) (hm : many < 18446744073709551616) : Wd (s14 h many last) := by
  unfold s14
  cases last
  · exact s13_wd hw hm
  · exact (s13_wd hw hm).set_ _ (by omega)
/-- What eight words come to behind a block. -/
def outs (h v : List Nat) : Nat → List Nat
  | 0 => []
  | k + 1 => outs h v k ++ [nat_ h k ^^^ nat_ v k ^^^ nat_ v (k + 8)]
theorem outs_len (h v : List Nat) (k : Nat) : (outs h v k).length = k := by
  induction k with
  | zero => rfl
  | succ k ih => show (_ ++ [_]).length = _; rw [List.length_append, ih]; rfl
theorem outs_wd {h v : List Nat} (hh : Wd h) (hv : Wd v) (k : Nat) : Wd (outs h v k) := by
  induction k with
  | zero => intro x hx; cases hx
  | succ k ih =>
    intro x hx
    rcases List.mem_append.1 hx with hx | hx
    · exact ih x hx
    · obtain rfl := List.mem_singleton.1 hx
      exact xor_lt (xor_lt (nat_lt hh _) (nat_lt hv _)) (nat_lt hv _)
def blk (h m : List Nat) (many : Nat) (last : Bool) : List Nat := outs h (mixes m (s14 h many last) 80) 8
theorem blk_len (h m : List Nat) (many : Nat) (last : Bool) : (blk h m many last).length = 8 := outs_len ..
theorem blk_wd {h : List Nat} (m : List Nat) {many : Nat} (last : Bool) (hh : Wd h) (hm : many < 18446744073709551616) : Wd (blk h m many last) := outs_wd hh (mixes_wd m (s14_wd last hh hm) 80) 8

/-! The words of 64 bytes -/
def nums (l : List UInt8) : List Nat := l.map UInt8.toNat
theorem nums_len (l : List UInt8) : (nums l).length = l.length := List.length_map ..
theorem nums_lt (l : List UInt8) (i : Nat) : nat_ (nums l) i < 256 := by
  unfold nat_ nums
  by_cases hi : i < l.length
  · rw [List.getD_eq_getElem?_getD, List.getElem?_map, List.getElem?_eq_getElem hi]; exact l[i].toNat_lt
  · rw [List.getD_eq_getElem?_getD, List.getElem?_eq_none (by simpa using hi)]; show 0 < 256; omega
/-- One word out of four bytes, the lowest first. -/
def word (p : List Nat) (j : Nat) : Nat := nat_ p (4 * j) + nat_ p (4 * j + 1) * 256 + nat_ p (4 * j + 2) * 65536 + nat_ p (4 * j + 3) * 16777216
def wds (p : List Nat) : List Nat := (List.range 16).map (word p)
theorem wds_len (p : List Nat) : (wds p).length = 16 := by simp [wds]
theorem wds_at (p : List Nat) {j : Nat} (h : j < 16) : nat_ (wds p) j = word p j := by
  unfold nat_ wds
  rw [List.getD_eq_getElem?_getD, List.getElem?_map, List.getElem?_range h, Option.map_some, Option.getD_some]
theorem word_lt {p : List Nat} (h : ∀ i, nat_ p i < 256) (j : Nat) : word p j < 4294967296 := by
  have h0 := h (4 * j); have h1 := h (4 * j + 1); have h2 := h (4 * j + 2); have h3 := h (4 * j + 3)
  unfold word; omega
theorem wds_wd {p : List Nat} (h : ∀ i, nat_ p i < 256) : Wd (wds p) := by
  intro x hx
  obtain ⟨j, _, rfl⟩ := List.mem_map.1 hx
  exact word_lt h j
/-- Byte by byte: what the words are when k bytes have been added. -/
def wacc (p : List Nat) : Nat → List Nat
  | 0 => List.replicate 16 0
  | k + 1 => (wacc p k).set (k / 4) (nat_ (wacc p k) (k / 4) + nat_ p k * 256 ^ (k % 4))
theorem wacc_len (p : List Nat) (k : Nat) : (wacc p k).length = 16 := by
  induction k with
  | zero => rfl
  | succ k ih => show (List.set _ _ _).length = _; rw [List.length_set, ih]
def part (p : List Nat) (j : Nat) : Nat → Nat
  | 0 => 0
  | t + 1 => part p j t + nat_ p (4 * j + t) * 256 ^ t
theorem wacc_at (p : List Nat) (k : Nat) (hk : k ≤ 64) (j : Nat) (hj : j < 16) : nat_ (wacc p k) j = part p j (min (k - 4 * j) 4) := by
  induction k with
  | zero =>
    rw [show min (0 - 4 * j) 4 = 0 by omega]
    unfold nat_ wacc
    rw [List.getD_eq_getElem?_getD, List.getElem?_replicate, if_pos hj]; rfl
  | succ k ih =>
    have ih := ih (by omega)
    show nat_ (List.set _ _ _) j = _
    rw [nat_set (by rw [wacc_len]; omega)]
    by_cases e : k / 4 = j
    · rw [if_pos e, e, ih, show min (k - 4 * j) 4 = k % 4 by omega, show min (k + 1 - 4 * j) 4 = k % 4 + 1 by omega]
      show _ = part p j (k % 4) + nat_ p (4 * j + k % 4) * 256 ^ (k % 4)
      rw [show 4 * j + k % 4 = k by omega]
    · rw [if_neg e, ih]
      congr 1
      omega
theorem list_ext16 {a b : List Nat} (ha : a.length = 16) (hb : b.length = 16) (h : ∀ j, j < 16 → nat_ a j = nat_ b j) : a = b := by
  apply List.ext_getElem (by omega)
  intro j h1 h2
  have := h j (by omega)
  unfold nat_ at this
  rw [List.getD_eq_getElem?_getD, List.getD_eq_getElem?_getD, List.getElem?_eq_getElem h1, List.getElem?_eq_getElem h2] at this
  exact this
theorem wacc_all (p : List Nat) : wacc p 64 = wds p := by
  refine list_ext16 (wacc_len p 64) (wds_len p) fun j hj => ?_
  rw [wacc_at p 64 (by omega) j hj, wds_at p hj, show min (64 - 4 * j) 4 = 4 by omega]
  show 0 + nat_ p (4 * j + 0) * 256 ^ 0 + nat_ p (4 * j + 1) * 256 ^ 1 + nat_ p (4 * j + 2) * 256 ^ 2 + nat_ p (4 * j + 3) * 256 ^ 3 = _
  unfold word
  simp
theorem part_lt {p : List Nat} (h : ∀ i, nat_ p i < 256) (j t : Nat) : part p j t < 256 ^ t := by
  induction t with
  | zero => show 0 < 1; omega
  | succ t ih =>
    show part p j t + nat_ p (4 * j + t) * 256 ^ t < 256 ^ (t + 1)
    have h1 : nat_ p (4 * j + t) * 256 ^ t ≤ 255 * 256 ^ t := Nat.mul_le_mul_right _ (by have := h (4 * j + t); omega)
    rw [Nat.pow_succ]
    omega
/-- The next byte goes above what is there. -/
theorem wacc_step {p : List Nat} (h : ∀ i, nat_ p i < 256) {k : Nat} (hk : k < 64) : nat_ (wacc p k) (k / 4) + nat_ p k * 256 ^ (k % 4) < 4294967296 := by
  rw [wacc_at p k (by omega) (k / 4) (by omega), show min (k - 4 * (k / 4)) 4 = k % 4 by omega]
  have h1 := part_lt h (k / 4) (k % 4 + 1)
  have h2 : part p (k / 4) (k % 4 + 1) = part p (k / 4) (k % 4) + nat_ p k * 256 ^ (k % 4) := by
    show part p (k / 4) (k % 4) + nat_ p (4 * (k / 4) + k % 4) * 256 ^ (k % 4) = _
    rw [show 4 * (k / 4) + k % 4 = k by omega]
  have h3 : 256 ^ (k % 4 + 1) ≤ 256 ^ 4 := Nat.pow_le_pow_right (by omega) (by omega)
  have e : (256 : Nat) ^ 4 = 4294967296 := by decide
  omega

/-! The sum -/
def h0s : List Nat := [1795745351, 3144134277, 1013904242, 2773480762, 1359893119, 2600822924, 528734635, 1541459225]
theorem h0s_eq : ivs.set 0 (nat_ ivs 0 ^^^ 16842784) = h0s := by decide +kernel
theorem h0s_wd : Wd h0s := by
  intro x hx
  have h : h0s.all (fun x => decide (x < 4294967296)) = true := by decide +kernel
  exact of_decide_eq_true (List.all_eq_true.1 h x hx)
/-- A block's bytes: noughts behind. -/
def pad (l : List UInt8) : List UInt8 := l ++ List.replicate (64 - l.length) 0
theorem pad_len {l : List UInt8} (h : l.length ≤ 64) : (pad l).length = 64 := by unfold pad; rw [List.length_append, List.length_replicate]; omega
/-- What eight words come to behind bytes, of which n are ahead. -/
def sumH (h : List Nat) (l : List UInt8) (n : Nat) : List Nat :=
  if 64 < l.length then sumH (blk h (wds (nums (l.take 64))) (n + 64) false) (l.drop 64) (n + 64)
  else blk h (wds (nums (pad l))) (n + l.length) true
termination_by l.length
decreasing_by rw [List.length_drop]; omega
theorem sumH_more {h : List Nat} {l : List UInt8} {n : Nat} (hl : 64 < l.length) : sumH h l n = sumH (blk h (wds (nums (l.take 64))) (n + 64) false) (l.drop 64) (n + 64) := by
  rw [sumH, if_pos hl]
theorem sumH_last {h : List Nat} {l : List UInt8} {n : Nat} (hl : ¬ 64 < l.length) : sumH h l n = blk h (wds (nums (pad l))) (n + l.length) true := by
  rw [sumH, if_neg hl]
/-- The first so many bytes of words. -/
def bts (h : List Nat) : Nat → List UInt8
  | 0 => []
  | k + 1 => bts h k ++ [UInt8.ofNat (nat_ h (k / 4) / 256 ^ (k % 4))]
theorem bts_len (h : List Nat) (k : Nat) : (bts h k).length = k := by
  induction k with
  | zero => rfl
  | succ k ih => show (_ ++ [_]).length = _; rw [List.length_append, ih]; rfl
/-- The sum of bytes. -/
def sumL (l : List UInt8) : List UInt8 := bts (sumH h0s l 0) 32
theorem sumL_len (l : List UInt8) : (sumL l).length = 32 := bts_len ..
def abcH : List Nat := [2355006544, 3792993330, 2737547233, 793111374, 545998135, 691721886, 1285265741, 2186897286]
theorem abc_blk : blk h0s (wds (nums (pad [97, 98, 99]))) 3 true = abcH := by decide +kernel
theorem abc_sum : sumL [97, 98, 99] = bts abcH 32 := by
  unfold sumL
  rw [sumH_last (by decide)]
  show bts (blk h0s (wds (nums (pad [97, 98, 99]))) 3 true) 32 = _
  rw [abc_blk]
def abcL : List UInt8 := [80, 140, 94, 140, 50, 124, 20, 226, 225, 167, 43, 163, 78, 235, 69, 47, 55, 69, 139, 32, 158, 214, 58, 41, 77, 153, 155, 76, 134, 103, 89, 130]
theorem abc_bts : bts abcH 32 = abcL := by decide +kernel
theorem abc_l : sumL [97, 98, 99] = abcL := abc_sum.trans abc_bts
end Go.Proofs.YteopkdmlcjndcaaDoor.Wirey
