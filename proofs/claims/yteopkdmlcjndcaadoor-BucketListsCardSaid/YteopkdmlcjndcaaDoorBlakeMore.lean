/- More of chapter 4's mathematics (layer 4, blake), for the program's own way of reckoning: four words are mixed beside the row and laid back; an order is one number, its digits taken by shifts; a word is put together by or. No condition. -/
import Derived.Test.YteopkdmlcjndcaaDoorBlakeMix
namespace Go.Proofs.YteopkdmlcjndcaaDoor.Wirey
open Go.ChangeShapes Go.WideShapes Go.ChangeAt Go.RowKit

theorem nat_ext {a b : List Nat} (hl : a.length = b.length) (h : ∀ j, j < a.length → nat_ a j = nat_ b j) : a = b := by
  apply List.ext_getElem hl
  intro j h1 h2
  have := h j h1
  unfold nat_ at this
  rw [List.getD_eq_getElem?_getD, List.getD_eq_getElem?_getD, List.getElem?_eq_getElem h1, List.getElem?_eq_getElem h2] at this
  exact this
/-- Four words laid into a row. -/
def put4 (l : List Nat) (a b c d : Nat) (st : List Nat) : List Nat := (((l.set a (nat_ st 0)).set b (nat_ st 1)).set c (nat_ st 2)).set d (nat_ st 3)
theorem put4_len (l : List Nat) (a b c d : Nat) (st : List Nat) : (put4 l a b c d st).length = l.length := by unfold put4; simp
/-- The four places lie apart, inside the row. -/
structure Apart4 (l : List Nat) (a b c d : Nat) : Prop where
  ha : a < l.length
  hb : b < l.length
  hc : c < l.length
  hd : d < l.length
  ab : a ≠ b
  ac : a ≠ c
  ad : a ≠ d
  bc : b ≠ c
  bd : b ≠ d
  cd : c ≠ d
theorem nat_put4 {l : List Nat} {a b c d : Nat} (A : Apart4 l a b c d) (st : List Nat) (j : Nat) :
    nat_ (put4 l a b c d st) j = if d = j then nat_ st 3 else if c = j then nat_ st 2 else if b = j then nat_ st 1 else if a = j then nat_ st 0 else nat_ l j := by
  have := A.ha; have := A.hb; have := A.hc; have := A.hd
  unfold put4
  rw [nat_set (by simpa using A.hd), nat_set (by simpa using A.hc), nat_set (by simpa using A.hb), nat_set A.ha]
theorem put4_0 {l : List Nat} {a b c d : Nat} (A : Apart4 l a b c d) (st : List Nat) : nat_ (put4 l a b c d st) a = nat_ st 0 := by
  rw [nat_put4 A, if_neg A.ad.symm, if_neg A.ac.symm, if_neg A.ab.symm, if_pos rfl]
theorem put4_1 {l : List Nat} {a b c d : Nat} (A : Apart4 l a b c d) (st : List Nat) : nat_ (put4 l a b c d st) b = nat_ st 1 := by
  rw [nat_put4 A, if_neg A.bd.symm, if_neg A.bc.symm, if_pos rfl]
theorem put4_2 {l : List Nat} {a b c d : Nat} (A : Apart4 l a b c d) (st : List Nat) : nat_ (put4 l a b c d st) c = nat_ st 2 := by
  rw [nat_put4 A, if_neg A.cd.symm, if_pos rfl]
theorem put4_3 {l : List Nat} {a b c d : Nat} (A : Apart4 l a b c d) (st : List Nat) : nat_ (put4 l a b c d st) d = nat_ st 3 := by
  rw [nat_put4 A, if_pos rfl]
theorem put4_set0 {l : List Nat} {a b c d : Nat} (A : Apart4 l a b c d) {st : List Nat} (hs : st.length = 4) (v : Nat) : (put4 l a b c d st).set a v = put4 l a b c d (st.set 0 v) := by
  refine nat_ext (by simp [put4_len]) fun j _ => ?_
  have := A.ab; have := A.ac; have := A.ad
  rw [nat_set (by rw [put4_len]; exact A.ha), nat_put4 A, nat_put4 A, nat_set (by omega), nat_set (by omega), nat_set (by omega), nat_set (by omega)]
  repeat' split
  all_goals first | rfl | omega
theorem put4_set1 {l : List Nat} {a b c d : Nat} (A : Apart4 l a b c d) {st : List Nat} (hs : st.length = 4) (v : Nat) : (put4 l a b c d st).set b v = put4 l a b c d (st.set 1 v) := by
  refine nat_ext (by simp [put4_len]) fun j _ => ?_
  have := A.ab; have := A.bc; have := A.bd
  rw [nat_set (by rw [put4_len]; exact A.hb), nat_put4 A, nat_put4 A, nat_set (by omega), nat_set (by omega), nat_set (by omega), nat_set (by omega)]
  repeat' split
  all_goals first | rfl | omega
theorem put4_set2 {l : List Nat} {a b c d : Nat} (A : Apart4 l a b c d) {st : List Nat} (hs : st.length = 4) (v : Nat) : (put4 l a b c d st).set c v = put4 l a b c d (st.set 2 v) := by
  refine nat_ext (by simp [put4_len]) fun j _ => ?_
  have := A.bc; have := A.ac; have := A.cd
  rw [nat_set (by rw [put4_len]; exact A.hc), nat_put4 A, nat_put4 A, nat_set (by omega), nat_set (by omega), nat_set (by omega), nat_set (by omega)]
  repeat' split
  all_goals first | rfl | omega
theorem put4_set3 {l : List Nat} {a b c d : Nat} (A : Apart4 l a b c d) {st : List Nat} (hs : st.length = 4) (v : Nat) : (put4 l a b c d st).set d v = put4 l a b c d (st.set 3 v) := by
  refine nat_ext (by simp [put4_len]) fun j _ => ?_
  have := A.bd; have := A.cd; have := A.ad
  rw [nat_set (by rw [put4_len]; exact A.hd), nat_put4 A, nat_put4 A, nat_set (by omega), nat_set (by omega), nat_set (by omega), nat_set (by omega)]
  repeat' split
  all_goals first | rfl | omega
theorem put4_self {l : List Nat} {a b c d : Nat} (A : Apart4 l a b c d) : put4 l a b c d [nat_ l a, nat_ l b, nat_ l c, nat_ l d] = l := by
  refine nat_ext (put4_len ..) fun j _ => ?_
  rw [nat_put4 A]
  repeat' split
  all_goals first | rfl | (subst_vars; rfl)
/-- A mixing in a row is the mixing of the four words beside it, laid back. -/
theorem mixG_put {l : List Nat} {a b c d : Nat} (A : Apart4 l a b c d) (x y : Nat) : mixG l a b c d x y = put4 l a b c d (mix4 (nat_ l a) (nat_ l b) (nat_ l c) (nat_ l d) x y) := by
  have h0 := put4_self A
  have hs : [nat_ l a, nat_ l b, nat_ l c, nat_ l d].length = 4 := rfl
  unfold mix4
  generalize [nat_ l a, nat_ l b, nat_ l c, nat_ l d] = st at h0 hs ⊢
  have e : mixG l a b c d x y = mixG (put4 l a b c d st) a b c d x y := by rw [h0]
  rw [e]
  clear e h0
  have g01 : ∀ (st : List Nat) (x : Nat), st.length = 4 → gA (put4 l a b c d st) a b x = put4 l a b c d (gA st 0 1 x) := fun st x hs => by unfold gA; rw [put4_0 A, put4_1 A, put4_set0 A hs]
  have g23 : ∀ (st : List Nat) (x : Nat), st.length = 4 → gA (put4 l a b c d st) c d x = put4 l a b c d (gA st 2 3 x) := fun st x hs => by unfold gA; rw [put4_2 A, put4_3 A, put4_set2 A hs]
  have x30 : ∀ (st : List Nat) (k : Nat), st.length = 4 → gX (put4 l a b c d st) d a k = put4 l a b c d (gX st 3 0 k) := fun st k hs => by unfold gX; rw [put4_0 A, put4_3 A, put4_set3 A hs]
  have x12 : ∀ (st : List Nat) (k : Nat), st.length = 4 → gX (put4 l a b c d st) b c k = put4 l a b c d (gX st 1 2 k) := fun st k hs => by unfold gX; rw [put4_1 A, put4_2 A, put4_set1 A hs]
  unfold mixG
  rw [g01 st x hs, x30 _ _ (by simp only [gA_len, hs]), g23 _ _ (by simp only [gA_len, gX_len, hs]), x12 _ _ (by simp only [gA_len, gX_len, hs]),
    g01 _ _ (by simp only [gA_len, gX_len, hs]), x30 _ _ (by simp only [gA_len, gX_len, hs]), g23 _ _ (by simp only [gA_len, gX_len, hs]), x12 _ _ (by simp only [gA_len, gX_len, hs])]
theorem col_apart {i : Nat} (hi : i < 8) {l : List Nat} (hl : l.length = 16) : Apart4 l (col i 0) (col i 1) (col i 2) (col i 3) := by
  have h : ∀ i : Fin 8, col i.val 0 ≠ col i.val 1 ∧ col i.val 0 ≠ col i.val 2 ∧ col i.val 0 ≠ col i.val 3 ∧ col i.val 1 ≠ col i.val 2 ∧ col i.val 1 ≠ col i.val 3 ∧ col i.val 2 ≠ col i.val 3 := by decide +kernel
  obtain ⟨h1, h2, h3, h4, h5, h6⟩ := h ⟨i, hi⟩
  have := col_lt i 0; have := col_lt i 1; have := col_lt i 2; have := col_lt i 3
  exact ⟨by omega, by omega, by omega, by omega, h1, h2, h3, h4, h5, h6⟩

/-! The orders as numbers -/
def ordsN : List Nat := [81985529216486895, 16881918945140062035, 13312731748010193300, 8733003861693448440, 10400822202260547645, 3200383143768358425, 14204332651957162635, 15816291393287259690, 8064173457993569445, 11710614767857974480]
theorem ordN_lt (r : Nat) : nat_ ordsN r < 18446744073709551616 := by
  by_cases h : r < 10
  · have H : ∀ r : Fin 10, nat_ ordsN r.val < 18446744073709551616 := by decide +kernel
    exact H ⟨r, h⟩
  · unfold nat_
    rw [List.getD_eq_getElem?_getD, List.getElem?_eq_none (by show 10 ≤ r; omega)]
    show 0 < 18446744073709551616; omega
theorem ordN_digit {r j : Nat} (hr : r < 10) (hj : j < 16) : nat_ ordsN r / 2 ^ (4 * (15 - j)) % 16 = ord r j := by
  have H : ∀ r : Fin 10, ∀ j : Fin 16, nat_ ordsN r.val / 2 ^ (4 * (15 - j.val)) % 16 = ord r.val j.val := by decide +kernel
  exact H ⟨r, hr⟩ ⟨j, hj⟩
theorem or_add {a c t : Nat} (h : a < 256 ^ t) : a ||| c * 256 ^ t = a + c * 256 ^ t := by
  have e : (256 : Nat) ^ t = 2 ^ (8 * t) := by rw [show (256 : Nat) = 2 ^ 8 from rfl, ← Nat.pow_mul]
  rw [e] at h ⊢
  have := Nat.two_pow_add_eq_or_of_lt h c
  rw [Nat.mul_comm c, Nat.or_comm, ← this, Nat.add_comm]
theorem wacc_or {p : List Nat} (h : ∀ i, nat_ p i < 256) {k : Nat} (hk : k < 64) : nat_ (wacc p k) (k / 4) ||| nat_ p k * 256 ^ (k % 4) = nat_ (wacc p k) (k / 4) + nat_ p k * 256 ^ (k % 4) := by
  apply or_add
  rw [wacc_at p k (by omega) (k / 4) (by omega), show min (k - 4 * (k / 4)) 4 = k % 4 by omega]
  exact part_lt h (k / 4) (k % 4)
/-- A row's words in whose place others come, one by one. -/
theorem outs_in (h V : List Nat) (hl : h.length = 8) {k : Nat} (hk : k < 8) : (outs h V k ++ h.drop k).set k (nat_ h k ^^^ (nat_ V k ^^^ nat_ V (k + 8))) = outs h V (k + 1) ++ h.drop (k + 1) := by
  have hlo := outs_len h V k
  have hx : nat_ h k ^^^ (nat_ V k ^^^ nat_ V (k + 8)) = nat_ h k ^^^ nat_ V k ^^^ nat_ V (k + 8) := (Nat.xor_assoc ..).symm
  rw [hx]
  rw [List.set_append, if_neg (by omega), hlo, Nat.sub_self, List.drop_eq_getElem_cons (by omega : k < h.length), List.set_cons_zero]
  show _ = (outs h V k ++ [nat_ h k ^^^ nat_ V k ^^^ nat_ V (k + 8)]) ++ _
  rw [List.append_assoc, List.singleton_append]
theorem outs_nth (h V : List Nat) (k : Nat) : nat_ (outs h V k ++ h.drop k) k = nat_ h k := by
  have hlo := outs_len h V k
  unfold nat_
  rw [List.getD_eq_getElem?_getD, List.getElem?_append_right (by omega), hlo, Nat.sub_self, List.getElem?_drop, Nat.add_zero, ← List.getD_eq_getElem?_getD]
end Go.Proofs.YteopkdmlcjndcaaDoor.Wirey
