/- The mathematics of layer 4 (blake): words of 32 bits in rows, the mixings, the rounds, a block, the sum of bytes, as chapter 4 has them. Plain numbers and lists; no condition. Contracts of the document's own answers of layer 4 (blake): a word turned, the words with which all begins, the orders, a block's words. The contract of the document's own block of layer 4 (blake): what eight words come to behind sixteen words of a block. Nothing that was there turns. The contract of the document's own sum of bytes of layer 4 (blake). Texts of fewer than 2^40 bytes. Nothing that was there turns. Arrays by value (layer 4, blake): facts on the types, loads and stores of whole arrays. A law of orders (the program's order of evaluation is drawn): a condition on the world may hang on whether one named operation has come up already: what waits for a load by that operation may be taken first though stores come later. For tuple assignments of words of a row ('v[i], v[j] = f(v[i], v[j])', layer 4). No condition. Contracts of layer 4's program (blake): a word turned to the right; four words mixed. Pure: no world turns. No condition. -/
import Derived.Test.YtkiabladmgagdabGreatDoorMemAll
import Derived.Laws.BitsAllLaws
import Derived.Lib.Hide
import Derived.RegionTactic
import Derived.Deep.RegionWith
import Derived.Deep.DeepCutAuto
import Derived.Maps.AppendAt
import Derived.OwnWalk
import Derived.StillTailTactics
import Derived.Deep.QuietTactic
import Derived.BigQuiet
import Derived.Lib.BufferWrite
import Derived.Laws.IdiomStrings
import Derived.Laws.CopyOwn
import Derived.Deep.WholeRow
import Derived.Deep.RegionHeld3
import Derived.Test.YtkiabladmgagdabGreatDoorSq
namespace Go.Proofs.YtkiabladmgagdabGreatDoor.Wirey

def nat_ (l : List Nat) (i : Nat) : Nat := l.getD i 0
def Wd (l : List Nat) : Prop := ∀ x ∈ l, x < 4294967296
theorem nat_lt {l : List Nat} (h : Wd l) (i : Nat) : nat_ l i < 4294967296 := by
 unfold nat_
 by_cases hi : i < l.length
 ·rw [List.getD_eq_getElem?_getD, List.getElem?_eq_getElem hi]; exact h _ (List.getElem_mem hi)
 ·rw [List.getD_eq_getElem?_getD, List.getElem?_eq_none (by omega)]; show 0 < _; omega
theorem Wd.set_ {l : List Nat} (h : Wd l) (i : Nat) {x : Nat} (hx : x < 4294967296) : Wd (l.set i x) := by
 intro y hy
 rcases List.mem_or_eq_of_mem_set hy with hy | rfl
 ·exact h y hy
 ·exact hx
theorem nat_set {l : List Nat} {i j x : Nat} (hi : i < l.length) : nat_ (l.set i x) j = if i = j then x else nat_ l j := by
 unfold nat_
 rw [List.getD_eq_getElem?_getD, List.getElem?_set]
 by_cases e : i = j
 ·rw [if_pos e, if_pos e, if_pos hi]; rfl
 ·rw [if_neg e, if_neg e]; rfl
def rot (n k : Nat) : Nat := n / 2 ^ k ||| n * 2 ^ (32 - k) % 4294967296
theorem rot_lt {n k : Nat} (h : n < 4294967296) : rot n k < 4294967296 := by
 unfold rot
 refine Nat.or_lt_two_pow (n := 32) ?_ ?_
 ·exact Nat.lt_of_le_of_lt (Nat.div_le_self _ _) h
 ·exact Nat.mod_lt _ (by omega)
def gA (l : List Nat) (a b x : Nat) : List Nat := l.set a ((nat_ l a + nat_ l b + x) % 4294967296)
def gX (l : List Nat) (d a k : Nat) : List Nat := l.set d (rot (nat_ l d ^^^ nat_ l a) k)
theorem gA_len (l : List Nat) (a b x : Nat) : (gA l a b x).length = l.length := List.length_set ..
theorem gX_len (l : List Nat) (d a k : Nat) : (gX l d a k).length = l.length := List.length_set ..
theorem gA_wd {l : List Nat} (h : Wd l) (a b x : Nat) : Wd (gA l a b x) := h.set_ a (Nat.mod_lt _ (by omega))
theorem xor_lt {a b : Nat} (ha : a < 4294967296) (hb : b < 4294967296) : a ^^^ b < 4294967296 := Nat.xor_lt_two_pow (n := 32) ha hb
theorem gX_wd {l : List Nat} (h : Wd l) (d a k : Nat) : Wd (gX l d a k) := h.set_ d (rot_lt (xor_lt (nat_lt h d) (nat_lt h a)))
def mixG (l : List Nat) (a b c d x y : Nat) : List Nat :=
 gX (gA (gX (gA (gX (gA (gX (gA l a b x) d a 16) c d 0) b c 12) a b y) d a 8) c d 0) b c 7
theorem mixG_len (l : List Nat) (a b c d x y : Nat) : (mixG l a b c d x y).length = l.length := by
 unfold mixG; simp only [gA_len, gX_len]
theorem mixG_wd {l : List Nat} (h : Wd l) (a b c d x y : Nat) : Wd (mixG l a b c d x y) :=
 gX_wd (gA_wd (gX_wd (gA_wd (gX_wd (gA_wd (gX_wd (gA_wd h _ _ _) _ _ _) _ _ _) _ _ _) _ _ _) _ _ _) _ _ _) _ _ _
def cols : List (List Nat) := [[0, 4, 8, 12], [1, 5, 9, 13], [2, 6, 10, 14], [3, 7, 11, 15], [0, 5, 10, 15], [1, 6, 11, 12], [2, 7, 8, 13], [3, 4, 9, 14]]
def col (i j : Nat) : Nat := nat_ (cols.getD i []) j
theorem col_lt (i j : Nat) : col i j < 16 := by
 unfold col cols nat_
 by_cases hi : i < 8
 ·have h : ∀ i : Fin 8, ∀ j : Fin 4, ((([[0, 4, 8, 12], [1, 5, 9, 13], [2, 6, 10, 14], [3, 7, 11, 15], [0, 5, 10, 15], [1, 6, 11, 12], [2, 7, 8, 13], [3, 4, 9, 14]] : List (List Nat)).getD i.val []).getD j.val 0) < 16 ∧ ((([[0, 4, 8, 12], [1, 5, 9, 13], [2, 6, 10, 14], [3, 7, 11, 15], [0, 5, 10, 15], [1, 6, 11, 12], [2, 7, 8, 13], [3, 4, 9, 14]] : List (List Nat)).getD i.val []).length = 4) := by decide +kernel
  by_cases hj : j < 4
  ·exact (h ⟨i, hi⟩ ⟨j, hj⟩).1
  ·have h4 := (h ⟨i, hi⟩ 0).2
   rw [List.getD_eq_getElem?_getD (i := j), List.getElem?_eq_none (by have : (⟨i, hi⟩ : Fin 8).val = i := rfl; rw [this] at h4; omega)]
   show 0 < 16; omega
 ·rw [List.getD_eq_getElem?_getD (i := i), List.getElem?_eq_none (by show 8 ≤ i; omega)]
  show (0 : Nat) < 16; omega
def orders : List (List Nat) := [[0, 1, 2, 3, 4, 5, 6, 7, 8, 9, 10, 11, 12, 13, 14, 15], [14, 10, 4, 8, 9, 15, 13, 6, 1, 12, 0, 2, 11, 7, 5, 3], [11, 8, 12, 0, 5, 2, 15, 13, 10, 14, 3, 6, 7, 1, 9, 4], [7, 9, 3, 1, 13, 12, 11, 14, 2, 6, 5, 10, 4, 0, 15, 8], [9, 0, 5, 7, 2, 4, 10, 15, 14, 1, 11, 12, 6, 8, 3, 13], [2, 12, 6, 10, 0, 11, 8, 3, 4, 13, 7, 5, 15, 14, 1, 9], [12, 5, 1, 15, 14, 13, 4, 10, 0, 7, 6, 3, 9, 2, 8, 11], [13, 11, 7, 14, 12, 1, 3, 9, 5, 0, 15, 4, 8, 6, 2, 10], [6, 15, 14, 9, 11, 3, 0, 8, 12, 2, 13, 7, 1, 4, 10, 5], [10, 2, 8, 4, 7, 6, 1, 5, 15, 11, 9, 14, 3, 12, 13, 0]]
def ord (r j : Nat) : Nat := nat_ (orders.getD r []) j
theorem ord_lt {r j : Nat} (hr : r < 10) (hj : j < 16) : ord r j < 16 := by
 have h : ∀ r : Fin 10, ∀ j : Fin 16, ord r.val j.val < 16 := by decide +kernel
 exact h ⟨r, hr⟩ ⟨j, hj⟩
def mixes (m st : List Nat) : Nat → List Nat
 | 0 => st
 | n + 1 => mixG (mixes m st n) (col (n % 8) 0) (col (n % 8) 1) (col (n % 8) 2) (col (n % 8) 3) (nat_ m (ord (n / 8) (2 * (n % 8)))) (nat_ m (ord (n / 8) (2 * (n % 8) + 1)))
theorem mixes_len (m st : List Nat) (n : Nat) : (mixes m st n).length = st.length := by
 induction n with
 | zero => rfl
 | succ n ih => show (mixG _ _ _ _ _ _ _).length = _; rw [mixG_len, ih]
theorem mixes_wd (m : List Nat) {st : List Nat} (h : Wd st) (n : Nat) : Wd (mixes m st n) := by
 induction n with
 | zero => exact h
 | succ n ih => exact mixG_wd ih _ _ _ _ _ _
theorem mixes_at (m st : List Nat) {r i : Nat} (hi : i < 8) : mixes m st (8 * r + i + 1) = mixG (mixes m st (8 * r + i)) (col i 0) (col i 1) (col i 2) (col i 3) (nat_ m (ord r (2 * i))) (nat_ m (ord r (2 * i + 1))) := by
 show mixG _ _ _ _ _ _ _ = _
 rw [show (8 * r + i) % 8 = i by omega, show (8 * r + i) / 8 = r by omega]
def ivs : List Nat := [1779033703, 3144134277, 1013904242, 2773480762, 1359893119, 2600822924, 528734635, 1541459225]
theorem ivs_wd : Wd ivs := by
 intro x hx
 have h : ivs.all (fun x => decide (x < 4294967296)) = true := by decide +kernel
 exact of_decide_eq_true (List.all_eq_true.1 h x hx)
def s12 (h : List Nat) (many : Nat) : List Nat := (h ++ ivs).set 12 (nat_ (h ++ ivs) 12 ^^^ many % 4294967296)
def s13 (h : List Nat) (many : Nat) : List Nat := (s12 h many).set 13 (nat_ (s12 h many) 13 ^^^ many / 4294967296)
def s14 (h : List Nat) (many : Nat) (last : Bool) : List Nat := if last then (s13 h many).set 14 (4294967295 - nat_ (s13 h many) 14) else s13 h many
theorem s14_len {h : List Nat} (many : Nat) (last : Bool) (hl : h.length = 8) : (s14 h many last).length = 16 := by
 unfold s14 s13 s12; cases last <;> simp [hl, ivs]
theorem app_wd {h : List Nat} (hw : Wd h) : Wd (h ++ ivs) := by
 intro x hx
 rcases List.mem_append.1 hx with hx | hx
 ·exact hw x hx
 ·exact ivs_wd x hx
theorem s12_wd {h : List Nat} {many : Nat} (hw : Wd h) : Wd (s12 h many) := (app_wd hw).set_ _ (xor_lt (nat_lt (app_wd hw) _) (Nat.mod_lt _ (by omega)))
theorem s13_wd {h : List Nat} {many : Nat} (hw : Wd h) (hm : many < 18446744073709551616) : Wd (s13 h many) := (s12_wd hw).set_ _ (xor_lt (nat_lt (s12_wd hw) _) (by omega))
theorem s14_wd {h : List Nat} {many : Nat} (last : Bool) (hw : Wd h) (hm : many < 18446744073709551616) : Wd (s14 h many last) := by
 unfold s14
 cases last
 ·exact s13_wd hw hm
 ·exact (s13_wd hw hm).set_ _ (by omega)
def outs (h v : List Nat) : Nat → List Nat
 | 0 => []
 | k + 1 => outs h v k ++ [nat_ h k ^^^ nat_ v k ^^^ nat_ v (k + 8)]
theorem outs_len (h v : List Nat) (k : Nat) : (outs h v k).length = k := by
 induction k with
 | zero => rfl
 | succ k ih => show (_ ++ [_]).length = _; rw [List.length_append, ih]; rfl
theorem outs_wd {h v : List Nat} (hh : Wd h) (hv : Wd v) (k : Nat) : Wd (outs h v k) := by
 induction k with
 | zero => intro x hx; cases hx
 | succ k ih =>
  intro x hx
  rcases List.mem_append.1 hx with hx | hx
  ·exact ih x hx
  ·obtain rfl := List.mem_singleton.1 hx
   exact xor_lt (xor_lt (nat_lt hh _) (nat_lt hv _)) (nat_lt hv _)
def blk (h m : List Nat) (many : Nat) (last : Bool) : List Nat := outs h (mixes m (s14 h many last) 80) 8
theorem blk_len (h m : List Nat) (many : Nat) (last : Bool) : (blk h m many last).length = 8 := outs_len ..
theorem blk_wd {h : List Nat} (m : List Nat) {many : Nat} (last : Bool) (hh : Wd h) (hm : many < 18446744073709551616) : Wd (blk h m many last) := outs_wd hh (mixes_wd m (s14_wd last hh hm) 80) 8

def nums (l : List UInt8) : List Nat := l.map UInt8.toNat
theorem nums_len (l : List UInt8) : (nums l).length = l.length := List.length_map ..
theorem nums_lt (l : List UInt8) (i : Nat) : nat_ (nums l) i < 256 := by
 unfold nat_ nums
 by_cases hi : i < l.length
 ·rw [List.getD_eq_getElem?_getD, List.getElem?_map, List.getElem?_eq_getElem hi]; exact l[i].toNat_lt
 ·rw [List.getD_eq_getElem?_getD, List.getElem?_eq_none (by simpa using hi)]; show 0 < 256; omega
def word (p : List Nat) (j : Nat) : Nat := nat_ p (4 * j) + nat_ p (4 * j + 1) * 256 + nat_ p (4 * j + 2) * 65536 + nat_ p (4 * j + 3) * 16777216
def wds (p : List Nat) : List Nat := (List.range 16).map (word p)
theorem wds_len (p : List Nat) : (wds p).length = 16 := by simp [wds]
theorem wds_at (p : List Nat) {j : Nat} (h : j < 16) : nat_ (wds p) j = word p j := by
 unfold nat_ wds
 rw [List.getD_eq_getElem?_getD, List.getElem?_map, List.getElem?_range h, Option.map_some, Option.getD_some]
def wacc (p : List Nat) : Nat → List Nat
 | 0 => List.replicate 16 0
 | k + 1 => (wacc p k).set (k / 4) (nat_ (wacc p k) (k / 4) + nat_ p k * 256 ^ (k % 4))
theorem wacc_len (p : List Nat) (k : Nat) : (wacc p k).length = 16 := by
 induction k with
 | zero => rfl
 | succ k ih => show (List.set _ _ _).length = _; rw [List.length_set, ih]
def part (p : List Nat) (j : Nat) : Nat → Nat
 | 0 => 0
 | t + 1 => part p j t + nat_ p (4 * j + t) * 256 ^ t
theorem wacc_at (p : List Nat) (k : Nat) (hk : k ≤ 64) (j : Nat) (hj : j < 16) : nat_ (wacc p k) j = part p j (min (k - 4 * j) 4) := by
 induction k with
 | zero =>
  rw [show min (0 - 4 * j) 4 = 0 by omega]
  unfold nat_ wacc
  rw [List.getD_eq_getElem?_getD, List.getElem?_replicate, if_pos hj]; rfl
 | succ k ih =>
  have ih := ih (by omega)
  show nat_ (List.set _ _ _) j = _
  rw [nat_set (by rw [wacc_len]; omega)]
  by_cases e : k / 4 = j
  ·rw [if_pos e, e, ih, show min (k - 4 * j) 4 = k % 4 by omega, show min (k + 1 - 4 * j) 4 = k % 4 + 1 by omega]
   show _ = part p j (k % 4) + nat_ p (4 * j + k % 4) * 256 ^ (k % 4)
   rw [show 4 * j + k % 4 = k by omega]
  ·rw [if_neg e, ih]
   congr 1
   omega
theorem list_ext16 {a b : List Nat} (ha : a.length = 16) (hb : b.length = 16) (h : ∀ j, j < 16 → nat_ a j = nat_ b j) : a = b := by
 apply List.ext_getElem (by omega)
 intro j h1 h2
 have := h j (by omega)
 unfold nat_ at this
 rw [List.getD_eq_getElem?_getD, List.getD_eq_getElem?_getD, List.getElem?_eq_getElem h1, List.getElem?_eq_getElem h2] at this
 exact this
theorem wacc_all (p : List Nat) : wacc p 64 = wds p := by
 refine list_ext16 (wacc_len p 64) (wds_len p) fun j hj => ?_
 rw [wacc_at p 64 (by omega) j hj, wds_at p hj, show min (64 - 4 * j) 4 = 4 by omega]
 show 0 + nat_ p (4 * j + 0) * 256 ^ 0 + nat_ p (4 * j + 1) * 256 ^ 1 + nat_ p (4 * j + 2) * 256 ^ 2 + nat_ p (4 * j + 3) * 256 ^ 3 = _
 unfold word
 simp
theorem part_lt {p : List Nat} (h : ∀ i, nat_ p i < 256) (j t : Nat) : part p j t < 256 ^ t := by
 induction t with
 | zero => show 0 < 1; omega
 | succ t ih =>
  show part p j t + nat_ p (4 * j + t) * 256 ^ t < 256 ^ (t + 1)
  have h1 : nat_ p (4 * j + t) * 256 ^ t ≤ 255 * 256 ^ t := Nat.mul_le_mul_right _ (by have := h (4 * j + t); omega)
  rw [Nat.pow_succ]
  omega
theorem wacc_step {p : List Nat} (h : ∀ i, nat_ p i < 256) {k : Nat} (hk : k < 64) : nat_ (wacc p k) (k / 4) + nat_ p k * 256 ^ (k % 4) < 4294967296 := by
 rw [wacc_at p k (by omega) (k / 4) (by omega), show min (k - 4 * (k / 4)) 4 = k % 4 by omega]
 have h1 := part_lt h (k / 4) (k % 4 + 1)
 have h2 : part p (k / 4) (k % 4 + 1) = part p (k / 4) (k % 4) + nat_ p k * 256 ^ (k % 4) := by
  show part p (k / 4) (k % 4) + nat_ p (4 * (k / 4) + k % 4) * 256 ^ (k % 4) = _
  rw [show 4 * (k / 4) + k % 4 = k by omega]
 have h3 : 256 ^ (k % 4 + 1) ≤ 256 ^ 4 := Nat.pow_le_pow_right (by omega) (by omega)
 have e : (256 : Nat) ^ 4 = 4294967296 := by decide
 omega

def h0s : List Nat := [1795745351, 3144134277, 1013904242, 2773480762, 1359893119, 2600822924, 528734635, 1541459225]
theorem h0s_eq : ivs.set 0 (nat_ ivs 0 ^^^ 16842784) = h0s := by decide +kernel
theorem h0s_wd : Wd h0s := by
 intro x hx
 have h : h0s.all (fun x => decide (x < 4294967296)) = true := by decide +kernel
 exact of_decide_eq_true (List.all_eq_true.1 h x hx)
def pad (l : List UInt8) : List UInt8 := l ++ List.replicate (64 - l.length) 0
theorem pad_len {l : List UInt8} (h : l.length ≤ 64) : (pad l).length = 64 := by unfold pad; rw [List.length_append, List.length_replicate]; omega
def sumH (h : List Nat) (l : List UInt8) (n : Nat) : List Nat :=
 if 64 < l.length then sumH (blk h (wds (nums (l.take 64))) (n + 64) false) (l.drop 64) (n + 64)
 else blk h (wds (nums (pad l))) (n + l.length) true
termination_by l.length
decreasing_by rw [List.length_drop]; omega
theorem sumH_more {h : List Nat} {l : List UInt8} {n : Nat} (hl : 64 < l.length) : sumH h l n = sumH (blk h (wds (nums (l.take 64))) (n + 64) false) (l.drop 64) (n + 64) := by
 rw [sumH, if_pos hl]
theorem sumH_last {h : List Nat} {l : List UInt8} {n : Nat} (hl : ¬ 64 < l.length) : sumH h l n = blk h (wds (nums (pad l))) (n + l.length) true := by
 rw [sumH, if_neg hl]
def bts (h : List Nat) : Nat → List UInt8
 | 0 => []
 | k + 1 => bts h k ++ [UInt8.ofNat (nat_ h (k / 4) / 256 ^ (k % 4))]
theorem bts_len (h : List Nat) (k : Nat) : (bts h k).length = k := by
 induction k with
 | zero => rfl
 | succ k ih => show (_ ++ [_]).length = _; rw [List.length_append, ih]; rfl
def sumL (l : List UInt8) : List UInt8 := bts (sumH h0s l 0) 32
end Go.Proofs.YtkiabladmgagdabGreatDoor.Wirey
namespace Go.Proofs.YtkiabladmgagdabGreatDoor.Wirey
open Go.ChangeShapes Go.WideShapes Go.ChangeAt Go.RowKit

def u32s (l : List Nat) : List Value := l.map fun (n : Nat) => Value.int .u32 (n : Int)
theorem u32s_len (l : List Nat) : (u32s l).length = l.length := by simp [u32s]
theorem u32s_at {l : List Nat} {i : Nat} (h : i < l.length) : (u32s l)[i]? = some (.int .u32 (nat_ l i : Int)) := by
 unfold u32s nat_
 rw [List.getElem?_map, List.getElem?_eq_getElem h, List.getD_eq_getElem?_getD, List.getElem?_eq_getElem h]; rfl
theorem u32s_set (l : List Nat) (i x : Nat) : (u32s l).set i (.int .u32 (x : Int)) = u32s (l.set i x) := by
 unfold u32s; rw [List.map_set]
theorem Row.word {w : World} {g : Nat} {l : List Nat} (h : Row w g (u32s l)) {i : Nat} (hi : i < l.length) : w.cell? ⟨g, i, none⟩ = some (.int .u32 (nat_ l i : Int)) := h.cell i _ (u32s_at hi)
theorem Row.wfree {w : World} {g : Nat} {l : List Nat} (h : Row w g (u32s l)) {i : Nat} (hi : i < l.length) : w.frozen? ⟨g, i, none⟩ = false := h.free i (by rw [u32s_len]; exact hi)
def u8s (l : List UInt8) : List Value := l.map fun (c : UInt8) => Value.int .u8 (c.toNat : Int)
theorem u8s_len (l : List UInt8) : (u8s l).length = l.length := by simp [u8s]
theorem u8s_at {l : List UInt8} {i : Nat} (h : i < l.length) : (u8s l)[i]? = some (.int .u8 (nat_ (nums l) i : Int)) := by
 unfold u8s nat_ nums
 rw [List.getElem?_map, List.getElem?_eq_getElem h, List.getD_eq_getElem?_getD, List.getElem?_map, List.getElem?_eq_getElem h]; rfl

end Go.Proofs.YtkiabladmgagdabGreatDoor.Wirey
namespace Go.Proofs.YtkiabladmgagdabGreatDoor.Wirey
open Go.ChangeShapes Go.WideShapes Go.ChangeAt Go.RowKit

theorem u32s_one (l : List Nat) : ∀ u ∈ u32s l, u.oneCell' = true := by
 intro u hu
 obtain ⟨n, _, rfl⟩ := List.mem_map.1 hu
 rfl
theorem Row.adds {w : World} {g : Nat} {vs : List Value} (h : Row w g vs) : ∀ j u, vs[j]? = some u → w.cell? ((⟨g, 0, none⟩ : Addr).add j) = some u := by
 intro j u hu
 have e : (⟨g, 0, none⟩ : Addr).add j = ⟨g, j, none⟩ := by unfold Addr.add; by_cases h : j = 0 <;> simp [h]
 rw [e]; exact h.cell j u hu
def i64s (l : List Nat) : List Value := l.map fun (n : Nat) => Value.int .i64 n
theorem cols_at {i j : Nat} (hi : i < 8) (hj : j < 4) : (i64s (cols.getD i []))[j]? = some (.int .i64 (col i j : Int)) := by
 have h : ∀ i : Fin 8, ∀ j : Fin 4, (i64s (cols.getD i.val []))[j.val]? = some (.int .i64 (col i.val j.val : Int)) := by
  intro i j
  have hl : ∀ i : Fin 8, (cols.getD i.val []).length = 4 := by decide +kernel
  have := hl i
  unfold i64s col nat_
  rw [List.getElem?_map, List.getElem?_eq_getElem (by omega), List.getD_eq_getElem?_getD (i := j.val), List.getElem?_eq_getElem (by omega)]
  rfl
 exact h ⟨i, hi⟩ ⟨j, hj⟩
end Go.Proofs.YtkiabladmgagdabGreatDoor.Wirey
namespace Go.Proofs.YtkiabladmgagdabGreatDoor.Wirey
open Go.ChangeShapes Go.WideShapes Go.ChangeAt Go.RowKit

theorem str_cut (l : List UInt8) (n k : Nat) : (str l).extract n (n + k) = str ((l.drop n).take k) := by
 apply ByteArray.ext
 simp [str, ByteArray.data_extract]
theorem str_slice {l : List UInt8} {a b : Nat} (h1 : a ≤ b) (h2 : b ≤ l.length) (i j : Int) (hi : i = (a : Int)) (hj : j = (b : Int)) (w : World) :
  (Instr.slice 9 (.string (str l)) (some (.int .i64 i)) (some (.int .i64 j)) none).run Tryz.prog w = .ok (.string ((str l).extract a b)) w := by
 subst hi hj
 have := str_size l
 rw [run_slice_string (P := Tryz.prog) (w := w) 9 (str l) .i64 .i64 (a : Int) (b : Int) Tryz.underlying9 (by omega) (by omega) (by omega)]
 simp
def noughts (n : Nat) : Array Value := (u8s (List.replicate n 0)).toArray
theorem noughts_list (n : Nat) : (noughts n).toList = List.replicate n (.int .u8 0) := by unfold noughts u8s; rw [List.map_replicate]; rfl
theorem u8_size : (Tryz.prog.info? 5).map (·.size) = some 1 := by kernel_rfl
theorem u8s_set (l : List UInt8) (i : Nat) (x : Nat) (hx : x < 256) : (u8s l).set i (.int .u8 (x : Int)) = u8s (l.set i (UInt8.ofNat x)) := by
 unfold u8s
 rw [List.map_set, UInt8.toNat_ofNat', Nat.mod_eq_of_lt hx]
theorem bts_set (h : List Nat) {k : Nat} (hk : k < 32) : (bts h k ++ List.replicate (32 - k) 0).set k (UInt8.ofNat (nat_ h (k / 4) / 256 ^ (k % 4) % 256)) = bts h (k + 1) ++ List.replicate (32 - (k + 1)) 0 := by
 obtain ⟨j, hj⟩ : ∃ j, 32 - k = j + 1 := ⟨31 - k, by omega⟩
 have hj2 : 32 - (k + 1) = j := by omega
 have hl := bts_len h k
 have e : UInt8.ofNat (nat_ h (k / 4) / 256 ^ (k % 4) % 256) = UInt8.ofNat (nat_ h (k / 4) / 256 ^ (k % 4)) := by
  apply UInt8.toNat_inj.1
  rw [UInt8.toNat_ofNat', UInt8.toNat_ofNat']; omega
 rw [hj, hj2, List.set_append, if_neg (by omega), hl, Nat.sub_self, List.replicate_succ, e]
 show _ = (bts h k ++ [_]) ++ _
 simp
theorem shr_byte (x t : Nat) : ((x : Int) / 2 ^ (t * 8)) % 256 = ((x / 256 ^ t % 256 : Nat) : Int) := by
 rw [show (256 : Nat) ^ t = 2 ^ (t * 8) by rw [show (256 : Nat) = 2 ^ 8 from rfl, ← Nat.pow_mul, Nat.mul_comm]]
 simp
def SumEnd (l : List UInt8) (w : World) (e : Ending) (w' : World) : Prop := e = .returned (.string (str (sumL l))) ∧ Below w.heap.size w w'

end Go.Proofs.YtkiabladmgagdabGreatDoor.Wirey
namespace Go.Proofs.YtkiabladmgagdabGreatDoor.Wirey
open Go.ChangeShapes Go.WideShapes Go.ChangeAt Go.RowKit

theorem Row.blk {w : World} {g : Nat} {t : TypeId} {vs : List Value} (h : Blk w g t vs.toArray) : Row w g vs := Row.of_blk h
theorem below_new2 (w : World) (o1 o2 : Obj) : Below w.heap.size w ((w.alloc o1).alloc o2) := ((Below.refl _ _).alloc (Nat.le_refl _) _).alloc (by simp) _
set_option maxHeartbeats 4000000 in
set_option maxRecDepth 100000 in
theorem bytesOf_c (h : List Nat) (hl : h.length = 8) (w : World) :
  Calls Tryz.prog 64 #[.agg (u32s h).toArray] w fun e w' => e = .returned (.string (str (bts h 32))) ∧ Below w.heap.size w w' := by
 go_enter Tryz.func64, Tryz.ntmps64
 go_upto_region 3 with fail
 have hA : Row ((w.alloc (.cells (u32s h).toArray 128)).alloc (.cells (noughts 32) 165)) w.heap.size (u32s h) := (Row.blk (Blk.new w 128 (u32s h).toArray)).alloc _
 have hB : Row ((w.alloc (.cells (u32s h).toArray 128)).alloc (.cells (noughts 32) 165)) (w.heap.size + 1) (u8s (List.replicate 32 0)) := by
  have := Row.of_blk (Blk.new (w.alloc (.cells (u32s h).toArray 128)) 165 (noughts 32))
  rw [World.size_alloc] at this
  exact this
 have hW := below_new2 w (.cells (u32s h).toArray 128) (.cells (noughts 32) 165)
 change Code.wp _ _ _ _ ((w.alloc (.cells (u32s h).toArray 128)).alloc (.cells (noughts 32) 165))
 generalize (w.alloc (.cells (u32s h).toArray 128)).alloc (.cells (noughts 32) 165) = w1 at hA hB hW ⊢
 go_loopw [6] (fun iv wr => ∃ i : Nat, i ≤ 8 ∧ iv = .int .i64 i ∧ Row wr w.heap.size (u32s h) ∧ Row wr (w.heap.size + 1) (u8s (bts h (i * 4) ++ List.replicate (32 - i * 4) 0)) ∧ Below w.heap.size w wr) (fun iv _ => 8 - (intOf iv).toNat)
 case atStart => exact ⟨0, by omega, rfl, hA, hB, hW⟩
 case round =>
  clear hA hB hW
  obtain ⟨i, hi, rfl, hA, hB, hW⟩ := hrel
  by_cases hilt : i < 8
  ·have hrd : decide ((i : Int) < 8) = true := by rw [decide_eq_true_eq]; omega
   go_wp2_with fail
   go_loopw [9] (fun jv wr => ∃ j : Nat, j ≤ 4 ∧ jv = .int .i64 j ∧ Row wr w.heap.size (u32s h) ∧ Row wr (w.heap.size + 1) (u8s (bts h (i * 4 + j) ++ List.replicate (32 - (i * 4 + j)) 0)) ∧ Below w.heap.size w wr) (fun jv _ => 4 - (intOf jv).toNat)
   case atStart => exact ⟨0, by omega, rfl, hA, hB, hW⟩
   case round =>
    clear hA hB hW
    obtain ⟨j, hj, rfl, h1, h2, h3⟩ := hrel
    by_cases hjlt : j < 4
    ·have c1 := h1.word (i := i) (by omega)
     have hlb : (bts h (i * 4 + j) ++ List.replicate (32 - (i * 4 + j)) (0 : UInt8)).length = 32 := by rw [List.length_append, bts_len, List.length_replicate]; omega
     have c2 := h2.cell (i * 4 + j) _ (u8s_at (by omega))
     have f2 := h2.free (i * 4 + j) (by rw [u8s_len]; omega)
     have ec : (nat_ h i : Int) / 2 ^ (8 * j) % 256 = ((nat_ h i / 256 ^ j % 256 : Nat) : Int) := by rw [Nat.mul_comm]; exact shr_byte _ _
     have hput := h2.put (i := i * 4 + j) (by rw [u8s_len]; omega) (.int .u8 ((nat_ h i / 256 ^ j % 256 : Nat) : Int))
     have hset := bts_set h (k := i * 4 + j) (by omega)
     rw [show (i * 4 + j) / 4 = i by omega, show (i * 4 + j) % 4 = j by omega] at hset
     rw [u8s_set _ _ _ (Nat.mod_lt _ (by omega)), hset] at hput
     have hfar := h1.far (p := ⟨w.heap.size + 1, i * 4 + j, none⟩) (by show w.heap.size ≠ w.heap.size + 1; omega) (.int .u8 ((nat_ h i / 256 ^ j % 256 : Nat) : Int))
     have hbel := h3.setCell (p := ⟨w.heap.size + 1, i * 4 + j, none⟩) (by show w.heap.size ≤ w.heap.size + 1; omega) (.int .u8 ((nat_ h i / 256 ^ j % 256 : Nat) : Int))
     rw [← ec] at hput hfar hbel
     have HP := Lib.hid hput
     have H1 := Lib.hid hfar
     have H3 := Lib.hid hbel
     clear hput hfar hbel h1 h2 h3 ec hset
     go_wp2_with fail
     go_roundw
     case rel => exact ⟨j + 1, by omega, by go_num, H1.out, HP.out, H3.out⟩
     case measure => simp [intOf]; omega
    ·obtain rfl : j = 4 := by omega
     rw [show i * 4 + 4 = (i + 1) * 4 by omega] at h2
     go_wp2_with fail
     go_roundw
     case rel => first | exact ⟨i + 1, by omega, by go_num, h1, h2, h3⟩ | ((repeat apply Exists.intro); refine ⟨⟨i + 1, by omega, ?_, h1, h2, h3⟩, rfl⟩; go_num)
     case measure => simp [intOf]; omega
  ·obtain rfl : i = 8 := by omega
   have hlb : (bts h 32).length = 32 := bts_len h 32
   have hcv : ∀ cap, (convert 96 9 (.slice (some ⟨w.heap.size + 1, 0, none⟩) 32 cap)).run Tryz.prog wr = .ok (.string (str (bts h 32))) wr := by
    intro cap
    have h := run_convert_bytes_back wr 96 9 5 ⟨w.heap.size + 1, 0, none⟩ cap (bts h 32) Tryz.underlying96 Tryz.underlying5 Tryz.underlying9 (fun j hj => by
      refine (hB.adds j _ ?_)
      unfold u8s
      rw [List.getElem?_map, List.getElem?_append_left hj, List.getElem?_eq_getElem hj]
      rfl)
    rw [hlb] at h
    exact h
   have H3 := Lib.hid hW
   clear hA hB hW hlb
   go_wp2_with fail
   go_ret
   exact ⟨rfl, H3.out⟩
end Go.Proofs.YtkiabladmgagdabGreatDoor.Wirey
namespace Go.Proofs.YtkiabladmgagdabGreatDoor.Wirey
open Go.ChangeShapes Go.WideShapes Go.ChangeAt Go.RowKit

section
variable {P : Program} {ops : Array Oper} {Q : Exit → Act → World → Prop} {md : Region.Mode}
def wpAnyK (P : Program) (md : Region.Mode) (ops : Array Oper) (Q : Exit → Act → World → Prop) (C V : World → Prop) (k : Nat) : Nat → Array Bool → Act → World → Prop
 | 0, li, a, w => Region.ready md ops li = [] ∧ Q .normal a w
 | n + 1, li, a, w => (Region.ready md ops li = [] → Q .normal a w) ∧ ∀ i ∈ Region.ready md ops li,
   wpOp P ops Q i (fun b u => (C u ∧ ((li.setIfInBounds i true).getD k false = false → V u)) ∧ wpAnyK P md ops Q C V k n (li.setIfInBounds i true) b u) a w
variable {C V : World → Prop} {k : Nat}
theorem wpAny_of_K : ∀ (n : Nat) (li : Array Bool) (a : Act) (w : World), wpAnyK P md ops Q C V k n li a w → wpAny P md ops Q n li a w := by
 intro n
 induction n with
 | zero => exact fun _ _ _ h => h
 | succ n ih => exact fun _ _ _ h => ⟨h.1, fun i hi => wpOp_mono (fun _ _ hh => ih _ _ _ hh.2) (h.2 i hi)⟩
theorem wpAnyK_first {ok : Array Bool → Prop} {T : World → Prop} {i : Nat} {oi : Oper} {v : Value} (hi : ops[i]? = some oi) (hs : Region.noSelect ops = true) (hik : i ≠ k)
  (hQ : ∀ c a w, Q (.panic c) (a.put oi.dst v) w → Q (.panic c) a w)
  (hT : ∀ li w, ok li → C w → (li.getD k false = false → V w) → T w)
  (hok : ∀ li j oj, ok li → ops[j]? = some oj → (∀ e ∈ oj.after, Region.binds md e = true → e.on ≠ i) → ok (li.setIfInBounds j true)) :
  ∀ (n : Nat) (li : Array Bool) (a : Act) (w : World), Region.free md ops li i = true ∨ (∀ j oj, ops[j]? = some oj → j ≠ i → li.getD j true = false → (∀ e ∈ oj.after, Region.binds md e = true → e.on ≠ i) → oi.apart ops oj = true) →
   i ∈ Region.ready md ops li → ok li → YieldsIf P ops T oi v a → C w → (li.getD k false = false → V w) →
   wpAnyK P md ops Q C V k n (li.setIfInBounds i true) (a.put oi.dst v) w → wpAnyK P md ops Q C V k (n + 1) li a w := by
 have hsel := Region.noSelect_spec hs
 have hkk : ∀ li : Array Bool, (li.setIfInBounds i true).getD k false = li.getD k false := fun li => getD_set_ne false hik
 intro n
 induction n with
 | zero =>
  intro li a w _ hr hk hy hC hV H
  refine ⟨fun h0 => ?_, fun j hj => ?_⟩
  ·rw [h0] at hr; cases hr
  ·by_cases hji : j = i
   ·subst hji
    exact hy.wpOp hi (hT li w hk hC hV) ⟨⟨hC, fun hh => hV (by rwa [hkk] at hh)⟩, H⟩
   ·have hm := ready_mono hj hji
    rw [H.1] at hm; cases hm
 | succ n ih =>
  intro li a w hfr hr hk hy hC hV H
  have hfree : ∀ j oj, ops[j]? = some oj → j ≠ i → li.getD j true = false → (∀ e ∈ oj.after, Region.binds md e = true → e.on ≠ i) → oi.apart ops oj = true := hfr.elim (Region.free_spec hi) id
  refine ⟨fun h0 => ?_, fun j hj => ?_⟩
  ·rw [h0] at hr; cases hr
  ·by_cases hji : j = i
   ·subst hji
    exact hy.wpOp hi (hT li w hk hC hV) ⟨⟨hC, fun hh => hV (by rwa [hkk] at hh)⟩, H⟩
   ·obtain ⟨hun, oj, hoj, hall⟩ := mem_ready.1 hj
    have hi0 : li.getD i true = false := (mem_ready.1 hr).1
    have hwait : ∀ e ∈ oj.after, Region.binds md e = true → e.on ≠ i := by
     intro e he hb hei
     have h1 := hall e he hb
     rw [hei] at h1
     have hlt : i < li.size := by
      rcases Nat.lt_or_ge i li.size with h | h
      ·exact h
      ·simp [Array.getElem?_eq_none h] at h1
     simp [hlt] at hi0 h1
     rw [hi0] at h1; cases h1
    have step := wpOp_putIf hoj (hfree j oj hoj hji hun hwait) (fun cs b => hsel i oi cs b hi) (fun cs b => hsel j oj cs b hoj) hQ hy (H.2 j (ready_mono hj hji))
    refine wpOp_mono (fun b u hh => ?_) step
    obtain ⟨hy2, ⟨hC2, hV2⟩, H2⟩ := hh
    have hc : (li.setIfInBounds i true).setIfInBounds j true = (li.setIfInBounds j true).setIfInBounds i true := Array.setIfInBounds_comm _ _ (Ne.symm hji)
    rw [hc] at hV2 H2
    rw [hkk] at hV2
    refine ⟨⟨hC2, hV2⟩, ih (li.setIfInBounds j true) b u (Or.inr fun m om hom hmi hunm hwm => hfree m om hom hmi ?_ hwm) (ready_mono hr (Ne.symm hji)) (hok li j oj hk hoj hwait) hy2 hC2 hV2 H2⟩
    by_cases hjm : j = m
    ·subst hjm; exact hun
    ·rw [getD_set_ne true hjm] at hunm; exact hunm
theorem wpAnyK_take (i : Nat) (d : Option Tmp) {oi : Oper} {v : Value} {n : Nat} {li : Array Bool} {a : Act} {w : World} (hi : ops[i]? = some oi) (hs : Region.noSelect ops = true) (hf : Region.free md ops li i = true)
  (hr : (Region.ready md ops li).contains i = true) (hik : i ≠ k) (hQ : ∀ c a w, Q (.panic c) (a.put d v) w → Q (.panic c) a w) (hC : C w) (hV : li.getD k false = false → V w)
  (hy : YieldsIf P ops C oi v a) (hd : oi.dst = d) (h : wpAnyK P md ops Q C V k n (li.setIfInBounds i true) (a.put d v) w) : wpAnyK P md ops Q C V k (n + 1) li a w := by
 subst hd
 exact wpAnyK_first (ok := fun _ => True) (T := C) hi hs hik hQ (fun _ _ _ h _ => h) (fun _ _ _ _ _ _ => trivial) n li a w (Or.inl hf) (by simpa using hr) trivial hy hC hV h
theorem wpAnyK_early (i : Nat) (d : Option Tmp) {oi ok : Oper} {v : Value} {n : Nat} {li : Array Bool} {a : Act} {w : World} (hi : ops[i]? = some oi) (hs : Region.noSelect ops = true) (hf : Region.free md ops li i = true)
  (hr : (Region.ready md ops li).contains i = true) (hik : i ≠ k) (hQ : ∀ c a w, Q (.panic c) (a.put d v) w → Q (.panic c) a w) (hC : C w) (hV : V w)
  (hko : ops[k]? = some ok) (hw : ok.after.any (fun e => Region.binds md e && e.on == i) = true) (hk0 : li.getD k false = false)
  (hy : YieldsIf P ops V oi v a) (hd : oi.dst = d) (h : wpAnyK P md ops Q C V k n (li.setIfInBounds i true) (a.put d v) w) : wpAnyK P md ops Q C V k (n + 1) li a w := by
 subst hd
 exact wpAnyK_first (ok := fun li => li.getD k false = false) (T := V) hi hs hik hQ (fun _ _ h0 _ hh => hh h0) (fun li j oj h0 hoj hno => by
   have hjk : j ≠ k := by
     rintro rfl
     obtain rfl : oj = ok := Option.some.inj (hoj.symm.trans hko)
     obtain ⟨e, he, hb⟩ := Array.any_eq_true'.1 hw
     simp only [Bool.and_eq_true, beq_iff_eq] at hb
     exact hno e he hb.1 hb.2
   exact (getD_set_ne false hjk).trans h0) n li a w (Or.inl hf) (by simpa using hr) hk0 hy hC (fun _ => hV) h
theorem wpAnyK_one (i : Nat) {o : Oper} {n : Nat} {li : Array Bool} {a : Act} {w : World} (hr : Region.ready md ops li = [i]) (ho : ops[i]? = some o)
  (h : ∀ K : Act → World → Prop, Shut (∀ b u, C u → ((li.setIfInBounds i true).getD k false = false → V u) → wpAnyK P md ops Q C V k n (li.setIfInBounds i true) b u → K b u) → if Region.wanted o (yielded ops a.tmps) = true then Oper.wp P o a w K Q else K (a.put o.dst undef) w) :
  wpAnyK P md ops Q C V k (n + 1) li a w := by
 refine ⟨fun h0 => ?_, fun j hj => ?_⟩
 ·rw [hr] at h0; cases h0
 ·rw [hr] at hj
  obtain rfl := List.mem_singleton.1 hj
  exact wpOp_step ho fun K hK => h K (fun b u h1 h2 h3 => hK b u ⟨⟨h1, h2⟩, h3⟩)
theorem wpAnyK_late : ∀ (n : Nat) (li : Array Bool) (a : Act) (w : World), li.getD k false = true → wpAnyH P md ops Q C n li a w → wpAnyK P md ops Q C V k n li a w := by
 intro n
 induction n with
 | zero => exact fun _ _ _ _ h => h
 | succ n ih => exact fun li a w hk h => ⟨h.1, fun i hi => wpOp_mono (fun b u hh => ⟨⟨hh.1, fun h0 => (by rw [getD_set_true hk] at h0; cases h0)⟩, ih _ b u (getD_set_true hk) hh.2⟩) (h.2 i hi)⟩
theorem wpAnyH_late (i : Nat) (d : Option Tmp) {oi : Oper} {v : Value} {n : Nat} {li : Array Bool} {a : Act} {w : World} (hi : ops[i]? = some oi) (hs : Region.noSelect ops = true) (hf : Region.free md ops li i = true)
  (hr : (Region.ready md ops li).contains i = true) (hQ : ∀ c a w, Q (.panic c) (a.put d v) w → Q (.panic c) a w) (hC : C w)
  (hy : YieldsIf P ops C oi v a) (hd : oi.dst = d) (h : wpAnyH P md ops Q C n (li.setIfInBounds i true) (a.put d v) w) : wpAnyH P md ops Q C (n + 1) li a w := by
 subst hd
 exact wpAnyH_take hi hs hf hr hQ hy hC h
theorem wpAnyH_one (i : Nat) {o : Oper} {n : Nat} {li : Array Bool} {a : Act} {w : World} (hr : Region.ready md ops li = [i]) (ho : ops[i]? = some o)
  (h : ∀ K : Act → World → Prop, Shut (∀ b u, C u → wpAnyH P md ops Q C n (li.setIfInBounds i true) b u → K b u) → if Region.wanted o (yielded ops a.tmps) = true then Oper.wp P o a w K Q else K (a.put o.dst undef) w) :
  wpAnyH P md ops Q C (n + 1) li a w := by
 refine ⟨fun h0 => ?_, fun j hj => ?_⟩
 ·rw [hr] at h0; cases h0
 ·rw [hr] at hj
  obtain rfl := List.mem_singleton.1 hj
  exact wpOp_step ho fun K hK => h K (fun b u h1 h2 => hK b u ⟨h1, h2⟩)
theorem wpAnyK_done {n : Nat} {li : Array Bool} {a : Act} {w : World} (hr : Region.ready md ops li = []) (h : Q .normal a w) : wpAnyK P md ops Q C V k n li a w := by
 cases n with
 | zero => exact ⟨hr, h⟩
 | succ n => exact ⟨fun _ => h, by rw [hr]; simp⟩
theorem wp_region_K {id : Nat} {a : Act} {w : World} (hm : P.follows .mixedOrders = true) (C V : World → Prop) (k : Nat)
  (h : wpAnyK P .any ops Q C V k ops.size (Array.replicate ops.size false) a { w with drawn := w.drawn + 1 }) : (Code.region id ops true).wp P Q a w :=
 wp_region_any hm (wpAny_of_K _ _ _ _ h)
end
end Go.Proofs.YtkiabladmgagdabGreatDoor.Wirey
namespace Go.Proofs.YtkiabladmgagdabGreatDoor.Wirey
open Go.ChangeShapes Go.WideShapes Go.ChangeAt Go.RowKit

theorem rot_bits2 (n k : Nat) (hn : n < 4294967296) : bits .or .u32 ((n : Int) * 2 ^ (32 - k) % 4294967296) ((n : Int) / 2 ^ k) = (rot n k : Int) := by
 have h := u32_or_nat (n * 2 ^ (32 - k) % 4294967296) (n / 2 ^ k) (Nat.mod_lt _ (by omega)) (Nat.lt_of_le_of_lt (Nat.div_le_self _ _) hn)
 rw [show ((n / 2 ^ k : Nat) : Int) = (n : Int) / 2 ^ k by simp, show ((n * 2 ^ (32 - k) % 4294967296 : Nat) : Int) = (n : Int) * 2 ^ (32 - k) % 4294967296 by simp, Nat.or_comm] at h
 exact h
set_option maxHeartbeats 1000000 in
theorem right16 (n : Nat) (hn : n < 4294967296) (w : World) :
  Calls Tryz.prog 164 #[.int .u32 (n : Int), .int .i64 16] w fun e w' => e = .returned (.int .u32 (rot n 16 : Int)) ∧ w = w' := by
 have h := Lib.hid (rot_bits2 n 16 hn)
 have hb : bits BinOp.and IntKind.u64 (IntKind.u64.wrap (-16)) 31 = 16 := by decide +kernel
 go_enter Tryz.func164, Tryz.ntmps164
 go_wp2
 go_ret
 refine ⟨?_, rfl⟩
 have h2 := h.out
 simp at h2 ⊢
 exact h2
set_option maxHeartbeats 1000000 in
theorem right12 (n : Nat) (hn : n < 4294967296) (w : World) :
  Calls Tryz.prog 164 #[.int .u32 (n : Int), .int .i64 12] w fun e w' => e = .returned (.int .u32 (rot n 12 : Int)) ∧ w = w' := by
 have h := Lib.hid (rot_bits2 n 12 hn)
 have hb : bits BinOp.and IntKind.u64 (IntKind.u64.wrap (-12)) 31 = 20 := by decide +kernel
 go_enter Tryz.func164, Tryz.ntmps164
 go_wp2
 go_ret
 refine ⟨?_, rfl⟩
 have h2 := h.out
 simp at h2 ⊢
 exact h2
set_option maxHeartbeats 1000000 in
theorem right8 (n : Nat) (hn : n < 4294967296) (w : World) :
  Calls Tryz.prog 164 #[.int .u32 (n : Int), .int .i64 8] w fun e w' => e = .returned (.int .u32 (rot n 8 : Int)) ∧ w = w' := by
 have h := Lib.hid (rot_bits2 n 8 hn)
 have hb : bits BinOp.and IntKind.u64 (IntKind.u64.wrap (-8)) 31 = 24 := by decide +kernel
 go_enter Tryz.func164, Tryz.ntmps164
 go_wp2
 go_ret
 refine ⟨?_, rfl⟩
 have h2 := h.out
 simp at h2 ⊢
 exact h2
set_option maxHeartbeats 1000000 in
theorem right7 (n : Nat) (hn : n < 4294967296) (w : World) :
  Calls Tryz.prog 164 #[.int .u32 (n : Int), .int .i64 7] w fun e w' => e = .returned (.int .u32 (rot n 7 : Int)) ∧ w = w' := by
 have h := Lib.hid (rot_bits2 n 7 hn)
 have hb : bits BinOp.and IntKind.u64 (IntKind.u64.wrap (-7)) 31 = 25 := by decide +kernel
 go_enter Tryz.func164, Tryz.ntmps164
 go_wp2
 go_ret
 refine ⟨?_, rfl⟩
 have h2 := h.out
 simp at h2 ⊢
 exact h2

theorem addE2 (a b x : Nat) : ((a : Int) + ((b : Int) + (x : Int)) % 4294967296) % 4294967296 = (((a + b + x) % 4294967296 : Nat) : Int) := by omega
theorem addF2 (a b : Nat) : ((a : Int) + (b : Int)) % 4294967296 = (((a + b + 0) % 4294967296 : Nat) : Int) := by omega
def mix4 (a b c d x y : Nat) : List Nat := mixG [a, b, c, d] 0 1 2 3 x y
def MixEnd (a b c d x y : Nat) (w : World) (e : Ending) (w' : World) : Prop :=
 e = .returned (.tuple #[.int .u32 (nat_ (mix4 a b c d x y) 0 : Int), .int .u32 (nat_ (mix4 a b c d x y) 1 : Int), .int .u32 (nat_ (mix4 a b c d x y) 2 : Int), .int .u32 (nat_ (mix4 a b c d x y) 3 : Int)]) ∧ w = w'
theorem mix4_eq {a b c d x y a1 d1 c1 b1 a2 d2 c2 b2 : Nat} (h1 : a1 = (a + b + x) % 4294967296) (h2 : d1 = rot (d ^^^ a1) 16) (h3 : c1 = (c + d1 + 0) % 4294967296) (h4 : b1 = rot (b ^^^ c1) 12)
  (h5 : a2 = (a1 + b1 + y) % 4294967296) (h6 : d2 = rot (d1 ^^^ a2) 8) (h7 : c2 = (c1 + d2 + 0) % 4294967296) (h8 : b2 = rot (b1 ^^^ c2) 7) : mix4 a b c d x y = [a2, b2, c2, d2] := by
 have e1 : gA [a, b, c, d] 0 1 x = [a1, b, c, d] := by rw [h1]; rfl
 have e2 : gX [a1, b, c, d] 3 0 16 = [a1, b, c, d1] := by rw [h2]; rfl
 have e3 : gA [a1, b, c, d1] 2 3 0 = [a1, b, c1, d1] := by rw [h3]; rfl
 have e4 : gX [a1, b, c1, d1] 1 2 12 = [a1, b1, c1, d1] := by rw [h4]; rfl
 have e5 : gA [a1, b1, c1, d1] 0 1 y = [a2, b1, c1, d1] := by rw [h5]; rfl
 have e6 : gX [a2, b1, c1, d1] 3 0 8 = [a2, b1, c1, d2] := by rw [h6]; rfl
 have e7 : gA [a2, b1, c1, d2] 2 3 0 = [a2, b1, c2, d2] := by rw [h7]; rfl
 have e8 : gX [a2, b1, c2, d2] 1 2 7 = [a2, b2, c2, d2] := by rw [h8]; rfl
 unfold mix4 mixG
 rw [e1, e2, e3, e4, e5, e6, e7, e8]
set_option maxHeartbeats 4000000 in
theorem mixed_c (a b c d x y : Nat) (hb : b < 4294967296) (hd : d < 4294967296) (w : World) :
  Calls Tryz.prog 123 #[.int .u32 (a : Int), .int .u32 (b : Int), .int .u32 (c : Int), .int .u32 (d : Int), .int .u32 (x : Int), .int .u32 (y : Int)] w (MixEnd a b c d x y w) := by
 go_enter Tryz.func123, Tryz.ntmps123
 go_upto_region 2 with fail
 rw [addE2]
 obtain ⟨a1, h1⟩ : ∃ n, Hid (n = (a + b + x) % 4294967296) := ⟨_, Lib.hid rfl⟩
 have ha1 : a1 < 4294967296 := by rw [h1.out]; exact Nat.mod_lt _ (by omega)
 rw [← h1.out]
 have x2 := u32_xor_nat d a1 hd ha1
 go_upto_region 3 with (go_at_call 164; refine (right16 (d ^^^ a1) (xor_lt hd ha1) _).mono ?_; rintro _ _ ⟨rfl, rfl⟩)
 obtain ⟨d1, h2⟩ : ∃ n, Hid (n = rot (d ^^^ a1) 16) := ⟨_, Lib.hid rfl⟩
 have hd1 : d1 < 4294967296 := by rw [h2.out]; exact rot_lt (xor_lt hd ha1)
 rw [← h2.out]
 clear x2
 go_upto_region 4 with fail
 rw [addF2]
 obtain ⟨c1, h3⟩ : ∃ n, Hid (n = (c + d1 + 0) % 4294967296) := ⟨_, Lib.hid rfl⟩
 have hc1 : c1 < 4294967296 := by rw [h3.out]; exact Nat.mod_lt _ (by omega)
 rw [← h3.out]
 have x4 := u32_xor_nat b c1 hb hc1
 go_upto_region 5 with (go_at_call 164; refine (right12 (b ^^^ c1) (xor_lt hb hc1) _).mono ?_; rintro _ _ ⟨rfl, rfl⟩)
 obtain ⟨b1, h4⟩ : ∃ n, Hid (n = rot (b ^^^ c1) 12) := ⟨_, Lib.hid rfl⟩
 have hb1 : b1 < 4294967296 := by rw [h4.out]; exact rot_lt (xor_lt hb hc1)
 rw [← h4.out]
 clear x4
 go_upto_region 6 with fail
 rw [addE2]
 obtain ⟨a2, h5⟩ : ∃ n, Hid (n = (a1 + b1 + y) % 4294967296) := ⟨_, Lib.hid rfl⟩
 have ha2 : a2 < 4294967296 := by rw [h5.out]; exact Nat.mod_lt _ (by omega)
 rw [← h5.out]
 have x6 := u32_xor_nat d1 a2 hd1 ha2
 go_upto_region 7 with (go_at_call 164; refine (right8 (d1 ^^^ a2) (xor_lt hd1 ha2) _).mono ?_; rintro _ _ ⟨rfl, rfl⟩)
 obtain ⟨d2, h6⟩ : ∃ n, Hid (n = rot (d1 ^^^ a2) 8) := ⟨_, Lib.hid rfl⟩
 have hd2 : d2 < 4294967296 := by rw [h6.out]; exact rot_lt (xor_lt hd1 ha2)
 rw [← h6.out]
 clear x6
 go_upto_region 8 with fail
 rw [addF2]
 obtain ⟨c2, h7⟩ : ∃ n, Hid (n = (c1 + d2 + 0) % 4294967296) := ⟨_, Lib.hid rfl⟩
 have hc2 : c2 < 4294967296 := by rw [h7.out]; exact Nat.mod_lt _ (by omega)
 rw [← h7.out]
 have x8 := u32_xor_nat b1 c2 hb1 hc2
 go_upto_region 9 with (go_at_call 164; refine (right7 (b1 ^^^ c2) (xor_lt hb1 hc2) _).mono ?_; rintro _ _ ⟨rfl, rfl⟩)
 obtain ⟨b2, h8⟩ : ∃ n, Hid (n = rot (b1 ^^^ c2) 7) := ⟨_, Lib.hid rfl⟩
 have hb2 : b2 < 4294967296 := by rw [h8.out]; exact rot_lt (xor_lt hb1 hc2)
 rw [← h8.out]
 clear x8
 go_wp2_with fail
 refine bodyPost_ret (v := .tuple #[.int .u32 (a2 : Int), .int .u32 (b2 : Int), .int .u32 (c2 : Int), .int .u32 (d2 : Int)]) (by simp [results, Tryz.results123, go_sem]) rfl ?_
 unfold MixEnd
 rw [mix4_eq h1.out h2.out h3.out h4.out h5.out h6.out h7.out h8.out]
 exact ⟨rfl, rfl⟩
end Go.Proofs.YtkiabladmgagdabGreatDoor.Wirey
