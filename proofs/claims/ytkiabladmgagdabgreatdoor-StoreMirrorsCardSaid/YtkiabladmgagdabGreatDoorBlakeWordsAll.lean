/- More of chapter 4's mathematics (layer 4, blake), for the program's own way of reckoning: four words are mixed beside the row and laid back; an order is one number, its digits taken by shifts; a word is put together by or. No condition. Contracts of layer 4's program (blake): an order as a function that keeps the block. Contract of layer 4's program (blake): a block's words out of at most 64 bytes, by value. No condition. -/
import Derived.Test.YtkiabladmgagdabGreatDoorBlakeMixAll
import Derived.Deep.WholeRow
import Derived.Test.YtkiabladmgagdabGreatDoorSq
namespace Go.Proofs.YtkiabladmgagdabGreatDoor.Wirey
open Go.ChangeShapes Go.WideShapes Go.ChangeAt Go.RowKit

theorem nat_ext {a b : List Nat} (hl : a.length = b.length) (h : ∀ j, j < a.length → nat_ a j = nat_ b j) : a = b := by
 apply List.ext_getElem hl
 intro j h1 h2
 have := h j h1
 unfold nat_ at this
 rw [List.getD_eq_getElem?_getD, List.getD_eq_getElem?_getD, List.getElem?_eq_getElem h1, List.getElem?_eq_getElem h2] at this
 exact this
def put4 (l : List Nat) (a b c d : Nat) (st : List Nat) : List Nat := (((l.set a (nat_ st 0)).set b (nat_ st 1)).set c (nat_ st 2)).set d (nat_ st 3)
theorem put4_len (l : List Nat) (a b c d : Nat) (st : List Nat) : (put4 l a b c d st).length = l.length := by unfold put4; simp
structure Apart4 (l : List Nat) (a b c d : Nat) : Prop where
 ha : a < l.length
 hb : b < l.length
 hc : c < l.length
 hd : d < l.length
 ab : a ≠ b
 ac : a ≠ c
 ad : a ≠ d
 bc : b ≠ c
 bd : b ≠ d
 cd : c ≠ d
theorem nat_put4 {l : List Nat} {a b c d : Nat} (A : Apart4 l a b c d) (st : List Nat) (j : Nat) :
  nat_ (put4 l a b c d st) j = if d = j then nat_ st 3 else if c = j then nat_ st 2 else if b = j then nat_ st 1 else if a = j then nat_ st 0 else nat_ l j := by
 have := A.ha; have := A.hb; have := A.hc; have := A.hd
 unfold put4
 rw [nat_set (by simpa using A.hd), nat_set (by simpa using A.hc), nat_set (by simpa using A.hb), nat_set A.ha]
theorem put4_0 {l : List Nat} {a b c d : Nat} (A : Apart4 l a b c d) (st : List Nat) : nat_ (put4 l a b c d st) a = nat_ st 0 := by
 rw [nat_put4 A, if_neg A.ad.symm, if_neg A.ac.symm, if_neg A.ab.symm, if_pos rfl]
theorem put4_1 {l : List Nat} {a b c d : Nat} (A : Apart4 l a b c d) (st : List Nat) : nat_ (put4 l a b c d st) b = nat_ st 1 := by
 rw [nat_put4 A, if_neg A.bd.symm, if_neg A.bc.symm, if_pos rfl]
theorem put4_2 {l : List Nat} {a b c d : Nat} (A : Apart4 l a b c d) (st : List Nat) : nat_ (put4 l a b c d st) c = nat_ st 2 := by
 rw [nat_put4 A, if_neg A.cd.symm, if_pos rfl]
theorem put4_3 {l : List Nat} {a b c d : Nat} (A : Apart4 l a b c d) (st : List Nat) : nat_ (put4 l a b c d st) d = nat_ st 3 := by
 rw [nat_put4 A, if_pos rfl]
theorem put4_set0 {l : List Nat} {a b c d : Nat} (A : Apart4 l a b c d) {st : List Nat} (hs : st.length = 4) (v : Nat) : (put4 l a b c d st).set a v = put4 l a b c d (st.set 0 v) := by
 refine nat_ext (by simp [put4_len]) fun j _ => ?_
 have := A.ab; have := A.ac; have := A.ad
 rw [nat_set (by rw [put4_len]; exact A.ha), nat_put4 A, nat_put4 A, nat_set (by omega), nat_set (by omega), nat_set (by omega), nat_set (by omega)]
 repeat' split
 all_goals first | rfl | omega
theorem put4_set1 {l : List Nat} {a b c d : Nat} (A : Apart4 l a b c d) {st : List Nat} (hs : st.length = 4) (v : Nat) : (put4 l a b c d st).set b v = put4 l a b c d (st.set 1 v) := by
 refine nat_ext (by simp [put4_len]) fun j _ => ?_
 have := A.ab; have := A.bc; have := A.bd
 rw [nat_set (by rw [put4_len]; exact A.hb), nat_put4 A, nat_put4 A, nat_set (by omega), nat_set (by omega), nat_set (by omega), nat_set (by omega)]
 repeat' split
 all_goals first | rfl | omega
theorem put4_set2 {l : List Nat} {a b c d : Nat} (A : Apart4 l a b c d) {st : List Nat} (hs : st.length = 4) (v : Nat) : (put4 l a b c d st).set c v = put4 l a b c d (st.set 2 v) := by
 refine nat_ext (by simp [put4_len]) fun j _ => ?_
 have := A.bc; have := A.ac; have := A.cd
 rw [nat_set (by rw [put4_len]; exact A.hc), nat_put4 A, nat_put4 A, nat_set (by omega), nat_set (by omega), nat_set (by omega), nat_set (by omega)]
 repeat' split
 all_goals first | rfl | omega
theorem put4_set3 {l : List Nat} {a b c d : Nat} (A : Apart4 l a b c d) {st : List Nat} (hs : st.length = 4) (v : Nat) : (put4 l a b c d st).set d v = put4 l a b c d (st.set 3 v) := by
 refine nat_ext (by simp [put4_len]) fun j _ => ?_
 have := A.bd; have := A.cd; have := A.ad
 rw [nat_set (by rw [put4_len]; exact A.hd), nat_put4 A, nat_put4 A, nat_set (by omega), nat_set (by omega), nat_set (by omega), nat_set (by omega)]
 repeat' split
 all_goals first | rfl | omega
theorem put4_self {l : List Nat} {a b c d : Nat} (A : Apart4 l a b c d) : put4 l a b c d [nat_ l a, nat_ l b, nat_ l c, nat_ l d] = l := by
 refine nat_ext (put4_len ..) fun j _ => ?_
 rw [nat_put4 A]
 repeat' split
 all_goals first | rfl | (subst_vars; rfl)
theorem mixG_put {l : List Nat} {a b c d : Nat} (A : Apart4 l a b c d) (x y : Nat) : mixG l a b c d x y = put4 l a b c d (mix4 (nat_ l a) (nat_ l b) (nat_ l c) (nat_ l d) x y) := by
 have h0 := put4_self A
 have hs : [nat_ l a, nat_ l b, nat_ l c, nat_ l d].length = 4 := rfl
 unfold mix4
 generalize [nat_ l a, nat_ l b, nat_ l c, nat_ l d] = st at h0 hs ⊢
 have e : mixG l a b c d x y = mixG (put4 l a b c d st) a b c d x y := by rw [h0]
 rw [e]
 clear e h0
 have g01 : ∀ (st : List Nat) (x : Nat), st.length = 4 → gA (put4 l a b c d st) a b x = put4 l a b c d (gA st 0 1 x) := fun st x hs => by unfold gA; rw [put4_0 A, put4_1 A, put4_set0 A hs]
 have g23 : ∀ (st : List Nat) (x : Nat), st.length = 4 → gA (put4 l a b c d st) c d x = put4 l a b c d (gA st 2 3 x) := fun st x hs => by unfold gA; rw [put4_2 A, put4_3 A, put4_set2 A hs]
 have x30 : ∀ (st : List Nat) (k : Nat), st.length = 4 → gX (put4 l a b c d st) d a k = put4 l a b c d (gX st 3 0 k) := fun st k hs => by unfold gX; rw [put4_0 A, put4_3 A, put4_set3 A hs]
 have x12 : ∀ (st : List Nat) (k : Nat), st.length = 4 → gX (put4 l a b c d st) b c k = put4 l a b c d (gX st 1 2 k) := fun st k hs => by unfold gX; rw [put4_1 A, put4_2 A, put4_set1 A hs]
 unfold mixG
 rw [g01 st x hs, x30 _ _ (by simp only [gA_len, hs]), g23 _ _ (by simp only [gA_len, gX_len, hs]), x12 _ _ (by simp only [gA_len, gX_len, hs]),
   g01 _ _ (by simp only [gA_len, gX_len, hs]), x30 _ _ (by simp only [gA_len, gX_len, hs]), g23 _ _ (by simp only [gA_len, gX_len, hs]), x12 _ _ (by simp only [gA_len, gX_len, hs])]
theorem col_apart {i : Nat} (hi : i < 8) {l : List Nat} (hl : l.length = 16) : Apart4 l (col i 0) (col i 1) (col i 2) (col i 3) := by
 have h : ∀ i : Fin 8, col i.val 0 ≠ col i.val 1 ∧ col i.val 0 ≠ col i.val 2 ∧ col i.val 0 ≠ col i.val 3 ∧ col i.val 1 ≠ col i.val 2 ∧ col i.val 1 ≠ col i.val 3 ∧ col i.val 2 ≠ col i.val 3 := by decide +kernel
 obtain ⟨h1, h2, h3, h4, h5, h6⟩ := h ⟨i, hi⟩
 have := col_lt i 0; have := col_lt i 1; have := col_lt i 2; have := col_lt i 3
 exact ⟨by omega, by omega, by omega, by omega, h1, h2, h3, h4, h5, h6⟩

def ordsN : List Nat := [81985529216486895, 16881918945140062035, 13312731748010193300, 8733003861693448440, 10400822202260547645, 3200383143768358425, 14204332651957162635, 15816291393287259690, 8064173457993569445, 11710614767857974480]
theorem ordN_lt (r : Nat) : nat_ ordsN r < 18446744073709551616 := by
 by_cases h : r < 10
 ·have H : ∀ r : Fin 10, nat_ ordsN r.val < 18446744073709551616 := by decide +kernel
  exact H ⟨r, h⟩
 ·unfold nat_
  rw [List.getD_eq_getElem?_getD, List.getElem?_eq_none (by show 10 ≤ r; omega)]
  show 0 < 18446744073709551616; omega
theorem ordN_digit {r j : Nat} (hr : r < 10) (hj : j < 16) : nat_ ordsN r / 2 ^ (4 * (15 - j)) % 16 = ord r j := by
 have H : ∀ r : Fin 10, ∀ j : Fin 16, nat_ ordsN r.val / 2 ^ (4 * (15 - j.val)) % 16 = ord r.val j.val := by decide +kernel
 exact H ⟨r, hr⟩ ⟨j, hj⟩
theorem or_add {a c t : Nat} (h : a < 256 ^ t) : a ||| c * 256 ^ t = a + c * 256 ^ t := by
 have e : (256 : Nat) ^ t = 2 ^ (8 * t) := by rw [show (256 : Nat) = 2 ^ 8 from rfl, ← Nat.pow_mul]
 rw [e] at h ⊢
 have := Nat.two_pow_add_eq_or_of_lt h c
 rw [Nat.mul_comm c, Nat.or_comm, ← this, Nat.add_comm]
theorem wacc_or {p : List Nat} (h : ∀ i, nat_ p i < 256) {k : Nat} (hk : k < 64) : nat_ (wacc p k) (k / 4) ||| nat_ p k * 256 ^ (k % 4) = nat_ (wacc p k) (k / 4) + nat_ p k * 256 ^ (k % 4) := by
 apply or_add
 rw [wacc_at p k (by omega) (k / 4) (by omega), show min (k - 4 * (k / 4)) 4 = k % 4 by omega]
 exact part_lt h (k / 4) (k % 4)
theorem outs_in (h V : List Nat) (hl : h.length = 8) {k : Nat} (hk : k < 8) : (outs h V k ++ h.drop k).set k (nat_ h k ^^^ (nat_ V k ^^^ nat_ V (k + 8))) = outs h V (k + 1) ++ h.drop (k + 1) := by
 have hlo := outs_len h V k
 have hx : nat_ h k ^^^ (nat_ V k ^^^ nat_ V (k + 8)) = nat_ h k ^^^ nat_ V k ^^^ nat_ V (k + 8) := (Nat.xor_assoc ..).symm
 rw [hx]
 rw [List.set_append, if_neg (by omega), hlo, Nat.sub_self, List.drop_eq_getElem_cons (by omega : k < h.length), List.set_cons_zero]
 show _ = (outs h V k ++ [nat_ h k ^^^ nat_ V k ^^^ nat_ V (k + 8)]) ++ _
 rw [List.append_assoc, List.singleton_append]
theorem outs_nth (h V : List Nat) (k : Nat) : nat_ (outs h V k ++ h.drop k) k = nat_ h k := by
 have hlo := outs_len h V k
 unfold nat_
 rw [List.getD_eq_getElem?_getD, List.getElem?_append_right (by omega), hlo, Nat.sub_self, List.getElem?_drop, Nat.add_zero, ← List.getD_eq_getElem?_getD]
end Go.Proofs.YtkiabladmgagdabGreatDoor.Wirey
namespace Go.Proofs.YtkiabladmgagdabGreatDoor.Wirey
open Go.ChangeShapes Go.WideShapes Go.ChangeAt Go.RowKit

theorem digit_and {r j : Nat} (hr : r < 10) (hj : j < 16) : bits BinOp.and IntKind.u64 ((nat_ ordsN r : Int) / 2 ^ (4 * (15 - j))) 15 = (ord r j : Int) := by
 have h := u64_and_nat (nat_ ordsN r / 2 ^ (4 * (15 - j))) 15 (Nat.lt_of_le_of_lt (Nat.div_le_self _ _) (ordN_lt r)) (by omega)
 rw [show (15 : Nat) = 2 ^ 4 - 1 from rfl, Nat.and_two_pow_sub_one_eq_mod] at h
 rw [show (2 : Nat) ^ 4 = 16 from rfl, ordN_digit hr hj] at h
 rw [← h]
 simp
set_option maxHeartbeats 4000000 in
set_option maxRecDepth 100000 in
theorem place_c {g go r j : Nat} (hr : r < 10) (hj : j < 16) {m : List Nat} (hm : m.length = 16) (w : World) (hM : Row w g (u32s m)) (hO : w.cell? ⟨go, 0, none⟩ = some (.int .u64 (nat_ ordsN r : Int))) :
  Calls Tryz.prog 124 #[.int .i64 j, .pointer (some ⟨g, 0, none⟩), .pointer (some ⟨go, 0, none⟩)] w fun e w' => e = .returned (.int .u32 (nat_ m (ord r j) : Int)) ∧ w = w' := by
 have ho := ord_lt hr hj
 have c1 := hM.word (i := ord r j) (by omega)
 go_enter Tryz.func124, Tryz.ntmps124
 have hd := digit_and hr hj
 have ho2 : (ord r j : Int) < 16 := by omega
 go_wp2_with fail
 go_ret
 exact ⟨rfl, rfl⟩
set_option maxHeartbeats 4000000 in
theorem inOrder_c (m : List Nat) (o : Nat) (w : World) :
  Calls Tryz.prog 93 #[.agg (u32s m).toArray, .int .u64 o] w fun e w' => e = .returned (.func (.func 124) #[] #[.pointer (some ⟨w.heap.size, 0, none⟩), .pointer (some ⟨w.heap.size + 1, 0, none⟩)]) ∧ w' = (w.alloc (.cells (u32s m).toArray 130)).alloc (.cells #[.int .u64 o] 22) := by
 have hmf : ∀ (fn : Fn) (first cap : Array Value) (w : World), (Instr.makeFunc fn first cap).run Tryz.prog w = .ok (.func fn first cap) w := fun _ _ _ _ => rfl
 go_enter Tryz.func93, Tryz.ntmps93
 go_wp2_with fail
 go_ret
 exact ⟨rfl, rfl⟩
end Go.Proofs.YtkiabladmgagdabGreatDoor.Wirey
namespace Go.Proofs.YtkiabladmgagdabGreatDoor.Wirey
open Go.ChangeShapes Go.WideShapes Go.ChangeAt Go.RowKit

theorem copy_padt (t : TypeId) {d : List UInt8} (hd : d.length ≤ 64) (w : World) :
  ∃ wp, (Builtin.copy_ #[96, 9] 3 #[.slice (some ⟨w.heap.size, 0, none⟩) 64 64, .string (str d)]).run Tryz.prog (w.alloc (.cells (noughts 64) t)) = .ok (.int .i64 d.length) wp ∧ Row wp w.heap.size (u8s (pad d)) ∧ Below w.heap.size w wp := by
 have hnew : (w.alloc (.cells (noughts 64) t)).heap[w.heap.size]? = some (.cells (noughts 64) t (0, 0)) := heap_alloc_new w _
 have hsz : (noughts 64).size = 64 := by simp [noughts, u8s]
 have h := Lib.run_copy_row_string (P := Tryz.prog) (w.alloc (.cells (noughts 64) t)) 96 9 3 5 w.heap.size 0 64 64 (str d) (noughts 64) t Tryz.underlying96 u8_size hnew (by rw [str_size]; exact hd) (by rw [hsz, str_size]; omega)
 rw [str_size] at h
 refine ⟨_, h, ?_, below_setRow ((Below.refl _ _).alloc (Nat.le_refl _) _) (Nat.le_refl _) _⟩
 have hb := setRow_heap _ _ _ ((noughts 64).toList.take 0 ++ Lib.byteCells (str d).data.toList ++ (noughts 64).toList.drop (0 + d.length)).toArray _ _ hnew
 have := Row.of_blk hb
 have e : ((noughts 64).toList.take 0 ++ Lib.byteCells (str d).data.toList ++ (noughts 64).toList.drop (0 + d.length)).toArray.toList = u8s (pad d) := by
  rw [List.take_zero, List.nil_append, Nat.zero_add]
  rw [noughts_list, List.drop_replicate]
  unfold pad u8s str Lib.byteCells
  rw [List.map_append, List.map_replicate]
  rfl
 rw [e] at this
 exact this
def z16 : Array Value := (u32s (List.replicate 16 0)).toArray
def z8 : Array Value := (u32s (List.replicate 8 0)).toArray
theorem wacc_bits {p : List Nat} (h : ∀ i, nat_ p i < 256) {i j : Nat} (hi : i < 16) (hj : j < 4) :
  bits BinOp.or IntKind.u32 (nat_ (wacc p (i * 4 + j)) i : Int) ((nat_ p (i * 4 + j) : Int) % 4294967296 * 2 ^ (8 * j) % 4294967296) = ((nat_ (wacc p (i * 4 + j)) i + nat_ p (i * 4 + j) * 256 ^ j : Nat) : Int) := by
 have e1 : (i * 4 + j) / 4 = i := by omega
 have e2 : (i * 4 + j) % 4 = j := by omega
 have h1 := wacc_or h (k := i * 4 + j) (by omega)
 have h2 := wacc_step h (k := i * 4 + j) (by omega)
 rw [e1, e2] at h1 h2
 have hb := h (i * 4 + j)
 generalize nat_ (wacc p (i * 4 + j)) i = a at h1 h2 ⊢
 generalize nat_ p (i * 4 + j) = c at h1 h2 hb ⊢
 have e : (c : Int) % 4294967296 * 2 ^ (8 * j) % 4294967296 = ((c * 256 ^ j : Nat) : Int) := by
  have e3 : (c : Int) * 2 ^ (8 * j) = ((c * 256 ^ j : Nat) : Int) := by
   rw [show (256 : Nat) = 2 ^ 8 from rfl, ← Nat.pow_mul]; simp
  rw [show (c : Int) % 4294967296 = (c : Int) by omega, e3]
  omega
 rw [e, u32_or_nat a (c * 256 ^ j) (by omega) (by omega), h1]
theorem arr_put {w : World} {g : Nat} {t : TypeId} {l : List Nat} (h : Blk w g t (u32s l).toArray) (i x : Nat) : Blk (w.setCell ⟨g, i, none⟩ (.int .u32 (x : Int))) g t (u32s (l.set i x)).toArray := by
 have := h.put i (.int .u32 (x : Int))
 rw [List.setIfInBounds_toArray, u32s_set] at this
 exact this
theorem Blk.drew {w : World} {g : Nat} {t : TypeId} {cs : Array Value} (h : Blk w g t cs) : Blk w.drew g t cs := h
theorem info8 : (Tryz.prog.info? 128).map (·.size) = some 8 := by kernel_rfl
theorem info16 : (Tryz.prog.info? 130).map (·.size) = some 16 := by kernel_rfl
theorem under8 : Tryz.prog.underlying 128 = some (.array 8 127) := by kernel_rfl
theorem under16 : Tryz.prog.underlying 130 = some (.array 16 127) := by kernel_rfl
structure Seen (w : World) (g : Nat) (vs : List Value) : Prop where
 lt : g < w.heap.size
 cell : ∀ i u, vs[i]? = some u → w.cell? ⟨g, i, none⟩ = some u
theorem Row.seen {w : World} {g : Nat} {vs : List Value} (h : Row w g vs) : Seen w g vs := ⟨h.lt, h.cell⟩
theorem Seen.drew {w : World} {g : Nat} {vs : List Value} (h : Seen w g vs) : Seen w.drew g vs := ⟨h.lt, h.cell⟩
theorem Seen.below {w w' : World} {B g : Nat} {vs : List Value} (h : Seen w g vs) (hb : Below B w w') (hg : g < B) : Seen w' g vs :=
 ⟨Nat.lt_of_lt_of_le h.lt hb.size, fun i u hu => (World.cell?_of_block (hb.block g hg)).trans (h.cell i u hu)⟩
theorem Seen.adds {w : World} {g : Nat} {vs : List Value} (h : Seen w g vs) : ∀ j u, vs[j]? = some u → w.cell? ((⟨g, 0, none⟩ : Addr).add j) = some u := by
 intro j u hu
 have e : (⟨g, 0, none⟩ : Addr).add j = ⟨g, j, none⟩ := by unfold Addr.add; by_cases h : j = 0 <;> simp [h]
 rw [e]; exact h.cell j u hu
theorem load_arr {w : World} {g : Nat} {vs : List Value} (ty : TypeId) (n : Nat) (e : TypeId) (h : Seen w g vs) (hu : Tryz.prog.underlying ty = some (.array n e)) (hi : (Tryz.prog.info? ty).map (·.size) = some vs.length) :
  (loadVar ty ⟨g, 0, none⟩).run Tryz.prog w = .ok (.agg vs.toArray) w := by
 have hl := run_loadCells_list (P := Tryz.prog) w ⟨g, 0, none⟩ vs (fun j v hv => h.adds j v hv)
 cases hq : Tryz.prog.info? ty with
 | none => simp [hq] at hi
 | some i =>
  have hs : i.size = vs.length := by simpa [hq] using hi
  have hagg : (isAgg ty).run Tryz.prog w = .ok true w := by
   unfold isAgg
   rw [Sem.run_bind, run_underlying hu w]
   rfl
  simp [loadVar, Sem.run_bind, hagg, sizeOf, typeInfo, hq, hs, hl]
theorem wpList_load_seen {ops : Array Oper} {rest : List Oper} {o : Oper} {a : Act} {w : World} {Q : Exit → Act → World → Prop} (hgd : o.guard = none) (ty : TypeId) (x : Operand) (ho : o.op = .load ty x)
  (g : Nat) (hx : a.eval x = .pointer (some ⟨g, 0, none⟩)) (vs : List Value) (n : Nat) (e : TypeId) (hg : Seen w g vs) (hu : Tryz.prog.underlying ty = some (.array n e)) (hi : (Tryz.prog.info? ty).map (·.size) = some vs.length)
  (h : wpList Tryz.prog ops Q rest (a.put o.dst (.agg vs.toArray)) w) : wpList Tryz.prog ops Q (o :: rest) a w :=
 wpList_plain hgd fun _ hK => by
  unfold Oper.wp execOp
  simp only [ho, hx, Instr.loadAt, Instr.sureAddr, Sem.run_bind, Sem.run_pure, Result.andThen_ok, load_arr ty n e hg hu hi]
  exact hK _ _ h
theorem wpList_load_arr {ops : Array Oper} {rest : List Oper} {o : Oper} {a : Act} {w : World} {Q : Exit → Act → World → Prop} (hgd : o.guard = none) (ty : TypeId) (x : Operand) (ho : o.op = .load ty x)
  (g : Nat) (hx : a.eval x = .pointer (some ⟨g, 0, none⟩)) (vs : List Value) (n : Nat) (e : TypeId) (hg : Row w g vs) (hu : Tryz.prog.underlying ty = some (.array n e)) (hi : (Tryz.prog.info? ty).map (·.size) = some vs.length)
  (h : wpList Tryz.prog ops Q rest (a.put o.dst (.agg vs.toArray)) w) : wpList Tryz.prog ops Q (o :: rest) a w :=
 wpList_load_seen hgd ty x ho g hx vs n e hg.seen hu hi h
theorem store_arr {w : World} {g : Nat} {t : TypeId} {old : Array Value} {l : List Nat} (h : Blk w g t old) (ho : old.size = l.length) : (storeCells ⟨g, 0, none⟩ (u32s l) 0).run Tryz.prog w = .ok () (w.setRow g (u32s l).toArray) := by
 have := run_storeCells_from (P := Tryz.prog) g t (u32s l) 0 old w h (by rw [u32s_len]; omega) (u32s_one l)
 rw [List.take_zero, List.nil_append] at this
 exact this
theorem Blk.set_ {w : World} {g : Nat} {t : TypeId} {old cs : Array Value} (h : Blk w g t old) : Blk (w.setRow g cs) g t cs := setRow_heap w g old cs t (0, 0) h
theorem Blk.far_ {w : World} {g g' : Nat} {t : TypeId} {vs : Array Value} (h : Blk w g t vs) (hne : g ≠ g') (cs : Array Value) : Blk (w.setRow g' cs) g t vs := (setRow_other w g' g cs hne).trans h
set_option maxHeartbeats 4000000 in
set_option maxRecDepth 100000 in
theorem blockP_c {d : List UInt8} (hd : d.length ≤ 64) (w : World) :
  Calls Tryz.prog 63 #[.string (str d)] w fun e w' => e = .returned (.agg (u32s (wds (nums (pad d)))).toArray) ∧ Below w.heap.size w w' := by
 go_enter Tryz.func63, Tryz.ntmps63
 go_upto_region 1 with fail
 change Code.wp _ _ _ _ (w.alloc (.cells z16 130))
 have hR := Blk.new w 130 z16
 have hW := (Below.refl w.heap.size w).alloc (Nat.le_refl _) (.cells z16 130)
 have hs : (w.alloc (.cells z16 130)).heap.size = w.heap.size + 1 := World.size_alloc ..
 generalize w.alloc (.cells z16 130) = w1 at hR hW hs ⊢
 obtain ⟨wp, hrun, hP, hbp⟩ := copy_padt 164 hd w1
 rw [hs] at hrun hP
 have HR := Lib.hid hrun
 go_upto_region 2 with fail
 change Code.wp _ _ _ _ (w1.alloc (.cells (noughts 64) 164))
 have hrun2 := HR.out
 go_upto_region 3 with fail
 have hR2 := hR.below hbp hR.lt
 have hW2 := hW.trans (hbp.mono hW.size)
 have hPl := hP.lt
 clear hrun hrun2 HR hbp hR hW hs
 generalize wp = w2 at hP hR2 hW2 hPl ⊢
 go_upto_region 4 with fail
 change Code.wp _ _ _ _ (w2.alloc (.cells z16 130))
 have hM := Blk.new w2 130 z16
 have hP := hP.alloc (.cells z16 130)
 have hR := hR2.alloc (.cells z16 130)
 have hW := hW2.alloc hW2.size (.cells z16 130)
 have hg2 : w.heap.size + 1 < w2.heap.size := hPl
 clear hR2 hW2 hPl
 obtain ⟨g, hg⟩ : ∃ g, g = w2.heap.size := ⟨_, rfl⟩
 rw [← hg] at hM hg2 ⊢
 generalize w2.alloc (.cells z16 130) = w3 at hM hP hR hW ⊢
 clear hg
 have hpl : (nums (pad d)).length = 64 := by rw [nums_len]; exact pad_len hd
 have hpb := nums_lt (pad d)
 have hp64 := pad_len hd
 change Blk w3 g 130 (u32s (wacc (nums (pad d)) 0)).toArray at hM
 obtain ⟨p, hp⟩ : ∃ p, p = pad d := ⟨_, rfl⟩
 rw [← hp] at hM hP hpl hpb hp64
 have HPD := Lib.hid hp
 clear hp
 go_upto_region 5 with fail
 go_loopw [10] (fun iv wr => ∃ i : Nat, i ≤ 16 ∧ iv = .int .i64 i ∧ Blk wr g 130 (u32s (wacc (nums p) (i * 4))).toArray ∧ Row wr (w.heap.size + 1) (u8s p) ∧ Blk wr w.heap.size 130 z16 ∧ Below w.heap.size w wr) (fun iv _ => 16 - (intOf iv).toNat)
 case atStart => exact ⟨0, by omega, rfl, hM, hP, hR, hW⟩
 case round =>
  clear hM hP hR hW
  obtain ⟨i, hi, rfl, hM, hP, hR, hW⟩ := hrel
  by_cases hilt : i < 16
  ·have hrd : decide ((i : Int) < 16) = true := by rw [decide_eq_true_eq]; omega
   go_wp2_with fail
   go_loopw [13] (fun jv wr => ∃ j : Nat, j ≤ 4 ∧ jv = .int .i64 j ∧ Blk wr g 130 (u32s (wacc (nums p) (i * 4 + j))).toArray ∧ Row wr (w.heap.size + 1) (u8s p) ∧ Blk wr w.heap.size 130 z16 ∧ Below w.heap.size w wr) (fun jv _ => 4 - (intOf jv).toNat)
   case atStart => exact ⟨0, by omega, rfl, hM, hP, hR, hW⟩
   case round =>
    clear hM hP hR hW
    obtain ⟨j, hj, rfl, hM, hP, hR, hW⟩ := hrel
    by_cases hjlt : j < 4
    ·have hrow : Row wr g (u32s (wacc (nums p) (i * 4 + j))) := Row.blk hM
     have c1 := hrow.word (i := i) (by rw [wacc_len]; exact hilt)
     have f1 := hrow.wfree (i := i) (by rw [wacc_len]; exact hilt)
     have c2 := hP.cell (i * 4 + j) _ (u8s_at (by omega))
     go_wp2_with fail
     go_region
     rw [wacc_bits hpb hilt hjlt]
     have hM2 := (arr_put hM i (nat_ (wacc (nums p) (i * 4 + j)) i + nat_ (nums p) (i * 4 + j) * 256 ^ j)).drew
     have hP2 := (hP.far (p := ⟨g, i, none⟩) (by show w.heap.size + 1 ≠ g; omega) (.int .u32 ((nat_ (wacc (nums p) (i * 4 + j)) i + nat_ (nums p) (i * 4 + j) * 256 ^ j : Nat) : Int))).drew
     have hR2 := (hR.far (p := ⟨g, i, none⟩) (by show w.heap.size ≠ g; omega) (.int .u32 ((nat_ (wacc (nums p) (i * 4 + j)) i + nat_ (nums p) (i * 4 + j) * 256 ^ j : Nat) : Int))).drew
     have hW2 := (hW.setCell (p := ⟨g, i, none⟩) (by show w.heap.size ≤ g; omega) (.int .u32 ((nat_ (wacc (nums p) (i * 4 + j)) i + nat_ (nums p) (i * 4 + j) * 256 ^ j : Nat) : Int))).drew
     have hw : (wacc (nums p) (i * 4 + j)).set i (nat_ (wacc (nums p) (i * 4 + j)) i + nat_ (nums p) (i * 4 + j) * 256 ^ j) = wacc (nums p) (i * 4 + (j + 1)) := by
      show _ = (wacc (nums p) (i * 4 + j)).set ((i * 4 + j) / 4) (nat_ (wacc (nums p) (i * 4 + j)) ((i * 4 + j) / 4) + nat_ (nums p) (i * 4 + j) * 256 ^ ((i * 4 + j) % 4))
      rw [show (i * 4 + j) / 4 = i by omega, show (i * 4 + j) % 4 = j by omega]
     rw [hw] at hM2
     clear hM hP hR hW hw hrow c1 c2 f1
     generalize (World.setCell wr ⟨g, i, none⟩ (.int .u32 ((nat_ (wacc (nums p) (i * 4 + j)) i + nat_ (nums p) (i * 4 + j) * 256 ^ j : Nat) : Int))).drew = wn at hM2 hP2 hR2 hW2 ⊢
     go_wp2_with fail
     go_roundw
     case rel => first | exact ⟨j + 1, by omega, by go_num, hM2, hP2, hR2, hW2⟩ | ((repeat apply Exists.intro); refine ⟨⟨j + 1, by omega, ?_, hM2, hP2, hR2, hW2⟩, rfl⟩; go_num)
     case measure => simp [intOf]; omega
    ·obtain rfl : j = 4 := by omega
     rw [show i * 4 + 4 = (i + 1) * 4 by omega] at hM
     go_wp2_with fail
     go_roundw
     case rel => first | exact ⟨i + 1, by omega, by go_num, hM, hP, hR, hW⟩ | ((repeat apply Exists.intro); refine ⟨⟨i + 1, by omega, ?_, hM, hP, hR, hW⟩, rfl⟩; go_num)
     case measure => simp [intOf]; omega
  ·obtain rfl : i = 16 := by omega
   rw [show 16 * 4 = 64 from rfl, wacc_all] at hM
   have hrow : Row wr g (u32s (wds (nums p))) := Row.blk hM
   have hst := store_arr hR (l := wds (nums p)) (by rw [wds_len]; rfl)
   go_wp2_with (refine wpList_load_arr rfl 130 (.tmp 4) rfl g rfl (u32s (wds (nums p))) 16 127 hrow under16 (by rw [info16, u32s_len, wds_len]) ?_)
   refine bodyPost_ret (results_cell_row rfl _ _ w.heap.size 130 (u32s (wds (nums p))).toArray (0, 0) (.array 16 127) rfl hR.set_ under16 rfl (by rw [info16, List.size_toArray, u32s_len, wds_len])) rfl ?_
   rw [← HPD.out]
   exact ⟨rfl, below_setRow hW (Nat.le_refl _) _⟩
end Go.Proofs.YtkiabladmgagdabGreatDoor.Wirey
