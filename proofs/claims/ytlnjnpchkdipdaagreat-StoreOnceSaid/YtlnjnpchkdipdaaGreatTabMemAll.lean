/- Chapter 11 over plain lists: entries by their keys. It speaks of no program. Entries in memory: a slice of them, owned; one that is handed in; a struct as a result. No condition. -/
import Derived.Test.YtlnjnpchkdipdaaGreatMem
import Derived.Deep.AppendLies
import Derived.Laws.OwnMore
import Derived.Test.YtlnjnpchkdipdaaGreatWireFlyAll
import Derived.Test.YtlnjnpchkdipdaaGreatRegionKAll
import Derived.Deep.Slices
namespace Go.Proofs.YtlnjnpchkdipdaaGreat.Taby
open Wirey (str)

/-- An entry. -/
structure En where
  key : List UInt8
  val : List UInt8
  ver : Nat
  fin : Nat
/-- The entry that there is not. -/
def En.none : En := ⟨[], [], 0, 0⟩
structure En.Ok (x : En) : Prop where
  key : x.key.length ≤ 64
  val : x.val.length ≤ 4096
  ver : x.ver < 18446744073709551616
  fin : x.fin < 18446744073709551616
def En.row (x : En) : List Value := [.string (str x.key), .string (str x.val), .int .u64 (x.ver : Int), .int .u64 (x.fin : Int)]
def rows : List En → List Value
  | [] => []
  | x :: l => x.row ++ rows l
theorem rows_append : ∀ a b : List En, rows (a ++ b) = rows a ++ rows b
  | [], b => rfl
  | x :: a, b => by rw [List.cons_append, rows, rows, rows_append a b, List.append_assoc]
theorem rows_at : ∀ (l : List En) (i j : Nat) (x : En), l[i]? = some x → j < 4 → (rows l)[i * 4 + j]? = x.row[j]?
  | [], i, j, x, h, _ => by simp at h
  | y :: l, 0, j, x, h, hj => by
    simp only [List.getElem?_cons_zero, Option.some.injEq] at h
    subst h
    rw [rows, Nat.zero_mul, Nat.zero_add, List.getElem?_append_left (by rw [show y.row.length = 4 from rfl]; exact hj)]
  | y :: l, i + 1, j, x, h, hj => by
    rw [List.getElem?_cons_succ] at h
    rw [rows, List.getElem?_append_right (by rw [show y.row.length = 4 from rfl]; omega), show y.row.length = 4 from rfl, show (i + 1) * 4 + j - 4 = i * 4 + j by omega]
    exact rows_at l i j x h hj

/-! ### The order of texts -/
abbrev less (a b : List UInt8) : Bool := Op.bytesLess a b
theorem less_irr : ∀ a : List UInt8, less a a = false
  | [] => rfl
  | x :: a => by
    show (decide (x < x) || (x == x && Op.bytesLess a a)) = false
    rw [show Op.bytesLess a a = false from less_irr a]
    simp [UInt8.lt_irrefl]
theorem less_trans : ∀ {a b c : List UInt8}, less a b = true → less b c = true → less a c = true
  | _, [], _, h, _ => by simp [less, Op.bytesLess] at h
  | _, _ :: _, [], _, h => by simp [less, Op.bytesLess] at h
  | [], _ :: _, _ :: _, _, _ => rfl
  | x :: a, y :: b, z :: c, h, k => by
    have h' : (decide (x < y) || (x == y && Op.bytesLess a b)) = true := h
    have k' : (decide (y < z) || (y == z && Op.bytesLess b c)) = true := k
    show (decide (x < z) || (x == z && Op.bytesLess a c)) = true
    simp only [Bool.or_eq_true, Bool.and_eq_true, decide_eq_true_eq, beq_iff_eq] at h' k' ⊢
    rcases h' with h1 | ⟨rfl, h1⟩
    · rcases k' with k1 | ⟨rfl, k1⟩
      · exact .inl (UInt8.lt_trans h1 k1)
      · exact .inl h1
    · rcases k' with k1 | ⟨rfl, k1⟩
      · exact .inl k1
      · exact .inr ⟨rfl, less_trans (a := a) (b := b) h1 k1⟩
theorem less_three : ∀ a b : List UInt8, less a b = true ∨ a = b ∨ less b a = true
  | [], [] => .inr (.inl rfl)
  | [], _ :: _ => .inl rfl
  | _ :: _, [] => .inr (.inr rfl)
  | x :: a, y :: b => by
    show (decide (x < y) || (x == y && Op.bytesLess a b)) = true ∨ _ ∨ (decide (y < x) || (y == x && Op.bytesLess b a)) = true
    rcases Nat.lt_trichotomy x.toNat y.toNat with h | h | h
    · exact .inl (by simp [UInt8.lt_iff_toNat_lt, h])
    · obtain rfl := UInt8.toNat_inj.1 h
      rcases less_three a b with h1 | rfl | h1
      · exact .inl (by simp [show Op.bytesLess a b = true from h1])
      · exact .inr (.inl rfl)
      · exact .inr (.inr (by simp [show Op.bytesLess b a = true from h1]))
    · exact .inr (.inr (by simp [UInt8.lt_iff_toNat_lt, h]))
theorem less_ne {a b : List UInt8} (h : less a b = true) : a ≠ b := fun e => by rw [e, less_irr] at h; cases h
theorem less_of_no {a b : List UInt8} (h : less a b = false) (hne : a ≠ b) : less b a = true := by
  rcases less_three a b with h1 | h1 | h1
  · rw [h1] at h; cases h
  · exact absurd h1 hne
  · exact h1

/-- Keys rise. -/
abbrev Rise (l : List En) : Prop := l.Pairwise fun a b => less a.key b.key = true
/-- What Get tells. -/
def find (k : List UInt8) : List En → Option En
  | [] => Option.none
  | x :: l => if x.key = k then some x else find k l
theorem find_none {k : List UInt8} : ∀ {l : List En}, find k l = Option.none ↔ ∀ x ∈ l, x.key ≠ k
  | [] => by simp [find]
  | x :: l => by
    rw [find]
    by_cases h : x.key = k
    · rw [if_pos h]; simp [h]
    · rw [if_neg h, find_none (l := l)]; simp [h]
theorem find_mem {k : List UInt8} {x : En} : ∀ {l : List En}, find k l = some x → x ∈ l ∧ x.key = k
  | [], h => by simp [find] at h
  | y :: l, h => by
    rw [find] at h
    by_cases hk : y.key = k
    · rw [if_pos hk] at h; injection h with h; subst h; exact ⟨List.mem_cons_self, hk⟩
    · rw [if_neg hk] at h; obtain ⟨a, b⟩ := find_mem h; exact ⟨List.mem_cons_of_mem _ a, b⟩
theorem find_of_mem {x : En} : ∀ {l : List En}, Rise l → x ∈ l → find x.key l = some x
  | y :: l, hr, hm => by
    rw [find]
    rcases List.mem_cons.1 hm with rfl | hm
    · rw [if_pos rfl]
    · rw [if_neg (less_ne ((List.pairwise_cons.1 hr).1 x hm)), find_of_mem (List.pairwise_cons.1 hr).2 hm]
/-- The bytes of all keys and values. -/
def size : List En → Nat
  | [] => 0
  | x :: l => x.key.length + x.val.length + size l
theorem size_append : ∀ a b : List En, size (a ++ b) = size a + size b
  | [], b => by simp [size]
  | x :: a, b => by simp only [List.cons_append, size, size_append a b]; omega
theorem size_le : ∀ {l : List En}, (∀ x ∈ l, x.Ok) → size l ≤ l.length * 4160
  | [], _ => by simp [size]
  | x :: l, h => by
    have h1 := h x List.mem_cons_self
    have h2 := size_le (l := l) fun y hy => h y (List.mem_cons_of_mem _ hy)
    have := h1.key; have := h1.val
    rw [size, List.length_cons]; omega
/-- The entries with one. -/
def ins (x : En) : List En → List En
  | [] => [x]
  | y :: l => if less y.key x.key = true then y :: ins x l else if y.key = x.key then x :: l else x :: y :: l
theorem mem_ins {x z : En} : ∀ {l : List En}, z ∈ ins x l → z = x ∨ z ∈ l
  | [], h => by simp [ins] at h; exact .inl h
  | y :: l, h => by
    rw [ins] at h
    split at h
    · rcases List.mem_cons.1 h with rfl | h
      · exact .inr List.mem_cons_self
      · rcases mem_ins h with h | h
        · exact .inl h
        · exact .inr (List.mem_cons_of_mem _ h)
    · split at h
      · rcases List.mem_cons.1 h with h | h
        · exact .inl h
        · exact .inr (List.mem_cons_of_mem _ h)
      · rcases List.mem_cons.1 h with h | h
        · exact .inl h
        · exact .inr h
theorem ins_ok {x : En} {l : List En} (hx : x.Ok) (hl : ∀ y ∈ l, y.Ok) : ∀ y ∈ ins x l, y.Ok := fun y hy => by
  rcases mem_ins hy with rfl | h
  · exact hx
  · exact hl y h
theorem ins_rise {x : En} : ∀ {l : List En}, Rise l → Rise (ins x l)
  | [], _ => by simp [ins, Rise]
  | y :: l, h => by
    obtain ⟨h1, h2⟩ := List.pairwise_cons.1 h
    rw [ins]
    split
    · rename_i hl
      refine List.pairwise_cons.2 ⟨fun z hz => ?_, ins_rise h2⟩
      rcases mem_ins hz with rfl | hz
      · exact hl
      · exact h1 z hz
    · rename_i hl
      split
      · rename_i he
        exact List.pairwise_cons.2 ⟨fun z hz => he ▸ h1 z hz, h2⟩
      · rename_i he
        have hx : less x.key y.key = true := less_of_no (by simpa using hl) he
        refine List.pairwise_cons.2 ⟨fun z hz => ?_, h⟩
        rcases List.mem_cons.1 hz with rfl | hz
        · exact hx
        · exact less_trans hx (h1 z hz)
theorem ins_len {x : En} : ∀ {l : List En}, (ins x l).length ≤ l.length + 1
  | [] => by simp [ins]
  | y :: l => by
    have := ins_len (x := x) (l := l)
    rw [ins]
    split
    · simp only [List.length_cons]; omega
    · split <;> simp only [List.length_cons] <;> omega
theorem ins_new {x : En} : ∀ {l : List En}, find x.key l = Option.none → (ins x l).length = l.length + 1
  | [], _ => by simp [ins]
  | y :: l, h => by
    rw [find_none] at h
    have hy := h y List.mem_cons_self
    have := ins_new (x := x) (l := l) (find_none.2 fun z hz => h z (List.mem_cons_of_mem _ hz))
    rw [ins]
    split
    · simp only [List.length_cons]; omega
    · (try rw [if_neg hy]); simp only [List.length_cons]
theorem find_ins {x : En} {k : List UInt8} : ∀ {l : List En}, Rise l → find k (ins x l) = if x.key = k then some x else find k l
  | [], _ => by simp [ins, find]
  | y :: l, hr => by
    obtain ⟨h1, h2⟩ := List.pairwise_cons.1 hr
    rw [ins]
    split
    · rename_i hl
      rw [find, find, find_ins h2]
      by_cases hy : y.key = k
      · rw [if_pos hy, if_pos hy, if_neg (fun e => less_ne hl (hy.trans e.symm))]
      · rw [if_neg hy, if_neg hy]
    · split
      · rename_i he
        rw [find, find]
        by_cases hx : x.key = k
        · rw [if_pos hx, if_pos hx]
        · rw [if_neg hx, if_neg hx, if_neg (fun e => hx (he.symm.trans e))]
      · rw [find]
/-- The entries without one. -/
def drop (k : List UInt8) (l : List En) : List En := l.filter fun x => !(x.key == k)
theorem drop_rise {k : List UInt8} {l : List En} (h : Rise l) : Rise (drop k l) := List.Pairwise.filter _ h
theorem drop_ok {k : List UInt8} {l : List En} (h : ∀ y ∈ l, y.Ok) : ∀ y ∈ drop k l, y.Ok := fun y hy => h y (List.mem_filter.1 hy).1
theorem drop_len {k : List UInt8} {l : List En} : (drop k l).length ≤ l.length := List.length_filter_le _ _
/-- Lists that rise, and tell the same of each key, are the same. -/
theorem rise_ext : ∀ {a b : List En}, Rise a → Rise b → (∀ k, find k a = find k b) → a = b
  | [], [], _, _, _ => rfl
  | [], y :: b, _, _, h => by have := h y.key; simp [find] at this
  | x :: a, [], _, _, h => by have := h x.key; simp [find] at this
  | x :: a, y :: b, ha, hb, h => by
    obtain ⟨a1, a2⟩ := List.pairwise_cons.1 ha
    obtain ⟨b1, b2⟩ := List.pairwise_cons.1 hb
    have e : x = y := by
      have hx : find x.key (y :: b) = some x := by rw [← h x.key]; simp [find]
      have hy : find y.key (x :: a) = some y := by rw [h y.key]; simp [find]
      rcases List.mem_cons.1 (find_mem hx).1 with e | m1
      · exact e
      rcases List.mem_cons.1 (find_mem hy).1 with e | m2
      · exact e.symm
      have := less_trans (a1 y m2) (b1 x m1)
      rw [less_irr] at this; cases this
    subst e
    rw [rise_ext a2 b2 fun k => ?_]
    have hk := h k
    by_cases hx : x.key = k
    · subst hx
      have e1 : find x.key a = Option.none := find_none.2 fun z hz e => less_ne (a1 z hz) e.symm
      have e2 : find x.key b = Option.none := find_none.2 fun z hz e => less_ne (b1 z hz) e.symm
      rw [e1, e2]
    · rw [find, find, if_neg hx, if_neg hx] at hk; exact hk

/-! ### The document's Put, step by step -/
theorem foldl_take {α β : Type} (f : β → α → β) (s : β) (l : List α) {j : Nat} {x : α} (h : l[j]? = some x) : (l.take (j + 1)).foldl f s = f ((l.take j).foldl f s) x := by
  rw [List.take_add_one, h]
  simp
end Go.Proofs.YtlnjnpchkdipdaaGreat.Taby
namespace Go.Proofs.YtlnjnpchkdipdaaGreat.Taby
open Go.ChangeShapes Go.WideShapes Go.ChangeAt Go.RowKit
open Wirey (Blk Row str str_size str_list)

theorem results_row_tmp {fn : Func} {p t : Tmp} {ty : TypeId} {P : Program} (h : fn.results = #[.cell p ty, .tmp t]) (tmps : Array Value) (w : World) (g : Nat) {cs : Array Value}
    (hp : tmps.getD p undef = .pointer (some ⟨g, 0, none⟩)) (hl : (loadVar ty ⟨g, 0, none⟩).run P w = .ok (.agg cs) w) :
    (results fn tmps).run P w = .ok (.tuple #[.agg cs, tmps.getD t undef]) w := by
  have hp' : tmps[p]?.getD undef = .pointer (some ⟨g, 0, none⟩) := by simpa using hp
  simp [results, h, hp', asAddr, Result.andThen, hl]
theorem entry_info : (Tryz.prog.info? 81).map (fun i => (i.zero, i.size, i.bytes)) = some (some (.agg #[.string ⟨#[]⟩, .string ⟨#[]⟩, .int .u64 0, .int .u64 0]), 4, 48) := by kernel_rfl
abbrev En.cs (x : En) : Array Value := #[.string (str x.key), .string (str x.val), .int .u64 (x.ver : Int), .int .u64 (x.fin : Int)]
/-- A slice of entries. -/
def Sl (w : World) (B : Nat) (v : Value) (l : List En) : Prop := w.ownsRow B 81 4 v l.length (rows l)
section
variable {w w' : World} {B : Nat} {v : Value} {l : List En} {a : Option Addr} {n c : Nat}
theorem Sl.form (h : Sl w B v l) : ∃ a c, v = .slice a l.length c := by
  rcases h.2 with ⟨rfl, h0⟩ | ⟨g, cap, cur, hv, _⟩
  · exact ⟨none, 0, by rw [h0]⟩
  · exact ⟨_, _, hv⟩
theorem Sl.low (h : Sl w B v l) {B' : Nat} (hb : B' ≤ B) : Sl w B' v l := ⟨h.1, h.2.elim Or.inl fun ⟨g, cap, cur, hv, hg, r⟩ => Or.inr ⟨g, cap, cur, hv, Nat.le_trans hb hg, r⟩⟩
theorem Sl.stay (h : Sl w B v l) (hs : ∀ g, v.ownBlock = some g → w'.heap[g]? = w.heap[g]?) : Sl w' B v l :=
  ⟨h.1, h.2.elim Or.inl fun ⟨g, cap, cur, hv, hg, hb, r⟩ => Or.inr ⟨g, cap, cur, hv, hg, (hs g (by rw [hv]; rfl)).trans hb, r⟩⟩
theorem Sl.lt (h : Sl w B v l) : ∀ g, v.ownBlock = some g → B ≤ g ∧ g < w.heap.size := World.ownsRow.lt h
theorem Sl.below (h : Sl w B v l) (hb : Below w.heap.size w w') : Sl w' B v l := h.stay fun g hg => hb.block g (h.lt g hg).2
theorem Sl.alloc (h : Sl w B v l) (o : Obj) : Sl (w.alloc o) B v l := h.stay fun g hg => Below.heap_alloc w o g (h.lt g hg).2
theorem Sl.at_ (h : Sl w B (.slice a n c) l) {i : Nat} {x : En} (hx : l[i]? = some x) : ∃ g, a = some ⟨g, 0, none⟩ ∧ B ≤ g ∧ g < w.heap.size ∧
    (∀ W : World, W.heap[g]? = w.heap[g]? → W.cell? ⟨g, i * 4, none⟩ = some (.string (str x.key)) ∧ W.cell? ⟨g, i * 4 + 1, none⟩ = some (.string (str x.val)) ∧ W.cell? ⟨g, i * 4 + 2, none⟩ = some (.int .u64 (x.ver : Int)) ∧ W.cell? ⟨g, i * 4 + 3, none⟩ = some (.int .u64 (x.fin : Int))) := by
  have hi : i < l.length := (List.getElem?_eq_some_iff.1 hx).1
  obtain ⟨g, cap, hv, hg, hlt⟩ := World.ownsRow.form h (by omega)
  injection hv with e1 e2 e3
  subst e1 e2 e3
  refine ⟨g, rfl, hg, hlt, fun W hW => ?_⟩
  have hc : ∀ j, j < 4 → W.cell? ⟨g, i * 4 + j, none⟩ = x.row[j]? := fun j hj => by
    rw [World.cell?_of_block (a := ⟨g, i * 4 + j, none⟩) hW, World.ownsRow.cellAt h (i * 4 + j) (by omega), rows_at l i j x hx hj]
  exact ⟨hc 0 (by omega), hc 1 (by omega), hc 2 (by omega), hc 3 (by omega)⟩
theorem Sl.snoc {g cap : Nat} {x : En} (h : w.ownsRow B 81 4 (.slice (some ⟨g, 0, none⟩) (l.length + 1) cap) (l.length + 1) (rows l ++ [.string (str x.key), .string (str x.val), .int .u64 (x.ver : Int), .int .u64 (x.fin : Int)])) : Sl w B (.slice (some ⟨g, 0, none⟩) (l.length + 1) cap) (l ++ [x]) := by
  unfold Sl
  rw [List.length_append, rows_append]
  exact h
theorem Sl.empty (w : World) (B : Nat) (hB : B ≤ w.heap.size) : Sl (w.alloc (.cells #[] 81)) B (.slice (some ⟨w.heap.size, 0, none⟩) 0 0) [] :=
  ⟨rfl, .inr ⟨w.heap.size, 0, #[], rfl, hB, heap_alloc_new w _, Nat.le_refl _, Nat.zero_le _, rfl, rfl⟩⟩
end
end Go.Proofs.YtlnjnpchkdipdaaGreat.Taby
