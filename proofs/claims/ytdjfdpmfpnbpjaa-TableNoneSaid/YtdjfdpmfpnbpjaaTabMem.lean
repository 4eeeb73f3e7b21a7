/- Entries in memory: a slice of them, owned; one that is handed in; a struct as a result. No condition. -/
import Derived.Test.YtdjfdpmfpnbpjaaTabMath
import Derived.Test.YtdjfdpmfpnbpjaaWireEnc
import Derived.Test.YtdjfdpmfpnbpjaaRegion
import Derived.Deep.Slices
namespace Go.Proofs.Ytdjfdpmfpnbpjaa.Taby
open Go.ChangeShapes Go.WideShapes Go.ChangeAt Go.RowKit
open Wirey (Blk Row str str_size str_list str_cat)

theorem results_row_tmp {fn : Func} {p t : Tmp} {ty : TypeId} {P : Program} (h : fn.results = #[.cell p ty, .tmp t]) (tmps : Array Value) (w : World) (g : Nat) {cs : Array Value}
    (hp : tmps.getD p undef = .pointer (some ⟨g, 0, none⟩)) (hl : (loadVar ty ⟨g, 0, none⟩).run P w = .ok (.agg cs) w) :
    (results fn tmps).run P w = .ok (.tuple #[.agg cs, tmps.getD t undef]) w := by
  have hp' : tmps[p]?.getD undef = .pointer (some ⟨g, 0, none⟩) := by simpa using hp
  simp [results, h, hp', asAddr, Result.andThen, hl]
theorem entry_info : (Try.prog.info? 32).map (fun i => (i.zero, i.size, i.bytes)) = some (some (.agg #[.string ⟨#[]⟩, .string ⟨#[]⟩, .int .u64 0, .int .u64 0]), 4, 48) := by kernel_rfl
abbrev En.cs (x : En) : Array Value := #[.string (str x.key), .string (str x.val), .int .u64 (x.ver : Int), .int .u64 (x.fin : Int)]
/-- A slice of entries. -/
def Sl (w : World) (B : Nat) (v : Value) (l : List En) : Prop := w.ownsRow B 32 4 v l.length (rows l)
section
variable {w w' : World} {B : Nat} {v : Value} {l : List En} {a : Option Addr} {n c : Nat}
theorem Sl.form (h : Sl w B v l) : ∃ a c, v = .slice a l.length c := by
  rcases h.2 with ⟨rfl, h0⟩ | ⟨g, cap, cur, hv, _⟩
  · exact ⟨none, 0, by rw [h0]⟩
  · exact ⟨_, _, hv⟩
theorem Sl.low (h : Sl w B v l) {B' : Nat} (hb : B' ≤ B) : Sl w B' v l := ⟨h.1, h.2.elim Or.inl fun ⟨g, cap, cur, hv, hg, r⟩ => Or.inr ⟨g, cap, cur, hv, Nat.le_trans hb hg, r⟩⟩
theorem Sl.stay (h : Sl w B v l) (hs : ∀ g, v.ownBlock = some g → w'.heap[g]? = w.heap[g]?) : Sl w' B v l :=
  ⟨h.1, h.2.elim Or.inl fun ⟨g, cap, cur, hv, hg, hb, r⟩ => Or.inr ⟨g, cap, cur, hv, hg, (hs g (by rw [hv]; rfl)).trans hb, r⟩⟩
theorem Sl.lt (h : Sl w B v l) : ∀ g, v.ownBlock = some g → B ≤ g ∧ g < w.heap.size := World.ownsRow.lt h
theorem Sl.below (h : Sl w B v l) (hb : Below w.heap.size w w') : Sl w' B v l := h.stay fun g hg => hb.block g (h.lt g hg).2
theorem Sl.alloc (h : Sl w B v l) (o : Obj) : Sl (w.alloc o) B v l := h.stay fun g hg => Below.heap_alloc w o g (h.lt g hg).2
theorem Sl.at_ (h : Sl w B (.slice a n c) l) {i : Nat} {x : En} (hx : l[i]? = some x) : ∃ g, a = some ⟨g, 0, none⟩ ∧ B ≤ g ∧ g < w.heap.size ∧
    (∀ W : World, W.heap[g]? = w.heap[g]? → W.cell? ⟨g, i * 4, none⟩ = some (.string (str x.key)) ∧ W.cell? ⟨g, i * 4 + 1, none⟩ = some (.string (str x.val)) ∧ W.cell? ⟨g, i * 4 + 2, none⟩ = some (.int .u64 (x.ver : Int)) ∧ W.cell? ⟨g, i * 4 + 3, none⟩ = some (.int .u64 (x.fin : Int))) := by
  have hi : i < l.length := (List.getElem?_eq_some_iff.1 hx).1
  obtain ⟨g, cap, hv, hg, hlt⟩ := World.ownsRow.form h (by omega)
  injection hv with e1 e2 e3
  subst e1 e2 e3
  refine ⟨g, rfl, hg, hlt, fun W hW => ?_⟩
  have hc : ∀ j, j < 4 → W.cell? ⟨g, i * 4 + j, none⟩ = x.row[j]? := fun j hj => by
    rw [World.cell?_of_block (a := ⟨g, i * 4 + j, none⟩) hW, World.ownsRow.cellAt h (i * 4 + j) (by omega), rows_at l i j x hx hj]
  exact ⟨hc 0 (by omega), hc 1 (by omega), hc 2 (by omega), hc 3 (by omega)⟩
theorem Sl.snoc {g cap : Nat} {x : En} (h : w.ownsRow B 32 4 (.slice (some ⟨g, 0, none⟩) (l.length + 1) cap) (l.length + 1) (rows l ++ [.string (str x.key), .string (str x.val), .int .u64 (x.ver : Int), .int .u64 (x.fin : Int)])) : Sl w B (.slice (some ⟨g, 0, none⟩) (l.length + 1) cap) (l ++ [x]) := by
  unfold Sl
  rw [List.length_append, rows_append]
  exact h
theorem Sl.empty (w : World) (B : Nat) (hB : B ≤ w.heap.size) : Sl (w.alloc (.cells #[] 32)) B (.slice (some ⟨w.heap.size, 0, none⟩) 0 0) [] :=
  ⟨rfl, .inr ⟨w.heap.size, 0, #[], rfl, hB, heap_alloc_new w _, Nat.le_refl _, Nat.zero_le _, rfl, rfl⟩⟩
end
end Go.Proofs.Ytdjfdpmfpnbpjaa.Taby
