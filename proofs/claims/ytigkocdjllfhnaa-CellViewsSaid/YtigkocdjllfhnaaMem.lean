/- Words for memory and texts that every layer's proofs share: a text out of its bytes, a block that is known whole, a row of cells. No condition. -/
import Derived.ProofKit
import Derived.OpenShut
import Derived.Carry
import Derived.Below
import Derived.Laws.OwnMore
import Derived.Deep.AppendLies
import Derived.Deep.Draws
import Derived.WalkKit
import Derived.Laws.Rows
namespace Go.Proofs.Ytigkocdjllfhnaa.Wirey
open Go.ChangeShapes Go.WideShapes Go.ChangeAt Go.RowKit

/-- A text out of its bytes. -/
def str (l : List UInt8) : ByteArray := ⟨l.toArray⟩
theorem str_list (l : List UInt8) : (str l).data.toList = l := rfl
theorem str_size (l : List UInt8) : (str l).size = l.length := by simp [str, ByteArray.size]
theorem str_of (s : ByteArray) : s = str s.data.toList := by cases s; rfl
theorem str_cat (a b : List UInt8) : str a ++ str b = str (a ++ b) := by
  apply ByteArray.ext
  simp [str]
theorem str_inj {a b : List UInt8} (h : str a = str b) : a = b := by
  have := congrArg (fun s : ByteArray => s.data.toList) h
  exact this

/-! Blocks that are known whole -/
def Blk (w : World) (g : Nat) (t : TypeId) (cs : Array Value) : Prop := w.heap[g]? = some (.cells cs t (0, 0))
theorem Blk.lt {w : World} {g : Nat} {t : TypeId} {cs : Array Value} (h : Blk w g t cs) : g < w.heap.size := by
  rcases Nat.lt_or_ge g w.heap.size with hlt | hge
  · exact hlt
  · unfold Blk at h; rw [Array.getElem?_eq_none hge] at h; cases h
theorem Blk.cell {w : World} {g : Nat} {t : TypeId} {cs : Array Value} (h : Blk w g t cs) (i : Nat) : w.cell? ⟨g, i, none⟩ = cs[i]? := cell_of_row w g i cs t (0, 0) h
theorem Blk.free {w : World} {g : Nat} {t : TypeId} {cs : Array Value} (h : Blk w g t cs) (i : Nat) : w.frozen? ⟨g, i, none⟩ = false := by
  unfold Blk at h; simp [World.frozen?, h]
theorem Blk.new (w : World) (t : TypeId) (cs : Array Value) : Blk (w.alloc (.cells cs t)) w.heap.size t cs := heap_alloc_new w _
theorem Blk.put {w : World} {g : Nat} {t : TypeId} {cs : Array Value} (h : Blk w g t cs) (i : Nat) (u : Value) : Blk (w.setCell ⟨g, i, none⟩ u) g t (cs.setIfInBounds i u) := by
  unfold Blk at h ⊢
  simp [World.setCell, Array.getElem?_modify, h]
theorem Blk.ne_ {w : World} {g g' : Nat} {t t' : TypeId} {cs cs' : Array Value} (h : Blk w g t cs) (h' : Blk w g' t' cs') (hne : t ≠ t') : g ≠ g' := by
  rintro rfl
  unfold Blk at h h'
  rw [h] at h'
  injection h' with h'
  injection h' with _ ht
  exact hne ht
theorem Blk.far {w : World} {g : Nat} {t : TypeId} {cs : Array Value} (h : Blk w g t cs) {p : Addr} (hp : g ≠ p.block) (u : Value) : Blk (w.setCell p u) g t cs := (Below.heap_setCell w p u g hp).trans h
theorem Blk.below {w w' : World} {B g : Nat} {t : TypeId} {cs : Array Value} (h : Blk w g t cs) (hb : Below B w w') (hg : g < B) : Blk w' g t cs := (hb.block g hg).trans h
theorem Blk.alloc {w : World} {g : Nat} {t : TypeId} {cs : Array Value} (h : Blk w g t cs) (o : Obj) : Blk (w.alloc o) g t cs := (Below.heap_alloc w o g h.lt).trans h
theorem str_drop (l : List UInt8) (n : Nat) : (str l).extract n l.length = str (l.drop n) := by
  apply ByteArray.ext
  simp [str, ByteArray.data_extract]
  rw [List.take_of_length_le (by simp)]
theorem str_take (l : List UInt8) (n : Nat) : (str l).extract 0 n = str (l.take n) := by
  apply ByteArray.ext
  simp [str, ByteArray.data_extract]
theorem toList_str (l : List UInt8) : (str l).toList = l := ByteArray.toList_mk l
theorem Blk.grown {w w' : World} {g : Nat} {t : TypeId} {cs : Array Value} {row : Option Nat} (h : Blk w g t cs) (hb : w.grownBy w' row) (hg : some g ≠ row) : Blk w' g t cs := (hb.block g h.lt hg).trans h

/-- A row of cells, in block g from its head on; none is frozen. -/
structure Row (w : World) (g : Nat) (vs : List Value) : Prop where
  lt : g < w.heap.size
  cell : ∀ i u, vs[i]? = some u → w.cell? ⟨g, i, none⟩ = some u
  free : ∀ i, i < vs.length → w.frozen? ⟨g, i, none⟩ = false
section
variable {w w' : World} {g : Nat} {vs : List Value}
theorem Row.at_ (h : Row w g vs) {i : Nat} (hi : i < vs.length) : w.cell? ⟨g, i, none⟩ = some (vs[i]) := h.cell i _ (List.getElem?_eq_getElem hi)
theorem Row.of_blk {t : TypeId} {cs : Array Value} (h : Blk w g t cs) : Row w g cs.toList :=
  ⟨h.lt, fun i u hu => by rw [h.cell i, ← hu]; simp, fun i _ => h.free i⟩
theorem Row.drew (h : Row w g vs) : Row w.drew g vs := ⟨h.lt, h.cell, h.free⟩
theorem Row.drewN (h : Row w g vs) (n : Nat) : Row (w.drewN n) g vs := ⟨h.lt, h.cell, h.free⟩
theorem Row.of_block (h : Row w g vs) (hs : w.heap.size ≤ w'.heap.size) (hb : w'.heap[g]? = w.heap[g]?) : Row w' g vs :=
  ⟨Nat.lt_of_lt_of_le h.lt hs, fun i u hu => (World.cell?_of_block hb).trans (h.cell i u hu), fun i hi => (World.frozen?_of_block hb).trans (h.free i hi)⟩
theorem Row.below {B : Nat} (h : Row w g vs) (hb : Below B w w') (hg : g < B) : Row w' g vs := h.of_block hb.size (hb.block g hg)
theorem Row.alloc (h : Row w g vs) (o : Obj) : Row (w.alloc o) g vs := h.of_block (by simp) (Below.heap_alloc w o g h.lt)
theorem Row.grown {row : Option Nat} (h : Row w g vs) (hb : w.grownBy w' row) (hg : some g ≠ row) : Row w' g vs := h.of_block hb.size (hb.block g h.lt hg)
theorem Row.far (h : Row w g vs) {p : Addr} (hp : g ≠ p.block) (u : Value) : Row (w.setCell p u) g vs := h.of_block (by simp [World.setCell]) (Below.heap_setCell w p u g hp)
theorem Row.put (h : Row w g vs) {i : Nat} (hi : i < vs.length) (u : Value) : Row (w.setCell ⟨g, i, none⟩ u) g (vs.set i u) := by
  refine ⟨by have := h.lt; simpa [World.setCell] using this, fun j v hv => ?_, fun j hj => (World.frozen?_setCell w _ _ u).trans (h.free j (by simpa using hj))⟩
  rw [List.getElem?_set] at hv
  by_cases e : i = j
  · subst e
    rw [if_pos rfl, if_pos hi] at hv
    rw [← hv]
    exact World.cell?_setCell_same w _ u (h.at_ hi)
  · rw [if_neg e] at hv
    rw [World.cell?_setCell_other w _ _ u (by intro h2; simp only [Addr.mk.injEq] at h2; omega)]
    exact h.cell j v hv
end
end Go.Proofs.Ytigkocdjllfhnaa.Wirey
