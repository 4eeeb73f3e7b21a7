/- Layer 14 (snap): pieces, and what a Gather is made of in memory. No condition. -/
import Derived.Test.YtccaomaobokldaaDoorRows
import Derived.Test.YtccaomaobokldaaDoorBlakeMath
import Derived.Test.YtccaomaobokldaaDoorKp
import Derived.Test.YtccaomaobokldaaDoorSls
namespace Go.Proofs.YtccaomaobokldaaDoor.Snapy
open Go.ChangeShapes Go.WideShapes Go.ChangeAt Go.RowKit
open Wirey

abbrev PT : TypeId := 33
abbrev GT : TypeId := 49
abbrev gp (b : Nat) : Value := .pointer (some ⟨b, 0, none⟩)
abbrev nilG : Value := .pointer none
abbrev Bs := List UInt8
/-- A piece. -/
structure Pc where
  n : Int
  of_ : Int
  data : Bs
  sum : Bs
  whole : Bs
abbrev Pc.cs (p : Pc) : Array Value := #[.int .i64 p.n, .int .i64 p.of_, .string (str p.data), .string (str p.sum), .string (str p.whole)]
abbrev Pc.enc (p : Pc) : List Value := [.int .i64 p.n, .int .i64 p.of_, .string (str p.data), .string (str p.sum), .string (str p.whole)]
theorem Pc.len (p : Pc) : p.enc.length = 5 := rfl
def many (t : Bs) : Nat := max 1 ((t.length + 1023) / 1024)
def chunk (t : Bs) (i : Nat) : Bs := (t.drop (1024 * i)).take 1024
def pcAt (t : Bs) (i : Nat) : Pc := ⟨(i : Int), (many t : Int), chunk t i, sumL (chunk t i), sumL t⟩
/-- All pieces of bytes. -/
def cutL (t : Bs) : List Pc := (List.range (many t)).map (pcAt t)
theorem cutL_len (t : Bs) : (cutL t).length = many t := by simp [cutL]
theorem cutL_at {t : Bs} {i : Nat} (h : i < many t) : (cutL t)[i]? = some (pcAt t i) := by simp [cutL, h]
theorem many_pos (t : Bs) : 1 ≤ many t := Nat.le_max_left ..
theorem chunk_len {t : Bs} {i : Nat} (h : i < many t) : (chunk t i).length = if i + 1 < many t then 1024 else t.length - 1024 * i := by
  unfold chunk
  rw [List.length_take, List.length_drop]
  unfold many at h ⊢
  split <;> omega
theorem chunk_le (t : Bs) (i : Nat) : (chunk t i).length ≤ 1024 := by unfold chunk; rw [List.length_take]; omega
theorem chunks (t : Bs) : ∀ n, ((List.range n).map (chunk t)).flatten = t.take (1024 * n)
  | 0 => by simp
  | n + 1 => by
    rw [List.range_succ, List.map_append, List.flatten_append, chunks t n]
    unfold chunk
    simp only [List.map_cons, List.map_nil, List.flatten_cons, List.flatten_nil, List.append_nil]
    rw [show 1024 * (n + 1) = 1024 * n + 1024 by omega, List.take_add]
theorem chunks_all (t : Bs) : ((List.range (many t)).map (chunk t)).flatten = t := by
  rw [chunks]; exact List.take_of_length_le (by unfold many; omega)

/-- A Gather: of what, which bytes it has, which are there. -/
structure HeldG (w : World) (b gd gt : Nat) (W : Bs) (D : List Bs) (F : List Bool) : Prop where
  g : Blk w b GT #[.string (str W), .slice (some ⟨gd, 0, none⟩) D.length D.length, .slice (some ⟨gt, 0, none⟩) D.length D.length]
  d : Blk w gd 9 (D.map fun x => Value.string (str x)).toArray
  t : Blk w gt 4 (F.map Value.bool).toArray
  len : F.length = D.length
  pos : 0 < D.length
  most : D.length ≤ 8192
  wl : W.length = 32
  dl : ∀ x ∈ D, x.length ≤ 1024
section
variable {w w' : World} {b gd gt B : Nat} {W : Bs} {D : List Bs} {F : List Bool}
theorem HeldG.ne_ (h : HeldG w b gd gt W D F) : b ≠ gd ∧ b ≠ gt ∧ gd ≠ gt :=
  ⟨h.g.ne_ h.d (by decide), h.g.ne_ h.t (by decide), h.d.ne_ h.t (by decide)⟩
theorem HeldG.lt (h : HeldG w b gd gt W D F) : b < w.heap.size ∧ gd < w.heap.size ∧ gt < w.heap.size := ⟨h.g.lt, h.d.lt, h.t.lt⟩
theorem HeldG.below (h : HeldG w b gd gt W D F) (hb : Below w.heap.size w w') : HeldG w' b gd gt W D F :=
  ⟨h.g.below hb h.g.lt, h.d.below hb h.d.lt, h.t.below hb h.t.lt, h.len, h.pos, h.most, h.wl, h.dl⟩
theorem HeldG.ks {S : Nat → Prop} (h : HeldG w b gd gt W D F) (k : Ks S w w') (h1 : ¬ S b) (h2 : ¬ S gd) (h3 : ¬ S gt) : HeldG w' b gd gt W D F :=
  ⟨k.blk h.g h1, k.blk h.d h2, k.blk h.t h3, h.len, h.pos, h.most, h.wl, h.dl⟩
theorem HeldG.cell_d (h : HeldG w b gd gt W D F) {i : Nat} {x : Bs} (hx : D[i]? = some x) : w.cell? ⟨gd, i, none⟩ = some (.string (str x)) := by
  rw [h.d.cell i]; simp [hx]
theorem HeldG.cell_t (h : HeldG w b gd gt W D F) {i : Nat} {x : Bool} (hx : F[i]? = some x) : w.cell? ⟨gt, i, none⟩ = some (.bool x) := by
  rw [h.t.cell i]; simp [hx]
theorem HeldG.g0 (h : HeldG w b gd gt W D F) : w.cell? ⟨b, 0, none⟩ = some (.string (str W)) := h.g.cell 0
theorem HeldG.g1 (h : HeldG w b gd gt W D F) : w.cell? ⟨b, 1, none⟩ = some (.slice (some ⟨gd, 0, none⟩) D.length D.length) := h.g.cell 1
theorem HeldG.g2 (h : HeldG w b gd gt W D F) : w.cell? ⟨b, 2, none⟩ = some (.slice (some ⟨gt, 0, none⟩) D.length D.length) := h.g.cell 2
end
/-- The first that lacks. -/
def lk : List Bool → Option Nat
  | [] => none
  | false :: _ => some 0
  | true :: l => (lk l).map (· + 1)
theorem lk_lt : ∀ {F : List Bool} {i : Nat}, lk F = some i → i < F.length
  | false :: l, i, h => by obtain rfl : 0 = i := Option.some.inj h; simp
  | true :: l, i, h => by
    cases e : lk l with
    | none => rw [lk, e] at h; cases h
    | some j =>
      rw [lk, e] at h
      have := lk_lt e
      obtain rfl : j + 1 = i := Option.some.inj h
      rw [List.length_cons]; omega
/-- Whether a piece is one of these. -/
def mayB (W : Bs) (n : Nat) (p : Pc) : Bool := decide (p.of_ = n) && decide (p.whole = W) && decide (0 ≤ p.n) && decide (p.n < p.of_) && (decide (p.data.length = 1024) || (decide (p.n = p.of_ - 1) && decide (p.data.length < 1024)))
end Go.Proofs.YtccaomaobokldaaDoor.Snapy
