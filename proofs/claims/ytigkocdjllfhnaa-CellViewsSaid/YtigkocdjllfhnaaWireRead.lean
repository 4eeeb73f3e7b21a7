/- Contracts of layer 3's Reader: what each method takes off the bytes that are left, or the panic by which it ends; over every state of a reading that is under way. -/
import Derived.Test.YtigkocdjllfhnaaWireEnc
import Derived.Lib.UnsafeStr
import Derived.Lib.BufferWrite
import Derived.WalkLawsBesides
namespace Go.Proofs.Ytigkocdjllfhnaa.Wirey
open Go.ChangeShapes Go.WideShapes Go.ChangeAt Go.RowKit

/-- Nothing that was there has turned but blocks R and O. -/
structure Kept (w w' : World) (R O : Nat) : Prop where
  os : w'.os = w.os
  tape : w'.tape = w.tape
  output : w'.output = w.output
  size : w.heap.size ≤ w'.heap.size
  block : ∀ k, k < w.heap.size → k ≠ R → k ≠ O → w'.heap[k]? = w.heap[k]?
theorem Kept.refl (w : World) (R O : Nat) : Kept w w R O := ⟨rfl, rfl, rfl, Nat.le_refl _, fun _ _ _ _ => rfl⟩
theorem Kept.trans {a b c : World} {R O : Nat} (h : Kept a b R O) (k : Kept b c R O) : Kept a c R O :=
  ⟨k.os.trans h.os, k.tape.trans h.tape, k.output.trans h.output, Nat.le_trans h.size k.size, fun i hi hR hO => (k.block i (Nat.lt_of_lt_of_le hi h.size) hR hO).trans (h.block i hi hR hO)⟩
theorem Kept.of_below {w w' : World} {R O : Nat} (h : Below w.heap.size w w') : Kept w w' R O := ⟨h.os, h.tape, h.output, h.size, fun k hk _ _ => h.block k hk⟩
theorem Kept.set {a w : World} {R O : Nat} (h : Kept a w R O) {p : Addr} (hp : p.block = R ∨ p.block = O) (u : Value) : Kept a (w.setCell p u) R O :=
  h.trans ⟨rfl, rfl, rfl, by simp [World.setCell], fun k hk hR hO => Below.heap_setCell _ _ _ _ (by rcases hp with e | e <;> omega)⟩

/-- A reading that is under way: block R is its Reader, with l left; block O is what it has come to. -/
structure RS (w : World) (R O : Nat) (l : List UInt8) : Prop where
  rd : Blk w R 54 #[.string (str l), .pointer (some ⟨O, 0, none⟩)]
  of : Blk w O 52 #[.bool false, .int .i64 0]
/-- A reading that has failed. -/
def Wrong (w : World) (O : Nat) (k : Nat) : Prop := Blk w O 52 #[.bool false, .int .i64 (k : Int)]
theorem RS.ne {w : World} {R O : Nat} {l : List UInt8} (h : RS w R O l) : R ≠ O := h.rd.ne_ h.of (by decide)
theorem RS.below {w w' : World} {R O : Nat} {l : List UInt8} (h : RS w R O l) (hb : Below w.heap.size w w') : RS w' R O l := ⟨h.rd.below hb h.rd.lt, h.of.below hb h.of.lt⟩
theorem RS.move {w : World} {R O : Nat} {l : List UInt8} (h : RS w R O l) (m : List UInt8) : RS (w.setCell ⟨R, 0, none⟩ (.string (str m))) R O m :=
  ⟨h.rd.put 0 _, h.of.far (fun e => h.ne e.symm) _⟩
theorem RS.wrong {w : World} {R O : Nat} {l : List UInt8} (h : RS w R O l) (k : Nat) : Wrong (w.setCell ⟨O, 1, none⟩ (.int .i64 (k : Int))) O k := h.of.put 1 _
/-- What the cells of a reading hold, and that they may be written. -/
theorem RS.cells {w : World} {R O : Nat} {l : List UInt8} (h : RS w R O l) :
    w.cell? ⟨R, 0, none⟩ = some (.string (str l)) ∧ w.cell? ⟨R, 1, none⟩ = some (.pointer (some ⟨O, 0, none⟩)) ∧ w.cell? ⟨O, 0, none⟩ = some (.bool false) ∧ w.cell? ⟨O, 1, none⟩ = some (.int .i64 0) ∧
    w.frozen? ⟨R, 0, none⟩ = false ∧ w.frozen? ⟨O, 1, none⟩ = false :=
  ⟨h.rd.cell 0, h.rd.cell 1, h.of.cell 0, h.of.cell 1, h.rd.free 0, h.of.free 1⟩

/-- The panic by which a reading ends. -/
def flt (O : Nat) : List PanicEntry := [{ v := .iface 56 (.agg #[.pointer (some ⟨O, 0, none⟩)]), recovered := false }]

set_option maxHeartbeats 1000000 in
theorem under_c {R O : Nat} {l : List UInt8} (w : World) (h : RS w R O l) :
    Calls Try.prog 35 #[.pointer (some ⟨R, 0, none⟩)] w fun e w' => e = .returned (.bool true) ∧ w = w' := by
  obtain ⟨c1, c2, c3, c4, f1, f2⟩ := h.cells
  go_enter Try.func35, Try.ntmps35
  go_wp2_with fail
  go_ret
  exact ⟨rfl, rfl⟩
set_option maxHeartbeats 1000000 in
theorem rest_c {R O : Nat} {l : List UInt8} (w : World) (h : RS w R O l) :
    Calls Try.prog 32 #[.pointer (some ⟨R, 0, none⟩)] w fun e w' => e = .returned (.string (str l)) ∧ w = w' := by
  obtain ⟨c1, c2, c3, c4, f1, f2⟩ := h.cells
  go_enter Try.func32, Try.ntmps32
  go_wp2_with fail
  refine (under_c _ h).mono ?_
  rintro e w' ⟨rfl, rfl⟩
  go_wp2_with fail
  go_ret
  exact ⟨rfl, rfl⟩
set_option maxHeartbeats 1000000 in
theorem left_c {R O : Nat} {l : List UInt8} (w : World) (h : RS w R O l) :
    Calls Try.prog 27 #[.pointer (some ⟨R, 0, none⟩)] w fun e w' => e = .returned (.int .i64 (l.length : Int)) ∧ w = w' := by
  have hsz := str_size
  go_enter Try.func27, Try.ntmps27
  go_wp2_with fail
  refine (rest_c _ h).mono ?_
  rintro e w' ⟨rfl, rfl⟩
  go_wp2_with fail
  go_ret
  exact ⟨rfl, rfl⟩
set_option maxHeartbeats 1000000 in
theorem fail_c {R O : Nat} {l : List UInt8} (k : Nat) (w : World) (h : RS w R O l) :
    Calls Try.prog 34 #[.pointer (some ⟨R, 0, none⟩), .int .i64 (k : Int)] w fun e w' => e = .panicked (flt O) ∧ Kept w w' R O ∧ Wrong w' O k := by
  obtain ⟨c1, c2, c3, c4, f1, f2⟩ := h.cells
  have hne := h.ne
  go_enter Try.func34, Try.ntmps34
  go_wp2_with fail
  refine (under_c _ h).mono ?_
  rintro e w' ⟨rfl, rfl⟩
  go_wp2_with fail
  exact ⟨rfl, rfl, (Kept.refl _ _ _).set (.inr rfl) _, h.wrong k⟩
end Go.Proofs.Ytigkocdjllfhnaa.Wirey
