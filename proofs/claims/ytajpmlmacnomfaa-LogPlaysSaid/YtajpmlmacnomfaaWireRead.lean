/- Contracts of layer 3's Reader: what each method takes off the bytes that are left, or the panic by which it ends; over every state of a reading that is under way. -/
import Derived.Test.YtajpmlmacnomfaaWireEnc
import Derived.Lib.UnsafeStr
import Derived.Lib.BufferWrite
import Derived.WalkLawsBesides
namespace Go.Proofs.Ytajpmlmacnomfaa.Wirey
open Go.ChangeShapes Go.WideShapes Go.ChangeAt Go.RowKit

/-- Nothing that was there has turned but blocks R and O. -/
structure Kept (w w' : World) (R O : Nat) : Prop where
  os : w'.os = w.os
  tape : w'.tape = w.tape
  output : w'.output = w.output
  size : w.heap.size ≤ w'.heap.size
  block : ∀ k, k < w.heap.size → k ≠ R → k ≠ O → w'.heap[k]? = w.heap[k]?
theorem Kept.refl (w : World) (R O : Nat) : Kept w w R O := ⟨rfl, rfl, rfl, Nat.le_refl _, fun _ _ _ _ => rfl⟩
theorem Kept.trans {a b c : World} {R O : Nat} (h : Kept a b R O) (k : Kept b c R O) : Kept a c R O :=
  ⟨k.os.trans h.os, k.tape.trans h.tape, k.output.trans h.output, Nat.le_trans h.size k.size, fun i hi hR hO => (k.block i (Nat.lt_of_lt_of_le hi h.size) hR hO).trans (h.block i hi hR hO)⟩
theorem Kept.of_below {w w' : World} {R O : Nat} (h : Below w.heap.size w w') : Kept w w' R O := ⟨h.os, h.tape, h.output, h.size, fun k hk _ _ => h.block k hk⟩
theorem Kept.set {a w : World} {R O : Nat} (h : Kept a w R O) {p : Addr} (hp : p.block = R ∨ p.block = O) (u : Value) : Kept a (w.setCell p u) R O :=
  h.trans ⟨rfl, rfl, rfl, by simp [World.setCell], fun k hk hR hO => Below.heap_setCell _ _ _ _ (by rcases hp with e | e <;> omega)⟩

end Go.Proofs.Ytajpmlmacnomfaa.Wirey
