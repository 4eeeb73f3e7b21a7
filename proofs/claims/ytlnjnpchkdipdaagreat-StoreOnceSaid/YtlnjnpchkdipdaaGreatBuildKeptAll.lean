/- Contracts of strings.Builder at this program: a text is written, a row of bytes is written, the string is taken. All that was there ahead of the builder stays. No condition but that the text is of at most 2^40 bytes. strings.Builder once more: a written text leaves all other memory but rows of bytes. The only condition: the text is of at most 2^40 bytes. -/
import Derived.Test.YtlnjnpchkdipdaaGreatRows
import Derived.Test.YtlnjnpchkdipdaaGreatMem
import Derived.Lib.Builder
import Derived.Lib.AppendStr
import Derived.Lib.UnsafeStr
import Derived.Lib.Walk
import Derived.WalkKit
import Derived.Laws.Externs
import Derived.RegionTactic
import Derived.Lib.OthersKept
namespace Go.Proofs.YtlnjnpchkdipdaaGreat.Wirey
open Go.RowKit

/-- A builder in block b, that holds the bytes l; what it has made lies from b on. -/
def Bld (w : World) (b : Nat) (l : List UInt8) : Prop := Lib.IsBuilder 143 5 b b (Lib.byteCells l) w
theorem Bld.new (w : World) : Bld (w.alloc (.cells #[.pointer none, .slice none 0 0] 143)) w.heap.size [] := Lib.fresh_isBuilder _ _ _
theorem Bld.at_ {w : World} {b : Nat} {l : List UInt8} (h : Bld w b l) : ∃ p, Lib.BuilderAt 143 5 b b p (Lib.byteCells l) w := by
  rcases h with h | h
  · exact ⟨_, h⟩
  · exact ⟨_, h⟩
theorem Bld.lt {w : World} {b : Nat} {l : List UInt8} (h : Bld w b l) : b < w.heap.size := by
  obtain ⟨p, h⟩ := h.at_
  exact h.lt
theorem Bld.drew {w : World} {b : Nat} {l : List UInt8} (h : Bld w b l) : Bld w.drew b l := by
  rcases h with h | h
  · exact .inl h
  · exact .inr h
theorem Bld.drewN {w : World} {b : Nat} {l : List UInt8} (h : Bld w b l) (n : Nat) : Bld (w.drewN n) b l := by
  rcases h with h | h
  · exact .inl h
  · exact .inr h
/-- What leaves all that was there leaves a builder. -/
theorem Bld.grown {w w' : World} {b : Nat} {l : List UInt8} (h : Bld w b l) (hb : Below w.heap.size w w') : Bld w' b l := by
  have key : ∀ p, Lib.BuilderAt 143 5 b b p (Lib.byteCells l) w → Lib.BuilderAt 143 5 b b p (Lib.byteCells l) w' := by
    rintro p ⟨h1, v, h2, h3, h4⟩
    have hlt : b < w.heap.size := by
      rcases Nat.lt_or_ge b w.heap.size with h' | h'
      · exact h'
      · rw [Array.getElem?_eq_none h'] at h2; cases h2
    exact ⟨h1, v, (hb.block b hlt).trans h2, h3.kept (row := none) ⟨hb.os, hb.tape, hb.output, hb.size, fun k hk _ => hb.block k hk⟩ (by cases v.ownBlock <;> simp), h4⟩
  rcases h with h | h
  · exact .inl (key _ h)
  · exact .inr (key _ h)

end Go.Proofs.YtlnjnpchkdipdaaGreat.Wirey
namespace Go.Proofs.YtlnjnpchkdipdaaGreat.Wirey
open Go.ChangeShapes Go.WideShapes Go.ChangeAt Go.RowKit
/-- All from the builder's block on but its own and rows of bytes, and all below it, stays. -/
structure Kb (b : Nat) (w w' : World) : Prop where
  below : Below b w w'
  oth : Lib.OthersKept 5 (some b) w w'
theorem Kb.refl (b : Nat) (w : World) : Kb b w w := ⟨Below.refl _ _, Lib.OthersKept.refl _ _ _⟩
theorem Kb.trans {b : Nat} {u v w : World} (h : Kb b u v) (k : Kb b v w) : Kb b u w := ⟨h.below.trans k.below, h.oth.trans k.oth⟩
theorem Kb.of_below {b : Nat} {w w' : World} (h : Below w.heap.size w w') (hb : b ≤ w.heap.size) : Kb b w w' := ⟨h.mono hb, fun k _ hk _ _ => (h.block k (Array.getElem?_eq_some_iff.1 hk).1).trans hk⟩
end Go.Proofs.YtlnjnpchkdipdaaGreat.Wirey
