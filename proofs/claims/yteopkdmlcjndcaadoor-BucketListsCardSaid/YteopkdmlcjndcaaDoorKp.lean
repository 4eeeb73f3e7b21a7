/- What stays where only some blocks turn. No condition. -/
import Derived.Test.YteopkdmlcjndcaaDoorMem
namespace Go.Proofs.YteopkdmlcjndcaaDoor.Snapy
open Go.ChangeShapes Go.WideShapes Go.ChangeAt Go.RowKit
open Wirey

/-- All but the blocks of S is as it was. -/
structure Ks (S : Nat → Prop) (w w' : World) : Prop where
  os : w'.os = w.os
  tape : w'.tape = w.tape
  output : w'.output = w.output
  size : w.heap.size ≤ w'.heap.size
  block : ∀ k, k < w.heap.size → ¬ S k → w'.heap[k]? = w.heap[k]?
section
variable {S : Nat → Prop} {a b c w w' : World}
theorem Ks.refl (S : Nat → Prop) (w : World) : Ks S w w := ⟨rfl, rfl, rfl, Nat.le_refl _, fun _ _ _ => rfl⟩
theorem Ks.trans (h : Ks S a b) (k : Ks S b c) : Ks S a c :=
  ⟨k.os.trans h.os, k.tape.trans h.tape, k.output.trans h.output, Nat.le_trans h.size k.size, fun i hi hS => (k.block i (Nat.lt_of_lt_of_le hi h.size) hS).trans (h.block i hi hS)⟩
theorem Ks.of_below (h : Below w.heap.size w w') : Ks S w w' := ⟨h.os, h.tape, h.output, h.size, fun k hk _ => h.block k hk⟩
theorem Ks.set (h : Ks S a w) {p : Addr} (hp : S p.block) (u : Value) : Ks S a (w.setCell p u) :=
  ⟨h.os, h.tape, h.output, by simpa [World.setCell] using h.size, fun k hk hS => (Below.heap_setCell w p u k (fun e => hS (e ▸ hp))).trans (h.block k hk hS)⟩
theorem Ks.set1 {g : Nat} (h : Ks (fun k => k = g) a w) (i : Nat) (u : Value) : Ks (fun k => k = g) a (w.setCell ⟨g, i, none⟩ u) := h.set (p := ⟨g, i, none⟩) rfl u
theorem Ks.drew (h : Ks S a w) : Ks S a w.drew := ⟨h.os, h.tape, h.output, h.size, h.block⟩
theorem Ks.blk {g : Nat} {t : TypeId} {cs : Array Value} (h : Ks S w w') (hb : Blk w g t cs) (hg : ¬ S g) : Blk w' g t cs := (h.block g hb.lt hg).trans hb
theorem Ks.below {w0 : World} (h : Ks S w w') (hb : Below w0.heap.size w0 w) (hS : ∀ k, S k → w0.heap.size ≤ k) : Below w0.heap.size w0 w' :=
  ⟨h.os.trans hb.os, h.tape.trans hb.tape, h.output.trans hb.output, Nat.le_trans hb.size h.size, fun k hk => (h.block k (Nat.lt_of_lt_of_le hk hb.size) (fun hs => by have := hS k hs; omega)).trans (hb.block k hk)⟩
theorem Ks.mono {S' : Nat → Prop} (h : Ks S w w') (hS : ∀ k, S k → S' k) : Ks S' w w' := ⟨h.os, h.tape, h.output, h.size, fun k hk hn => h.block k hk fun hs => hn (hS k hs)⟩
end
end Go.Proofs.YteopkdmlcjndcaaDoor.Snapy
