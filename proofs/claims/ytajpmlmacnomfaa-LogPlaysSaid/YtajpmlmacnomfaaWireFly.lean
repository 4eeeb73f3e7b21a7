/- The contract of layer 3's Read around each of the functions that are handed to it: what it comes to when that one returns, and when it ends by the reading's panic. -/
import Derived.Test.YtajpmlmacnomfaaWireOps
import Derived.Lib.Builder
namespace Go.Proofs.Ytajpmlmacnomfaa.Wirey
open Go.ChangeShapes Go.WideShapes Go.ChangeAt Go.RowKit

theorem look {w : World} {O : Nat} {u x : Value} {b i : Nat} (o : Obj) (h : w.cell? ⟨b, i, none⟩ = some x) (hne : b ≠ O ∨ i ≠ 0) : ((w.setCell ⟨O, 0, none⟩ u).alloc o).cell? ⟨b, i, none⟩ = some x := by
  have hlt : b < w.heap.size := World.block_lt_of_cell? w _ h
  rw [World.cell?_alloc_lt _ _ _ (by simpa [World.setCell] using hlt), World.cell?_setCell_other _ _ _ _ (by intro e; injection e with e1 e2; omega)]
  exact h
theorem look_free {w : World} {O : Nat} {u x : Value} {b i : Nat} (o : Obj) (hc : w.cell? ⟨b, i, none⟩ = some x) (h : w.frozen? ⟨b, i, none⟩ = false) (hne : b ≠ O) : ((w.setCell ⟨O, 0, none⟩ u).alloc o).frozen? ⟨b, i, none⟩ = false := by
  have hlt : b < w.heap.size := World.block_lt_of_cell? w _ hc
  rw [← h]
  refine World.frozen?_of_block ?_
  rw [Below.heap_alloc _ _ _ (by simpa [World.setCell] using hlt), Below.heap_setCell _ _ _ _ hne]

/-- Nothing that was there has turned but the blocks of S. -/
structure Kp (S : Nat → Prop) (w w' : World) : Prop where
  os : w'.os = w.os
  tape : w'.tape = w.tape
  output : w'.output = w.output
  size : w.heap.size ≤ w'.heap.size
  block : ∀ k, k < w.heap.size → ¬ S k → w'.heap[k]? = w.heap[k]?
theorem Kp.refl (S : Nat → Prop) (w : World) : Kp S w w := ⟨rfl, rfl, rfl, Nat.le_refl _, fun _ _ _ => rfl⟩
theorem Kp.trans {S : Nat → Prop} {a b c : World} (h : Kp S a b) (k : Kp S b c) : Kp S a c :=
  ⟨k.os.trans h.os, k.tape.trans h.tape, k.output.trans h.output, Nat.le_trans h.size k.size, fun i hi hS => (k.block i (Nat.lt_of_lt_of_le hi h.size) hS).trans (h.block i hi hS)⟩
theorem Kp.of_kept {S : Nat → Prop} {w w' : World} {R O : Nat} (h : Kept w w' R O) (hR : S R) (hO : S O) : Kp S w w' :=
  ⟨h.os, h.tape, h.output, h.size, fun k hk hS => h.block k hk (fun e => hS (e ▸ hR)) (fun e => hS (e ▸ hO))⟩
theorem Kp.of_below {S : Nat → Prop} {w w' : World} (h : Below w.heap.size w w') : Kp S w w' := ⟨h.os, h.tape, h.output, h.size, fun k hk _ => h.block k hk⟩
theorem Kp.set {S : Nat → Prop} {a w : World} (h : Kp S a w) {p : Addr} (hp : S p.block) (u : Value) : Kp S a (w.setCell p u) :=
  h.trans ⟨rfl, rfl, rfl, by simp [World.setCell], fun k hk hS => Below.heap_setCell _ _ _ _ (fun e => hS (by rw [e]; exact hp))⟩
theorem Kp.alloc {S : Nat → Prop} {a w : World} (h : Kp S a w) (o : Obj) : Kp S a (w.alloc o) :=
  h.trans ⟨rfl, rfl, rfl, by show w.heap.size ≤ (w.heap.push o).size; simp, fun k hk _ => Below.heap_alloc w o k hk⟩
theorem Kp.blk {S : Nat → Prop} {w w' : World} {g : Nat} {t : TypeId} {cs : Array Value} (h : Kp S w w') (hb : Blk w g t cs) (hg : ¬ S g) : Blk w' g t cs := (h.block g hb.lt hg).trans hb
/-- Of what was there when Read began, what its function left stands at the end. -/
theorem Kp.then_ {S C : Nat → Prop} {w w1 w2 w3 : World} (h1 : Below w.heap.size w w1) (h2 : Kp S w1 w2) (h3 : Below w.heap.size w2 w3) (hS : ∀ k, k < w.heap.size → S k → C k) : Kp C w w3 :=
  ⟨h3.os.trans (h2.os.trans h1.os), h3.tape.trans (h2.tape.trans h1.tape), h3.output.trans (h2.output.trans h1.output), Nat.le_trans h1.size (Nat.le_trans h2.size h3.size),
    fun k hk hC => (h3.block k hk).trans ((h2.block k (Nat.lt_of_lt_of_le hk h1.size) (fun s => hC (hS k hk s))).trans (h1.block k hk))⟩

/-- What is told of bytes that are left. -/
def endE (m : List UInt8) : Nat := if m = [] then 0 else 5
theorem endE_nil : endE [] = 0 := rfl
theorem endE_some {m : List UInt8} (h : m ≠ []) : (endE m : Int) = 5 := by unfold endE; rw [if_neg h]; rfl
end Go.Proofs.Ytajpmlmacnomfaa.Wirey
