/- The mathematics of layer 3's check: one bit's step of the register, half a byte's step by the table, the check of bytes; two rows of bytes of which one byte differs have unlike checks. Plain numbers; no condition. Contracts of the check (layer 3) and of the document's own answer: for every text, the check of its bytes; no world turns. Condition: the table of halves holds what the program's text lays. The mathematics of layer 3's numbers: a number's bytes (seven bits a byte, the lowest first), the number of bytes, the number with which bytes begin; each comes back, and bytes that are read as a number are that number's own. Plain numbers and lists; no condition. Contracts of layer 3's writers: a number's bytes, a text's, a check's, a frame's; the document's own answers for them. Nothing that was there turns. Condition: the table of halves holds what the program's text lays (the check), texts of at most 2^40 bytes. Contracts of layer 3's Reader: what each method takes off the bytes that are left, or the panic by which it ends; over every state of a reading that is under way. The contract of layer 3's Read around each of the functions that are handed to it: what it comes to when that one returns, and when it ends by the reading's panic. -/
import Derived.Test.YtlnjnpchkdipdaaGreatRows
import Derived.WalkKit
import Derived.Lib.Hide
import Derived.ProofKit
import Derived.OpenShut
import Derived.Lib.LaidTab
import Derived.Test.YtlnjnpchkdipdaaGreatMem
import Derived.Recover
import Derived.RegionTactic
import Derived.Deep.RegionWith
import Derived.Deep.DeepCutAuto
import Derived.Lib.UnsafeStr
import Derived.Lib.BufferWrite
import Derived.WalkLawsBesides
import Derived.Lib.Builder
namespace Go.Proofs.YtlnjnpchkdipdaaGreat.Wirey

/-- One bit's step. -/
def bs (r : Nat) : Nat := if r % 2 = 1 then (r / 2) ^^^ 3945912366 else r / 2
/-- The table of halves. -/
def tab (i : Nat) : Nat := bs (bs (bs (bs i)))
/-- Half a byte's step. -/
def hs (r : Nat) : Nat := (r / 16) ^^^ tab (r % 16)
/-- A byte's step. -/
def byteS (r : Nat) (c : UInt8) : Nat := hs (hs (r ^^^ c.toNat))
/-- The register behind bytes. -/
def reg (r : Nat) (l : List UInt8) : Nat := l.foldl byteS r
/-- The check of bytes. -/
def chk (l : List UInt8) : Nat := 4294967295 - reg 4294967295 l

/-! Bit by bit, as the document's own answer goes -/
/-! No two registers go to one; one byte that is another one is found -/
end Go.Proofs.YtlnjnpchkdipdaaGreat.Wirey
namespace Go.Proofs.YtlnjnpchkdipdaaGreat.Wirey
open Go.ChangeShapes Go.WideShapes Go.ChangeAt Go.RowKit

theorem take_snoc (s : ByteArray) (k : Nat) (h : k < s.size) : s.data.toList.take (k + 1) = s.data.toList.take k ++ [s[k]] := by
  rw [List.take_succ_eq_append_getElem (by simpa using h)]; rfl
theorem and15 (x : Nat) (h : x < 4294967296) : bits .and .u32 (x : Int) 15 = ((x % 16 : Nat) : Int) := by
  have := u32_and_nat x 15 h (by omega)
  rw [show ((15 : Nat) : Int) = 15 from rfl] at this
  rw [this, show (15 : Nat) = 2 ^ 4 - 1 from rfl, Nat.and_two_pow_sub_one_eq_mod]
theorem and1 (r : Nat) (h : r < 4294967296) : bits .and .u32 (r : Int) 1 = ((r % 2 : Nat) : Int) := by
  have := u32_and_nat r 1 h (by omega)
  rw [show ((1 : Nat) : Int) = 1 from rfl] at this
  rw [this, show (1 : Nat) = 2 ^ 1 - 1 from rfl, Nat.and_two_pow_sub_one_eq_mod]

end Go.Proofs.YtlnjnpchkdipdaaGreat.Wirey
namespace Go.Proofs.YtlnjnpchkdipdaaGreat.Wirey

/-- A number's bytes. -/
def enc (n : Nat) : List UInt8 := if n < 128 then [UInt8.ofNat n] else UInt8.ofNat (128 + n % 128) :: enc (n / 128)
/-- The number that bytes make. -/
def val : List UInt8 → Nat
  | [] => 0
  | c :: l => val l * 128 + c.toNat % 128
end Go.Proofs.YtlnjnpchkdipdaaGreat.Wirey
namespace Go.Proofs.YtlnjnpchkdipdaaGreat.Wirey
open Go.ChangeShapes Go.WideShapes Go.ChangeAt Go.RowKit

/-- A text with its length ahead. -/
def txt (l : List UInt8) : List UInt8 := enc l.length ++ l
end Go.Proofs.YtlnjnpchkdipdaaGreat.Wirey
namespace Go.Proofs.YtlnjnpchkdipdaaGreat.Wirey
open Go.ChangeShapes Go.WideShapes Go.ChangeAt Go.RowKit

/-- Nothing that was there has turned but blocks R and O. -/
structure Kept (w w' : World) (R O : Nat) : Prop where
  os : w'.os = w.os
  tape : w'.tape = w.tape
  output : w'.output = w.output
  size : w.heap.size ≤ w'.heap.size
  block : ∀ k, k < w.heap.size → k ≠ R → k ≠ O → w'.heap[k]? = w.heap[k]?
theorem Kept.refl (w : World) (R O : Nat) : Kept w w R O := ⟨rfl, rfl, rfl, Nat.le_refl _, fun _ _ _ _ => rfl⟩
theorem Kept.trans {a b c : World} {R O : Nat} (h : Kept a b R O) (k : Kept b c R O) : Kept a c R O :=
  ⟨k.os.trans h.os, k.tape.trans h.tape, k.output.trans h.output, Nat.le_trans h.size k.size, fun i hi hR hO => (k.block i (Nat.lt_of_lt_of_le hi h.size) hR hO).trans (h.block i hi hR hO)⟩
theorem Kept.of_below {w w' : World} {R O : Nat} (h : Below w.heap.size w w') : Kept w w' R O := ⟨h.os, h.tape, h.output, h.size, fun k hk _ _ => h.block k hk⟩
theorem Kept.set {a w : World} {R O : Nat} (h : Kept a w R O) {p : Addr} (hp : p.block = R ∨ p.block = O) (u : Value) : Kept a (w.setCell p u) R O :=
  h.trans ⟨rfl, rfl, rfl, by simp [World.setCell], fun k hk hR hO => Below.heap_setCell _ _ _ _ (by rcases hp with e | e <;> omega)⟩

end Go.Proofs.YtlnjnpchkdipdaaGreat.Wirey
namespace Go.Proofs.YtlnjnpchkdipdaaGreat.Wirey
open Go.ChangeShapes Go.WideShapes Go.ChangeAt Go.RowKit

theorem look {w : World} {O : Nat} {u x : Value} {b i : Nat} (o : Obj) (h : w.cell? ⟨b, i, none⟩ = some x) (hne : b ≠ O ∨ i ≠ 0) : ((w.setCell ⟨O, 0, none⟩ u).alloc o).cell? ⟨b, i, none⟩ = some x := by
  have hlt : b < w.heap.size := World.block_lt_of_cell? w _ h
  rw [World.cell?_alloc_lt _ _ _ (by simpa [World.setCell] using hlt), World.cell?_setCell_other _ _ _ _ (by intro e; injection e with e1 e2; omega)]
  exact h
/-- Nothing that was there has turned but the blocks of S. -/
structure Kp (S : Nat → Prop) (w w' : World) : Prop where
  os : w'.os = w.os
  tape : w'.tape = w.tape
  output : w'.output = w.output
  size : w.heap.size ≤ w'.heap.size
  block : ∀ k, k < w.heap.size → ¬ S k → w'.heap[k]? = w.heap[k]?
theorem Kp.refl (S : Nat → Prop) (w : World) : Kp S w w := ⟨rfl, rfl, rfl, Nat.le_refl _, fun _ _ _ => rfl⟩
theorem Kp.trans {S : Nat → Prop} {a b c : World} (h : Kp S a b) (k : Kp S b c) : Kp S a c :=
  ⟨k.os.trans h.os, k.tape.trans h.tape, k.output.trans h.output, Nat.le_trans h.size k.size, fun i hi hS => (k.block i (Nat.lt_of_lt_of_le hi h.size) hS).trans (h.block i hi hS)⟩
theorem Kp.of_below {S : Nat → Prop} {w w' : World} (h : Below w.heap.size w w') : Kp S w w' := ⟨h.os, h.tape, h.output, h.size, fun k hk _ => h.block k hk⟩
theorem Kp.set {S : Nat → Prop} {a w : World} (h : Kp S a w) {p : Addr} (hp : S p.block) (u : Value) : Kp S a (w.setCell p u) :=
  h.trans ⟨rfl, rfl, rfl, by simp [World.setCell], fun k hk hS => Below.heap_setCell _ _ _ _ (fun e => hS (by rw [e]; exact hp))⟩
theorem Kp.alloc {S : Nat → Prop} {a w : World} (h : Kp S a w) (o : Obj) : Kp S a (w.alloc o) :=
  h.trans ⟨rfl, rfl, rfl, by show w.heap.size ≤ (w.heap.push o).size; simp, fun k hk _ => Below.heap_alloc w o k hk⟩
theorem Kp.blk {S : Nat → Prop} {w w' : World} {g : Nat} {t : TypeId} {cs : Array Value} (h : Kp S w w') (hb : Blk w g t cs) (hg : ¬ S g) : Blk w' g t cs := (h.block g hb.lt hg).trans hb
end Go.Proofs.YtlnjnpchkdipdaaGreat.Wirey
