/- Chapter 13 over plain lists: records behind a place. It speaks of no program. -/
import Derived.Test.YtajpmlmacnomfaaSls
namespace Go.Proofs.Ytajpmlmacnomfaa.Logy
open Wirey (str)
/-- A record. -/
structure Rc where
  seq : Nat
  now : Nat
  ses : Nat
  num : Nat
  kind : Int
  key : List UInt8
  val : List UInt8
  ttl : Nat
  ver : Nat
/-- A record with a place and a number alone. -/
def Rc.of (seq num : Nat) : Rc := ⟨seq, 0, 0, num, 0, [], [], 0, 0⟩
abbrev Rc.enc (x : Rc) : List Value := [.int .u64 (x.seq : Int), .int .u64 (x.now : Int), .int .u64 (x.ses : Int), .int .u64 (x.num : Int), .int .i64 x.kind, .string (str x.key), .string (str x.val), .int .u64 (x.ttl : Int), .int .u64 (x.ver : Int)]
abbrev Rc.cs (x : Rc) : Array Value := #[.int .u64 (x.seq : Int), .int .u64 (x.now : Int), .int .u64 (x.ses : Int), .int .u64 (x.num : Int), .int .i64 x.kind, .string (str x.key), .string (str x.val), .int .u64 (x.ttl : Int), .int .u64 (x.ver : Int)]
theorem Rc.len (x : Rc) : x.enc.length = 9 := rfl
theorem Rc.one (x : Rc) : ∀ u ∈ x.enc, u.oneCell' = true := by intro u hu; simp only [List.mem_cons, List.not_mem_nil, or_false] at hu; rcases hu with rfl | rfl | rfl | rfl | rfl | rfl | rfl | rfl | rfl <;> rfl
/-- What Add tells, and leaves. -/
def addE (base most : Nat) (l : List Rc) (x : Rc) : Nat := if x.seq ≠ base + l.length + 1 then 123 else if most ≤ l.length then 130 else 0
def addL (base most : Nat) (l : List Rc) (x : Rc) : List Rc := if x.seq ≠ base + l.length + 1 then l else if most ≤ l.length then l else l ++ [x]
/-- What Slide tells, and leaves. -/
def slE (base : Nat) (l : List Rc) (x : Rc) : Nat := if x.seq ≠ base + l.length + 1 then 123 else 0
def slB (base most : Nat) (l : List Rc) (x : Rc) : Nat := if x.seq ≠ base + l.length + 1 then base else if most ≤ l.length then base + 1 else base
def slL (base most : Nat) (l : List Rc) (x : Rc) : List Rc := if x.seq ≠ base + l.length + 1 then l else if most ≤ l.length then l.tail ++ [x] else l ++ [x]
/-- How many go. -/
def cutN (base at_ : Nat) (l : List Rc) : Nat := min (at_ - base) l.length
/-- What From tells. -/
def inL (base : Nat) (l : List Rc) (seq : Nat) : Bool := decide (base ≤ seq) && decide (seq ≤ base + l.length)
def fromL (base : Nat) (l : List Rc) (seq : Nat) (most : Int) : List Rc := if base ≤ seq ∧ seq ≤ base + l.length then (l.drop (seq - base)).take most.toNat else []
end Go.Proofs.Ytajpmlmacnomfaa.Logy
