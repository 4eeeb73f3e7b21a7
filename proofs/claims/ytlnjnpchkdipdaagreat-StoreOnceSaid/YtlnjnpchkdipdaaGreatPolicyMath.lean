/- Chapter 9 over plain lists: a policy is of the one kind or the other, and all calls are that one's. It speaks of no program. -/
import Derived.Test.YtlnjnpchkdipdaaGreatArcMath
import Derived.Test.YtlnjnpchkdipdaaGreatTinyMath
namespace Go.Proofs.YtlnjnpchkdipdaaGreat.Policyy
open Ringy
open Arcy (Av)
open Tinyy (Tv)

inductive Pv where
  | a (v : Av)
  | t (v : Tv)
def Pv.kind : Pv → Nat
  | .a _ => 1
  | .t _ => 2
def Pv.has : Pv → Key → Bool
  | .a v, k => v.has k
  | .t v, k => v.has k
def Pv.kept : Pv → Nat
  | .a v => v.kept
  | .t v => v.kept
def Pv.touch : Pv → Key → Pv
  | .a v, k => .a (v.touch k)
  | .t v, k => .t (v.touch k)
def Pv.miss : Pv → Key → Pv
  | .a v, _ => .a v
  | .t v, k => if v.has k = true then .t v else .t (v.miss k)
def Pv.insert : Pv → Key → Pv
  | .a v, k => .a (v.insert k)
  | .t v, k => .t (v.insert k)
def Pv.insertK : Pv → Key → List Key
  | .a v, k => v.insertK k
  | .t v, k => v.insertK k
def Pv.drop : Pv → Key → Pv
  | .a v, k => .a (v.dr k)
  | .t v, k => .t (v.dr k)
def Pv.goes : Pv → Option Key
  | .a v => v.last (v.src false)
  | .t v => v.goes
def Pv.evict : Pv → Pv
  | .a v => .a (v.repl false)
  | .t v => .t v.evict
def Pv.new (kind n seed : Nat) : Pv := if kind = 1 then .a (Av.new n) else .t (Tv.new n seed)
/-- Nothing lies in lists that there are not. -/
def Pv.Out : Pv → Prop
  | .a v => v.Ok ∧ ∀ i, 4 ≤ i → v.rg.l i = []
  | .t v => v.Ok ∧ ∀ i, 3 ≤ i → v.rg.l i = []
theorem Pv.Out.lens {p : Pv} (h : p.Out) (k : Key) : (p.insertK k).length ≤ 100000 := by
  cases p with
  | a v =>
    show (v.insertK k).length ≤ 100000
    unfold Arcy.Av.insertK
    split
    · exact Nat.zero_le _
    · have := (Arcy.Av.ins_spec h.1 (k := k) (by omega)).glen
      omega
  | t v =>
    show (v.insertK k).length ≤ 100000
    unfold Tinyy.Tv.insertK
    split
    · exact Nat.zero_le _
    · have := (Tinyy.Tv.ins_spec h.1 (k := k) (by omega)).glen
      omega
end Go.Proofs.YtlnjnpchkdipdaaGreat.Policyy
