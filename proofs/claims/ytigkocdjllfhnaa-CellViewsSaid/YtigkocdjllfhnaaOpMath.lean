/- Chapter 10 over plain values: which operations may be, and their bytes. It speaks of no program. -/
import Derived.Test.YtigkocdjllfhnaaWireEnc
import Derived.Test.YtigkocdjllfhnaaMem
namespace Go.Proofs.Ytigkocdjllfhnaa.Opy
open Wirey (enc txt)


/-- May an operation be? -/
def chk (k : Int) (key val : List UInt8) (t v : Nat) : Bool :=
  if 64 < key.length ∨ 4096 < val.length ∨ 1073741824 < t then false
  else if k = 1 ∨ k = 3 then !key.isEmpty && (val.isEmpty && decide (t = 0)) && decide (v = 0)
  else if k = 2 then !key.isEmpty && decide (v = 0)
  else if k = 4 then !key.isEmpty && decide (0 < v)
  else if k = 5 then key.isEmpty && (val.isEmpty && decide (t = 0)) && decide (v = 0)
  else false
def opB (k : Int) (key val : List UInt8) (t v : Nat) : List UInt8 :=
  enc k.toNat ++ ((if k = 5 then [] else txt key) ++ ((if k = 2 ∨ k = 4 then txt val ++ enc t else []) ++ (if k = 4 then enc v else [])))
def replyB (n : Nat) (l : List UInt8) (v : Nat) : List UInt8 := enc n ++ (txt l ++ enc v)
def recB (q n s m : Nat) (o : List UInt8) : List UInt8 := enc q ++ (enc n ++ (enc s ++ (enc m ++ o)))
theorem isEmpty_or (l : List UInt8) : l = [] ∨ ∃ c m, l = c :: m := by cases l; exact .inl rfl; exact .inr ⟨_, _, rfl⟩
end Go.Proofs.Ytigkocdjllfhnaa.Opy
