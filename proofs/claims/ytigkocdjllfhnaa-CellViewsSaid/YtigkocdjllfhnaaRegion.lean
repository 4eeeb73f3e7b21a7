/- A region that draws its order and does not panic: one step after the other. No condition. -/
import Derived.Test.YtigkocdjllfhnaaMem
import Derived.Deep.RegionHeld3
namespace Go.Proofs.Ytigkocdjllfhnaa.Regy
open Go.ChangeShapes Go.WideShapes Go.ChangeAt Go.RowKit

/-- The post where the region ends as it should; nothing else. -/
def Only (Q : Exit → Act → World → Prop) : Exit → Act → World → Prop := fun e a w => e = .normal ∧ Q .normal a w
theorem Only.panic {Q : Exit → Act → World → Prop} {c : _} {a a' : Act} {w : World} (h : Only Q (.panic c) a w) : Only Q (.panic c) a' w := by cases h.1
theorem only_out {Q : Exit → Act → World → Prop} : ¬ LetsOut (Only Q) := fun ⟨_, _, h⟩ => by cases h.1
section
variable {P : Program} {md : Region.Mode} {ops : Array Oper} {Q : Exit → Act → World → Prop}
/-- An operation of the region is taken first, its slot named. -/
theorem take_at (i d : Nat) (v : Value) {S : World → Prop} {oi : Oper} {fuel : Nat} {listed : Array Bool} {T : Array Value} {D : List Deferred} {w : World} (hi : ops[i]? = some oi) (hd : oi.dst = some d)
    (hs : Region.noSelect ops = true) (hf : Region.free md ops listed i = true) (hr : (Region.ready md ops listed).contains i = true)
    (hy : YieldsIf P ops S oi v { tmps := T, defers := D }) (hS : S w)
    (h : wpAnyH P md ops (Only Q) S fuel (listed.setIfInBounds i true) { tmps := T.setIfInBounds d v, defers := D } w) : wpAnyH P md ops (Only Q) S (fuel + 1) listed { tmps := T, defers := D } w := by
  refine wpAnyH_take hi hs hf hr (fun _ _ _ h => h.panic) hy hS ?_
  rw [hd]
  exact h
theorem region_only (k : Nat) (L : Array Bool) {S : World → Prop} {id : Nat} {a : Act} {w : World} (hk : ops.size = k) (hL : L = Array.replicate k false) (hm : P.follows .mixedOrders = true) (hS : S w.drew)
    (h : S w.drew → wpAnyH P .any ops (Only Q) S k L a w.drew) : (Code.region id ops true).wp P Q a w := by
  subst hk hL
  exact wp_mono (wp_region_held_drew (S := S) hm hS h) fun e a w ⟨h1, h2⟩ => by subst h1; exact h2
end
end Go.Proofs.Ytigkocdjllfhnaa.Regy
