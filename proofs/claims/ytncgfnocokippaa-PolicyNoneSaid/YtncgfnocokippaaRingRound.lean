/- A region that draws its order, inside a round of a range over a function: whatever is shown of it by the laws for regions outside a round holds there, if it defers nothing. No condition. -/
import Derived.Test.YtncgfnocokippaaRingRange
import Derived.Deep.RegionHeld3
namespace Go.Proofs.Ytncgfnocokippaa.Ringy
open Go.ChangeShapes Go.WideShapes Go.ChangeAt Go.RowKit Go.Shelf

/-- The post where the region ends as it should; nothing else. -/
def Only (Q : Exit → Act → World → Prop) : Exit → Act → World → Prop := fun e a w => e = .normal ∧ Q .normal a w
theorem Only.panic {Q : Exit → Act → World → Prop} {c : _} {a a' : Act} {w : World} (h : Only Q (.panic c) a w) : Only Q (.panic c) a' w := by cases h.1
theorem only_out {Q : Exit → Act → World → Prop} : ¬ LetsOut (Only Q) := fun ⟨_, _, h⟩ => by cases h.1
section
variable {P : Program} {md : Region.Mode} {ops : Array Oper} {Q : Exit → Act → World → Prop}
theorem op_round {l n i : Nat} (hnd : ∀ (i : Nat) (o : Oper), ops[i]? = some o → ∀ c, o.op ≠ .defer c) {K K' : Act → World → Prop} (hK : ∀ a w, K a w → K' a w) {a : Act} {w : World} (h : wpOp P ops (Only Q) i K a w) :
    wpOpIn (Fence.wide.inRound l) n P ops (Only Q) i K' a w := by
  unfold wpOp at h
  unfold wpOpIn
  cases ho : ops[i]? with
  | none => rw [ho] at h; exact hK _ _ h
  | some o =>
    rw [ho] at h
    dsimp only at h ⊢
    by_cases hw : Region.wanted o (yielded ops a.tmps) = true
    · rw [if_pos hw] at h ⊢
      rcases h with h | ⟨_, h⟩
      · unfold Oper.wp at h
        unfold Oper.wpIn
        refine ⟨fun _ _ => trivial, ?_⟩
        rw [Oper.semAt_eq _ _ _ (hnd i o ho)]
        generalize (execOp a.eval o).run P w = r at *
        cases r with
        | ok x w' =>
          cases x with
          | value v => exact hK _ _ h
          | skip => exact hK _ _ h
          | defer d => exact hK _ _ h
          | enter f args =>
            refine ⟨fun hd => absurd (show (none : Option Nat).isSome = true from hd) (by decide), CallsIn.inRound _ (callsIn_wide.2 (Calls.mono h fun e w'' he => ?_))⟩
            cases e with
            | returned v => exact hK _ _ he
            | panicked c => exact he
            | outgrown => exact he
          | row row args =>
            refine ⟨fun hd => absurd (show (none : Option Nat).isSome = true from hd) (by decide), fun c cs _ => ?_⟩
            obtain ⟨v, w2, r, s⟩ := h c cs
            exact ⟨v, w2, hK _ _ r, stepsIn_wide.2 s⟩
          | _ => exact h.elim
        | halt x w' =>
          cases x with
          | panic v => exact h
          | _ => exact h.elim
      · exact absurd h only_out
    · rw [if_neg hw] at h ⊢
      exact ⟨fun _ _ => trivial, hK _ _ h⟩
theorem any_round {l n : Nat} (hnd : ∀ (i : Nat) (o : Oper), ops[i]? = some o → ∀ c, o.op ≠ .defer c) : ∀ (fuel : Nat) (listed : Array Bool) (a : Act) (w : World), wpAny P md ops (Only Q) fuel listed a w → wpAnyIn (Fence.wide.inRound l) n P md ops (Only Q) fuel listed a w
  | 0, _, _, _, h => h
  | fuel + 1, _, _, _, h => ⟨h.1, fun i hi => op_round hnd (fun a w hh => any_round hnd fuel _ a w hh) (h.2 i hi)⟩
/-- An operation of the region is taken first, its slot named. -/
theorem take_at (i d : Nat) (v : Value) {S : World → Prop} {oi : Oper} {fuel : Nat} {listed : Array Bool} {T : Array Value} {D : List Deferred} {w : World} (hi : ops[i]? = some oi) (hd : oi.dst = some d)
    (hs : Region.noSelect ops = true) (hf : Region.free md ops listed i = true) (hr : (Region.ready md ops listed).contains i = true)
    (hy : YieldsIf P ops S oi v { tmps := T, defers := D }) (hS : S w)
    (h : wpAnyH P md ops (Only Q) S fuel (listed.setIfInBounds i true) { tmps := T.setIfInBounds d v, defers := D } w) : wpAnyH P md ops (Only Q) S (fuel + 1) listed { tmps := T, defers := D } w := by
  refine wpAnyH_take hi hs hf hr (fun _ _ _ h => h.panic) hy hS ?_
  rw [hd]
  exact h
theorem round_region (k : Nat) (L : Array Bool) {S : World → Prop} {l n id : Nat} {a : Act} {w : World} (hk : ops.size = k) (hL : L = Array.replicate k false) (hm : P.follows .mixedOrders = true) (hnd : (ops.all fun o => match o.op with | .defer _ => false | _ => true) = true) (hS : S w.drew)
    (h : S w.drew → wpAnyH P .any ops (Only Q) S k L a w.drew) : (Code.region id ops true).wpIn (Fence.wide.inRound l) n P Q a w := by
  subst hk hL
  refine wpIn_mono (Q := Only Q) (wpIn_region_any hm (any_round (fun i o ho c e => ?_) _ _ _ _ (wpAny_of_held _ _ _ _ (h hS)))) (fun e a w ⟨h1, h2⟩ => by subst h1; exact h2)
  have := Array.all_eq_true.1 hnd i (Array.getElem?_eq_some_iff.1 ho).1
  rw [(Array.getElem?_eq_some_iff.1 ho).2] at this
  simp only [e] at this
  cases this
/-- A region outside a round that does not panic: the same steps. -/
theorem region_only (k : Nat) (L : Array Bool) {S : World → Prop} {id : Nat} {a : Act} {w : World} (hk : ops.size = k) (hL : L = Array.replicate k false) (hm : P.follows .mixedOrders = true) (hS : S w.drew)
    (h : S w.drew → wpAnyH P .any ops (Only Q) S k L a w.drew) : (Code.region id ops true).wp P Q a w := by
  subst hk hL
  exact wp_mono (wp_region_held_drew (S := S) hm hS h) fun e a w ⟨h1, h2⟩ => by subst h1; exact h2
end
end Go.Proofs.Ytncgfnocokippaa.Ringy
