/- Ranges over Keys, for walks outside a fence: the statement's law, a function's contract where its body holds such statements, its leaving. No condition. -/
import Derived.Test.YtncgfnocokippaaRingIter
namespace Go.Proofs.Ytncgfnocokippaa.Ringy
open Go.ChangeShapes Go.WideShapes Go.ChangeAt Go.RowKit Go.Shelf
open Wirey (Blk Row str str_size str_list Kp)
open Go.ChangeMaps Go.Maps

theorem own_low {w : World} {base : Nat} {e : TypeId} {size : Nat} {v : Value} {n : Nat} {xs : List Value} (h : w.ownsRow base e size v n xs) : w.ownsRow 0 e size v n xs := by
  rcases h with ⟨h1, h2 | ⟨g, cap, cur, hv, hg, h3⟩⟩
  · exact ⟨h1, .inl h2⟩
  · exact ⟨h1, .inr ⟨g, cap, cur, hv, Nat.zero_le _, h3⟩⟩
theorem calls_marks {P : Program} {f : FuncId} {fn : Func} {c : Code} {args : Array Value} {w : World} {R : Ending → World → Prop} (hf : P.funcs[f]? = some fn) (hb : fn.body = some c)
    (h : c.wp P (bodyPostM Fence.wide 5 P fn R) { tmps := args ++ Array.replicate (fn.ntmps - args.size) undef, defers := [] } w) : Calls P f args w R :=
  callsIn_wide.1 (callsIn_of_wp_marks hf hb trivial (wpIn_wide.2 h))

/-- Marks among the deferred calls: each a block of its own, from B on, in which no call waits. -/
def Marked (B : Nat) (W : World) : List Deferred → Prop
  | [] => True
  | d :: ds => (∃ D, d.target = .collected D ∧ B ≤ D ∧ W.heap[D]? = some (.deferred (some [])) ∧ ∀ d' ∈ ds, d'.target ≠ .collected D) ∧ Marked B W ds
theorem Marked.keep {B : Nat} {W W' : World} : ∀ {ds : List Deferred}, Marked B W ds → (∀ (k : Nat) (d : Deferred), d ∈ ds → d.target = .collected k → W'.heap[k]? = W.heap[k]?) → Marked B W' ds
  | [], _, _ => trivial
  | d :: ds, ⟨⟨D, h1, h2, h3, h4⟩, h5⟩, hk => ⟨⟨D, h1, h2, (hk D d (by simp) h1).trans h3, h4⟩, h5.keep fun k d' hd' => hk k d' (List.mem_cons_of_mem _ hd')⟩
theorem Marked.lt {B : Nat} {W : World} : ∀ {ds : List Deferred}, Marked B W ds → ∀ (k : Nat) (d : Deferred), d ∈ ds → d.target = .collected k → B ≤ k ∧ k < W.heap.size ∧ W.heap[k]? = some (.deferred (some []))
  | d :: ds, ⟨⟨D, h1, h2, h3, _⟩, h5⟩, k, d', hd, hk => by
    rcases List.mem_cons.1 hd with e | e
    · subst e
      rw [h1] at hk
      cases hk
      exact ⟨h2, (Array.getElem?_eq_some_iff.1 h3).1, h3⟩
    · exact h5.lt k d' e hk
theorem below_put {B D : Nat} {W : World} (o : Obj) (hB : B ≤ D) (hD : D < W.heap.size) : Below B W (W.putObj D o) :=
  (Below.refl B W).grown (grownBy_putObj' W D o) (by omega) (fun k e => by cases e; exact hB)
theorem leave_marks {P : Program} {fn : Func} {tmps : Array Value} {R : Ending → World → Prop} {B : Nat} {v : Value} (hres : ∀ w, (results fn tmps).run P w = .ok v w) : ∀ (ds : List Deferred) (W : World), Marked B W ds →
    (∀ W', Below B W W' → R (.returned v) W') → LeavesInM Fence.wide 5 P fn tmps R ds .returning W
  | [], W, _, h => ⟨v, hres W, h W (Below.refl _ _)⟩
  | d :: ds, W, ⟨⟨D, h1, h2, h3, h4⟩, h5⟩, h => by
    have hD : D < W.heap.size := (Array.getElem?_eq_some_iff.1 h3).1
    refine ⟨by simp, .inl ⟨D, _, h1, run_takeDeferred h3, leave_marks hres ds _ (h5.keep fun k d' hd' hk => World.putObj_heap_other (fun e => h4 d' hd' (by rw [hk, e]))) fun W' hb => h W' ((below_put _ h2 hD).trans hb)⟩⟩

/-- What speaks of blocks below B alone. -/
theorem ownFrom_of {β : Type} {B : Nat} {I : β → World → Prop} (h : ∀ s W W', I s W → B ≤ W.heap.size ∧ (W'.os = W.os → W'.tape = W.tape → W'.output = W.output → W.heap.size ≤ W'.heap.size → (∀ k, k < B → W'.heap[k]? = W.heap[k]?) → I s W')) : OwnFrom B I :=
  fun s W W' row hs hg hr => by
    obtain ⟨hB, hk⟩ := h s W W' hs
    exact hk hg.os hg.tape hg.output hg.size fun k hk2 => hg.block k (by omega) (fun e => by have := (hr k e.symm).1; omega)

/-- A range over the function that Keys handed back. -/
theorem range_keys {g : Operand} {ps : Array Tmp} {assign body : Code} {Q : Exit → Act → World → Prop} {a : Act} {w : World} {B n₀ : Nat} {l : List Key} (hg : a.eval g = keysF B) (hbox : Boxes w n₀ B l) (hlen : l.length ≤ 1000000) (hps : ps.size = 1)
    (I : List Key → World → Prop) (Ix : Code → List Key → World → Prop) (hI : OwnFrom w.heap.size I) (hIx : ∀ c, OwnFrom w.heap.size (Ix c)) (h0 : I [] w) (a₁ : Key → Act)
    (hassign : ∀ (r : Nat) (x : Key) (W : World) (K : Act → World → Prop), K (a₁ x) W → assign.wpIn (Fence.wide.inRound r) 3 Try.prog (Exit.then K (fun _ _ _ => False)) { tmps := (ps.zip #[Value.string (str x)]).foldl (fun t (p, v) => t.setIfInBounds p v) a.tmps, defers := [] } W)
    (hbody : ∀ (v : Value), (∀ b, v.ownBlock = some b → n₀ ≤ b ∧ b < w.heap.size) → ∀ (r : Nat) (pre : List Key) (x : Key) (W : World), I pre W → pre.length < l.length → body.wpIn (Fence.wide.inRound r) 3 Try.prog (ownPostG w.heap.size (RowK v) I Ix (pre ++ [x]) W) (a₁ x) W)
    (hdone : ∀ (D : Nat) (W : World), w.heap.size ≤ D → I l W → W.heap[D]? = some (.deferred (some [])) → Q .normal { a with defers := { target := .collected D, args := #[] } :: a.defers } W)
    (hstop : ∀ (D : Nat) (c : Code) (pre : List Key) (W : World), w.heap.size ≤ D → pre <+: l → Ix c pre W → W.heap[D]? = some (.deferred (some [])) → c.wp Try.prog Q { a with defers := { target := .collected D, args := #[] } :: a.defers } W) :
    (Code.rangeFunc g ps assign body).wp Try.prog Q a w := by
  obtain ⟨v, hb, hrow⟩ := hbox.box
  have hv := hrow.lt
  refine (wpIn_wide (n := 5)).1 (wpIn_rangeFunc_ownG (F := Fence.wide) (n := 5) (w := w) rfl (by omega) (gf := 96) (lb := #[.pointer (some ⟨B, 0, none⟩)]) hg trivial (enters_of Try.func96 (by kernel_rfl) rfl)
    (values_stops 4 (by omega) B v l hlen w hb.lt (hb.cell 0) (own_low hrow)) rowK_t (rowK_b fun g e => (hv g e).2) (Below.refl _ _) (fun _ => hps.symm) I Ix hI hIx h0 a₁ hassign (hbody v hv)
    (fun D ys W hD hy hI2 hK => by subst hy; exact hdone D W hD hI2 hK) (fun D c pre W hD hp hx hK => wpIn_wide.2 (hstop D c pre W hD hp hx hK)))
end Go.Proofs.Ytncgfnocokippaa.Ringy
