/- A law of orders (the program's order of evaluation is drawn): a condition on the world may hang on whether one named operation has come up already: what waits for a load by that operation may be taken first though stores come later. For tuple assignments of words of a row ('v[i], v[j] = f(v[i], v[j])', layer 4). No condition. -/
import Derived.Test.YteopkdmlcjndcaaDoorKit
import Derived.Deep.RegionHeld3
namespace Go.Proofs.YteopkdmlcjndcaaDoor.Wirey
open Go.ChangeShapes Go.WideShapes Go.ChangeAt Go.RowKit

section
variable {P : Program} {ops : Array Oper} {Q : Exit → Act → World → Prop} {md : Region.Mode}
/-- Any order from here on; behind each operation C holds, and V too till number k has come up. -/
def wpAnyK (P : Program) (md : Region.Mode) (ops : Array Oper) (Q : Exit → Act → World → Prop) (C V : World → Prop) (k : Nat) : Nat → Array Bool → Act → World → Prop
  | 0, li, a, w => Region.ready md ops li = [] ∧ Q .normal a w
  | n + 1, li, a, w => (Region.ready md ops li = [] → Q .normal a w) ∧ ∀ i ∈ Region.ready md ops li,
      wpOp P ops Q i (fun b u => (C u ∧ ((li.setIfInBounds i true).getD k false = false → V u)) ∧ wpAnyK P md ops Q C V k n (li.setIfInBounds i true) b u) a w
variable {C V : World → Prop} {k : Nat}
theorem wpAny_of_K : ∀ (n : Nat) (li : Array Bool) (a : Act) (w : World), wpAnyK P md ops Q C V k n li a w → wpAny P md ops Q n li a w := by
  intro n
  induction n with
  | zero => exact fun _ _ _ h => h
  | succ n ih => exact fun _ _ _ h => ⟨h.1, fun i hi => wpOp_mono (fun _ _ hh => ih _ _ _ hh.2) (h.2 i hi)⟩
/-- The general law: 'ok' is what the order has kept to so far, T what the operation wants of the world. -/
theorem wpAnyK_first {ok : Array Bool → Prop} {T : World → Prop} {i : Nat} {oi : Oper} {v : Value} (hi : ops[i]? = some oi) (hs : Region.noSelect ops = true) (hik : i ≠ k)
    (hQ : ∀ c a w, Q (.panic c) (a.put oi.dst v) w → Q (.panic c) a w)
    (hT : ∀ li w, ok li → C w → (li.getD k false = false → V w) → T w)
    (hok : ∀ li j oj, ok li → ops[j]? = some oj → (∀ e ∈ oj.after, Region.binds md e = true → e.on ≠ i) → ok (li.setIfInBounds j true)) :
    ∀ (n : Nat) (li : Array Bool) (a : Act) (w : World), Region.free md ops li i = true ∨ (∀ j oj, ops[j]? = some oj → j ≠ i → li.getD j true = false → (∀ e ∈ oj.after, Region.binds md e = true → e.on ≠ i) → oi.apart ops oj = true) →
      i ∈ Region.ready md ops li → ok li → YieldsIf P ops T oi v a → C w → (li.getD k false = false → V w) →
      wpAnyK P md ops Q C V k n (li.setIfInBounds i true) (a.put oi.dst v) w → wpAnyK P md ops Q C V k (n + 1) li a w := by
  have hsel := Region.noSelect_spec hs
  have hkk : ∀ li : Array Bool, (li.setIfInBounds i true).getD k false = li.getD k false := fun li => getD_set_ne false hik
  intro n
  induction n with
  | zero =>
    intro li a w _ hr hk hy hC hV H
    refine ⟨fun h0 => ?_, fun j hj => ?_⟩
    · rw [h0] at hr; cases hr
    · by_cases hji : j = i
      · subst hji
        exact hy.wpOp hi (hT li w hk hC hV) ⟨⟨hC, fun hh => hV (by rwa [hkk] at hh)⟩, H⟩
      · have hm := ready_mono hj hji
        rw [H.1] at hm; cases hm
  | succ n ih =>
    intro li a w hfr hr hk hy hC hV H
    have hfree : ∀ j oj, ops[j]? = some oj → j ≠ i → li.getD j true = false → (∀ e ∈ oj.after, Region.binds md e = true → e.on ≠ i) → oi.apart ops oj = true := hfr.elim (Region.free_spec hi) id
    refine ⟨fun h0 => ?_, fun j hj => ?_⟩
    · rw [h0] at hr; cases hr
    · by_cases hji : j = i
      · subst hji
        exact hy.wpOp hi (hT li w hk hC hV) ⟨⟨hC, fun hh => hV (by rwa [hkk] at hh)⟩, H⟩
      · obtain ⟨hun, oj, hoj, hall⟩ := mem_ready.1 hj
        have hi0 : li.getD i true = false := (mem_ready.1 hr).1
        have hwait : ∀ e ∈ oj.after, Region.binds md e = true → e.on ≠ i := by
          intro e he hb hei
          have h1 := hall e he hb
          rw [hei] at h1
          have hlt : i < li.size := by
            rcases Nat.lt_or_ge i li.size with h | h
            · exact h
            · simp [Array.getElem?_eq_none h] at h1
          simp [hlt] at hi0 h1
          rw [hi0] at h1; cases h1
        have step := wpOp_putIf hoj (hfree j oj hoj hji hun hwait) (fun cs b => hsel i oi cs b hi) (fun cs b => hsel j oj cs b hoj) hQ hy (H.2 j (ready_mono hj hji))
        refine wpOp_mono (fun b u hh => ?_) step
        obtain ⟨hy2, ⟨hC2, hV2⟩, H2⟩ := hh
        have hc : (li.setIfInBounds i true).setIfInBounds j true = (li.setIfInBounds j true).setIfInBounds i true := Array.setIfInBounds_comm _ _ (Ne.symm hji)
        rw [hc] at hV2 H2
        rw [hkk] at hV2
        refine ⟨⟨hC2, hV2⟩, ih (li.setIfInBounds j true) b u (Or.inr fun m om hom hmi hunm hwm => hfree m om hom hmi ?_ hwm) (ready_mono hr (Ne.symm hji)) (hok li j oj hk hoj hwait) hy2 hC2 hV2 H2⟩
        by_cases hjm : j = m
        · subst hjm; exact hun
        · rw [getD_set_ne true hjm] at hunm; exact hunm
/-- Taken first: what yields in every world that meets C. -/
theorem wpAnyK_take (i : Nat) (d : Option Tmp) {oi : Oper} {v : Value} {n : Nat} {li : Array Bool} {a : Act} {w : World} (hi : ops[i]? = some oi) (hs : Region.noSelect ops = true) (hf : Region.free md ops li i = true)
    (hr : (Region.ready md ops li).contains i = true) (hik : i ≠ k) (hQ : ∀ c a w, Q (.panic c) (a.put d v) w → Q (.panic c) a w) (hC : C w) (hV : li.getD k false = false → V w)
    (hy : YieldsIf P ops C oi v a) (hd : oi.dst = d) (h : wpAnyK P md ops Q C V k n (li.setIfInBounds i true) (a.put d v) w) : wpAnyK P md ops Q C V k (n + 1) li a w := by
  subst hd
  exact wpAnyK_first (ok := fun _ => True) (T := C) hi hs hik hQ (fun _ _ _ h _ => h) (fun _ _ _ _ _ _ => trivial) n li a w (Or.inl hf) (by simpa using hr) trivial hy hC hV h
/-- Taken first: what number k waits for, and yields in every world that meets V. -/
theorem wpAnyK_early (i : Nat) (d : Option Tmp) {oi ok : Oper} {v : Value} {n : Nat} {li : Array Bool} {a : Act} {w : World} (hi : ops[i]? = some oi) (hs : Region.noSelect ops = true) (hf : Region.free md ops li i = true)
    (hr : (Region.ready md ops li).contains i = true) (hik : i ≠ k) (hQ : ∀ c a w, Q (.panic c) (a.put d v) w → Q (.panic c) a w) (hC : C w) (hV : V w)
    (hko : ops[k]? = some ok) (hw : ok.after.any (fun e => Region.binds md e && e.on == i) = true) (hk0 : li.getD k false = false)
    (hy : YieldsIf P ops V oi v a) (hd : oi.dst = d) (h : wpAnyK P md ops Q C V k n (li.setIfInBounds i true) (a.put d v) w) : wpAnyK P md ops Q C V k (n + 1) li a w := by
  subst hd
  exact wpAnyK_first (ok := fun li => li.getD k false = false) (T := V) hi hs hik hQ (fun _ _ h0 _ hh => hh h0) (fun li j oj h0 hoj hno => by
    have hjk : j ≠ k := by
      rintro rfl
      obtain rfl : oj = ok := Option.some.inj (hoj.symm.trans hko)
      obtain ⟨e, he, hb⟩ := Array.any_eq_true'.1 hw
      simp only [Bool.and_eq_true, beq_iff_eq] at hb
      exact hno e he hb.1 hb.2
    exact (getD_set_ne false hjk).trans h0) n li a w (Or.inl hf) (by simpa using hr) hk0 hy hC (fun _ => hV) h
/-- The one operation that may come up. -/
theorem wpAnyK_one (i : Nat) {o : Oper} {n : Nat} {li : Array Bool} {a : Act} {w : World} (hr : Region.ready md ops li = [i]) (ho : ops[i]? = some o)
    (h : ∀ K : Act → World → Prop, Shut (∀ b u, C u → ((li.setIfInBounds i true).getD k false = false → V u) → wpAnyK P md ops Q C V k n (li.setIfInBounds i true) b u → K b u) → if Region.wanted o (yielded ops a.tmps) = true then Oper.wp P o a w K Q else K (a.put o.dst undef) w) :
    wpAnyK P md ops Q C V k (n + 1) li a w := by
  refine ⟨fun h0 => ?_, fun j hj => ?_⟩
  · rw [hr] at h0; cases h0
  · rw [hr] at hj
    obtain rfl := List.mem_singleton.1 hj
    exact wpOp_step ho fun K hK => h K (fun b u h1 h2 h3 => hK b u ⟨⟨h1, h2⟩, h3⟩)
/-- Once number k has come up, C alone is asked. -/
theorem wpAnyK_late : ∀ (n : Nat) (li : Array Bool) (a : Act) (w : World), li.getD k false = true → wpAnyH P md ops Q C n li a w → wpAnyK P md ops Q C V k n li a w := by
  intro n
  induction n with
  | zero => exact fun _ _ _ _ h => h
  | succ n ih => exact fun li a w hk h => ⟨h.1, fun i hi => wpOp_mono (fun b u hh => ⟨⟨hh.1, fun h0 => (by rw [getD_set_true hk] at h0; cases h0)⟩, ih _ b u (getD_set_true hk) hh.2⟩) (h.2 i hi)⟩
/-- Taken first, where C alone is asked. -/
theorem wpAnyH_late (i : Nat) (d : Option Tmp) {oi : Oper} {v : Value} {n : Nat} {li : Array Bool} {a : Act} {w : World} (hi : ops[i]? = some oi) (hs : Region.noSelect ops = true) (hf : Region.free md ops li i = true)
    (hr : (Region.ready md ops li).contains i = true) (hQ : ∀ c a w, Q (.panic c) (a.put d v) w → Q (.panic c) a w) (hC : C w)
    (hy : YieldsIf P ops C oi v a) (hd : oi.dst = d) (h : wpAnyH P md ops Q C n (li.setIfInBounds i true) (a.put d v) w) : wpAnyH P md ops Q C (n + 1) li a w := by
  subst hd
  exact wpAnyH_take hi hs hf hr hQ hy hC h
/-- The one operation that may come up, where C alone is asked. -/
theorem wpAnyH_one (i : Nat) {o : Oper} {n : Nat} {li : Array Bool} {a : Act} {w : World} (hr : Region.ready md ops li = [i]) (ho : ops[i]? = some o)
    (h : ∀ K : Act → World → Prop, Shut (∀ b u, C u → wpAnyH P md ops Q C n (li.setIfInBounds i true) b u → K b u) → if Region.wanted o (yielded ops a.tmps) = true then Oper.wp P o a w K Q else K (a.put o.dst undef) w) :
    wpAnyH P md ops Q C (n + 1) li a w := by
  refine ⟨fun h0 => ?_, fun j hj => ?_⟩
  · rw [hr] at h0; cases h0
  · rw [hr] at hj
    obtain rfl := List.mem_singleton.1 hj
    exact wpOp_step ho fun K hK => h K (fun b u h1 h2 => hK b u ⟨h1, h2⟩)
theorem wpAnyK_done {n : Nat} {li : Array Bool} {a : Act} {w : World} (hr : Region.ready md ops li = []) (h : Q .normal a w) : wpAnyK P md ops Q C V k n li a w := by
  cases n with
  | zero => exact ⟨hr, h⟩
  | succ n => exact ⟨fun _ => h, by rw [hr]; simp⟩
theorem wp_region_K {id : Nat} {a : Act} {w : World} (hm : P.follows .mixedOrders = true) (C V : World → Prop) (k : Nat)
    (h : wpAnyK P .any ops Q C V k ops.size (Array.replicate ops.size false) a { w with drawn := w.drawn + 1 }) : (Code.region id ops true).wp P Q a w :=
  wp_region_any hm (wpAny_of_K _ _ _ _ h)
end
end Go.Proofs.YteopkdmlcjndcaaDoor.Wirey
