/- Slices of structs, of whatever struct: owned ones, and ones that are seen. No condition. -/
import Derived.Test.YteopkdmlcjndcaaDoorMem
import Derived.Deep.AppendLies
import Derived.Laws.OwnMore
import Derived.Deep.Slices
namespace Go.Proofs.YteopkdmlcjndcaaDoor.Slsy
open Go.ChangeShapes Go.WideShapes Go.ChangeAt Go.RowKit
variable {α : Type} {enc : α → List Value} {N : Nat}

/-- The cells of a list of structs. -/
def rws (enc : α → List Value) : List α → List Value
  | [] => []
  | x :: l => enc x ++ rws enc l
theorem rws_length (hN : ∀ x, (enc x).length = N) : ∀ l : List α, (rws enc l).length = l.length * N
  | [] => by simp [rws]
  | x :: l => by rw [rws, List.length_append, rws_length hN l, List.length_cons, hN, Nat.add_mul, Nat.one_mul, Nat.add_comm]
theorem rws_append : ∀ a b : List α, rws enc (a ++ b) = rws enc a ++ rws enc b
  | [], b => rfl
  | x :: a, b => by rw [List.cons_append, rws, rws, rws_append a b, List.append_assoc]
theorem rws_at (hN : ∀ x, (enc x).length = N) : ∀ (l : List α) (i j : Nat) (x : α), l[i]? = some x → j < N → (rws enc l)[i * N + j]? = (enc x)[j]?
  | [], i, j, x, h, _ => by simp at h
  | y :: l, 0, j, x, h, hj => by
    simp only [List.getElem?_cons_zero, Option.some.injEq] at h
    subst h
    rw [rws, Nat.zero_mul, Nat.zero_add, List.getElem?_append_left (by rw [hN]; exact hj)]
  | y :: l, i + 1, j, x, h, hj => by
    rw [List.getElem?_cons_succ] at h
    rw [rws, List.getElem?_append_right (by rw [hN, Nat.add_mul, Nat.one_mul]; omega), hN, show (i + 1) * N + j - N = i * N + j by rw [Nat.add_mul, Nat.one_mul]; omega]
    exact rws_at hN l i j x h hj
theorem rws_one (h1 : ∀ x, ∀ u ∈ enc x, u.oneCell' = true) : ∀ l : List α, ∀ u ∈ rws enc l, u.oneCell' = true
  | [], u, h => by simp [rws] at h
  | x :: l, u, h => by
    rw [rws] at h
    rcases List.mem_append.1 h with h | h
    · exact h1 x u h
    · exact rws_one h1 l u h

/-- A slice that is owned. -/
def Ow (w : World) (B : Nat) (e : TypeId) (enc : α → List Value) (N : Nat) (v : Value) (l : List α) : Prop := w.ownsRow B e N v l.length (rws enc l)
/-- A slice that is seen: where its elements lie. -/
def Vw (w : World) (enc : α → List Value) (N : Nat) (v : Value) (l : List α) : Prop :=
  ∃ a c, v = .slice a l.length c ∧ l.length ≤ c ∧ c ≤ maxLen ∧ (a = none → c = 0) ∧ (∀ p, a = some p → p.spot = none ∧ p.block < w.heap.size) ∧
    ∀ i x, l[i]? = some x → ∃ g off, a = some ⟨g, off, none⟩ ∧ ∀ j, j < N → w.cell? ⟨g, off + i * N + j, none⟩ = (enc x)[j]?
section
variable {w w' : World} {B : Nat} {e : TypeId} {v : Value} {l : List α} {a : Option Addr} {n c : Nat}
theorem Ow.form (h : Ow w B e enc N v l) : ∃ a c, v = .slice a l.length c := by
  rcases h.2 with ⟨rfl, h0⟩ | ⟨g, cap, cur, hv, _⟩
  · exact ⟨none, 0, by rw [h0]⟩
  · exact ⟨_, _, hv⟩
theorem Ow.low (h : Ow w B e enc N v l) {B' : Nat} (hb : B' ≤ B) : Ow w B' e enc N v l := ⟨h.1, h.2.elim Or.inl fun ⟨g, cap, cur, hv, hg, r⟩ => Or.inr ⟨g, cap, cur, hv, Nat.le_trans hb hg, r⟩⟩
theorem Ow.stay (h : Ow w B e enc N v l) (hs : ∀ g, v.ownBlock = some g → w'.heap[g]? = w.heap[g]?) : Ow w' B e enc N v l :=
  ⟨h.1, h.2.elim Or.inl fun ⟨g, cap, cur, hv, hg, hb, r⟩ => Or.inr ⟨g, cap, cur, hv, hg, (hs g (by rw [hv]; rfl)).trans hb, r⟩⟩
theorem Ow.lt (h : Ow w B e enc N v l) : ∀ g, v.ownBlock = some g → B ≤ g ∧ g < w.heap.size := World.ownsRow.lt h
theorem Ow.below (h : Ow w B e enc N v l) (hb : Below w.heap.size w w') : Ow w' B e enc N v l := h.stay fun g hg => hb.block g (h.lt g hg).2
theorem Ow.alloc (h : Ow w B e enc N v l) (o : Obj) : Ow (w.alloc o) B e enc N v l := h.stay fun g hg => Below.heap_alloc w o g (h.lt g hg).2
theorem Ow.at_ (hN : ∀ x, (enc x).length = N) (h : Ow w B e enc N (.slice a n c) l) {i : Nat} {x : α} (hx : l[i]? = some x) : ∃ g, a = some ⟨g, 0, none⟩ ∧ B ≤ g ∧ g < w.heap.size ∧
    (∀ W : World, W.heap[g]? = w.heap[g]? → ∀ j, j < N → W.cell? ⟨g, i * N + j, none⟩ = (enc x)[j]?) := by
  have hi : i < l.length := (List.getElem?_eq_some_iff.1 hx).1
  obtain ⟨g, cap, hv, hg, hlt⟩ := World.ownsRow.form h (by omega)
  injection hv with e1 e2 e3
  subst e1 e2 e3
  refine ⟨g, rfl, hg, hlt, fun W hW j hj => ?_⟩
  have hb : i * N + j < l.length * N := by
    have : (i + 1) * N ≤ l.length * N := Nat.mul_le_mul_right N hi
    rw [Nat.add_mul, Nat.one_mul] at this
    omega
  rw [World.cell?_of_block (a := ⟨g, i * N + j, none⟩) hW, World.ownsRow.cellAt h (i * N + j) hb, rws_at hN l i j x hx hj]
theorem Ow.snoc {g cap : Nat} {x : α} {news : List Value} (hn : news = enc x) (h : w.ownsRow B e N (.slice (some ⟨g, 0, none⟩) (l.length + 1) cap) (l.length + 1) (rws enc l ++ news)) : Ow w B e enc N (.slice (some ⟨g, 0, none⟩) (l.length + 1) cap) (l ++ [x]) := by
  subst hn
  unfold Ow
  rw [List.length_append, rws_append, rws, rws, List.append_nil]
  exact h
theorem Ow.join {g cap : Nat} {m : List α} (h : w.ownsRow B e N (.slice (some ⟨g, 0, none⟩) (l.length + m.length) cap) (l.length + m.length) (rws enc l ++ rws enc m)) : Ow w B e enc N (.slice (some ⟨g, 0, none⟩) (l.length + m.length) cap) (l ++ m) := by
  unfold Ow
  rw [List.length_append, rws_append]
  exact h
theorem Ow.empty (w : World) (B : Nat) (hB : B ≤ w.heap.size) : Ow (w.alloc (.cells #[] e)) B e enc N (.slice (some ⟨w.heap.size, 0, none⟩) 0 0) [] :=
  ⟨by simp [rws], .inr ⟨w.heap.size, 0, #[], rfl, hB, heap_alloc_new w _, Nat.le_refl _, Nat.zero_le _, by simp, by simp [rws]⟩⟩
theorem Ow.vw (hN : ∀ x, (enc x).length = N) (h : Ow w B e enc N v l) : Vw w enc N v l := by
  rcases h.2 with ⟨rfl, h0⟩ | ⟨g, cap, cur, rfl, hg, hb, hc, hm, hs, ht⟩
  · exact ⟨none, 0, by rw [h0], by omega, Nat.zero_le _, (fun _ => rfl), (fun p hp => nomatch hp), fun i x hx => by have := (List.getElem?_eq_some_iff.1 hx).1; omega⟩
  · refine ⟨_, _, rfl, hc, hm, (fun e => nomatch e), fun p hp => ?_, fun i x hx => ?_⟩
    · injection hp with hp; subst hp; exact ⟨rfl, (h.lt g rfl).2⟩
    · obtain ⟨g', e1, -, -, hcell⟩ := h.at_ hN hx
      refine ⟨g', 0, e1, fun j hj => ?_⟩
      rw [Nat.zero_add]; exact hcell w rfl j hj
theorem Vw.form (h : Vw w enc N v l) : ∃ a c, v = .slice a l.length c ∧ l.length ≤ c ∧ c ≤ maxLen := by obtain ⟨a, c, h1, h2, h3, _⟩ := h; exact ⟨a, c, h1, h2, h3⟩
theorem Vw.nil_ (h : Vw w enc N (.slice none n c) l) : l = [] ∧ n = 0 ∧ c = 0 := by
  obtain ⟨a, c', e, h1, h2, hn, h3, h4⟩ := h
  injection e with e1 e2 e3
  have hl : l = [] := by
    cases l with
    | nil => rfl
    | cons x m =>
      obtain ⟨g, off, e4, _⟩ := h4 0 x rfl
      rw [← e1] at e4; cases e4
  exact ⟨hl, by rw [e2, hl]; rfl, e3.trans (hn e1.symm)⟩
theorem Vw.lt (h : Vw w enc N v l) : ∀ g, v.ownBlock = some g → g < w.heap.size := fun g hg => by
  obtain ⟨a, c, rfl, _, _, _, h4, _⟩ := h
  cases a with
  | none => cases hg
  | some p => have e : p.block = g := by simpa [Value.ownBlock] using hg
              exact e ▸ (h4 p rfl).2
theorem Vw.stay (h : Vw w enc N v l) (hsz : w.heap.size ≤ w'.heap.size) (hs : ∀ g, v.ownBlock = some g → w'.heap[g]? = w.heap[g]?) : Vw w' enc N v l := by
  obtain ⟨a, c, rfl, h2, h3, hn, h4, h5⟩ := h
  refine ⟨a, c, rfl, h2, h3, hn, fun p hp => ⟨(h4 p hp).1, Nat.lt_of_lt_of_le (h4 p hp).2 hsz⟩, fun i x hx => ?_⟩
  obtain ⟨g, off, e1, hc⟩ := h5 i x hx
  exact ⟨g, off, e1, fun j hj => (World.cell?_of_block (a := ⟨g, off + i * N + j, none⟩) (hs g (by rw [e1]; rfl))).trans (hc j hj)⟩
theorem Vw.below (h : Vw w enc N v l) (hb : Below w.heap.size w w') : Vw w' enc N v l := h.stay hb.size fun g hg => hb.block g (h.lt g hg)
theorem Vw.at_ (h : Vw w enc N (.slice a n c) l) {i : Nat} {x : α} (hx : l[i]? = some x) : ∃ g off, a = some ⟨g, off, none⟩ ∧ g < w.heap.size ∧
    (∀ W : World, W.heap[g]? = w.heap[g]? → ∀ j, j < N → W.cell? ⟨g, off + i * N + j, none⟩ = (enc x)[j]?) := by
  obtain ⟨a', c', e, _, _, _, h4, h5⟩ := h
  injection e with e1 e2 e3
  subst e1 e2 e3
  obtain ⟨g, off, e1, hc⟩ := h5 i x hx
  exact ⟨g, off, e1, (h4 _ e1).2, fun W hW j hj => (World.cell?_of_block (a := ⟨g, off + i * N + j, none⟩) hW).trans (hc j hj)⟩
/-- All but the first. -/
theorem Vw.tail {g off : Nat} {x : α} (h : Vw w enc N (.slice (some ⟨g, off, none⟩) (l.length + 1) c) (x :: l)) : Vw w enc N (.slice (some ⟨g, off + N, none⟩) l.length (c - 1)) l := by
  obtain ⟨a', c', e, h2, h3, hn, h4, h5⟩ := h
  injection e with e1 e2 e3
  subst e1 e3
  rw [List.length_cons] at h2
  refine ⟨_, _, rfl, by omega, by omega, (fun e => nomatch e), fun p hp => ?_, fun i y hy => ?_⟩
  · injection hp with hp; subst hp; exact ⟨rfl, (h4 _ rfl).2⟩
  · obtain ⟨g', off', e4, hc⟩ := h5 (i + 1) y (by rw [List.getElem?_cons_succ]; exact hy)
    injection e4 with e4
    injection e4 with e5 e6
    subst e5 e6
    refine ⟨g, off + N, rfl, fun j hj => ?_⟩
    have := hc j hj
    rwa [show off + (i + 1) * N + j = off + N + i * N + j by rw [Nat.add_mul, Nat.one_mul]; omega] at this
/-- All but the first, as the program has it: a slice of no capacity keeps its place. -/
theorem Vw.rest {g off : Nat} {x : α} (h : Vw w enc N (.slice (some ⟨g, off, none⟩) (l.length + 1) c) (x :: l)) : Vw w enc N (.slice (if c = 1 then some ⟨g, off, none⟩ else some ⟨g, off + N, none⟩) l.length (c - 1)) l := by
  by_cases hc : c = 1
  · rw [if_pos hc]
    obtain ⟨a', c', e, h2, h3, hn, h4, h5⟩ := h
    injection e with e1 e2 e3
    subst e1 e3
    rw [List.length_cons] at h2
    exact ⟨_, _, rfl, by omega, by omega, (fun e => nomatch e), h4, fun i y hy => by have := (List.getElem?_eq_some_iff.1 hy).1; omega⟩
  · rw [if_neg hc]; exact h.tail
/-- What is appended: the cells of all elements, one behind the other. -/
theorem Vw.news (hN : ∀ x, (enc x).length = N) (hpos : 0 < N) {g off : Nat} (h : Vw w enc N (.slice (some ⟨g, off, none⟩) l.length c) l) : ∀ j u, (rws enc l)[j]? = some u → w.cell? ((⟨g, off, none⟩ : Addr).add j) = some u := by
  intro j u hu
  have hj : j < l.length * N := by rw [← rws_length hN l]; exact (List.getElem?_eq_some_iff.1 hu).1
  have hi : j / N < l.length := (Nat.div_lt_iff_lt_mul hpos).2 hj
  obtain ⟨x, hx⟩ : ∃ x, l[j / N]? = some x := ⟨_, List.getElem?_eq_getElem hi⟩
  obtain ⟨g', off', e, _, hc⟩ := h.at_ hx
  injection e with e
  injection e with e5 e6
  subst e5 e6
  have hm : j % N < N := Nat.mod_lt _ hpos
  have h1 := hc w rfl (j % N) hm
  have h2 := rws_at hN l (j / N) (j % N) x hx hm
  have e3 : j / N * N + j % N = j := by rw [Nat.mul_comm]; exact Nat.div_add_mod j N
  rw [e3] at h2
  rw [Nat.add_assoc, e3, ← h2, hu] at h1
  have hadd : (⟨g, off, none⟩ : Addr).add j = ⟨g, off + j, none⟩ := by unfold Addr.add; split <;> simp_all
  rw [hadd]; exact h1
theorem Vw.newsP (hN : ∀ x, (enc x).length = N) (hpos : 0 < N) {p : Addr} (h : Vw w enc N (.slice (some p) l.length c) l) : ∀ j u, (rws enc l)[j]? = some u → w.cell? (p.add j) = some u := by
  have hs : p.spot = none := by
    obtain ⟨a, c', e, _, _, _, h4, _⟩ := h
    injection e with e1 e2 e3
    exact (h4 p e1.symm).1
  obtain ⟨b, o, s⟩ := p
  subst hs
  exact h.news hN hpos
end
end Go.Proofs.YteopkdmlcjndcaaDoor.Slsy
