/- Lists that a call itself made: what each operation makes of them, told by numbers and keys alone, while nothing that lay before turns. The only condition: a key is no longer than a text may be. -/
import Derived.Test.YtncgfnocokippaaRingRange
namespace Go.Proofs.Ytncgfnocokippaa.Ringy
open Go.ChangeShapes Go.WideShapes Go.ChangeAt Go.RowKit
open Wirey (Blk Row str str_size str_list Kp)
open Go.ChangeMaps Go.Maps

theorem flop {f : FuncId} {args : Array Value} {w : World} {v : Ending} (h : Calls Try.prog f args w fun e w' => e = v ∧ w = w') : Calls Try.prog f args w fun e w' => e = v ∧ w' = w := h.mono fun _ _ ⟨a, b⟩ => ⟨a, b.symm⟩
def Rg.hasB (r : Rg) (k : Key) : Bool := (List.range r.n).any fun i => decide (k ∈ r.l i)
theorem Rg.hasB_iff {r : Rg} {k : Key} : r.hasB k = true ↔ r.has k := by
  unfold Rg.hasB Rg.has
  rw [List.any_eq_true]
  constructor
  · rintro ⟨i, hi, h⟩; exact ⟨i, List.mem_range.1 hi, of_decide_eq_true h⟩
  · rintro ⟨i, hi, h⟩; exact ⟨i, List.mem_range.2 hi, decide_eq_true h⟩
/-- Is there a place for a key at a list's front? -/
def Rg.ok (r : Rg) (a : Int) (k : Key) : Bool := decide (0 ≤ a) && decide (a < (r.n : Int)) && decide (k.length ≤ 64) && (r.hasB k || decide (r.many < r.places))
def Rg.fr (r : Rg) (a : Int) (k : Key) : Rg := if r.ok a k = true then (r.drop k).push a.toNat k else r
theorem Rg.fr_n (r : Rg) (a : Int) (k : Key) : (r.fr a k).n = r.n ∧ (r.fr a k).places = r.places := by unfold Rg.fr; split <;> exact ⟨rfl, rfl⟩

structure Held (w0 : World) (P : Nat) (w : World) (m : Rm) (r : Rg) : Prop where
  R : m.R = P
  at_ : At w m r
  below : Below w0.heap.size w0 w
  own : ∀ b, m.own b → w0.heap.size ≤ b
section
variable {w0 w w' : World} {P : Nat} {m m' : Rm} {r r' : Rg}
theorem Held.step (h : Held w0 P w m r) (hA : At w' m' r') (hS : Step w m w' m') : Held w0 P w' m' r' := by
  obtain ⟨h1, h2⟩ := hS.below h.own h.below.size
  exact ⟨hS.R.trans h.R, hA, h.below.trans h1, h2⟩
theorem Held.drewN (h : Held w0 P w m r) (n : Nat) : Held w0 P (w.drewN n) m r := ⟨h.R, h.at_.drewN n, ⟨h.below.os, h.below.tape, h.below.output, h.below.size, h.below.block⟩, h.own⟩
theorem Held.drew (h : Held w0 P w m r) : Held w0 P w.drew m r := h.drewN 1
theorem Held.alloc (h : Held w0 P w m r) (o : Obj) : Held w0 P (w.alloc o) m r := ⟨h.R, h.at_.alloc o, h.below.alloc h.below.size o, h.own⟩
theorem Held.later (h : Held w0 P w m r) {C : Nat} (hb : Below C w w') (hC : w.heap.size ≤ C) : Held w0 P w' m r :=
  ⟨h.R, h.at_.below hb hC, h.below.trans (hb.mono (Nat.le_trans h.below.size hC)), h.own⟩
/-- Other memory of the call's own turns. -/
theorem Held.kp (h : Held w0 P w m r) {O : Nat → Prop} (hk : Kp O w w') (hO : ∀ b, O b → w0.heap.size ≤ b ∧ ¬ m.own b) : Held w0 P w' m r :=
  ⟨h.R, h.at_.kp hk (fun b hb ho => (hO b ho).2 hb), h.below.trans ⟨hk.os, hk.tape, hk.output, hk.size, fun k hk2 => hk.block k (by have := h.below.size; omega) (fun ho => by have := (hO k ho).1; omega)⟩, h.own⟩
theorem Held.lt (h : Held w0 P w m r) : ∀ b, m.own b → b < w.heap.size := h.at_.lt
theorem new_h {n places : Nat} (h1 : 1 ≤ n) (h2 : n ≤ 8) (h3 : places ≤ 4096) (w : World) :
    Calls Try.prog 23 #[.int .i64 (n : Int), .int .i64 (places : Int)] w fun e w' => e = .returned (.tuple #[.pointer (some ⟨w.heap.size + 2, 0, none⟩), .int .i64 0]) ∧ ∃ m, Held w (w.heap.size + 2) w' m (Rg.new n places) :=
  (new_c h1 h2 h3 w).mono fun _ _ ⟨a, m, b, c, d, e⟩ => ⟨a, m, b, c, d, e⟩
theorem front_h (a : Int) {l : List UInt8} (hl : l.length ≤ maxLen) (h : Held w0 P w m r) :
    Calls Try.prog 71 #[.pointer (some ⟨P, 0, none⟩), .int .i64 a, .string (str l)] w fun e w' => e = .returned (.bool (r.ok a l)) ∧ ∃ m', Held w0 P w' m' (r.fr a l) ∧ Step w m w' m' := by
  have hR := h.R
  subst hR
  by_cases hin : 0 ≤ a ∧ a < (r.n : Int) ∧ l.length ≤ 64
  · obtain ⟨i1, i2, i3⟩ := hin
    obtain ⟨j, rfl⟩ : ∃ j : Nat, a = (j : Int) := ⟨a.toNat, by omega⟩
    have hj : j < r.n := by omega
    by_cases hc : r.has l ∨ r.many < r.places
    · have hok : r.ok j l = true := by
        unfold Rg.ok
        rw [decide_eq_true i1, decide_eq_true i2, decide_eq_true i3]
        rcases hc with hc | hc
        · rw [Rg.hasB_iff.2 hc]; rfl
        · rw [decide_eq_true hc]; simp
      have hfr : r.fr j l = (r.drop l).push j l := by unfold Rg.fr; rw [if_pos hok, Int.toNat_natCast]
      rw [hok, hfr]
      refine (front_yes hj i3 w h.at_ hc).mono ?_
      rintro e w' ⟨rfl, m', hA, hS⟩
      exact ⟨rfl, m', h.step hA hS, hS⟩
    · have hno : ¬ r.has l := fun e => hc (.inl e)
      have hfull : r.places ≤ r.many := by
        rcases Nat.lt_or_ge r.many r.places with h1 | h1
        · exact absurd (.inr h1) hc
        · exact h1
      have hok : r.ok j l = false := by
        unfold Rg.ok
        have : r.hasB l = false := by rw [Bool.eq_false_iff]; exact fun e => hno (Rg.hasB_iff.1 e)
        rw [this, decide_eq_false (by omega : ¬ r.many < r.places)]
        simp
      have hfr : r.fr j l = r := by unfold Rg.fr; rw [hok, if_neg (by decide)]
      rw [hok, hfr]
      refine (front_full hj i3 w h.at_ hno hfull).mono ?_
      rintro e w' ⟨rfl, n, rfl⟩
      exact ⟨rfl, m, h.drewN n, (Step.refl w m).drewN n⟩
  · have hok : r.ok a l = false := by
      unfold Rg.ok
      rw [Bool.eq_false_iff]
      simp
      omega
    have hfr : r.fr a l = r := by unfold Rg.fr; rw [hok, if_neg (by decide)]
    rw [hok, hfr]
    refine (front_bad hl w h.at_ (by omega)).mono ?_
    rintro e w' ⟨rfl, rfl⟩
    exact ⟨rfl, m, h, Step.refl _ _⟩
theorem drop_h {l : List UInt8} (hl : l.length ≤ maxLen) (h : Held w0 P w m r) :
    Calls Try.prog 76 #[.pointer (some ⟨P, 0, none⟩), .string (str l)] w fun e w' => e = .returned (.bool (r.hasB l)) ∧ ∃ m', Held w0 P w' m' (r.drop l) ∧ Step w m w' m' := by
  have hR := h.R
  subst hR
  by_cases hc : r.has l
  · rw [Rg.hasB_iff.2 hc]
    refine (drop_yes hl w h.at_ hc).mono ?_
    rintro e w' ⟨rfl, m', hA, hS⟩
    exact ⟨rfl, m', h.step hA hS, hS⟩
  · have : r.hasB l = false := by rw [Bool.eq_false_iff]; exact fun e => hc (Rg.hasB_iff.1 e)
    rw [this]
    refine (drop_no hl w h.at_ hc).mono ?_
    rintro e w' ⟨rfl, rfl⟩
    have hA : At w' m (r.drop l) := h.at_.alike rfl rfl fun i hi => strike_of_not fun hm => hc ⟨i, hi, hm⟩
    exact ⟨rfl, m, h.step hA (Step.refl _ _), Step.refl _ _⟩
theorem len_h (i : Nat) (hi : i < r.n) (h : Held w0 P w m r) :
    Calls Try.prog 72 #[.pointer (some ⟨P, 0, none⟩), .int .i64 (i : Int)] w fun e w' => e = .returned (.int .i64 ((r.l i).length : Int)) ∧ w = w' := by
  have hR := h.R
  subst hR
  exact flip (len_c' w h.at_ hi)
theorem lists_h (h : Held w0 P w m r) :
    Calls Try.prog 83 #[.pointer (some ⟨P, 0, none⟩)] w fun e w' => e = .returned (.int .i64 (r.n : Int)) ∧ w = w' := by
  have hR := h.R
  subst hR
  exact flip (lists_c' w h.at_)
theorem free_h (h : Held w0 P w m r) :
    Calls Try.prog 88 #[.pointer (some ⟨P, 0, none⟩)] w fun e w' => e = .returned (.int .i64 ((r.places : Int) - r.many)) ∧ ∃ n, w' = w.drewN n := by
  have hR := h.R
  subst hR
  exact free_c' w h.at_
theorem keys_h (i : Nat) (hi : i < r.n) (h : Held w0 P w m r) :
    Calls Try.prog 84 #[.pointer (some ⟨P, 0, none⟩), .int .i64 (i : Int)] w fun e w' => ∃ B, e = .returned (keysF B) ∧ Boxes w' w.heap.size B (r.l i) ∧ Below w.heap.size w w' ∧ Held w0 P w' m r := by
  have hR := h.R
  subst hR
  refine (keys_c w h.at_ hi).mono ?_
  rintro e w' ⟨B, rfl, hb, hB⟩
  exact ⟨B, rfl, hb, hB, h.later hB (Nat.le_refl _)⟩
theorem Held.len_le (h : Held w0 P w m r) {i : Nat} (hi : i < r.n) : (r.l i).length < 5000 := by
  obtain ⟨lens, S, F, D, pos, hF⟩ := h.at_
  exact hF.len_small hi

/-! A box that a round of a range turns -/
theorem blk_put1 {w : World} {g : Nat} {t : TypeId} {u v : Value} (h : Blk w g t #[u]) : Blk (w.setCell ⟨g, 0, none⟩ v) g t #[v] := h.put 0 v
theorem kp_from {O : Nat → Prop} {w W : World} (_ : Kp O w W) : w.heap.size ≤ W.heap.size := Kp.size ‹_›
/-- What is said of boxes below the range's start, of which some turn. -/
theorem own_kp {w3 : World} {O : Nat → Prop} {I : List Key → World → Prop} (h1 : ∀ s W, I s W → Kp O w3 W) (h2 : ∀ s W W', I s W → Kp O w3 W' → (∀ k, k < w3.heap.size → W'.heap[k]? = W.heap[k]?) → I s W') : OwnFrom w3.heap.size I :=
  ownFrom_of fun s W W' hs => ⟨(h1 s W hs).size, fun e1 e2 e3 e4 e5 => h2 s W W' hs (by
    have k := h1 s W hs
    exact ⟨e1.trans k.os, e2.trans k.tape, e3.trans k.output, Nat.le_trans k.size e4, fun b hb ho => (e5 b hb).trans (k.block b hb ho)⟩) e5⟩
end
end Go.Proofs.Ytncgfnocokippaa.Ringy
