/- The function that slices.Values hands back, over a slice of texts: it hands over text by text, whatever a round does to other memory than the slice's own. No condition. Ranges over Keys, for walks outside a fence: the statement's law, a function's contract where its body holds such statements, its leaving. No condition. Lists that a call itself made: what each operation makes of them, told by numbers and keys alone, while nothing that lay before turns. The only condition: a key is no longer than a text may be. A slice of texts in a box beside lists, which stays as it is while they turn; keys held against it. No condition. How many keys there are, and which, when one goes to a front. It speaks of no program's memory. The document's own lists in memory: a row of slices of texts; what asks them: which list a key is in, how many keys there are, a list's last key. No condition. -/
import Derived.Test.YtncgfnocokippaaGreatRingKeysAll
import Derived.RangeFuncNested
import Derived.RangeFuncBound
import Derived.RangeFuncCalls
import Derived.RangeFuncLeaves
import Derived.RangeFuncBox
import Derived.Shelf.Abstract
import Derived.Shelf.RegionOpen
import Derived.OwnWalkIn
import Derived.TacticsInMore
import Derived.LoopNIn
import Derived.LoopIn
import Derived.Test.YtncgfnocokippaaGreatSq
namespace Go.Proofs.YtncgfnocokippaaGreat.Ringy
open Go.ChangeShapes Go.WideShapes Go.ChangeAt Go.RowKit Go.Shelf
open Wirey (Blk Row str str_size str_list Kp)
open Go.ChangeMaps Go.Maps

attribute [local go_sem] Oper.semAt_some

def RowK (v : Value) (W W' : World) : Prop := ∀ g, v.ownBlock = some g → W'.heap[g]? = W.heap[g]?
theorem rowK_t {v : Value} {A B C : World} (h : RowK v A B) (k : RowK v B C) : RowK v A C := fun g hg => (k g hg).trans (h g hg)
theorem rowK_b {v : Value} {n₀ : Nat} (hv : ∀ g, v.ownBlock = some g → g < n₀) (W : World) (l : Nat) (o o' : Obj) (hl : n₀ ≤ l) (_ : W.heap[l]? = some o) (_ : o.isCells = false) (_ : o.isWalk = false) : RowK v W (W.putObj l o') :=
 fun g hg => World.putObj_heap_other (by have := hv g hg; omega)
theorem take_snoc {xs : List Key} {k : Nat} (h : k < xs.length) : xs.take (k + 1) = xs.take k ++ [xs[k]?.getD []] := by
 rw [List.take_add_one, List.getElem?_eq_getElem h]
 rfl

end Go.Proofs.YtncgfnocokippaaGreat.Ringy
namespace Go.Proofs.YtncgfnocokippaaGreat.Ringy
open Go.ChangeShapes Go.WideShapes Go.ChangeAt Go.RowKit Go.Shelf
open Wirey (Blk Row str str_size str_list Kp)
open Go.ChangeMaps Go.Maps

theorem own_low {w : World} {base : Nat} {e : TypeId} {size : Nat} {v : Value} {n : Nat} {xs : List Value} (h : w.ownsRow base e size v n xs) : w.ownsRow 0 e size v n xs := by
 rcases h with ⟨h1, h2 | ⟨g, cap, cur, hv, hg, h3⟩⟩
 ·exact ⟨h1, .inl h2⟩
 ·exact ⟨h1, .inr ⟨g, cap, cur, hv, Nat.zero_le _, h3⟩⟩
theorem calls_marks {P : Program} {f : FuncId} {fn : Func} {c : Code} {args : Array Value} {w : World} {R : Ending → World → Prop} (hf : P.funcs[f]? = some fn) (hb : fn.body = some c)
  (h : c.wp P (bodyPostM Fence.wide 5 P fn R) { tmps := args ++ Array.replicate (fn.ntmps - args.size) undef, defers := [] } w) : Calls P f args w R :=
 callsIn_wide.1 (callsIn_of_wp_marks hf hb trivial (wpIn_wide.2 h))

def Marked (B : Nat) (W : World) : List Deferred → Prop
 | [] => True
 | d :: ds => (∃ D, d.target = .collected D ∧ B ≤ D ∧ W.heap[D]? = some (.deferred (some [])) ∧ ∀ d' ∈ ds, d'.target ≠ .collected D) ∧ Marked B W ds
theorem Marked.keep {B : Nat} {W W' : World} : ∀ {ds : List Deferred}, Marked B W ds → (∀ (k : Nat) (d : Deferred), d ∈ ds → d.target = .collected k → W'.heap[k]? = W.heap[k]?) → Marked B W' ds
 | [], _, _ => trivial
 | d :: ds, ⟨⟨D, h1, h2, h3, h4⟩, h5⟩, hk => ⟨⟨D, h1, h2, (hk D d (by simp) h1).trans h3, h4⟩, h5.keep fun k d' hd' => hk k d' (List.mem_cons_of_mem _ hd')⟩
theorem Marked.lt {B : Nat} {W : World} : ∀ {ds : List Deferred}, Marked B W ds → ∀ (k : Nat) (d : Deferred), d ∈ ds → d.target = .collected k → B ≤ k ∧ k < W.heap.size ∧ W.heap[k]? = some (.deferred (some []))
 | d :: ds, ⟨⟨D, h1, h2, h3, _⟩, h5⟩, k, d', hd, hk => by
  rcases List.mem_cons.1 hd with e | e
  ·subst e
   rw [h1] at hk
   cases hk
   exact ⟨h2, (Array.getElem?_eq_some_iff.1 h3).1, h3⟩
  ·exact h5.lt k d' e hk
theorem below_put {B D : Nat} {W : World} (o : Obj) (hB : B ≤ D) (hD : D < W.heap.size) : Below B W (W.putObj D o) :=
 (Below.refl B W).grown (grownBy_putObj' W D o) (by omega) (fun k e => by cases e; exact hB)
theorem leave_marks {P : Program} {fn : Func} {tmps : Array Value} {R : Ending → World → Prop} {B : Nat} {v : Value} (hres : ∀ w, (results fn tmps).run P w = .ok v w) : ∀ (ds : List Deferred) (W : World), Marked B W ds →
  (∀ W', Below B W W' → R (.returned v) W') → LeavesInM Fence.wide 5 P fn tmps R ds .returning W
 | [], W, _, h => ⟨v, hres W, h W (Below.refl _ _)⟩
 | d :: ds, W, ⟨⟨D, h1, h2, h3, h4⟩, h5⟩, h => by
  have hD : D < W.heap.size := (Array.getElem?_eq_some_iff.1 h3).1
  refine ⟨by simp, .inl ⟨D, _, h1, run_takeDeferred h3, leave_marks hres ds _ (h5.keep fun k d' hd' hk => World.putObj_heap_other (fun e => h4 d' hd' (by rw [hk, e]))) fun W' hb => h W' ((below_put _ h2 hD).trans hb)⟩⟩

end Go.Proofs.YtncgfnocokippaaGreat.Ringy
namespace Go.Proofs.YtncgfnocokippaaGreat.Ringy
open Go.ChangeShapes Go.WideShapes Go.ChangeAt Go.RowKit
open Wirey (Blk Row str str_size str_list Kp)
open Go.ChangeMaps Go.Maps

def Rg.hasB (r : Rg) (k : Key) : Bool := (List.range r.n).any fun i => decide (k ∈ r.l i)
theorem Rg.hasB_iff {r : Rg} {k : Key} : r.hasB k = true ↔ r.has k := by
 unfold Rg.hasB Rg.has
 rw [List.any_eq_true]
 constructor
 ·rintro ⟨i, hi, h⟩; exact ⟨i, List.mem_range.1 hi, of_decide_eq_true h⟩
 ·rintro ⟨i, hi, h⟩; exact ⟨i, List.mem_range.2 hi, decide_eq_true h⟩
def Rg.ok (r : Rg) (a : Int) (k : Key) : Bool := decide (0 ≤ a) && decide (a < (r.n : Int)) && decide (k.length ≤ 64) && (r.hasB k || decide (r.many < r.places))
def Rg.fr (r : Rg) (a : Int) (k : Key) : Rg := if r.ok a k = true then (r.drop k).push a.toNat k else r
theorem Rg.fr_n (r : Rg) (a : Int) (k : Key) : (r.fr a k).n = r.n ∧ (r.fr a k).places = r.places := by unfold Rg.fr; split <;> exact ⟨rfl, rfl⟩

structure Held (w0 : World) (P : Nat) (w : World) (m : Rm) (r : Rg) : Prop where
 R : m.R = P
 at_ : At w m r
 below : Below w0.heap.size w0 w
 own : ∀ b, m.own b → w0.heap.size ≤ b
section
variable {w0 w w' : World} {P : Nat} {m m' : Rm} {r r' : Rg}
theorem Held.step (h : Held w0 P w m r) (hA : At w' m' r') (hS : Step w m w' m') : Held w0 P w' m' r' := by
 obtain ⟨h1, h2⟩ := hS.below h.own h.below.size
 exact ⟨hS.R.trans h.R, hA, h.below.trans h1, h2⟩
theorem Held.drewN (h : Held w0 P w m r) (n : Nat) : Held w0 P (w.drewN n) m r := ⟨h.R, h.at_.drewN n, ⟨h.below.os, h.below.tape, h.below.output, h.below.size, h.below.block⟩, h.own⟩
theorem Held.alloc (h : Held w0 P w m r) (o : Obj) : Held w0 P (w.alloc o) m r := ⟨h.R, h.at_.alloc o, h.below.alloc h.below.size o, h.own⟩
theorem Held.later (h : Held w0 P w m r) {C : Nat} (hb : Below C w w') (hC : w.heap.size ≤ C) : Held w0 P w' m r :=
 ⟨h.R, h.at_.below hb hC, h.below.trans (hb.mono (Nat.le_trans h.below.size hC)), h.own⟩
theorem Held.kp (h : Held w0 P w m r) {O : Nat → Prop} (hk : Kp O w w') (hO : ∀ b, O b → w0.heap.size ≤ b ∧ ¬ m.own b) : Held w0 P w' m r :=
 ⟨h.R, h.at_.kp hk (fun b hb ho => (hO b ho).2 hb), h.below.trans ⟨hk.os, hk.tape, hk.output, hk.size, fun k hk2 => hk.block k (by have := h.below.size; omega) (fun ho => by have := (hO k ho).1; omega)⟩, h.own⟩
theorem Held.lt (h : Held w0 P w m r) : ∀ b, m.own b → b < w.heap.size := h.at_.lt
theorem new_h {n places : Nat} (h1 : 1 ≤ n) (h2 : n ≤ 8) (h3 : places ≤ 4096) (w : World) :
  Calls Tryz.prog 45 #[.int .i64 n, .int .i64 places] w fun e w' => e = .returned (.tuple #[.pointer (some ⟨w.heap.size + 2, 0, none⟩), .int .i64 0]) ∧ ∃ m, Held w (w.heap.size + 2) w' m (Rg.new n places) :=
 (new_c h1 h2 h3 w).mono fun _ _ ⟨a, m, b, c, d, e⟩ => ⟨a, m, b, c, d, e⟩
theorem front_h (a : Int) {l : List UInt8} (hl : l.length ≤ maxLen) (h : Held w0 P w m r) :
  Calls Tryz.prog 130 #[.pointer (some ⟨P, 0, none⟩), .int .i64 a, .string (str l)] w fun e w' => e = .returned (.bool (r.ok a l)) ∧ ∃ m', Held w0 P w' m' (r.fr a l) ∧ Step w m w' m' := by
 have hR := h.R
 subst hR
 by_cases hin : 0 ≤ a ∧ a < (r.n : Int) ∧ l.length ≤ 64
 ·obtain ⟨i1, i2, i3⟩ := hin
  obtain ⟨j, rfl⟩ : ∃ j : Nat, a = (j : Int) := ⟨a.toNat, by omega⟩
  have hj : j < r.n := by omega
  by_cases hc : r.has l ∨ r.many < r.places
  ·have hok : r.ok j l = true := by
    unfold Rg.ok
    rw [decide_eq_true i1, decide_eq_true i2, decide_eq_true i3]
    rcases hc with hc | hc
    ·rw [Rg.hasB_iff.2 hc]; rfl
    ·rw [decide_eq_true hc]; simp
   have hfr : r.fr j l = (r.drop l).push j l := by unfold Rg.fr; rw [if_pos hok, Int.toNat_natCast]
   rw [hok, hfr]
   refine (front_yes hj i3 w h.at_ hc).mono ?_
   rintro e w' ⟨rfl, m', hA, hS⟩
   exact ⟨rfl, m', h.step hA hS, hS⟩
  ·have hno : ¬ r.has l := fun e => hc (.inl e)
   have hfull : r.places ≤ r.many := by
    rcases Nat.lt_or_ge r.many r.places with h1 | h1
    ·exact absurd (.inr h1) hc
    ·exact h1
   have hok : r.ok j l = false := by
    unfold Rg.ok
    have : r.hasB l = false := by rw [Bool.eq_false_iff]; exact fun e => hno (Rg.hasB_iff.1 e)
    rw [this, decide_eq_false (by omega : ¬ r.many < r.places)]
    simp
   have hfr : r.fr j l = r := by unfold Rg.fr; rw [hok, if_neg (by decide)]
   rw [hok, hfr]
   refine (front_full hj i3 w h.at_ hno hfull).mono ?_
   rintro e w' ⟨rfl, n, rfl⟩
   exact ⟨rfl, m, h.drewN n, (Step.refl w m).drewN n⟩
 ·have hok : r.ok a l = false := by
   unfold Rg.ok
   rw [Bool.eq_false_iff]
   simp
   omega
  have hfr : r.fr a l = r := by unfold Rg.fr; rw [hok, if_neg (by decide)]
  rw [hok, hfr]
  refine (front_bad hl w h.at_ (by omega)).mono ?_
  rintro e w' ⟨rfl, rfl⟩
  exact ⟨rfl, m, h, Step.refl _ _⟩
theorem drop_h {l : List UInt8} (hl : l.length ≤ maxLen) (h : Held w0 P w m r) :
  Calls Tryz.prog 173 #[.pointer (some ⟨P, 0, none⟩), .string (str l)] w fun e w' => e = .returned (.bool (r.hasB l)) ∧ ∃ m', Held w0 P w' m' (r.drop l) ∧ Step w m w' m' := by
 have hR := h.R
 subst hR
 by_cases hc : r.has l
 ·rw [Rg.hasB_iff.2 hc]
  refine (drop_yes hl w h.at_ hc).mono ?_
  rintro e w' ⟨rfl, m', hA, hS⟩
  exact ⟨rfl, m', h.step hA hS, hS⟩
 ·have : r.hasB l = false := by rw [Bool.eq_false_iff]; exact fun e => hc (Rg.hasB_iff.1 e)
  rw [this]
  refine (drop_no hl w h.at_ hc).mono ?_
  rintro e w' ⟨rfl, rfl⟩
  have hA : At w' m (r.drop l) := h.at_.alike rfl rfl fun i hi => strike_of_not fun hm => hc ⟨i, hi, hm⟩
  exact ⟨rfl, m, h.step hA (Step.refl _ _), Step.refl _ _⟩
theorem len_h (i : Nat) (hi : i < r.n) (h : Held w0 P w m r) :
  Calls Tryz.prog 120 #[.pointer (some ⟨P, 0, none⟩), .int .i64 i] w fun e w' => e = .returned (.int .i64 ((r.l i).length : Int)) ∧ w = w' := by
 have hR := h.R
 subst hR
 exact flip (len_c' w h.at_ hi)
theorem lists_h (h : Held w0 P w m r) :
  Calls Tryz.prog 110 #[.pointer (some ⟨P, 0, none⟩)] w fun e w' => e = .returned (.int .i64 r.n) ∧ w = w' := by
 have hR := h.R
 subst hR
 exact flip (lists_c' w h.at_)
theorem free_h (h : Held w0 P w m r) :
  Calls Tryz.prog 112 #[.pointer (some ⟨P, 0, none⟩)] w fun e w' => e = .returned (.int .i64 ((r.places : Int) - r.many)) ∧ ∃ n, w' = w.drewN n := by
 have hR := h.R
 subst hR
 exact free_c' w h.at_
end
end Go.Proofs.YtncgfnocokippaaGreat.Ringy
namespace Go.Proofs.YtncgfnocokippaaGreat.Ringy
open Go.ChangeShapes Go.WideShapes Go.ChangeAt Go.RowKit
open Wirey (Blk Row str str_size str_list Kp)
open Go.ChangeMaps Go.Maps

theorem own_mono {w : World} {base base' : Nat} {e : TypeId} {size : Nat} {v : Value} {n : Nat} {xs : List Value} (h : w.ownsRow base e size v n xs) (hb : base' ≤ base) : w.ownsRow base' e size v n xs := by
 rcases h with ⟨h1, h2 | ⟨g, cap, cur, hv, hg, h3⟩⟩
 ·exact ⟨h1, .inl h2⟩
 ·exact ⟨h1, .inr ⟨g, cap, cur, hv, Nat.le_trans hb hg, h3⟩⟩
section
variable {w w' : World} {m m' : Rm} {n₀ B : Nat} {v : Value} {l : List Key}
end

theorem strike_snoc (k x : Key) (l : List Key) : strike k (l ++ [x]) = if x = k then strike k l else strike k l ++ [x] := by
 unfold strike
 rw [List.filter_append]
 by_cases e : x = k
 ·rw [if_pos e]; simp [e]
 ·rw [if_neg e]; simp [e]
theorem strike_le (k : Key) (l : List Key) : (strike k l).length ≤ l.length := List.length_filter_le _ _
end Go.Proofs.YtncgfnocokippaaGreat.Ringy
namespace Go.Proofs.YtncgfnocokippaaGreat.Ringy

section
variable {r : Rg} {a : Int} {k x : Key}
theorem Rg.ok_in (h : r.ok a k = true) : 0 ≤ a ∧ a.toNat < r.n ∧ k.length ≤ 64 ∧ (r.has k ∨ r.many < r.places) := by
 unfold Rg.ok at h
 simp only [Bool.and_eq_true, Bool.or_eq_true, decide_eq_true_eq] at h
 obtain ⟨⟨⟨h1, h2⟩, h3⟩, h4⟩ := h
 exact ⟨h1, by omega, h3, h4.imp Rg.hasB_iff.1 id⟩
theorem Rg.ok_of (h1 : 0 ≤ a) (h2 : a < (r.n : Int)) (h3 : k.length ≤ 64) (h4 : r.has k ∨ r.many < r.places) : r.ok a k = true := by
 unfold Rg.ok
 simp only [Bool.and_eq_true, Bool.or_eq_true, decide_eq_true_eq]
 exact ⟨⟨⟨h1, h2⟩, h3⟩, h4.imp Rg.hasB_iff.2 id⟩
theorem Rg.fr_ok (h : r.ok a k = true) : r.fr a k = (r.drop k).push a.toNat k := by unfold Rg.fr; rw [if_pos h]
theorem Rg.has_fr (h : r.ok a k = true) : (r.fr a k).has x ↔ x = k ∨ r.has x := by
 rw [Rg.fr_ok h, Rg.has_push (r := r.drop k) (Rg.ok_in h).2.1, Rg.has_drop]
 constructor
 ·rintro (e | e)
  ·exact .inl e
  ·exact .inr e.1
 ·intro e
  by_cases e2 : x = k
  ·exact .inl e2
  ·exact .inr ⟨e.resolve_left e2, e2⟩
theorem Rg.many_same (h : ¬ r.has k) : (r.drop k).many = r.many := sumTo_congr _ fun t ht => by
 show ((r.drop k).l t).length = _
 rw [Rg.drop_not (fun i hi hk => h ⟨i, hi, hk⟩) t ht]
theorem Rg.many_fr_new (h : r.ok a k = true) (hn : ¬ r.has k) : (r.fr a k).many = r.many + 1 := by
 rw [Rg.fr_ok h, Rg.many_push (r := r.drop k) (Rg.ok_in h).2.1, Rg.many_same hn]
theorem Rg.l_fr (h : r.ok a k = true) (t : Nat) : (r.fr a k).l t = if t = a.toNat then k :: strike k (r.l t) else strike k (r.l t) := by rw [Rg.fr_ok h]; rfl
end

end Go.Proofs.YtncgfnocokippaaGreat.Ringy
namespace Go.Proofs.YtncgfnocokippaaGreat.Ringy
open Go.ChangeShapes Go.WideShapes Go.ChangeAt Go.RowKit
open Wirey (Blk Row str str_size str_list Kp)
open Go.ChangeMaps Go.Maps

structure RefAt (w : World) (O : Nat → Prop) (G : Nat) (vs : Nat → Value) (r : Rg) : Prop where
 blk : Blk w G 57 ((List.range r.n).map vs).toArray
 row : ∀ i, i < r.n → w.ownsRow 0 9 1 (vs i) (r.l i).length (strsV (r.l i))
 noG : ¬ O G
 noR : ∀ i g, i < r.n → (vs i).ownBlock = some g → ¬ O g
def refV (G : Nat) (r : Rg) : Value := .agg #[.slice (some ⟨G, 0, none⟩) r.n r.n, .int .i64 r.places]
section
variable {w w' : World} {O : Nat → Prop} {G : Nat} {vs : Nat → Value} {r : Rg}
theorem RefAt.stay (h : RefAt w O G vs r) (hb : ∀ b, b < w.heap.size → ¬ O b → w'.heap[b]? = w.heap[b]?) : RefAt w' O G vs r :=
 ⟨(hb _ h.blk.lt h.noG).trans h.blk, fun i hi => ownsRow_stay (h.row i hi) fun b e => hb b ((h.row i hi).lt b e).2 (h.noR i b hi e), h.noG, h.noR⟩
theorem RefAt.below (h : RefAt w O G vs r) {C : Nat} (hb : Below C w w') (hC : w.heap.size ≤ C) : RefAt w' O G vs r := h.stay fun b hb2 _ => hb.block b (Nat.lt_of_lt_of_le hb2 hC)
theorem RefAt.alloc (h : RefAt w O G vs r) (o : Obj) : RefAt (w.alloc o) O G vs r := h.stay fun b hb _ => Below.heap_alloc w o b hb
theorem RefAt.drewN (h : RefAt w O G vs r) (n : Nat) : RefAt (w.drewN n) O G vs r := h.stay fun _ _ _ => rfl
theorem RefAt.free {O' : Nat → Prop} (h : RefAt w O G vs r) (hG : ¬ O' G) (hR : ∀ i g, i < r.n → (vs i).ownBlock = some g → ¬ O' g) : RefAt w O' G vs r := ⟨h.blk, h.row, hG, hR⟩
theorem RefAt.at_ (h : RefAt w O G vs r) {i : Nat} (hi : i < r.n) : w.cell? ⟨G, i, none⟩ = some (vs i) ∧ ∃ a c, vs i = .slice a (r.l i).length c := by
 refine ⟨?_, own_form (h.row i hi)⟩
 rw [h.blk.cell i, List.getElem?_toArray, List.getElem?_map, List.getElem?_range hi]
 rfl
theorem RefAt.text (h : RefAt w O G vs r) {i p : Nat} (hi : i < r.n) (hp : p < (r.l i).length) : ∃ g c, vs i = .slice (some ⟨g, 0, none⟩) (r.l i).length c ∧ w.cell? ⟨g, p, none⟩ = some (.string (str ((r.l i)[p]?.getD []))) := by
 obtain ⟨g, c, hv, -, -⟩ := (h.row i hi).form (by omega)
 have hr := h.row i hi
 rw [hv] at hr
 refine ⟨g, c, hv, ?_⟩
 rw [hr.cellAt p (by omega)]
 exact strsV_at hp

def Rg.idx (r : Rg) (k : Key) : Nat := ((List.range r.n).find? fun i => decide (k ∈ r.l i)).getD 0
theorem Rg.idx_yes {k : Key} {i : Nat} (hi : i < r.n) (hk : k ∈ r.l i) (hb : ∀ t, t < i → k ∉ r.l t) : r.idx k = i ∧ r.hasB k = true := by
 refine ⟨?_, Rg.hasB_iff.2 ⟨i, hi, hk⟩⟩
 unfold Rg.idx
 have : (List.range r.n).find? (fun i => decide (k ∈ r.l i)) = some i := by
  rw [List.find?_range_eq_some]
  exact ⟨decide_eq_true hk, List.mem_range.2 hi, fun j hj => by simp [hb j hj]⟩
 rw [this]
 rfl
theorem Rg.idx_no {k : Key} (hb : ∀ t, t < r.n → k ∉ r.l t) : r.idx k = 0 ∧ r.hasB k = false := by
 have h1 : r.hasB k = false := by
  rw [Bool.eq_false_iff]
  intro e
  obtain ⟨i, hi, hk⟩ := Rg.hasB_iff.1 e
  exact hb i hi hk
 refine ⟨?_, h1⟩
 unfold Rg.idx
 have : (List.range r.n).find? (fun i => decide (k ∈ r.l i)) = none := by
  rw [List.find?_eq_none]
  intro x hx
  simp [hb x (List.mem_range.1 hx)]
 rw [this]
 rfl
theorem mem_pos_of {l : List Key} {p : Nat} (hp : p < l.length) : l[p]?.getD [] ∈ l := by rw [List.getElem?_eq_getElem hp]; exact List.getElem_mem hp
theorem not_mem_of {l : List Key} {k : Key} (h : ∀ p, p < l.length → l[p]?.getD [] ≠ k) : k ∉ l := fun hk => by
 obtain ⟨p, hp, e⟩ := List.getElem_of_mem hk
 exact h p hp (by rw [List.getElem?_eq_getElem hp]; exact e)

set_option maxHeartbeats 2000000 in
set_option maxRecDepth 100000 in
theorem rin_c (k : Key) (hn : r.n ≤ 100) (hlen : ∀ i, i < r.n → (r.l i).length < 100000) (w : World) (h : RefAt w O G vs r) :
  Calls Tryz.prog 65 #[refV G r, .string (str k)] w fun e w' => e = .returned (.tuple #[.int .i64 (r.idx k : Int), .bool (r.hasB k)]) ∧ Below w.heap.size w w' := by
 unfold refV
 have hb := (Below.refl _ w).alloc (Nat.le_refl _) (.cells #[.slice (some ⟨G, 0, none⟩) r.n r.n, .int .i64 r.places] 30)
 have hX := Blk.new w 30 #[.slice (some ⟨G, 0, none⟩) r.n r.n, .int .i64 r.places]
 have h1 := h.alloc (.cells #[.slice (some ⟨G, 0, none⟩) r.n r.n, .int .i64 r.places] 30)
 have htl := Wirey.toList_str
 go_enter Tryz.func65, Tryz.ntmps65
 go_wp2_with fail
 generalize w.alloc (.cells #[.slice (some ⟨G, 0, none⟩) r.n r.n, .int .i64 r.places] 30) = w1 at *
 have x0 := hX.cell 0
 simp only [List.getElem?_toArray, List.getElem?_cons_zero] at x0
 go_loopw [6] (fun i wr => ∃ j : Nat, j ≤ r.n ∧ i = .int .i64 j ∧ wr = w1 ∧ ∀ t, t < j → k ∉ r.l t) (fun i _ => r.n - (intOf i).toNat)
 case atStart => exact ⟨0, Nat.zero_le _, rfl, rfl, fun t ht => by omega⟩
 case round =>
  obtain ⟨j, hj, rfl, rfl, hnot⟩ := hrel
  have HNOT := Lib.hid hnot
  clear hnot
  by_cases hlt : j < r.n
  ·obtain ⟨c1, a1, cc, hv⟩ := h1.at_ hlt
   have hll := hlen j hlt
   have HV := Lib.hid hv
   rw [hv] at c1
   clear hv
   have hltd : decide ((j : Int) < (r.n : Int)) = true := decide_eq_true (by omega)
   go_wp2_with fail
   go_loopw [7] (fun i wr' => ∃ p : Nat, p ≤ (r.l j).length ∧ i = .int .i64 p ∧ wr' = wr ∧ ∀ t, t < p → (r.l j)[t]?.getD [] ≠ k) (fun i _ => (r.l j).length - (intOf i).toNat)
   case atStart => exact ⟨0, Nat.zero_le _, rfl, rfl, fun t ht => by omega⟩
   case round =>
    obtain ⟨p, hp, rfl, hwr, hnp⟩ := hrel
    have HNP := Lib.hid hnp
    clear hnp
    subst hwr
    by_cases hpl : p < (r.l j).length
    ·obtain ⟨g, c2, hv2, hc2⟩ := h1.text hlt hpl
     have hv3 := HV.out
     rw [hv2] at hv3
     injection hv3 with e1 _ e3
     subst e1 e3
     have HMEM := Lib.hid (mem_pos_of hpl)
     generalize hx : (r.l j)[p]?.getD [] = x at *
     have HX := Lib.hid hx
     clear hx
     by_cases e : x = k
     ·have e2 : (x == k) = true := beq_iff_eq.2 e
      have hfin := Rg.idx_yes (r := r) hlt (e ▸ HMEM.out) HNOT.out
      have HF := Lib.hid hfin
      clear e hfin
      go_wp2_with fail
      go_ret2
      refine ⟨?_, hb⟩
      show Ending.returned (.tuple #[.int .i64 j, .bool true]) = _
      rw [HF.out.1, HF.out.2]
     ·have e2 : (x == k) = false := beq_eq_false_iff_ne.2 e
      have HE := Lib.hid e
      clear e
      go_wp2_with fail
      go_roundw
      case rel => exact ⟨p + 1, by omega, rfl, by simp, fun t ht => by
        rcases Nat.lt_or_ge t p with h2 | h2
        · exact HNP.out t h2
        · rw [show t = p from by omega, HX.out]; exact HE.out⟩
      case measure => simp [intOf]; omega
    ·have hnm := not_mem_of (l := r.l j) (k := k) fun t ht => HNP.out t (by omega)
     have HNM := Lib.hid hnm
     clear hnm
     go_wp2_with fail
     go_roundw
     case rel => exact ⟨j + 1, by omega, rfl, by simp, fun t ht => by
       rcases Nat.lt_or_ge t j with h2 | h2
       · exact HNOT.out t h2
       · rw [show t = j from by omega]; exact HNM.out⟩
     case measure => simp [intOf]; omega
  ·have hfin := Rg.idx_no (r := r) (k := k) fun t ht => HNOT.out t (by omega)
   have HF := Lib.hid hfin
   clear hfin
   go_wp2_with fail
   go_ret2
   refine ⟨?_, hb⟩
   show Ending.returned (.tuple #[.int .i64 0, .bool false]) = _
   rw [HF.out.1, HF.out.2]
   rfl

theorem sumTo_step (f : Nat → Nat) (j : Nat) : sumTo f (j + 1) = sumTo f j + f j := rfl
theorem sumTo_bound {f : Nat → Nat} (h : ∀ i, f i < 100000) : ∀ j, j ≤ 100 → sumTo f j ≤ j * 100000
 | 0, _ => Nat.le_refl _
 | j + 1, hj => by have := sumTo_bound h j (by omega); have := h j; show sumTo f j + f j ≤ _; omega
set_option maxHeartbeats 2000000 in
set_option maxRecDepth 100000 in
theorem rmany_c (hn : r.n ≤ 100) (hlen : ∀ i, (r.l i).length < 100000) (w : World) (h : RefAt w O G vs r) :
  Calls Tryz.prog 64 #[refV G r] w fun e w' => e = .returned (.int .i64 r.many) ∧ Below w.heap.size w w' := by
 unfold refV
 have hb := (Below.refl _ w).alloc (Nat.le_refl _) (.cells #[.slice (some ⟨G, 0, none⟩) r.n r.n, .int .i64 r.places] 30)
 have hX := Blk.new w 30 #[.slice (some ⟨G, 0, none⟩) r.n r.n, .int .i64 r.places]
 have h1 := h.alloc (.cells #[.slice (some ⟨G, 0, none⟩) r.n r.n, .int .i64 r.places] 30)
 go_enter Tryz.func64, Tryz.ntmps64
 go_wp2_with fail
 generalize w.alloc (.cells #[.slice (some ⟨G, 0, none⟩) r.n r.n, .int .i64 r.places] 30) = w1 at *
 have x0 := hX.cell 0
 simp only [List.getElem?_toArray, List.getElem?_cons_zero] at x0
 go_loopw [3, 4] (fun s i wr => ∃ j : Nat, j ≤ r.n ∧ i = .int .i64 j ∧ wr = w1 ∧ s = .int .i64 (sumTo (fun i => (r.l i).length) j : Int)) (fun _ i _ => r.n - (intOf i).toNat)
 case atStart => exact ⟨0, Nat.zero_le _, rfl, rfl, rfl⟩
 case round =>
  obtain ⟨j, hj, rfl, rfl, rfl⟩ := hrel
  by_cases hlt : j < r.n
  ·obtain ⟨c1, a1, cc, hv⟩ := h1.at_ hlt
   have hll := hlen j
   rw [hv] at c1
   clear hv
   have hst := Lib.hid (sumTo_step (fun i => (r.l i).length) j)
   have hsb := sumTo_bound (f := fun i => (r.l i).length) hlen j (by omega)
   generalize sumTo (fun i => (r.l i).length) j = q at *
   go_wp2_with fail
   go_roundw
   case rel => exact ⟨j + 1, by omega, rfl, by simp, by rw [hst.out]; simp⟩
   case measure => simp [intOf]; omega
  ·obtain rfl : j = r.n := by omega
   go_wp2_with fail
   go_ret
   exact ⟨rfl, hb⟩
def Rg.back (r : Rg) (i : Nat) : Key := (r.l i)[(r.l i).length - 1]?.getD []
set_option maxHeartbeats 2000000 in
set_option maxRecDepth 100000 in
theorem rback_c {i : Nat} (hi : i < r.n) (hlen : (r.l i).length < 100000) (w : World) (h : RefAt w O G vs r) :
  Calls Tryz.prog 83 #[refV G r, .int .i64 i] w fun e w' => e = .returned (.tuple #[.string (str (r.back i)), .bool (decide (0 < (r.l i).length))]) ∧ Below w.heap.size w w' := by
 unfold refV
 have hb := (Below.refl _ w).alloc (Nat.le_refl _) (.cells #[.slice (some ⟨G, 0, none⟩) r.n r.n, .int .i64 r.places] 30)
 have hX := Blk.new w 30 #[.slice (some ⟨G, 0, none⟩) r.n r.n, .int .i64 r.places]
 have h1 := h.alloc (.cells #[.slice (some ⟨G, 0, none⟩) r.n r.n, .int .i64 r.places] 30)
 have d1 : ¬ (r.n : Int) ≤ (i : Int) := by omega
 have d2 : decide ((r.n : Int) ≤ (i : Int)) = false := decide_eq_false d1
 by_cases hz : 0 < (r.l i).length
 ·obtain ⟨g, c2, hv2, hc2⟩ := h1.text hi (p := (r.l i).length - 1) (by omega)
  obtain ⟨c1, _⟩ := h1.at_ hi
  rw [hv2] at c1
  clear hv2
  have hbk : (r.l i)[(r.l i).length - 1]?.getD [] = r.back i := rfl
  rw [hbk] at hc2
  clear hbk
  generalize r.back i = k at *
  generalize (r.l i).length = n at *
  have hz0 : ((n : Int) == 0) = false := by rw [beq_eq_false_iff_ne]; omega
  have hz1 : decide (0 < n) = true := decide_eq_true hz
  rw [hz1]
  clear hz1
  have hn1 : ((n : Int) - 1) = ((n - 1 : Nat) : Int) := by omega
  go_enter Tryz.func83, Tryz.ntmps83
  go_wp2_with fail
  generalize w.alloc (.cells #[.slice (some ⟨G, 0, none⟩) r.n r.n, .int .i64 r.places] 30) = w1 at *
  have x0 := hX.cell 0
  simp only [List.getElem?_toArray, List.getElem?_cons_zero] at x0
  go_wp2_with fail
  go_region
  go_wp2_with fail
  go_ret2
  exact ⟨rfl, hb.os, hb.tape, hb.output, hb.size, hb.block⟩
 ·obtain ⟨c1, a1, cc, hv⟩ := h1.at_ hi
  rw [hv] at c1
  clear hv
  have hl : r.l i = [] := List.eq_nil_of_length_eq_zero (by omega)
  have hbk : r.back i = [] := by unfold Rg.back; rw [hl]; rfl
  rw [hbk, hl]
  rw [hl] at c1
  clear hbk hl hz
  go_enter Tryz.func83, Tryz.ntmps83
  go_wp2_with fail
  generalize w.alloc (.cells #[.slice (some ⟨G, 0, none⟩) r.n r.n, .int .i64 r.places] 30) = w1 at *
  have x0 := hX.cell 0
  simp only [List.getElem?_toArray, List.getElem?_cons_zero] at x0
  go_wp2_with fail
  go_ret2
  exact ⟨rfl, hb⟩
end
end Go.Proofs.YtncgfnocokippaaGreat.Ringy
