/- The function that slices.Values hands back, over a slice of texts: it hands over text by text, whatever a round does to other memory than the slice's own. No condition. Ranges over Keys, for walks outside a fence: the statement's law, a function's contract where its body holds such statements, its leaving. No condition. Lists that a call itself made: what each operation makes of them, told by numbers and keys alone, while nothing that lay before turns. The only condition: a key is no longer than a text may be. A slice of texts in a box beside lists, which stays as it is while they turn; keys held against it. No condition. How many keys there are, and which, when one goes to a front. It speaks of no program's memory. The document's own lists in memory: a row of slices of texts; what asks them: which list a key is in, how many keys there are, a list's last key. No condition. Chapter 6's bytes of lists: numbers, and of each list how many keys and the keys. It speaks of no program. A region that draws its order, inside a round of a range over a function: whatever is shown of it by the laws for regions outside a round holds there, if it defers nothing. No condition. -/
import Derived.Test.YtkiabladmgagdabGreatDoorRingKeysAll
import Derived.RangeFuncNested
import Derived.RangeFuncBound
import Derived.RangeFuncCalls
import Derived.RangeFuncLeaves
import Derived.RangeFuncBox
import Derived.Shelf.Abstract
import Derived.Shelf.RegionOpen
import Derived.OwnWalkIn
import Derived.TacticsInMore
import Derived.LoopNIn
import Derived.LoopIn
import Derived.Deep.RegionHeld3
import Derived.Test.YtkiabladmgagdabGreatDoorWireReadAll
import Derived.Test.YtkiabladmgagdabGreatDoorSq
namespace Go.Proofs.YtkiabladmgagdabGreatDoor.Ringy
open Go.ChangeShapes Go.WideShapes Go.ChangeAt Go.RowKit Go.Shelf
open Wirey (Blk Row str str_size str_list Kp)
open Go.ChangeMaps Go.Maps

attribute [local go_sem] Oper.semAt_some

def RowK (v : Value) (W W' : World) : Prop := ∀ g, v.ownBlock = some g → W'.heap[g]? = W.heap[g]?
theorem rowK_t {v : Value} {A B C : World} (h : RowK v A B) (k : RowK v B C) : RowK v A C := fun g hg => (k g hg).trans (h g hg)
theorem rowK_b {v : Value} {n₀ : Nat} (hv : ∀ g, v.ownBlock = some g → g < n₀) (W : World) (l : Nat) (o o' : Obj) (hl : n₀ ≤ l) (_ : W.heap[l]? = some o) (_ : o.isCells = false) (_ : o.isWalk = false) : RowK v W (W.putObj l o') :=
 fun g hg => World.putObj_heap_other (by have := hv g hg; omega)
theorem take_snoc {xs : List Key} {k : Nat} (h : k < xs.length) : xs.take (k + 1) = xs.take k ++ [xs[k]?.getD []] := by
 rw [List.take_add_one, List.getElem?_eq_getElem h]
 rfl

end Go.Proofs.YtkiabladmgagdabGreatDoor.Ringy
namespace Go.Proofs.YtkiabladmgagdabGreatDoor.Ringy
open Go.ChangeShapes Go.WideShapes Go.ChangeAt Go.RowKit Go.Shelf
open Wirey (Blk Row str str_size str_list Kp)
open Go.ChangeMaps Go.Maps

theorem own_low {w : World} {base : Nat} {e : TypeId} {size : Nat} {v : Value} {n : Nat} {xs : List Value} (h : w.ownsRow base e size v n xs) : w.ownsRow 0 e size v n xs := by
 rcases h with ⟨h1, h2 | ⟨g, cap, cur, hv, hg, h3⟩⟩
 ·exact ⟨h1, .inl h2⟩
 ·exact ⟨h1, .inr ⟨g, cap, cur, hv, Nat.zero_le _, h3⟩⟩
theorem calls_marks {P : Program} {f : FuncId} {fn : Func} {c : Code} {args : Array Value} {w : World} {R : Ending → World → Prop} (hf : P.funcs[f]? = some fn) (hb : fn.body = some c)
  (h : c.wp P (bodyPostM Fence.wide 5 P fn R) { tmps := args ++ Array.replicate (fn.ntmps - args.size) undef, defers := [] } w) : Calls P f args w R :=
 callsIn_wide.1 (callsIn_of_wp_marks hf hb trivial (wpIn_wide.2 h))

def Marked (B : Nat) (W : World) : List Deferred → Prop
 | [] => True
 | d :: ds => (∃ D, d.target = .collected D ∧ B ≤ D ∧ W.heap[D]? = some (.deferred (some [])) ∧ ∀ d' ∈ ds, d'.target ≠ .collected D) ∧ Marked B W ds
theorem Marked.keep {B : Nat} {W W' : World} : ∀ {ds : List Deferred}, Marked B W ds → (∀ (k : Nat) (d : Deferred), d ∈ ds → d.target = .collected k → W'.heap[k]? = W.heap[k]?) → Marked B W' ds
 | [], _, _ => trivial
 | d :: ds, ⟨⟨D, h1, h2, h3, h4⟩, h5⟩, hk => ⟨⟨D, h1, h2, (hk D d (by simp) h1).trans h3, h4⟩, h5.keep fun k d' hd' => hk k d' (List.mem_cons_of_mem _ hd')⟩
theorem Marked.lt {B : Nat} {W : World} : ∀ {ds : List Deferred}, Marked B W ds → ∀ (k : Nat) (d : Deferred), d ∈ ds → d.target = .collected k → B ≤ k ∧ k < W.heap.size ∧ W.heap[k]? = some (.deferred (some []))
 | d :: ds, ⟨⟨D, h1, h2, h3, _⟩, h5⟩, k, d', hd, hk => by
  rcases List.mem_cons.1 hd with e | e
  ·subst e
   rw [h1] at hk
   cases hk
   exact ⟨h2, (Array.getElem?_eq_some_iff.1 h3).1, h3⟩
  ·exact h5.lt k d' e hk
theorem below_put {B D : Nat} {W : World} (o : Obj) (hB : B ≤ D) (hD : D < W.heap.size) : Below B W (W.putObj D o) :=
 (Below.refl B W).grown (grownBy_putObj' W D o) (by omega) (fun k e => by cases e; exact hB)
theorem leave_marks {P : Program} {fn : Func} {tmps : Array Value} {R : Ending → World → Prop} {B : Nat} {v : Value} (hres : ∀ w, (results fn tmps).run P w = .ok v w) : ∀ (ds : List Deferred) (W : World), Marked B W ds →
  (∀ W', Below B W W' → R (.returned v) W') → LeavesInM Fence.wide 5 P fn tmps R ds .returning W
 | [], W, _, h => ⟨v, hres W, h W (Below.refl _ _)⟩
 | d :: ds, W, ⟨⟨D, h1, h2, h3, h4⟩, h5⟩, h => by
  have hD : D < W.heap.size := (Array.getElem?_eq_some_iff.1 h3).1
  refine ⟨by simp, .inl ⟨D, _, h1, run_takeDeferred h3, leave_marks hres ds _ (h5.keep fun k d' hd' hk => World.putObj_heap_other (fun e => h4 d' hd' (by rw [hk, e]))) fun W' hb => h W' ((below_put _ h2 hD).trans hb)⟩⟩

theorem ownFrom_of {β : Type} {B : Nat} {I : β → World → Prop} (h : ∀ s W W', I s W → B ≤ W.heap.size ∧ (W'.os = W.os → W'.tape = W.tape → W'.output = W.output → W.heap.size ≤ W'.heap.size → (∀ k, k < B → W'.heap[k]? = W.heap[k]?) → I s W')) : OwnFrom B I :=
 fun s W W' row hs hg hr => by
  obtain ⟨hB, hk⟩ := h s W W' hs
  exact hk hg.os hg.tape hg.output hg.size fun k hk2 => hg.block k (by omega) (fun e => by have := (hr k e.symm).1; omega)

end Go.Proofs.YtkiabladmgagdabGreatDoor.Ringy
namespace Go.Proofs.YtkiabladmgagdabGreatDoor.Ringy
open Go.ChangeShapes Go.WideShapes Go.ChangeAt Go.RowKit
open Wirey (Blk Row str str_size str_list Kp)
open Go.ChangeMaps Go.Maps

def Rg.hasB (r : Rg) (k : Key) : Bool := (List.range r.n).any fun i => decide (k ∈ r.l i)
theorem Rg.hasB_iff {r : Rg} {k : Key} : r.hasB k = true ↔ r.has k := by
 unfold Rg.hasB Rg.has
 rw [List.any_eq_true]
 constructor
 ·rintro ⟨i, hi, h⟩; exact ⟨i, List.mem_range.1 hi, of_decide_eq_true h⟩
 ·rintro ⟨i, hi, h⟩; exact ⟨i, List.mem_range.2 hi, decide_eq_true h⟩
def Rg.ok (r : Rg) (a : Int) (k : Key) : Bool := decide (0 ≤ a) && decide (a < (r.n : Int)) && decide (k.length ≤ 64) && (r.hasB k || decide (r.many < r.places))
def Rg.fr (r : Rg) (a : Int) (k : Key) : Rg := if r.ok a k = true then (r.drop k).push a.toNat k else r
theorem Rg.fr_n (r : Rg) (a : Int) (k : Key) : (r.fr a k).n = r.n ∧ (r.fr a k).places = r.places := by unfold Rg.fr; split <;> exact ⟨rfl, rfl⟩

structure Held (w0 : World) (P : Nat) (w : World) (m : Rm) (r : Rg) : Prop where
 R : m.R = P
 at_ : At w m r
 below : Below w0.heap.size w0 w
 own : ∀ b, m.own b → w0.heap.size ≤ b
section
variable {w0 w w' : World} {P : Nat} {m m' : Rm} {r r' : Rg}
theorem Held.step (h : Held w0 P w m r) (hA : At w' m' r') (hS : Step w m w' m') : Held w0 P w' m' r' := by
 obtain ⟨h1, h2⟩ := hS.below h.own h.below.size
 exact ⟨hS.R.trans h.R, hA, h.below.trans h1, h2⟩
theorem Held.drewN (h : Held w0 P w m r) (n : Nat) : Held w0 P (w.drewN n) m r := ⟨h.R, h.at_.drewN n, ⟨h.below.os, h.below.tape, h.below.output, h.below.size, h.below.block⟩, h.own⟩
theorem Held.alloc (h : Held w0 P w m r) (o : Obj) : Held w0 P (w.alloc o) m r := ⟨h.R, h.at_.alloc o, h.below.alloc h.below.size o, h.own⟩
theorem Held.later (h : Held w0 P w m r) {C : Nat} (hb : Below C w w') (hC : w.heap.size ≤ C) : Held w0 P w' m r :=
 ⟨h.R, h.at_.below hb hC, h.below.trans (hb.mono (Nat.le_trans h.below.size hC)), h.own⟩
theorem Held.kp (h : Held w0 P w m r) {O : Nat → Prop} (hk : Kp O w w') (hO : ∀ b, O b → w0.heap.size ≤ b ∧ ¬ m.own b) : Held w0 P w' m r :=
 ⟨h.R, h.at_.kp hk (fun b hb ho => (hO b ho).2 hb), h.below.trans ⟨hk.os, hk.tape, hk.output, hk.size, fun k hk2 => hk.block k (by have := h.below.size; omega) (fun ho => by have := (hO k ho).1; omega)⟩, h.own⟩
theorem Held.lt (h : Held w0 P w m r) : ∀ b, m.own b → b < w.heap.size := h.at_.lt
theorem new_h {n places : Nat} (h1 : 1 ≤ n) (h2 : n ≤ 8) (h3 : places ≤ 4096) (w : World) :
  Calls Tryz.prog 94 #[.int .i64 n, .int .i64 places] w fun e w' => e = .returned (.tuple #[.pointer (some ⟨w.heap.size + 2, 0, none⟩), .int .i64 0]) ∧ ∃ m, Held w (w.heap.size + 2) w' m (Rg.new n places) :=
 (new_c h1 h2 h3 w).mono fun _ _ ⟨a, m, b, c, d, e⟩ => ⟨a, m, b, c, d, e⟩
theorem front_h (a : Int) {l : List UInt8} (hl : l.length ≤ maxLen) (h : Held w0 P w m r) :
  Calls Tryz.prog 168 #[.pointer (some ⟨P, 0, none⟩), .int .i64 a, .string (str l)] w fun e w' => e = .returned (.bool (r.ok a l)) ∧ ∃ m', Held w0 P w' m' (r.fr a l) ∧ Step w m w' m' := by
 have hR := h.R
 subst hR
 by_cases hin : 0 ≤ a ∧ a < (r.n : Int) ∧ l.length ≤ 64
 ·obtain ⟨i1, i2, i3⟩ := hin
  obtain ⟨j, rfl⟩ : ∃ j : Nat, a = (j : Int) := ⟨a.toNat, by omega⟩
  have hj : j < r.n := by omega
  by_cases hc : r.has l ∨ r.many < r.places
  ·have hok : r.ok j l = true := by
    unfold Rg.ok
    rw [decide_eq_true i1, decide_eq_true i2, decide_eq_true i3]
    rcases hc with hc | hc
    ·rw [Rg.hasB_iff.2 hc]; rfl
    ·rw [decide_eq_true hc]; simp
   have hfr : r.fr j l = (r.drop l).push j l := by unfold Rg.fr; rw [if_pos hok, Int.toNat_natCast]
   rw [hok, hfr]
   refine (front_yes hj i3 w h.at_ hc).mono ?_
   rintro e w' ⟨rfl, m', hA, hS⟩
   exact ⟨rfl, m', h.step hA hS, hS⟩
  ·have hno : ¬ r.has l := fun e => hc (.inl e)
   have hfull : r.places ≤ r.many := by
    rcases Nat.lt_or_ge r.many r.places with h1 | h1
    ·exact absurd (.inr h1) hc
    ·exact h1
   have hok : r.ok j l = false := by
    unfold Rg.ok
    have : r.hasB l = false := by rw [Bool.eq_false_iff]; exact fun e => hno (Rg.hasB_iff.1 e)
    rw [this, decide_eq_false (by omega : ¬ r.many < r.places)]
    simp
   have hfr : r.fr j l = r := by unfold Rg.fr; rw [hok, if_neg (by decide)]
   rw [hok, hfr]
   refine (front_full hj i3 w h.at_ hno hfull).mono ?_
   rintro e w' ⟨rfl, n, rfl⟩
   exact ⟨rfl, m, h.drewN n, (Step.refl w m).drewN n⟩
 ·have hok : r.ok a l = false := by
   unfold Rg.ok
   rw [Bool.eq_false_iff]
   simp
   omega
  have hfr : r.fr a l = r := by unfold Rg.fr; rw [hok, if_neg (by decide)]
  rw [hok, hfr]
  refine (front_bad hl w h.at_ (by omega)).mono ?_
  rintro e w' ⟨rfl, rfl⟩
  exact ⟨rfl, m, h, Step.refl _ _⟩
theorem drop_h {l : List UInt8} (hl : l.length ≤ maxLen) (h : Held w0 P w m r) :
  Calls Tryz.prog 232 #[.pointer (some ⟨P, 0, none⟩), .string (str l)] w fun e w' => e = .returned (.bool (r.hasB l)) ∧ ∃ m', Held w0 P w' m' (r.drop l) ∧ Step w m w' m' := by
 have hR := h.R
 subst hR
 by_cases hc : r.has l
 ·rw [Rg.hasB_iff.2 hc]
  refine (drop_yes hl w h.at_ hc).mono ?_
  rintro e w' ⟨rfl, m', hA, hS⟩
  exact ⟨rfl, m', h.step hA hS, hS⟩
 ·have : r.hasB l = false := by rw [Bool.eq_false_iff]; exact fun e => hc (Rg.hasB_iff.1 e)
  rw [this]
  refine (drop_no hl w h.at_ hc).mono ?_
  rintro e w' ⟨rfl, rfl⟩
  have hA : At w' m (r.drop l) := h.at_.alike rfl rfl fun i hi => strike_of_not fun hm => hc ⟨i, hi, hm⟩
  exact ⟨rfl, m, h.step hA (Step.refl _ _), Step.refl _ _⟩
theorem len_h (i : Nat) (hi : i < r.n) (h : Held w0 P w m r) :
  Calls Tryz.prog 140 #[.pointer (some ⟨P, 0, none⟩), .int .i64 i] w fun e w' => e = .returned (.int .i64 ((r.l i).length : Int)) ∧ w = w' := by
 have hR := h.R
 subst hR
 exact flip (len_c' w h.at_ hi)
theorem lists_h (h : Held w0 P w m r) :
  Calls Tryz.prog 130 #[.pointer (some ⟨P, 0, none⟩)] w fun e w' => e = .returned (.int .i64 r.n) ∧ w = w' := by
 have hR := h.R
 subst hR
 exact flip (lists_c' w h.at_)
theorem free_h (h : Held w0 P w m r) :
  Calls Tryz.prog 132 #[.pointer (some ⟨P, 0, none⟩)] w fun e w' => e = .returned (.int .i64 ((r.places : Int) - r.many)) ∧ ∃ n, w' = w.drewN n := by
 have hR := h.R
 subst hR
 exact free_c' w h.at_
end
end Go.Proofs.YtkiabladmgagdabGreatDoor.Ringy
namespace Go.Proofs.YtkiabladmgagdabGreatDoor.Ringy
open Go.ChangeShapes Go.WideShapes Go.ChangeAt Go.RowKit
open Wirey (Blk Row str str_size str_list Kp)
open Go.ChangeMaps Go.Maps

theorem own_mono {w : World} {base base' : Nat} {e : TypeId} {size : Nat} {v : Value} {n : Nat} {xs : List Value} (h : w.ownsRow base e size v n xs) (hb : base' ≤ base) : w.ownsRow base' e size v n xs := by
 rcases h with ⟨h1, h2 | ⟨g, cap, cur, hv, hg, h3⟩⟩
 ·exact ⟨h1, .inl h2⟩
 ·exact ⟨h1, .inr ⟨g, cap, cur, hv, Nat.le_trans hb hg, h3⟩⟩
section
variable {w w' : World} {m m' : Rm} {n₀ B : Nat} {v : Value} {l : List Key}
end

end Go.Proofs.YtkiabladmgagdabGreatDoor.Ringy
namespace Go.Proofs.YtkiabladmgagdabGreatDoor.Ringy

section
variable {r : Rg} {a : Int} {k x : Key}
theorem Rg.ok_in (h : r.ok a k = true) : 0 ≤ a ∧ a.toNat < r.n ∧ k.length ≤ 64 ∧ (r.has k ∨ r.many < r.places) := by
 unfold Rg.ok at h
 simp only [Bool.and_eq_true, Bool.or_eq_true, decide_eq_true_eq] at h
 obtain ⟨⟨⟨h1, h2⟩, h3⟩, h4⟩ := h
 exact ⟨h1, by omega, h3, h4.imp Rg.hasB_iff.1 id⟩
theorem Rg.ok_of (h1 : 0 ≤ a) (h2 : a < (r.n : Int)) (h3 : k.length ≤ 64) (h4 : r.has k ∨ r.many < r.places) : r.ok a k = true := by
 unfold Rg.ok
 simp only [Bool.and_eq_true, Bool.or_eq_true, decide_eq_true_eq]
 exact ⟨⟨⟨h1, h2⟩, h3⟩, h4.imp Rg.hasB_iff.2 id⟩
theorem Rg.fr_ok (h : r.ok a k = true) : r.fr a k = (r.drop k).push a.toNat k := by unfold Rg.fr; rw [if_pos h]
theorem Rg.has_fr (h : r.ok a k = true) : (r.fr a k).has x ↔ x = k ∨ r.has x := by
 rw [Rg.fr_ok h, Rg.has_push (r := r.drop k) (Rg.ok_in h).2.1, Rg.has_drop]
 constructor
 ·rintro (e | e)
  ·exact .inl e
  ·exact .inr e.1
 ·intro e
  by_cases e2 : x = k
  ·exact .inl e2
  ·exact .inr ⟨e.resolve_left e2, e2⟩
theorem Rg.many_same (h : ¬ r.has k) : (r.drop k).many = r.many := sumTo_congr _ fun t ht => by
 show ((r.drop k).l t).length = _
 rw [Rg.drop_not (fun i hi hk => h ⟨i, hi, hk⟩) t ht]
theorem Rg.many_fr_new (h : r.ok a k = true) (hn : ¬ r.has k) : (r.fr a k).many = r.many + 1 := by
 rw [Rg.fr_ok h, Rg.many_push (r := r.drop k) (Rg.ok_in h).2.1, Rg.many_same hn]
theorem Rg.l_fr (h : r.ok a k = true) (t : Nat) : (r.fr a k).l t = if t = a.toNat then k :: strike k (r.l t) else strike k (r.l t) := by rw [Rg.fr_ok h]; rfl
end

end Go.Proofs.YtkiabladmgagdabGreatDoor.Ringy
namespace Go.Proofs.YtkiabladmgagdabGreatDoor.Ringy
open Go.ChangeShapes Go.WideShapes Go.ChangeAt Go.RowKit
open Wirey (Blk Row str str_size str_list Kp)
open Go.ChangeMaps Go.Maps

structure RefAt (w : World) (O : Nat → Prop) (G : Nat) (vs : Nat → Value) (r : Rg) : Prop where
 blk : Blk w G 103 ((List.range r.n).map vs).toArray
 row : ∀ i, i < r.n → w.ownsRow 0 9 1 (vs i) (r.l i).length (strsV (r.l i))
 noG : ¬ O G
 noR : ∀ i g, i < r.n → (vs i).ownBlock = some g → ¬ O g
section
variable {w w' : World} {O : Nat → Prop} {G : Nat} {vs : Nat → Value} {r : Rg}
theorem mem_pos_of {l : List Key} {p : Nat} (hp : p < l.length) : l[p]?.getD [] ∈ l := by rw [List.getElem?_eq_getElem hp]; exact List.getElem_mem hp
end
end Go.Proofs.YtkiabladmgagdabGreatDoor.Ringy
namespace Go.Proofs.YtkiabladmgagdabGreatDoor.Ringy
open Wirey (enc txt)

def keysB (l : List Key) : List UInt8 := l.flatMap txt
def listB (l : List Key) : List UInt8 := enc l.length ++ keysB l
def Rg.putTo (r : Rg) (j : Nat) : List UInt8 := enc r.n ++ enc r.places ++ (List.range j).flatMap fun i => listB (r.l i)
def Rg.put (r : Rg) : List UInt8 := r.putTo r.n
theorem keysB_snoc (l : List Key) (k : Key) : keysB (l ++ [k]) = keysB l ++ txt k := by simp [keysB]
theorem Rg.putTo_zero (r : Rg) : r.putTo 0 = enc r.n ++ enc r.places := by simp [Rg.putTo]
theorem Rg.putTo_succ (r : Rg) (j : Nat) : r.putTo (j + 1) = r.putTo j ++ enc (r.l j).length ++ keysB (r.l j) := by
 unfold Rg.putTo
 rw [List.range_succ, List.flatMap_append]
 simp [listB]
theorem enc_ten {n : Nat} (h : n < 1000000000) : (enc n).length ≤ 10 := (Wirey.enc_len (n := n) (by omega)).2
theorem keysB_len {l : List Key} (h : ∀ k ∈ l, k.length ≤ 64) : (keysB l).length ≤ 74 * l.length := by
 induction l with
 | nil => simp [keysB]
 | cons k l ih =>
  have h1 : (txt k).length ≤ 74 := by
   have := enc_ten (n := k.length) (by have := h k (by simp); omega)
   have := h k (by simp)
   simp only [txt, List.length_append]
   omega
  have h2 := ih fun x hx => h x (by simp [hx])
  show (txt k ++ keysB l).length ≤ _
  rw [List.length_append, List.length_cons]
  omega
structure Rg.Small (r : Rg) : Prop where
 n : r.n ≤ 100
 pl : r.places ≤ 4096
 len : ∀ i, i < r.n → (r.l i).length < 5000
 key : ∀ i, i < r.n → ∀ k ∈ r.l i, k.length ≤ 64
theorem Rg.Small.putTo {r : Rg} (h : Rg.Small r) : ∀ j, j ≤ r.n → (r.putTo j).length ≤ 20 + 400000 * j
 | 0, _ => by
  rw [Rg.putTo_zero, List.length_append]
  have := enc_ten (n := r.n) (by have := h.n; omega)
  have := enc_ten (n := r.places) (by have := h.pl; omega)
  omega
 | j + 1, hj => by
  have ih := Rg.Small.putTo h j (by omega)
  have h1 := keysB_len (h.key j (by omega))
  have h2 := h.len j (by omega)
  have h3 := enc_ten (n := (r.l j).length) (by omega)
  rw [Rg.putTo_succ, List.length_append, List.length_append]
  omega
end Go.Proofs.YtkiabladmgagdabGreatDoor.Ringy
namespace Go.Proofs.YtkiabladmgagdabGreatDoor.Ringy
open Go.ChangeShapes Go.WideShapes Go.ChangeAt Go.RowKit Go.Shelf

def Only (Q : Exit → Act → World → Prop) : Exit → Act → World → Prop := fun e a w => e = .normal ∧ Q .normal a w
theorem Only.panic {Q : Exit → Act → World → Prop} {c : _} {a a' : Act} {w : World} (h : Only Q (.panic c) a w) : Only Q (.panic c) a' w := by cases h.1
theorem only_out {Q : Exit → Act → World → Prop} : ¬ LetsOut (Only Q) := fun ⟨_, _, h⟩ => by cases h.1
section
variable {P : Program} {md : Region.Mode} {ops : Array Oper} {Q : Exit → Act → World → Prop}
theorem op_round {l n i : Nat} (hnd : ∀ (i : Nat) (o : Oper), ops[i]? = some o → ∀ c, o.op ≠ .defer c) {K K' : Act → World → Prop} (hK : ∀ a w, K a w → K' a w) {a : Act} {w : World} (h : wpOp P ops (Only Q) i K a w) :
  wpOpIn (Fence.wide.inRound l) n P ops (Only Q) i K' a w := by
 unfold wpOp at h
 unfold wpOpIn
 cases ho : ops[i]? with
 | none => rw [ho] at h; exact hK _ _ h
 | some o =>
  rw [ho] at h
  dsimp only at h ⊢
  by_cases hw : Region.wanted o (yielded ops a.tmps) = true
  ·rw [if_pos hw] at h ⊢
   rcases h with h | ⟨_, h⟩
   ·unfold Oper.wp at h
    unfold Oper.wpIn
    refine ⟨fun _ _ => trivial, ?_⟩
    rw [Oper.semAt_eq _ _ _ (hnd i o ho)]
    generalize (execOp a.eval o).run P w = r at *
    cases r with
    | ok x w' =>
     cases x with
     | value v => exact hK _ _ h
     | skip => exact hK _ _ h
     | defer d => exact hK _ _ h
     | enter f args =>
      refine ⟨fun hd => absurd (show (none : Option Nat).isSome = true from hd) (by decide), CallsIn.inRound _ (callsIn_wide.2 (Calls.mono h fun e w'' he => ?_))⟩
      cases e with
      | returned v => exact hK _ _ he
      | panicked c => exact he
      | outgrown => exact he
     | row row args =>
      refine ⟨fun hd => absurd (show (none : Option Nat).isSome = true from hd) (by decide), fun c cs _ => ?_⟩
      obtain ⟨v, w2, r, s⟩ := h c cs
      exact ⟨v, w2, hK _ _ r, stepsIn_wide.2 s⟩
     | _ => exact h.elim
    | halt x w' =>
     cases x with
     | panic v => exact h
     | _ => exact h.elim
   ·exact absurd h only_out
  ·rw [if_neg hw] at h ⊢
   exact ⟨fun _ _ => trivial, hK _ _ h⟩
theorem any_round {l n : Nat} (hnd : ∀ (i : Nat) (o : Oper), ops[i]? = some o → ∀ c, o.op ≠ .defer c) : ∀ (fuel : Nat) (listed : Array Bool) (a : Act) (w : World), wpAny P md ops (Only Q) fuel listed a w → wpAnyIn (Fence.wide.inRound l) n P md ops (Only Q) fuel listed a w
 | 0, _, _, _, h => h
 | fuel + 1, _, _, _, h => ⟨h.1, fun i hi => op_round hnd (fun a w hh => any_round hnd fuel _ a w hh) (h.2 i hi)⟩
theorem take_at (i d : Nat) (v : Value) {S : World → Prop} {oi : Oper} {fuel : Nat} {listed : Array Bool} {T : Array Value} {D : List Deferred} {w : World} (hi : ops[i]? = some oi) (hd : oi.dst = some d)
  (hs : Region.noSelect ops = true) (hf : Region.free md ops listed i = true) (hr : (Region.ready md ops listed).contains i = true)
  (hy : YieldsIf P ops S oi v { tmps := T, defers := D }) (hS : S w)
  (h : wpAnyH P md ops (Only Q) S fuel (listed.setIfInBounds i true) { tmps := T.setIfInBounds d v, defers := D } w) : wpAnyH P md ops (Only Q) S (fuel + 1) listed { tmps := T, defers := D } w := by
 refine wpAnyH_take hi hs hf hr (fun _ _ _ h => h.panic) hy hS ?_
 rw [hd]
 exact h
theorem round_region (k : Nat) (L : Array Bool) {S : World → Prop} {l n id : Nat} {a : Act} {w : World} (hk : ops.size = k) (hL : L = Array.replicate k false) (hm : P.follows .mixedOrders = true) (hnd : (ops.all fun o => match o.op with | .defer _ => false | _ => true) = true) (hS : S w.drew)
  (h : S w.drew → wpAnyH P .any ops (Only Q) S k L a w.drew) : (Code.region id ops true).wpIn (Fence.wide.inRound l) n P Q a w := by
 subst hk hL
 refine wpIn_mono (Q := Only Q) (wpIn_region_any hm (any_round (fun i o ho c e => ?_) _ _ _ _ (wpAny_of_held _ _ _ _ (h hS)))) (fun e a w ⟨h1, h2⟩ => by subst h1; exact h2)
 have := Array.all_eq_true.1 hnd i (Array.getElem?_eq_some_iff.1 ho).1
 rw [(Array.getElem?_eq_some_iff.1 ho).2] at this
 simp only [e] at this
 cases this
theorem region_only (k : Nat) (L : Array Bool) {S : World → Prop} {id : Nat} {a : Act} {w : World} (hk : ops.size = k) (hL : L = Array.replicate k false) (hm : P.follows .mixedOrders = true) (hS : S w.drew)
  (h : S w.drew → wpAnyH P .any ops (Only Q) S k L a w.drew) : (Code.region id ops true).wp P Q a w := by
 subst hk hL
 exact wp_mono (wp_region_held_drew (S := S) hm hS h) fun e a w ⟨h1, h2⟩ => by subst h1; exact h2
end
theorem tkA (i d fuel : Nat) (v : Value) {P : Program} {md : Region.Mode} {ops : Array Oper} {Q : Exit → Act → World → Prop} {S : World → Prop} {oi : Oper} {listed : Array Bool} {T : Array Value} {D : List Deferred} {w : World} (hi : ops[i]? = some oi) (hd : oi.dst = some d)
  (hy : ∀ w, S w → (execOp (Act.eval { tmps := T, defers := D }) oi).run P w = .ok (.value v) w) (hS : S w)
  (h : wpAnyH P md ops (Only Q) S fuel (listed.setIfInBounds i true) { tmps := T.setIfInBounds d v, defers := D } w)
  (hw : Region.wanted oi (yielded ops T) = true := by rfl) (hs : Region.noSelect ops = true := by kernel_rfl) (hf : Region.free md ops listed i = true := by kernel_rfl) (hr : (Region.ready md ops listed).contains i = true := by kernel_rfl) : wpAnyH P md ops (Only Q) S (fuel + 1) listed { tmps := T, defers := D } w :=
 take_at i d v hi hd hs hf hr (Or.inl ⟨hw, hy⟩) hS h
theorem rdA (fuel i : Nat) {P : Program} {md : Region.Mode} {ops : Array Oper} {Q : Exit → Act → World → Prop} {S : World → Prop} {listed : Array Bool} {a : Act} {w : World} {o : Oper} (ho : ops[i]? = some o)
  (h : ∀ K' : Act → World → Prop, Shut (∀ a w, S w → (S w → wpAnyH P md ops Q S fuel (listed.setIfInBounds i true) a w) → K' a w) → if Region.wanted o (yielded ops a.tmps) = true then Oper.wp P o a w K' Q else K' (a.put o.dst undef) w)
  (hr : Region.ready md ops listed = [i] := by kernel_rfl) : wpAnyH P md ops Q S (fuel + 1) listed a w :=
 wpAnyH_ready hr (by simp) (AllReadyH.cons ho h AllReadyH.nil)
end Go.Proofs.YtkiabladmgagdabGreatDoor.Ringy
