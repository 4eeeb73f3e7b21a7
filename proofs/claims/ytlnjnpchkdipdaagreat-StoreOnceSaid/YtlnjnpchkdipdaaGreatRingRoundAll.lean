/- What the laws of layer 6 begin with: two keys of a list; a text that is not too long. No condition. Keys' contract: a slice of a list's keys, from the front on, behind slices.Values. No condition. The function that slices.Values hands back, over a slice of texts: it hands over text by text, whatever a round does to other memory than the slice's own. No condition. Ranges over Keys, for walks outside a fence: the statement's law, a function's contract where its body holds such statements, its leaving. No condition. Lists that a call itself made: what each operation makes of them, told by numbers and keys alone, while nothing that lay before turns. The only condition: a key is no longer than a text may be. A slice of texts in a box beside lists, which stays as it is while they turn; keys held against it. No condition. A region that draws its order, inside a round of a range over a function: whatever is shown of it by the laws for regions outside a round holds there, if it defers nothing. No condition. -/
import Derived.Test.YtlnjnpchkdipdaaGreatRingMake
import Derived.RangeFuncNested
import Derived.RangeFuncBound
import Derived.RangeFuncCalls
import Derived.RangeFuncLeaves
import Derived.RangeFuncBox
import Derived.Shelf.Abstract
import Derived.Shelf.RegionOpen
import Derived.OwnWalkIn
import Derived.TacticsInMore
import Derived.LoopNIn
import Derived.LoopIn
import Derived.Deep.RegionHeld3
namespace Go.Proofs.YtlnjnpchkdipdaaGreat.Ringy
open Go.ChangeShapes Go.WideShapes Go.ChangeAt Go.RowKit
open Wirey (Blk Row str str_size str_list str_take Kp)
open Go.ChangeMaps Go.Maps

/-- Of lists whose blocks are all new: whatever they turn, nothing that was there turns. -/
theorem Step.below {w w' : World} {m m' : Rm} {B : Nat} (h : Step w m w' m') (hO : ∀ b, m.own b → B ≤ b) (hB : B ≤ w.heap.size) : Below B w w' ∧ ∀ b, m'.own b → B ≤ b :=
  ⟨⟨h.kp.os, h.kp.tape, h.kp.output, h.kp.size, fun k hk => h.kp.block k (by omega) (fun ho => by have := hO k ho; omega)⟩, fun b hb => by
    rcases h.own b hb with h1 | h1
    · exact hO b h1
    · omega⟩

def aw1 : Rg := ((Rg.new 2 3).drop [97]).push 1 [97]
def aw2 : Rg := (aw1.drop [98]).push 1 [98]
end Go.Proofs.YtlnjnpchkdipdaaGreat.Ringy
namespace Go.Proofs.YtlnjnpchkdipdaaGreat.Ringy
open Go.ChangeShapes Go.WideShapes Go.ChangeAt Go.RowKit
open Wirey (Blk Row str str_size str_list Kp)
open Go.ChangeMaps Go.Maps

theorem flip {f : FuncId} {args : Array Value} {w : World} {v : Ending} (h : Calls Tryz.prog f args w fun e w' => e = v ∧ w' = w) : Calls Tryz.prog f args w fun e w' => e = v ∧ w = w' := h.mono fun _ _ ⟨a, b⟩ => ⟨a, b.symm⟩
def strsV (l : List Key) : List Value := l.map fun k => .string (str k)
theorem strsV_at {l : List Key} {i : Nat} (h : i < l.length) : (strsV l)[i]? = some (.string (str (l[i]?.getD []))) := by
  unfold strsV
  rw [List.getElem?_map, List.getElem?_eq_getElem h]
  rfl
theorem str_info : (Tryz.prog.info? 9).map (fun i => (i.zero, i.size, i.bytes)) = some (some (.string ⟨#[]⟩), 1, 16) := by kernel_rfl

theorem own_form {w : World} {base : Nat} {e : TypeId} {size : Nat} {v : Value} {n : Nat} {xs : List Value} (h : w.ownsRow base e size v n xs) : ∃ a c, v = .slice a n c := by
  rcases h.2 with ⟨h1, h2⟩ | ⟨g, cap, cur, h1, _⟩
  · exact ⟨none, 0, by rw [h1, h2]⟩
  · exact ⟨_, _, h1⟩
section
variable {m : Rm} {r : Rg}
end
end Go.Proofs.YtlnjnpchkdipdaaGreat.Ringy
namespace Go.Proofs.YtlnjnpchkdipdaaGreat.Ringy
open Go.ChangeShapes Go.WideShapes Go.ChangeAt Go.RowKit Go.Shelf
open Wirey (Blk Row str str_size str_list Kp)
open Go.ChangeMaps Go.Maps

attribute [local go_sem] Oper.semAt_some

theorem take_snoc {xs : List Key} {k : Nat} (h : k < xs.length) : xs.take (k + 1) = xs.take k ++ [xs[k]?.getD []] := by
  rw [List.take_add_one, List.getElem?_eq_getElem h]
  rfl

end Go.Proofs.YtlnjnpchkdipdaaGreat.Ringy
namespace Go.Proofs.YtlnjnpchkdipdaaGreat.Ringy
open Go.ChangeShapes Go.WideShapes Go.ChangeAt Go.RowKit Go.Shelf
open Wirey (Blk Row str str_size str_list Kp)
open Go.ChangeMaps Go.Maps

/-- Marks among the deferred calls: each a block of its own, from B on, in which no call waits. -/
def Marked (B : Nat) (W : World) : List Deferred → Prop
  | [] => True
  | d :: ds => (∃ D, d.target = .collected D ∧ B ≤ D ∧ W.heap[D]? = some (.deferred (some [])) ∧ ∀ d' ∈ ds, d'.target ≠ .collected D) ∧ Marked B W ds
theorem Marked.lt {B : Nat} {W : World} : ∀ {ds : List Deferred}, Marked B W ds → ∀ (k : Nat) (d : Deferred), d ∈ ds → d.target = .collected k → B ≤ k ∧ k < W.heap.size ∧ W.heap[k]? = some (.deferred (some []))
  | d :: ds, ⟨⟨D, h1, h2, h3, _⟩, h5⟩, k, d', hd, hk => by
    rcases List.mem_cons.1 hd with e | e
    · subst e
      rw [h1] at hk
      cases hk
      exact ⟨h2, (Array.getElem?_eq_some_iff.1 h3).1, h3⟩
    · exact h5.lt k d' e hk
end Go.Proofs.YtlnjnpchkdipdaaGreat.Ringy
namespace Go.Proofs.YtlnjnpchkdipdaaGreat.Ringy
open Go.ChangeShapes Go.WideShapes Go.ChangeAt Go.RowKit
open Wirey (Blk Row str str_size str_list Kp)
open Go.ChangeMaps Go.Maps

def Rg.hasB (r : Rg) (k : Key) : Bool := (List.range r.n).any fun i => decide (k ∈ r.l i)
theorem Rg.hasB_iff {r : Rg} {k : Key} : r.hasB k = true ↔ r.has k := by
  unfold Rg.hasB Rg.has
  rw [List.any_eq_true]
  constructor
  · rintro ⟨i, hi, h⟩; exact ⟨i, List.mem_range.1 hi, of_decide_eq_true h⟩
  · rintro ⟨i, hi, h⟩; exact ⟨i, List.mem_range.2 hi, decide_eq_true h⟩
/-- Is there a place for a key at a list's front? -/
def Rg.ok (r : Rg) (a : Int) (k : Key) : Bool := decide (0 ≤ a) && decide (a < (r.n : Int)) && decide (k.length ≤ 64) && (r.hasB k || decide (r.many < r.places))
def Rg.fr (r : Rg) (a : Int) (k : Key) : Rg := if r.ok a k = true then (r.drop k).push a.toNat k else r
structure Held (w0 : World) (P : Nat) (w : World) (m : Rm) (r : Rg) : Prop where
  R : m.R = P
  at_ : At w m r
  below : Below w0.heap.size w0 w
  own : ∀ b, m.own b → w0.heap.size ≤ b
section
variable {w0 w w' : World} {P : Nat} {m m' : Rm} {r r' : Rg}
theorem Held.step (h : Held w0 P w m r) (hA : At w' m' r') (hS : Step w m w' m') : Held w0 P w' m' r' := by
  obtain ⟨h1, h2⟩ := hS.below h.own h.below.size
  exact ⟨hS.R.trans h.R, hA, h.below.trans h1, h2⟩
theorem Held.drewN (h : Held w0 P w m r) (n : Nat) : Held w0 P (w.drewN n) m r := ⟨h.R, h.at_.drewN n, ⟨h.below.os, h.below.tape, h.below.output, h.below.size, h.below.block⟩, h.own⟩
theorem Held.drew (h : Held w0 P w m r) : Held w0 P w.drew m r := h.drewN 1
theorem Held.alloc (h : Held w0 P w m r) (o : Obj) : Held w0 P (w.alloc o) m r := ⟨h.R, h.at_.alloc o, h.below.alloc h.below.size o, h.own⟩
theorem Held.later (h : Held w0 P w m r) {C : Nat} (hb : Below C w w') (hC : w.heap.size ≤ C) : Held w0 P w' m r :=
  ⟨h.R, h.at_.below hb hC, h.below.trans (hb.mono (Nat.le_trans h.below.size hC)), h.own⟩
/-- Other memory of the call's own turns. -/
theorem Held.kp (h : Held w0 P w m r) {O : Nat → Prop} (hk : Kp O w w') (hO : ∀ b, O b → w0.heap.size ≤ b ∧ ¬ m.own b) : Held w0 P w' m r :=
  ⟨h.R, h.at_.kp hk (fun b hb ho => (hO b ho).2 hb), h.below.trans ⟨hk.os, hk.tape, hk.output, hk.size, fun k hk2 => hk.block k (by have := h.below.size; omega) (fun ho => by have := (hO k ho).1; omega)⟩, h.own⟩
theorem Held.lt (h : Held w0 P w m r) : ∀ b, m.own b → b < w.heap.size := h.at_.lt
theorem new_h {n places : Nat} (h1 : 1 ≤ n) (h2 : n ≤ 8) (h3 : places ≤ 4096) (w : World) :
    Calls Tryz.prog 78 #[.int .i64 (n : Int), .int .i64 (places : Int)] w fun e w' => e = .returned (.tuple #[.pointer (some ⟨w.heap.size + 2, 0, none⟩), .int .i64 0]) ∧ ∃ m, Held w (w.heap.size + 2) w' m (Rg.new n places) :=
  (new_c h1 h2 h3 w).mono fun _ _ ⟨a, m, b, c, d, e⟩ => ⟨a, m, b, c, d, e⟩
theorem drop_h {l : List UInt8} (hl : l.length ≤ maxLen) (h : Held w0 P w m r) :
    Calls Tryz.prog 235 #[.pointer (some ⟨P, 0, none⟩), .string (str l)] w fun e w' => e = .returned (.bool (r.hasB l)) ∧ ∃ m', Held w0 P w' m' (r.drop l) ∧ Step w m w' m' := by
  have hR := h.R
  subst hR
  by_cases hc : r.has l
  · rw [Rg.hasB_iff.2 hc]
    refine (drop_yes hl w h.at_ hc).mono ?_
    rintro e w' ⟨rfl, m', hA, hS⟩
    exact ⟨rfl, m', h.step hA hS, hS⟩
  · have : r.hasB l = false := by rw [Bool.eq_false_iff]; exact fun e => hc (Rg.hasB_iff.1 e)
    rw [this]
    refine (drop_no hl w h.at_ hc).mono ?_
    rintro e w' ⟨rfl, rfl⟩
    have hA : At w' m (r.drop l) := h.at_.alike rfl rfl fun i hi => strike_of_not fun hm => hc ⟨i, hi, hm⟩
    exact ⟨rfl, m, h.step hA (Step.refl _ _), Step.refl _ _⟩
theorem len_h (i : Nat) (hi : i < r.n) (h : Held w0 P w m r) :
    Calls Tryz.prog 249 #[.pointer (some ⟨P, 0, none⟩), .int .i64 (i : Int)] w fun e w' => e = .returned (.int .i64 ((r.l i).length : Int)) ∧ w = w' := by
  have hR := h.R
  subst hR
  exact flip (len_c' w h.at_ hi)
theorem Held.len_le (h : Held w0 P w m r) {i : Nat} (hi : i < r.n) : (r.l i).length < 5000 := by
  obtain ⟨lens, S, F, D, pos, hF⟩ := h.at_
  exact hF.len_small hi

/-! A box that a round of a range turns -/
end
end Go.Proofs.YtlnjnpchkdipdaaGreat.Ringy
namespace Go.Proofs.YtlnjnpchkdipdaaGreat.Ringy
open Go.ChangeShapes Go.WideShapes Go.ChangeAt Go.RowKit
open Wirey (Blk Row str str_size str_list Kp)
open Go.ChangeMaps Go.Maps

theorem own_mono {w : World} {base base' : Nat} {e : TypeId} {size : Nat} {v : Value} {n : Nat} {xs : List Value} (h : w.ownsRow base e size v n xs) (hb : base' ≤ base) : w.ownsRow base' e size v n xs := by
  rcases h with ⟨h1, h2 | ⟨g, cap, cur, hv, hg, h3⟩⟩
  · exact ⟨h1, .inl h2⟩
  · exact ⟨h1, .inr ⟨g, cap, cur, hv, Nat.le_trans hb hg, h3⟩⟩
structure Aside (w : World) (m : Rm) (n₀ B : Nat) (v : Value) (l : List Key) : Prop where
  lo : n₀ ≤ B
  box : Blk w B 109 #[v]
  row : w.ownsRow n₀ 9 1 v l.length (strsV l)
  noB : ¬ m.own B
  noR : ∀ g, v.ownBlock = some g → ¬ m.own g
section
variable {w w' : World} {m m' : Rm} {n₀ B : Nat} {v : Value} {l : List Key}
theorem Aside.step (h : Aside w m n₀ B v l) (hS : Step w m w' m') : Aside w' m' n₀ B v l :=
  ⟨h.lo, (hS.kp.block B h.box.lt h.noB).trans h.box, ownsRow_stay h.row fun b hb => hS.kp.block b (h.row.lt b hb).2 (h.noR b hb),
    fun ho => by rcases hS.own B ho with h1 | h1; exact h.noB h1; have := h.box.lt; omega,
    fun g hg ho => by rcases hS.own g ho with h1 | h1; exact h.noR g hg h1; have := (h.row.lt g hg).2; omega⟩
theorem Aside.later (h : Aside w m n₀ B v l) {C : Nat} (hb : Below C w w') (hC : w.heap.size ≤ C) : Aside w' m n₀ B v l :=
  ⟨h.lo, h.box.below hb (Nat.lt_of_lt_of_le h.box.lt hC), ownsRow_stay h.row fun b hb2 => hb.block b (Nat.lt_of_lt_of_le (h.row.lt b hb2).2 hC), h.noB, h.noR⟩
theorem Aside.kp (h : Aside w m n₀ B v l) {O : Nat → Prop} (hk : Kp O w w') (hB : ¬ O B) (hR : ∀ g, v.ownBlock = some g → ¬ O g) : Aside w' m n₀ B v l :=
  ⟨h.lo, hk.blk h.box hB, ownsRow_stay h.row fun b hb => hk.block b (h.row.lt b hb).2 (hR b hb), h.noB, h.noR⟩
theorem Aside.at_ (h : Aside w m n₀ B v l) {i : Nat} (hi : i < l.length) : ∃ g c, v = .slice (some ⟨g, 0, none⟩) l.length c ∧ w.cell? ⟨g, i, none⟩ = some (.string (str (l[i]?.getD []))) := by
  obtain ⟨g, c, hv, -, -⟩ := h.row.form (by omega)
  have hr := h.row
  rw [hv] at hr
  refine ⟨g, c, hv, ?_⟩
  rw [hr.cellAt i (by omega)]
  exact strsV_at hi
end

/-! Keys held against a list, one behind the other -/
end Go.Proofs.YtlnjnpchkdipdaaGreat.Ringy
namespace Go.Proofs.YtlnjnpchkdipdaaGreat.Ringy
open Go.ChangeShapes Go.WideShapes Go.ChangeAt Go.RowKit Go.Shelf

/-- The post where the region ends as it should; nothing else. -/
def Only (Q : Exit → Act → World → Prop) : Exit → Act → World → Prop := fun e a w => e = .normal ∧ Q .normal a w
theorem Only.panic {Q : Exit → Act → World → Prop} {c : _} {a a' : Act} {w : World} (h : Only Q (.panic c) a w) : Only Q (.panic c) a' w := by cases h.1
section
variable {P : Program} {md : Region.Mode} {ops : Array Oper} {Q : Exit → Act → World → Prop}
/-- An operation of the region is taken first, its slot named. -/
theorem take_at (i d : Nat) (v : Value) {S : World → Prop} {oi : Oper} {fuel : Nat} {listed : Array Bool} {T : Array Value} {D : List Deferred} {w : World} (hi : ops[i]? = some oi) (hd : oi.dst = some d)
    (hs : Region.noSelect ops = true) (hf : Region.free md ops listed i = true) (hr : (Region.ready md ops listed).contains i = true)
    (hy : YieldsIf P ops S oi v { tmps := T, defers := D }) (hS : S w)
    (h : wpAnyH P md ops (Only Q) S fuel (listed.setIfInBounds i true) { tmps := T.setIfInBounds d v, defers := D } w) : wpAnyH P md ops (Only Q) S (fuel + 1) listed { tmps := T, defers := D } w := by
  refine wpAnyH_take hi hs hf hr (fun _ _ _ h => h.panic) hy hS ?_
  rw [hd]
  exact h
/-- A region outside a round that does not panic: the same steps. -/
theorem region_only (k : Nat) (L : Array Bool) {S : World → Prop} {id : Nat} {a : Act} {w : World} (hk : ops.size = k) (hL : L = Array.replicate k false) (hm : P.follows .mixedOrders = true) (hS : S w.drew)
    (h : S w.drew → wpAnyH P .any ops (Only Q) S k L a w.drew) : (Code.region id ops true).wp P Q a w := by
  subst hk hL
  exact wp_mono (wp_region_held_drew (S := S) hm hS h) fun e a w ⟨h1, h2⟩ => by subst h1; exact h2
end
end Go.Proofs.YtlnjnpchkdipdaaGreat.Ringy
