/- The program's lists beside the document's, and the law's own comparison of them. No condition. -/
import Derived.Test.YtgfpedcdclgmiaaGreatRingDoc
import Derived.Test.YtgfpedcdclgmiaaGreatRingExport
import Derived.Test.YtgfpedcdclgmiaaGreatRingAside
import Derived.Test.YtgfpedcdclgmiaaGreatRingRound
import Derived.BigRegionIn
import Derived.Deep.RegionHeld3
import Derived.Test.YtgfpedcdclgmiaaGreatRingImport
namespace Go.Proofs.YtgfpedcdclgmiaaGreat.Ringy
open Go.ChangeShapes Go.WideShapes Go.ChangeAt Go.RowKit Go.Shelf
open Wirey (Blk Row str str_size str_list Kp)
open Go.ChangeMaps Go.Maps

attribute [local go_sem] Oper.semAt_some

/-- What a box of an int holds. -/
def boxN (v : Value) (w : World) : Nat := match v with
  | .pointer (some p) => (match w.cell? p with
    | some u => (intOf u).toNat
    | none => 0)
  | _ => 0
/-- What stands between two lists. -/
structure Sames (w : World) (m : Rm) (r : Rg) (G : Nat) (vs : Nat → Value) (x : World) : Prop where
  at_ : At x m r
  rf : RefAt x m.own G vs r
  box : Blk x w.heap.size 34 #[.slice (some ⟨G, 0, none⟩) r.n r.n, .int .i64 (r.places : Int)]
  below : Below w.heap.size w x
section
variable {w x y : World} {m : Rm} {r : Rg} {G : Nat} {vs : Nat → Value}
theorem Sames.onto (h : Sames w m r G vs x) (hb : Below x.heap.size x y) : Sames w m r G vs y :=
  ⟨h.at_.below hb (Nat.le_refl _), h.rf.below hb (Nat.le_refl _), h.box.below hb h.box.lt, h.below.trans (hb.mono h.below.size)⟩
theorem Sames.alloc (h : Sames w m r G vs x) (o : Obj) : Sames w m r G vs (x.alloc o) := h.onto ((Below.refl _ x).alloc (Nat.le_refl _) o)
end
theorem boxN_of {w : World} {g n : Nat} (h : Blk w g 3 #[.int .i64 (n : Int)]) : boxN (.pointer (some ⟨g, 0, none⟩)) w = n := by
  have hc := h.cell 0
  simp only [List.getElem?_toArray, List.getElem?_cons_zero] at hc
  simp [boxN, hc, intOf]
/-- .. and a round's end behind a draw. -/
theorem two_put_d {w5 W : World} {n₀ N iB : Nat} {l pre : List Key} {x : Key} {v : Value} {b : Bool} (hv : ∀ g, v.ownBlock = some g → n₀ ≤ g) (hn : iB + 1 < n₀)
    (hbi : Blk W iB 3 #[.int .i64 (pre.length : Int)]) (hbo : Blk W (iB + 1) 4 #[.bool (okF l pre)]) (hkp : Kp (fun b => b = iB ∨ b = iB + 1) w5 W) (hs : okF l (pre ++ [x]) = b) :
    KeepsFrom N W ((W.setCell ⟨iB + 1, 0, none⟩ (.bool b)).setCell ⟨iB, 0, none⟩ (.int .i64 ((pre.length : Int) + 1))).drew ∧ RowK v W ((W.setCell ⟨iB + 1, 0, none⟩ (.bool b)).setCell ⟨iB, 0, none⟩ (.int .i64 ((pre.length : Int) + 1))).drew ∧
    Blk ((W.setCell ⟨iB + 1, 0, none⟩ (.bool b)).setCell ⟨iB, 0, none⟩ (.int .i64 ((pre.length : Int) + 1))).drew iB 3 #[.int .i64 ((pre ++ [x]).length : Int)] ∧
    Blk ((W.setCell ⟨iB + 1, 0, none⟩ (.bool b)).setCell ⟨iB, 0, none⟩ (.int .i64 ((pre.length : Int) + 1))).drew (iB + 1) 4 #[.bool (okF l (pre ++ [x]))] ∧
    Kp (fun b => b = iB ∨ b = iB + 1) w5 ((W.setCell ⟨iB + 1, 0, none⟩ (.bool b)).setCell ⟨iB, 0, none⟩ (.int .i64 ((pre.length : Int) + 1))).drew := by
  obtain ⟨h1, h2, h3, h4, h5⟩ := two_put (N := N) hv hn hbi hbo hkp hs
  exact ⟨h1.trans ((KeepsOthers.drew _).from _), h2, h3, h4, Kp.drew' h5⟩
theorem back_h {w : World} {m : Rm} {r : Rg} {j : Nat} (hA : At w m r) (hj : j < r.n) :
    Calls Tryz.prog 97 #[.pointer (some ⟨m.R, 0, none⟩), .int .i64 (j : Int)] w fun e w' => e = .returned (.tuple #[.string (str (r.back j)), .bool (decide (0 < (r.l j).length))]) ∧ w = w' := by
  rcases List.eq_nil_or_concat (r.l j) with h | ⟨s, k, h⟩
  · refine (back_none w hA hj h).mono ?_
    rintro e w' ⟨rfl, rfl⟩
    refine ⟨?_, rfl⟩
    have : r.back j = [] := by unfold Rg.back; rw [h]; rfl
    rw [this, h]
    rfl
  · rw [List.concat_eq_append] at h
    refine (back_yes w hA hj h).mono ?_
    rintro e w' ⟨rfl, rfl⟩
    refine ⟨?_, rfl⟩
    have : r.back j = k := by unfold Rg.back; rw [h]; simp
    rw [this, h, decide_eq_true (by simp)]
/-- What stands beside the two lists that are held against each other. -/
structure Looks (w : World) (m : Rm) (r : Rg) (G : Nat) (vs : Nat → Value) (j iB b5 : Nat) (ds : List Deferred) (x : World) : Prop where
  sm : Sames w m r G vs x
  n : Blk x iB 3 #[.int .i64 ((r.l j).length : Int)]
  ok : Blk x (iB + 1) 4 #[.bool true]
  i : Blk x b5 3 #[.int .i64 (j : Int)]
  mks : Marked w.heap.size x ds
section
variable {w x y : World} {m : Rm} {r : Rg} {G : Nat} {vs : Nat → Value} {j iB b5 : Nat} {ds : List Deferred}
theorem Looks.onto (h : Looks w m r G vs j iB b5 ds x) (hb : Below x.heap.size x y) : Looks w m r G vs j iB b5 ds y :=
  ⟨h.sm.onto hb, h.n.below hb h.n.lt, h.ok.below hb h.ok.lt, h.i.below hb h.i.lt, h.mks.keep fun k d hd hk => hb.block k (h.mks.lt k d hd hk).2.1⟩
theorem Looks.drewN (h : Looks w m r G vs j iB b5 ds x) (n : Nat) : Looks w m r G vs j iB b5 ds (x.drewN n) := h.onto ⟨rfl, rfl, rfl, Nat.le_refl _, fun _ _ => rfl⟩
theorem Looks.drew (h : Looks w m r G vs j iB b5 ds x) : Looks w m r G vs j iB b5 ds x.drew := h.drewN 1
theorem Looks.all (h : Looks w m r G vs j iB b5 ds x) : x.cell? ⟨iB, 0, none⟩ = some (.int .i64 ((r.l j).length : Int)) ∧ x.cell? ⟨iB + 1, 0, none⟩ = some (.bool true) ∧ x.cell? ⟨b5, 0, none⟩ = some (.int .i64 (j : Int)) ∧
    x.cell? ⟨w.heap.size, 0, none⟩ = some (.slice (some ⟨G, 0, none⟩) r.n r.n) ∧ Looks w m r G vs j iB b5 ds x := ⟨h.n.cell 0, h.ok.cell 0, h.i.cell 0, h.sm.box.cell 0, h⟩
end
/-- What stands when all lists have been held against each other. -/
structure Ends (w : World) (m : Rm) (r : Rg) (G : Nat) (vs : Nat → Value) (ds : List Deferred) (x : World) : Prop where
  sm : Sames w m r G vs x
  mks : Marked w.heap.size x ds
section
variable {w x y : World} {m : Rm} {r : Rg} {G : Nat} {vs : Nat → Value} {ds : List Deferred}
theorem Ends.onto (h : Ends w m r G vs ds x) (hb : Below x.heap.size x y) : Ends w m r G vs ds y := ⟨h.sm.onto hb, h.mks.keep fun k d hd hk => hb.block k (h.mks.lt k d hd hk).2.1⟩
theorem Ends.drewN (h : Ends w m r G vs ds x) (n : Nat) : Ends w m r G vs ds (x.drewN n) := h.onto ⟨rfl, rfl, rfl, Nat.le_refl _, fun _ _ => rfl⟩
theorem Ends.drew (h : Ends w m r G vs ds x) : Ends w m r G vs ds x.drew := h.drewN 1
theorem Ends.all (h : Ends w m r G vs ds x) : x.cell? ⟨w.heap.size, 0, none⟩ = some (.slice (some ⟨G, 0, none⟩) r.n r.n) ∧ x.cell? ⟨w.heap.size, 1, none⟩ = some (.int .i64 (r.places : Int)) ∧ Ends w m r G vs ds x := ⟨h.sm.box.cell 0, h.sm.box.cell 1, h⟩
theorem ends_free (h : Ends w m r G vs ds x) :
    Calls Tryz.prog 92 #[.pointer (some ⟨m.R, 0, none⟩)] x fun e w' => e = .returned (.int .i64 ((r.places : Int) - r.many)) ∧ Ends w m r G vs ds w' := by
  refine (free_c' x h.sm.at_).mono ?_
  rintro e w' ⟨rfl, n, rfl⟩
  exact ⟨rfl, h.drewN n⟩
theorem ends_many (hlens : ∀ i, (r.l i).length < 5000) (hn : r.n ≤ 8) (h : Ends w m r G vs ds x) :
    Calls Tryz.prog 72 #[.agg #[.slice (some ⟨G, 0, none⟩) r.n r.n, .int .i64 (r.places : Int)]] x fun e w' => e = .returned (.int .i64 (r.many : Int)) ∧ Ends w m r G vs ds w' := by
  refine (rmany_c (by omega) (fun i => Nat.lt_trans (hlens i) (by omega)) x h.sm.rf).mono ?_
  rintro e w' ⟨rfl, hb⟩
  exact ⟨rfl, h.onto hb⟩
theorem ends_lists (h : Ends w m r G vs ds x) :
    Calls Tryz.prog 83 #[.pointer (some ⟨m.R, 0, none⟩)] x fun e w' => e = .returned (.int .i64 (r.n : Int)) ∧ Ends w m r G vs ds w' := by
  refine (lists_c' x h.sm.at_).mono ?_
  rintro e w' ⟨rfl, rfl⟩
  exact ⟨rfl, h⟩
end
theorem frame_lit (n : Nat) (F : Array Value) (h : F.size = n) : F = ((List.range n).map fun i => F.getD i undef).toArray := by
  subst h
  apply Array.ext
  · simp
  · intro i h1 h2
    simp [Array.getElem?_eq_getElem h1]
set_option maxRecDepth 100000 in
theorem frame107 {F : Array Value} (h : F.size = 107) : ∃ g : Nat → Value, (∀ i, F.getD i undef = g i) ∧ F = (g 0 :: g 1 :: g 2 :: g 3 :: g 4 :: g 5 :: g 6 :: g 7 :: g 8 :: g 9 :: g 10 :: g 11 :: g 12 :: g 13 :: g 14 :: g 15 :: g 16 :: g 17 :: g 18 :: g 19 :: g 20 :: g 21 :: g 22 :: g 23 :: g 24 :: g 25 :: g 26 :: g 27 :: g 28 :: g 29 :: g 30 :: g 31 :: g 32 :: g 33 :: g 34 :: g 35 :: g 36 :: g 37 :: g 38 :: g 39 :: g 40 :: g 41 :: g 42 :: g 43 :: g 44 :: g 45 :: g 46 :: g 47 :: g 48 :: g 49 :: g 50 :: g 51 :: g 52 :: g 53 :: g 54 :: g 55 :: g 56 :: g 57 :: g 58 :: g 59 :: g 60 :: g 61 :: g 62 :: g 63 :: g 64 :: g 65 :: g 66 :: g 67 :: g 68 :: g 69 :: g 70 :: g 71 :: g 72 :: g 73 :: g 74 :: g 75 :: g 76 :: g 77 :: g 78 :: g 79 :: g 80 :: g 81 :: g 82 :: g 83 :: g 84 :: g 85 :: g 86 :: g 87 :: g 88 :: g 89 :: g 90 :: g 91 :: g 92 :: g 93 :: g 94 :: g 95 :: g 96 :: g 97 :: g 98 :: g 99 :: g 100 :: g 101 :: g 102 :: g 103 :: g 104 :: g 105 :: g 106 :: []).toArray :=
  ⟨fun i => F.getD i undef, fun _ => rfl, frame_lit 107 F h⟩
end Go.Proofs.YtgfpedcdclgmiaaGreat.Ringy

namespace Go.Proofs.YtgfpedcdclgmiaaGreat.Ringy
open Go.ChangeShapes Go.WideShapes Go.ChangeAt Go.RowKit Go.Shelf
open Wirey (Blk Row str str_size str_list Kp)
open Go.ChangeMaps Go.Maps

/-- Lists that no list stands behind. -/
structure Tame (s : Rg) : Prop where
  wf : s.Wf
  n : s.n ≤ 8
  out : ∀ i, s.n ≤ i → s.l i = []
section
variable {r s : Rg} {k : Key} {a : Int}
theorem Tame.len (h : Tame s) (i : Nat) : (s.l i).length < 5000 := by
  rcases Nat.lt_or_ge i s.n with hi | hi
  · have h1 := sumTo_le (f := fun t => (s.l t).length) s.n hi
    have h2 := h.wf.many
    have h3 := h.wf.pl
    unfold Rg.many at h2
    have h1 : (s.l i).length ≤ sumTo (fun t => (s.l t).length) s.n := h1
    omega
  · rw [h.out i hi]; exact Nat.zero_lt_succ _
theorem out_drop (h : ∀ i, s.n ≤ i → s.l i = []) (k : Key) : ∀ i, (s.drop k).n ≤ i → (s.drop k).l i = [] := fun i hi => by
  show strike k (s.l i) = []
  rw [h i hi]
  rfl
theorem out_fr (h : ∀ i, s.n ≤ i → s.l i = []) (a : Int) (k : Key) : ∀ i, (s.fr a k).n ≤ i → (s.fr a k).l i = [] := fun i hi => by
  rw [(Rg.fr_n s a k).1] at hi
  rcases Bool.eq_false_or_eq_true (s.ok a k) with e | e
  · rw [Rg.l_fr e, if_neg (by have := (Rg.ok_in e).2.1; omega), h i hi]
    rfl
  · rw [Rg.fr_no e]
    exact h i hi
theorem Rg.idx_of (hw : r.Wf) {i : Nat} (hi : i < r.n) (hk : k ∈ r.l i) : r.idx k = i ∧ r.hasB k = true :=
  Rg.idx_yes hi hk fun t ht hm => by have := hw.dj t i k (by omega) hi hm hk; omega
theorem in_h {w : World} {m : Rm} (hl : k.length ≤ maxLen) (h : At w m r) :
    Calls Tryz.prog 40 #[.pointer (some ⟨m.R, 0, none⟩), .string (str k)] w fun e w' => e = .returned (.tuple #[.int .i64 (r.idx k : Int), .bool (r.hasB k)]) ∧ w = w' := by
  by_cases hk : r.has k
  · obtain ⟨i, hi, hm⟩ := hk
    obtain ⟨e1, e2⟩ := Rg.idx_of h.wf hi hm
    rw [e1, e2]
    exact flip (in_yes' hl w h hi hm)
  · obtain ⟨e1, e2⟩ := Rg.idx_no (r := r) (k := k) fun t ht hm => hk ⟨t, ht, hm⟩
    rw [e1, e2]
    exact flip (in_no' hl w h hk)
theorem front_at {w : World} {m : Rm} (a : Int) (hl : k.length ≤ maxLen) (h : At w m r) :
    Calls Tryz.prog 54 #[.pointer (some ⟨m.R, 0, none⟩), .int .i64 a, .string (str k)] w fun e w' => e = .returned (.bool (r.ok a k)) ∧ ∃ m', At w' m' (r.fr a k) ∧ Step w m w' m' := by
  refine (front_h a hl (held_any h)).mono ?_
  rintro e w' ⟨rfl, m', h1, h2⟩
  exact ⟨rfl, m', h1.at_, h2⟩
theorem drop_at {w : World} {m : Rm} (hl : k.length ≤ maxLen) (h : At w m r) :
    Calls Tryz.prog 65 #[.pointer (some ⟨m.R, 0, none⟩), .string (str k)] w fun e w' => e = .returned (.bool (r.hasB k)) ∧ ∃ m', At w' m' (r.drop k) ∧ Step w m w' m' := by
  refine (drop_h hl (held_any h)).mono ?_
  rintro e w' ⟨rfl, m', h1, h2⟩
  exact ⟨rfl, m', h1.at_, h2⟩
end
/-- The document's lists: none of their blocks is the program's, nor the box. -/
structure Doc (x : World) (m : Rm) (mb : Nat) (s : Rg) (G : Nat) (vs : Nat → Value) : Prop where
  rf : RefAt x m.own G vs s
  nG : G ≠ mb
  nR : ∀ i g, i < s.n → (vs i).ownBlock = some g → g ≠ mb
section
variable {x y : World} {m m' : Rm} {mb : Nat} {r s : Rg} {G : Nat} {vs : Nat → Value}
theorem Doc.onto (h : Doc x m mb s G vs) (hb : Below x.heap.size x y) : Doc y m mb s G vs := ⟨h.rf.below hb (Nat.le_refl _), h.nG, h.nR⟩
theorem Doc.step (h : Doc x m mb s G vs) (hS : Step x m y m') : Doc y m' mb s G vs := ⟨h.rf.step hS, h.nG, h.nR⟩
theorem Doc.put (h : Doc x m mb s G vs) (i : Nat) (u : Value) : Doc (x.setCell ⟨mb, i, none⟩ u) m mb s G vs := by
  refine ⟨⟨h.rf.blk.far (p := ⟨mb, i, none⟩) h.nG u, fun j hj => ownsRow_stay (h.rf.row j hj) fun b hb => Below.heap_setCell x ⟨mb, i, none⟩ u b (h.nR j b hj hb), h.rf.noG, h.rf.noR⟩, h.nG, h.nR⟩
/-- New lists, made by a call that laid them behind all. -/
theorem Doc.fresh {G' : Nat} {vs' : Nat → Value} (hown : ∀ b, m.own b → b < x.heap.size) (hmb : mb < x.heap.size) (h : RefAt y (fun b => b < x.heap.size) G' vs' s) : Doc y m mb s G' vs' :=
  ⟨h.free (fun ho => h.noG (hown _ ho)) (fun i g hi hg ho => h.noR i g hi hg (hown _ ho)), fun e => h.noG (by rw [e]; exact hmb), fun i g hi hg e => h.noR i g hi hg (by rw [e]; exact hmb)⟩
/-- Other lists of the program's, laid behind all. -/
theorem Doc.turn (h : Doc x m mb s G vs) (hb : Below x.heap.size x y) (hown : ∀ b, m'.own b → x.heap.size ≤ b) : Doc y m' mb s G vs :=
  ⟨(h.rf.below hb (Nat.le_refl _)).free (fun ho => by have := hown _ ho; have := h.rf.blk.lt; omega) (fun i g hi hg ho => by have := hown _ ho; have := ((h.rf.row i hi).lt g hg).2; omega), h.nG, h.nR⟩
end
/-- None of the lists' blocks is q. -/
def NotIn (q G : Nat) (vs : Nat → Value) (n : Nat) : Prop := G ≠ q ∧ ∀ i g, i < n → (vs i).ownBlock = some g → g ≠ q
theorem RefAt.not_in {x : World} {O : Nat → Prop} {G q : Nat} {vs : Nat → Value} {s : Rg} (h : RefAt x O G vs s) (hq : x.heap.size ≤ q) : NotIn q G vs s.n :=
  ⟨by have := h.blk.lt; omega, fun i g hi hg => by have := ((h.row i hi).lt g hg).2; omega⟩
theorem RefAt.not_old {x : World} {O : Nat → Prop} {G q : Nat} {vs : Nat → Value} {s : Rg} (h : RefAt x O G vs s) (hq : O q) : NotIn q G vs s.n :=
  ⟨fun e => h.noG (e ▸ hq), fun i g hi hg e => h.noR i g hi hg (e ▸ hq)⟩
theorem Doc.beside {x : World} {m : Rm} {mb q G : Nat} {s : Rg} {vs : Nat → Value} (h : Doc x m mb s G vs) (hn : NotIn q G vs s.n) (i : Nat) (u : Value) : Doc (x.setCell ⟨q, i, none⟩ u) m mb s G vs :=
  ⟨⟨h.rf.blk.far (p := ⟨q, i, none⟩) hn.1 u, fun j hj => ownsRow_stay (h.rf.row j hj) fun b hb => Below.heap_setCell x ⟨q, i, none⟩ u b (hn.2 j b hj hb), h.rf.noG, h.rf.noR⟩, h.nG, h.nR⟩
/-- Both, the document's in the box mb. -/
structure Both (w : World) (mb : Nat) (m : Rm) (r s : Rg) (G : Nat) (vs : Nat → Value) (x : World) : Prop where
  at_ : At x m r
  doc : Doc x m mb s G vs
  box : Blk x mb 34 #[.slice (some ⟨G, 0, none⟩) s.n s.n, .int .i64 (s.places : Int)]
  own : ∀ b, m.own b → w.heap.size ≤ b ∧ b ≠ mb
  mbl : w.heap.size ≤ mb
  below : Below w.heap.size w x
section
variable {w x y : World} {mb : Nat} {m m' : Rm} {r r' s s' : Rg} {G G' : Nat} {vs vs' : Nat → Value}
theorem Both.onto (h : Both w mb m r s G vs x) (hb : Below x.heap.size x y) : Both w mb m r s G vs y :=
  ⟨h.at_.below hb (Nat.le_refl _), h.doc.onto hb, h.box.below hb h.box.lt, h.own, h.mbl, h.below.trans (hb.mono h.below.size)⟩
theorem Both.drewN (h : Both w mb m r s G vs x) (n : Nat) : Both w mb m r s G vs (x.drewN n) := h.onto ⟨rfl, rfl, rfl, Nat.le_refl _, fun _ _ => rfl⟩
theorem Both.alloc (h : Both w mb m r s G vs x) (o : Obj) : Both w mb m r s G vs (x.alloc o) := h.onto ((Below.refl _ x).alloc (Nat.le_refl _) o)
theorem Both.beside (h : Both w mb m r s G vs x) {q : Nat} (hq : w.heap.size ≤ q) (hm : mb ≠ q) (ho : ¬ m.own q) (hn : NotIn q G vs s.n) (i : Nat) (u : Value) : Both w mb m r s G vs (x.setCell ⟨q, i, none⟩ u) :=
  ⟨h.at_.stay fun b hb => Below.heap_setCell x ⟨q, i, none⟩ u b (fun e => ho (by have e2 : b = q := e; rw [← e2]; exact hb)), h.doc.beside hn i u, h.box.far (p := ⟨q, i, none⟩) hm u, h.own, h.mbl, h.below.setCell (p := ⟨q, i, none⟩) hq u⟩
theorem Both.cells (h : Both w mb m r s G vs x) : x.cell? ⟨mb, 0, none⟩ = some (.slice (some ⟨G, 0, none⟩) s.n s.n) ∧ x.cell? ⟨mb, 1, none⟩ = some (.int .i64 (s.places : Int)) ∧ x.frozen? ⟨mb, 0, none⟩ = false ∧ x.frozen? ⟨mb, 1, none⟩ = false :=
  ⟨h.box.cell 0, h.box.cell 1, h.box.free 0, h.box.free 1⟩
/-- The program's lists have gone on. -/
theorem Both.step (h : Both w mb m r s G vs x) (hA : At y m' r') (hS : Step x m y m') : Both w mb m' r' s G vs y := by
  have hmb := h.box.lt
  refine ⟨hA, h.doc.step hS, h.box |> fun hb => (hS.kp.block mb hmb (fun ho => (h.own mb ho).2 rfl)).trans hb, fun b hb => ?_, h.mbl, ?_⟩
  · rcases hS.own b hb with h1 | h1
    · exact h.own b h1
    · have := h.mbl
      exact ⟨by omega, by omega⟩
  · have hl := h.below.size
    exact h.below.trans ⟨hS.kp.os, hS.kp.tape, hS.kp.output, hS.kp.size, fun k hk => hS.kp.block k (by omega) (fun ho => by have := (h.own k ho).1; omega)⟩
/-- The document's lists are laid anew in the box. -/
theorem Both.store (h : Both w mb m r s G vs x) (hd : Doc x m mb s' G' vs') : Both w mb m r s' G' vs' ((x.setCell ⟨mb, 0, none⟩ (.slice (some ⟨G', 0, none⟩) s'.n s'.n)).setCell ⟨mb, 1, none⟩ (.int .i64 (s'.places : Int))) := by
  refine ⟨h.at_.stay fun b hb => ?_, (hd.put 0 _).put 1 _, (h.box.put 0 (.slice (some ⟨G', 0, none⟩) s'.n s'.n)).put 1 (.int .i64 (s'.places : Int)), h.own, h.mbl, (h.below.setCell (p := ⟨mb, 0, none⟩) h.mbl _).setCell (p := ⟨mb, 1, none⟩) h.mbl _⟩
  exact (Below.heap_setCell _ ⟨mb, 1, none⟩ _ b (h.own b hb).2).trans (Below.heap_setCell x ⟨mb, 0, none⟩ _ b (h.own b hb).2)
/-- The program's lists are others, laid behind all. -/
theorem Both.turn (h : Both w mb m r s G vs x) (hA : At y m' r') (hb : Below x.heap.size x y) (hown : ∀ b, m'.own b → x.heap.size ≤ b) : Both w mb m' r' s G vs y :=
  ⟨hA, h.doc.turn hb hown, h.box.below hb h.box.lt, fun b hb2 => by have := hown b hb2; have := h.box.lt; have := h.below.size; exact ⟨by omega, by omega⟩, h.mbl, h.below.trans (hb.mono h.below.size)⟩
theorem Both.all (h : Both w mb m r s G vs x) {p : Addr} {v : Value} (hp : p.block < w.heap.size) (hv : w.cell? p = some v) : x.cell? ⟨mb, 0, none⟩ = some (.slice (some ⟨G, 0, none⟩) s.n s.n) ∧ x.cell? ⟨mb, 1, none⟩ = some (.int .i64 (s.places : Int)) ∧ x.cell? p = some v ∧ Both w mb m r s G vs x :=
  ⟨h.box.cell 0, h.box.cell 1, (World.cell?_of_block (h.below.block p.block hp)).trans hv, h⟩
/-- The document's own operations. -/
theorem both_rin {k : Key} (hf : Tame s) (h : Both w mb m r s G vs x) :
    Calls Tryz.prog 41 #[.agg #[.slice (some ⟨G, 0, none⟩) s.n s.n, .int .i64 (s.places : Int)], .string (str k)] x fun e y => e = .returned (.tuple #[.int .i64 (s.idx k : Int), .bool (s.hasB k)]) ∧ Both w mb m r s G vs y := by
  refine (rin_c k (by have := hf.n; omega) (fun i _ => Nat.lt_trans (hf.len i) (by omega)) x h.doc.rf).mono ?_
  rintro e y ⟨rfl, hb⟩
  exact ⟨rfl, h.onto hb⟩
theorem both_rdrop {k : Key} (hf : Tame s) (h : Both w mb m r s G vs x) :
    Calls Tryz.prog 64 #[.agg #[.slice (some ⟨G, 0, none⟩) s.n s.n, .int .i64 (s.places : Int)], .string (str k)] x fun e y => ∃ G' vs', e = .returned (.agg #[.slice (some ⟨G', 0, none⟩) s.n s.n, .int .i64 (s.places : Int)]) ∧ Both w mb m r s G vs y ∧ Doc y m mb (s.drop k) G' vs' := by
  refine (rdrop_c k (by have := hf.n; omega) (fun i _ => Nat.lt_trans (hf.len i) (by omega)) x h.doc.rf).mono ?_
  rintro e y ⟨G', vs', rfl, hR, hb, -⟩
  exact ⟨G', vs', rfl, h.onto hb, .fresh h.at_.lt h.box.lt hR⟩
theorem both_rfront {a : Int} {k : Key} (hk : k.length ≤ maxLen) (hf : Tame s) (h : Both w mb m r s G vs x) :
    Calls Tryz.prog 96 #[.agg #[.slice (some ⟨G, 0, none⟩) s.n s.n, .int .i64 (s.places : Int)], .int .i64 a, .string (str k)] x fun e y => ∃ G' vs', e = .returned (.tuple #[.agg #[.slice (some ⟨G', 0, none⟩) s.n s.n, .int .i64 (s.places : Int)], .bool (s.ok a k)]) ∧ Both w mb m r s G vs y ∧ Doc y m mb (s.fr a k) G' vs' ∧ Below x.heap.size x y ∧ ∀ q, q < x.heap.size → NotIn q G vs s.n → NotIn q G' vs' s.n := by
  rcases Bool.eq_false_or_eq_true (s.ok a k) with e | e
  · obtain ⟨i1, i2, -⟩ := Rg.ok_in e
    obtain ⟨j, rfl⟩ : ∃ j : Nat, a = (j : Int) := ⟨a.toNat, by omega⟩
    rw [e]
    refine (rfront_yes hk (by have := hf.n; omega) (fun i => Nat.lt_trans (hf.len i) (by omega)) x h.doc.rf (by omega) e).mono ?_
    rintro e y ⟨G', vs', rfl, hR, hb⟩
    refine ⟨G', vs', ?_, h.onto hb, .fresh h.at_.lt h.box.lt hR, hb, fun q hq _ => by have := hR.not_old hq; rw [(Rg.fr_n s j k).1] at this; exact this⟩
    unfold refV
    rw [(Rg.fr_n s j k).1, (Rg.fr_n s j k).2]
  · rw [e, Rg.fr_no e]
    refine (rfront_no hk (by have := hf.n; omega) (fun i => Nat.lt_trans (hf.len i) (by omega)) x h.doc.rf e).mono ?_
    rintro e y ⟨rfl, hb⟩
    exact ⟨G, vs, rfl, h.onto hb, h.doc.onto hb, hb, fun q _ h => h⟩
theorem both_rput (h : Both w mb m r r G vs x) :
    Calls Tryz.prog 50 #[.agg #[.slice (some ⟨G, 0, none⟩) r.n r.n, .int .i64 (r.places : Int)]] x fun e y => e = .returned (.string (str r.put)) ∧ Below x.heap.size x y := rput_c h.at_.wf.small x h.doc.rf
/-- The program's. -/
theorem both_drop {k : Key} (hk : k.length ≤ maxLen) (h : Both w mb m r s G vs x) :
    Calls Tryz.prog 65 #[.pointer (some ⟨m.R, 0, none⟩), .string (str k)] x fun e y => e = .returned (.bool (r.hasB k)) ∧ ∃ m', m'.R = m.R ∧ Both w mb m' (r.drop k) s G vs y := by
  refine (drop_at hk h.at_).mono ?_
  rintro e y ⟨rfl, m', hA, hS⟩
  exact ⟨rfl, m', hS.R, h.step hA hS⟩
theorem both_front {a : Int} {k : Key} (hk : k.length ≤ maxLen) (h : Both w mb m r s G vs x) :
    Calls Tryz.prog 54 #[.pointer (some ⟨m.R, 0, none⟩), .int .i64 a, .string (str k)] x fun e y => e = .returned (.bool (r.ok a k)) ∧ ∃ m', m'.R = m.R ∧ Both w mb m' (r.fr a k) s G vs y ∧ Step x m y m' := by
  refine (front_at a hk h.at_).mono ?_
  rintro e y ⟨rfl, m', hA, hS⟩
  exact ⟨rfl, m', hS.R, h.step hA hS, hS⟩
theorem both_exp (h : Both w mb m r s G vs x) :
    Calls Tryz.prog 47 #[.pointer (some ⟨m.R, 0, none⟩)] x fun e y => e = .returned (.string (str r.put)) ∧ Below x.heap.size x y := exp_c x h.at_ h.at_.wf.small h.at_.wf.n1
/-- Lists that were read of their bytes stand beside those that they are read of. -/
structure Twins (w : World) (mb : Nat) (m m' : Rm) (r : Rg) (G : Nat) (vs : Nat → Value) (x : World) : Prop where
  old : Both w mb m r r G vs x
  new_ : Both w mb m' r r G vs x
theorem Twins.onto (h : Twins w mb m m' r G vs x) (hb : Below x.heap.size x y) : Twins w mb m m' r G vs y := ⟨h.old.onto hb, h.new_.onto hb⟩
theorem Twins.drewN (h : Twins w mb m m' r G vs x) (n : Nat) : Twins w mb m m' r G vs (x.drewN n) := h.onto ⟨rfl, rfl, rfl, Nat.le_refl _, fun _ _ => rfl⟩
theorem Twins.drew (h : Twins w mb m m' r G vs x) : Twins w mb m m' r G vs x.drew := h.drewN 1
theorem Twins.all (h : Twins w mb m m' r G vs x) : x.cell? ⟨mb, 0, none⟩ = some (.slice (some ⟨G, 0, none⟩) r.n r.n) ∧ x.cell? ⟨mb, 1, none⟩ = some (.int .i64 (r.places : Int)) ∧ Twins w mb m m' r G vs x := ⟨h.old.box.cell 0, h.old.box.cell 1, h⟩
theorem twins_exp (h : Twins w mb m m' r G vs x) :
    Calls Tryz.prog 47 #[.pointer (some ⟨m.R, 0, none⟩)] x fun e y => e = .returned (.string (str r.put)) ∧ Twins w mb m m' r G vs y := by
  refine (both_exp h.old).mono ?_
  rintro e y ⟨rfl, hb⟩
  exact ⟨rfl, h.onto hb⟩
theorem twins_put (h : Twins w mb m m' r G vs x) :
    Calls Tryz.prog 50 #[.agg #[.slice (some ⟨G, 0, none⟩) r.n r.n, .int .i64 (r.places : Int)]] x fun e y => e = .returned (.string (str r.put)) ∧ Twins w mb m m' r G vs y := by
  refine (both_rput h.old).mono ?_
  rintro e y ⟨rfl, hb⟩
  exact ⟨rfl, h.onto hb⟩
end
end Go.Proofs.YtgfpedcdclgmiaaGreat.Ringy
