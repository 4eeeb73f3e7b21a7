/- The document's own Tiny in memory: a number, a sketch and a row of lists, handed over by value; what asks it, and a key's going to a list's front. The only condition: it is as chapter 8 has it. -/
import Derived.Test.YtncgfnocokippaaGreatRingBothAll
import Derived.Test.YtncgfnocokippaaGreatTinyMakeAll
import Derived.Test.YtncgfnocokippaaGreatSketchRefAdd
import Derived.Test.YtncgfnocokippaaGreatSketchRefAgeAll
import Derived.Test.YtncgfnocokippaaGreatSketchImportAll
import Derived.Deep.RegionHeld3
import Derived.Test.YtncgfnocokippaaGreatSq
namespace Go.Proofs.YtncgfnocokippaaGreat.Tinyy
open Go.ChangeShapes Go.WideShapes Go.ChangeAt Go.RowKit Go.Shelf
open Wirey (Blk Row str str_size str_list Kp)
open Ringy Go.ChangeMaps Go.Maps
open Sketchy (Sk ksOf ksOf_lt Six)

section
variable {x : World} {b : Nat} {t : TypeId} {z0 z1 z2 z3 z4 z5 z6 z7 : Value}
theorem blk8 (h : Blk x b t #[z0, z1, z2, z3, z4, z5, z6, z7]) (c0 c1 c2 c3 c4 c5 c6 c7 : Value) : Blk ((((((((x.setCell ⟨b, 0, none⟩ c0).setCell ⟨b, 1, none⟩ c1).setCell ⟨b, 2, none⟩ c2).setCell ⟨b, 3, none⟩ c3).setCell ⟨b, 4, none⟩ c4).setCell ⟨b, 5, none⟩ c5).setCell ⟨b, 6, none⟩ c6).setCell ⟨b, 7, none⟩ c7) b t #[c0, c1, c2, c3, c4, c5, c6, c7] := by
 have := (((((((h.put 0 c0).put 1 c1).put 2 c2).put 3 c3).put 4 c4).put 5 c5).put 6 c6).put 7 c7
 simp only [sA, List.set_cons_zero, sC] at this
 exact this
theorem blk5 (h : Blk x b t #[z0, z1, z2, z3, z4, z5, z6, z7]) (c1 c2 c3 c4 c5 : Value) : Blk (((((x.setCell ⟨b, 1, none⟩ c1).setCell ⟨b, 2, none⟩ c2).setCell ⟨b, 3, none⟩ c3).setCell ⟨b, 4, none⟩ c4).setCell ⟨b, 5, none⟩ c5) b t #[z0, c1, c2, c3, c4, c5, z6, z7] := by
 have := ((((h.put 1 c1).put 2 c2).put 3 c3).put 4 c4).put 5 c5
 simp only [sA, List.set_cons_zero, sC] at this
 exact this
theorem blk2 (h : Blk x b t #[z0, z1, z2, z3, z4, z5, z6, z7]) (c6 c7 : Value) : Blk ((x.setCell ⟨b, 6, none⟩ c6).setCell ⟨b, 7, none⟩ c7) b t #[z0, z1, z2, z3, z4, z5, c6, c7] := by
 have := (h.put 6 c6).put 7 c7
 simp only [sA, List.set_cons_zero, sC] at this
 exact this
theorem far8 (x : World) {b q : Nat} (hq : q ≠ b) (c0 c1 c2 c3 c4 c5 c6 c7 : Value) : ((((((((x.setCell ⟨b, 0, none⟩ c0).setCell ⟨b, 1, none⟩ c1).setCell ⟨b, 2, none⟩ c2).setCell ⟨b, 3, none⟩ c3).setCell ⟨b, 4, none⟩ c4).setCell ⟨b, 5, none⟩ c5).setCell ⟨b, 6, none⟩ c6).setCell ⟨b, 7, none⟩ c7).heap[q]? = x.heap[q]? := by
 iterate 8 rw [Below.heap_setCell _ _ _ q hq]
theorem far5 (x : World) {b q : Nat} (hq : q ≠ b) (c1 c2 c3 c4 c5 : Value) : (((((x.setCell ⟨b, 1, none⟩ c1).setCell ⟨b, 2, none⟩ c2).setCell ⟨b, 3, none⟩ c3).setCell ⟨b, 4, none⟩ c4).setCell ⟨b, 5, none⟩ c5).heap[q]? = x.heap[q]? := by
 iterate 5 rw [Below.heap_setCell _ _ _ q hq]
theorem far2 (x : World) {b q : Nat} (hq : q ≠ b) (c6 c7 : Value) : ((x.setCell ⟨b, 6, none⟩ c6).setCell ⟨b, 7, none⟩ c7).heap[q]? = x.heap[q]? := by
 iterate 2 rw [Below.heap_setCell _ _ _ q hq]
theorem set_os (x : World) (p : Addr) (c : Value) : (x.setCell p c).os = x.os := rfl
theorem set_tape (x : World) (p : Addr) (c : Value) : (x.setCell p c).tape = x.tape := rfl
theorem set_out (x : World) (p : Addr) (c : Value) : (x.setCell p c).output = x.output := rfl
theorem set_size (x : World) (p : Addr) (c : Value) : (x.setCell p c).heap.size = x.heap.size := by simp [World.setCell]
end
def Tv.pl (v : Tv) : Nat := v.most + 1
structure Ad where
 R : Nat
 c : Nat
 D : Nat
 Gs : Nat → Nat
 G : Nat
 vs : Nat → Value
def Ad.has (a : Ad) (q : Nat) : Prop := (q = a.R ∨ q = a.D ∨ ∃ i, i < 4 ∧ q = a.Gs i) ∨ (q = a.G ∨ ∃ i, i < 3 ∧ (a.vs i).ownBlock = some q)
def Tv.Out (v : Tv) : Prop := ∀ i, 3 ≤ i → v.rg.l i = []
structure Tv.Fine (v : Tv) : Prop where
 fit : v.Fit
 out : v.Out
structure Dt (x : World) (v : Tv) (a : Ad) : Prop where
 s : Sketchy.Ref x a.R a.D a.Gs v.sk
 r : RefAt x (fun _ => False) a.G a.vs v.rg
section
variable {w x y : World} {v v' v'' : Tv} {a a' a'' : Ad} {k : Key} {j K : Nat}
theorem Tv.Fine.fr (h : v.Fine) (hj : j < 3) (hk : k.length ≤ 64) (hc : v.can k) : (v.fr j k).Fine := ⟨h.fit.fr hj hk hc, fun i hi => by
  show (if i = j then k :: strike k (v.rg.l i) else strike k (v.rg.l i)) = []
  rw [if_neg (by omega), h.out i hi]
  rfl⟩
theorem Tv.Fine.dr (h : v.Fine) (k : Key) : (v.dr k).Fine := ⟨h.fit.dr k, fun i hi => by
  show strike k (v.rg.l i) = []
  rw [h.out i hi]
  rfl⟩
theorem Tv.Fine.note (h : v.Fine) (k : Key) : (v.note k).Fine := ⟨h.fit.note k, h.out⟩
theorem Tv.Fine.lens (h : v.Fine) (i : Nat) : (v.rg.l i).length < 100000 := by
 rcases Nat.lt_or_ge i 3 with hi | hi
 ·have := h.fit.len_le hi
  unfold Tv.len at this
  omega
 ·rw [h.out i hi]; exact Nat.zero_lt_succ _
theorem Dt.lt (h : Dt x v a) (hn : v.rg.n = 3) {q : Nat} (hq : a.has q) : q < x.heap.size := by
 rcases hq with (rfl | rfl | ⟨i, hi, rfl⟩) | (rfl | ⟨i, hi, hg⟩)
 ·exact h.s.lt
 ·exact h.s.door.lt
 ·exact (h.s.row i hi).lt
 ·exact h.r.blk.lt
 ·exact ((h.r.row i (by rw [hn]; exact hi)).lt q hg).2
theorem Dt.stay (h : Dt x v a) (hn : v.rg.n = 3) (hs : x.heap.size ≤ y.heap.size) (hb : ∀ q, a.has q → y.heap[q]? = x.heap[q]?) : Dt y v a :=
 ⟨⟨Nat.lt_of_lt_of_le h.s.lt hs, fun i hi => (World.cell?_of_block (hb a.R (.inl (.inl rfl)))).trans (h.s.rows i hi), fun i hi => (hb _ (.inl (.inr (.inr ⟨i, hi, rfl⟩)))).trans (h.s.row i hi), (hb _ (.inl (.inr (.inl rfl)))).trans h.s.door⟩,
  ⟨(hb _ (.inr (.inl rfl))).trans h.r.blk, fun i hi => ownsRow_stay (h.r.row i hi) fun b e => hb b (.inr (.inr ⟨i, by rw [← hn]; exact hi, e⟩)), h.r.noG, h.r.noR⟩⟩
theorem Dt.onto (h : Dt x v a) (hb : Below x.heap.size x y) : Dt y v a := ⟨h.s.below hb (Nat.le_refl _), h.r.below hb (Nat.le_refl _)⟩
structure Goes (w : World) (a : Ad) (v' : Tv) (a' : Ad) (x : World) : Prop where
 d : Dt x v' a'
 below : Below w.heap.size w x
 new : ∀ q, a'.has q → a.has q ∨ w.heap.size ≤ q
theorem Goes.refl (h : Dt w v a) : Goes w a v a w := ⟨h, Below.refl _ _, fun _ h => .inl h⟩
theorem Goes.onto (h : Goes w a v' a' x) (hb : Below x.heap.size x y) : Goes w a v' a' y := ⟨h.d.onto hb, h.below.trans (hb.mono h.below.size), h.new⟩
structure Wk (w : World) (K : Nat) (a : Ad) (v' : Tv) (a' : Ad) (x : World) : Prop where
 d : Dt x v' a'
 box : Blk x w.heap.size 38 #[.int .i64 v'.most, .int .i64 v'.sk.wide, .int .u64 v'.sk.seed, .slice (some ⟨a'.R, 0, none⟩) 4 a'.c, .slice (some ⟨a'.D, 0, none⟩) v'.sk.wide v'.sk.wide, .int .i64 v'.sk.added, .slice (some ⟨a'.G, 0, none⟩) 3 3, .int .i64 v'.pl]
 below : Below w.heap.size w x
 new : ∀ q, a'.has q → a.has q ∨ w.heap.size + K ≤ q
 old : ∀ q, a.has q → q < w.heap.size
 sz : w.heap.size + K ≤ x.heap.size
 k1 : 1 ≤ K
theorem Wk.onto (h : Wk w K a v' a' x) (hb : Below x.heap.size x y) : Wk w K a v' a' y := ⟨h.d.onto hb, h.box.below hb h.box.lt, h.below.trans (hb.mono h.below.size), h.new, h.old, Nat.le_trans h.sz hb.size, h.k1⟩
theorem Wk.drewN (h : Wk w K a v' a' x) (n : Nat) : Wk w K a v' a' (x.drewN n) := h.onto ⟨rfl, rfl, rfl, Nat.le_refl _, fun _ _ => rfl⟩
theorem Wk.all (h : Wk w K a v' a' x) : x.cell? ⟨w.heap.size, 0, none⟩ = some (.int .i64 v'.most) ∧ x.cell? ⟨w.heap.size, 1, none⟩ = some (.int .i64 v'.sk.wide) ∧ x.cell? ⟨w.heap.size, 2, none⟩ = some (.int .u64 v'.sk.seed) ∧ x.cell? ⟨w.heap.size, 3, none⟩ = some (.slice (some ⟨a'.R, 0, none⟩) 4 a'.c) ∧ x.cell? ⟨w.heap.size, 4, none⟩ = some (.slice (some ⟨a'.D, 0, none⟩) v'.sk.wide v'.sk.wide) ∧ x.cell? ⟨w.heap.size, 5, none⟩ = some (.int .i64 v'.sk.added) ∧ x.cell? ⟨w.heap.size, 6, none⟩ = some (.slice (some ⟨a'.G, 0, none⟩) 3 3) ∧ x.cell? ⟨w.heap.size, 7, none⟩ = some (.int .i64 v'.pl) := ⟨h.box.cell 0, h.box.cell 1, h.box.cell 2, h.box.cell 3, h.box.cell 4, h.box.cell 5, h.box.cell 6, h.box.cell 7⟩
theorem Wk.new1 (h : Dt w v a) (hn : v.rg.n = 3) : Wk w 1 a v a (w.alloc (.cells #[.int .i64 v.most, .int .i64 v.sk.wide, .int .u64 v.sk.seed, .slice (some ⟨a.R, 0, none⟩) 4 a.c, .slice (some ⟨a.D, 0, none⟩) v.sk.wide v.sk.wide, .int .i64 v.sk.added, .slice (some ⟨a.G, 0, none⟩) 3 3, .int .i64 v.pl] 38)) := by
 have hb := (Below.refl _ w).alloc (Nat.le_refl _) (.cells #[.int .i64 v.most, .int .i64 v.sk.wide, .int .u64 v.sk.seed, .slice (some ⟨a.R, 0, none⟩) 4 a.c, .slice (some ⟨a.D, 0, none⟩) v.sk.wide v.sk.wide, .int .i64 v.sk.added, .slice (some ⟨a.G, 0, none⟩) 3 3, .int .i64 v.pl] 38)
 exact ⟨h.onto hb, Blk.new w _ _, hb, fun _ h => .inl h, fun q hq => h.lt hn hq, by simp, by omega⟩
theorem Wk.new2 (h : Dt w v a) (hn : v.rg.n = 3) : Wk w 2 a v a ((w.alloc (.cells #[.int .i64 v.most, .int .i64 v.sk.wide, .int .u64 v.sk.seed, .slice (some ⟨a.R, 0, none⟩) 4 a.c, .slice (some ⟨a.D, 0, none⟩) v.sk.wide v.sk.wide, .int .i64 v.sk.added, .slice (some ⟨a.G, 0, none⟩) 3 3, .int .i64 v.pl] 38)).alloc (.cells #[.int .i64 0, .int .i64 0, .int .u64 0, .slice none 0 0, .slice none 0 0, .int .i64 0, .slice none 0 0, .int .i64 0] 38)) := by
 have h1 := Wk.new1 h hn
 have hb := (Below.refl _ (w.alloc (.cells #[.int .i64 v.most, .int .i64 v.sk.wide, .int .u64 v.sk.seed, .slice (some ⟨a.R, 0, none⟩) 4 a.c, .slice (some ⟨a.D, 0, none⟩) v.sk.wide v.sk.wide, .int .i64 v.sk.added, .slice (some ⟨a.G, 0, none⟩) 3 3, .int .i64 v.pl] 38))).alloc (Nat.le_refl _) (.cells #[.int .i64 0, .int .i64 0, .int .u64 0, .slice none 0 0, .slice none 0 0, .int .i64 0, .slice none 0 0, .int .i64 0] 38)
 have h2 := h1.onto hb
 exact ⟨h2.d, h2.box, h2.below, fun _ h => .inl h, h2.old, by simp, by omega⟩
theorem Wk.goes {v'' : Tv} {a'' : Ad} (h : Wk w K a v' a' x) (hg : Goes x a' v'' a'' y) (hn : v''.rg.n = 3) {z : World} (hz : Blk z w.heap.size 38 #[.int .i64 v''.most, .int .i64 v''.sk.wide, .int .u64 v''.sk.seed, .slice (some ⟨a''.R, 0, none⟩) 4 a''.c, .slice (some ⟨a''.D, 0, none⟩) v''.sk.wide v''.sk.wide, .int .i64 v''.sk.added, .slice (some ⟨a''.G, 0, none⟩) 3 3, .int .i64 v''.pl]) (hs : y.heap.size ≤ z.heap.size) (hk : z.os = y.os ∧ z.tape = y.tape ∧ z.output = y.output) (hb : ∀ q, q ≠ w.heap.size → z.heap[q]? = y.heap[q]?) : Wk w K a v'' a'' z := by
 have hsz := h.sz
 have hk1 := h.k1
 have hnew : ∀ q, a''.has q → a.has q ∨ w.heap.size + K ≤ q := fun q hq => (hg.new q hq).elim (h.new q) fun h2 => .inr (Nat.le_trans hsz h2)
 have hnot : ∀ q, a''.has q → q ≠ w.heap.size := fun q hq e => by
  rcases hnew q hq with h1 | h1
  ·have := h.old q h1; omega
  ·omega
 exact ⟨hg.d.stay hn hs (fun q hq => hb q (hnot q hq)), hz, ⟨hk.1.trans (hg.below.os.trans h.below.os), hk.2.1.trans (hg.below.tape.trans h.below.tape), hk.2.2.trans (hg.below.output.trans h.below.output), Nat.le_trans (Nat.le_trans h.below.size hg.below.size) hs, fun q hq => (hb q (by omega)).trans ((hg.below.block q (Nat.lt_of_lt_of_le hq h.below.size)).trans (h.below.block q hq))⟩, hnew, h.old, Nat.le_trans (Nat.le_trans hsz hg.below.size) hs, hk1⟩
theorem Wk.sketch {v'' : Tv} {a'' : Ad} (h : Wk w K a v' a' x) (hg : Goes x a' v'' a'' y) (hn : v''.rg.n = 3) (hm : v''.most = v'.most) (hG : a''.G = a'.G) : Wk w K a v'' a'' (((((y.setCell ⟨w.heap.size, 1, none⟩ (.int .i64 v''.sk.wide)).setCell ⟨w.heap.size, 2, none⟩ (.int .u64 v''.sk.seed)).setCell ⟨w.heap.size, 3, none⟩ (.slice (some ⟨a''.R, 0, none⟩) 4 a''.c)).setCell ⟨w.heap.size, 4, none⟩ (.slice (some ⟨a''.D, 0, none⟩) v''.sk.wide v''.sk.wide)).setCell ⟨w.heap.size, 5, none⟩ (.int .i64 v''.sk.added)) := by
 have hb0 := h.box.below hg.below h.box.lt
 refine h.goes hg hn ?_ (by simp only [set_size]; exact Nat.le_refl _) (by simp only [set_os, set_tape, set_out, and_self]) (fun q hq => far5 _ hq _ _ _ _ _)
 have := blk5 hb0 (.int .i64 v''.sk.wide) (.int .u64 v''.sk.seed) (.slice (some ⟨a''.R, 0, none⟩) 4 a''.c) (.slice (some ⟨a''.D, 0, none⟩) v''.sk.wide v''.sk.wide) (.int .i64 v''.sk.added)
 have hp : v''.pl = v'.pl := by unfold Tv.pl; rw [hm]
 rw [hm, hG, hp]
 exact this
theorem Wk.lists {v'' : Tv} {a'' : Ad} (h : Wk w K a v' a' x) (hg : Goes x a' v'' a'' y) (hn : v''.rg.n = 3) (hm : v''.most = v'.most) (hs : v''.sk = v'.sk) (hR : a''.R = a'.R ∧ a''.c = a'.c ∧ a''.D = a'.D) : Wk w K a v'' a'' ((y.setCell ⟨w.heap.size, 6, none⟩ (.slice (some ⟨a''.G, 0, none⟩) 3 3)).setCell ⟨w.heap.size, 7, none⟩ (.int .i64 v''.pl)) := by
 have hb0 := h.box.below hg.below h.box.lt
 refine h.goes hg hn ?_ (by simp only [set_size]; exact Nat.le_refl _) (by simp only [set_os, set_tape, set_out, and_self]) (fun q hq => far2 _ hq _ _)
 have := blk2 hb0 (.slice (some ⟨a''.G, 0, none⟩) 3 3) (.int .i64 v''.pl)
 rw [hm, hs, hR.1, hR.2.1, hR.2.2]
 exact this
theorem Wk.whole {v'' : Tv} {a'' : Ad} (h : Wk w K a v' a' x) (hg : Goes x a' v'' a'' y) (hn : v''.rg.n = 3) : Wk w K a v'' a'' ((((((((y.setCell ⟨w.heap.size, 0, none⟩ (.int .i64 v''.most)).setCell ⟨w.heap.size, 1, none⟩ (.int .i64 v''.sk.wide)).setCell ⟨w.heap.size, 2, none⟩ (.int .u64 v''.sk.seed)).setCell ⟨w.heap.size, 3, none⟩ (.slice (some ⟨a''.R, 0, none⟩) 4 a''.c)).setCell ⟨w.heap.size, 4, none⟩ (.slice (some ⟨a''.D, 0, none⟩) v''.sk.wide v''.sk.wide)).setCell ⟨w.heap.size, 5, none⟩ (.int .i64 v''.sk.added)).setCell ⟨w.heap.size, 6, none⟩ (.slice (some ⟨a''.G, 0, none⟩) 3 3)).setCell ⟨w.heap.size, 7, none⟩ (.int .i64 v''.pl)) := by
 have hb0 := h.box.below hg.below h.box.lt
 exact h.goes hg hn (blk8 hb0 _ _ _ _ _ _ _ _) (by simp only [set_size]; exact Nat.le_refl _) (by simp only [set_os, set_tape, set_out, and_self]) (fun q hq => far8 _ hq _ _ _ _ _ _ _ _)
theorem res_goes {b : Nat} {z0 z1 z2 z3 z4 z5 z6 z7 : Value} (h : Wk w K a v' a' x) (hg : Goes x a' v'' a'' y) (hn : v''.rg.n = 3) (h1 : w.heap.size ≤ b) (h2 : b < w.heap.size + K) (hr : Blk y b 38 #[z0, z1, z2, z3, z4, z5, z6, z7]) : Goes w a v'' a'' ((((((((y.setCell ⟨b, 0, none⟩ (.int .i64 v''.most)).setCell ⟨b, 1, none⟩ (.int .i64 v''.sk.wide)).setCell ⟨b, 2, none⟩ (.int .u64 v''.sk.seed)).setCell ⟨b, 3, none⟩ (.slice (some ⟨a''.R, 0, none⟩) 4 a''.c)).setCell ⟨b, 4, none⟩ (.slice (some ⟨a''.D, 0, none⟩) v''.sk.wide v''.sk.wide)).setCell ⟨b, 5, none⟩ (.int .i64 v''.sk.added)).setCell ⟨b, 6, none⟩ (.slice (some ⟨a''.G, 0, none⟩) 3 3)).setCell ⟨b, 7, none⟩ (.int .i64 v''.pl)) ∧ Blk ((((((((y.setCell ⟨b, 0, none⟩ (.int .i64 v''.most)).setCell ⟨b, 1, none⟩ (.int .i64 v''.sk.wide)).setCell ⟨b, 2, none⟩ (.int .u64 v''.sk.seed)).setCell ⟨b, 3, none⟩ (.slice (some ⟨a''.R, 0, none⟩) 4 a''.c)).setCell ⟨b, 4, none⟩ (.slice (some ⟨a''.D, 0, none⟩) v''.sk.wide v''.sk.wide)).setCell ⟨b, 5, none⟩ (.int .i64 v''.sk.added)).setCell ⟨b, 6, none⟩ (.slice (some ⟨a''.G, 0, none⟩) 3 3)).setCell ⟨b, 7, none⟩ (.int .i64 v''.pl)) b 38 #[.int .i64 v''.most, .int .i64 v''.sk.wide, .int .u64 v''.sk.seed, .slice (some ⟨a''.R, 0, none⟩) 4 a''.c, .slice (some ⟨a''.D, 0, none⟩) v''.sk.wide v''.sk.wide, .int .i64 v''.sk.added, .slice (some ⟨a''.G, 0, none⟩) 3 3, .int .i64 v''.pl] := by
 have hsz := h.sz
 have hnew : ∀ q, a''.has q → a.has q ∨ w.heap.size + K ≤ q := fun q hq => (hg.new q hq).elim (h.new q) fun h2 => .inr (Nat.le_trans hsz h2)
 have hnot : ∀ q, a''.has q → q ≠ b := fun q hq e => by
  rcases hnew q hq with h1 | h1
  ·have := h.old q h1; omega
  ·omega
 refine ⟨⟨hg.d.stay hn (by simp only [set_size]; exact Nat.le_refl _) (fun q hq => far8 _ (hnot q hq) _ _ _ _ _ _ _ _), ⟨by simp only [set_os]; exact hg.below.os.trans h.below.os, by simp only [set_tape]; exact hg.below.tape.trans h.below.tape, by simp only [set_out]; exact hg.below.output.trans h.below.output, by simp only [set_size]; exact Nat.le_trans h.below.size hg.below.size, fun q hq => (far8 _ (by omega) _ _ _ _ _ _ _ _).trans ((hg.below.block q (Nat.lt_of_lt_of_le hq h.below.size)).trans (h.below.block q hq))⟩, fun q hq => (hnew q hq).imp id fun h => by omega⟩, blk8 hr _ _ _ _ _ _ _ _⟩

theorem Tv.Fine.val (h : v.Fine) (G : Nat) : refV G v.rg = .agg #[.slice (some ⟨G, 0, none⟩) 3 3, .int .i64 v.pl] := by
 unfold refV
 rw [h.fit.n, h.fit.pl]
 rfl
theorem ix_eq (hok : v.Fine) (k : Key) : v.rg.idx k = (v.at_ k).getD 0 ∧ v.rg.hasB k = (v.at_ k).isSome := by
 cases e : v.at_ k with
 | none => exact Rg.idx_no fun t ht => Tv.at_none e t (by rw [← hok.fit.n]; exact ht)
 | some i =>
  obtain ⟨hi, hm⟩ := Tv.at_some e
  exact Rg.idx_of hok.fit.wf (by rw [hok.fit.n]; exact hi) hm
theorem d_in (hok : v.Fine) (k : Key) (w : World) (h : Dt w v a) :
  Calls Tryz.prog 65 #[.agg #[.slice (some ⟨a.G, 0, none⟩) 3 3, .int .i64 v.pl], .string (str k)] w fun e y => e = .returned (.tuple #[.int .i64 (((v.at_ k).getD 0 : Nat) : Int), .bool (v.at_ k).isSome]) ∧ Below w.heap.size w y := by
 have hc := rin_c k (by rw [hok.fit.n]; decide) (fun i _ => hok.lens i) w h.r
 rw [hok.val, (ix_eq hok k).1, (ix_eq hok k).2] at hc
 exact hc
theorem d_back (hok : v.Fine) {i : Nat} (hi : i < 3) (w : World) (h : Dt w v a) :
  Calls Tryz.prog 83 #[.agg #[.slice (some ⟨a.G, 0, none⟩) 3 3, .int .i64 v.pl], .int .i64 i] w fun e y => e = .returned (.tuple #[.string (str ((v.last i).getD [])), .bool (v.last i).isSome]) ∧ Below w.heap.size w y := by
 have hc := rback_c (i := i) (by rw [hok.fit.n]; exact hi) (hok.lens i) w h.r
 have e1 : v.rg.back i = (v.last i).getD [] := by unfold Rg.back Tv.last; rw [List.getLast?_eq_getElem?]
 have e2 : decide (0 < (v.rg.l i).length) = (v.last i).isSome := by
  unfold Tv.last
  cases e : v.rg.l i with
  | nil => rfl
  | cons y l => rw [List.getLast?_cons]; rfl
 rw [hok.val, e1, e2] at hc
 exact hc
theorem d_many (hok : v.Fine) (w : World) (h : Dt w v a) :
  Calls Tryz.prog 64 #[.agg #[.slice (some ⟨a.G, 0, none⟩) 3 3, .int .i64 v.pl]] w fun e y => e = .returned (.int .i64 v.kept) ∧ Below w.heap.size w y := by
 have hc := rmany_c (by rw [hok.fit.n]; decide) hok.lens w h.r
 rw [hok.val, Tv.many3 hok.fit.n] at hc
 exact hc
theorem d_seen (hok : v.Fine) (hk : k.length ≤ 1099511627776) (w : World) (h : Dt w v a) :
  Calls Tryz.prog 87 #[.agg #[.int .i64 v.sk.wide, .int .u64 v.sk.seed, .slice (some ⟨a.R, 0, none⟩) 4 a.c, .slice (some ⟨a.D, 0, none⟩) v.sk.wide v.sk.wide, .int .i64 v.sk.added], .string (str k)] w fun e y => e = .returned (.int .i64 (v.seen k : Int)) ∧ Below w.heap.size w y := Sketchy.rseen_c (cap := a.c) hok.fit.sw.pre k hk w h.s
theorem Goes.rings {G' : Nat} {vs' : Nat → Value} {r' : Rg} (h : Dt w v a) (hr : RefAt x (fun b => b < w.heap.size) G' vs' r') (hn : r'.n = 3) (hb : Below w.heap.size w x) : Goes w a { v with rg := r' } { a with G := G', vs := vs' } x := by
 refine ⟨⟨h.s.below hb (Nat.le_refl _), ⟨hr.blk, hr.row, fun h => h, fun _ _ _ _ h => h⟩⟩, hb, fun q hq => ?_⟩
 rcases hq with hq | (rfl | ⟨i, hi, hg⟩)
 ·exact .inl (.inl hq)
 ·exact .inr (Nat.le_of_not_lt hr.noG)
 ·exact .inr (Nat.le_of_not_lt (hr.noR i q (by rw [hn]; exact hi) hg))
theorem d_drop (hok : v.Fine) (k : Key) (w : World) (h : Dt w v a) :
  Calls Tryz.prog 84 #[.agg #[.slice (some ⟨a.G, 0, none⟩) 3 3, .int .i64 v.pl], .string (str k)] w fun e y => ∃ a', e = .returned (.agg #[.slice (some ⟨a'.G, 0, none⟩) 3 3, .int .i64 v.pl]) ∧ a'.R = a.R ∧ a'.c = a.c ∧ a'.D = a.D ∧ Goes w a (v.dr k) a' y := by
 have hc := rdrop_c k (by rw [hok.fit.n]; decide) (fun i _ => hok.lens i) w h.r
 rw [hok.val] at hc
 refine hc.mono ?_
 rintro e y ⟨G', vs', rfl, hr, hb, -⟩
 refine ⟨{ a with G := G', vs := vs' }, congrArg Ending.returned ((hok.dr k).val G'), rfl, rfl, rfl, Goes.rings h hr (show (v.rg.drop k).n = 3 from hok.fit.n) hb⟩
theorem fr_rg (hj : j < 3) (hok : v.Fine) (hk : k.length ≤ 64) (hc : v.can k) : v.rg.ok (j : Int) k = true ∧ v.rg.fr (j : Int) k = (v.fr j k).rg := by
 have h1 : v.rg.ok (j : Int) k = true := by
  unfold Rg.ok
  have hn := hok.fit.n
  rw [decide_eq_true (by omega : (0 : Int) ≤ (j : Int)), decide_eq_true (by omega : (j : Int) < (v.rg.n : Int)), decide_eq_true hk]
  rcases hc with hc | hc
  ·rw [Rg.hasB_iff.2 hc]; rfl
  ·rw [decide_eq_true hc]; simp
 refine ⟨h1, ?_⟩
 unfold Rg.fr
 rw [if_pos h1, Int.toNat_natCast]
 rfl
theorem d_front (hok : v.Fine) (hj : j < 3) (hk : k.length ≤ 64) (hc : v.can k) (w : World) (h : Dt w v a) :
  Calls Tryz.prog 103 #[.agg #[.slice (some ⟨a.G, 0, none⟩) 3 3, .int .i64 v.pl], .int .i64 j, .string (str k)] w fun e y => ∃ a', e = .returned (.tuple #[.agg #[.slice (some ⟨a'.G, 0, none⟩) 3 3, .int .i64 v.pl], .bool true]) ∧ a'.R = a.R ∧ a'.c = a.c ∧ a'.D = a.D ∧ Goes w a (v.fr j k) a' y := by
 obtain ⟨h1, h2⟩ := fr_rg hj hok hk hc
 have hcc := rfront_yes (k := k) (j := j) (by unfold maxLen; omega) (by rw [hok.fit.n]; decide) hok.lens w h.r (by rw [hok.fit.n]; exact hj) h1
 rw [hok.val, h2] at hcc
 refine hcc.mono ?_
 rintro e y ⟨G', vs', rfl, hr, hb⟩
 refine ⟨{ a with G := G', vs := vs' }, ?_, rfl, rfl, rfl, Goes.rings h hr (show (v.rg.drop k).n = 3 from hok.fit.n) hb⟩
 have := (hok.fr hj hk hc).val G'
 rw [this]
 rfl
theorem d_add (hok : v.Fine) (hk : k.length ≤ 1099511627776) (w : World) (h : Dt w v a) :
  Calls Tryz.prog 80 #[.agg #[.int .i64 v.sk.wide, .int .u64 v.sk.seed, .slice (some ⟨a.R, 0, none⟩) 4 a.c, .slice (some ⟨a.D, 0, none⟩) v.sk.wide v.sk.wide, .int .i64 v.sk.added], .string (str k)] w fun e y => ∃ a', e = .returned (.agg #[.int .i64 ((v.note k).sk.wide : Int), .int .u64 ((v.note k).sk.seed : Int), .slice (some ⟨a'.R, 0, none⟩) 4 a'.c, .slice (some ⟨a'.D, 0, none⟩) (v.note k).sk.wide (v.note k).sk.wide, .int .i64 ((v.note k).sk.added : Int)]) ∧ a'.G = a.G ∧ Goes w a (v.note k) a' y := by
 refine (Sketchy.radd_c (cap := a.c) hok.fit.sw k hk w h.s).mono ?_
 rintro e y ⟨R', c', D', G', rfl, hr, hA, hb⟩
 refine ⟨⟨R', c', D', G', a.G, a.vs⟩, rfl, rfl, ⟨hr, h.r.below hb (Nat.le_refl _)⟩, hb, fun q hq => ?_⟩
 rcases hq with (rfl | rfl | ⟨i, hi, rfl⟩) | hq
 ·exact .inr hA.hR
 ·exact .inr hA.hD
 ·exact .inr (hA.hG i hi)
 ·exact .inl (.inr hq)
end
end Go.Proofs.YtncgfnocokippaaGreat.Tinyy
