/- The document's Tiny, method by method. The only condition: it is as chapter 8 has it. -/
import Derived.Test.YtgfpedcdclgmiaaGreatRingTwo
import Derived.Test.YtgfpedcdclgmiaaGreatTinyProg
import Derived.Test.YtgfpedcdclgmiaaGreatSketchDoc
import Derived.Test.YtgfpedcdclgmiaaGreatSketchPut
import Derived.Deep.RegionHeld3
import Derived.Test.YtgfpedcdclgmiaaGreatRingDoc
import Derived.Test.YtgfpedcdclgmiaaGreatRingRound
namespace Go.Proofs.YtgfpedcdclgmiaaGreat.Tinyy
open Go.ChangeShapes Go.WideShapes Go.ChangeAt Go.RowKit Go.Shelf
open Wirey (Blk Row str str_size str_list Kp)
open Ringy Go.ChangeMaps Go.Maps
open Sketchy (Sk ksOf ksOf_lt Six)

/-! Eight cells -/
section
variable {x : World} {b : Nat} {t : TypeId} {z0 z1 z2 z3 z4 z5 z6 z7 : Value}
theorem blk8 (h : Blk x b t #[z0, z1, z2, z3, z4, z5, z6, z7]) (c0 c1 c2 c3 c4 c5 c6 c7 : Value) : Blk ((((((((x.setCell ⟨b, 0, none⟩ c0).setCell ⟨b, 1, none⟩ c1).setCell ⟨b, 2, none⟩ c2).setCell ⟨b, 3, none⟩ c3).setCell ⟨b, 4, none⟩ c4).setCell ⟨b, 5, none⟩ c5).setCell ⟨b, 6, none⟩ c6).setCell ⟨b, 7, none⟩ c7) b t #[c0, c1, c2, c3, c4, c5, c6, c7] := by
  have := (((((((h.put 0 c0).put 1 c1).put 2 c2).put 3 c3).put 4 c4).put 5 c5).put 6 c6).put 7 c7
  simp only [List.setIfInBounds_toArray, List.set_cons_zero, List.set_cons_succ] at this
  exact this
theorem blk5 (h : Blk x b t #[z0, z1, z2, z3, z4, z5, z6, z7]) (c1 c2 c3 c4 c5 : Value) : Blk (((((x.setCell ⟨b, 1, none⟩ c1).setCell ⟨b, 2, none⟩ c2).setCell ⟨b, 3, none⟩ c3).setCell ⟨b, 4, none⟩ c4).setCell ⟨b, 5, none⟩ c5) b t #[z0, c1, c2, c3, c4, c5, z6, z7] := by
  have := ((((h.put 1 c1).put 2 c2).put 3 c3).put 4 c4).put 5 c5
  simp only [List.setIfInBounds_toArray, List.set_cons_zero, List.set_cons_succ] at this
  exact this
theorem blk2 (h : Blk x b t #[z0, z1, z2, z3, z4, z5, z6, z7]) (c6 c7 : Value) : Blk ((x.setCell ⟨b, 6, none⟩ c6).setCell ⟨b, 7, none⟩ c7) b t #[z0, z1, z2, z3, z4, z5, c6, c7] := by
  have := (h.put 6 c6).put 7 c7
  simp only [List.setIfInBounds_toArray, List.set_cons_zero, List.set_cons_succ] at this
  exact this
theorem far8 (x : World) {b q : Nat} (hq : q ≠ b) (c0 c1 c2 c3 c4 c5 c6 c7 : Value) : ((((((((x.setCell ⟨b, 0, none⟩ c0).setCell ⟨b, 1, none⟩ c1).setCell ⟨b, 2, none⟩ c2).setCell ⟨b, 3, none⟩ c3).setCell ⟨b, 4, none⟩ c4).setCell ⟨b, 5, none⟩ c5).setCell ⟨b, 6, none⟩ c6).setCell ⟨b, 7, none⟩ c7).heap[q]? = x.heap[q]? := by
  iterate 8 rw [Below.heap_setCell _ _ _ q hq]
theorem far5 (x : World) {b q : Nat} (hq : q ≠ b) (c1 c2 c3 c4 c5 : Value) : (((((x.setCell ⟨b, 1, none⟩ c1).setCell ⟨b, 2, none⟩ c2).setCell ⟨b, 3, none⟩ c3).setCell ⟨b, 4, none⟩ c4).setCell ⟨b, 5, none⟩ c5).heap[q]? = x.heap[q]? := by
  iterate 5 rw [Below.heap_setCell _ _ _ q hq]
theorem far2 (x : World) {b q : Nat} (hq : q ≠ b) (c6 c7 : Value) : ((x.setCell ⟨b, 6, none⟩ c6).setCell ⟨b, 7, none⟩ c7).heap[q]? = x.heap[q]? := by
  iterate 2 rw [Below.heap_setCell _ _ _ q hq]
theorem set_still (x : World) (p : Addr) (c : Value) : (x.setCell p c).os = x.os ∧ (x.setCell p c).tape = x.tape ∧ (x.setCell p c).output = x.output := ⟨rfl, rfl, rfl⟩
theorem set_os (x : World) (p : Addr) (c : Value) : (x.setCell p c).os = x.os := rfl
theorem set_tape (x : World) (p : Addr) (c : Value) : (x.setCell p c).tape = x.tape := rfl
theorem set_out (x : World) (p : Addr) (c : Value) : (x.setCell p c).output = x.output := rfl
theorem set_size (x : World) (p : Addr) (c : Value) : (x.setCell p c).heap.size = x.heap.size := by simp [World.setCell]
end
def Tv.pl (v : Tv) : Nat := v.most + 1
/-- Where the document's Tiny lies: its sketch's rows and door, its row of lists. -/
structure Ad where
  R : Nat
  c : Nat
  D : Nat
  Gs : Nat → Nat
  G : Nat
  vs : Nat → Value
/-- A block of it. -/
def Ad.has (a : Ad) (q : Nat) : Prop := (q = a.R ∨ q = a.D ∨ ∃ i, i < 4 ∧ q = a.Gs i) ∨ (q = a.G ∨ ∃ i, i < 3 ∧ (a.vs i).ownBlock = some q)
def Tv.Out (v : Tv) : Prop := ∀ i, 3 ≤ i → v.rg.l i = []
/-- As chapter 8 has it, but that the lists may have too many. -/
structure Tv.Fine (v : Tv) : Prop where
  fit : v.Fit
  out : v.Out
structure Dt (x : World) (v : Tv) (a : Ad) : Prop where
  s : Sketchy.Ref x a.R a.D a.Gs v.sk
  r : RefAt x (fun _ => False) a.G a.vs v.rg
section
variable {w x y : World} {v v' v'' : Tv} {a a' a'' : Ad} {k : Key} {j K : Nat}
theorem Tv.Fine.fr (h : v.Fine) (hj : j < 3) (hk : k.length ≤ 64) (hc : v.can k) : (v.fr j k).Fine := ⟨h.fit.fr hj hk hc, fun i hi => by
  show (if i = j then k :: strike k (v.rg.l i) else strike k (v.rg.l i)) = []
  rw [if_neg (by omega), h.out i hi]
  rfl⟩
theorem Tv.Fine.dr (h : v.Fine) (k : Key) : (v.dr k).Fine := ⟨h.fit.dr k, fun i hi => by
  show strike k (v.rg.l i) = []
  rw [h.out i hi]
  rfl⟩
theorem Tv.Fine.note (h : v.Fine) (k : Key) : (v.note k).Fine := ⟨h.fit.note k, h.out⟩
theorem Tv.Fine.lens (h : v.Fine) (i : Nat) : (v.rg.l i).length < 100000 := by
  rcases Nat.lt_or_ge i 3 with hi | hi
  · have := h.fit.len_le hi
    unfold Tv.len at this
    omega
  · rw [h.out i hi]; exact Nat.zero_lt_succ _
theorem Dt.lt (h : Dt x v a) (hn : v.rg.n = 3) {q : Nat} (hq : a.has q) : q < x.heap.size := by
  rcases hq with (rfl | rfl | ⟨i, hi, rfl⟩) | (rfl | ⟨i, hi, hg⟩)
  · exact h.s.lt
  · exact h.s.door.lt
  · exact (h.s.row i hi).lt
  · exact h.r.blk.lt
  · exact ((h.r.row i (by rw [hn]; exact hi)).lt q hg).2
theorem Dt.stay (h : Dt x v a) (hn : v.rg.n = 3) (hs : x.heap.size ≤ y.heap.size) (hb : ∀ q, a.has q → y.heap[q]? = x.heap[q]?) : Dt y v a :=
  ⟨⟨Nat.lt_of_lt_of_le h.s.lt hs, fun i hi => (World.cell?_of_block (hb a.R (.inl (.inl rfl)))).trans (h.s.rows i hi), fun i hi => (hb _ (.inl (.inr (.inr ⟨i, hi, rfl⟩)))).trans (h.s.row i hi), (hb _ (.inl (.inr (.inl rfl)))).trans h.s.door⟩,
   ⟨(hb _ (.inr (.inl rfl))).trans h.r.blk, fun i hi => ownsRow_stay (h.r.row i hi) fun b e => hb b (.inr (.inr ⟨i, by rw [← hn]; exact hi, e⟩)), h.r.noG, h.r.noR⟩⟩
theorem Dt.onto (h : Dt x v a) (hb : Below x.heap.size x y) : Dt y v a := ⟨h.s.below hb (Nat.le_refl _), h.r.below hb (Nat.le_refl _)⟩
theorem Dt.put (h : Dt x v a) (hn : v.rg.n = 3) {p : Addr} (hp : ¬ a.has p.block) (u : Value) : Dt (x.setCell p u) v a :=
  h.stay hn (by simp [World.setCell]) fun q hq => Below.heap_setCell x p u q (fun e => hp (e ▸ hq))
/-- From one to another one: each of its blocks was the one's, or is new. -/
structure Goes (w : World) (a : Ad) (v' : Tv) (a' : Ad) (x : World) : Prop where
  d : Dt x v' a'
  below : Below w.heap.size w x
  new : ∀ q, a'.has q → a.has q ∨ w.heap.size ≤ q
theorem Goes.refl (h : Dt w v a) : Goes w a v a w := ⟨h, Below.refl _ _, fun _ h => .inl h⟩
theorem Goes.onto (h : Goes w a v' a' x) (hb : Below x.heap.size x y) : Goes w a v' a' y := ⟨h.d.onto hb, h.below.trans (hb.mono h.below.size), h.new⟩
theorem Goes.trans {v'' : Tv} {a'' : Ad} (h : Goes w a v' a' x) (h' : Goes x a' v'' a'' y) : Goes w a v'' a'' y :=
  ⟨h'.d, h.below.trans (h'.below.mono h.below.size), fun q hq => (h'.new q hq).elim (h.new q) fun h2 => .inr (Nat.le_trans h.below.size h2)⟩
/-- A method's own copy in a box, K blocks of its own in all. -/
structure Wk (w : World) (K : Nat) (a : Ad) (v' : Tv) (a' : Ad) (x : World) : Prop where
  d : Dt x v' a'
  box : Blk x w.heap.size 36 #[.int .i64 (v'.most : Int), .int .i64 (v'.sk.wide : Int), .int .u64 (v'.sk.seed : Int), .slice (some ⟨a'.R, 0, none⟩) 4 a'.c, .slice (some ⟨a'.D, 0, none⟩) v'.sk.wide v'.sk.wide, .int .i64 (v'.sk.added : Int), .slice (some ⟨a'.G, 0, none⟩) 3 3, .int .i64 (v'.pl : Int)]
  below : Below w.heap.size w x
  new : ∀ q, a'.has q → a.has q ∨ w.heap.size + K ≤ q
  old : ∀ q, a.has q → q < w.heap.size
  sz : w.heap.size + K ≤ x.heap.size
  k1 : 1 ≤ K
theorem Wk.not (h : Wk w K a v' a' x) {q : Nat} (h1 : w.heap.size ≤ q) (h2 : q < w.heap.size + K) : ¬ a'.has q := fun hq => by
  rcases h.new q hq with h3 | h3
  · have := h.old q h3; omega
  · omega
theorem Wk.onto (h : Wk w K a v' a' x) (hb : Below x.heap.size x y) : Wk w K a v' a' y := ⟨h.d.onto hb, h.box.below hb h.box.lt, h.below.trans (hb.mono h.below.size), h.new, h.old, Nat.le_trans h.sz hb.size, h.k1⟩
theorem Wk.drewN (h : Wk w K a v' a' x) (n : Nat) : Wk w K a v' a' (x.drewN n) := h.onto ⟨rfl, rfl, rfl, Nat.le_refl _, fun _ _ => rfl⟩
theorem Wk.all (h : Wk w K a v' a' x) : x.cell? ⟨w.heap.size, 0, none⟩ = some (.int .i64 (v'.most : Int)) ∧ x.cell? ⟨w.heap.size, 1, none⟩ = some (.int .i64 (v'.sk.wide : Int)) ∧ x.cell? ⟨w.heap.size, 2, none⟩ = some (.int .u64 (v'.sk.seed : Int)) ∧ x.cell? ⟨w.heap.size, 3, none⟩ = some (.slice (some ⟨a'.R, 0, none⟩) 4 a'.c) ∧ x.cell? ⟨w.heap.size, 4, none⟩ = some (.slice (some ⟨a'.D, 0, none⟩) v'.sk.wide v'.sk.wide) ∧ x.cell? ⟨w.heap.size, 5, none⟩ = some (.int .i64 (v'.sk.added : Int)) ∧ x.cell? ⟨w.heap.size, 6, none⟩ = some (.slice (some ⟨a'.G, 0, none⟩) 3 3) ∧ x.cell? ⟨w.heap.size, 7, none⟩ = some (.int .i64 (v'.pl : Int)) := ⟨h.box.cell 0, h.box.cell 1, h.box.cell 2, h.box.cell 3, h.box.cell 4, h.box.cell 5, h.box.cell 6, h.box.cell 7⟩
theorem Wk.free (h : Wk w K a v' a' x) (i : Nat) : x.frozen? ⟨w.heap.size, i, none⟩ = false := h.box.free i
theorem Wk.fin (h : Wk w K a v' a' x) : Goes w a v' a' x := ⟨h.d, h.below, fun q hq => (h.new q hq).imp id fun h => by omega⟩
theorem Wk.new1 (h : Dt w v a) (hn : v.rg.n = 3) : Wk w 1 a v a (w.alloc (.cells #[.int .i64 (v.most : Int), .int .i64 (v.sk.wide : Int), .int .u64 (v.sk.seed : Int), .slice (some ⟨a.R, 0, none⟩) 4 a.c, .slice (some ⟨a.D, 0, none⟩) v.sk.wide v.sk.wide, .int .i64 (v.sk.added : Int), .slice (some ⟨a.G, 0, none⟩) 3 3, .int .i64 (v.pl : Int)] 36)) := by
  have hb := (Below.refl _ w).alloc (Nat.le_refl _) (.cells #[.int .i64 (v.most : Int), .int .i64 (v.sk.wide : Int), .int .u64 (v.sk.seed : Int), .slice (some ⟨a.R, 0, none⟩) 4 a.c, .slice (some ⟨a.D, 0, none⟩) v.sk.wide v.sk.wide, .int .i64 (v.sk.added : Int), .slice (some ⟨a.G, 0, none⟩) 3 3, .int .i64 (v.pl : Int)] 36)
  exact ⟨h.onto hb, Blk.new w _ _, hb, fun _ h => .inl h, fun q hq => h.lt hn hq, by simp, by omega⟩
theorem Wk.new2 (h : Dt w v a) (hn : v.rg.n = 3) : Wk w 2 a v a ((w.alloc (.cells #[.int .i64 (v.most : Int), .int .i64 (v.sk.wide : Int), .int .u64 (v.sk.seed : Int), .slice (some ⟨a.R, 0, none⟩) 4 a.c, .slice (some ⟨a.D, 0, none⟩) v.sk.wide v.sk.wide, .int .i64 (v.sk.added : Int), .slice (some ⟨a.G, 0, none⟩) 3 3, .int .i64 (v.pl : Int)] 36)).alloc (.cells #[.int .i64 0, .int .i64 0, .int .u64 0, .slice none 0 0, .slice none 0 0, .int .i64 0, .slice none 0 0, .int .i64 0] 36)) := by
  have h1 := Wk.new1 h hn
  have hb := (Below.refl _ (w.alloc (.cells #[.int .i64 (v.most : Int), .int .i64 (v.sk.wide : Int), .int .u64 (v.sk.seed : Int), .slice (some ⟨a.R, 0, none⟩) 4 a.c, .slice (some ⟨a.D, 0, none⟩) v.sk.wide v.sk.wide, .int .i64 (v.sk.added : Int), .slice (some ⟨a.G, 0, none⟩) 3 3, .int .i64 (v.pl : Int)] 36))).alloc (Nat.le_refl _) (.cells #[.int .i64 0, .int .i64 0, .int .u64 0, .slice none 0 0, .slice none 0 0, .int .i64 0, .slice none 0 0, .int .i64 0] 36)
  have h2 := h1.onto hb
  exact ⟨h2.d, h2.box, h2.below, fun _ h => .inl h, h2.old, by simp, by omega⟩
/-- The box turns: it becomes another one. -/
theorem Wk.goes {v'' : Tv} {a'' : Ad} (h : Wk w K a v' a' x) (hg : Goes x a' v'' a'' y) (hn : v''.rg.n = 3) {z : World} (hz : Blk z w.heap.size 36 #[.int .i64 (v''.most : Int), .int .i64 (v''.sk.wide : Int), .int .u64 (v''.sk.seed : Int), .slice (some ⟨a''.R, 0, none⟩) 4 a''.c, .slice (some ⟨a''.D, 0, none⟩) v''.sk.wide v''.sk.wide, .int .i64 (v''.sk.added : Int), .slice (some ⟨a''.G, 0, none⟩) 3 3, .int .i64 (v''.pl : Int)]) (hs : y.heap.size ≤ z.heap.size) (hk : z.os = y.os ∧ z.tape = y.tape ∧ z.output = y.output) (hb : ∀ q, q ≠ w.heap.size → z.heap[q]? = y.heap[q]?) : Wk w K a v'' a'' z := by
  have hsz := h.sz
  have hk1 := h.k1
  have hnew : ∀ q, a''.has q → a.has q ∨ w.heap.size + K ≤ q := fun q hq => (hg.new q hq).elim (h.new q) fun h2 => .inr (Nat.le_trans hsz h2)
  have hnot : ∀ q, a''.has q → q ≠ w.heap.size := fun q hq e => by
    rcases hnew q hq with h1 | h1
    · have := h.old q h1; omega
    · omega
  exact ⟨hg.d.stay hn hs (fun q hq => hb q (hnot q hq)), hz, ⟨hk.1.trans (hg.below.os.trans h.below.os), hk.2.1.trans (hg.below.tape.trans h.below.tape), hk.2.2.trans (hg.below.output.trans h.below.output), Nat.le_trans (Nat.le_trans h.below.size hg.below.size) hs, fun q hq => (hb q (by omega)).trans ((hg.below.block q (Nat.lt_of_lt_of_le hq h.below.size)).trans (h.below.block q hq))⟩, hnew, h.old, Nat.le_trans (Nat.le_trans hsz hg.below.size) hs, hk1⟩
/-- The sketch's part of the box is set. -/
theorem Wk.sketch {v'' : Tv} {a'' : Ad} (h : Wk w K a v' a' x) (hg : Goes x a' v'' a'' y) (hn : v''.rg.n = 3) (hm : v''.most = v'.most) (hG : a''.G = a'.G) : Wk w K a v'' a'' (((((y.setCell ⟨w.heap.size, 1, none⟩ (.int .i64 (v''.sk.wide : Int))).setCell ⟨w.heap.size, 2, none⟩ (.int .u64 (v''.sk.seed : Int))).setCell ⟨w.heap.size, 3, none⟩ (.slice (some ⟨a''.R, 0, none⟩) 4 a''.c)).setCell ⟨w.heap.size, 4, none⟩ (.slice (some ⟨a''.D, 0, none⟩) v''.sk.wide v''.sk.wide)).setCell ⟨w.heap.size, 5, none⟩ (.int .i64 (v''.sk.added : Int))) := by
  have hb0 := h.box.below hg.below h.box.lt
  refine h.goes hg hn ?_ (by simp only [set_size]; exact Nat.le_refl _) (by simp only [set_os, set_tape, set_out, and_self]) (fun q hq => far5 _ hq _ _ _ _ _)
  have := blk5 hb0 (.int .i64 (v''.sk.wide : Int)) (.int .u64 (v''.sk.seed : Int)) (.slice (some ⟨a''.R, 0, none⟩) 4 a''.c) (.slice (some ⟨a''.D, 0, none⟩) v''.sk.wide v''.sk.wide) (.int .i64 (v''.sk.added : Int))
  have hp : v''.pl = v'.pl := by unfold Tv.pl; rw [hm]
  rw [hm, hG, hp]
  exact this
/-- The lists' part of the box is set. -/
theorem Wk.lists {v'' : Tv} {a'' : Ad} (h : Wk w K a v' a' x) (hg : Goes x a' v'' a'' y) (hn : v''.rg.n = 3) (hm : v''.most = v'.most) (hs : v''.sk = v'.sk) (hR : a''.R = a'.R ∧ a''.c = a'.c ∧ a''.D = a'.D) : Wk w K a v'' a'' ((y.setCell ⟨w.heap.size, 6, none⟩ (.slice (some ⟨a''.G, 0, none⟩) 3 3)).setCell ⟨w.heap.size, 7, none⟩ (.int .i64 (v''.pl : Int))) := by
  have hb0 := h.box.below hg.below h.box.lt
  refine h.goes hg hn ?_ (by simp only [set_size]; exact Nat.le_refl _) (by simp only [set_os, set_tape, set_out, and_self]) (fun q hq => far2 _ hq _ _)
  have := blk2 hb0 (.slice (some ⟨a''.G, 0, none⟩) 3 3) (.int .i64 (v''.pl : Int))
  rw [hm, hs, hR.1, hR.2.1, hR.2.2]
  exact this
/-- All of the box is set. -/
theorem Wk.whole {v'' : Tv} {a'' : Ad} (h : Wk w K a v' a' x) (hg : Goes x a' v'' a'' y) (hn : v''.rg.n = 3) : Wk w K a v'' a'' ((((((((y.setCell ⟨w.heap.size, 0, none⟩ (.int .i64 (v''.most : Int))).setCell ⟨w.heap.size, 1, none⟩ (.int .i64 (v''.sk.wide : Int))).setCell ⟨w.heap.size, 2, none⟩ (.int .u64 (v''.sk.seed : Int))).setCell ⟨w.heap.size, 3, none⟩ (.slice (some ⟨a''.R, 0, none⟩) 4 a''.c)).setCell ⟨w.heap.size, 4, none⟩ (.slice (some ⟨a''.D, 0, none⟩) v''.sk.wide v''.sk.wide)).setCell ⟨w.heap.size, 5, none⟩ (.int .i64 (v''.sk.added : Int))).setCell ⟨w.heap.size, 6, none⟩ (.slice (some ⟨a''.G, 0, none⟩) 3 3)).setCell ⟨w.heap.size, 7, none⟩ (.int .i64 (v''.pl : Int))) := by
  have hb0 := h.box.below hg.below h.box.lt
  exact h.goes hg hn (blk8 hb0 _ _ _ _ _ _ _ _) (by simp only [set_size]; exact Nat.le_refl _) (by simp only [set_os, set_tape, set_out, and_self]) (fun q hq => far8 _ hq _ _ _ _ _ _ _ _)
/-- A result's block, set at the end. -/
theorem res_goes {b : Nat} {z0 z1 z2 z3 z4 z5 z6 z7 : Value} (h : Wk w K a v' a' x) (hg : Goes x a' v'' a'' y) (hn : v''.rg.n = 3) (h1 : w.heap.size ≤ b) (h2 : b < w.heap.size + K) (hr : Blk y b 36 #[z0, z1, z2, z3, z4, z5, z6, z7]) : Goes w a v'' a'' ((((((((y.setCell ⟨b, 0, none⟩ (.int .i64 (v''.most : Int))).setCell ⟨b, 1, none⟩ (.int .i64 (v''.sk.wide : Int))).setCell ⟨b, 2, none⟩ (.int .u64 (v''.sk.seed : Int))).setCell ⟨b, 3, none⟩ (.slice (some ⟨a''.R, 0, none⟩) 4 a''.c)).setCell ⟨b, 4, none⟩ (.slice (some ⟨a''.D, 0, none⟩) v''.sk.wide v''.sk.wide)).setCell ⟨b, 5, none⟩ (.int .i64 (v''.sk.added : Int))).setCell ⟨b, 6, none⟩ (.slice (some ⟨a''.G, 0, none⟩) 3 3)).setCell ⟨b, 7, none⟩ (.int .i64 (v''.pl : Int))) ∧ Blk ((((((((y.setCell ⟨b, 0, none⟩ (.int .i64 (v''.most : Int))).setCell ⟨b, 1, none⟩ (.int .i64 (v''.sk.wide : Int))).setCell ⟨b, 2, none⟩ (.int .u64 (v''.sk.seed : Int))).setCell ⟨b, 3, none⟩ (.slice (some ⟨a''.R, 0, none⟩) 4 a''.c)).setCell ⟨b, 4, none⟩ (.slice (some ⟨a''.D, 0, none⟩) v''.sk.wide v''.sk.wide)).setCell ⟨b, 5, none⟩ (.int .i64 (v''.sk.added : Int))).setCell ⟨b, 6, none⟩ (.slice (some ⟨a''.G, 0, none⟩) 3 3)).setCell ⟨b, 7, none⟩ (.int .i64 (v''.pl : Int))) b 36 #[.int .i64 (v''.most : Int), .int .i64 (v''.sk.wide : Int), .int .u64 (v''.sk.seed : Int), .slice (some ⟨a''.R, 0, none⟩) 4 a''.c, .slice (some ⟨a''.D, 0, none⟩) v''.sk.wide v''.sk.wide, .int .i64 (v''.sk.added : Int), .slice (some ⟨a''.G, 0, none⟩) 3 3, .int .i64 (v''.pl : Int)] := by
  have hsz := h.sz
  have hnew : ∀ q, a''.has q → a.has q ∨ w.heap.size + K ≤ q := fun q hq => (hg.new q hq).elim (h.new q) fun h2 => .inr (Nat.le_trans hsz h2)
  have hnot : ∀ q, a''.has q → q ≠ b := fun q hq e => by
    rcases hnew q hq with h1 | h1
    · have := h.old q h1; omega
    · omega
  refine ⟨⟨hg.d.stay hn (by simp only [set_size]; exact Nat.le_refl _) (fun q hq => far8 _ (hnot q hq) _ _ _ _ _ _ _ _), ⟨by simp only [set_os]; exact hg.below.os.trans h.below.os, by simp only [set_tape]; exact hg.below.tape.trans h.below.tape, by simp only [set_out]; exact hg.below.output.trans h.below.output, by simp only [set_size]; exact Nat.le_trans h.below.size hg.below.size, fun q hq => (far8 _ (by omega) _ _ _ _ _ _ _ _).trans ((hg.below.block q (Nat.lt_of_lt_of_le hq h.below.size)).trans (h.below.block q hq))⟩, fun q hq => (hnew q hq).imp id fun h => by omega⟩, blk8 hr _ _ _ _ _ _ _ _⟩

/-! What asks it -/
theorem Tv.Fine.val (h : v.Fine) (G : Nat) : refV G v.rg = .agg #[.slice (some ⟨G, 0, none⟩) 3 3, .int .i64 (v.pl : Int)] := by
  unfold refV
  rw [h.fit.n, h.fit.pl]
  rfl
theorem ix_eq (hok : v.Fine) (k : Key) : v.rg.idx k = (v.at_ k).getD 0 ∧ v.rg.hasB k = (v.at_ k).isSome := by
  cases e : v.at_ k with
  | none => exact Rg.idx_no fun t ht => Tv.at_none e t (by rw [← hok.fit.n]; exact ht)
  | some i =>
    obtain ⟨hi, hm⟩ := Tv.at_some e
    exact Rg.idx_of hok.fit.wf (by rw [hok.fit.n]; exact hi) hm
theorem d_in (hok : v.Fine) (k : Key) (w : World) (h : Dt w v a) :
    Calls Tryz.prog 41 #[.agg #[.slice (some ⟨a.G, 0, none⟩) 3 3, .int .i64 (v.pl : Int)], .string (str k)] w fun e y => e = .returned (.tuple #[.int .i64 (((v.at_ k).getD 0 : Nat) : Int), .bool (v.at_ k).isSome]) ∧ Below w.heap.size w y := by
  have hc := rin_c k (by rw [hok.fit.n]; decide) (fun i _ => hok.lens i) w h.r
  rw [hok.val, (ix_eq hok k).1, (ix_eq hok k).2] at hc
  exact hc
theorem d_back (hok : v.Fine) {i : Nat} (hi : i < 3) (w : World) (h : Dt w v a) :
    Calls Tryz.prog 63 #[.agg #[.slice (some ⟨a.G, 0, none⟩) 3 3, .int .i64 (v.pl : Int)], .int .i64 (i : Int)] w fun e y => e = .returned (.tuple #[.string (str ((v.last i).getD [])), .bool (v.last i).isSome]) ∧ Below w.heap.size w y := by
  have hc := rback_c (i := i) (by rw [hok.fit.n]; exact hi) (hok.lens i) w h.r
  have e1 : v.rg.back i = (v.last i).getD [] := by unfold Rg.back Tv.last; rw [List.getLast?_eq_getElem?]
  have e2 : decide (0 < (v.rg.l i).length) = (v.last i).isSome := by
    unfold Tv.last
    cases e : v.rg.l i with
    | nil => rfl
    | cons y l => rw [List.getLast?_cons]; rfl
  rw [hok.val, e1, e2] at hc
  exact hc
theorem d_many (hok : v.Fine) (w : World) (h : Dt w v a) :
    Calls Tryz.prog 72 #[.agg #[.slice (some ⟨a.G, 0, none⟩) 3 3, .int .i64 (v.pl : Int)]] w fun e y => e = .returned (.int .i64 (v.kept : Int)) ∧ Below w.heap.size w y := by
  have hc := rmany_c (by rw [hok.fit.n]; decide) hok.lens w h.r
  rw [hok.val, Tv.many3 hok.fit.n] at hc
  exact hc
theorem d_seen (hok : v.Fine) (hk : k.length ≤ 1099511627776) (w : World) (h : Dt w v a) :
    Calls Tryz.prog 13 #[.agg #[.int .i64 (v.sk.wide : Int), .int .u64 (v.sk.seed : Int), .slice (some ⟨a.R, 0, none⟩) 4 a.c, .slice (some ⟨a.D, 0, none⟩) v.sk.wide v.sk.wide, .int .i64 (v.sk.added : Int)], .string (str k)] w fun e y => e = .returned (.int .i64 (v.seen k : Int)) ∧ Below w.heap.size w y := Sketchy.rseen_c (cap := a.c) hok.fit.sw.pre k hk w h.s
/-- The lists' part turns. -/
theorem Goes.rings {G' : Nat} {vs' : Nat → Value} {r' : Rg} (h : Dt w v a) (hr : RefAt x (fun b => b < w.heap.size) G' vs' r') (hn : r'.n = 3) (hb : Below w.heap.size w x) : Goes w a { v with rg := r' } { a with G := G', vs := vs' } x := by
  refine ⟨⟨h.s.below hb (Nat.le_refl _), ⟨hr.blk, hr.row, fun h => h, fun _ _ _ _ h => h⟩⟩, hb, fun q hq => ?_⟩
  rcases hq with hq | (rfl | ⟨i, hi, hg⟩)
  · exact .inl (.inl hq)
  · exact .inr (Nat.le_of_not_lt hr.noG)
  · exact .inr (Nat.le_of_not_lt (hr.noR i q (by rw [hn]; exact hi) hg))
theorem d_drop (hok : v.Fine) (k : Key) (w : World) (h : Dt w v a) :
    Calls Tryz.prog 64 #[.agg #[.slice (some ⟨a.G, 0, none⟩) 3 3, .int .i64 (v.pl : Int)], .string (str k)] w fun e y => ∃ a', e = .returned (.agg #[.slice (some ⟨a'.G, 0, none⟩) 3 3, .int .i64 (v.pl : Int)]) ∧ a'.R = a.R ∧ a'.c = a.c ∧ a'.D = a.D ∧ Goes w a (v.dr k) a' y := by
  have hc := rdrop_c k (by rw [hok.fit.n]; decide) (fun i _ => hok.lens i) w h.r
  rw [hok.val] at hc
  refine hc.mono ?_
  rintro e y ⟨G', vs', rfl, hr, hb, -⟩
  refine ⟨{ a with G := G', vs := vs' }, congrArg Ending.returned ((hok.dr k).val G'), rfl, rfl, rfl, Goes.rings h hr (show (v.rg.drop k).n = 3 from hok.fit.n) hb⟩
theorem fr_rg (hj : j < 3) (hok : v.Fine) (hk : k.length ≤ 64) (hc : v.can k) : v.rg.ok (j : Int) k = true ∧ v.rg.fr (j : Int) k = (v.fr j k).rg := by
  have h1 : v.rg.ok (j : Int) k = true := by
    unfold Rg.ok
    have hn := hok.fit.n
    rw [decide_eq_true (by omega : (0 : Int) ≤ (j : Int)), decide_eq_true (by omega : (j : Int) < (v.rg.n : Int)), decide_eq_true hk]
    rcases hc with hc | hc
    · rw [Rg.hasB_iff.2 hc]; rfl
    · rw [decide_eq_true hc]; simp
  refine ⟨h1, ?_⟩
  unfold Rg.fr
  rw [if_pos h1, Int.toNat_natCast]
  rfl
theorem d_front (hok : v.Fine) (hj : j < 3) (hk : k.length ≤ 64) (hc : v.can k) (w : World) (h : Dt w v a) :
    Calls Tryz.prog 96 #[.agg #[.slice (some ⟨a.G, 0, none⟩) 3 3, .int .i64 (v.pl : Int)], .int .i64 (j : Int), .string (str k)] w fun e y => ∃ a', e = .returned (.tuple #[.agg #[.slice (some ⟨a'.G, 0, none⟩) 3 3, .int .i64 (v.pl : Int)], .bool true]) ∧ a'.R = a.R ∧ a'.c = a.c ∧ a'.D = a.D ∧ Goes w a (v.fr j k) a' y := by
  obtain ⟨h1, h2⟩ := fr_rg hj hok hk hc
  have hcc := rfront_yes (k := k) (j := j) (by unfold maxLen; omega) (by rw [hok.fit.n]; decide) hok.lens w h.r (by rw [hok.fit.n]; exact hj) h1
  rw [hok.val, h2] at hcc
  refine hcc.mono ?_
  rintro e y ⟨G', vs', rfl, hr, hb⟩
  refine ⟨{ a with G := G', vs := vs' }, ?_, rfl, rfl, rfl, Goes.rings h hr (show (v.rg.drop k).n = 3 from hok.fit.n) hb⟩
  have := (hok.fr hj hk hc).val G'
  rw [this]
  rfl
theorem d_add (hok : v.Fine) (hk : k.length ≤ 1099511627776) (w : World) (h : Dt w v a) :
    Calls Tryz.prog 60 #[.agg #[.int .i64 (v.sk.wide : Int), .int .u64 (v.sk.seed : Int), .slice (some ⟨a.R, 0, none⟩) 4 a.c, .slice (some ⟨a.D, 0, none⟩) v.sk.wide v.sk.wide, .int .i64 (v.sk.added : Int)], .string (str k)] w fun e y => ∃ a', e = .returned (.agg #[.int .i64 ((v.note k).sk.wide : Int), .int .u64 ((v.note k).sk.seed : Int), .slice (some ⟨a'.R, 0, none⟩) 4 a'.c, .slice (some ⟨a'.D, 0, none⟩) (v.note k).sk.wide (v.note k).sk.wide, .int .i64 ((v.note k).sk.added : Int)]) ∧ a'.G = a.G ∧ Goes w a (v.note k) a' y := by
  refine (Sketchy.radd_c (cap := a.c) hok.fit.sw k hk w h.s).mono ?_
  rintro e y ⟨R', c', D', G', rfl, hr, hA, hb⟩
  refine ⟨⟨R', c', D', G', a.G, a.vs⟩, rfl, rfl, ⟨hr, h.r.below hb (Nat.le_refl _)⟩, hb, fun q hq => ?_⟩
  rcases hq with (rfl | rfl | ⟨i, hi, rfl⟩) | hq
  · exact .inr hA.hR
  · exact .inr hA.hD
  · exact .inr (hA.hG i hi)
  · exact .inl (.inr hq)
end
end Go.Proofs.YtgfpedcdclgmiaaGreat.Tinyy

namespace Go.Proofs.YtgfpedcdclgmiaaGreat.Tinyy
open Go.ChangeShapes Go.WideShapes Go.ChangeAt Go.RowKit Go.Shelf
open Wirey (Blk Row str str_size str_list Kp)
open Ringy Go.ChangeMaps Go.Maps
open Sketchy (Sk ksOf ksOf_lt Six)

section
variable {w x y : World} {v v' v'' : Tv} {a a' a'' : Ad} {k : Key} {j K : Nat}
theorem pl_of (h : v'.most = v.most) : v'.pl = v.pl := by unfold Tv.pl; rw [h]
set_option maxHeartbeats 2000000 in
set_option maxRecDepth 100000 in
theorem rfr_c {jj : Int} (hjj : jj = (j : Int)) (hok : v.Fine) (hj : j < 3) (hk : k.length ≤ 64) (hc : v.can k) (w : World) (h : Dt w v a) :
    Calls Tryz.prog 61 #[.agg #[.int .i64 (v.most : Int), .int .i64 (v.sk.wide : Int), .int .u64 (v.sk.seed : Int), .slice (some ⟨a.R, 0, none⟩) 4 a.c, .slice (some ⟨a.D, 0, none⟩) v.sk.wide v.sk.wide, .int .i64 (v.sk.added : Int), .slice (some ⟨a.G, 0, none⟩) 3 3, .int .i64 (v.pl : Int)], .int .i64 jj, .string (str k)] w fun e w' => ∃ a', e = .returned (.agg #[.int .i64 ((v.fr j k).most : Int), .int .i64 ((v.fr j k).sk.wide : Int), .int .u64 ((v.fr j k).sk.seed : Int), .slice (some ⟨a'.R, 0, none⟩) 4 a'.c, .slice (some ⟨a'.D, 0, none⟩) (v.fr j k).sk.wide (v.fr j k).sk.wide, .int .i64 ((v.fr j k).sk.added : Int), .slice (some ⟨a'.G, 0, none⟩) 3 3, .int .i64 ((v.fr j k).pl : Int)]) ∧ Goes w a (v.fr j k) a' w' := by
  subst hjj
  have h1 := Wk.new2 h hok.fit.n
  have hr := Blk.new (w.alloc (.cells #[.int .i64 (v.most : Int), .int .i64 (v.sk.wide : Int), .int .u64 (v.sk.seed : Int), .slice (some ⟨a.R, 0, none⟩) 4 a.c, .slice (some ⟨a.D, 0, none⟩) v.sk.wide v.sk.wide, .int .i64 (v.sk.added : Int), .slice (some ⟨a.G, 0, none⟩) 3 3, .int .i64 (v.pl : Int)] 36)) 36 #[.int .i64 0, .int .i64 0, .int .u64 0, .slice none 0 0, .slice none 0 0, .int .i64 0, .slice none 0 0, .int .i64 0]
  rw [show (w.alloc (.cells #[.int .i64 (v.most : Int), .int .i64 (v.sk.wide : Int), .int .u64 (v.sk.seed : Int), .slice (some ⟨a.R, 0, none⟩) 4 a.c, .slice (some ⟨a.D, 0, none⟩) v.sk.wide v.sk.wide, .int .i64 (v.sk.added : Int), .slice (some ⟨a.G, 0, none⟩) 3 3, .int .i64 (v.pl : Int)] 36)).heap.size = w.heap.size + 1 by simp] at hr
  have hfr := fun (W : World) (hW : Dt W v a) => d_front hok hj hk hc W hW
  have HN := Lib.hid (show (v.fr j k).rg.n = 3 from hok.fit.n)
  have HM := Lib.hid (show (v.fr j k).most = v.most from rfl)
  have HS := Lib.hid (show (v.fr j k).sk = v.sk from rfl)
  generalize v.fr j k = v2 at *
  clear hok hc h
  go_enter Tryz.func61, Tryz.ntmps61
  go_upto_region 1 with (fail)
  generalize (w.alloc (.cells #[.int .i64 (v.most : Int), .int .i64 (v.sk.wide : Int), .int .u64 (v.sk.seed : Int), .slice (some ⟨a.R, 0, none⟩) 4 a.c, .slice (some ⟨a.D, 0, none⟩) v.sk.wide v.sk.wide, .int .i64 (v.sk.added : Int), .slice (some ⟨a.G, 0, none⟩) 3 3, .int .i64 (v.pl : Int)] 36)).alloc (.cells #[.int .i64 0, .int .i64 0, .int .u64 0, .slice none 0 0, .slice none 0 0, .int .i64 0, .slice none 0 0, .int .i64 0] 36) = w1 at *
  obtain ⟨x0, x1, x2, x3, x4, x5, x6, x7⟩ := h1.all
  go_wp2_with fail
  refine (hfr _ h1.d).mono ?_
  rintro e w2 ⟨a', rfl, e1, e2, e3, hg⟩
  have hb2 := h1.box.below hg.below h1.box.lt
  have y6 := hb2.cell 6
  have y7 := hb2.cell 7
  have f6 := hb2.free 6
  have f7 := hb2.free 7
  simp only [List.getElem?_toArray, List.getElem?_cons_zero, List.getElem?_cons_succ] at y6 y7
  go_upto_region 2 with (fail)
  have hr2 := hr.below hg.below hr.lt
  have h3 := h1.lists hg HN.out HM.out HS.out ⟨e1, e2, e3⟩
  rw [pl_of HM.out] at h3
  have hr3 : Blk ((w2.setCell ⟨w.heap.size, 6, none⟩ (.slice (some ⟨a'.G, 0, none⟩) 3 3)).setCell ⟨w.heap.size, 7, none⟩ (.int .i64 (v.pl : Int))) (w.heap.size + 1) 36 #[.int .i64 0, .int .i64 0, .int .u64 0, .slice none 0 0, .slice none 0 0, .int .i64 0, .slice none 0 0, .int .i64 0] := (far2 _ (by omega) _ _).trans hr2
  generalize (w2.setCell ⟨w.heap.size, 6, none⟩ (.slice (some ⟨a'.G, 0, none⟩) 3 3)).setCell ⟨w.heap.size, 7, none⟩ (.int .i64 (v.pl : Int)) = w3 at *
  clear x0 x1 x2 x3 x4 x5 x6 x7 y6 y7 f6 f7 hb2 hr2 hg h1 hr e1 e2 e3 hfr
  obtain ⟨x0, x1, x2, x3, x4, x5, x6, x7⟩ := h3.all
  have z0 := hr3.cell 0
  have z1 := hr3.cell 1
  have z2 := hr3.cell 2
  have z3 := hr3.cell 3
  have z4 := hr3.cell 4
  have z5 := hr3.cell 5
  have z6 := hr3.cell 6
  have z7 := hr3.cell 7
  have f0 := hr3.free 0
  have f1 := hr3.free 1
  have f2 := hr3.free 2
  have f3 := hr3.free 3
  have f4 := hr3.free 4
  have f5 := hr3.free 5
  have f6 := hr3.free 6
  have f7 := hr3.free 7
  simp only [List.getElem?_toArray, List.getElem?_cons_zero, List.getElem?_cons_succ] at z0 z1 z2 z3 z4 z5 z6 z7
  go_wp2_with fail
  obtain ⟨hG, hB⟩ := res_goes h3 (Goes.refl h3.d) HN.out (b := w.heap.size + 1) (by omega) (by omega) hr3
  refine bodyPost_ret (results_cell_row rfl _ _ (w.heap.size + 1) 36 _ _ _ rfl hB Tryz.underlying36 rfl (by kernel_rfl)) rfl ⟨a', rfl, hG⟩
theorem results_row_tmp {fn : Func} {p t : Tmp} {ty : TypeId} {P : Program} (h : fn.results = #[.cell p ty, .tmp t]) (tmps : Array Value) (w : World) (g : Nat) {cs : Array Value}
    (hp : tmps.getD p undef = .pointer (some ⟨g, 0, none⟩)) (hl : (loadVar ty ⟨g, 0, none⟩).run P w = .ok (.agg cs) w) :
    (results fn tmps).run P w = .ok (.tuple #[.agg cs, tmps.getD t undef]) w := by
  have hp' : tmps[p]?.getD undef = .pointer (some ⟨g, 0, none⟩) := by simpa using hp
  simp [results, h, hp', asAddr, Result.andThen, hl]
theorem results_row_tmp2 {fn : Func} {p t u : Tmp} {ty : TypeId} {P : Program} (h : fn.results = #[.cell p ty, .tmp t, .tmp u]) (tmps : Array Value) (w : World) (g : Nat) {cs : Array Value}
    (hp : tmps.getD p undef = .pointer (some ⟨g, 0, none⟩)) (hl : (loadVar ty ⟨g, 0, none⟩).run P w = .ok (.agg cs) w) :
    (results fn tmps).run P w = .ok (.tuple #[.agg cs, tmps.getD t undef, tmps.getD u undef]) w := by
  have hp' : tmps[p]?.getD undef = .pointer (some ⟨g, 0, none⟩) := by simpa using hp
  simp [results, h, hp', asAddr, Result.andThen, hl]
set_option maxHeartbeats 4000000 in
set_option maxRecDepth 100000 in
theorem rtouch_none (hok : v.Fine) (e : v.at_ k = none) (w : World) (h : Dt w v a) :
    Calls Tryz.prog 27 #[.agg #[.int .i64 (v.most : Int), .int .i64 (v.sk.wide : Int), .int .u64 (v.sk.seed : Int), .slice (some ⟨a.R, 0, none⟩) 4 a.c, .slice (some ⟨a.D, 0, none⟩) v.sk.wide v.sk.wide, .int .i64 (v.sk.added : Int), .slice (some ⟨a.G, 0, none⟩) 3 3, .int .i64 (v.pl : Int)], .string (str k)] w fun e w' => ∃ a', e = .returned (.tuple #[.agg #[.int .i64 (v.most : Int), .int .i64 (v.sk.wide : Int), .int .u64 (v.sk.seed : Int), .slice (some ⟨a'.R, 0, none⟩) 4 a'.c, .slice (some ⟨a'.D, 0, none⟩) v.sk.wide v.sk.wide, .int .i64 (v.sk.added : Int), .slice (some ⟨a'.G, 0, none⟩) 3 3, .int .i64 (v.pl : Int)], .bool false]) ∧ Goes w a v a' w' := by
  have h1 := Wk.new2 h hok.fit.n
  have hr1 := Blk.new (w.alloc (.cells #[.int .i64 (v.most : Int), .int .i64 (v.sk.wide : Int), .int .u64 (v.sk.seed : Int), .slice (some ⟨a.R, 0, none⟩) 4 a.c, .slice (some ⟨a.D, 0, none⟩) v.sk.wide v.sk.wide, .int .i64 (v.sk.added : Int), .slice (some ⟨a.G, 0, none⟩) 3 3, .int .i64 (v.pl : Int)] 36)) 36 #[.int .i64 0, .int .i64 0, .int .u64 0, .slice none 0 0, .slice none 0 0, .int .i64 0, .slice none 0 0, .int .i64 0]
  rw [show (w.alloc (.cells #[.int .i64 (v.most : Int), .int .i64 (v.sk.wide : Int), .int .u64 (v.sk.seed : Int), .slice (some ⟨a.R, 0, none⟩) 4 a.c, .slice (some ⟨a.D, 0, none⟩) v.sk.wide v.sk.wide, .int .i64 (v.sk.added : Int), .slice (some ⟨a.G, 0, none⟩) 3 3, .int .i64 (v.pl : Int)] 36)).heap.size = w.heap.size + 1 by simp] at hr1
  have hin := fun (W : World) (hW : Dt W v a) => d_in hok k W hW
  simp only [e, Option.getD_none, Option.isSome_none] at hin
  have HN := Lib.hid hok.fit.n
  clear hok h e
  go_enter Tryz.func27, Tryz.ntmps27
  go_upto_region 1 with (fail)
  generalize (w.alloc (.cells #[.int .i64 (v.most : Int), .int .i64 (v.sk.wide : Int), .int .u64 (v.sk.seed : Int), .slice (some ⟨a.R, 0, none⟩) 4 a.c, .slice (some ⟨a.D, 0, none⟩) v.sk.wide v.sk.wide, .int .i64 (v.sk.added : Int), .slice (some ⟨a.G, 0, none⟩) 3 3, .int .i64 (v.pl : Int)] 36)).alloc (.cells #[.int .i64 0, .int .i64 0, .int .u64 0, .slice none 0 0, .slice none 0 0, .int .i64 0, .slice none 0 0, .int .i64 0] 36) = w1 at *
  obtain ⟨x0, x1, x2, x3, x4, x5, x6, x7⟩ := h1.all
  go_wp2_with fail
  refine (hin _ h1.d).mono ?_
  rintro e w2 ⟨rfl, hb⟩
  clear x0 x1 x2 x3 x4 x5 x6 x7
  have h2 := h1.onto hb
  have hr2 := hr1.below hb hr1.lt
  clear hr1
  clear h1 hb
  obtain ⟨x0, x1, x2, x3, x4, x5, x6, x7⟩ := h2.all
  have z0 := hr2.cell 0
  have f0 := hr2.free 0
  have z1 := hr2.cell 1
  have f1 := hr2.free 1
  have z2 := hr2.cell 2
  have f2 := hr2.free 2
  have z3 := hr2.cell 3
  have f3 := hr2.free 3
  have z4 := hr2.cell 4
  have f4 := hr2.free 4
  have z5 := hr2.cell 5
  have f5 := hr2.free 5
  have z6 := hr2.cell 6
  have f6 := hr2.free 6
  have z7 := hr2.cell 7
  have f7 := hr2.free 7
  simp only [List.getElem?_toArray, List.getElem?_cons_zero, List.getElem?_cons_succ] at z0 z1 z2 z3 z4 z5 z6 z7
  go_wp2_with fail
  obtain ⟨hG, hB⟩ := res_goes h2 (Goes.refl h2.d) HN.out (b := w.heap.size + 1) (by omega) (by omega) hr2
  refine bodyPost_ret (results_row_tmp rfl _ _ (w.heap.size + 1) rfl (run_loadVar_row _ _ _ _ _ _ _ hB Tryz.underlying36 rfl (by kernel_rfl))) rfl ⟨a, rfl, hG⟩
set_option maxHeartbeats 4000000 in
set_option maxRecDepth 100000 in
theorem rtouch_win (hok : v.Fine) (e : v.at_ k = some 0) (w : World) (h : Dt w v a) :
    Calls Tryz.prog 27 #[.agg #[.int .i64 (v.most : Int), .int .i64 (v.sk.wide : Int), .int .u64 (v.sk.seed : Int), .slice (some ⟨a.R, 0, none⟩) 4 a.c, .slice (some ⟨a.D, 0, none⟩) v.sk.wide v.sk.wide, .int .i64 (v.sk.added : Int), .slice (some ⟨a.G, 0, none⟩) 3 3, .int .i64 (v.pl : Int)], .string (str k)] w fun e w' => ∃ a', e = .returned (.tuple #[.agg #[.int .i64 (((v.note k).fr 0 k).most : Int), .int .i64 (((v.note k).fr 0 k).sk.wide : Int), .int .u64 (((v.note k).fr 0 k).sk.seed : Int), .slice (some ⟨a'.R, 0, none⟩) 4 a'.c, .slice (some ⟨a'.D, 0, none⟩) ((v.note k).fr 0 k).sk.wide ((v.note k).fr 0 k).sk.wide, .int .i64 (((v.note k).fr 0 k).sk.added : Int), .slice (some ⟨a'.G, 0, none⟩) 3 3, .int .i64 (((v.note k).fr 0 k).pl : Int)], .bool true]) ∧ Goes w a ((v.note k).fr 0 k) a' w' := by
  have h1 := Wk.new2 h hok.fit.n
  have hr1 := Blk.new (w.alloc (.cells #[.int .i64 (v.most : Int), .int .i64 (v.sk.wide : Int), .int .u64 (v.sk.seed : Int), .slice (some ⟨a.R, 0, none⟩) 4 a.c, .slice (some ⟨a.D, 0, none⟩) v.sk.wide v.sk.wide, .int .i64 (v.sk.added : Int), .slice (some ⟨a.G, 0, none⟩) 3 3, .int .i64 (v.pl : Int)] 36)) 36 #[.int .i64 0, .int .i64 0, .int .u64 0, .slice none 0 0, .slice none 0 0, .int .i64 0, .slice none 0 0, .int .i64 0]
  rw [show (w.alloc (.cells #[.int .i64 (v.most : Int), .int .i64 (v.sk.wide : Int), .int .u64 (v.sk.seed : Int), .slice (some ⟨a.R, 0, none⟩) 4 a.c, .slice (some ⟨a.D, 0, none⟩) v.sk.wide v.sk.wide, .int .i64 (v.sk.added : Int), .slice (some ⟨a.G, 0, none⟩) 3 3, .int .i64 (v.pl : Int)] 36)).heap.size = w.heap.size + 1 by simp] at hr1
  obtain ⟨hi, hm⟩ := Tv.at_some e
  have hkl := hok.fit.klen hi hm
  have hin := fun (W : World) (hW : Dt W v a) => d_in hok k W hW
  simp only [e, Option.getD_some, Option.isSome_some] at hin
  have hok1 := hok.note k
  have hadd := fun (W : World) (hW : Dt W v a) => d_add (k := k) hok (by omega) W hW
  have hfr := fun (a1 : Ad) (W : World) (hW : Dt W (v.note k) a1) => rfr_c (jj := 0) (j := 0) rfl hok1 (by omega) hkl (hok1.fit.in_ hok1.fit.n (i := 0) (by omega) hm) W hW
  have HN1 := Lib.hid hok1.fit.n
  have HM1 := Lib.hid (show (v.note k).most = v.most from rfl)
  have HN2 := Lib.hid (show ((v.note k).fr 0 k).rg.n = 3 from hok.fit.n)
  generalize (v.note k).fr 0 k = v2 at *
  generalize v.note k = v1 at *
  clear hok hok1 hi hm e hkl h
  go_enter Tryz.func27, Tryz.ntmps27
  go_upto_region 1 with (fail)
  generalize (w.alloc (.cells #[.int .i64 (v.most : Int), .int .i64 (v.sk.wide : Int), .int .u64 (v.sk.seed : Int), .slice (some ⟨a.R, 0, none⟩) 4 a.c, .slice (some ⟨a.D, 0, none⟩) v.sk.wide v.sk.wide, .int .i64 (v.sk.added : Int), .slice (some ⟨a.G, 0, none⟩) 3 3, .int .i64 (v.pl : Int)] 36)).alloc (.cells #[.int .i64 0, .int .i64 0, .int .u64 0, .slice none 0 0, .slice none 0 0, .int .i64 0, .slice none 0 0, .int .i64 0] 36) = w1 at *
  obtain ⟨x0, x1, x2, x3, x4, x5, x6, x7⟩ := h1.all
  go_wp2_with fail
  refine (hin _ h1.d).mono ?_
  rintro e w2 ⟨rfl, hb⟩
  clear x0 x1 x2 x3 x4 x5 x6 x7
  have h2 := h1.onto hb
  have hr2 := hr1.below hb hr1.lt
  clear hr1
  clear h1 hb
  obtain ⟨x0, x1, x2, x3, x4, x5, x6, x7⟩ := h2.all
  go_wp2_with fail
  refine (hadd _ h2.d).mono ?_
  rintro e w3 ⟨a1, rfl, eG, hg⟩
  clear x0 x1 x2 x3 x4 x5 x6 x7
  have hbx := h2.box.below hg.below h2.box.lt
  have y1 := hbx.cell 1
  have f1 := hbx.free 1
  have y2 := hbx.cell 2
  have f2 := hbx.free 2
  have y3 := hbx.cell 3
  have f3 := hbx.free 3
  have y4 := hbx.cell 4
  have f4 := hbx.free 4
  have y5 := hbx.cell 5
  have f5 := hbx.free 5
  simp only [List.getElem?_toArray, List.getElem?_cons_zero, List.getElem?_cons_succ] at y1 y2 y3 y4 y5
  go_upto_region 5 with (fail)
  clear y1 f1 y2 f2 y3 f3 y4 f4 y5 f5
  have h4 := h2.sketch hg HN1.out HM1.out eG
  have hr4 : Blk (((((w3.setCell ⟨w.heap.size, 1, none⟩ (.int .i64 (v1.sk.wide : Int))).setCell ⟨w.heap.size, 2, none⟩ (.int .u64 (v1.sk.seed : Int))).setCell ⟨w.heap.size, 3, none⟩ (.slice (some ⟨a1.R, 0, none⟩) 4 a1.c)).setCell ⟨w.heap.size, 4, none⟩ (.slice (some ⟨a1.D, 0, none⟩) v1.sk.wide v1.sk.wide)).setCell ⟨w.heap.size, 5, none⟩ (.int .i64 (v1.sk.added : Int))) (w.heap.size + 1) 36 #[.int .i64 0, .int .i64 0, .int .u64 0, .slice none 0 0, .slice none 0 0, .int .i64 0, .slice none 0 0, .int .i64 0] := (far5 _ (by omega) _ _ _ _ _).trans (hr2.below hg.below hr2.lt)
  clear hr2
  generalize (((((w3.setCell ⟨w.heap.size, 1, none⟩ (.int .i64 (v1.sk.wide : Int))).setCell ⟨w.heap.size, 2, none⟩ (.int .u64 (v1.sk.seed : Int))).setCell ⟨w.heap.size, 3, none⟩ (.slice (some ⟨a1.R, 0, none⟩) 4 a1.c)).setCell ⟨w.heap.size, 4, none⟩ (.slice (some ⟨a1.D, 0, none⟩) v1.sk.wide v1.sk.wide)).setCell ⟨w.heap.size, 5, none⟩ (.int .i64 (v1.sk.added : Int))) = w4 at *
  clear h2 hbx hg eG
  obtain ⟨x0, x1, x2, x3, x4, x5, x6, x7⟩ := h4.all
  go_wp2_with fail
  refine (hfr a1 _ h4.d).mono ?_
  rintro e w5 ⟨a2, rfl, hg⟩
  clear x0 x1 x2 x3 x4 x5 x6 x7
  have hrx := hr4.below hg.below hr4.lt
  have y0 := hrx.cell 0
  have f0 := hrx.free 0
  have y1 := hrx.cell 1
  have f1 := hrx.free 1
  have y2 := hrx.cell 2
  have f2 := hrx.free 2
  have y3 := hrx.cell 3
  have f3 := hrx.free 3
  have y4 := hrx.cell 4
  have f4 := hrx.free 4
  have y5 := hrx.cell 5
  have f5 := hrx.free 5
  have y6 := hrx.cell 6
  have f6 := hrx.free 6
  have y7 := hrx.cell 7
  have f7 := hrx.free 7
  simp only [List.getElem?_toArray, List.getElem?_cons_zero, List.getElem?_cons_succ] at y0 y1 y2 y3 y4 y5 y6 y7
  go_wp2_with fail
  obtain ⟨hG, hB⟩ := res_goes h4 hg HN2.out (b := w.heap.size + 1) (by omega) (by omega) hrx
  refine bodyPost_ret (results_row_tmp rfl _ _ (w.heap.size + 1) rfl (run_loadVar_row _ _ _ _ _ _ _ hB Tryz.underlying36 rfl (by kernel_rfl))) rfl ⟨a2, rfl, hG⟩
/-- The document's own parts. -/
theorem rparts_c {c : Nat} (h1 : 1 ≤ c) (h2 : c ≤ 1000) (w : World) :
    Calls Tryz.prog 62 #[.int .i64 (c : Int)] w fun e w' => e = .returned (.tuple #[.int .i64 (wMost c : Int), .int .i64 (sMost c : Int)]) ∧ w = w' := by
  have hw : wMost c = max 1 (c / 8) := rfl
  have hs : sMost c = (c - wMost c) * 4 / 5 := rfl
  have HW := Lib.hid hw
  have HS := Lib.hid hs
  clear hw hs
  generalize wMost c = W at *
  generalize sMost c = Z at *
  by_cases hlt : c / 8 < 1
  · have d1 : decide ((c : Int) / 8 < 1) = true := decide_eq_true (by omega)
    have q : (.tuple #[.int .i64 (W : Int), .int .i64 (Z : Int)] : Value) = .tuple #[.int .i64 1, .int .i64 (((c : Int) - 1) * 4 / 5)] := by
      have h3 := HW.out
      have h4 := HS.out
      have e1 : (W : Int) = 1 := by omega
      have e2 : (Z : Int) = ((c : Int) - 1) * 4 / 5 := by omega
      rw [e1, e2]
    have HQ := Lib.hid q
    clear q
    go_enter Tryz.func62, Tryz.ntmps62
    go_wp2_with fail
    go_ret2
    exact ⟨by rw [HQ.out]; rfl, rfl⟩
  · have d1 : decide ((c : Int) / 8 < 1) = false := decide_eq_false (by omega)
    have q : (.tuple #[.int .i64 (W : Int), .int .i64 (Z : Int)] : Value) = .tuple #[.int .i64 ((c : Int) / 8), .int .i64 (((c : Int) - (c : Int) / 8) * 4 / 5)] := by
      have h3 := HW.out
      have h4 := HS.out
      have e1 : (W : Int) = (c : Int) / 8 := by omega
      have e2 : (Z : Int) = ((c : Int) - (c : Int) / 8) * 4 / 5 := by omega
      rw [e1, e2]
    have HQ := Lib.hid q
    clear q
    go_enter Tryz.func62, Tryz.ntmps62
    go_wp2_with fail
    go_ret2
    exact ⟨by rw [HQ.out]; rfl, rfl⟩
theorem d_parts (hok : v.Fine) (W : World) (_ : Dt W v a) :
    Calls Tryz.prog 62 #[.int .i64 (v.most : Int)] W fun e w' => e = .returned (.tuple #[.int .i64 (wMost v.most : Int), .int .i64 (sMost v.most : Int)]) ∧ Below W.heap.size W w' :=
  (rparts_c hok.fit.m1 hok.fit.m2 W).mono fun _ _ ⟨p, q⟩ => ⟨p, q ▸ Below.refl _ _⟩
theorem Dt.list (h : Dt x v a) (hn : v.rg.n = 3) {i : Nat} (hi : i < 3) : ∃ ga gc, x.cell? ⟨a.G, i, none⟩ = some (.slice ga (v.len i) gc) := by
  obtain ⟨q, ga, gc, hv⟩ := h.r.at_ (i := i) (by rw [hn]; exact hi)
  rw [hv] at q
  exact ⟨ga, gc, q⟩
set_option maxHeartbeats 4000000 in
set_option maxRecDepth 100000 in
theorem rtouch_safe {i : Nat} (hi12 : i = 1 ∨ i = 2) (hok : v.Fine) (hOk : v.Ok) (e : v.at_ k = some i) (w : World) (h : Dt w v a) :
    Calls Tryz.prog 27 #[.agg #[.int .i64 (v.most : Int), .int .i64 (v.sk.wide : Int), .int .u64 (v.sk.seed : Int), .slice (some ⟨a.R, 0, none⟩) 4 a.c, .slice (some ⟨a.D, 0, none⟩) v.sk.wide v.sk.wide, .int .i64 (v.sk.added : Int), .slice (some ⟨a.G, 0, none⟩) 3 3, .int .i64 (v.pl : Int)], .string (str k)] w fun e w' => ∃ a', e = .returned (.tuple #[.agg #[.int .i64 (((v.note k).safe k).most : Int), .int .i64 (((v.note k).safe k).sk.wide : Int), .int .u64 (((v.note k).safe k).sk.seed : Int), .slice (some ⟨a'.R, 0, none⟩) 4 a'.c, .slice (some ⟨a'.D, 0, none⟩) ((v.note k).safe k).sk.wide ((v.note k).safe k).sk.wide, .int .i64 (((v.note k).safe k).sk.added : Int), .slice (some ⟨a'.G, 0, none⟩) 3 3, .int .i64 (((v.note k).safe k).pl : Int)], .bool true]) ∧ Goes w a ((v.note k).safe k) a' w' := by
  have h1 := Wk.new2 h hok.fit.n
  have hr1 := Blk.new (w.alloc (.cells #[.int .i64 (v.most : Int), .int .i64 (v.sk.wide : Int), .int .u64 (v.sk.seed : Int), .slice (some ⟨a.R, 0, none⟩) 4 a.c, .slice (some ⟨a.D, 0, none⟩) v.sk.wide v.sk.wide, .int .i64 (v.sk.added : Int), .slice (some ⟨a.G, 0, none⟩) 3 3, .int .i64 (v.pl : Int)] 36)) 36 #[.int .i64 0, .int .i64 0, .int .u64 0, .slice none 0 0, .slice none 0 0, .int .i64 0, .slice none 0 0, .int .i64 0]
  rw [show (w.alloc (.cells #[.int .i64 (v.most : Int), .int .i64 (v.sk.wide : Int), .int .u64 (v.sk.seed : Int), .slice (some ⟨a.R, 0, none⟩) 4 a.c, .slice (some ⟨a.D, 0, none⟩) v.sk.wide v.sk.wide, .int .i64 (v.sk.added : Int), .slice (some ⟨a.G, 0, none⟩) 3 3, .int .i64 (v.pl : Int)] 36)).heap.size = w.heap.size + 1 by simp] at hr1
  obtain ⟨hi, hm⟩ := Tv.at_some e
  have hkl := hok.fit.klen hi hm
  have hin := fun (W : World) (hW : Dt W v a) => d_in hok k W hW
  simp only [e, Option.getD_some, Option.isSome_some] at hin
  have hok1 := hok.note k
  have hadd := fun (W : World) (hW : Dt W v a) => d_add (k := k) hok (by omega) W hW
  have hc1 := hok1.fit.in_ hok1.fit.n (i := i) hi hm
  have hfr := fun (a1 : Ad) (W : World) (hW : Dt W (v.note k) a1) => rfr_c (jj := 2) (j := 2) rfl hok1 (by omega) hkl hc1 W hW
  have hok2 := hok1.fr (j := 2) (by omega) hkl hc1
  obtain ⟨-, -, -, hy⟩ := Tv.safe_spec (hOk.note k) hi12 hm
  have hu : (v.note k).safe k = if sMost (v.note k).most < ((v.note k).fr 2 k).len 2 then ((v.note k).fr 2 k).fr 1 ((((v.note k).fr 2 k).last 2).getD []) else (v.note k).fr 2 k := rfl
  have HN1 := Lib.hid hok1.fit.n
  have HM1 := Lib.hid (show (v.note k).most = v.most from rfl)
  have HM2 := Lib.hid (show ((v.note k).fr 2 k).most = (v.note k).most from rfl)
  have e0 : ((i : Int) == 0) = false := by rw [beq_eq_false_iff_ne]; omega
  generalize (v.note k).safe k = vs at *
  generalize (v.note k).fr 2 k = v2 at *
  generalize v.note k = v1 at *
  have HN2 := Lib.hid hok2.fit.n
  rw [← HM2.out] at hy hu
  have hpa := fun (a2 : Ad) (W : World) (hW : Dt W v2 a2) => d_parts hok2 W hW
  have hl2 := hok2.fit.len_le (i := 2) (by omega)
  have hs2 := sMost_le v2.most
  have hm2 := hok2.fit.m2
  clear hOk hok hok1 hi12 hm e hkl h hc1
  by_cases hb : sMost v2.most < v2.len 2
  · have d1 : decide ((sMost v2.most : Int) < (v2.len 2 : Int)) = true := decide_eq_true (by omega)
    have d2 : decide (sMost v2.most < v2.len 2) = true := decide_eq_true hb
    obtain ⟨y, hy1, hy2⟩ := hy hb
    rw [if_pos hb, hy1] at hu
    replace hu : vs = v2.fr 1 y := hu
    subst hu
    have hyl := hok2.fit.klen (by omega) hy2
    have hbk := fun (a2 : Ad) (W : World) (hW : Dt W v2 a2) => d_back hok2 (i := 2) (by omega) W hW
    simp only [hy1, Option.getD_some, Option.isSome_some] at hbk
    have hc2 := hok2.fit.in_ hok2.fit.n (i := 2) (by omega) hy2
    have hfr1 := fun (a2 : Ad) (W : World) (hW : Dt W v2 a2) => rfr_c (jj := 1) (j := 1) rfl hok2 (by omega) hyl hc2 W hW
    have HN3 := Lib.hid (show (v2.fr 1 y).rg.n = 3 from hok2.fit.n)
    generalize v2.fr 1 y = v3 at *
    clear hok2 hy hy1 hy2 hyl hc2
    go_enter Tryz.func27, Tryz.ntmps27
    go_upto_region 1 with (fail)
    generalize (w.alloc (.cells #[.int .i64 (v.most : Int), .int .i64 (v.sk.wide : Int), .int .u64 (v.sk.seed : Int), .slice (some ⟨a.R, 0, none⟩) 4 a.c, .slice (some ⟨a.D, 0, none⟩) v.sk.wide v.sk.wide, .int .i64 (v.sk.added : Int), .slice (some ⟨a.G, 0, none⟩) 3 3, .int .i64 (v.pl : Int)] 36)).alloc (.cells #[.int .i64 0, .int .i64 0, .int .u64 0, .slice none 0 0, .slice none 0 0, .int .i64 0, .slice none 0 0, .int .i64 0] 36) = w1 at *
    obtain ⟨x0, x1, x2, x3, x4, x5, x6, x7⟩ := h1.all
    go_wp2_with fail
    refine (hin _ h1.d).mono ?_
    rintro e w2 ⟨rfl, hb⟩
    clear x0 x1 x2 x3 x4 x5 x6 x7
    have h2 := h1.onto hb
    have hr2 := hr1.below hb hr1.lt
    clear hr1
    clear h1 hb
    obtain ⟨x0, x1, x2, x3, x4, x5, x6, x7⟩ := h2.all
    go_wp2_with fail
    refine (hadd _ h2.d).mono ?_
    rintro e w3 ⟨a1, rfl, eG, hg⟩
    clear x0 x1 x2 x3 x4 x5 x6 x7
    have hbx := h2.box.below hg.below h2.box.lt
    have y1 := hbx.cell 1
    have f1 := hbx.free 1
    have y2 := hbx.cell 2
    have f2 := hbx.free 2
    have y3 := hbx.cell 3
    have f3 := hbx.free 3
    have y4 := hbx.cell 4
    have f4 := hbx.free 4
    have y5 := hbx.cell 5
    have f5 := hbx.free 5
    simp only [List.getElem?_toArray, List.getElem?_cons_zero, List.getElem?_cons_succ] at y1 y2 y3 y4 y5
    go_upto_region 5 with (fail)
    clear y1 f1 y2 f2 y3 f3 y4 f4 y5 f5
    have h4 := h2.sketch hg HN1.out HM1.out eG
    have hr4 : Blk (((((w3.setCell ⟨w.heap.size, 1, none⟩ (.int .i64 (v1.sk.wide : Int))).setCell ⟨w.heap.size, 2, none⟩ (.int .u64 (v1.sk.seed : Int))).setCell ⟨w.heap.size, 3, none⟩ (.slice (some ⟨a1.R, 0, none⟩) 4 a1.c)).setCell ⟨w.heap.size, 4, none⟩ (.slice (some ⟨a1.D, 0, none⟩) v1.sk.wide v1.sk.wide)).setCell ⟨w.heap.size, 5, none⟩ (.int .i64 (v1.sk.added : Int))) (w.heap.size + 1) 36 #[.int .i64 0, .int .i64 0, .int .u64 0, .slice none 0 0, .slice none 0 0, .int .i64 0, .slice none 0 0, .int .i64 0] := (far5 _ (by omega) _ _ _ _ _).trans (hr2.below hg.below hr2.lt)
    clear hr2
    generalize (((((w3.setCell ⟨w.heap.size, 1, none⟩ (.int .i64 (v1.sk.wide : Int))).setCell ⟨w.heap.size, 2, none⟩ (.int .u64 (v1.sk.seed : Int))).setCell ⟨w.heap.size, 3, none⟩ (.slice (some ⟨a1.R, 0, none⟩) 4 a1.c)).setCell ⟨w.heap.size, 4, none⟩ (.slice (some ⟨a1.D, 0, none⟩) v1.sk.wide v1.sk.wide)).setCell ⟨w.heap.size, 5, none⟩ (.int .i64 (v1.sk.added : Int))) = w4 at *
    clear h2 hbx hg eG
    obtain ⟨x0, x1, x2, x3, x4, x5, x6, x7⟩ := h4.all
    go_wp2_with fail
    refine (hfr a1 _ h4.d).mono ?_
    rintro e w5 ⟨a2, rfl, hg⟩
    clear x0 x1 x2 x3 x4 x5 x6 x7
    have hbx := h4.box.below hg.below h4.box.lt
    have y0 := hbx.cell 0
    have f0 := hbx.free 0
    have y1 := hbx.cell 1
    have f1 := hbx.free 1
    have y2 := hbx.cell 2
    have f2 := hbx.free 2
    have y3 := hbx.cell 3
    have f3 := hbx.free 3
    have y4 := hbx.cell 4
    have f4 := hbx.free 4
    have y5 := hbx.cell 5
    have f5 := hbx.free 5
    have y6 := hbx.cell 6
    have f6 := hbx.free 6
    have y7 := hbx.cell 7
    have f7 := hbx.free 7
    simp only [List.getElem?_toArray, List.getElem?_cons_zero, List.getElem?_cons_succ] at y0 y1 y2 y3 y4 y5 y6 y7
    go_upto_region 8 with (fail)
    clear y0 f0 y1 f1 y2 f2 y3 f3 y4 f4 y5 f5 y6 f6 y7 f7
    have h6 := h4.whole hg HN2.out
    have hr6 : Blk ((((((((w5.setCell ⟨w.heap.size, 0, none⟩ (.int .i64 (v2.most : Int))).setCell ⟨w.heap.size, 1, none⟩ (.int .i64 (v2.sk.wide : Int))).setCell ⟨w.heap.size, 2, none⟩ (.int .u64 (v2.sk.seed : Int))).setCell ⟨w.heap.size, 3, none⟩ (.slice (some ⟨a2.R, 0, none⟩) 4 a2.c)).setCell ⟨w.heap.size, 4, none⟩ (.slice (some ⟨a2.D, 0, none⟩) v2.sk.wide v2.sk.wide)).setCell ⟨w.heap.size, 5, none⟩ (.int .i64 (v2.sk.added : Int))).setCell ⟨w.heap.size, 6, none⟩ (.slice (some ⟨a2.G, 0, none⟩) 3 3)).setCell ⟨w.heap.size, 7, none⟩ (.int .i64 (v2.pl : Int))) (w.heap.size + 1) 36 #[.int .i64 0, .int .i64 0, .int .u64 0, .slice none 0 0, .slice none 0 0, .int .i64 0, .slice none 0 0, .int .i64 0] := (far8 _ (by omega) _ _ _ _ _ _ _ _).trans (hr4.below hg.below hr4.lt)
    clear hr4
    generalize ((((((((w5.setCell ⟨w.heap.size, 0, none⟩ (.int .i64 (v2.most : Int))).setCell ⟨w.heap.size, 1, none⟩ (.int .i64 (v2.sk.wide : Int))).setCell ⟨w.heap.size, 2, none⟩ (.int .u64 (v2.sk.seed : Int))).setCell ⟨w.heap.size, 3, none⟩ (.slice (some ⟨a2.R, 0, none⟩) 4 a2.c)).setCell ⟨w.heap.size, 4, none⟩ (.slice (some ⟨a2.D, 0, none⟩) v2.sk.wide v2.sk.wide)).setCell ⟨w.heap.size, 5, none⟩ (.int .i64 (v2.sk.added : Int))).setCell ⟨w.heap.size, 6, none⟩ (.slice (some ⟨a2.G, 0, none⟩) 3 3)).setCell ⟨w.heap.size, 7, none⟩ (.int .i64 (v2.pl : Int))) = w6 at *
    clear h4 hbx hg
    obtain ⟨x0, x1, x2, x3, x4, x5, x6, x7⟩ := h6.all
    go_wp2_with fail
    refine (hpa a2 _ h6.d).mono ?_
    rintro e w7 ⟨rfl, hb⟩
    clear x0 x1 x2 x3 x4 x5 x6 x7
    have h7 := h6.onto hb
    have hr7 := hr6.below hb hr6.lt
    clear hr6
    clear h6 hb
    obtain ⟨x0, x1, x2, x3, x4, x5, x6, x7⟩ := h7.all
    obtain ⟨ga, gc, q1⟩ := h7.d.list HN2.out (i := 2) (by omega)
    go_upto_region 10 with (fail)
    clear q1
    go_wp2_with fail
    refine (hbk a2 _ h7.d).mono ?_
    rintro e w8 ⟨rfl, hb⟩
    clear x0 x1 x2 x3 x4 x5 x6 x7
    have h8 := h7.onto hb
    have hr8 := hr7.below hb hr7.lt
    clear hr7
    clear h7 hb
    obtain ⟨x0, x1, x2, x3, x4, x5, x6, x7⟩ := h8.all
    go_wp2_with fail
    refine (hfr1 a2 _ h8.d).mono ?_
    rintro e w9 ⟨a3, rfl, hg⟩
    clear x0 x1 x2 x3 x4 x5 x6 x7
    have hbx := h8.box.below hg.below h8.box.lt
    have y0 := hbx.cell 0
    have f0 := hbx.free 0
    have y1 := hbx.cell 1
    have f1 := hbx.free 1
    have y2 := hbx.cell 2
    have f2 := hbx.free 2
    have y3 := hbx.cell 3
    have f3 := hbx.free 3
    have y4 := hbx.cell 4
    have f4 := hbx.free 4
    have y5 := hbx.cell 5
    have f5 := hbx.free 5
    have y6 := hbx.cell 6
    have f6 := hbx.free 6
    have y7 := hbx.cell 7
    have f7 := hbx.free 7
    simp only [List.getElem?_toArray, List.getElem?_cons_zero, List.getElem?_cons_succ] at y0 y1 y2 y3 y4 y5 y6 y7
    go_upto_region 12 with (fail)
    clear y0 f0 y1 f1 y2 f2 y3 f3 y4 f4 y5 f5 y6 f6 y7 f7
    have h10 := h8.whole hg HN3.out
    have hr10 : Blk ((((((((w9.setCell ⟨w.heap.size, 0, none⟩ (.int .i64 (v3.most : Int))).setCell ⟨w.heap.size, 1, none⟩ (.int .i64 (v3.sk.wide : Int))).setCell ⟨w.heap.size, 2, none⟩ (.int .u64 (v3.sk.seed : Int))).setCell ⟨w.heap.size, 3, none⟩ (.slice (some ⟨a3.R, 0, none⟩) 4 a3.c)).setCell ⟨w.heap.size, 4, none⟩ (.slice (some ⟨a3.D, 0, none⟩) v3.sk.wide v3.sk.wide)).setCell ⟨w.heap.size, 5, none⟩ (.int .i64 (v3.sk.added : Int))).setCell ⟨w.heap.size, 6, none⟩ (.slice (some ⟨a3.G, 0, none⟩) 3 3)).setCell ⟨w.heap.size, 7, none⟩ (.int .i64 (v3.pl : Int))) (w.heap.size + 1) 36 #[.int .i64 0, .int .i64 0, .int .u64 0, .slice none 0 0, .slice none 0 0, .int .i64 0, .slice none 0 0, .int .i64 0] := (far8 _ (by omega) _ _ _ _ _ _ _ _).trans (hr8.below hg.below hr8.lt)
    clear hr8
    generalize ((((((((w9.setCell ⟨w.heap.size, 0, none⟩ (.int .i64 (v3.most : Int))).setCell ⟨w.heap.size, 1, none⟩ (.int .i64 (v3.sk.wide : Int))).setCell ⟨w.heap.size, 2, none⟩ (.int .u64 (v3.sk.seed : Int))).setCell ⟨w.heap.size, 3, none⟩ (.slice (some ⟨a3.R, 0, none⟩) 4 a3.c)).setCell ⟨w.heap.size, 4, none⟩ (.slice (some ⟨a3.D, 0, none⟩) v3.sk.wide v3.sk.wide)).setCell ⟨w.heap.size, 5, none⟩ (.int .i64 (v3.sk.added : Int))).setCell ⟨w.heap.size, 6, none⟩ (.slice (some ⟨a3.G, 0, none⟩) 3 3)).setCell ⟨w.heap.size, 7, none⟩ (.int .i64 (v3.pl : Int))) = w10 at *
    clear h8 hbx hg
    obtain ⟨x0, x1, x2, x3, x4, x5, x6, x7⟩ := h10.all
    have z0 := hr10.cell 0
    have f0 := hr10.free 0
    have z1 := hr10.cell 1
    have f1 := hr10.free 1
    have z2 := hr10.cell 2
    have f2 := hr10.free 2
    have z3 := hr10.cell 3
    have f3 := hr10.free 3
    have z4 := hr10.cell 4
    have f4 := hr10.free 4
    have z5 := hr10.cell 5
    have f5 := hr10.free 5
    have z6 := hr10.cell 6
    have f6 := hr10.free 6
    have z7 := hr10.cell 7
    have f7 := hr10.free 7
    simp only [List.getElem?_toArray, List.getElem?_cons_zero, List.getElem?_cons_succ] at z0 z1 z2 z3 z4 z5 z6 z7
    go_wp2_with fail
    obtain ⟨hG, hB⟩ := res_goes h10 (Goes.refl h10.d) HN3.out (b := w.heap.size + 1) (by omega) (by omega) hr10
    refine bodyPost_ret (results_row_tmp rfl _ _ (w.heap.size + 1) rfl (run_loadVar_row _ _ _ _ _ _ _ hB Tryz.underlying36 rfl (by kernel_rfl))) rfl ⟨a3, rfl, hG⟩
  · have d1 : decide ((sMost v2.most : Int) < (v2.len 2 : Int)) = false := decide_eq_false (by omega)
    have d2 : decide (sMost v2.most < v2.len 2) = false := decide_eq_false hb
    rw [if_neg hb] at hu
    subst hu
    clear hy
    go_enter Tryz.func27, Tryz.ntmps27
    go_upto_region 1 with (fail)
    generalize (w.alloc (.cells #[.int .i64 (v.most : Int), .int .i64 (v.sk.wide : Int), .int .u64 (v.sk.seed : Int), .slice (some ⟨a.R, 0, none⟩) 4 a.c, .slice (some ⟨a.D, 0, none⟩) v.sk.wide v.sk.wide, .int .i64 (v.sk.added : Int), .slice (some ⟨a.G, 0, none⟩) 3 3, .int .i64 (v.pl : Int)] 36)).alloc (.cells #[.int .i64 0, .int .i64 0, .int .u64 0, .slice none 0 0, .slice none 0 0, .int .i64 0, .slice none 0 0, .int .i64 0] 36) = w1 at *
    obtain ⟨x0, x1, x2, x3, x4, x5, x6, x7⟩ := h1.all
    go_wp2_with fail
    refine (hin _ h1.d).mono ?_
    rintro e w2 ⟨rfl, hb⟩
    clear x0 x1 x2 x3 x4 x5 x6 x7
    have h2 := h1.onto hb
    have hr2 := hr1.below hb hr1.lt
    clear hr1
    clear h1 hb
    obtain ⟨x0, x1, x2, x3, x4, x5, x6, x7⟩ := h2.all
    go_wp2_with fail
    refine (hadd _ h2.d).mono ?_
    rintro e w3 ⟨a1, rfl, eG, hg⟩
    clear x0 x1 x2 x3 x4 x5 x6 x7
    have hbx := h2.box.below hg.below h2.box.lt
    have y1 := hbx.cell 1
    have f1 := hbx.free 1
    have y2 := hbx.cell 2
    have f2 := hbx.free 2
    have y3 := hbx.cell 3
    have f3 := hbx.free 3
    have y4 := hbx.cell 4
    have f4 := hbx.free 4
    have y5 := hbx.cell 5
    have f5 := hbx.free 5
    simp only [List.getElem?_toArray, List.getElem?_cons_zero, List.getElem?_cons_succ] at y1 y2 y3 y4 y5
    go_upto_region 5 with (fail)
    clear y1 f1 y2 f2 y3 f3 y4 f4 y5 f5
    have h4 := h2.sketch hg HN1.out HM1.out eG
    have hr4 : Blk (((((w3.setCell ⟨w.heap.size, 1, none⟩ (.int .i64 (v1.sk.wide : Int))).setCell ⟨w.heap.size, 2, none⟩ (.int .u64 (v1.sk.seed : Int))).setCell ⟨w.heap.size, 3, none⟩ (.slice (some ⟨a1.R, 0, none⟩) 4 a1.c)).setCell ⟨w.heap.size, 4, none⟩ (.slice (some ⟨a1.D, 0, none⟩) v1.sk.wide v1.sk.wide)).setCell ⟨w.heap.size, 5, none⟩ (.int .i64 (v1.sk.added : Int))) (w.heap.size + 1) 36 #[.int .i64 0, .int .i64 0, .int .u64 0, .slice none 0 0, .slice none 0 0, .int .i64 0, .slice none 0 0, .int .i64 0] := (far5 _ (by omega) _ _ _ _ _).trans (hr2.below hg.below hr2.lt)
    clear hr2
    generalize (((((w3.setCell ⟨w.heap.size, 1, none⟩ (.int .i64 (v1.sk.wide : Int))).setCell ⟨w.heap.size, 2, none⟩ (.int .u64 (v1.sk.seed : Int))).setCell ⟨w.heap.size, 3, none⟩ (.slice (some ⟨a1.R, 0, none⟩) 4 a1.c)).setCell ⟨w.heap.size, 4, none⟩ (.slice (some ⟨a1.D, 0, none⟩) v1.sk.wide v1.sk.wide)).setCell ⟨w.heap.size, 5, none⟩ (.int .i64 (v1.sk.added : Int))) = w4 at *
    clear h2 hbx hg eG
    obtain ⟨x0, x1, x2, x3, x4, x5, x6, x7⟩ := h4.all
    go_wp2_with fail
    refine (hfr a1 _ h4.d).mono ?_
    rintro e w5 ⟨a2, rfl, hg⟩
    clear x0 x1 x2 x3 x4 x5 x6 x7
    have hbx := h4.box.below hg.below h4.box.lt
    have y0 := hbx.cell 0
    have f0 := hbx.free 0
    have y1 := hbx.cell 1
    have f1 := hbx.free 1
    have y2 := hbx.cell 2
    have f2 := hbx.free 2
    have y3 := hbx.cell 3
    have f3 := hbx.free 3
    have y4 := hbx.cell 4
    have f4 := hbx.free 4
    have y5 := hbx.cell 5
    have f5 := hbx.free 5
    have y6 := hbx.cell 6
    have f6 := hbx.free 6
    have y7 := hbx.cell 7
    have f7 := hbx.free 7
    simp only [List.getElem?_toArray, List.getElem?_cons_zero, List.getElem?_cons_succ] at y0 y1 y2 y3 y4 y5 y6 y7
    go_upto_region 8 with (fail)
    clear y0 f0 y1 f1 y2 f2 y3 f3 y4 f4 y5 f5 y6 f6 y7 f7
    have h6 := h4.whole hg HN2.out
    have hr6 : Blk ((((((((w5.setCell ⟨w.heap.size, 0, none⟩ (.int .i64 (vs.most : Int))).setCell ⟨w.heap.size, 1, none⟩ (.int .i64 (vs.sk.wide : Int))).setCell ⟨w.heap.size, 2, none⟩ (.int .u64 (vs.sk.seed : Int))).setCell ⟨w.heap.size, 3, none⟩ (.slice (some ⟨a2.R, 0, none⟩) 4 a2.c)).setCell ⟨w.heap.size, 4, none⟩ (.slice (some ⟨a2.D, 0, none⟩) vs.sk.wide vs.sk.wide)).setCell ⟨w.heap.size, 5, none⟩ (.int .i64 (vs.sk.added : Int))).setCell ⟨w.heap.size, 6, none⟩ (.slice (some ⟨a2.G, 0, none⟩) 3 3)).setCell ⟨w.heap.size, 7, none⟩ (.int .i64 (vs.pl : Int))) (w.heap.size + 1) 36 #[.int .i64 0, .int .i64 0, .int .u64 0, .slice none 0 0, .slice none 0 0, .int .i64 0, .slice none 0 0, .int .i64 0] := (far8 _ (by omega) _ _ _ _ _ _ _ _).trans (hr4.below hg.below hr4.lt)
    clear hr4
    generalize ((((((((w5.setCell ⟨w.heap.size, 0, none⟩ (.int .i64 (vs.most : Int))).setCell ⟨w.heap.size, 1, none⟩ (.int .i64 (vs.sk.wide : Int))).setCell ⟨w.heap.size, 2, none⟩ (.int .u64 (vs.sk.seed : Int))).setCell ⟨w.heap.size, 3, none⟩ (.slice (some ⟨a2.R, 0, none⟩) 4 a2.c)).setCell ⟨w.heap.size, 4, none⟩ (.slice (some ⟨a2.D, 0, none⟩) vs.sk.wide vs.sk.wide)).setCell ⟨w.heap.size, 5, none⟩ (.int .i64 (vs.sk.added : Int))).setCell ⟨w.heap.size, 6, none⟩ (.slice (some ⟨a2.G, 0, none⟩) 3 3)).setCell ⟨w.heap.size, 7, none⟩ (.int .i64 (vs.pl : Int))) = w6 at *
    clear h4 hbx hg
    obtain ⟨x0, x1, x2, x3, x4, x5, x6, x7⟩ := h6.all
    go_wp2_with fail
    refine (hpa a2 _ h6.d).mono ?_
    rintro e w7 ⟨rfl, hb⟩
    clear x0 x1 x2 x3 x4 x5 x6 x7
    have h7 := h6.onto hb
    have hr7 := hr6.below hb hr6.lt
    clear hr6
    clear h6 hb
    obtain ⟨x0, x1, x2, x3, x4, x5, x6, x7⟩ := h7.all
    obtain ⟨ga, gc, q1⟩ := h7.d.list HN2.out (i := 2) (by omega)
    have z0 := hr7.cell 0
    have f0 := hr7.free 0
    have z1 := hr7.cell 1
    have f1 := hr7.free 1
    have z2 := hr7.cell 2
    have f2 := hr7.free 2
    have z3 := hr7.cell 3
    have f3 := hr7.free 3
    have z4 := hr7.cell 4
    have f4 := hr7.free 4
    have z5 := hr7.cell 5
    have f5 := hr7.free 5
    have z6 := hr7.cell 6
    have f6 := hr7.free 6
    have z7 := hr7.cell 7
    have f7 := hr7.free 7
    simp only [List.getElem?_toArray, List.getElem?_cons_zero, List.getElem?_cons_succ] at z0 z1 z2 z3 z4 z5 z6 z7
    go_wp2_with fail
    obtain ⟨hG, hB⟩ := res_goes h7 (Goes.refl h7.d) HN2.out (b := w.heap.size + 1) (by omega) (by omega) hr7
    refine bodyPost_ret (results_row_tmp rfl _ _ (w.heap.size + 1) rfl (run_loadVar_row _ _ _ _ _ _ _ hB Tryz.underlying36 rfl (by kernel_rfl))) rfl ⟨a2, rfl, hG⟩
theorem rtouch_c (hok : v.Fine) (hOk : v.Ok) (w : World) (h : Dt w v a) :
    Calls Tryz.prog 27 #[.agg #[.int .i64 (v.most : Int), .int .i64 (v.sk.wide : Int), .int .u64 (v.sk.seed : Int), .slice (some ⟨a.R, 0, none⟩) 4 a.c, .slice (some ⟨a.D, 0, none⟩) v.sk.wide v.sk.wide, .int .i64 (v.sk.added : Int), .slice (some ⟨a.G, 0, none⟩) 3 3, .int .i64 (v.pl : Int)], .string (str k)] w fun e w' => ∃ a', e = .returned (.tuple #[.agg #[.int .i64 ((v.touch k).most : Int), .int .i64 ((v.touch k).sk.wide : Int), .int .u64 ((v.touch k).sk.seed : Int), .slice (some ⟨a'.R, 0, none⟩) 4 a'.c, .slice (some ⟨a'.D, 0, none⟩) (v.touch k).sk.wide (v.touch k).sk.wide, .int .i64 ((v.touch k).sk.added : Int), .slice (some ⟨a'.G, 0, none⟩) 3 3, .int .i64 ((v.touch k).pl : Int)], .bool (v.has k)]) ∧ Goes w a (v.touch k) a' w' := by
  cases e : v.at_ k with
  | none =>
    have h1 : v.touch k = v := by unfold Tv.touch; rw [e]
    have h2 : v.has k = false := by unfold Tv.has; rw [e]; rfl
    rw [h1, h2]
    exact rtouch_none hok e w h
  | some i =>
    obtain ⟨hi, -⟩ := Tv.at_some e
    have h2 : v.has k = true := by unfold Tv.has; rw [e]; rfl
    rcases (by omega : i = 0 ∨ i = 1 ∨ i = 2) with rfl | rfl | rfl
    · have h1 : v.touch k = (v.note k).fr 0 k := by unfold Tv.touch; rw [e]; rfl
      rw [h1, h2]
      exact rtouch_win hok e w h
    · have h1 : v.touch k = (v.note k).safe k := by unfold Tv.touch; rw [e]; rfl
      rw [h1, h2]
      exact rtouch_safe (.inl rfl) hok hOk e w h
    · have h1 : v.touch k = (v.note k).safe k := by unfold Tv.touch; rw [e]; rfl
      rw [h1, h2]
      exact rtouch_safe (.inr rfl) hok hOk e w h
end
end Go.Proofs.YtgfpedcdclgmiaaGreat.Tinyy

namespace Go.Proofs.YtgfpedcdclgmiaaGreat.Tinyy
open Go.ChangeShapes Go.WideShapes Go.ChangeAt Go.RowKit Go.Shelf
open Wirey (Blk Row str str_size str_list str_cat Kp enc)
open Ringy Go.ChangeMaps Go.Maps
open Sketchy (Sk ksOf ksOf_lt Six)

section
variable {w x y : World} {v v' v'' : Tv} {a a' a'' : Ad} {k : Key} {j K : Nat}
set_option maxHeartbeats 4000000 in
set_option maxRecDepth 100000 in
theorem rhas_c (hok : v.Fine) (w : World) (h : Dt w v a) :
    Calls Tryz.prog 11 #[.agg #[.int .i64 (v.most : Int), .int .i64 (v.sk.wide : Int), .int .u64 (v.sk.seed : Int), .slice (some ⟨a.R, 0, none⟩) 4 a.c, .slice (some ⟨a.D, 0, none⟩) v.sk.wide v.sk.wide, .int .i64 (v.sk.added : Int), .slice (some ⟨a.G, 0, none⟩) 3 3, .int .i64 (v.pl : Int)], .string (str k)] w fun e w' => e = .returned (.bool (v.has k)) ∧ Below w.heap.size w w' := by
  have h1 := Wk.new1 h hok.fit.n
  have hin := fun (W : World) (hW : Dt W v a) => d_in hok k W hW
  have HV := Lib.hid (show (v.at_ k).isSome = v.has k from rfl)
  generalize (v.at_ k).isSome = b at *
  generalize (v.at_ k).getD 0 = i at *
  clear hok h
  go_enter Tryz.func11, Tryz.ntmps11
  go_upto_region 1 with (fail)
  generalize w.alloc (.cells #[.int .i64 (v.most : Int), .int .i64 (v.sk.wide : Int), .int .u64 (v.sk.seed : Int), .slice (some ⟨a.R, 0, none⟩) 4 a.c, .slice (some ⟨a.D, 0, none⟩) v.sk.wide v.sk.wide, .int .i64 (v.sk.added : Int), .slice (some ⟨a.G, 0, none⟩) 3 3, .int .i64 (v.pl : Int)] 36) = w1 at *
  obtain ⟨x0, x1, x2, x3, x4, x5, x6, x7⟩ := h1.all
  go_wp2_with fail
  refine (hin _ h1.d).mono ?_
  rintro e w2 ⟨rfl, hb⟩
  clear x0 x1 x2 x3 x4 x5 x6 x7
  have h2 := h1.onto hb
  clear h1 hb
  obtain ⟨x0, x1, x2, x3, x4, x5, x6, x7⟩ := h2.all
  go_wp2_with fail
  go_ret
  exact ⟨by rw [← HV.out]; rfl, h2.below⟩
set_option maxHeartbeats 4000000 in
set_option maxRecDepth 100000 in
theorem rlen_c (hok : v.Fine) (w : World) (h : Dt w v a) :
    Calls Tryz.prog 38 #[.agg #[.int .i64 (v.most : Int), .int .i64 (v.sk.wide : Int), .int .u64 (v.sk.seed : Int), .slice (some ⟨a.R, 0, none⟩) 4 a.c, .slice (some ⟨a.D, 0, none⟩) v.sk.wide v.sk.wide, .int .i64 (v.sk.added : Int), .slice (some ⟨a.G, 0, none⟩) 3 3, .int .i64 (v.pl : Int)]] w fun e w' => e = .returned (.int .i64 (v.kept : Int)) ∧ Below w.heap.size w w' := by
  have h1 := Wk.new1 h hok.fit.n
  have hin := fun (W : World) (hW : Dt W v a) => d_many hok W hW
  clear hok h
  go_enter Tryz.func38, Tryz.ntmps38
  go_upto_region 1 with (fail)
  generalize w.alloc (.cells #[.int .i64 (v.most : Int), .int .i64 (v.sk.wide : Int), .int .u64 (v.sk.seed : Int), .slice (some ⟨a.R, 0, none⟩) 4 a.c, .slice (some ⟨a.D, 0, none⟩) v.sk.wide v.sk.wide, .int .i64 (v.sk.added : Int), .slice (some ⟨a.G, 0, none⟩) 3 3, .int .i64 (v.pl : Int)] 36) = w1 at *
  obtain ⟨x0, x1, x2, x3, x4, x5, x6, x7⟩ := h1.all
  go_wp2_with fail
  refine (hin _ h1.d).mono ?_
  rintro e w2 ⟨rfl, hb⟩
  clear x0 x1 x2 x3 x4 x5 x6 x7
  have h2 := h1.onto hb
  clear h1 hb
  obtain ⟨x0, x1, x2, x3, x4, x5, x6, x7⟩ := h2.all
  go_wp2_with fail
  go_ret
  exact ⟨rfl, h2.below⟩
set_option maxHeartbeats 4000000 in
set_option maxRecDepth 100000 in
theorem rremove_c (hok : v.Fine) (w : World) (h : Dt w v a) :
    Calls Tryz.prog 28 #[.agg #[.int .i64 (v.most : Int), .int .i64 (v.sk.wide : Int), .int .u64 (v.sk.seed : Int), .slice (some ⟨a.R, 0, none⟩) 4 a.c, .slice (some ⟨a.D, 0, none⟩) v.sk.wide v.sk.wide, .int .i64 (v.sk.added : Int), .slice (some ⟨a.G, 0, none⟩) 3 3, .int .i64 (v.pl : Int)], .string (str k)] w fun e w' => ∃ a', e = .returned (.tuple #[.agg #[.int .i64 ((v.dr k).most : Int), .int .i64 ((v.dr k).sk.wide : Int), .int .u64 ((v.dr k).sk.seed : Int), .slice (some ⟨a'.R, 0, none⟩) 4 a'.c, .slice (some ⟨a'.D, 0, none⟩) (v.dr k).sk.wide (v.dr k).sk.wide, .int .i64 ((v.dr k).sk.added : Int), .slice (some ⟨a'.G, 0, none⟩) 3 3, .int .i64 ((v.dr k).pl : Int)], .bool (v.has k)]) ∧ Goes w a (v.dr k) a' w' := by
  have h1 := Wk.new2 h hok.fit.n
  have hr1 := Blk.new (w.alloc (.cells #[.int .i64 (v.most : Int), .int .i64 (v.sk.wide : Int), .int .u64 (v.sk.seed : Int), .slice (some ⟨a.R, 0, none⟩) 4 a.c, .slice (some ⟨a.D, 0, none⟩) v.sk.wide v.sk.wide, .int .i64 (v.sk.added : Int), .slice (some ⟨a.G, 0, none⟩) 3 3, .int .i64 (v.pl : Int)] 36)) 36 #[.int .i64 0, .int .i64 0, .int .u64 0, .slice none 0 0, .slice none 0 0, .int .i64 0, .slice none 0 0, .int .i64 0]
  rw [show (w.alloc (.cells #[.int .i64 (v.most : Int), .int .i64 (v.sk.wide : Int), .int .u64 (v.sk.seed : Int), .slice (some ⟨a.R, 0, none⟩) 4 a.c, .slice (some ⟨a.D, 0, none⟩) v.sk.wide v.sk.wide, .int .i64 (v.sk.added : Int), .slice (some ⟨a.G, 0, none⟩) 3 3, .int .i64 (v.pl : Int)] 36)).heap.size = w.heap.size + 1 by simp] at hr1
  have hha := fun (W : World) (hW : Dt W v a) => rhas_c (k := k) hok W hW
  have hdr := fun (W : World) (hW : Dt W v a) => d_drop hok k W hW
  have HN2 := Lib.hid (show (v.dr k).rg.n = 3 from hok.fit.n)
  have HM2 := Lib.hid (show (v.dr k).most = v.most from rfl)
  have HS2 := Lib.hid (show (v.dr k).sk = v.sk from rfl)
  generalize v.dr k = v2 at *
  generalize v.has k = b at *
  clear hok h
  go_enter Tryz.func28, Tryz.ntmps28
  go_upto_region 1 with (fail)
  generalize (w.alloc (.cells #[.int .i64 (v.most : Int), .int .i64 (v.sk.wide : Int), .int .u64 (v.sk.seed : Int), .slice (some ⟨a.R, 0, none⟩) 4 a.c, .slice (some ⟨a.D, 0, none⟩) v.sk.wide v.sk.wide, .int .i64 (v.sk.added : Int), .slice (some ⟨a.G, 0, none⟩) 3 3, .int .i64 (v.pl : Int)] 36)).alloc (.cells #[.int .i64 0, .int .i64 0, .int .u64 0, .slice none 0 0, .slice none 0 0, .int .i64 0, .slice none 0 0, .int .i64 0] 36) = w1 at *
  obtain ⟨x0, x1, x2, x3, x4, x5, x6, x7⟩ := h1.all
  go_wp2_with fail
  refine (hha _ h1.d).mono ?_
  rintro e w2 ⟨rfl, hb⟩
  clear x0 x1 x2 x3 x4 x5 x6 x7
  have h2 := h1.onto hb
  have hr2 := hr1.below hb hr1.lt
  clear hr1
  clear h1 hb
  obtain ⟨x0, x1, x2, x3, x4, x5, x6, x7⟩ := h2.all
  go_wp2_with fail
  refine (hdr _ h2.d).mono ?_
  rintro e w3 ⟨a2, rfl, e1, e2, e3, hg⟩
  clear x0 x1 x2 x3 x4 x5 x6 x7
  have hbx := h2.box.below hg.below h2.box.lt
  have y6 := hbx.cell 6
  have f6 := hbx.free 6
  have y7 := hbx.cell 7
  have f7 := hbx.free 7
  simp only [List.getElem?_toArray, List.getElem?_cons_zero, List.getElem?_cons_succ] at y6 y7
  go_upto_region 3 with (fail)
  clear y6 f6 y7 f7
  have h4 := h2.lists hg HN2.out HM2.out HS2.out ⟨e1, e2, e3⟩
  rw [pl_of HM2.out] at h4
  have hr4 : Blk ((w3.setCell ⟨w.heap.size, 6, none⟩ (.slice (some ⟨a2.G, 0, none⟩) 3 3)).setCell ⟨w.heap.size, 7, none⟩ (.int .i64 (v.pl : Int))) (w.heap.size + 1) 36 #[.int .i64 0, .int .i64 0, .int .u64 0, .slice none 0 0, .slice none 0 0, .int .i64 0, .slice none 0 0, .int .i64 0] := (far2 _ (by omega) _ _).trans (hr2.below hg.below hr2.lt)
  clear hr2
  generalize ((w3.setCell ⟨w.heap.size, 6, none⟩ (.slice (some ⟨a2.G, 0, none⟩) 3 3)).setCell ⟨w.heap.size, 7, none⟩ (.int .i64 (v.pl : Int))) = w4 at *
  clear h2 hbx hg e1 e2 e3
  obtain ⟨x0, x1, x2, x3, x4, x5, x6, x7⟩ := h4.all
  have z0 := hr4.cell 0
  have f0 := hr4.free 0
  have z1 := hr4.cell 1
  have f1 := hr4.free 1
  have z2 := hr4.cell 2
  have f2 := hr4.free 2
  have z3 := hr4.cell 3
  have f3 := hr4.free 3
  have z4 := hr4.cell 4
  have f4 := hr4.free 4
  have z5 := hr4.cell 5
  have f5 := hr4.free 5
  have z6 := hr4.cell 6
  have f6 := hr4.free 6
  have z7 := hr4.cell 7
  have f7 := hr4.free 7
  simp only [List.getElem?_toArray, List.getElem?_cons_zero, List.getElem?_cons_succ] at z0 z1 z2 z3 z4 z5 z6 z7
  go_wp2_with fail
  obtain ⟨hG, hB⟩ := res_goes h4 (Goes.refl h4.d) HN2.out (b := w.heap.size + 1) (by omega) (by omega) hr4
  refine bodyPost_ret (results_row_tmp rfl _ _ (w.heap.size + 1) rfl (run_loadVar_row _ _ _ _ _ _ _ hB Tryz.underlying36 rfl (by kernel_rfl))) rfl ⟨a2, rfl, hG⟩
set_option maxHeartbeats 4000000 in
set_option maxRecDepth 100000 in
theorem rmiss_c (hok : v.Fine) (hk : k.length ≤ maxLen) (w : World) (h : Dt w v a) :
    Calls Tryz.prog 33 #[.agg #[.int .i64 (v.most : Int), .int .i64 (v.sk.wide : Int), .int .u64 (v.sk.seed : Int), .slice (some ⟨a.R, 0, none⟩) 4 a.c, .slice (some ⟨a.D, 0, none⟩) v.sk.wide v.sk.wide, .int .i64 (v.sk.added : Int), .slice (some ⟨a.G, 0, none⟩) 3 3, .int .i64 (v.pl : Int)], .string (str k)] w fun e w' => ∃ a', e = .returned (.agg #[.int .i64 ((v.miss k).most : Int), .int .i64 ((v.miss k).sk.wide : Int), .int .u64 ((v.miss k).sk.seed : Int), .slice (some ⟨a'.R, 0, none⟩) 4 a'.c, .slice (some ⟨a'.D, 0, none⟩) (v.miss k).sk.wide (v.miss k).sk.wide, .int .i64 ((v.miss k).sk.added : Int), .slice (some ⟨a'.G, 0, none⟩) 3 3, .int .i64 ((v.miss k).pl : Int)]) ∧ Goes w a (v.miss k) a' w' := by
  have h1 := Wk.new2 h hok.fit.n
  have hr1 := Blk.new (w.alloc (.cells #[.int .i64 (v.most : Int), .int .i64 (v.sk.wide : Int), .int .u64 (v.sk.seed : Int), .slice (some ⟨a.R, 0, none⟩) 4 a.c, .slice (some ⟨a.D, 0, none⟩) v.sk.wide v.sk.wide, .int .i64 (v.sk.added : Int), .slice (some ⟨a.G, 0, none⟩) 3 3, .int .i64 (v.pl : Int)] 36)) 36 #[.int .i64 0, .int .i64 0, .int .u64 0, .slice none 0 0, .slice none 0 0, .int .i64 0, .slice none 0 0, .int .i64 0]
  rw [show (w.alloc (.cells #[.int .i64 (v.most : Int), .int .i64 (v.sk.wide : Int), .int .u64 (v.sk.seed : Int), .slice (some ⟨a.R, 0, none⟩) 4 a.c, .slice (some ⟨a.D, 0, none⟩) v.sk.wide v.sk.wide, .int .i64 (v.sk.added : Int), .slice (some ⟨a.G, 0, none⟩) 3 3, .int .i64 (v.pl : Int)] 36)).heap.size = w.heap.size + 1 by simp] at hr1
  have hsz := str_size k
  unfold maxLen at hk
  by_cases hl : 64 < k.length
  · have hv : v.miss k = v := if_pos hl
    rw [hv]
    have d1 : decide ((k.length : Int) ≤ 64) = false := decide_eq_false (by omega)
    have HN := Lib.hid hok.fit.n
    clear hok h hv
    go_enter Tryz.func33, Tryz.ntmps33
    go_upto_region 1 with (fail)
    generalize (w.alloc (.cells #[.int .i64 (v.most : Int), .int .i64 (v.sk.wide : Int), .int .u64 (v.sk.seed : Int), .slice (some ⟨a.R, 0, none⟩) 4 a.c, .slice (some ⟨a.D, 0, none⟩) v.sk.wide v.sk.wide, .int .i64 (v.sk.added : Int), .slice (some ⟨a.G, 0, none⟩) 3 3, .int .i64 (v.pl : Int)] 36)).alloc (.cells #[.int .i64 0, .int .i64 0, .int .u64 0, .slice none 0 0, .slice none 0 0, .int .i64 0, .slice none 0 0, .int .i64 0] 36) = w1 at *
    obtain ⟨x0, x1, x2, x3, x4, x5, x6, x7⟩ := h1.all
    clear x0 x1 x2 x3 x4 x5 x6 x7
    go_upto_region 3 with (fail)
    obtain ⟨x0, x1, x2, x3, x4, x5, x6, x7⟩ := h1.all
    have z0 := hr1.cell 0
    have f0 := hr1.free 0
    have z1 := hr1.cell 1
    have f1 := hr1.free 1
    have z2 := hr1.cell 2
    have f2 := hr1.free 2
    have z3 := hr1.cell 3
    have f3 := hr1.free 3
    have z4 := hr1.cell 4
    have f4 := hr1.free 4
    have z5 := hr1.cell 5
    have f5 := hr1.free 5
    have z6 := hr1.cell 6
    have f6 := hr1.free 6
    have z7 := hr1.cell 7
    have f7 := hr1.free 7
    simp only [List.getElem?_toArray, List.getElem?_cons_zero, List.getElem?_cons_succ] at z0 z1 z2 z3 z4 z5 z6 z7
    go_wp2_with fail
    obtain ⟨hG, hB⟩ := res_goes h1 (Goes.refl h1.d) HN.out (b := w.heap.size + 1) (by omega) (by omega) hr1
    refine bodyPost_ret (results_cell_row rfl _ _ (w.heap.size + 1) 36 _ _ _ rfl hB Tryz.underlying36 rfl (by kernel_rfl)) rfl ⟨a, rfl, hG⟩
  · have hv : v.miss k = v.note k := if_neg hl
    rw [hv]
    have d1 : decide ((k.length : Int) ≤ 64) = true := decide_eq_true (by omega)
    have hadd := fun (W : World) (hW : Dt W v a) => d_add (k := k) hok (by omega) W hW
    have HN1 := Lib.hid (hok.note k).fit.n
    have HM1 := Lib.hid (show (v.note k).most = v.most from rfl)
    generalize v.note k = v1 at *
    clear hok h hv
    go_enter Tryz.func33, Tryz.ntmps33
    go_upto_region 1 with (fail)
    generalize (w.alloc (.cells #[.int .i64 (v.most : Int), .int .i64 (v.sk.wide : Int), .int .u64 (v.sk.seed : Int), .slice (some ⟨a.R, 0, none⟩) 4 a.c, .slice (some ⟨a.D, 0, none⟩) v.sk.wide v.sk.wide, .int .i64 (v.sk.added : Int), .slice (some ⟨a.G, 0, none⟩) 3 3, .int .i64 (v.pl : Int)] 36)).alloc (.cells #[.int .i64 0, .int .i64 0, .int .u64 0, .slice none 0 0, .slice none 0 0, .int .i64 0, .slice none 0 0, .int .i64 0] 36) = w1 at *
    obtain ⟨x0, x1, x2, x3, x4, x5, x6, x7⟩ := h1.all
    go_wp2_with fail
    refine (hadd _ h1.d).mono ?_
    rintro e w2 ⟨a1, rfl, eG, hg⟩
    clear x0 x1 x2 x3 x4 x5 x6 x7
    have hbx := h1.box.below hg.below h1.box.lt
    have y1 := hbx.cell 1
    have f1 := hbx.free 1
    have y2 := hbx.cell 2
    have f2 := hbx.free 2
    have y3 := hbx.cell 3
    have f3 := hbx.free 3
    have y4 := hbx.cell 4
    have f4 := hbx.free 4
    have y5 := hbx.cell 5
    have f5 := hbx.free 5
    simp only [List.getElem?_toArray, List.getElem?_cons_zero, List.getElem?_cons_succ] at y1 y2 y3 y4 y5
    go_upto_region 3 with (fail)
    clear y1 f1 y2 f2 y3 f3 y4 f4 y5 f5
    have h3 := h1.sketch hg HN1.out HM1.out eG
    have hr3 : Blk (((((w2.setCell ⟨w.heap.size, 1, none⟩ (.int .i64 (v1.sk.wide : Int))).setCell ⟨w.heap.size, 2, none⟩ (.int .u64 (v1.sk.seed : Int))).setCell ⟨w.heap.size, 3, none⟩ (.slice (some ⟨a1.R, 0, none⟩) 4 a1.c)).setCell ⟨w.heap.size, 4, none⟩ (.slice (some ⟨a1.D, 0, none⟩) v1.sk.wide v1.sk.wide)).setCell ⟨w.heap.size, 5, none⟩ (.int .i64 (v1.sk.added : Int))) (w.heap.size + 1) 36 #[.int .i64 0, .int .i64 0, .int .u64 0, .slice none 0 0, .slice none 0 0, .int .i64 0, .slice none 0 0, .int .i64 0] := (far5 _ (by omega) _ _ _ _ _).trans (hr1.below hg.below hr1.lt)
    clear hr1
    generalize (((((w2.setCell ⟨w.heap.size, 1, none⟩ (.int .i64 (v1.sk.wide : Int))).setCell ⟨w.heap.size, 2, none⟩ (.int .u64 (v1.sk.seed : Int))).setCell ⟨w.heap.size, 3, none⟩ (.slice (some ⟨a1.R, 0, none⟩) 4 a1.c)).setCell ⟨w.heap.size, 4, none⟩ (.slice (some ⟨a1.D, 0, none⟩) v1.sk.wide v1.sk.wide)).setCell ⟨w.heap.size, 5, none⟩ (.int .i64 (v1.sk.added : Int))) = w3 at *
    clear h1 hbx hg eG
    obtain ⟨x0, x1, x2, x3, x4, x5, x6, x7⟩ := h3.all
    have z0 := hr3.cell 0
    have f0 := hr3.free 0
    have z1 := hr3.cell 1
    have f1 := hr3.free 1
    have z2 := hr3.cell 2
    have f2 := hr3.free 2
    have z3 := hr3.cell 3
    have f3 := hr3.free 3
    have z4 := hr3.cell 4
    have f4 := hr3.free 4
    have z5 := hr3.cell 5
    have f5 := hr3.free 5
    have z6 := hr3.cell 6
    have f6 := hr3.free 6
    have z7 := hr3.cell 7
    have f7 := hr3.free 7
    simp only [List.getElem?_toArray, List.getElem?_cons_zero, List.getElem?_cons_succ] at z0 z1 z2 z3 z4 z5 z6 z7
    go_wp2_with fail
    obtain ⟨hG, hB⟩ := res_goes h3 (Goes.refl h3.d) HN1.out (b := w.heap.size + 1) (by omega) (by omega) hr3
    refine bodyPost_ret (results_cell_row rfl _ _ (w.heap.size + 1) 36 _ _ _ rfl hB Tryz.underlying36 rfl (by kernel_rfl)) rfl ⟨a1, rfl, hG⟩
theorem rwide_c {n : Nat} (hn : n ≤ 1000) (W : World) :
    Calls Tryz.prog 22 #[.int .i64 (n : Int)] W fun e w' => e = .returned (.int .i64 (wideOf n : Int)) ∧ W = w' := by
  have hw : wideOf n = min (8 * n) 4096 := rfl
  have HW := Lib.hid hw
  clear hw
  generalize wideOf n = z at *
  by_cases hl : 512 < n
  · have d1 : decide ((512 : Int) < (n : Int)) = true := decide_eq_true (by omega)
    have q : (z : Int) = 4096 := by have := HW.out; omega
    have HQ := Lib.hid q
    clear q
    go_enter Tryz.func22, Tryz.ntmps22
    go_wp2_with fail
    go_ret
    exact ⟨by rw [HQ.out]; rfl, rfl⟩
  · have d1 : decide ((512 : Int) < (n : Int)) = false := decide_eq_false (by omega)
    have q : (z : Int) = 8 * (n : Int) := by have := HW.out; omega
    have HQ := Lib.hid q
    clear q
    go_enter Tryz.func22, Tryz.ntmps22
    go_wp2_with fail
    go_ret
    exact ⟨by rw [HQ.out]; rfl, rfl⟩
theorem Tv.new_fine {n seed : Nat} (h1 : 1 ≤ n) (h2 : n ≤ 1000) (h3 : seed < 18446744073709551616) : (Tv.new n seed).Fine := ⟨(Tv.new_ok h1 h2 h3).fit, fun _ _ => rfl⟩
set_option maxHeartbeats 4000000 in
set_option maxRecDepth 100000 in
theorem rnewT_c {n seed : Nat} (h1 : 1 ≤ n) (h2 : n ≤ 1000) (h3 : seed < 18446744073709551616) (w : World) :
    Calls Tryz.prog 5 #[.int .i64 (n : Int), .int .u64 (seed : Int)] w fun e w' => ∃ a, e = .returned (.agg #[.int .i64 ((Tv.new n seed).most : Int), .int .i64 ((Tv.new n seed).sk.wide : Int), .int .u64 ((Tv.new n seed).sk.seed : Int), .slice (some ⟨a.R, 0, none⟩) 4 a.c, .slice (some ⟨a.D, 0, none⟩) (Tv.new n seed).sk.wide (Tv.new n seed).sk.wide, .int .i64 ((Tv.new n seed).sk.added : Int), .slice (some ⟨a.G, 0, none⟩) 3 3, .int .i64 ((Tv.new n seed).pl : Int)]) ∧ Dt w' (Tv.new n seed) a ∧ (∀ q, a.has q → w.heap.size < q) ∧ Below w.heap.size w w' := by
  have hwd := wideOf_le h1
  have hok := Tv.new_fine h1 h2 h3
  have hb1 := (Below.refl _ w).alloc (Nat.le_refl _) (.cells #[.int .i64 0, .int .i64 0, .int .u64 0, .slice none 0 0, .slice none 0 0, .int .i64 0, .slice none 0 0, .int .i64 0] 36)
  have hr1 := Blk.new w 36 #[.int .i64 0, .int .i64 0, .int .u64 0, .slice none 0 0, .slice none 0 0, .int .i64 0, .slice none 0 0, .int .i64 0]
  have hz1 : (w.alloc (.cells #[.int .i64 0, .int .i64 0, .int .u64 0, .slice none 0 0, .slice none 0 0, .int .i64 0, .slice none 0 0, .int .i64 0] 36)).heap.size = w.heap.size + 1 := by simp
  have hwi := fun W => rwide_c (n := n) h2 W
  have hs := fun W => Sketchy.rnew_c (n := wideOf n) (seed := seed) hwd.2 W
  have hN := fun W => Ringy.rnew_c (n := 3) (places := n + 1) (by omega) W
  go_enter Tryz.func5, Tryz.ntmps5
  go_upto_region 1 with (fail)
  generalize w.alloc (.cells #[.int .i64 0, .int .i64 0, .int .u64 0, .slice none 0 0, .slice none 0 0, .int .i64 0, .slice none 0 0, .int .i64 0] 36) = w1 at *
  go_wp2_with fail
  refine (hwi _).mono ?_
  rintro e w' ⟨rfl, rfl⟩
  go_wp2_with fail
  refine (hs _).mono ?_
  rintro e w2 ⟨R, c, D, Gs, rfl, hS, hA, hb2⟩
  have HZ := Lib.hid hz1
  clear hz1
  unfold Sketchy.refV
  go_wp2_with fail
  refine (hN _).mono ?_
  rintro e w3 ⟨G, vs, rfl, hR, hb3⟩
  unfold Ringy.refV
  have hb23 := hb2.trans (hb3.mono hb2.size)
  have hr3 := hr1.below hb23 hr1.lt
  have hd3 : Dt w3 (Tv.new n seed) ⟨R, c, D, Gs, G, vs⟩ := ⟨hS.below hb3 (Nat.le_refl _), ⟨hR.blk, hR.row, fun h => h, fun _ _ _ _ h => h⟩⟩
  have hnew : ∀ q, (⟨R, c, D, Gs, G, vs⟩ : Ad).has q → w.heap.size < q := fun q hq => by
    have hz := HZ.out
    have hz2 := hb2.size
    rcases hq with (e | e | ⟨i, hi, e⟩) | (e | ⟨i, hi, hg⟩)
    · have e : q = R := e; have := hA.hR; omega
    · have e : q = D := e; have := hA.hD; omega
    · have e : q = Gs i := e; have := hA.hG i hi; omega
    · have e : q = G := e; have := Nat.le_of_not_lt hR.noG; omega
    · have := Nat.le_of_not_lt (hR.noR i q hi hg); omega
  have HB := Lib.hid (hb1.trans (hb23.mono hb1.size))
  clear hb1 hb2 hb3 hb23 hr1 hS hA hR hwi hs hN
  have z0 := hr3.cell 0
  have f0 := hr3.free 0
  have z1 := hr3.cell 1
  have f1 := hr3.free 1
  have z2 := hr3.cell 2
  have f2 := hr3.free 2
  have z3 := hr3.cell 3
  have f3 := hr3.free 3
  have z4 := hr3.cell 4
  have f4 := hr3.free 4
  have z5 := hr3.cell 5
  have f5 := hr3.free 5
  have z6 := hr3.cell 6
  have f6 := hr3.free 6
  have z7 := hr3.cell 7
  have f7 := hr3.free 7
  simp only [List.getElem?_toArray, List.getElem?_cons_zero, List.getElem?_cons_succ] at z0 z1 z2 z3 z4 z5 z6 z7
  go_wp2_with fail
  have hB := blk8 hr3 (.int .i64 (n : Int)) (.int .i64 (wideOf n : Int)) (.int .u64 (seed : Int)) (.slice (some ⟨R, 0, none⟩) 4 c) (.slice (some ⟨D, 0, none⟩) (wideOf n) (wideOf n)) (.int .i64 0) (.slice (some ⟨G, 0, none⟩) 3 3) (.int .i64 ((n : Int) + 1))
  refine bodyPost_ret (results_cell_row rfl _ _ w.heap.size 36 _ _ _ rfl hB Tryz.underlying36 rfl (by kernel_rfl)) rfl ⟨⟨R, c, D, Gs, G, vs⟩, rfl, hd3.stay rfl (by simp only [set_size]; exact Nat.le_refl _) (fun q hq => far8 _ (by have := hnew q hq; omega) _ _ _ _ _ _ _ _), hnew, ⟨by simp only [set_os]; exact HB.out.os, by simp only [set_tape]; exact HB.out.tape, by simp only [set_out]; exact HB.out.output, by simp only [set_size]; exact HB.out.size, fun q hq => (far8 _ (by omega) _ _ _ _ _ _ _ _).trans (HB.out.block q hq)⟩⟩
end
end Go.Proofs.YtgfpedcdclgmiaaGreat.Tinyy

namespace Go.Proofs.YtgfpedcdclgmiaaGreat.Tinyy
open Go.ChangeShapes Go.WideShapes Go.ChangeAt Go.RowKit Go.Shelf
open Wirey (Blk Row str str_size str_list str_cat Kp enc)
open Ringy Go.ChangeMaps Go.Maps
open Sketchy (Sk ksOf ksOf_lt Six)

section
variable {w x y : World} {v v' v'' : Tv} {a a' a'' : Ad} {k : Key} {j K g : Nat}
/-- The order in which keys go. -/
def ord (t : Nat) : Nat := if t = 0 then 1 else if t = 1 then 0 else 2
theorem ord_lt (t : Nat) : ord t < 3 := by unfold ord; split; omega; split <;> omega
theorem goes_some (h : ∀ t, t < j → v.last (ord t) = none) (hj : j < 3) (e : v.last (ord j) = some k) : v.goes = some k := by
  unfold Tv.goes Tv.first
  rcases (by omega : j = 0 ∨ j = 1 ∨ j = 2) with rfl | rfl | rfl
  · have e : v.last 1 = some k := e
    rw [e]
  · have h0 : v.last 1 = none := h 0 (by omega)
    have e : v.last 0 = some k := e
    rw [h0]
    unfold Tv.first
    rw [e]
  · have h0 : v.last 1 = none := h 0 (by omega)
    have h1 : v.last 0 = none := h 1 (by omega)
    have e : v.last 2 = some k := e
    rw [h0]
    unfold Tv.first
    rw [h1]
    unfold Tv.first
    rw [e]
theorem goes_none (h : ∀ t, t < 3 → v.last (ord t) = none) : v.goes = none := by
  have h0 : v.last 1 = none := h 0 (by omega)
  have h1 : v.last 0 = none := h 1 (by omega)
  have h2 : v.last 2 = none := h 2 (by omega)
  unfold Tv.goes Tv.first
  rw [h0]
  unfold Tv.first
  rw [h1]
  unfold Tv.first
  rw [h2]
  rfl
theorem Tv.evict_some (h : v.goes = some k) : v.evict = v.dr k := by unfold Tv.evict; rw [h]
theorem Tv.evict_none (h : v.goes = none) : v.evict = v := by unfold Tv.evict; rw [h]
/-- What stands while it is asked who goes. -/
structure Ev (w : World) (a : Ad) (v : Tv) (g : Nat) (x : World) : Prop where
  wk : Wk w 2 a v a x
  r : Blk x (w.heap.size + 1) 36 #[.int .i64 0, .int .i64 0, .int .u64 0, .slice none 0 0, .slice none 0 0, .int .i64 0, .slice none 0 0, .int .i64 0]
  o : Blk x g 3 #[.int .i64 1, .int .i64 0, .int .i64 2]
theorem Ev.onto (h : Ev w a v g x) (hb : Below x.heap.size x y) : Ev w a v g y := ⟨h.wk.onto hb, h.r.below hb h.r.lt, h.o.below hb h.o.lt⟩
theorem Ev.drewN (h : Ev w a v g x) (n : Nat) : Ev w a v g (x.drewN n) := h.onto ⟨rfl, rfl, rfl, Nat.le_refl _, fun _ _ => rfl⟩
theorem Ev.all (h : Ev w a v g x) (hj : j < 3) : x.cell? ⟨w.heap.size, 6, none⟩ = some (.slice (some ⟨a.G, 0, none⟩) 3 3) ∧ x.cell? ⟨w.heap.size, 7, none⟩ = some (.int .i64 (v.pl : Int)) ∧ x.cell? ⟨g, j, none⟩ = some (.int .i64 (ord j : Int)) ∧ Ev w a v g x := by
  refine ⟨h.wk.box.cell 6, h.wk.box.cell 7, ?_, h⟩
  rcases (by omega : j = 0 ∨ j = 1 ∨ j = 2) with rfl | rfl | rfl
  · exact h.o.cell 0
  · exact h.o.cell 1
  · exact h.o.cell 2
theorem Ev.all3 {o : Nat} (ho : ord j = o) (hj : j < 3) (h : Ev w a v g x) : x.cell? ⟨w.heap.size, 6, none⟩ = some (.slice (some ⟨a.G, 0, none⟩) 3 3) ∧ x.cell? ⟨w.heap.size, 7, none⟩ = some (.int .i64 (v.pl : Int)) ∧ x.cell? ⟨g, j, none⟩ = some (.int .i64 (o : Int)) ∧ Ev w a v g x := by subst ho; exact h.all hj
theorem ev_back (hok : v.Fine) (i : Nat) (hi : i < 3) (h : Ev w a v g x) :
    Calls Tryz.prog 63 #[.agg #[.slice (some ⟨a.G, 0, none⟩) 3 3, .int .i64 (v.pl : Int)], .int .i64 (i : Int)] x fun e y => e = .returned (.tuple #[.string (str ((v.last i).getD [])), .bool (v.last i).isSome]) ∧ Ev w a v g y :=
  (d_back hok hi x h.wk.d).mono fun _ _ ⟨p, q⟩ => ⟨p, h.onto q⟩
set_option maxHeartbeats 4000000 in
set_option maxRecDepth 100000 in
theorem revict_c (hok : v.Fine) (w : World) (h : Dt w v a) :
    Calls Tryz.prog 30 #[.agg #[.int .i64 (v.most : Int), .int .i64 (v.sk.wide : Int), .int .u64 (v.sk.seed : Int), .slice (some ⟨a.R, 0, none⟩) 4 a.c, .slice (some ⟨a.D, 0, none⟩) v.sk.wide v.sk.wide, .int .i64 (v.sk.added : Int), .slice (some ⟨a.G, 0, none⟩) 3 3, .int .i64 (v.pl : Int)]] w fun e w' => ∃ a', e = .returned (.tuple #[.agg #[.int .i64 (v.evict.most : Int), .int .i64 (v.evict.sk.wide : Int), .int .u64 (v.evict.sk.seed : Int), .slice (some ⟨a'.R, 0, none⟩) 4 a'.c, .slice (some ⟨a'.D, 0, none⟩) v.evict.sk.wide v.evict.sk.wide, .int .i64 (v.evict.sk.added : Int), .slice (some ⟨a'.G, 0, none⟩) 3 3, .int .i64 (v.evict.pl : Int)], .string (str (v.goes.getD [])), .bool v.goes.isSome]) ∧ Goes w a v.evict a' w' := by
  have h1 := Wk.new2 h hok.fit.n
  have hr1 := Blk.new (w.alloc (.cells #[.int .i64 (v.most : Int), .int .i64 (v.sk.wide : Int), .int .u64 (v.sk.seed : Int), .slice (some ⟨a.R, 0, none⟩) 4 a.c, .slice (some ⟨a.D, 0, none⟩) v.sk.wide v.sk.wide, .int .i64 (v.sk.added : Int), .slice (some ⟨a.G, 0, none⟩) 3 3, .int .i64 (v.pl : Int)] 36)) 36 #[.int .i64 0, .int .i64 0, .int .u64 0, .slice none 0 0, .slice none 0 0, .int .i64 0, .slice none 0 0, .int .i64 0]
  rw [show (w.alloc (.cells #[.int .i64 (v.most : Int), .int .i64 (v.sk.wide : Int), .int .u64 (v.sk.seed : Int), .slice (some ⟨a.R, 0, none⟩) 4 a.c, .slice (some ⟨a.D, 0, none⟩) v.sk.wide v.sk.wide, .int .i64 (v.sk.added : Int), .slice (some ⟨a.G, 0, none⟩) 3 3, .int .i64 (v.pl : Int)] 36)).heap.size = w.heap.size + 1 by simp] at hr1
  have hn3 := Lib.hid hok.fit.n
  clear h
  go_enter Tryz.func30, Tryz.ntmps30
  go_upto_region 1 with (fail)
  generalize (w.alloc (.cells #[.int .i64 (v.most : Int), .int .i64 (v.sk.wide : Int), .int .u64 (v.sk.seed : Int), .slice (some ⟨a.R, 0, none⟩) 4 a.c, .slice (some ⟨a.D, 0, none⟩) v.sk.wide v.sk.wide, .int .i64 (v.sk.added : Int), .slice (some ⟨a.G, 0, none⟩) 3 3, .int .i64 (v.pl : Int)] 36)).alloc (.cells #[.int .i64 0, .int .i64 0, .int .u64 0, .slice none 0 0, .slice none 0 0, .int .i64 0, .slice none 0 0, .int .i64 0] 36) = w1 at *
  have hE : Ev w a v w1.heap.size (w1.alloc (.cells #[.int .i64 1, .int .i64 0, .int .i64 2] 3)) := ⟨h1.onto ((Below.refl _ w1).alloc (Nat.le_refl _) _), hr1.alloc _, Blk.new w1 _ _⟩
  clear h1 hr1
  go_upto_region 2 with (fail)
  generalize w1.alloc (.cells #[.int .i64 1, .int .i64 0, .int .i64 2] 3) = w2 at *
  generalize w1.heap.size = g at *
  go_wp2_with fail
  go_loopw [6] (fun i wr => ∃ j : Nat, j ≤ 3 ∧ i = .int .i64 j ∧ Ev w a v g wr ∧ ∀ t, t < j → v.last (ord t) = none) (fun i _ => 3 - (intOf i).toNat)
  case atStart => exact ⟨0, by omega, rfl, hE, fun t ht => by omega⟩
  case round =>
    obtain ⟨j, hj, rfl, hS, hno⟩ := hrel
    clear hE
    by_cases hlt : j < 3
    · have d1 : decide ((j : Int) < 3) = true := decide_eq_true (by omega)
      have q1 : (0 : Int) ≤ (j : Int) := by omega
      have q2 : (j : Int) < 3 := by omega
      have hbk := fun (W : World) (hW : Ev w a v g W) => ev_back hok (ord j) (ord_lt j) hW
      have hd := (hS.drewN 1).all hlt
      have hol := ord_lt j
      have HL := Lib.hid hlt
      cases e : v.last (ord j) with
      | none =>
        simp only [e, Option.getD_none, Option.isSome_none] at hbk
        have hno2 : ∀ t, t < j + 1 → v.last (ord t) = none := fun t ht => by
          by_cases ht2 : t = j
          · rw [ht2]; exact e
          · exact hno t (by omega)
        have HNO := Lib.hid hno2
        clear e hno hno2
        have HO := Lib.hid (show ord j = ord j from rfl)
        generalize hoo : ord j = o at hd hbk hol HO
        replace HO := Lib.hid hoo
        clear hoo
        go_upto_region 5 with (fail)
        go_region_held3 (fun W => W.cell? ⟨w.heap.size, 6, none⟩ = some (.slice (some ⟨a.G, 0, none⟩) 3 3) ∧ W.cell? ⟨w.heap.size, 7, none⟩ = some (.int .i64 (v.pl : Int)) ∧ W.cell? ⟨g, j, none⟩ = some (.int .i64 (o : Int)) ∧ Ev w a v g W)
          (first | assumption | exact hd | exact Ev.all3 HO.out HL.out (by assumption))
          (first | (go_at_call 63; (with_reducible refine Calls.mono (hbk _ (by assumption : _ ∧ _ ∧ _ ∧ _).2.2.2) ?_); rintro e wv ⟨rfl, hwv⟩) | fail)
        have hZ := (by assumption : _ ∧ _ ∧ _ ∧ Ev w a v g _).2.2.2
        clear hd hS hbk
        go_wp2_with fail
        go_roundw
        case rel => exact ⟨j + 1, by omega, by simp, hZ, HNO.out⟩
        case measure => simp [intOf]; omega
      | some y =>
        simp only [e, Option.getD_some, Option.isSome_some] at hbk
        have hgo := goes_some hno hlt e
        have hev := Tv.evict_some hgo
        have hdr := fun (W : World) (hW : Dt W v a) => d_drop hok y W hW
        have HN2 := Lib.hid (show (v.dr y).rg.n = 3 from hok.fit.n)
        have HM2 := Lib.hid (show (v.dr y).most = v.most from rfl)
        have HS2 := Lib.hid (show (v.dr y).sk = v.sk from rfl)
        generalize v.dr y = v2 at *
        have HGO := Lib.hid hgo
        have HEV := Lib.hid hev
        clear e hno hgo hev
        have HO := Lib.hid (show ord j = ord j from rfl)
        generalize hoo : ord j = o at hd hbk hol HO
        replace HO := Lib.hid hoo
        clear hoo
        go_upto_region 5 with (fail)
        go_region_held3 (fun W => W.cell? ⟨w.heap.size, 6, none⟩ = some (.slice (some ⟨a.G, 0, none⟩) 3 3) ∧ W.cell? ⟨w.heap.size, 7, none⟩ = some (.int .i64 (v.pl : Int)) ∧ W.cell? ⟨g, j, none⟩ = some (.int .i64 (o : Int)) ∧ Ev w a v g W)
          (first | assumption | exact hd | exact Ev.all3 HO.out HL.out (by assumption))
          (first | (go_at_call 63; (with_reducible refine Calls.mono (hbk _ (by assumption : _ ∧ _ ∧ _ ∧ _).2.2.2) ?_); rintro e wv ⟨rfl, hwv⟩) | fail)
        have hZ := (by assumption : _ ∧ _ ∧ _ ∧ Ev w a v g _).2.2.2
        clear hd hS hbk
        have h5 := hZ.wk
        have hr5 := hZ.r
        clear hZ
        obtain ⟨x0, x1, x2, x3, x4, x5, x6, x7⟩ := h5.all
        go_wp2_with fail
        refine (hdr _ h5.d).mono ?_
        rintro e w6 ⟨a2, rfl, e1, e2, e3, hg⟩
        clear x0 x1 x2 x3 x4 x5 x6 x7
        have hbx := h5.box.below hg.below h5.box.lt
        have y6 := hbx.cell 6
        have f6 := hbx.free 6
        have y7 := hbx.cell 7
        have f7 := hbx.free 7
        simp only [List.getElem?_toArray, List.getElem?_cons_zero, List.getElem?_cons_succ] at y6 y7
        go_upto_region 8 with (fail)
        clear y6 f6 y7 f7
        have h7 := h5.lists hg HN2.out HM2.out HS2.out ⟨e1, e2, e3⟩
        rw [pl_of HM2.out] at h7
        have hr7 : Blk ((w6.setCell ⟨w.heap.size, 6, none⟩ (.slice (some ⟨a2.G, 0, none⟩) 3 3)).setCell ⟨w.heap.size, 7, none⟩ (.int .i64 (v.pl : Int))) (w.heap.size + 1) 36 #[.int .i64 0, .int .i64 0, .int .u64 0, .slice none 0 0, .slice none 0 0, .int .i64 0, .slice none 0 0, .int .i64 0] := (far2 _ (by omega) _ _).trans (hr5.below hg.below hr5.lt)
        clear hr5
        generalize ((w6.setCell ⟨w.heap.size, 6, none⟩ (.slice (some ⟨a2.G, 0, none⟩) 3 3)).setCell ⟨w.heap.size, 7, none⟩ (.int .i64 (v.pl : Int))) = w7 at *
        clear h5 hbx hg e1 e2 e3
        obtain ⟨x0, x1, x2, x3, x4, x5, x6, x7⟩ := h7.all
        have z0 := hr7.cell 0
        have f0 := hr7.free 0
        have z1 := hr7.cell 1
        have f1 := hr7.free 1
        have z2 := hr7.cell 2
        have f2 := hr7.free 2
        have z3 := hr7.cell 3
        have f3 := hr7.free 3
        have z4 := hr7.cell 4
        have f4 := hr7.free 4
        have z5 := hr7.cell 5
        have f5 := hr7.free 5
        have z6 := hr7.cell 6
        have f6 := hr7.free 6
        have z7 := hr7.cell 7
        have f7 := hr7.free 7
        simp only [List.getElem?_toArray, List.getElem?_cons_zero, List.getElem?_cons_succ] at z0 z1 z2 z3 z4 z5 z6 z7
        go_wp2_with fail
        obtain ⟨hG, hB⟩ := res_goes h7 (Goes.refl h7.d) HN2.out (b := w.heap.size + 1) (by omega) (by omega) hr7
        refine bodyPost_ret (results_row_tmp2 rfl _ _ (w.heap.size + 1) rfl (run_loadVar_row _ _ _ _ _ _ _ hB Tryz.underlying36 rfl (by kernel_rfl))) rfl ⟨a2, by rw [HEV.out, HGO.out]; rfl, by rw [HEV.out]; exact hG⟩
    · obtain rfl : j = 3 := by omega
      have hgo := goes_none hno
      have hev := Tv.evict_none hgo
      have HGO := Lib.hid hgo
      have HEV := Lib.hid hev
      have d1 : decide ((3 : Int) < 3) = false := by decide
      have h5 := hS.wk
      have hr5 := hS.r
      clear hS hno hgo hev
      obtain ⟨x0, x1, x2, x3, x4, x5, x6, x7⟩ := h5.all
      have z0 := hr5.cell 0
      have f0 := hr5.free 0
      have z1 := hr5.cell 1
      have f1 := hr5.free 1
      have z2 := hr5.cell 2
      have f2 := hr5.free 2
      have z3 := hr5.cell 3
      have f3 := hr5.free 3
      have z4 := hr5.cell 4
      have f4 := hr5.free 4
      have z5 := hr5.cell 5
      have f5 := hr5.free 5
      have z6 := hr5.cell 6
      have f6 := hr5.free 6
      have z7 := hr5.cell 7
      have f7 := hr5.free 7
      simp only [List.getElem?_toArray, List.getElem?_cons_zero, List.getElem?_cons_succ] at z0 z1 z2 z3 z4 z5 z6 z7
      go_wp2_with fail
      obtain ⟨hG, hB⟩ := res_goes h5 (Goes.refl h5.d) hn3.out (b := w.heap.size + 1) (by omega) (by omega) hr5
      refine bodyPost_ret (results_row_tmp2 rfl _ _ (w.heap.size + 1) rfl (run_loadVar_row _ _ _ _ _ _ _ hB Tryz.underlying36 rfl (by kernel_rfl))) rfl ⟨a, by rw [HEV.out, HGO.out]; rfl, by rw [HEV.out]; exact hG⟩
/-- Its bytes. -/
def Tv.put (v : Tv) : List UInt8 := enc v.most ++ (v.sk.put ++ v.rg.put)
theorem skput_len {s : Sk} (h : s.Pre) : s.put.length ≤ 30000 := by
  have h1 := (Wirey.enc_len (n := s.wide) (by have := h.w2; omega)).2
  have h2 := (Wirey.enc_len (n := s.seed) h.seed).2
  have h3 := (Wirey.enc_len (n := s.added) (by have := h.w2; have := h.added; omega)).2
  have h4 := Sketchy.rowsTo_len h 4 (by omega)
  have h5 := h.w2
  rw [Sketchy.put_eq]
  show (enc s.wide ++ enc s.seed ++ enc s.added ++ Sketchy.rowsTo s 4 ++ s.door.map Sketchy.flagB).length ≤ _
  simp only [List.length_append, List.length_map, h4, h.dlen]
  omega
set_option maxHeartbeats 4000000 in
set_option maxRecDepth 100000 in
theorem rput_t (hok : v.Fine) (w : World) (h : Dt w v a) :
    Calls Tryz.prog 15 #[.agg #[.int .i64 (v.most : Int), .int .i64 (v.sk.wide : Int), .int .u64 (v.sk.seed : Int), .slice (some ⟨a.R, 0, none⟩) 4 a.c, .slice (some ⟨a.D, 0, none⟩) v.sk.wide v.sk.wide, .int .i64 (v.sk.added : Int), .slice (some ⟨a.G, 0, none⟩) 3 3, .int .i64 (v.pl : Int)]] w fun e w' => e = .returned (.string (str v.put)) ∧ Below w.heap.size w w' := by
  have h1 := Wk.new1 h hok.fit.n
  have hm2 := hok.fit.m2
  have hcat := str_cat
  have hsz := str_size
  have hs := hok.fit.wf.small
  have l1 := enc_ten (n := v.most) (by omega)
  have l2 := skput_len hok.fit.sw.pre
  have l3 := hs.putTo v.rg.n (Nat.le_refl _)
  rw [hok.fit.n] at l3
  have l3' : v.rg.put.length ≤ 20 + 400000 * 3 := by unfold Rg.put; rw [hok.fit.n]; exact l3
  have hv1 : ¬ (9223372036854775807 < (enc v.most).length + v.sk.put.length) := by omega
  have hv2 : ¬ (9223372036854775807 < (enc v.most ++ v.sk.put).length + v.rg.put.length) := by rw [List.length_append]; omega
  have hv3 : ¬ (9223372036854775807 < (enc v.most).length + v.sk.put.length + v.rg.put.length) := by omega
  have hpu : v.put = enc v.most ++ (v.sk.put ++ v.rg.put) := rfl
  have HPU := Lib.hid hpu
  clear l1 l2 l3 l3' hpu
  have fm : ∀ W, Wk w 1 a v a W → Calls Tryz.prog 48 #[.int .u64 (IntKind.u64.wrap (v.most : Int))] W fun e W' => e = .returned (.string (str (enc v.most))) ∧ Wk w 1 a v a W' := fun W hW => (Ringy.refnumW (n := v.most) (by omega) W).mono fun _ _ ⟨p, q⟩ => ⟨p, hW.onto q⟩
  have fs : ∀ W, Wk w 1 a v a W → Calls Tryz.prog 49 #[.agg #[.int .i64 (v.sk.wide : Int), .int .u64 (v.sk.seed : Int), .slice (some ⟨a.R, 0, none⟩) 4 a.c, .slice (some ⟨a.D, 0, none⟩) v.sk.wide v.sk.wide, .int .i64 (v.sk.added : Int)]] W fun e W' => e = .returned (.string (str v.sk.put)) ∧ Wk w 1 a v a W' := fun W hW => (Sketchy.rput_c (cap := a.c) hok.fit.sw.pre W hW.d.s).mono fun _ _ ⟨p, q⟩ => ⟨p, hW.onto q⟩
  have fp : ∀ W, Wk w 1 a v a W → Calls Tryz.prog 50 #[.agg #[.slice (some ⟨a.G, 0, none⟩) 3 3, .int .i64 (v.pl : Int)]] W fun e W' => e = .returned (.string (str v.rg.put)) ∧ Wk w 1 a v a W' := fun W hW => by
    have hc := Ringy.rput_c hs W hW.d.r
    rw [hok.val] at hc
    exact hc.mono fun _ _ ⟨p, q⟩ => ⟨p, hW.onto q⟩
  clear hok h
  go_enter Tryz.func15, Tryz.ntmps15
  go_upto_region 1 with (fail)
  generalize w.alloc (.cells #[.int .i64 (v.most : Int), .int .i64 (v.sk.wide : Int), .int .u64 (v.sk.seed : Int), .slice (some ⟨a.R, 0, none⟩) 4 a.c, .slice (some ⟨a.D, 0, none⟩) v.sk.wide v.sk.wide, .int .i64 (v.sk.added : Int), .slice (some ⟨a.G, 0, none⟩) 3 3, .int .i64 (v.pl : Int)] 36) = w1 at *
  have hd : (w1.drew.cell? ⟨w.heap.size, 0, none⟩ = some (.int .i64 (v.most : Int)) ∧ w1.drew.cell? ⟨w.heap.size, 1, none⟩ = some (.int .i64 (v.sk.wide : Int)) ∧ w1.drew.cell? ⟨w.heap.size, 2, none⟩ = some (.int .u64 (v.sk.seed : Int)) ∧ w1.drew.cell? ⟨w.heap.size, 3, none⟩ = some (.slice (some ⟨a.R, 0, none⟩) 4 a.c) ∧ w1.drew.cell? ⟨w.heap.size, 4, none⟩ = some (.slice (some ⟨a.D, 0, none⟩) v.sk.wide v.sk.wide) ∧ w1.drew.cell? ⟨w.heap.size, 5, none⟩ = some (.int .i64 (v.sk.added : Int)) ∧ w1.drew.cell? ⟨w.heap.size, 6, none⟩ = some (.slice (some ⟨a.G, 0, none⟩) 3 3) ∧ w1.drew.cell? ⟨w.heap.size, 7, none⟩ = some (.int .i64 (v.pl : Int))) ∧ Wk w 1 a v a w1.drew := ⟨(h1.drewN 1).all, h1.drewN 1⟩
  go_region_held3 (fun W => (W.cell? ⟨w.heap.size, 0, none⟩ = some (.int .i64 (v.most : Int)) ∧ W.cell? ⟨w.heap.size, 1, none⟩ = some (.int .i64 (v.sk.wide : Int)) ∧ W.cell? ⟨w.heap.size, 2, none⟩ = some (.int .u64 (v.sk.seed : Int)) ∧ W.cell? ⟨w.heap.size, 3, none⟩ = some (.slice (some ⟨a.R, 0, none⟩) 4 a.c) ∧ W.cell? ⟨w.heap.size, 4, none⟩ = some (.slice (some ⟨a.D, 0, none⟩) v.sk.wide v.sk.wide) ∧ W.cell? ⟨w.heap.size, 5, none⟩ = some (.int .i64 (v.sk.added : Int)) ∧ W.cell? ⟨w.heap.size, 6, none⟩ = some (.slice (some ⟨a.G, 0, none⟩) 3 3) ∧ W.cell? ⟨w.heap.size, 7, none⟩ = some (.int .i64 (v.pl : Int))) ∧ Wk w 1 a v a W)
    (first | assumption | exact hd | exact ⟨Wk.all (by assumption), by assumption⟩)
    (first | (go_at_call 48; (with_reducible refine Calls.mono (fm _ (by assumption : (_ ∧ _ ∧ _ ∧ _ ∧ _ ∧ _ ∧ _ ∧ _) ∧ _).2) ?_); rintro e wv ⟨rfl, hwv⟩) | (go_at_call 49; (with_reducible refine Calls.mono (fs _ (by assumption : (_ ∧ _ ∧ _ ∧ _ ∧ _ ∧ _ ∧ _ ∧ _) ∧ _).2) ?_); rintro e wv ⟨rfl, hwv⟩) | (go_at_call 50; (with_reducible refine Calls.mono (fp _ (by assumption : (_ ∧ _ ∧ _ ∧ _ ∧ _ ∧ _ ∧ _ ∧ _) ∧ _).2) ?_); rintro e wv ⟨rfl, hwv⟩) | fail)
  have hZ := (by assumption : (_ ∧ _ ∧ _ ∧ _ ∧ _ ∧ _ ∧ _ ∧ _) ∧ Wk w 1 a v a _).2
  clear hd
  go_wp2_with fail
  go_ret
  exact ⟨by rw [HPU.out]; rfl, hZ.below⟩
end
end Go.Proofs.YtgfpedcdclgmiaaGreat.Tinyy

namespace Go.Proofs.YtgfpedcdclgmiaaGreat.Tinyy
open Go.ChangeShapes Go.WideShapes Go.ChangeAt Go.RowKit Go.Shelf
open Wirey (Blk Row str str_size str_list str_cat Kp enc)
open Ringy Go.ChangeMaps Go.Maps
open Sketchy (Sk ksOf ksOf_lt Six)

section
variable {w x y : World} {v v' v'' : Tv} {a a' a'' : Ad} {k one : Key} {j K g : Nat}
/-- A method's copy, and the block of its result. -/
structure Wr (w : World) (a : Ad) (v' : Tv) (a' : Ad) (x : World) : Prop where
  k : Wk w 2 a v' a' x
  r : Blk x (w.heap.size + 1) 36 #[.int .i64 0, .int .i64 0, .int .u64 0, .slice none 0 0, .slice none 0 0, .int .i64 0, .slice none 0 0, .int .i64 0]
theorem Wr.onto (h : Wr w a v' a' x) (hb : Below x.heap.size x y) : Wr w a v' a' y := ⟨h.k.onto hb, h.r.below hb h.r.lt⟩
theorem Wr.drewN (h : Wr w a v' a' x) (n : Nat) : Wr w a v' a' (x.drewN n) := h.onto ⟨rfl, rfl, rfl, Nat.le_refl _, fun _ _ => rfl⟩
theorem Wr.all (h : Wr w a v' a' x) : (x.cell? ⟨w.heap.size, 0, none⟩ = some (.int .i64 (v'.most : Int)) ∧ x.cell? ⟨w.heap.size, 1, none⟩ = some (.int .i64 (v'.sk.wide : Int)) ∧ x.cell? ⟨w.heap.size, 2, none⟩ = some (.int .u64 (v'.sk.seed : Int)) ∧ x.cell? ⟨w.heap.size, 3, none⟩ = some (.slice (some ⟨a'.R, 0, none⟩) 4 a'.c) ∧ x.cell? ⟨w.heap.size, 4, none⟩ = some (.slice (some ⟨a'.D, 0, none⟩) v'.sk.wide v'.sk.wide) ∧ x.cell? ⟨w.heap.size, 5, none⟩ = some (.int .i64 (v'.sk.added : Int)) ∧ x.cell? ⟨w.heap.size, 6, none⟩ = some (.slice (some ⟨a'.G, 0, none⟩) 3 3) ∧ x.cell? ⟨w.heap.size, 7, none⟩ = some (.int .i64 (v'.pl : Int))) ∧ Wr w a v' a' x := ⟨h.k.all, h⟩
theorem wr_len (hok : v'.Fine) (h : Wr w a v' a' x) :
    Calls Tryz.prog 38 #[.agg #[.int .i64 (v'.most : Int), .int .i64 (v'.sk.wide : Int), .int .u64 (v'.sk.seed : Int), .slice (some ⟨a'.R, 0, none⟩) 4 a'.c, .slice (some ⟨a'.D, 0, none⟩) v'.sk.wide v'.sk.wide, .int .i64 (v'.sk.added : Int), .slice (some ⟨a'.G, 0, none⟩) 3 3, .int .i64 (v'.pl : Int)]] x fun e y => e = .returned (.int .i64 (v'.kept : Int)) ∧ Wr w a v' a' y := (rlen_c hok x h.k.d).mono fun _ _ ⟨p, q⟩ => ⟨p, h.onto q⟩
theorem wr_seen (hok : v'.Fine) (hk : one.length ≤ 64) (h : Wr w a v' a' x) :
    Calls Tryz.prog 13 #[.agg #[.int .i64 (v'.sk.wide : Int), .int .u64 (v'.sk.seed : Int), .slice (some ⟨a'.R, 0, none⟩) 4 a'.c, .slice (some ⟨a'.D, 0, none⟩) v'.sk.wide v'.sk.wide, .int .i64 (v'.sk.added : Int)], .string (str one)] x fun e y => e = .returned (.int .i64 (v'.seen one : Int)) ∧ Wr w a v' a' y := (d_seen hok (by omega) x h.k.d).mono fun _ _ ⟨p, q⟩ => ⟨p, h.onto q⟩
/-- Keys that were told lie behind all. -/
def Told (w : World) (val : Value) (l : List Key) (x : World) : Prop := x.ownsRow w.heap.size 9 1 val l.length (strsV l)
theorem Told.nil (w x : World) : Told w (.slice none 0 0) [] x := World.ownsRow_nil _ _ _ _
theorem Told.lit (hB : w.heap.size ≤ x.heap.size) (k : Key) : Told w (.slice (some ⟨x.heap.size, 0, none⟩) 1 1) [k] (x.alloc (.cells #[.string (str k)] 9)) :=
  World.ownsRow_lit (size := 1) (e := 9) (base := w.heap.size) x #[.string (str k)] 1 hB (by unfold maxLen; omega) rfl
theorem Told.far {val : Value} {l : List Key} (h : Told w val l x) (hb : ∀ q, w.heap.size + 2 ≤ q → y.heap[q]? = x.heap[q]?) (hq : ∀ q, val.ownBlock = some q → w.heap.size + 2 ≤ q) : Told w val l y :=
  ownsRow_stay h fun b e => hb b (hq b e)
set_option maxHeartbeats 8000000 in
set_option maxRecDepth 100000 in
theorem rins_long (hok : v.Fine) (hl : 64 < k.length) (hk : k.length ≤ maxLen) (w : World) (h : Dt w v a) :
    Calls Tryz.prog 35 #[.agg #[.int .i64 (v.most : Int), .int .i64 (v.sk.wide : Int), .int .u64 (v.sk.seed : Int), .slice (some ⟨a.R, 0, none⟩) 4 a.c, .slice (some ⟨a.D, 0, none⟩) v.sk.wide v.sk.wide, .int .i64 (v.sk.added : Int), .slice (some ⟨a.G, 0, none⟩) 3 3, .int .i64 (v.pl : Int)], .string (str k)] w fun e w' => ∃ a' val, e = .returned (.tuple #[.agg #[.int .i64 (v.most : Int), .int .i64 (v.sk.wide : Int), .int .u64 (v.sk.seed : Int), .slice (some ⟨a'.R, 0, none⟩) 4 a'.c, .slice (some ⟨a'.D, 0, none⟩) v.sk.wide v.sk.wide, .int .i64 (v.sk.added : Int), .slice (some ⟨a'.G, 0, none⟩) 3 3, .int .i64 (v.pl : Int)], val]) ∧ Goes w a v a' w' ∧ Told w val [] w' := by
  have h1 := Wk.new2 h hok.fit.n
  have hr1 := Blk.new (w.alloc (.cells #[.int .i64 (v.most : Int), .int .i64 (v.sk.wide : Int), .int .u64 (v.sk.seed : Int), .slice (some ⟨a.R, 0, none⟩) 4 a.c, .slice (some ⟨a.D, 0, none⟩) v.sk.wide v.sk.wide, .int .i64 (v.sk.added : Int), .slice (some ⟨a.G, 0, none⟩) 3 3, .int .i64 (v.pl : Int)] 36)) 36 #[.int .i64 0, .int .i64 0, .int .u64 0, .slice none 0 0, .slice none 0 0, .int .i64 0, .slice none 0 0, .int .i64 0]
  rw [show (w.alloc (.cells #[.int .i64 (v.most : Int), .int .i64 (v.sk.wide : Int), .int .u64 (v.sk.seed : Int), .slice (some ⟨a.R, 0, none⟩) 4 a.c, .slice (some ⟨a.D, 0, none⟩) v.sk.wide v.sk.wide, .int .i64 (v.sk.added : Int), .slice (some ⟨a.G, 0, none⟩) 3 3, .int .i64 (v.pl : Int)] 36)).heap.size = w.heap.size + 1 by simp] at hr1
  have hsz := str_size k
  unfold maxLen at hk
  have d1 : decide ((64 : Int) < (k.length : Int)) = true := decide_eq_true (by omega)
  have HN := Lib.hid hok.fit.n
  clear hok h
  go_enter Tryz.func35, Tryz.ntmps35
  go_upto_region 1 with (fail)
  generalize (w.alloc (.cells #[.int .i64 (v.most : Int), .int .i64 (v.sk.wide : Int), .int .u64 (v.sk.seed : Int), .slice (some ⟨a.R, 0, none⟩) 4 a.c, .slice (some ⟨a.D, 0, none⟩) v.sk.wide v.sk.wide, .int .i64 (v.sk.added : Int), .slice (some ⟨a.G, 0, none⟩) 3 3, .int .i64 (v.pl : Int)] 36)).alloc (.cells #[.int .i64 0, .int .i64 0, .int .u64 0, .slice none 0 0, .slice none 0 0, .int .i64 0, .slice none 0 0, .int .i64 0] 36) = w1 at *
  obtain ⟨x0, x1, x2, x3, x4, x5, x6, x7⟩ := h1.all
  have z0 := hr1.cell 0
  have f0 := hr1.free 0
  have z1 := hr1.cell 1
  have f1 := hr1.free 1
  have z2 := hr1.cell 2
  have f2 := hr1.free 2
  have z3 := hr1.cell 3
  have f3 := hr1.free 3
  have z4 := hr1.cell 4
  have f4 := hr1.free 4
  have z5 := hr1.cell 5
  have f5 := hr1.free 5
  have z6 := hr1.cell 6
  have f6 := hr1.free 6
  have z7 := hr1.cell 7
  have f7 := hr1.free 7
  simp only [List.getElem?_toArray, List.getElem?_cons_zero, List.getElem?_cons_succ] at z0 z1 z2 z3 z4 z5 z6 z7
  go_wp2_with fail
  obtain ⟨hG, hB⟩ := res_goes h1 (Goes.refl h1.d) HN.out (b := w.heap.size + 1) (by omega) (by omega) hr1
  refine bodyPost_ret (results_row_tmp rfl _ _ (w.heap.size + 1) rfl (run_loadVar_row _ _ _ _ _ _ _ hB Tryz.underlying36 rfl (by kernel_rfl))) rfl ⟨a, _, rfl, hG, Told.nil _ _⟩
set_option maxHeartbeats 8000000 in
set_option maxRecDepth 100000 in
theorem rins_has (hok : v.Fine) (hOk : v.Ok) (hk : k.length ≤ 64) (hh : v.has k = true) (w : World) (h : Dt w v a) :
    Calls Tryz.prog 35 #[.agg #[.int .i64 (v.most : Int), .int .i64 (v.sk.wide : Int), .int .u64 (v.sk.seed : Int), .slice (some ⟨a.R, 0, none⟩) 4 a.c, .slice (some ⟨a.D, 0, none⟩) v.sk.wide v.sk.wide, .int .i64 (v.sk.added : Int), .slice (some ⟨a.G, 0, none⟩) 3 3, .int .i64 (v.pl : Int)], .string (str k)] w fun e w' => ∃ a' val, e = .returned (.tuple #[.agg #[.int .i64 ((v.touch k).most : Int), .int .i64 ((v.touch k).sk.wide : Int), .int .u64 ((v.touch k).sk.seed : Int), .slice (some ⟨a'.R, 0, none⟩) 4 a'.c, .slice (some ⟨a'.D, 0, none⟩) (v.touch k).sk.wide (v.touch k).sk.wide, .int .i64 ((v.touch k).sk.added : Int), .slice (some ⟨a'.G, 0, none⟩) 3 3, .int .i64 ((v.touch k).pl : Int)], val]) ∧ Goes w a (v.touch k) a' w' ∧ Told w val [] w' := by
  have h1 := Wk.new2 h hok.fit.n
  have hr1 := Blk.new (w.alloc (.cells #[.int .i64 (v.most : Int), .int .i64 (v.sk.wide : Int), .int .u64 (v.sk.seed : Int), .slice (some ⟨a.R, 0, none⟩) 4 a.c, .slice (some ⟨a.D, 0, none⟩) v.sk.wide v.sk.wide, .int .i64 (v.sk.added : Int), .slice (some ⟨a.G, 0, none⟩) 3 3, .int .i64 (v.pl : Int)] 36)) 36 #[.int .i64 0, .int .i64 0, .int .u64 0, .slice none 0 0, .slice none 0 0, .int .i64 0, .slice none 0 0, .int .i64 0]
  rw [show (w.alloc (.cells #[.int .i64 (v.most : Int), .int .i64 (v.sk.wide : Int), .int .u64 (v.sk.seed : Int), .slice (some ⟨a.R, 0, none⟩) 4 a.c, .slice (some ⟨a.D, 0, none⟩) v.sk.wide v.sk.wide, .int .i64 (v.sk.added : Int), .slice (some ⟨a.G, 0, none⟩) 3 3, .int .i64 (v.pl : Int)] 36)).heap.size = w.heap.size + 1 by simp] at hr1
  have hsz := str_size k
  have d1 : decide ((64 : Int) < (k.length : Int)) = false := decide_eq_false (by omega)
  have htc := fun (W : World) (hW : Dt W v a) => rtouch_c (k := k) hok hOk W hW
  rw [hh] at htc
  have HN2 := Lib.hid (Tv.touch_spec hOk k).1.fit.n
  generalize v.touch k = v2 at *
  clear hok hOk h hh
  go_enter Tryz.func35, Tryz.ntmps35
  go_upto_region 1 with (fail)
  generalize (w.alloc (.cells #[.int .i64 (v.most : Int), .int .i64 (v.sk.wide : Int), .int .u64 (v.sk.seed : Int), .slice (some ⟨a.R, 0, none⟩) 4 a.c, .slice (some ⟨a.D, 0, none⟩) v.sk.wide v.sk.wide, .int .i64 (v.sk.added : Int), .slice (some ⟨a.G, 0, none⟩) 3 3, .int .i64 (v.pl : Int)] 36)).alloc (.cells #[.int .i64 0, .int .i64 0, .int .u64 0, .slice none 0 0, .slice none 0 0, .int .i64 0, .slice none 0 0, .int .i64 0] 36) = w1 at *
  obtain ⟨x0, x1, x2, x3, x4, x5, x6, x7⟩ := h1.all
  go_wp2_with fail
  refine (htc _ h1.d).mono ?_
  rintro e w2 ⟨a2, rfl, hg⟩
  clear x0 x1 x2 x3 x4 x5 x6 x7
  have hb2 := (Below.refl _ w2).alloc (Nat.le_refl _) (.cells #[.int .i64 (v2.most : Int), .int .i64 (v2.sk.wide : Int), .int .u64 (v2.sk.seed : Int), .slice (some ⟨a2.R, 0, none⟩) 4 a2.c, .slice (some ⟨a2.D, 0, none⟩) v2.sk.wide v2.sk.wide, .int .i64 (v2.sk.added : Int), .slice (some ⟨a2.G, 0, none⟩) 3 3, .int .i64 (v2.pl : Int)] 36)
  have hg3 := hg.onto hb2
  have hr3 := (hr1.below hg.below hr1.lt).below hb2 (hr1.below hg.below hr1.lt).lt
  have hbx := Blk.new w2 36 #[.int .i64 (v2.most : Int), .int .i64 (v2.sk.wide : Int), .int .u64 (v2.sk.seed : Int), .slice (some ⟨a2.R, 0, none⟩) 4 a2.c, .slice (some ⟨a2.D, 0, none⟩) v2.sk.wide v2.sk.wide, .int .i64 (v2.sk.added : Int), .slice (some ⟨a2.G, 0, none⟩) 3 3, .int .i64 (v2.pl : Int)]
  clear hr1
  have z0 := hr3.cell 0
  have f0 := hr3.free 0
  have z1 := hr3.cell 1
  have f1 := hr3.free 1
  have z2 := hr3.cell 2
  have f2 := hr3.free 2
  have z3 := hr3.cell 3
  have f3 := hr3.free 3
  have z4 := hr3.cell 4
  have f4 := hr3.free 4
  have z5 := hr3.cell 5
  have f5 := hr3.free 5
  have z6 := hr3.cell 6
  have f6 := hr3.free 6
  have z7 := hr3.cell 7
  have f7 := hr3.free 7
  simp only [List.getElem?_toArray, List.getElem?_cons_zero, List.getElem?_cons_succ] at z0 z1 z2 z3 z4 z5 z6 z7
  have y0 := hbx.cell 0
  have y1 := hbx.cell 1
  have y2 := hbx.cell 2
  have y3 := hbx.cell 3
  have y4 := hbx.cell 4
  have y5 := hbx.cell 5
  have y6 := hbx.cell 6
  have y7 := hbx.cell 7
  simp only [List.getElem?_toArray, List.getElem?_cons_zero, List.getElem?_cons_succ] at y0 y1 y2 y3 y4 y5 y6 y7
  go_wp2_with fail
  obtain ⟨hG, hB⟩ := res_goes h1 hg3 HN2.out (b := w.heap.size + 1) (by omega) (by omega) hr3
  refine bodyPost_ret (results_row_tmp rfl _ _ (w.heap.size + 1) rfl (run_loadVar_row _ _ _ _ _ _ _ hB Tryz.underlying36 rfl (by kernel_rfl))) rfl ⟨a2, _, rfl, hG, Told.nil _ _⟩
set_option maxHeartbeats 8000000 in
set_option maxRecDepth 100000 in
theorem rins_new (hok : v.Fine) (hOk : v.Ok) (hk : k.length ≤ 64) (hno : v.has k = false) (w : World) (h : Dt w v a) :
    Calls Tryz.prog 35 #[.agg #[.int .i64 (v.most : Int), .int .i64 (v.sk.wide : Int), .int .u64 (v.sk.seed : Int), .slice (some ⟨a.R, 0, none⟩) 4 a.c, .slice (some ⟨a.D, 0, none⟩) v.sk.wide v.sk.wide, .int .i64 (v.sk.added : Int), .slice (some ⟨a.G, 0, none⟩) 3 3, .int .i64 (v.pl : Int)], .string (str k)] w fun e w' => ∃ a' val, e = .returned (.tuple #[.agg #[.int .i64 ((v.fresh k).most : Int), .int .i64 ((v.fresh k).sk.wide : Int), .int .u64 ((v.fresh k).sk.seed : Int), .slice (some ⟨a'.R, 0, none⟩) 4 a'.c, .slice (some ⟨a'.D, 0, none⟩) (v.fresh k).sk.wide (v.fresh k).sk.wide, .int .i64 ((v.fresh k).sk.added : Int), .slice (some ⟨a'.G, 0, none⟩) 3 3, .int .i64 ((v.fresh k).pl : Int)], val]) ∧ Goes w a (v.fresh k) a' w' ∧ Told w val (v.freshK k) w' := by
  have h1 := Wk.new2 h hok.fit.n
  have hr1 := Blk.new (w.alloc (.cells #[.int .i64 (v.most : Int), .int .i64 (v.sk.wide : Int), .int .u64 (v.sk.seed : Int), .slice (some ⟨a.R, 0, none⟩) 4 a.c, .slice (some ⟨a.D, 0, none⟩) v.sk.wide v.sk.wide, .int .i64 (v.sk.added : Int), .slice (some ⟨a.G, 0, none⟩) 3 3, .int .i64 (v.pl : Int)] 36)) 36 #[.int .i64 0, .int .i64 0, .int .u64 0, .slice none 0 0, .slice none 0 0, .int .i64 0, .slice none 0 0, .int .i64 0]
  rw [show (w.alloc (.cells #[.int .i64 (v.most : Int), .int .i64 (v.sk.wide : Int), .int .u64 (v.sk.seed : Int), .slice (some ⟨a.R, 0, none⟩) 4 a.c, .slice (some ⟨a.D, 0, none⟩) v.sk.wide v.sk.wide, .int .i64 (v.sk.added : Int), .slice (some ⟨a.G, 0, none⟩) 3 3, .int .i64 (v.pl : Int)] 36)).heap.size = w.heap.size + 1 by simp] at hr1
  have hsz := str_size k
  have d64 : decide ((64 : Int) < (k.length : Int)) = false := decide_eq_false (by omega)
  have hat : v.at_ k = none := by unfold Tv.has at hno; cases e : v.at_ k with | none => rfl | some i => rw [e] at hno; cases hno
  have htc := fun (W : World) (hW : Dt W v a) => rtouch_none (k := k) hok hat W hW
  have hok1 := hok.note k
  have hadd := fun (W : World) (hW : Dt W v a) => d_add (k := k) hok (by omega) W hW
  have hc1 : (v.note k).can k := (hOk.note k).fit.room (hOk.note k).kept
  have hfr := fun (a1 : Ad) (W : World) (hW : Dt W (v.note k) a1) => rfr_c (jj := 0) (j := 0) rfl hok1 (by omega) hk hc1 W hW
  have hok2 := hok1.fr (j := 0) (by omega) hk hc1
  have hF := fun hw => Tv.full_of hOk hk hno hw
  have hq1 : (v.came k).len 0 ≤ wMost v.most → v.fresh k = v.came k ∧ v.freshK k = [] := fun hw => ⟨if_pos hw, if_pos hw⟩
  have hq2 : ¬ (v.came k).len 0 ≤ wMost v.most → v.fresh k = (v.came k).leave ∧ v.freshK k = (v.came k).leaveK := fun hw => ⟨if_neg hw, if_neg hw⟩
  have HN1 := Lib.hid hok1.fit.n
  have HM1 := Lib.hid (show (v.note k).most = v.most from rfl)
  have hm2 : (v.came k).most = v.most := rfl
  have hc : (v.note k).fr 0 k = v.came k := rfl
  rw [hc] at hfr hok2
  generalize v.fresh k = s at *
  generalize v.freshK k = sk at *
  generalize v.came k = v2 at *
  generalize v.note k = v1 at *
  rw [← hm2] at hq1 hq2 hF
  have hpa := fun (a2 : Ad) (W : World) (hW : Dt W v2 a2) => d_parts hok2 W hW
  have hl0 := hok2.fit.len_le (i := 0) (by omega)
  have hkp := hok2.fit.kept
  have hws := wMost_le hok2.fit.m1
  have hms := hok2.fit.m2
  have HN2 := Lib.hid hok2.fit.n
  clear hat hok1 hc1 hc hm2 hok hno h
  by_cases hw : v2.len 0 ≤ wMost v2.most
  · have e1 : decide ((v2.len 0 : Int) ≤ (wMost v2.most : Int)) = true := decide_eq_true (by omega)
    have e2 : decide (v2.len 0 ≤ wMost v2.most) = true := decide_eq_true hw
    have HQ := Lib.hid (hq1 hw)
    clear hq1 hq2 hF hOk hok2 hkp
    go_enter Tryz.func35, Tryz.ntmps35
    go_upto_region 1 with (fail)
    generalize (w.alloc (.cells #[.int .i64 (v.most : Int), .int .i64 (v.sk.wide : Int), .int .u64 (v.sk.seed : Int), .slice (some ⟨a.R, 0, none⟩) 4 a.c, .slice (some ⟨a.D, 0, none⟩) v.sk.wide v.sk.wide, .int .i64 (v.sk.added : Int), .slice (some ⟨a.G, 0, none⟩) 3 3, .int .i64 (v.pl : Int)] 36)).alloc (.cells #[.int .i64 0, .int .i64 0, .int .u64 0, .slice none 0 0, .slice none 0 0, .int .i64 0, .slice none 0 0, .int .i64 0] 36) = w1 at *
    obtain ⟨x0, x1, x2, x3, x4, x5, x6, x7⟩ := h1.all
    go_wp2_with fail
    refine (htc _ h1.d).mono ?_
    rintro e w2 ⟨a9, rfl, hg⟩
    clear x0 x1 x2 x3 x4 x5 x6 x7
    have hb2 := (Below.refl _ w2).alloc (Nat.le_refl _) (.cells #[.int .i64 (v.most : Int), .int .i64 (v.sk.wide : Int), .int .u64 (v.sk.seed : Int), .slice (some ⟨a9.R, 0, none⟩) 4 a9.c, .slice (some ⟨a9.D, 0, none⟩) v.sk.wide v.sk.wide, .int .i64 (v.sk.added : Int), .slice (some ⟨a9.G, 0, none⟩) 3 3, .int .i64 (v.pl : Int)] 36)
    have h2 := (h1.onto hg.below).onto hb2
    have hr2 := (hr1.below hg.below hr1.lt).below hb2 (hr1.below hg.below hr1.lt).lt
    clear hr1 h1 hb2 hg
    go_upto_region 6 with (fail)
    generalize w2.alloc (.cells #[.int .i64 (v.most : Int), .int .i64 (v.sk.wide : Int), .int .u64 (v.sk.seed : Int), .slice (some ⟨a9.R, 0, none⟩) 4 a9.c, .slice (some ⟨a9.D, 0, none⟩) v.sk.wide v.sk.wide, .int .i64 (v.sk.added : Int), .slice (some ⟨a9.G, 0, none⟩) 3 3, .int .i64 (v.pl : Int)] 36) = w3 at *
    obtain ⟨x0, x1, x2, x3, x4, x5, x6, x7⟩ := h2.all
    go_wp2_with fail
    refine (hadd _ h2.d).mono ?_
    rintro e w3 ⟨a1, rfl, eG, hg⟩
    clear x0 x1 x2 x3 x4 x5 x6 x7
    have hbx := h2.box.below hg.below h2.box.lt
    have y1 := hbx.cell 1
    have f1 := hbx.free 1
    have y2 := hbx.cell 2
    have f2 := hbx.free 2
    have y3 := hbx.cell 3
    have f3 := hbx.free 3
    have y4 := hbx.cell 4
    have f4 := hbx.free 4
    have y5 := hbx.cell 5
    have f5 := hbx.free 5
    simp only [List.getElem?_toArray, List.getElem?_cons_zero, List.getElem?_cons_succ] at y1 y2 y3 y4 y5
    go_upto_region 7 with (fail)
    clear y1 f1 y2 f2 y3 f3 y4 f4 y5 f5
    have h4 := h2.sketch hg HN1.out HM1.out eG
    have hr4 : Blk (((((w3.setCell ⟨w.heap.size, 1, none⟩ (.int .i64 (v1.sk.wide : Int))).setCell ⟨w.heap.size, 2, none⟩ (.int .u64 (v1.sk.seed : Int))).setCell ⟨w.heap.size, 3, none⟩ (.slice (some ⟨a1.R, 0, none⟩) 4 a1.c)).setCell ⟨w.heap.size, 4, none⟩ (.slice (some ⟨a1.D, 0, none⟩) v1.sk.wide v1.sk.wide)).setCell ⟨w.heap.size, 5, none⟩ (.int .i64 (v1.sk.added : Int))) (w.heap.size + 1) 36 #[.int .i64 0, .int .i64 0, .int .u64 0, .slice none 0 0, .slice none 0 0, .int .i64 0, .slice none 0 0, .int .i64 0] := (far5 _ (by omega) _ _ _ _ _).trans (hr2.below hg.below hr2.lt)
    clear hr2
    generalize (((((w3.setCell ⟨w.heap.size, 1, none⟩ (.int .i64 (v1.sk.wide : Int))).setCell ⟨w.heap.size, 2, none⟩ (.int .u64 (v1.sk.seed : Int))).setCell ⟨w.heap.size, 3, none⟩ (.slice (some ⟨a1.R, 0, none⟩) 4 a1.c)).setCell ⟨w.heap.size, 4, none⟩ (.slice (some ⟨a1.D, 0, none⟩) v1.sk.wide v1.sk.wide)).setCell ⟨w.heap.size, 5, none⟩ (.int .i64 (v1.sk.added : Int))) = w4 at *
    clear h2 hbx hg eG
    obtain ⟨x0, x1, x2, x3, x4, x5, x6, x7⟩ := h4.all
    go_wp2_with fail
    refine (hfr a1 _ h4.d).mono ?_
    rintro e w5 ⟨a2, rfl, hg⟩
    clear x0 x1 x2 x3 x4 x5 x6 x7
    have hbx := h4.box.below hg.below h4.box.lt
    have y0 := hbx.cell 0
    have f0 := hbx.free 0
    have y1 := hbx.cell 1
    have f1 := hbx.free 1
    have y2 := hbx.cell 2
    have f2 := hbx.free 2
    have y3 := hbx.cell 3
    have f3 := hbx.free 3
    have y4 := hbx.cell 4
    have f4 := hbx.free 4
    have y5 := hbx.cell 5
    have f5 := hbx.free 5
    have y6 := hbx.cell 6
    have f6 := hbx.free 6
    have y7 := hbx.cell 7
    have f7 := hbx.free 7
    simp only [List.getElem?_toArray, List.getElem?_cons_zero, List.getElem?_cons_succ] at y0 y1 y2 y3 y4 y5 y6 y7
    go_upto_region 8 with (fail)
    clear y0 f0 y1 f1 y2 f2 y3 f3 y4 f4 y5 f5 y6 f6 y7 f7
    have h6 := h4.whole hg HN2.out
    have hr6 : Blk ((((((((w5.setCell ⟨w.heap.size, 0, none⟩ (.int .i64 (v2.most : Int))).setCell ⟨w.heap.size, 1, none⟩ (.int .i64 (v2.sk.wide : Int))).setCell ⟨w.heap.size, 2, none⟩ (.int .u64 (v2.sk.seed : Int))).setCell ⟨w.heap.size, 3, none⟩ (.slice (some ⟨a2.R, 0, none⟩) 4 a2.c)).setCell ⟨w.heap.size, 4, none⟩ (.slice (some ⟨a2.D, 0, none⟩) v2.sk.wide v2.sk.wide)).setCell ⟨w.heap.size, 5, none⟩ (.int .i64 (v2.sk.added : Int))).setCell ⟨w.heap.size, 6, none⟩ (.slice (some ⟨a2.G, 0, none⟩) 3 3)).setCell ⟨w.heap.size, 7, none⟩ (.int .i64 (v2.pl : Int))) (w.heap.size + 1) 36 #[.int .i64 0, .int .i64 0, .int .u64 0, .slice none 0 0, .slice none 0 0, .int .i64 0, .slice none 0 0, .int .i64 0] := (far8 _ (by omega) _ _ _ _ _ _ _ _).trans (hr4.below hg.below hr4.lt)
    clear hr4
    generalize ((((((((w5.setCell ⟨w.heap.size, 0, none⟩ (.int .i64 (v2.most : Int))).setCell ⟨w.heap.size, 1, none⟩ (.int .i64 (v2.sk.wide : Int))).setCell ⟨w.heap.size, 2, none⟩ (.int .u64 (v2.sk.seed : Int))).setCell ⟨w.heap.size, 3, none⟩ (.slice (some ⟨a2.R, 0, none⟩) 4 a2.c)).setCell ⟨w.heap.size, 4, none⟩ (.slice (some ⟨a2.D, 0, none⟩) v2.sk.wide v2.sk.wide)).setCell ⟨w.heap.size, 5, none⟩ (.int .i64 (v2.sk.added : Int))).setCell ⟨w.heap.size, 6, none⟩ (.slice (some ⟨a2.G, 0, none⟩) 3 3)).setCell ⟨w.heap.size, 7, none⟩ (.int .i64 (v2.pl : Int))) = w6 at *
    clear h4 hbx hg
    obtain ⟨x0, x1, x2, x3, x4, x5, x6, x7⟩ := h6.all
    go_wp2_with fail
    refine (hpa a2 _ h6.d).mono ?_
    rintro e w7 ⟨rfl, hb⟩
    clear x0 x1 x2 x3 x4 x5 x6 x7
    have h7 := h6.onto hb
    have hr7 := hr6.below hb hr6.lt
    clear hr6
    clear h6 hb
    obtain ⟨x0, x1, x2, x3, x4, x5, x6, x7⟩ := h7.all
    obtain ⟨ga, gc, q1⟩ := h7.d.list HN2.out (i := 0) (by omega)
    have z0 := hr7.cell 0
    have f0 := hr7.free 0
    have z1 := hr7.cell 1
    have f1 := hr7.free 1
    have z2 := hr7.cell 2
    have f2 := hr7.free 2
    have z3 := hr7.cell 3
    have f3 := hr7.free 3
    have z4 := hr7.cell 4
    have f4 := hr7.free 4
    have z5 := hr7.cell 5
    have f5 := hr7.free 5
    have z6 := hr7.cell 6
    have f6 := hr7.free 6
    have z7 := hr7.cell 7
    have f7 := hr7.free 7
    simp only [List.getElem?_toArray, List.getElem?_cons_zero, List.getElem?_cons_succ] at z0 z1 z2 z3 z4 z5 z6 z7
    go_wp2_with fail
    obtain ⟨hG, hB⟩ := res_goes h7 (Goes.refl h7.d) HN2.out (b := w.heap.size + 1) (by omega) (by omega) hr7
    refine bodyPost_ret (results_row_tmp rfl _ _ (w.heap.size + 1) rfl (run_loadVar_row _ _ _ _ _ _ _ hB Tryz.underlying36 rfl (by kernel_rfl))) rfl ⟨a2, _, by rw [HQ.out.1] <;> rfl, by rw [HQ.out.1]; exact hG, by rw [HQ.out.2]; exact Told.nil _ _⟩
  · have e1 : decide ((v2.len 0 : Int) ≤ (wMost v2.most : Int)) = false := decide_eq_false (by omega)
    have e2 : decide (v2.len 0 ≤ wMost v2.most) = false := decide_eq_false hw
    obtain ⟨one, hF⟩ := hF hw
    have hq := hq2 hw
    have hol : one.length ≤ 64 := hF.fit.klen (by omega) hF.mem
    have hs : v2.leave = v2.leaveOf one := by unfold Tv.leave; rw [hF.last]; rfl
    have hsk : v2.leaveK = v2.leaveOfK one := by unfold Tv.leaveK; rw [hF.last]; rfl
    rw [hs, hsk] at hq
    have hbk0 := fun (a2 : Ad) (W : World) (hW : Dt W v2 a2) => d_back hok2 (i := 0) (by omega) W hW
    rw [hF.last] at hbk0
    simp only [Option.getD_some, Option.isSome_some] at hbk0
    have fL := fun (a2 : Ad) (W : World) (hW : Wr w a v2 a2 W) => wr_len hok2 hW
    clear hq1 hq2 hs hsk hOk
    by_cases hkm : v2.kept ≤ v2.most
    · have e3 : decide ((v2.kept : Int) ≤ (v2.most : Int)) = true := decide_eq_true (by omega)
      have e4 : decide (v2.kept ≤ v2.most) = true := decide_eq_true hkm
      have hx1 : v2.leaveOf one = v2.fr 1 one := if_pos hkm
      have hx2 : v2.leaveOfK one = [] := if_pos hkm
      rw [hx1, hx2] at hq
      have hc2 := hF.fit.in_ hF.fit.n (by omega) hF.mem
      have hfr1 := fun (a2 : Ad) (W : World) (hW : Dt W v2 a2) => rfr_c (jj := 1) (j := 1) rfl hok2 (by omega) hol hc2 W hW
      have HN3 := Lib.hid (show (v2.fr 1 one).rg.n = 3 from hok2.fit.n)
      generalize v2.fr 1 one = v3 at *
      have HQ := Lib.hid hq
      clear hq hx1 hx2 hF hok2 hc2
      go_enter Tryz.func35, Tryz.ntmps35
      go_upto_region 1 with (fail)
      generalize (w.alloc (.cells #[.int .i64 (v.most : Int), .int .i64 (v.sk.wide : Int), .int .u64 (v.sk.seed : Int), .slice (some ⟨a.R, 0, none⟩) 4 a.c, .slice (some ⟨a.D, 0, none⟩) v.sk.wide v.sk.wide, .int .i64 (v.sk.added : Int), .slice (some ⟨a.G, 0, none⟩) 3 3, .int .i64 (v.pl : Int)] 36)).alloc (.cells #[.int .i64 0, .int .i64 0, .int .u64 0, .slice none 0 0, .slice none 0 0, .int .i64 0, .slice none 0 0, .int .i64 0] 36) = w1 at *
      obtain ⟨x0, x1, x2, x3, x4, x5, x6, x7⟩ := h1.all
      go_wp2_with fail
      refine (htc _ h1.d).mono ?_
      rintro e w2 ⟨a9, rfl, hg⟩
      clear x0 x1 x2 x3 x4 x5 x6 x7
      have hb2 := (Below.refl _ w2).alloc (Nat.le_refl _) (.cells #[.int .i64 (v.most : Int), .int .i64 (v.sk.wide : Int), .int .u64 (v.sk.seed : Int), .slice (some ⟨a9.R, 0, none⟩) 4 a9.c, .slice (some ⟨a9.D, 0, none⟩) v.sk.wide v.sk.wide, .int .i64 (v.sk.added : Int), .slice (some ⟨a9.G, 0, none⟩) 3 3, .int .i64 (v.pl : Int)] 36)
      have h2 := (h1.onto hg.below).onto hb2
      have hr2 := (hr1.below hg.below hr1.lt).below hb2 (hr1.below hg.below hr1.lt).lt
      clear hr1 h1 hb2 hg
      go_upto_region 6 with (fail)
      generalize w2.alloc (.cells #[.int .i64 (v.most : Int), .int .i64 (v.sk.wide : Int), .int .u64 (v.sk.seed : Int), .slice (some ⟨a9.R, 0, none⟩) 4 a9.c, .slice (some ⟨a9.D, 0, none⟩) v.sk.wide v.sk.wide, .int .i64 (v.sk.added : Int), .slice (some ⟨a9.G, 0, none⟩) 3 3, .int .i64 (v.pl : Int)] 36) = w3 at *
      obtain ⟨x0, x1, x2, x3, x4, x5, x6, x7⟩ := h2.all
      go_wp2_with fail
      refine (hadd _ h2.d).mono ?_
      rintro e w3 ⟨a1, rfl, eG, hg⟩
      clear x0 x1 x2 x3 x4 x5 x6 x7
      have hbx := h2.box.below hg.below h2.box.lt
      have y1 := hbx.cell 1
      have f1 := hbx.free 1
      have y2 := hbx.cell 2
      have f2 := hbx.free 2
      have y3 := hbx.cell 3
      have f3 := hbx.free 3
      have y4 := hbx.cell 4
      have f4 := hbx.free 4
      have y5 := hbx.cell 5
      have f5 := hbx.free 5
      simp only [List.getElem?_toArray, List.getElem?_cons_zero, List.getElem?_cons_succ] at y1 y2 y3 y4 y5
      go_upto_region 7 with (fail)
      clear y1 f1 y2 f2 y3 f3 y4 f4 y5 f5
      have h4 := h2.sketch hg HN1.out HM1.out eG
      have hr4 : Blk (((((w3.setCell ⟨w.heap.size, 1, none⟩ (.int .i64 (v1.sk.wide : Int))).setCell ⟨w.heap.size, 2, none⟩ (.int .u64 (v1.sk.seed : Int))).setCell ⟨w.heap.size, 3, none⟩ (.slice (some ⟨a1.R, 0, none⟩) 4 a1.c)).setCell ⟨w.heap.size, 4, none⟩ (.slice (some ⟨a1.D, 0, none⟩) v1.sk.wide v1.sk.wide)).setCell ⟨w.heap.size, 5, none⟩ (.int .i64 (v1.sk.added : Int))) (w.heap.size + 1) 36 #[.int .i64 0, .int .i64 0, .int .u64 0, .slice none 0 0, .slice none 0 0, .int .i64 0, .slice none 0 0, .int .i64 0] := (far5 _ (by omega) _ _ _ _ _).trans (hr2.below hg.below hr2.lt)
      clear hr2
      generalize (((((w3.setCell ⟨w.heap.size, 1, none⟩ (.int .i64 (v1.sk.wide : Int))).setCell ⟨w.heap.size, 2, none⟩ (.int .u64 (v1.sk.seed : Int))).setCell ⟨w.heap.size, 3, none⟩ (.slice (some ⟨a1.R, 0, none⟩) 4 a1.c)).setCell ⟨w.heap.size, 4, none⟩ (.slice (some ⟨a1.D, 0, none⟩) v1.sk.wide v1.sk.wide)).setCell ⟨w.heap.size, 5, none⟩ (.int .i64 (v1.sk.added : Int))) = w4 at *
      clear h2 hbx hg eG
      obtain ⟨x0, x1, x2, x3, x4, x5, x6, x7⟩ := h4.all
      go_wp2_with fail
      refine (hfr a1 _ h4.d).mono ?_
      rintro e w5 ⟨a2, rfl, hg⟩
      clear x0 x1 x2 x3 x4 x5 x6 x7
      have hbx := h4.box.below hg.below h4.box.lt
      have y0 := hbx.cell 0
      have f0 := hbx.free 0
      have y1 := hbx.cell 1
      have f1 := hbx.free 1
      have y2 := hbx.cell 2
      have f2 := hbx.free 2
      have y3 := hbx.cell 3
      have f3 := hbx.free 3
      have y4 := hbx.cell 4
      have f4 := hbx.free 4
      have y5 := hbx.cell 5
      have f5 := hbx.free 5
      have y6 := hbx.cell 6
      have f6 := hbx.free 6
      have y7 := hbx.cell 7
      have f7 := hbx.free 7
      simp only [List.getElem?_toArray, List.getElem?_cons_zero, List.getElem?_cons_succ] at y0 y1 y2 y3 y4 y5 y6 y7
      go_upto_region 8 with (fail)
      clear y0 f0 y1 f1 y2 f2 y3 f3 y4 f4 y5 f5 y6 f6 y7 f7
      have h6 := h4.whole hg HN2.out
      have hr6 : Blk ((((((((w5.setCell ⟨w.heap.size, 0, none⟩ (.int .i64 (v2.most : Int))).setCell ⟨w.heap.size, 1, none⟩ (.int .i64 (v2.sk.wide : Int))).setCell ⟨w.heap.size, 2, none⟩ (.int .u64 (v2.sk.seed : Int))).setCell ⟨w.heap.size, 3, none⟩ (.slice (some ⟨a2.R, 0, none⟩) 4 a2.c)).setCell ⟨w.heap.size, 4, none⟩ (.slice (some ⟨a2.D, 0, none⟩) v2.sk.wide v2.sk.wide)).setCell ⟨w.heap.size, 5, none⟩ (.int .i64 (v2.sk.added : Int))).setCell ⟨w.heap.size, 6, none⟩ (.slice (some ⟨a2.G, 0, none⟩) 3 3)).setCell ⟨w.heap.size, 7, none⟩ (.int .i64 (v2.pl : Int))) (w.heap.size + 1) 36 #[.int .i64 0, .int .i64 0, .int .u64 0, .slice none 0 0, .slice none 0 0, .int .i64 0, .slice none 0 0, .int .i64 0] := (far8 _ (by omega) _ _ _ _ _ _ _ _).trans (hr4.below hg.below hr4.lt)
      clear hr4
      generalize ((((((((w5.setCell ⟨w.heap.size, 0, none⟩ (.int .i64 (v2.most : Int))).setCell ⟨w.heap.size, 1, none⟩ (.int .i64 (v2.sk.wide : Int))).setCell ⟨w.heap.size, 2, none⟩ (.int .u64 (v2.sk.seed : Int))).setCell ⟨w.heap.size, 3, none⟩ (.slice (some ⟨a2.R, 0, none⟩) 4 a2.c)).setCell ⟨w.heap.size, 4, none⟩ (.slice (some ⟨a2.D, 0, none⟩) v2.sk.wide v2.sk.wide)).setCell ⟨w.heap.size, 5, none⟩ (.int .i64 (v2.sk.added : Int))).setCell ⟨w.heap.size, 6, none⟩ (.slice (some ⟨a2.G, 0, none⟩) 3 3)).setCell ⟨w.heap.size, 7, none⟩ (.int .i64 (v2.pl : Int))) = w6 at *
      clear h4 hbx hg
      obtain ⟨x0, x1, x2, x3, x4, x5, x6, x7⟩ := h6.all
      go_wp2_with fail
      refine (hpa a2 _ h6.d).mono ?_
      rintro e w7 ⟨rfl, hb⟩
      clear x0 x1 x2 x3 x4 x5 x6 x7
      have h7 := h6.onto hb
      have hr7 := hr6.below hb hr6.lt
      clear hr6
      clear h6 hb
      obtain ⟨x0, x1, x2, x3, x4, x5, x6, x7⟩ := h7.all
      obtain ⟨ga, gc, q1⟩ := h7.d.list HN2.out (i := 0) (by omega)
      go_upto_region 11 with (fail)
      clear q1
      go_wp2_with fail
      refine (hbk0 a2 _ h7.d).mono ?_
      rintro e w8 ⟨rfl, hb⟩
      clear x0 x1 x2 x3 x4 x5 x6 x7
      have h8 := h7.onto hb
      have hr8 := hr7.below hb hr7.lt
      clear hr7
      clear h7 hb
      obtain ⟨x0, x1, x2, x3, x4, x5, x6, x7⟩ := h8.all
      go_upto_region 12 with (fail)
      clear x0 x1 x2 x3 x4 x5 x6 x7
      have hd := ((⟨h8, hr8⟩ : Wr w a v2 a2 w8).drewN 1).all
      go_region_held3 (fun W => (W.cell? ⟨w.heap.size, 0, none⟩ = some (.int .i64 (v2.most : Int)) ∧ W.cell? ⟨w.heap.size, 1, none⟩ = some (.int .i64 (v2.sk.wide : Int)) ∧ W.cell? ⟨w.heap.size, 2, none⟩ = some (.int .u64 (v2.sk.seed : Int)) ∧ W.cell? ⟨w.heap.size, 3, none⟩ = some (.slice (some ⟨a2.R, 0, none⟩) 4 a2.c) ∧ W.cell? ⟨w.heap.size, 4, none⟩ = some (.slice (some ⟨a2.D, 0, none⟩) v2.sk.wide v2.sk.wide) ∧ W.cell? ⟨w.heap.size, 5, none⟩ = some (.int .i64 (v2.sk.added : Int)) ∧ W.cell? ⟨w.heap.size, 6, none⟩ = some (.slice (some ⟨a2.G, 0, none⟩) 3 3) ∧ W.cell? ⟨w.heap.size, 7, none⟩ = some (.int .i64 (v2.pl : Int))) ∧ Wr w a v2 a2 W)
        (first | assumption | exact hd | exact Wr.all (by assumption))
        (first | (go_at_call 38; (with_reducible refine Calls.mono (fL a2 _ (by assumption : (_ ∧ _ ∧ _ ∧ _ ∧ _ ∧ _ ∧ _ ∧ _) ∧ _).2) ?_); rintro e wv ⟨rfl, hwv⟩) | fail)
      have hZ := (by assumption : (_ ∧ _ ∧ _ ∧ _ ∧ _ ∧ _ ∧ _ ∧ _) ∧ Wr w a v2 a2 _).2
      have h9 := hZ.k
      have hr9 := hZ.r
      clear hd hZ h8 hr8
      obtain ⟨x0, x1, x2, x3, x4, x5, x6, x7⟩ := h9.all
      go_upto_region 13 with (fail)
      go_wp2_with fail
      refine (hfr1 a2 _ h9.d).mono ?_
      rintro e w10 ⟨a3, rfl, hg⟩
      clear x0 x1 x2 x3 x4 x5 x6 x7
      have hrx := hr9.below hg.below hr9.lt
      have y0 := hrx.cell 0
      have f0 := hrx.free 0
      have y1 := hrx.cell 1
      have f1 := hrx.free 1
      have y2 := hrx.cell 2
      have f2 := hrx.free 2
      have y3 := hrx.cell 3
      have f3 := hrx.free 3
      have y4 := hrx.cell 4
      have f4 := hrx.free 4
      have y5 := hrx.cell 5
      have f5 := hrx.free 5
      have y6 := hrx.cell 6
      have f6 := hrx.free 6
      have y7 := hrx.cell 7
      have f7 := hrx.free 7
      simp only [List.getElem?_toArray, List.getElem?_cons_zero, List.getElem?_cons_succ] at y0 y1 y2 y3 y4 y5 y6 y7
      go_wp2_with fail
      obtain ⟨hG, hB⟩ := res_goes h9 hg HN3.out (b := w.heap.size + 1) (by omega) (by omega) hrx
      refine bodyPost_ret (results_row_tmp rfl _ _ (w.heap.size + 1) rfl (run_loadVar_row _ _ _ _ _ _ _ hB Tryz.underlying36 rfl (by kernel_rfl))) rfl ⟨a3, _, by rw [HQ.out.1] <;> rfl, by rw [HQ.out.1]; exact hG, by rw [HQ.out.2]; exact Told.nil _ _⟩
    · have e3 : decide ((v2.kept : Int) ≤ (v2.most : Int)) = false := decide_eq_false (by omega)
      have e4 : decide (v2.kept ≤ v2.most) = false := decide_eq_false hkm
      have hx1 : v2.leaveOf one = match v2.stays one with | none => v2.dr one | some o => (v2.dr o).fr 1 one := if_neg hkm
      have hx2 : v2.leaveOfK one = match v2.stays one with | none => [one] | some o => [o] := if_neg hkm
      rw [hx1, hx2] at hq
      have hbk1 := fun (a2 : Ad) (W : World) (hW : Dt W v2 a2) => d_back hok2 (i := 1) (by omega) W hW
      have hbk2 := fun (a2 : Ad) (W : World) (hW : Dt W v2 a2) => d_back hok2 (i := 2) (by omega) W hW
      clear hx1 hx2
      cases e1b : v2.last 1 with
      | some o =>
        have e5 : v2.first [1, 2] = some o := by unfold Tv.first; rw [e1b]
        obtain ⟨hol2, hne, io, hio, hmo⟩ := hF.stays_in e5
        simp only [e1b, Option.getD_some, Option.isSome_some] at hbk1
        have fs1 := fun (a2 : Ad) (W : World) (hW : Wr w a v2 a2 W) => wr_seen (one := one) hok2 hol hW
        have fs2 := fun (a2 : Ad) (W : World) (hW : Wr w a v2 a2 W) => wr_seen (one := o) hok2 hol2 hW
        clear e1b hmo
        by_cases hse : v2.seen one ≤ v2.seen o
        · have hst : v2.stays one = none := by unfold Tv.stays; rw [e5]; exact if_pos hse
          have e6 : decide ((v2.seen o : Int) < (v2.seen one : Int)) = false := decide_eq_false (by omega)
          have e7 : decide (v2.seen o < v2.seen one) = false := decide_eq_false (by omega)
          have e8 : ¬ v2.seen o < v2.seen one := by omega
          clear e5
          have hq3 : s = v2.dr one ∧ sk = [one] := by rw [hst] at hq; exact hq
          have hdr := fun (a2 : Ad) (W : World) (hW : Dt W v2 a2) => d_drop hok2 one W hW
          have HN3 := Lib.hid (show (v2.dr one).rg.n = 3 from hok2.fit.n)
          have HM3 := Lib.hid (show (v2.dr one).most = v2.most from rfl)
          have HS3 := Lib.hid (show (v2.dr one).sk = v2.sk from rfl)
          generalize v2.dr one = v3 at *
          have HQ := Lib.hid hq3
          clear hq hq3 hst hF hok2
          go_enter Tryz.func35, Tryz.ntmps35
          go_upto_region 1 with (fail)
          generalize (w.alloc (.cells #[.int .i64 (v.most : Int), .int .i64 (v.sk.wide : Int), .int .u64 (v.sk.seed : Int), .slice (some ⟨a.R, 0, none⟩) 4 a.c, .slice (some ⟨a.D, 0, none⟩) v.sk.wide v.sk.wide, .int .i64 (v.sk.added : Int), .slice (some ⟨a.G, 0, none⟩) 3 3, .int .i64 (v.pl : Int)] 36)).alloc (.cells #[.int .i64 0, .int .i64 0, .int .u64 0, .slice none 0 0, .slice none 0 0, .int .i64 0, .slice none 0 0, .int .i64 0] 36) = w1 at *
          obtain ⟨x0, x1, x2, x3, x4, x5, x6, x7⟩ := h1.all
          go_wp2_with fail
          refine (htc _ h1.d).mono ?_
          rintro e w2 ⟨a9, rfl, hg⟩
          clear x0 x1 x2 x3 x4 x5 x6 x7
          have hb2 := (Below.refl _ w2).alloc (Nat.le_refl _) (.cells #[.int .i64 (v.most : Int), .int .i64 (v.sk.wide : Int), .int .u64 (v.sk.seed : Int), .slice (some ⟨a9.R, 0, none⟩) 4 a9.c, .slice (some ⟨a9.D, 0, none⟩) v.sk.wide v.sk.wide, .int .i64 (v.sk.added : Int), .slice (some ⟨a9.G, 0, none⟩) 3 3, .int .i64 (v.pl : Int)] 36)
          have h2 := (h1.onto hg.below).onto hb2
          have hr2 := (hr1.below hg.below hr1.lt).below hb2 (hr1.below hg.below hr1.lt).lt
          clear hr1 h1 hb2 hg
          go_upto_region 6 with (fail)
          generalize w2.alloc (.cells #[.int .i64 (v.most : Int), .int .i64 (v.sk.wide : Int), .int .u64 (v.sk.seed : Int), .slice (some ⟨a9.R, 0, none⟩) 4 a9.c, .slice (some ⟨a9.D, 0, none⟩) v.sk.wide v.sk.wide, .int .i64 (v.sk.added : Int), .slice (some ⟨a9.G, 0, none⟩) 3 3, .int .i64 (v.pl : Int)] 36) = w3 at *
          obtain ⟨x0, x1, x2, x3, x4, x5, x6, x7⟩ := h2.all
          go_wp2_with fail
          refine (hadd _ h2.d).mono ?_
          rintro e w3 ⟨a1, rfl, eG, hg⟩
          clear x0 x1 x2 x3 x4 x5 x6 x7
          have hbx := h2.box.below hg.below h2.box.lt
          have y1 := hbx.cell 1
          have f1 := hbx.free 1
          have y2 := hbx.cell 2
          have f2 := hbx.free 2
          have y3 := hbx.cell 3
          have f3 := hbx.free 3
          have y4 := hbx.cell 4
          have f4 := hbx.free 4
          have y5 := hbx.cell 5
          have f5 := hbx.free 5
          simp only [List.getElem?_toArray, List.getElem?_cons_zero, List.getElem?_cons_succ] at y1 y2 y3 y4 y5
          go_upto_region 7 with (fail)
          clear y1 f1 y2 f2 y3 f3 y4 f4 y5 f5
          have h4 := h2.sketch hg HN1.out HM1.out eG
          have hr4 : Blk (((((w3.setCell ⟨w.heap.size, 1, none⟩ (.int .i64 (v1.sk.wide : Int))).setCell ⟨w.heap.size, 2, none⟩ (.int .u64 (v1.sk.seed : Int))).setCell ⟨w.heap.size, 3, none⟩ (.slice (some ⟨a1.R, 0, none⟩) 4 a1.c)).setCell ⟨w.heap.size, 4, none⟩ (.slice (some ⟨a1.D, 0, none⟩) v1.sk.wide v1.sk.wide)).setCell ⟨w.heap.size, 5, none⟩ (.int .i64 (v1.sk.added : Int))) (w.heap.size + 1) 36 #[.int .i64 0, .int .i64 0, .int .u64 0, .slice none 0 0, .slice none 0 0, .int .i64 0, .slice none 0 0, .int .i64 0] := (far5 _ (by omega) _ _ _ _ _).trans (hr2.below hg.below hr2.lt)
          clear hr2
          generalize (((((w3.setCell ⟨w.heap.size, 1, none⟩ (.int .i64 (v1.sk.wide : Int))).setCell ⟨w.heap.size, 2, none⟩ (.int .u64 (v1.sk.seed : Int))).setCell ⟨w.heap.size, 3, none⟩ (.slice (some ⟨a1.R, 0, none⟩) 4 a1.c)).setCell ⟨w.heap.size, 4, none⟩ (.slice (some ⟨a1.D, 0, none⟩) v1.sk.wide v1.sk.wide)).setCell ⟨w.heap.size, 5, none⟩ (.int .i64 (v1.sk.added : Int))) = w4 at *
          clear h2 hbx hg eG
          obtain ⟨x0, x1, x2, x3, x4, x5, x6, x7⟩ := h4.all
          go_wp2_with fail
          refine (hfr a1 _ h4.d).mono ?_
          rintro e w5 ⟨a2, rfl, hg⟩
          clear x0 x1 x2 x3 x4 x5 x6 x7
          have hbx := h4.box.below hg.below h4.box.lt
          have y0 := hbx.cell 0
          have f0 := hbx.free 0
          have y1 := hbx.cell 1
          have f1 := hbx.free 1
          have y2 := hbx.cell 2
          have f2 := hbx.free 2
          have y3 := hbx.cell 3
          have f3 := hbx.free 3
          have y4 := hbx.cell 4
          have f4 := hbx.free 4
          have y5 := hbx.cell 5
          have f5 := hbx.free 5
          have y6 := hbx.cell 6
          have f6 := hbx.free 6
          have y7 := hbx.cell 7
          have f7 := hbx.free 7
          simp only [List.getElem?_toArray, List.getElem?_cons_zero, List.getElem?_cons_succ] at y0 y1 y2 y3 y4 y5 y6 y7
          go_upto_region 8 with (fail)
          clear y0 f0 y1 f1 y2 f2 y3 f3 y4 f4 y5 f5 y6 f6 y7 f7
          have h6 := h4.whole hg HN2.out
          have hr6 : Blk ((((((((w5.setCell ⟨w.heap.size, 0, none⟩ (.int .i64 (v2.most : Int))).setCell ⟨w.heap.size, 1, none⟩ (.int .i64 (v2.sk.wide : Int))).setCell ⟨w.heap.size, 2, none⟩ (.int .u64 (v2.sk.seed : Int))).setCell ⟨w.heap.size, 3, none⟩ (.slice (some ⟨a2.R, 0, none⟩) 4 a2.c)).setCell ⟨w.heap.size, 4, none⟩ (.slice (some ⟨a2.D, 0, none⟩) v2.sk.wide v2.sk.wide)).setCell ⟨w.heap.size, 5, none⟩ (.int .i64 (v2.sk.added : Int))).setCell ⟨w.heap.size, 6, none⟩ (.slice (some ⟨a2.G, 0, none⟩) 3 3)).setCell ⟨w.heap.size, 7, none⟩ (.int .i64 (v2.pl : Int))) (w.heap.size + 1) 36 #[.int .i64 0, .int .i64 0, .int .u64 0, .slice none 0 0, .slice none 0 0, .int .i64 0, .slice none 0 0, .int .i64 0] := (far8 _ (by omega) _ _ _ _ _ _ _ _).trans (hr4.below hg.below hr4.lt)
          clear hr4
          generalize ((((((((w5.setCell ⟨w.heap.size, 0, none⟩ (.int .i64 (v2.most : Int))).setCell ⟨w.heap.size, 1, none⟩ (.int .i64 (v2.sk.wide : Int))).setCell ⟨w.heap.size, 2, none⟩ (.int .u64 (v2.sk.seed : Int))).setCell ⟨w.heap.size, 3, none⟩ (.slice (some ⟨a2.R, 0, none⟩) 4 a2.c)).setCell ⟨w.heap.size, 4, none⟩ (.slice (some ⟨a2.D, 0, none⟩) v2.sk.wide v2.sk.wide)).setCell ⟨w.heap.size, 5, none⟩ (.int .i64 (v2.sk.added : Int))).setCell ⟨w.heap.size, 6, none⟩ (.slice (some ⟨a2.G, 0, none⟩) 3 3)).setCell ⟨w.heap.size, 7, none⟩ (.int .i64 (v2.pl : Int))) = w6 at *
          clear h4 hbx hg
          obtain ⟨x0, x1, x2, x3, x4, x5, x6, x7⟩ := h6.all
          go_wp2_with fail
          refine (hpa a2 _ h6.d).mono ?_
          rintro e w7 ⟨rfl, hb⟩
          clear x0 x1 x2 x3 x4 x5 x6 x7
          have h7 := h6.onto hb
          have hr7 := hr6.below hb hr6.lt
          clear hr6
          clear h6 hb
          obtain ⟨x0, x1, x2, x3, x4, x5, x6, x7⟩ := h7.all
          obtain ⟨ga, gc, q1⟩ := h7.d.list HN2.out (i := 0) (by omega)
          go_upto_region 11 with (fail)
          clear q1
          go_wp2_with fail
          refine (hbk0 a2 _ h7.d).mono ?_
          rintro e w8 ⟨rfl, hb⟩
          clear x0 x1 x2 x3 x4 x5 x6 x7
          have h8 := h7.onto hb
          have hr8 := hr7.below hb hr7.lt
          clear hr7
          clear h7 hb
          obtain ⟨x0, x1, x2, x3, x4, x5, x6, x7⟩ := h8.all
          go_upto_region 12 with (fail)
          clear x0 x1 x2 x3 x4 x5 x6 x7
          have hd := ((⟨h8, hr8⟩ : Wr w a v2 a2 w8).drewN 1).all
          go_region_held3 (fun W => (W.cell? ⟨w.heap.size, 0, none⟩ = some (.int .i64 (v2.most : Int)) ∧ W.cell? ⟨w.heap.size, 1, none⟩ = some (.int .i64 (v2.sk.wide : Int)) ∧ W.cell? ⟨w.heap.size, 2, none⟩ = some (.int .u64 (v2.sk.seed : Int)) ∧ W.cell? ⟨w.heap.size, 3, none⟩ = some (.slice (some ⟨a2.R, 0, none⟩) 4 a2.c) ∧ W.cell? ⟨w.heap.size, 4, none⟩ = some (.slice (some ⟨a2.D, 0, none⟩) v2.sk.wide v2.sk.wide) ∧ W.cell? ⟨w.heap.size, 5, none⟩ = some (.int .i64 (v2.sk.added : Int)) ∧ W.cell? ⟨w.heap.size, 6, none⟩ = some (.slice (some ⟨a2.G, 0, none⟩) 3 3) ∧ W.cell? ⟨w.heap.size, 7, none⟩ = some (.int .i64 (v2.pl : Int))) ∧ Wr w a v2 a2 W)
            (first | assumption | exact hd | exact Wr.all (by assumption))
            (first | (go_at_call 38; (with_reducible refine Calls.mono (fL a2 _ (by assumption : (_ ∧ _ ∧ _ ∧ _ ∧ _ ∧ _ ∧ _ ∧ _) ∧ _).2) ?_); rintro e wv ⟨rfl, hwv⟩) | fail)
          have hZ := (by assumption : (_ ∧ _ ∧ _ ∧ _ ∧ _ ∧ _ ∧ _ ∧ _) ∧ Wr w a v2 a2 _).2
          have h9 := hZ.k
          have hr9 := hZ.r
          clear hd hZ h8 hr8
          obtain ⟨x0, x1, x2, x3, x4, x5, x6, x7⟩ := h9.all
          go_upto_region 14 with (fail)
          go_wp2_with fail
          refine (hbk1 a2 _ h9.d).mono ?_
          rintro e w10 ⟨rfl, hb⟩
          clear x0 x1 x2 x3 x4 x5 x6 x7
          have h10 := h9.onto hb
          have hr10 := hr9.below hb hr9.lt
          clear hr9
          clear h9 hb
          obtain ⟨x0, x1, x2, x3, x4, x5, x6, x7⟩ := h10.all
          go_upto_region 17 with (fail)
          clear x0 x1 x2 x3 x4 x5 x6 x7
          have hd := ((⟨h10, hr10⟩ : Wr w a v2 a2 w10).drewN 1).all
          go_region_held3 (fun W => (W.cell? ⟨w.heap.size, 0, none⟩ = some (.int .i64 (v2.most : Int)) ∧ W.cell? ⟨w.heap.size, 1, none⟩ = some (.int .i64 (v2.sk.wide : Int)) ∧ W.cell? ⟨w.heap.size, 2, none⟩ = some (.int .u64 (v2.sk.seed : Int)) ∧ W.cell? ⟨w.heap.size, 3, none⟩ = some (.slice (some ⟨a2.R, 0, none⟩) 4 a2.c) ∧ W.cell? ⟨w.heap.size, 4, none⟩ = some (.slice (some ⟨a2.D, 0, none⟩) v2.sk.wide v2.sk.wide) ∧ W.cell? ⟨w.heap.size, 5, none⟩ = some (.int .i64 (v2.sk.added : Int)) ∧ W.cell? ⟨w.heap.size, 6, none⟩ = some (.slice (some ⟨a2.G, 0, none⟩) 3 3) ∧ W.cell? ⟨w.heap.size, 7, none⟩ = some (.int .i64 (v2.pl : Int))) ∧ Wr w a v2 a2 W)
            (first | assumption | exact hd | exact Wr.all (by assumption))
            (first | (go_at_call 13; (with_reducible refine Calls.mono (fs1 a2 _ (by assumption : (_ ∧ _ ∧ _ ∧ _ ∧ _ ∧ _ ∧ _ ∧ _) ∧ _).2) ?_); rintro e wv ⟨rfl, hwv⟩) | (go_at_call 13; (with_reducible refine Calls.mono (fs2 a2 _ (by assumption : (_ ∧ _ ∧ _ ∧ _ ∧ _ ∧ _ ∧ _ ∧ _) ∧ _).2) ?_); rintro e wv ⟨rfl, hwv⟩) | fail)
          have hZ := (by assumption : (_ ∧ _ ∧ _ ∧ _ ∧ _ ∧ _ ∧ _ ∧ _) ∧ Wr w a v2 a2 _).2
          have h11 := hZ.k
          have hr11 := hZ.r
          clear hd hZ h10 hr10
          obtain ⟨x0, x1, x2, x3, x4, x5, x6, x7⟩ := h11.all
          go_wp2_with fail
          refine (hdr a2 _ h11.d).mono ?_
          rintro e w12 ⟨a3, rfl, e1, e2, e3, hg⟩
          clear x0 x1 x2 x3 x4 x5 x6 x7
          have hbx := h11.box.below hg.below h11.box.lt
          have y6 := hbx.cell 6
          have f6 := hbx.free 6
          have y7 := hbx.cell 7
          have f7 := hbx.free 7
          simp only [List.getElem?_toArray, List.getElem?_cons_zero, List.getElem?_cons_succ] at y6 y7
          go_upto_region 21 with (fail)
          clear y6 f6 y7 f7
          have h13 := h11.lists hg HN3.out HM3.out HS3.out ⟨e1, e2, e3⟩
          rw [pl_of HM3.out] at h13
          have hr13 : Blk ((w12.setCell ⟨w.heap.size, 6, none⟩ (.slice (some ⟨a3.G, 0, none⟩) 3 3)).setCell ⟨w.heap.size, 7, none⟩ (.int .i64 (v2.pl : Int))) (w.heap.size + 1) 36 #[.int .i64 0, .int .i64 0, .int .u64 0, .slice none 0 0, .slice none 0 0, .int .i64 0, .slice none 0 0, .int .i64 0] := (far2 _ (by omega) _ _).trans (hr11.below hg.below hr11.lt)
          clear hr11
          generalize ((w12.setCell ⟨w.heap.size, 6, none⟩ (.slice (some ⟨a3.G, 0, none⟩) 3 3)).setCell ⟨w.heap.size, 7, none⟩ (.int .i64 (v2.pl : Int))) = w13 at *
          clear h11 hbx hg e1 e2 e3
          obtain ⟨x0, x1, x2, x3, x4, x5, x6, x7⟩ := h13.all
          have hbl := (Below.refl _ w13).alloc (Nat.le_refl _) (.cells #[.string (str one)] 9)
          have hT := Told.lit (w := w) (x := w13) h13.below.size one
          have hq9 : ∀ q, (Value.slice (some ⟨w13.heap.size, 0, none⟩) 1 1).ownBlock = some q → w.heap.size + 2 ≤ q := fun q e => by
            have e2 : w13.heap.size = q := by injection e
            have := h13.sz
            omega
          have HT := Lib.hid hT
          have HQ9 := Lib.hid hq9
          clear hT hq9
          have h14 := h13.onto hbl
          have hr14 := hr13.below hbl hr13.lt
          clear hr13 hbl
          have z0 := hr14.cell 0
          have f0 := hr14.free 0
          have z1 := hr14.cell 1
          have f1 := hr14.free 1
          have z2 := hr14.cell 2
          have f2 := hr14.free 2
          have z3 := hr14.cell 3
          have f3 := hr14.free 3
          have z4 := hr14.cell 4
          have f4 := hr14.free 4
          have z5 := hr14.cell 5
          have f5 := hr14.free 5
          have z6 := hr14.cell 6
          have f6 := hr14.free 6
          have z7 := hr14.cell 7
          have f7 := hr14.free 7
          simp only [List.getElem?_toArray, List.getElem?_cons_zero, List.getElem?_cons_succ] at z0 z1 z2 z3 z4 z5 z6 z7
          go_wp2_with fail
          obtain ⟨hG, hB⟩ := res_goes h14 (Goes.refl h14.d) HN3.out (b := w.heap.size + 1) (by omega) (by omega) hr14
          refine bodyPost_ret (results_row_tmp rfl _ _ (w.heap.size + 1) rfl (run_loadVar_row _ _ _ _ _ _ _ hB Tryz.underlying36 rfl (by kernel_rfl))) rfl ⟨a3, _, by rw [HQ.out.1] <;> rfl, by rw [HQ.out.1]; exact hG, by rw [HQ.out.2]; exact HT.out.far (fun q hq => far8 _ (by omega) _ _ _ _ _ _ _ _) HQ9.out⟩
        · have hst : v2.stays one = some o := by unfold Tv.stays; rw [e5]; exact if_neg hse
          have e6 : decide ((v2.seen o : Int) < (v2.seen one : Int)) = true := decide_eq_true (by omega)
          have e7 : decide (v2.seen o < v2.seen one) = true := decide_eq_true (by omega)
          have e8 : v2.seen o < v2.seen one := by omega
          clear e5
          have hq3 : s = (v2.dr o).fr 1 one ∧ sk = [o] := by rw [hst] at hq; exact hq
          have hdr := fun (a2 : Ad) (W : World) (hW : Dt W v2 a2) => d_drop hok2 o W hW
          have HN3 := Lib.hid (show (v2.dr o).rg.n = 3 from hok2.fit.n)
          have HM3 := Lib.hid (show (v2.dr o).most = v2.most from rfl)
          have HS3 := Lib.hid (show (v2.dr o).sk = v2.sk from rfl)
          have hok3 := hok2.dr o
          have hc3 : (v2.dr o).can one := hok3.fit.in_ hok3.fit.n (i := 0) (by omega) (Tv.mem_dr.2 ⟨hF.mem, fun e => hne e.symm⟩)
          have hfr1 := fun (a3 : Ad) (W : World) (hW : Dt W (v2.dr o) a3) => rfr_c (jj := 1) (j := 1) rfl hok3 (by omega) hol hc3 W hW
          have HN4 := Lib.hid (show ((v2.dr o).fr 1 one).rg.n = 3 from hok2.fit.n)
          generalize (v2.dr o).fr 1 one = v4 at *
          generalize v2.dr o = v3 at *
          have HQ := Lib.hid hq3
          clear hq hq3 hst hF hok2 hok3 hc3
          go_enter Tryz.func35, Tryz.ntmps35
          go_upto_region 1 with (fail)
          generalize (w.alloc (.cells #[.int .i64 (v.most : Int), .int .i64 (v.sk.wide : Int), .int .u64 (v.sk.seed : Int), .slice (some ⟨a.R, 0, none⟩) 4 a.c, .slice (some ⟨a.D, 0, none⟩) v.sk.wide v.sk.wide, .int .i64 (v.sk.added : Int), .slice (some ⟨a.G, 0, none⟩) 3 3, .int .i64 (v.pl : Int)] 36)).alloc (.cells #[.int .i64 0, .int .i64 0, .int .u64 0, .slice none 0 0, .slice none 0 0, .int .i64 0, .slice none 0 0, .int .i64 0] 36) = w1 at *
          obtain ⟨x0, x1, x2, x3, x4, x5, x6, x7⟩ := h1.all
          go_wp2_with fail
          refine (htc _ h1.d).mono ?_
          rintro e w2 ⟨a9, rfl, hg⟩
          clear x0 x1 x2 x3 x4 x5 x6 x7
          have hb2 := (Below.refl _ w2).alloc (Nat.le_refl _) (.cells #[.int .i64 (v.most : Int), .int .i64 (v.sk.wide : Int), .int .u64 (v.sk.seed : Int), .slice (some ⟨a9.R, 0, none⟩) 4 a9.c, .slice (some ⟨a9.D, 0, none⟩) v.sk.wide v.sk.wide, .int .i64 (v.sk.added : Int), .slice (some ⟨a9.G, 0, none⟩) 3 3, .int .i64 (v.pl : Int)] 36)
          have h2 := (h1.onto hg.below).onto hb2
          have hr2 := (hr1.below hg.below hr1.lt).below hb2 (hr1.below hg.below hr1.lt).lt
          clear hr1 h1 hb2 hg
          go_upto_region 6 with (fail)
          generalize w2.alloc (.cells #[.int .i64 (v.most : Int), .int .i64 (v.sk.wide : Int), .int .u64 (v.sk.seed : Int), .slice (some ⟨a9.R, 0, none⟩) 4 a9.c, .slice (some ⟨a9.D, 0, none⟩) v.sk.wide v.sk.wide, .int .i64 (v.sk.added : Int), .slice (some ⟨a9.G, 0, none⟩) 3 3, .int .i64 (v.pl : Int)] 36) = w3 at *
          obtain ⟨x0, x1, x2, x3, x4, x5, x6, x7⟩ := h2.all
          go_wp2_with fail
          refine (hadd _ h2.d).mono ?_
          rintro e w3 ⟨a1, rfl, eG, hg⟩
          clear x0 x1 x2 x3 x4 x5 x6 x7
          have hbx := h2.box.below hg.below h2.box.lt
          have y1 := hbx.cell 1
          have f1 := hbx.free 1
          have y2 := hbx.cell 2
          have f2 := hbx.free 2
          have y3 := hbx.cell 3
          have f3 := hbx.free 3
          have y4 := hbx.cell 4
          have f4 := hbx.free 4
          have y5 := hbx.cell 5
          have f5 := hbx.free 5
          simp only [List.getElem?_toArray, List.getElem?_cons_zero, List.getElem?_cons_succ] at y1 y2 y3 y4 y5
          go_upto_region 7 with (fail)
          clear y1 f1 y2 f2 y3 f3 y4 f4 y5 f5
          have h4 := h2.sketch hg HN1.out HM1.out eG
          have hr4 : Blk (((((w3.setCell ⟨w.heap.size, 1, none⟩ (.int .i64 (v1.sk.wide : Int))).setCell ⟨w.heap.size, 2, none⟩ (.int .u64 (v1.sk.seed : Int))).setCell ⟨w.heap.size, 3, none⟩ (.slice (some ⟨a1.R, 0, none⟩) 4 a1.c)).setCell ⟨w.heap.size, 4, none⟩ (.slice (some ⟨a1.D, 0, none⟩) v1.sk.wide v1.sk.wide)).setCell ⟨w.heap.size, 5, none⟩ (.int .i64 (v1.sk.added : Int))) (w.heap.size + 1) 36 #[.int .i64 0, .int .i64 0, .int .u64 0, .slice none 0 0, .slice none 0 0, .int .i64 0, .slice none 0 0, .int .i64 0] := (far5 _ (by omega) _ _ _ _ _).trans (hr2.below hg.below hr2.lt)
          clear hr2
          generalize (((((w3.setCell ⟨w.heap.size, 1, none⟩ (.int .i64 (v1.sk.wide : Int))).setCell ⟨w.heap.size, 2, none⟩ (.int .u64 (v1.sk.seed : Int))).setCell ⟨w.heap.size, 3, none⟩ (.slice (some ⟨a1.R, 0, none⟩) 4 a1.c)).setCell ⟨w.heap.size, 4, none⟩ (.slice (some ⟨a1.D, 0, none⟩) v1.sk.wide v1.sk.wide)).setCell ⟨w.heap.size, 5, none⟩ (.int .i64 (v1.sk.added : Int))) = w4 at *
          clear h2 hbx hg eG
          obtain ⟨x0, x1, x2, x3, x4, x5, x6, x7⟩ := h4.all
          go_wp2_with fail
          refine (hfr a1 _ h4.d).mono ?_
          rintro e w5 ⟨a2, rfl, hg⟩
          clear x0 x1 x2 x3 x4 x5 x6 x7
          have hbx := h4.box.below hg.below h4.box.lt
          have y0 := hbx.cell 0
          have f0 := hbx.free 0
          have y1 := hbx.cell 1
          have f1 := hbx.free 1
          have y2 := hbx.cell 2
          have f2 := hbx.free 2
          have y3 := hbx.cell 3
          have f3 := hbx.free 3
          have y4 := hbx.cell 4
          have f4 := hbx.free 4
          have y5 := hbx.cell 5
          have f5 := hbx.free 5
          have y6 := hbx.cell 6
          have f6 := hbx.free 6
          have y7 := hbx.cell 7
          have f7 := hbx.free 7
          simp only [List.getElem?_toArray, List.getElem?_cons_zero, List.getElem?_cons_succ] at y0 y1 y2 y3 y4 y5 y6 y7
          go_upto_region 8 with (fail)
          clear y0 f0 y1 f1 y2 f2 y3 f3 y4 f4 y5 f5 y6 f6 y7 f7
          have h6 := h4.whole hg HN2.out
          have hr6 : Blk ((((((((w5.setCell ⟨w.heap.size, 0, none⟩ (.int .i64 (v2.most : Int))).setCell ⟨w.heap.size, 1, none⟩ (.int .i64 (v2.sk.wide : Int))).setCell ⟨w.heap.size, 2, none⟩ (.int .u64 (v2.sk.seed : Int))).setCell ⟨w.heap.size, 3, none⟩ (.slice (some ⟨a2.R, 0, none⟩) 4 a2.c)).setCell ⟨w.heap.size, 4, none⟩ (.slice (some ⟨a2.D, 0, none⟩) v2.sk.wide v2.sk.wide)).setCell ⟨w.heap.size, 5, none⟩ (.int .i64 (v2.sk.added : Int))).setCell ⟨w.heap.size, 6, none⟩ (.slice (some ⟨a2.G, 0, none⟩) 3 3)).setCell ⟨w.heap.size, 7, none⟩ (.int .i64 (v2.pl : Int))) (w.heap.size + 1) 36 #[.int .i64 0, .int .i64 0, .int .u64 0, .slice none 0 0, .slice none 0 0, .int .i64 0, .slice none 0 0, .int .i64 0] := (far8 _ (by omega) _ _ _ _ _ _ _ _).trans (hr4.below hg.below hr4.lt)
          clear hr4
          generalize ((((((((w5.setCell ⟨w.heap.size, 0, none⟩ (.int .i64 (v2.most : Int))).setCell ⟨w.heap.size, 1, none⟩ (.int .i64 (v2.sk.wide : Int))).setCell ⟨w.heap.size, 2, none⟩ (.int .u64 (v2.sk.seed : Int))).setCell ⟨w.heap.size, 3, none⟩ (.slice (some ⟨a2.R, 0, none⟩) 4 a2.c)).setCell ⟨w.heap.size, 4, none⟩ (.slice (some ⟨a2.D, 0, none⟩) v2.sk.wide v2.sk.wide)).setCell ⟨w.heap.size, 5, none⟩ (.int .i64 (v2.sk.added : Int))).setCell ⟨w.heap.size, 6, none⟩ (.slice (some ⟨a2.G, 0, none⟩) 3 3)).setCell ⟨w.heap.size, 7, none⟩ (.int .i64 (v2.pl : Int))) = w6 at *
          clear h4 hbx hg
          obtain ⟨x0, x1, x2, x3, x4, x5, x6, x7⟩ := h6.all
          go_wp2_with fail
          refine (hpa a2 _ h6.d).mono ?_
          rintro e w7 ⟨rfl, hb⟩
          clear x0 x1 x2 x3 x4 x5 x6 x7
          have h7 := h6.onto hb
          have hr7 := hr6.below hb hr6.lt
          clear hr6
          clear h6 hb
          obtain ⟨x0, x1, x2, x3, x4, x5, x6, x7⟩ := h7.all
          obtain ⟨ga, gc, q1⟩ := h7.d.list HN2.out (i := 0) (by omega)
          go_upto_region 11 with (fail)
          clear q1
          go_wp2_with fail
          refine (hbk0 a2 _ h7.d).mono ?_
          rintro e w8 ⟨rfl, hb⟩
          clear x0 x1 x2 x3 x4 x5 x6 x7
          have h8 := h7.onto hb
          have hr8 := hr7.below hb hr7.lt
          clear hr7
          clear h7 hb
          obtain ⟨x0, x1, x2, x3, x4, x5, x6, x7⟩ := h8.all
          go_upto_region 12 with (fail)
          clear x0 x1 x2 x3 x4 x5 x6 x7
          have hd := ((⟨h8, hr8⟩ : Wr w a v2 a2 w8).drewN 1).all
          go_region_held3 (fun W => (W.cell? ⟨w.heap.size, 0, none⟩ = some (.int .i64 (v2.most : Int)) ∧ W.cell? ⟨w.heap.size, 1, none⟩ = some (.int .i64 (v2.sk.wide : Int)) ∧ W.cell? ⟨w.heap.size, 2, none⟩ = some (.int .u64 (v2.sk.seed : Int)) ∧ W.cell? ⟨w.heap.size, 3, none⟩ = some (.slice (some ⟨a2.R, 0, none⟩) 4 a2.c) ∧ W.cell? ⟨w.heap.size, 4, none⟩ = some (.slice (some ⟨a2.D, 0, none⟩) v2.sk.wide v2.sk.wide) ∧ W.cell? ⟨w.heap.size, 5, none⟩ = some (.int .i64 (v2.sk.added : Int)) ∧ W.cell? ⟨w.heap.size, 6, none⟩ = some (.slice (some ⟨a2.G, 0, none⟩) 3 3) ∧ W.cell? ⟨w.heap.size, 7, none⟩ = some (.int .i64 (v2.pl : Int))) ∧ Wr w a v2 a2 W)
            (first | assumption | exact hd | exact Wr.all (by assumption))
            (first | (go_at_call 38; (with_reducible refine Calls.mono (fL a2 _ (by assumption : (_ ∧ _ ∧ _ ∧ _ ∧ _ ∧ _ ∧ _ ∧ _) ∧ _).2) ?_); rintro e wv ⟨rfl, hwv⟩) | fail)
          have hZ := (by assumption : (_ ∧ _ ∧ _ ∧ _ ∧ _ ∧ _ ∧ _ ∧ _) ∧ Wr w a v2 a2 _).2
          have h9 := hZ.k
          have hr9 := hZ.r
          clear hd hZ h8 hr8
          obtain ⟨x0, x1, x2, x3, x4, x5, x6, x7⟩ := h9.all
          go_upto_region 14 with (fail)
          go_wp2_with fail
          refine (hbk1 a2 _ h9.d).mono ?_
          rintro e w10 ⟨rfl, hb⟩
          clear x0 x1 x2 x3 x4 x5 x6 x7
          have h10 := h9.onto hb
          have hr10 := hr9.below hb hr9.lt
          clear hr9
          clear h9 hb
          obtain ⟨x0, x1, x2, x3, x4, x5, x6, x7⟩ := h10.all
          go_upto_region 17 with (fail)
          clear x0 x1 x2 x3 x4 x5 x6 x7
          have hd := ((⟨h10, hr10⟩ : Wr w a v2 a2 w10).drewN 1).all
          go_region_held3 (fun W => (W.cell? ⟨w.heap.size, 0, none⟩ = some (.int .i64 (v2.most : Int)) ∧ W.cell? ⟨w.heap.size, 1, none⟩ = some (.int .i64 (v2.sk.wide : Int)) ∧ W.cell? ⟨w.heap.size, 2, none⟩ = some (.int .u64 (v2.sk.seed : Int)) ∧ W.cell? ⟨w.heap.size, 3, none⟩ = some (.slice (some ⟨a2.R, 0, none⟩) 4 a2.c) ∧ W.cell? ⟨w.heap.size, 4, none⟩ = some (.slice (some ⟨a2.D, 0, none⟩) v2.sk.wide v2.sk.wide) ∧ W.cell? ⟨w.heap.size, 5, none⟩ = some (.int .i64 (v2.sk.added : Int)) ∧ W.cell? ⟨w.heap.size, 6, none⟩ = some (.slice (some ⟨a2.G, 0, none⟩) 3 3) ∧ W.cell? ⟨w.heap.size, 7, none⟩ = some (.int .i64 (v2.pl : Int))) ∧ Wr w a v2 a2 W)
            (first | assumption | exact hd | exact Wr.all (by assumption))
            (first | (go_at_call 13; (with_reducible refine Calls.mono (fs1 a2 _ (by assumption : (_ ∧ _ ∧ _ ∧ _ ∧ _ ∧ _ ∧ _ ∧ _) ∧ _).2) ?_); rintro e wv ⟨rfl, hwv⟩) | (go_at_call 13; (with_reducible refine Calls.mono (fs2 a2 _ (by assumption : (_ ∧ _ ∧ _ ∧ _ ∧ _ ∧ _ ∧ _ ∧ _) ∧ _).2) ?_); rintro e wv ⟨rfl, hwv⟩) | fail)
          have hZ := (by assumption : (_ ∧ _ ∧ _ ∧ _ ∧ _ ∧ _ ∧ _ ∧ _) ∧ Wr w a v2 a2 _).2
          have h11 := hZ.k
          have hr11 := hZ.r
          clear hd hZ h10 hr10
          obtain ⟨x0, x1, x2, x3, x4, x5, x6, x7⟩ := h11.all
          go_wp2_with fail
          refine (hdr a2 _ h11.d).mono ?_
          rintro e w12 ⟨a3, rfl, e1, e2, e3, hg⟩
          clear x0 x1 x2 x3 x4 x5 x6 x7
          have hbx := h11.box.below hg.below h11.box.lt
          have y6 := hbx.cell 6
          have f6 := hbx.free 6
          have y7 := hbx.cell 7
          have f7 := hbx.free 7
          simp only [List.getElem?_toArray, List.getElem?_cons_zero, List.getElem?_cons_succ] at y6 y7
          go_upto_region 19 with (fail)
          clear y6 f6 y7 f7
          have h13 := h11.lists hg HN3.out HM3.out HS3.out ⟨e1, e2, e3⟩
          rw [pl_of HM3.out] at h13
          have hr13 : Blk ((w12.setCell ⟨w.heap.size, 6, none⟩ (.slice (some ⟨a3.G, 0, none⟩) 3 3)).setCell ⟨w.heap.size, 7, none⟩ (.int .i64 (v2.pl : Int))) (w.heap.size + 1) 36 #[.int .i64 0, .int .i64 0, .int .u64 0, .slice none 0 0, .slice none 0 0, .int .i64 0, .slice none 0 0, .int .i64 0] := (far2 _ (by omega) _ _).trans (hr11.below hg.below hr11.lt)
          clear hr11
          generalize ((w12.setCell ⟨w.heap.size, 6, none⟩ (.slice (some ⟨a3.G, 0, none⟩) 3 3)).setCell ⟨w.heap.size, 7, none⟩ (.int .i64 (v2.pl : Int))) = w13 at *
          clear h11 hbx hg e1 e2 e3
          obtain ⟨x0, x1, x2, x3, x4, x5, x6, x7⟩ := h13.all
          go_wp2_with fail
          refine (hfr1 a3 _ h13.d).mono ?_
          rintro e w14 ⟨a4, rfl, hg⟩
          clear x0 x1 x2 x3 x4 x5 x6 x7
          have hbl := (Below.refl _ w14).alloc (Nat.le_refl _) (.cells #[.string (str o)] 9)
          have hsz9 := Nat.le_trans h13.sz hg.below.size
          have hT := Told.lit (w := w) (x := w14) (by omega) o
          have hq9 : ∀ q, (Value.slice (some ⟨w14.heap.size, 0, none⟩) 1 1).ownBlock = some q → w.heap.size + 2 ≤ q := fun q e => by
            have e2 : w14.heap.size = q := by injection e
            omega
          have HT := Lib.hid hT
          have HQ9 := Lib.hid hq9
          clear hT hq9 hsz9
          have hg2 := hg.onto hbl
          have hrx := (hr13.below hg.below hr13.lt).below hbl (hr13.below hg.below hr13.lt).lt
          clear hr13 hbl hg
          have y0 := hrx.cell 0
          have f0 := hrx.free 0
          have y1 := hrx.cell 1
          have f1 := hrx.free 1
          have y2 := hrx.cell 2
          have f2 := hrx.free 2
          have y3 := hrx.cell 3
          have f3 := hrx.free 3
          have y4 := hrx.cell 4
          have f4 := hrx.free 4
          have y5 := hrx.cell 5
          have f5 := hrx.free 5
          have y6 := hrx.cell 6
          have f6 := hrx.free 6
          have y7 := hrx.cell 7
          have f7 := hrx.free 7
          simp only [List.getElem?_toArray, List.getElem?_cons_zero, List.getElem?_cons_succ] at y0 y1 y2 y3 y4 y5 y6 y7
          go_wp2_with fail
          obtain ⟨hG, hB⟩ := res_goes h13 hg2 HN4.out (b := w.heap.size + 1) (by omega) (by omega) hrx
          refine bodyPost_ret (results_row_tmp rfl _ _ (w.heap.size + 1) rfl (run_loadVar_row _ _ _ _ _ _ _ hB Tryz.underlying36 rfl (by kernel_rfl))) rfl ⟨a4, _, by rw [HQ.out.1] <;> rfl, by rw [HQ.out.1]; exact hG, by rw [HQ.out.2]; exact HT.out.far (fun q hq => far8 _ (by omega) _ _ _ _ _ _ _ _) HQ9.out⟩
      | none =>
        simp only [e1b, Option.getD_none, Option.isSome_none] at hbk1
        cases e2b : v2.last 2 with
        | some o =>
          have e5 : v2.first [1, 2] = some o := by unfold Tv.first; rw [e1b]; unfold Tv.first; rw [e2b]
          obtain ⟨hol2, hne, io, hio, hmo⟩ := hF.stays_in e5
          simp only [e2b, Option.getD_some, Option.isSome_some] at hbk2
          have fs1 := fun (a2 : Ad) (W : World) (hW : Wr w a v2 a2 W) => wr_seen (one := one) hok2 hol hW
          have fs2 := fun (a2 : Ad) (W : World) (hW : Wr w a v2 a2 W) => wr_seen (one := o) hok2 hol2 hW
          clear e1b e2b hmo
          by_cases hse : v2.seen one ≤ v2.seen o
          · have hst : v2.stays one = none := by unfold Tv.stays; rw [e5]; exact if_pos hse
            have e6 : decide ((v2.seen o : Int) < (v2.seen one : Int)) = false := decide_eq_false (by omega)
            have e7 : decide (v2.seen o < v2.seen one) = false := decide_eq_false (by omega)
            have e8 : ¬ v2.seen o < v2.seen one := by omega
            clear e5
            have hq3 : s = v2.dr one ∧ sk = [one] := by rw [hst] at hq; exact hq
            have hdr := fun (a2 : Ad) (W : World) (hW : Dt W v2 a2) => d_drop hok2 one W hW
            have HN3 := Lib.hid (show (v2.dr one).rg.n = 3 from hok2.fit.n)
            have HM3 := Lib.hid (show (v2.dr one).most = v2.most from rfl)
            have HS3 := Lib.hid (show (v2.dr one).sk = v2.sk from rfl)
            generalize v2.dr one = v3 at *
            have HQ := Lib.hid hq3
            clear hq hq3 hst hF hok2
            go_enter Tryz.func35, Tryz.ntmps35
            go_upto_region 1 with (fail)
            generalize (w.alloc (.cells #[.int .i64 (v.most : Int), .int .i64 (v.sk.wide : Int), .int .u64 (v.sk.seed : Int), .slice (some ⟨a.R, 0, none⟩) 4 a.c, .slice (some ⟨a.D, 0, none⟩) v.sk.wide v.sk.wide, .int .i64 (v.sk.added : Int), .slice (some ⟨a.G, 0, none⟩) 3 3, .int .i64 (v.pl : Int)] 36)).alloc (.cells #[.int .i64 0, .int .i64 0, .int .u64 0, .slice none 0 0, .slice none 0 0, .int .i64 0, .slice none 0 0, .int .i64 0] 36) = w1 at *
            obtain ⟨x0, x1, x2, x3, x4, x5, x6, x7⟩ := h1.all
            go_wp2_with fail
            refine (htc _ h1.d).mono ?_
            rintro e w2 ⟨a9, rfl, hg⟩
            clear x0 x1 x2 x3 x4 x5 x6 x7
            have hb2 := (Below.refl _ w2).alloc (Nat.le_refl _) (.cells #[.int .i64 (v.most : Int), .int .i64 (v.sk.wide : Int), .int .u64 (v.sk.seed : Int), .slice (some ⟨a9.R, 0, none⟩) 4 a9.c, .slice (some ⟨a9.D, 0, none⟩) v.sk.wide v.sk.wide, .int .i64 (v.sk.added : Int), .slice (some ⟨a9.G, 0, none⟩) 3 3, .int .i64 (v.pl : Int)] 36)
            have h2 := (h1.onto hg.below).onto hb2
            have hr2 := (hr1.below hg.below hr1.lt).below hb2 (hr1.below hg.below hr1.lt).lt
            clear hr1 h1 hb2 hg
            go_upto_region 6 with (fail)
            generalize w2.alloc (.cells #[.int .i64 (v.most : Int), .int .i64 (v.sk.wide : Int), .int .u64 (v.sk.seed : Int), .slice (some ⟨a9.R, 0, none⟩) 4 a9.c, .slice (some ⟨a9.D, 0, none⟩) v.sk.wide v.sk.wide, .int .i64 (v.sk.added : Int), .slice (some ⟨a9.G, 0, none⟩) 3 3, .int .i64 (v.pl : Int)] 36) = w3 at *
            obtain ⟨x0, x1, x2, x3, x4, x5, x6, x7⟩ := h2.all
            go_wp2_with fail
            refine (hadd _ h2.d).mono ?_
            rintro e w3 ⟨a1, rfl, eG, hg⟩
            clear x0 x1 x2 x3 x4 x5 x6 x7
            have hbx := h2.box.below hg.below h2.box.lt
            have y1 := hbx.cell 1
            have f1 := hbx.free 1
            have y2 := hbx.cell 2
            have f2 := hbx.free 2
            have y3 := hbx.cell 3
            have f3 := hbx.free 3
            have y4 := hbx.cell 4
            have f4 := hbx.free 4
            have y5 := hbx.cell 5
            have f5 := hbx.free 5
            simp only [List.getElem?_toArray, List.getElem?_cons_zero, List.getElem?_cons_succ] at y1 y2 y3 y4 y5
            go_upto_region 7 with (fail)
            clear y1 f1 y2 f2 y3 f3 y4 f4 y5 f5
            have h4 := h2.sketch hg HN1.out HM1.out eG
            have hr4 : Blk (((((w3.setCell ⟨w.heap.size, 1, none⟩ (.int .i64 (v1.sk.wide : Int))).setCell ⟨w.heap.size, 2, none⟩ (.int .u64 (v1.sk.seed : Int))).setCell ⟨w.heap.size, 3, none⟩ (.slice (some ⟨a1.R, 0, none⟩) 4 a1.c)).setCell ⟨w.heap.size, 4, none⟩ (.slice (some ⟨a1.D, 0, none⟩) v1.sk.wide v1.sk.wide)).setCell ⟨w.heap.size, 5, none⟩ (.int .i64 (v1.sk.added : Int))) (w.heap.size + 1) 36 #[.int .i64 0, .int .i64 0, .int .u64 0, .slice none 0 0, .slice none 0 0, .int .i64 0, .slice none 0 0, .int .i64 0] := (far5 _ (by omega) _ _ _ _ _).trans (hr2.below hg.below hr2.lt)
            clear hr2
            generalize (((((w3.setCell ⟨w.heap.size, 1, none⟩ (.int .i64 (v1.sk.wide : Int))).setCell ⟨w.heap.size, 2, none⟩ (.int .u64 (v1.sk.seed : Int))).setCell ⟨w.heap.size, 3, none⟩ (.slice (some ⟨a1.R, 0, none⟩) 4 a1.c)).setCell ⟨w.heap.size, 4, none⟩ (.slice (some ⟨a1.D, 0, none⟩) v1.sk.wide v1.sk.wide)).setCell ⟨w.heap.size, 5, none⟩ (.int .i64 (v1.sk.added : Int))) = w4 at *
            clear h2 hbx hg eG
            obtain ⟨x0, x1, x2, x3, x4, x5, x6, x7⟩ := h4.all
            go_wp2_with fail
            refine (hfr a1 _ h4.d).mono ?_
            rintro e w5 ⟨a2, rfl, hg⟩
            clear x0 x1 x2 x3 x4 x5 x6 x7
            have hbx := h4.box.below hg.below h4.box.lt
            have y0 := hbx.cell 0
            have f0 := hbx.free 0
            have y1 := hbx.cell 1
            have f1 := hbx.free 1
            have y2 := hbx.cell 2
            have f2 := hbx.free 2
            have y3 := hbx.cell 3
            have f3 := hbx.free 3
            have y4 := hbx.cell 4
            have f4 := hbx.free 4
            have y5 := hbx.cell 5
            have f5 := hbx.free 5
            have y6 := hbx.cell 6
            have f6 := hbx.free 6
            have y7 := hbx.cell 7
            have f7 := hbx.free 7
            simp only [List.getElem?_toArray, List.getElem?_cons_zero, List.getElem?_cons_succ] at y0 y1 y2 y3 y4 y5 y6 y7
            go_upto_region 8 with (fail)
            clear y0 f0 y1 f1 y2 f2 y3 f3 y4 f4 y5 f5 y6 f6 y7 f7
            have h6 := h4.whole hg HN2.out
            have hr6 : Blk ((((((((w5.setCell ⟨w.heap.size, 0, none⟩ (.int .i64 (v2.most : Int))).setCell ⟨w.heap.size, 1, none⟩ (.int .i64 (v2.sk.wide : Int))).setCell ⟨w.heap.size, 2, none⟩ (.int .u64 (v2.sk.seed : Int))).setCell ⟨w.heap.size, 3, none⟩ (.slice (some ⟨a2.R, 0, none⟩) 4 a2.c)).setCell ⟨w.heap.size, 4, none⟩ (.slice (some ⟨a2.D, 0, none⟩) v2.sk.wide v2.sk.wide)).setCell ⟨w.heap.size, 5, none⟩ (.int .i64 (v2.sk.added : Int))).setCell ⟨w.heap.size, 6, none⟩ (.slice (some ⟨a2.G, 0, none⟩) 3 3)).setCell ⟨w.heap.size, 7, none⟩ (.int .i64 (v2.pl : Int))) (w.heap.size + 1) 36 #[.int .i64 0, .int .i64 0, .int .u64 0, .slice none 0 0, .slice none 0 0, .int .i64 0, .slice none 0 0, .int .i64 0] := (far8 _ (by omega) _ _ _ _ _ _ _ _).trans (hr4.below hg.below hr4.lt)
            clear hr4
            generalize ((((((((w5.setCell ⟨w.heap.size, 0, none⟩ (.int .i64 (v2.most : Int))).setCell ⟨w.heap.size, 1, none⟩ (.int .i64 (v2.sk.wide : Int))).setCell ⟨w.heap.size, 2, none⟩ (.int .u64 (v2.sk.seed : Int))).setCell ⟨w.heap.size, 3, none⟩ (.slice (some ⟨a2.R, 0, none⟩) 4 a2.c)).setCell ⟨w.heap.size, 4, none⟩ (.slice (some ⟨a2.D, 0, none⟩) v2.sk.wide v2.sk.wide)).setCell ⟨w.heap.size, 5, none⟩ (.int .i64 (v2.sk.added : Int))).setCell ⟨w.heap.size, 6, none⟩ (.slice (some ⟨a2.G, 0, none⟩) 3 3)).setCell ⟨w.heap.size, 7, none⟩ (.int .i64 (v2.pl : Int))) = w6 at *
            clear h4 hbx hg
            obtain ⟨x0, x1, x2, x3, x4, x5, x6, x7⟩ := h6.all
            go_wp2_with fail
            refine (hpa a2 _ h6.d).mono ?_
            rintro e w7 ⟨rfl, hb⟩
            clear x0 x1 x2 x3 x4 x5 x6 x7
            have h7 := h6.onto hb
            have hr7 := hr6.below hb hr6.lt
            clear hr6
            clear h6 hb
            obtain ⟨x0, x1, x2, x3, x4, x5, x6, x7⟩ := h7.all
            obtain ⟨ga, gc, q1⟩ := h7.d.list HN2.out (i := 0) (by omega)
            go_upto_region 11 with (fail)
            clear q1
            go_wp2_with fail
            refine (hbk0 a2 _ h7.d).mono ?_
            rintro e w8 ⟨rfl, hb⟩
            clear x0 x1 x2 x3 x4 x5 x6 x7
            have h8 := h7.onto hb
            have hr8 := hr7.below hb hr7.lt
            clear hr7
            clear h7 hb
            obtain ⟨x0, x1, x2, x3, x4, x5, x6, x7⟩ := h8.all
            go_upto_region 12 with (fail)
            clear x0 x1 x2 x3 x4 x5 x6 x7
            have hd := ((⟨h8, hr8⟩ : Wr w a v2 a2 w8).drewN 1).all
            go_region_held3 (fun W => (W.cell? ⟨w.heap.size, 0, none⟩ = some (.int .i64 (v2.most : Int)) ∧ W.cell? ⟨w.heap.size, 1, none⟩ = some (.int .i64 (v2.sk.wide : Int)) ∧ W.cell? ⟨w.heap.size, 2, none⟩ = some (.int .u64 (v2.sk.seed : Int)) ∧ W.cell? ⟨w.heap.size, 3, none⟩ = some (.slice (some ⟨a2.R, 0, none⟩) 4 a2.c) ∧ W.cell? ⟨w.heap.size, 4, none⟩ = some (.slice (some ⟨a2.D, 0, none⟩) v2.sk.wide v2.sk.wide) ∧ W.cell? ⟨w.heap.size, 5, none⟩ = some (.int .i64 (v2.sk.added : Int)) ∧ W.cell? ⟨w.heap.size, 6, none⟩ = some (.slice (some ⟨a2.G, 0, none⟩) 3 3) ∧ W.cell? ⟨w.heap.size, 7, none⟩ = some (.int .i64 (v2.pl : Int))) ∧ Wr w a v2 a2 W)
              (first | assumption | exact hd | exact Wr.all (by assumption))
              (first | (go_at_call 38; (with_reducible refine Calls.mono (fL a2 _ (by assumption : (_ ∧ _ ∧ _ ∧ _ ∧ _ ∧ _ ∧ _ ∧ _) ∧ _).2) ?_); rintro e wv ⟨rfl, hwv⟩) | fail)
            have hZ := (by assumption : (_ ∧ _ ∧ _ ∧ _ ∧ _ ∧ _ ∧ _ ∧ _) ∧ Wr w a v2 a2 _).2
            have h9 := hZ.k
            have hr9 := hZ.r
            clear hd hZ h8 hr8
            obtain ⟨x0, x1, x2, x3, x4, x5, x6, x7⟩ := h9.all
            go_upto_region 14 with (fail)
            go_wp2_with fail
            refine (hbk1 a2 _ h9.d).mono ?_
            rintro e w10 ⟨rfl, hb⟩
            clear x0 x1 x2 x3 x4 x5 x6 x7
            have h10 := h9.onto hb
            have hr10 := hr9.below hb hr9.lt
            clear hr9
            clear h9 hb
            obtain ⟨x0, x1, x2, x3, x4, x5, x6, x7⟩ := h10.all
            go_upto_region 16 with (fail)
            go_wp2_with fail
            refine (hbk2 a2 _ h10.d).mono ?_
            rintro e w11 ⟨rfl, hb⟩
            clear x0 x1 x2 x3 x4 x5 x6 x7
            have h11 := h10.onto hb
            have hr11 := hr10.below hb hr10.lt
            clear hr10
            clear h10 hb
            obtain ⟨x0, x1, x2, x3, x4, x5, x6, x7⟩ := h11.all
            go_upto_region 17 with (fail)
            clear x0 x1 x2 x3 x4 x5 x6 x7
            have hd := ((⟨h11, hr11⟩ : Wr w a v2 a2 w11).drewN 1).all
            go_region_held3 (fun W => (W.cell? ⟨w.heap.size, 0, none⟩ = some (.int .i64 (v2.most : Int)) ∧ W.cell? ⟨w.heap.size, 1, none⟩ = some (.int .i64 (v2.sk.wide : Int)) ∧ W.cell? ⟨w.heap.size, 2, none⟩ = some (.int .u64 (v2.sk.seed : Int)) ∧ W.cell? ⟨w.heap.size, 3, none⟩ = some (.slice (some ⟨a2.R, 0, none⟩) 4 a2.c) ∧ W.cell? ⟨w.heap.size, 4, none⟩ = some (.slice (some ⟨a2.D, 0, none⟩) v2.sk.wide v2.sk.wide) ∧ W.cell? ⟨w.heap.size, 5, none⟩ = some (.int .i64 (v2.sk.added : Int)) ∧ W.cell? ⟨w.heap.size, 6, none⟩ = some (.slice (some ⟨a2.G, 0, none⟩) 3 3) ∧ W.cell? ⟨w.heap.size, 7, none⟩ = some (.int .i64 (v2.pl : Int))) ∧ Wr w a v2 a2 W)
              (first | assumption | exact hd | exact Wr.all (by assumption))
              (first | (go_at_call 13; (with_reducible refine Calls.mono (fs1 a2 _ (by assumption : (_ ∧ _ ∧ _ ∧ _ ∧ _ ∧ _ ∧ _ ∧ _) ∧ _).2) ?_); rintro e wv ⟨rfl, hwv⟩) | (go_at_call 13; (with_reducible refine Calls.mono (fs2 a2 _ (by assumption : (_ ∧ _ ∧ _ ∧ _ ∧ _ ∧ _ ∧ _ ∧ _) ∧ _).2) ?_); rintro e wv ⟨rfl, hwv⟩) | fail)
            have hZ := (by assumption : (_ ∧ _ ∧ _ ∧ _ ∧ _ ∧ _ ∧ _ ∧ _) ∧ Wr w a v2 a2 _).2
            have h12 := hZ.k
            have hr12 := hZ.r
            clear hd hZ h11 hr11
            obtain ⟨x0, x1, x2, x3, x4, x5, x6, x7⟩ := h12.all
            go_wp2_with fail
            refine (hdr a2 _ h12.d).mono ?_
            rintro e w13 ⟨a3, rfl, e1, e2, e3, hg⟩
            clear x0 x1 x2 x3 x4 x5 x6 x7
            have hbx := h12.box.below hg.below h12.box.lt
            have y6 := hbx.cell 6
            have f6 := hbx.free 6
            have y7 := hbx.cell 7
            have f7 := hbx.free 7
            simp only [List.getElem?_toArray, List.getElem?_cons_zero, List.getElem?_cons_succ] at y6 y7
            go_upto_region 21 with (fail)
            clear y6 f6 y7 f7
            have h14 := h12.lists hg HN3.out HM3.out HS3.out ⟨e1, e2, e3⟩
            rw [pl_of HM3.out] at h14
            have hr14 : Blk ((w13.setCell ⟨w.heap.size, 6, none⟩ (.slice (some ⟨a3.G, 0, none⟩) 3 3)).setCell ⟨w.heap.size, 7, none⟩ (.int .i64 (v2.pl : Int))) (w.heap.size + 1) 36 #[.int .i64 0, .int .i64 0, .int .u64 0, .slice none 0 0, .slice none 0 0, .int .i64 0, .slice none 0 0, .int .i64 0] := (far2 _ (by omega) _ _).trans (hr12.below hg.below hr12.lt)
            clear hr12
            generalize ((w13.setCell ⟨w.heap.size, 6, none⟩ (.slice (some ⟨a3.G, 0, none⟩) 3 3)).setCell ⟨w.heap.size, 7, none⟩ (.int .i64 (v2.pl : Int))) = w14 at *
            clear h12 hbx hg e1 e2 e3
            obtain ⟨x0, x1, x2, x3, x4, x5, x6, x7⟩ := h14.all
            have hbl := (Below.refl _ w14).alloc (Nat.le_refl _) (.cells #[.string (str one)] 9)
            have hT := Told.lit (w := w) (x := w14) h14.below.size one
            have hq9 : ∀ q, (Value.slice (some ⟨w14.heap.size, 0, none⟩) 1 1).ownBlock = some q → w.heap.size + 2 ≤ q := fun q e => by
              have e2 : w14.heap.size = q := by injection e
              have := h14.sz
              omega
            have HT := Lib.hid hT
            have HQ9 := Lib.hid hq9
            clear hT hq9
            have h15 := h14.onto hbl
            have hr15 := hr14.below hbl hr14.lt
            clear hr14 hbl
            have z0 := hr15.cell 0
            have f0 := hr15.free 0
            have z1 := hr15.cell 1
            have f1 := hr15.free 1
            have z2 := hr15.cell 2
            have f2 := hr15.free 2
            have z3 := hr15.cell 3
            have f3 := hr15.free 3
            have z4 := hr15.cell 4
            have f4 := hr15.free 4
            have z5 := hr15.cell 5
            have f5 := hr15.free 5
            have z6 := hr15.cell 6
            have f6 := hr15.free 6
            have z7 := hr15.cell 7
            have f7 := hr15.free 7
            simp only [List.getElem?_toArray, List.getElem?_cons_zero, List.getElem?_cons_succ] at z0 z1 z2 z3 z4 z5 z6 z7
            go_wp2_with fail
            obtain ⟨hG, hB⟩ := res_goes h15 (Goes.refl h15.d) HN3.out (b := w.heap.size + 1) (by omega) (by omega) hr15
            refine bodyPost_ret (results_row_tmp rfl _ _ (w.heap.size + 1) rfl (run_loadVar_row _ _ _ _ _ _ _ hB Tryz.underlying36 rfl (by kernel_rfl))) rfl ⟨a3, _, by rw [HQ.out.1] <;> rfl, by rw [HQ.out.1]; exact hG, by rw [HQ.out.2]; exact HT.out.far (fun q hq => far8 _ (by omega) _ _ _ _ _ _ _ _) HQ9.out⟩
          · have hst : v2.stays one = some o := by unfold Tv.stays; rw [e5]; exact if_neg hse
            have e6 : decide ((v2.seen o : Int) < (v2.seen one : Int)) = true := decide_eq_true (by omega)
            have e7 : decide (v2.seen o < v2.seen one) = true := decide_eq_true (by omega)
            have e8 : v2.seen o < v2.seen one := by omega
            clear e5
            have hq3 : s = (v2.dr o).fr 1 one ∧ sk = [o] := by rw [hst] at hq; exact hq
            have hdr := fun (a2 : Ad) (W : World) (hW : Dt W v2 a2) => d_drop hok2 o W hW
            have HN3 := Lib.hid (show (v2.dr o).rg.n = 3 from hok2.fit.n)
            have HM3 := Lib.hid (show (v2.dr o).most = v2.most from rfl)
            have HS3 := Lib.hid (show (v2.dr o).sk = v2.sk from rfl)
            have hok3 := hok2.dr o
            have hc3 : (v2.dr o).can one := hok3.fit.in_ hok3.fit.n (i := 0) (by omega) (Tv.mem_dr.2 ⟨hF.mem, fun e => hne e.symm⟩)
            have hfr1 := fun (a3 : Ad) (W : World) (hW : Dt W (v2.dr o) a3) => rfr_c (jj := 1) (j := 1) rfl hok3 (by omega) hol hc3 W hW
            have HN4 := Lib.hid (show ((v2.dr o).fr 1 one).rg.n = 3 from hok2.fit.n)
            generalize (v2.dr o).fr 1 one = v4 at *
            generalize v2.dr o = v3 at *
            have HQ := Lib.hid hq3
            clear hq hq3 hst hF hok2 hok3 hc3
            go_enter Tryz.func35, Tryz.ntmps35
            go_upto_region 1 with (fail)
            generalize (w.alloc (.cells #[.int .i64 (v.most : Int), .int .i64 (v.sk.wide : Int), .int .u64 (v.sk.seed : Int), .slice (some ⟨a.R, 0, none⟩) 4 a.c, .slice (some ⟨a.D, 0, none⟩) v.sk.wide v.sk.wide, .int .i64 (v.sk.added : Int), .slice (some ⟨a.G, 0, none⟩) 3 3, .int .i64 (v.pl : Int)] 36)).alloc (.cells #[.int .i64 0, .int .i64 0, .int .u64 0, .slice none 0 0, .slice none 0 0, .int .i64 0, .slice none 0 0, .int .i64 0] 36) = w1 at *
            obtain ⟨x0, x1, x2, x3, x4, x5, x6, x7⟩ := h1.all
            go_wp2_with fail
            refine (htc _ h1.d).mono ?_
            rintro e w2 ⟨a9, rfl, hg⟩
            clear x0 x1 x2 x3 x4 x5 x6 x7
            have hb2 := (Below.refl _ w2).alloc (Nat.le_refl _) (.cells #[.int .i64 (v.most : Int), .int .i64 (v.sk.wide : Int), .int .u64 (v.sk.seed : Int), .slice (some ⟨a9.R, 0, none⟩) 4 a9.c, .slice (some ⟨a9.D, 0, none⟩) v.sk.wide v.sk.wide, .int .i64 (v.sk.added : Int), .slice (some ⟨a9.G, 0, none⟩) 3 3, .int .i64 (v.pl : Int)] 36)
            have h2 := (h1.onto hg.below).onto hb2
            have hr2 := (hr1.below hg.below hr1.lt).below hb2 (hr1.below hg.below hr1.lt).lt
            clear hr1 h1 hb2 hg
            go_upto_region 6 with (fail)
            generalize w2.alloc (.cells #[.int .i64 (v.most : Int), .int .i64 (v.sk.wide : Int), .int .u64 (v.sk.seed : Int), .slice (some ⟨a9.R, 0, none⟩) 4 a9.c, .slice (some ⟨a9.D, 0, none⟩) v.sk.wide v.sk.wide, .int .i64 (v.sk.added : Int), .slice (some ⟨a9.G, 0, none⟩) 3 3, .int .i64 (v.pl : Int)] 36) = w3 at *
            obtain ⟨x0, x1, x2, x3, x4, x5, x6, x7⟩ := h2.all
            go_wp2_with fail
            refine (hadd _ h2.d).mono ?_
            rintro e w3 ⟨a1, rfl, eG, hg⟩
            clear x0 x1 x2 x3 x4 x5 x6 x7
            have hbx := h2.box.below hg.below h2.box.lt
            have y1 := hbx.cell 1
            have f1 := hbx.free 1
            have y2 := hbx.cell 2
            have f2 := hbx.free 2
            have y3 := hbx.cell 3
            have f3 := hbx.free 3
            have y4 := hbx.cell 4
            have f4 := hbx.free 4
            have y5 := hbx.cell 5
            have f5 := hbx.free 5
            simp only [List.getElem?_toArray, List.getElem?_cons_zero, List.getElem?_cons_succ] at y1 y2 y3 y4 y5
            go_upto_region 7 with (fail)
            clear y1 f1 y2 f2 y3 f3 y4 f4 y5 f5
            have h4 := h2.sketch hg HN1.out HM1.out eG
            have hr4 : Blk (((((w3.setCell ⟨w.heap.size, 1, none⟩ (.int .i64 (v1.sk.wide : Int))).setCell ⟨w.heap.size, 2, none⟩ (.int .u64 (v1.sk.seed : Int))).setCell ⟨w.heap.size, 3, none⟩ (.slice (some ⟨a1.R, 0, none⟩) 4 a1.c)).setCell ⟨w.heap.size, 4, none⟩ (.slice (some ⟨a1.D, 0, none⟩) v1.sk.wide v1.sk.wide)).setCell ⟨w.heap.size, 5, none⟩ (.int .i64 (v1.sk.added : Int))) (w.heap.size + 1) 36 #[.int .i64 0, .int .i64 0, .int .u64 0, .slice none 0 0, .slice none 0 0, .int .i64 0, .slice none 0 0, .int .i64 0] := (far5 _ (by omega) _ _ _ _ _).trans (hr2.below hg.below hr2.lt)
            clear hr2
            generalize (((((w3.setCell ⟨w.heap.size, 1, none⟩ (.int .i64 (v1.sk.wide : Int))).setCell ⟨w.heap.size, 2, none⟩ (.int .u64 (v1.sk.seed : Int))).setCell ⟨w.heap.size, 3, none⟩ (.slice (some ⟨a1.R, 0, none⟩) 4 a1.c)).setCell ⟨w.heap.size, 4, none⟩ (.slice (some ⟨a1.D, 0, none⟩) v1.sk.wide v1.sk.wide)).setCell ⟨w.heap.size, 5, none⟩ (.int .i64 (v1.sk.added : Int))) = w4 at *
            clear h2 hbx hg eG
            obtain ⟨x0, x1, x2, x3, x4, x5, x6, x7⟩ := h4.all
            go_wp2_with fail
            refine (hfr a1 _ h4.d).mono ?_
            rintro e w5 ⟨a2, rfl, hg⟩
            clear x0 x1 x2 x3 x4 x5 x6 x7
            have hbx := h4.box.below hg.below h4.box.lt
            have y0 := hbx.cell 0
            have f0 := hbx.free 0
            have y1 := hbx.cell 1
            have f1 := hbx.free 1
            have y2 := hbx.cell 2
            have f2 := hbx.free 2
            have y3 := hbx.cell 3
            have f3 := hbx.free 3
            have y4 := hbx.cell 4
            have f4 := hbx.free 4
            have y5 := hbx.cell 5
            have f5 := hbx.free 5
            have y6 := hbx.cell 6
            have f6 := hbx.free 6
            have y7 := hbx.cell 7
            have f7 := hbx.free 7
            simp only [List.getElem?_toArray, List.getElem?_cons_zero, List.getElem?_cons_succ] at y0 y1 y2 y3 y4 y5 y6 y7
            go_upto_region 8 with (fail)
            clear y0 f0 y1 f1 y2 f2 y3 f3 y4 f4 y5 f5 y6 f6 y7 f7
            have h6 := h4.whole hg HN2.out
            have hr6 : Blk ((((((((w5.setCell ⟨w.heap.size, 0, none⟩ (.int .i64 (v2.most : Int))).setCell ⟨w.heap.size, 1, none⟩ (.int .i64 (v2.sk.wide : Int))).setCell ⟨w.heap.size, 2, none⟩ (.int .u64 (v2.sk.seed : Int))).setCell ⟨w.heap.size, 3, none⟩ (.slice (some ⟨a2.R, 0, none⟩) 4 a2.c)).setCell ⟨w.heap.size, 4, none⟩ (.slice (some ⟨a2.D, 0, none⟩) v2.sk.wide v2.sk.wide)).setCell ⟨w.heap.size, 5, none⟩ (.int .i64 (v2.sk.added : Int))).setCell ⟨w.heap.size, 6, none⟩ (.slice (some ⟨a2.G, 0, none⟩) 3 3)).setCell ⟨w.heap.size, 7, none⟩ (.int .i64 (v2.pl : Int))) (w.heap.size + 1) 36 #[.int .i64 0, .int .i64 0, .int .u64 0, .slice none 0 0, .slice none 0 0, .int .i64 0, .slice none 0 0, .int .i64 0] := (far8 _ (by omega) _ _ _ _ _ _ _ _).trans (hr4.below hg.below hr4.lt)
            clear hr4
            generalize ((((((((w5.setCell ⟨w.heap.size, 0, none⟩ (.int .i64 (v2.most : Int))).setCell ⟨w.heap.size, 1, none⟩ (.int .i64 (v2.sk.wide : Int))).setCell ⟨w.heap.size, 2, none⟩ (.int .u64 (v2.sk.seed : Int))).setCell ⟨w.heap.size, 3, none⟩ (.slice (some ⟨a2.R, 0, none⟩) 4 a2.c)).setCell ⟨w.heap.size, 4, none⟩ (.slice (some ⟨a2.D, 0, none⟩) v2.sk.wide v2.sk.wide)).setCell ⟨w.heap.size, 5, none⟩ (.int .i64 (v2.sk.added : Int))).setCell ⟨w.heap.size, 6, none⟩ (.slice (some ⟨a2.G, 0, none⟩) 3 3)).setCell ⟨w.heap.size, 7, none⟩ (.int .i64 (v2.pl : Int))) = w6 at *
            clear h4 hbx hg
            obtain ⟨x0, x1, x2, x3, x4, x5, x6, x7⟩ := h6.all
            go_wp2_with fail
            refine (hpa a2 _ h6.d).mono ?_
            rintro e w7 ⟨rfl, hb⟩
            clear x0 x1 x2 x3 x4 x5 x6 x7
            have h7 := h6.onto hb
            have hr7 := hr6.below hb hr6.lt
            clear hr6
            clear h6 hb
            obtain ⟨x0, x1, x2, x3, x4, x5, x6, x7⟩ := h7.all
            obtain ⟨ga, gc, q1⟩ := h7.d.list HN2.out (i := 0) (by omega)
            go_upto_region 11 with (fail)
            clear q1
            go_wp2_with fail
            refine (hbk0 a2 _ h7.d).mono ?_
            rintro e w8 ⟨rfl, hb⟩
            clear x0 x1 x2 x3 x4 x5 x6 x7
            have h8 := h7.onto hb
            have hr8 := hr7.below hb hr7.lt
            clear hr7
            clear h7 hb
            obtain ⟨x0, x1, x2, x3, x4, x5, x6, x7⟩ := h8.all
            go_upto_region 12 with (fail)
            clear x0 x1 x2 x3 x4 x5 x6 x7
            have hd := ((⟨h8, hr8⟩ : Wr w a v2 a2 w8).drewN 1).all
            go_region_held3 (fun W => (W.cell? ⟨w.heap.size, 0, none⟩ = some (.int .i64 (v2.most : Int)) ∧ W.cell? ⟨w.heap.size, 1, none⟩ = some (.int .i64 (v2.sk.wide : Int)) ∧ W.cell? ⟨w.heap.size, 2, none⟩ = some (.int .u64 (v2.sk.seed : Int)) ∧ W.cell? ⟨w.heap.size, 3, none⟩ = some (.slice (some ⟨a2.R, 0, none⟩) 4 a2.c) ∧ W.cell? ⟨w.heap.size, 4, none⟩ = some (.slice (some ⟨a2.D, 0, none⟩) v2.sk.wide v2.sk.wide) ∧ W.cell? ⟨w.heap.size, 5, none⟩ = some (.int .i64 (v2.sk.added : Int)) ∧ W.cell? ⟨w.heap.size, 6, none⟩ = some (.slice (some ⟨a2.G, 0, none⟩) 3 3) ∧ W.cell? ⟨w.heap.size, 7, none⟩ = some (.int .i64 (v2.pl : Int))) ∧ Wr w a v2 a2 W)
              (first | assumption | exact hd | exact Wr.all (by assumption))
              (first | (go_at_call 38; (with_reducible refine Calls.mono (fL a2 _ (by assumption : (_ ∧ _ ∧ _ ∧ _ ∧ _ ∧ _ ∧ _ ∧ _) ∧ _).2) ?_); rintro e wv ⟨rfl, hwv⟩) | fail)
            have hZ := (by assumption : (_ ∧ _ ∧ _ ∧ _ ∧ _ ∧ _ ∧ _ ∧ _) ∧ Wr w a v2 a2 _).2
            have h9 := hZ.k
            have hr9 := hZ.r
            clear hd hZ h8 hr8
            obtain ⟨x0, x1, x2, x3, x4, x5, x6, x7⟩ := h9.all
            go_upto_region 14 with (fail)
            go_wp2_with fail
            refine (hbk1 a2 _ h9.d).mono ?_
            rintro e w10 ⟨rfl, hb⟩
            clear x0 x1 x2 x3 x4 x5 x6 x7
            have h10 := h9.onto hb
            have hr10 := hr9.below hb hr9.lt
            clear hr9
            clear h9 hb
            obtain ⟨x0, x1, x2, x3, x4, x5, x6, x7⟩ := h10.all
            go_upto_region 16 with (fail)
            go_wp2_with fail
            refine (hbk2 a2 _ h10.d).mono ?_
            rintro e w11 ⟨rfl, hb⟩
            clear x0 x1 x2 x3 x4 x5 x6 x7
            have h11 := h10.onto hb
            have hr11 := hr10.below hb hr10.lt
            clear hr10
            clear h10 hb
            obtain ⟨x0, x1, x2, x3, x4, x5, x6, x7⟩ := h11.all
            go_upto_region 17 with (fail)
            clear x0 x1 x2 x3 x4 x5 x6 x7
            have hd := ((⟨h11, hr11⟩ : Wr w a v2 a2 w11).drewN 1).all
            go_region_held3 (fun W => (W.cell? ⟨w.heap.size, 0, none⟩ = some (.int .i64 (v2.most : Int)) ∧ W.cell? ⟨w.heap.size, 1, none⟩ = some (.int .i64 (v2.sk.wide : Int)) ∧ W.cell? ⟨w.heap.size, 2, none⟩ = some (.int .u64 (v2.sk.seed : Int)) ∧ W.cell? ⟨w.heap.size, 3, none⟩ = some (.slice (some ⟨a2.R, 0, none⟩) 4 a2.c) ∧ W.cell? ⟨w.heap.size, 4, none⟩ = some (.slice (some ⟨a2.D, 0, none⟩) v2.sk.wide v2.sk.wide) ∧ W.cell? ⟨w.heap.size, 5, none⟩ = some (.int .i64 (v2.sk.added : Int)) ∧ W.cell? ⟨w.heap.size, 6, none⟩ = some (.slice (some ⟨a2.G, 0, none⟩) 3 3) ∧ W.cell? ⟨w.heap.size, 7, none⟩ = some (.int .i64 (v2.pl : Int))) ∧ Wr w a v2 a2 W)
              (first | assumption | exact hd | exact Wr.all (by assumption))
              (first | (go_at_call 13; (with_reducible refine Calls.mono (fs1 a2 _ (by assumption : (_ ∧ _ ∧ _ ∧ _ ∧ _ ∧ _ ∧ _ ∧ _) ∧ _).2) ?_); rintro e wv ⟨rfl, hwv⟩) | (go_at_call 13; (with_reducible refine Calls.mono (fs2 a2 _ (by assumption : (_ ∧ _ ∧ _ ∧ _ ∧ _ ∧ _ ∧ _ ∧ _) ∧ _).2) ?_); rintro e wv ⟨rfl, hwv⟩) | fail)
            have hZ := (by assumption : (_ ∧ _ ∧ _ ∧ _ ∧ _ ∧ _ ∧ _ ∧ _) ∧ Wr w a v2 a2 _).2
            have h12 := hZ.k
            have hr12 := hZ.r
            clear hd hZ h11 hr11
            obtain ⟨x0, x1, x2, x3, x4, x5, x6, x7⟩ := h12.all
            go_wp2_with fail
            refine (hdr a2 _ h12.d).mono ?_
            rintro e w13 ⟨a3, rfl, e1, e2, e3, hg⟩
            clear x0 x1 x2 x3 x4 x5 x6 x7
            have hbx := h12.box.below hg.below h12.box.lt
            have y6 := hbx.cell 6
            have f6 := hbx.free 6
            have y7 := hbx.cell 7
            have f7 := hbx.free 7
            simp only [List.getElem?_toArray, List.getElem?_cons_zero, List.getElem?_cons_succ] at y6 y7
            go_upto_region 19 with (fail)
            clear y6 f6 y7 f7
            have h14 := h12.lists hg HN3.out HM3.out HS3.out ⟨e1, e2, e3⟩
            rw [pl_of HM3.out] at h14
            have hr14 : Blk ((w13.setCell ⟨w.heap.size, 6, none⟩ (.slice (some ⟨a3.G, 0, none⟩) 3 3)).setCell ⟨w.heap.size, 7, none⟩ (.int .i64 (v2.pl : Int))) (w.heap.size + 1) 36 #[.int .i64 0, .int .i64 0, .int .u64 0, .slice none 0 0, .slice none 0 0, .int .i64 0, .slice none 0 0, .int .i64 0] := (far2 _ (by omega) _ _).trans (hr12.below hg.below hr12.lt)
            clear hr12
            generalize ((w13.setCell ⟨w.heap.size, 6, none⟩ (.slice (some ⟨a3.G, 0, none⟩) 3 3)).setCell ⟨w.heap.size, 7, none⟩ (.int .i64 (v2.pl : Int))) = w14 at *
            clear h12 hbx hg e1 e2 e3
            obtain ⟨x0, x1, x2, x3, x4, x5, x6, x7⟩ := h14.all
            go_wp2_with fail
            refine (hfr1 a3 _ h14.d).mono ?_
            rintro e w15 ⟨a4, rfl, hg⟩
            clear x0 x1 x2 x3 x4 x5 x6 x7
            have hbl := (Below.refl _ w15).alloc (Nat.le_refl _) (.cells #[.string (str o)] 9)
            have hsz9 := Nat.le_trans h14.sz hg.below.size
            have hT := Told.lit (w := w) (x := w15) (by omega) o
            have hq9 : ∀ q, (Value.slice (some ⟨w15.heap.size, 0, none⟩) 1 1).ownBlock = some q → w.heap.size + 2 ≤ q := fun q e => by
              have e2 : w15.heap.size = q := by injection e
              omega
            have HT := Lib.hid hT
            have HQ9 := Lib.hid hq9
            clear hT hq9 hsz9
            have hg2 := hg.onto hbl
            have hrx := (hr14.below hg.below hr14.lt).below hbl (hr14.below hg.below hr14.lt).lt
            clear hr14 hbl hg
            have y0 := hrx.cell 0
            have f0 := hrx.free 0
            have y1 := hrx.cell 1
            have f1 := hrx.free 1
            have y2 := hrx.cell 2
            have f2 := hrx.free 2
            have y3 := hrx.cell 3
            have f3 := hrx.free 3
            have y4 := hrx.cell 4
            have f4 := hrx.free 4
            have y5 := hrx.cell 5
            have f5 := hrx.free 5
            have y6 := hrx.cell 6
            have f6 := hrx.free 6
            have y7 := hrx.cell 7
            have f7 := hrx.free 7
            simp only [List.getElem?_toArray, List.getElem?_cons_zero, List.getElem?_cons_succ] at y0 y1 y2 y3 y4 y5 y6 y7
            go_wp2_with fail
            obtain ⟨hG, hB⟩ := res_goes h14 hg2 HN4.out (b := w.heap.size + 1) (by omega) (by omega) hrx
            refine bodyPost_ret (results_row_tmp rfl _ _ (w.heap.size + 1) rfl (run_loadVar_row _ _ _ _ _ _ _ hB Tryz.underlying36 rfl (by kernel_rfl))) rfl ⟨a4, _, by rw [HQ.out.1] <;> rfl, by rw [HQ.out.1]; exact hG, by rw [HQ.out.2]; exact HT.out.far (fun q hq => far8 _ (by omega) _ _ _ _ _ _ _ _) HQ9.out⟩
        | none =>
          have e5 : v2.first [1, 2] = none := by unfold Tv.first; rw [e1b]; unfold Tv.first; rw [e2b]; rfl
          simp only [e2b, Option.getD_none, Option.isSome_none] at hbk2
          have hst : v2.stays one = none := by unfold Tv.stays; rw [e5]
          clear e1b e2b e5
          have hq3 : s = v2.dr one ∧ sk = [one] := by rw [hst] at hq; exact hq
          have hdr := fun (a2 : Ad) (W : World) (hW : Dt W v2 a2) => d_drop hok2 one W hW
          have HN3 := Lib.hid (show (v2.dr one).rg.n = 3 from hok2.fit.n)
          have HM3 := Lib.hid (show (v2.dr one).most = v2.most from rfl)
          have HS3 := Lib.hid (show (v2.dr one).sk = v2.sk from rfl)
          generalize v2.dr one = v3 at *
          have HQ := Lib.hid hq3
          clear hq hq3 hst hF hok2
          go_enter Tryz.func35, Tryz.ntmps35
          go_upto_region 1 with (fail)
          generalize (w.alloc (.cells #[.int .i64 (v.most : Int), .int .i64 (v.sk.wide : Int), .int .u64 (v.sk.seed : Int), .slice (some ⟨a.R, 0, none⟩) 4 a.c, .slice (some ⟨a.D, 0, none⟩) v.sk.wide v.sk.wide, .int .i64 (v.sk.added : Int), .slice (some ⟨a.G, 0, none⟩) 3 3, .int .i64 (v.pl : Int)] 36)).alloc (.cells #[.int .i64 0, .int .i64 0, .int .u64 0, .slice none 0 0, .slice none 0 0, .int .i64 0, .slice none 0 0, .int .i64 0] 36) = w1 at *
          obtain ⟨x0, x1, x2, x3, x4, x5, x6, x7⟩ := h1.all
          go_wp2_with fail
          refine (htc _ h1.d).mono ?_
          rintro e w2 ⟨a9, rfl, hg⟩
          clear x0 x1 x2 x3 x4 x5 x6 x7
          have hb2 := (Below.refl _ w2).alloc (Nat.le_refl _) (.cells #[.int .i64 (v.most : Int), .int .i64 (v.sk.wide : Int), .int .u64 (v.sk.seed : Int), .slice (some ⟨a9.R, 0, none⟩) 4 a9.c, .slice (some ⟨a9.D, 0, none⟩) v.sk.wide v.sk.wide, .int .i64 (v.sk.added : Int), .slice (some ⟨a9.G, 0, none⟩) 3 3, .int .i64 (v.pl : Int)] 36)
          have h2 := (h1.onto hg.below).onto hb2
          have hr2 := (hr1.below hg.below hr1.lt).below hb2 (hr1.below hg.below hr1.lt).lt
          clear hr1 h1 hb2 hg
          go_upto_region 6 with (fail)
          generalize w2.alloc (.cells #[.int .i64 (v.most : Int), .int .i64 (v.sk.wide : Int), .int .u64 (v.sk.seed : Int), .slice (some ⟨a9.R, 0, none⟩) 4 a9.c, .slice (some ⟨a9.D, 0, none⟩) v.sk.wide v.sk.wide, .int .i64 (v.sk.added : Int), .slice (some ⟨a9.G, 0, none⟩) 3 3, .int .i64 (v.pl : Int)] 36) = w3 at *
          obtain ⟨x0, x1, x2, x3, x4, x5, x6, x7⟩ := h2.all
          go_wp2_with fail
          refine (hadd _ h2.d).mono ?_
          rintro e w3 ⟨a1, rfl, eG, hg⟩
          clear x0 x1 x2 x3 x4 x5 x6 x7
          have hbx := h2.box.below hg.below h2.box.lt
          have y1 := hbx.cell 1
          have f1 := hbx.free 1
          have y2 := hbx.cell 2
          have f2 := hbx.free 2
          have y3 := hbx.cell 3
          have f3 := hbx.free 3
          have y4 := hbx.cell 4
          have f4 := hbx.free 4
          have y5 := hbx.cell 5
          have f5 := hbx.free 5
          simp only [List.getElem?_toArray, List.getElem?_cons_zero, List.getElem?_cons_succ] at y1 y2 y3 y4 y5
          go_upto_region 7 with (fail)
          clear y1 f1 y2 f2 y3 f3 y4 f4 y5 f5
          have h4 := h2.sketch hg HN1.out HM1.out eG
          have hr4 : Blk (((((w3.setCell ⟨w.heap.size, 1, none⟩ (.int .i64 (v1.sk.wide : Int))).setCell ⟨w.heap.size, 2, none⟩ (.int .u64 (v1.sk.seed : Int))).setCell ⟨w.heap.size, 3, none⟩ (.slice (some ⟨a1.R, 0, none⟩) 4 a1.c)).setCell ⟨w.heap.size, 4, none⟩ (.slice (some ⟨a1.D, 0, none⟩) v1.sk.wide v1.sk.wide)).setCell ⟨w.heap.size, 5, none⟩ (.int .i64 (v1.sk.added : Int))) (w.heap.size + 1) 36 #[.int .i64 0, .int .i64 0, .int .u64 0, .slice none 0 0, .slice none 0 0, .int .i64 0, .slice none 0 0, .int .i64 0] := (far5 _ (by omega) _ _ _ _ _).trans (hr2.below hg.below hr2.lt)
          clear hr2
          generalize (((((w3.setCell ⟨w.heap.size, 1, none⟩ (.int .i64 (v1.sk.wide : Int))).setCell ⟨w.heap.size, 2, none⟩ (.int .u64 (v1.sk.seed : Int))).setCell ⟨w.heap.size, 3, none⟩ (.slice (some ⟨a1.R, 0, none⟩) 4 a1.c)).setCell ⟨w.heap.size, 4, none⟩ (.slice (some ⟨a1.D, 0, none⟩) v1.sk.wide v1.sk.wide)).setCell ⟨w.heap.size, 5, none⟩ (.int .i64 (v1.sk.added : Int))) = w4 at *
          clear h2 hbx hg eG
          obtain ⟨x0, x1, x2, x3, x4, x5, x6, x7⟩ := h4.all
          go_wp2_with fail
          refine (hfr a1 _ h4.d).mono ?_
          rintro e w5 ⟨a2, rfl, hg⟩
          clear x0 x1 x2 x3 x4 x5 x6 x7
          have hbx := h4.box.below hg.below h4.box.lt
          have y0 := hbx.cell 0
          have f0 := hbx.free 0
          have y1 := hbx.cell 1
          have f1 := hbx.free 1
          have y2 := hbx.cell 2
          have f2 := hbx.free 2
          have y3 := hbx.cell 3
          have f3 := hbx.free 3
          have y4 := hbx.cell 4
          have f4 := hbx.free 4
          have y5 := hbx.cell 5
          have f5 := hbx.free 5
          have y6 := hbx.cell 6
          have f6 := hbx.free 6
          have y7 := hbx.cell 7
          have f7 := hbx.free 7
          simp only [List.getElem?_toArray, List.getElem?_cons_zero, List.getElem?_cons_succ] at y0 y1 y2 y3 y4 y5 y6 y7
          go_upto_region 8 with (fail)
          clear y0 f0 y1 f1 y2 f2 y3 f3 y4 f4 y5 f5 y6 f6 y7 f7
          have h6 := h4.whole hg HN2.out
          have hr6 : Blk ((((((((w5.setCell ⟨w.heap.size, 0, none⟩ (.int .i64 (v2.most : Int))).setCell ⟨w.heap.size, 1, none⟩ (.int .i64 (v2.sk.wide : Int))).setCell ⟨w.heap.size, 2, none⟩ (.int .u64 (v2.sk.seed : Int))).setCell ⟨w.heap.size, 3, none⟩ (.slice (some ⟨a2.R, 0, none⟩) 4 a2.c)).setCell ⟨w.heap.size, 4, none⟩ (.slice (some ⟨a2.D, 0, none⟩) v2.sk.wide v2.sk.wide)).setCell ⟨w.heap.size, 5, none⟩ (.int .i64 (v2.sk.added : Int))).setCell ⟨w.heap.size, 6, none⟩ (.slice (some ⟨a2.G, 0, none⟩) 3 3)).setCell ⟨w.heap.size, 7, none⟩ (.int .i64 (v2.pl : Int))) (w.heap.size + 1) 36 #[.int .i64 0, .int .i64 0, .int .u64 0, .slice none 0 0, .slice none 0 0, .int .i64 0, .slice none 0 0, .int .i64 0] := (far8 _ (by omega) _ _ _ _ _ _ _ _).trans (hr4.below hg.below hr4.lt)
          clear hr4
          generalize ((((((((w5.setCell ⟨w.heap.size, 0, none⟩ (.int .i64 (v2.most : Int))).setCell ⟨w.heap.size, 1, none⟩ (.int .i64 (v2.sk.wide : Int))).setCell ⟨w.heap.size, 2, none⟩ (.int .u64 (v2.sk.seed : Int))).setCell ⟨w.heap.size, 3, none⟩ (.slice (some ⟨a2.R, 0, none⟩) 4 a2.c)).setCell ⟨w.heap.size, 4, none⟩ (.slice (some ⟨a2.D, 0, none⟩) v2.sk.wide v2.sk.wide)).setCell ⟨w.heap.size, 5, none⟩ (.int .i64 (v2.sk.added : Int))).setCell ⟨w.heap.size, 6, none⟩ (.slice (some ⟨a2.G, 0, none⟩) 3 3)).setCell ⟨w.heap.size, 7, none⟩ (.int .i64 (v2.pl : Int))) = w6 at *
          clear h4 hbx hg
          obtain ⟨x0, x1, x2, x3, x4, x5, x6, x7⟩ := h6.all
          go_wp2_with fail
          refine (hpa a2 _ h6.d).mono ?_
          rintro e w7 ⟨rfl, hb⟩
          clear x0 x1 x2 x3 x4 x5 x6 x7
          have h7 := h6.onto hb
          have hr7 := hr6.below hb hr6.lt
          clear hr6
          clear h6 hb
          obtain ⟨x0, x1, x2, x3, x4, x5, x6, x7⟩ := h7.all
          obtain ⟨ga, gc, q1⟩ := h7.d.list HN2.out (i := 0) (by omega)
          go_upto_region 11 with (fail)
          clear q1
          go_wp2_with fail
          refine (hbk0 a2 _ h7.d).mono ?_
          rintro e w8 ⟨rfl, hb⟩
          clear x0 x1 x2 x3 x4 x5 x6 x7
          have h8 := h7.onto hb
          have hr8 := hr7.below hb hr7.lt
          clear hr7
          clear h7 hb
          obtain ⟨x0, x1, x2, x3, x4, x5, x6, x7⟩ := h8.all
          go_upto_region 12 with (fail)
          clear x0 x1 x2 x3 x4 x5 x6 x7
          have hd := ((⟨h8, hr8⟩ : Wr w a v2 a2 w8).drewN 1).all
          go_region_held3 (fun W => (W.cell? ⟨w.heap.size, 0, none⟩ = some (.int .i64 (v2.most : Int)) ∧ W.cell? ⟨w.heap.size, 1, none⟩ = some (.int .i64 (v2.sk.wide : Int)) ∧ W.cell? ⟨w.heap.size, 2, none⟩ = some (.int .u64 (v2.sk.seed : Int)) ∧ W.cell? ⟨w.heap.size, 3, none⟩ = some (.slice (some ⟨a2.R, 0, none⟩) 4 a2.c) ∧ W.cell? ⟨w.heap.size, 4, none⟩ = some (.slice (some ⟨a2.D, 0, none⟩) v2.sk.wide v2.sk.wide) ∧ W.cell? ⟨w.heap.size, 5, none⟩ = some (.int .i64 (v2.sk.added : Int)) ∧ W.cell? ⟨w.heap.size, 6, none⟩ = some (.slice (some ⟨a2.G, 0, none⟩) 3 3) ∧ W.cell? ⟨w.heap.size, 7, none⟩ = some (.int .i64 (v2.pl : Int))) ∧ Wr w a v2 a2 W)
            (first | assumption | exact hd | exact Wr.all (by assumption))
            (first | (go_at_call 38; (with_reducible refine Calls.mono (fL a2 _ (by assumption : (_ ∧ _ ∧ _ ∧ _ ∧ _ ∧ _ ∧ _ ∧ _) ∧ _).2) ?_); rintro e wv ⟨rfl, hwv⟩) | fail)
          have hZ := (by assumption : (_ ∧ _ ∧ _ ∧ _ ∧ _ ∧ _ ∧ _ ∧ _) ∧ Wr w a v2 a2 _).2
          have h9 := hZ.k
          have hr9 := hZ.r
          clear hd hZ h8 hr8
          obtain ⟨x0, x1, x2, x3, x4, x5, x6, x7⟩ := h9.all
          go_upto_region 14 with (fail)
          go_wp2_with fail
          refine (hbk1 a2 _ h9.d).mono ?_
          rintro e w10 ⟨rfl, hb⟩
          clear x0 x1 x2 x3 x4 x5 x6 x7
          have h10 := h9.onto hb
          have hr10 := hr9.below hb hr9.lt
          clear hr9
          clear h9 hb
          obtain ⟨x0, x1, x2, x3, x4, x5, x6, x7⟩ := h10.all
          go_upto_region 16 with (fail)
          go_wp2_with fail
          refine (hbk2 a2 _ h10.d).mono ?_
          rintro e w11 ⟨rfl, hb⟩
          clear x0 x1 x2 x3 x4 x5 x6 x7
          have h11 := h10.onto hb
          have hr11 := hr10.below hb hr10.lt
          clear hr10
          clear h10 hb
          obtain ⟨x0, x1, x2, x3, x4, x5, x6, x7⟩ := h11.all
          go_upto_region 17 with (fail)
          clear x0 x1 x2 x3 x4 x5 x6 x7
          have hWr : Wr w a v2 a2 w11 := ⟨h11, hr11⟩
          refine region_only 12 #[false, false, false, false, false, false, false, false, false, false, false, false] (S := (fun W => (W.cell? ⟨w.heap.size, 0, none⟩ = some (.int .i64 (v2.most : Int)) ∧ W.cell? ⟨w.heap.size, 1, none⟩ = some (.int .i64 (v2.sk.wide : Int)) ∧ W.cell? ⟨w.heap.size, 2, none⟩ = some (.int .u64 (v2.sk.seed : Int)) ∧ W.cell? ⟨w.heap.size, 3, none⟩ = some (.slice (some ⟨a2.R, 0, none⟩) 4 a2.c) ∧ W.cell? ⟨w.heap.size, 4, none⟩ = some (.slice (some ⟨a2.D, 0, none⟩) v2.sk.wide v2.sk.wide) ∧ W.cell? ⟨w.heap.size, 5, none⟩ = some (.int .i64 (v2.sk.added : Int)) ∧ W.cell? ⟨w.heap.size, 6, none⟩ = some (.slice (some ⟨a2.G, 0, none⟩) 3 3) ∧ W.cell? ⟨w.heap.size, 7, none⟩ = some (.int .i64 (v2.pl : Int))) ∧ Wr w a v2 a2 W)) rfl rfl (by kernel_rfl) (hWr.drewN 1).all (fun hSw => ?_)
          refine take_at 0 77 (fuel := 11) ?_ rfl rfl (by kernel_rfl) (by kernel_rfl) (by kernel_rfl) (Or.inl ⟨by rfl, ?_⟩) hSw ?_
          rotate_left
          · intro wx hSx
            (try dsimp only at hSx)
            go_split_ands
            go_simp
            (try with_reducible rfl)
          simp only [List.setIfInBounds_toArray, List.set_cons_zero, List.set_cons_succ]
          refine take_at 1 78 (fuel := 10) ?_ rfl rfl (by kernel_rfl) (by kernel_rfl) (by kernel_rfl) (Or.inl ⟨by rfl, ?_⟩) hSw ?_
          rotate_left
          · intro wx hSx
            (try dsimp only at hSx)
            go_split_ands
            go_simp
            (try with_reducible rfl)
          simp only [List.setIfInBounds_toArray, List.set_cons_zero, List.set_cons_succ]
          refine take_at 2 79 undef (fuel := 9) rfl rfl (by kernel_rfl) (by kernel_rfl) (by kernel_rfl) (Or.inr ⟨by rfl, rfl⟩) hSw ?_
          simp only [List.setIfInBounds_toArray, List.set_cons_zero, List.set_cons_succ]
          refine take_at 3 80 undef (fuel := 8) rfl rfl (by kernel_rfl) (by kernel_rfl) (by kernel_rfl) (Or.inr ⟨by rfl, rfl⟩) hSw ?_
          simp only [List.setIfInBounds_toArray, List.set_cons_zero, List.set_cons_succ]
          refine take_at 4 81 undef (fuel := 7) rfl rfl (by kernel_rfl) (by kernel_rfl) (by kernel_rfl) (Or.inr ⟨by rfl, rfl⟩) hSw ?_
          simp only [List.setIfInBounds_toArray, List.set_cons_zero, List.set_cons_succ]
          refine take_at 5 82 undef (fuel := 6) rfl rfl (by kernel_rfl) (by kernel_rfl) (by kernel_rfl) (Or.inr ⟨by rfl, rfl⟩) hSw ?_
          simp only [List.setIfInBounds_toArray, List.set_cons_zero, List.set_cons_succ]
          refine take_at 6 83 undef (fuel := 5) rfl rfl (by kernel_rfl) (by kernel_rfl) (by kernel_rfl) (Or.inr ⟨by rfl, rfl⟩) hSw ?_
          simp only [List.setIfInBounds_toArray, List.set_cons_zero, List.set_cons_succ]
          refine take_at 7 84 undef (fuel := 4) rfl rfl (by kernel_rfl) (by kernel_rfl) (by kernel_rfl) (Or.inr ⟨by rfl, rfl⟩) hSw ?_
          simp only [List.setIfInBounds_toArray, List.set_cons_zero, List.set_cons_succ]
          refine take_at 8 85 undef (fuel := 3) rfl rfl (by kernel_rfl) (by kernel_rfl) (by kernel_rfl) (Or.inr ⟨by rfl, rfl⟩) hSw ?_
          simp only [List.setIfInBounds_toArray, List.set_cons_zero, List.set_cons_succ]
          refine take_at 9 86 undef (fuel := 2) rfl rfl (by kernel_rfl) (by kernel_rfl) (by kernel_rfl) (Or.inr ⟨by rfl, rfl⟩) hSw ?_
          simp only [List.setIfInBounds_toArray, List.set_cons_zero, List.set_cons_succ]
          refine take_at 10 87 undef (fuel := 1) rfl rfl (by kernel_rfl) (by kernel_rfl) (by kernel_rfl) (Or.inr ⟨by rfl, rfl⟩) hSw ?_
          simp only [List.setIfInBounds_toArray, List.set_cons_zero, List.set_cons_succ]
          refine take_at 11 88 (fuel := 0) ?_ rfl rfl (by kernel_rfl) (by kernel_rfl) (by kernel_rfl) (Or.inl ⟨by rfl, ?_⟩) hSw ?_
          rotate_left
          · intro wx hSx
            (try dsimp only at hSx)
            go_split_ands
            go_simp
            (try with_reducible rfl)
          simp only [List.setIfInBounds_toArray, List.set_cons_zero, List.set_cons_succ]
          refine wpAnyH_done (by kernel_rfl) ⟨rfl, ?_⟩ 0
          have h12 := hSw.2.k
          have hr12 := hSw.2.r
          clear hSw hWr h11 hr11
          obtain ⟨x0, x1, x2, x3, x4, x5, x6, x7⟩ := h12.all
          go_wp2_with fail
          refine (hdr a2 _ h12.d).mono ?_
          rintro e w13 ⟨a3, rfl, e1, e2, e3, hg⟩
          clear x0 x1 x2 x3 x4 x5 x6 x7
          have hbx := h12.box.below hg.below h12.box.lt
          have y6 := hbx.cell 6
          have f6 := hbx.free 6
          have y7 := hbx.cell 7
          have f7 := hbx.free 7
          simp only [List.getElem?_toArray, List.getElem?_cons_zero, List.getElem?_cons_succ] at y6 y7
          go_upto_region 21 with (fail)
          clear y6 f6 y7 f7
          have h14 := h12.lists hg HN3.out HM3.out HS3.out ⟨e1, e2, e3⟩
          rw [pl_of HM3.out] at h14
          have hr14 : Blk ((w13.setCell ⟨w.heap.size, 6, none⟩ (.slice (some ⟨a3.G, 0, none⟩) 3 3)).setCell ⟨w.heap.size, 7, none⟩ (.int .i64 (v2.pl : Int))) (w.heap.size + 1) 36 #[.int .i64 0, .int .i64 0, .int .u64 0, .slice none 0 0, .slice none 0 0, .int .i64 0, .slice none 0 0, .int .i64 0] := (far2 _ (by omega) _ _).trans (hr12.below hg.below hr12.lt)
          clear hr12
          generalize ((w13.setCell ⟨w.heap.size, 6, none⟩ (.slice (some ⟨a3.G, 0, none⟩) 3 3)).setCell ⟨w.heap.size, 7, none⟩ (.int .i64 (v2.pl : Int))) = w14 at *
          clear h12 hbx hg e1 e2 e3
          obtain ⟨x0, x1, x2, x3, x4, x5, x6, x7⟩ := h14.all
          have hbl := (Below.refl _ w14).alloc (Nat.le_refl _) (.cells #[.string (str one)] 9)
          have hT := Told.lit (w := w) (x := w14) h14.below.size one
          have hq9 : ∀ q, (Value.slice (some ⟨w14.heap.size, 0, none⟩) 1 1).ownBlock = some q → w.heap.size + 2 ≤ q := fun q e => by
            have e2 : w14.heap.size = q := by injection e
            have := h14.sz
            omega
          have HT := Lib.hid hT
          have HQ9 := Lib.hid hq9
          clear hT hq9
          have h15 := h14.onto hbl
          have hr15 := hr14.below hbl hr14.lt
          clear hr14 hbl
          have z0 := hr15.cell 0
          have f0 := hr15.free 0
          have z1 := hr15.cell 1
          have f1 := hr15.free 1
          have z2 := hr15.cell 2
          have f2 := hr15.free 2
          have z3 := hr15.cell 3
          have f3 := hr15.free 3
          have z4 := hr15.cell 4
          have f4 := hr15.free 4
          have z5 := hr15.cell 5
          have f5 := hr15.free 5
          have z6 := hr15.cell 6
          have f6 := hr15.free 6
          have z7 := hr15.cell 7
          have f7 := hr15.free 7
          simp only [List.getElem?_toArray, List.getElem?_cons_zero, List.getElem?_cons_succ] at z0 z1 z2 z3 z4 z5 z6 z7
          go_wp2_with fail
          obtain ⟨hG, hB⟩ := res_goes h15 (Goes.refl h15.d) HN3.out (b := w.heap.size + 1) (by omega) (by omega) hr15
          refine bodyPost_ret (results_row_tmp rfl _ _ (w.heap.size + 1) rfl (run_loadVar_row _ _ _ _ _ _ _ hB Tryz.underlying36 rfl (by kernel_rfl))) rfl ⟨a3, _, by rw [HQ.out.1] <;> rfl, by rw [HQ.out.1]; exact hG, by rw [HQ.out.2]; exact HT.out.far (fun q hq => far8 _ (by omega) _ _ _ _ _ _ _ _) HQ9.out⟩
end
end Go.Proofs.YtgfpedcdclgmiaaGreat.Tinyy
