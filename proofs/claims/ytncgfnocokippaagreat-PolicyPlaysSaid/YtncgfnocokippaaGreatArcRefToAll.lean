/- The document's own ARC in memory: four numbers and a row of lists, handed over by value; what asks it, and a key's going to a list's front. The only condition: it is as chapter 7 has it. The document's own ARC: a key's going to a list's front, the last one's being forgotten, the going of one that is kept. The only condition: it is as chapter 7 has it. -/
import Derived.Test.YtncgfnocokippaaGreatRingBothAll
import Derived.Test.YtncgfnocokippaaGreatArcMakeAll
import Derived.Deep.RegionHeld3
import Derived.Test.YtncgfnocokippaaGreatSq
namespace Go.Proofs.YtncgfnocokippaaGreat.Arcy
open Go.ChangeShapes Go.WideShapes Go.ChangeAt Go.RowKit Go.Shelf
open Wirey (Blk Row str str_size str_list Kp)
open Ringy Go.ChangeMaps Go.Maps

def Av.pl (v : Av) : Nat := 2 * v.most + 1
abbrev Dat (x : World) (v : Av) (G : Nat) (vs : Nat → Value) : Prop := RefAt x (fun _ => False) G vs v.rg
section
variable {w x y : World} {v v' : Av} {G G' : Nat} {vs vs' : Nat → Value} {k : Key}
structure Goes (w : World) (G : Nat) (vs : Nat → Value) (v' : Av) (G' : Nat) (vs' : Nat → Value) (x : World) : Prop where
 rf : Dat x v' G' vs'
 below : Below w.heap.size w x
 not : ∀ q, q < w.heap.size → NotIn q G vs 4 → NotIn q G' vs' 4
theorem Goes.refl (h : Dat w v G vs) : Goes w G vs v G vs w := ⟨h, Below.refl _ _, fun _ _ h => h⟩
theorem Goes.onto (h : Goes w G vs v' G' vs' x) (hb : Below x.heap.size x y) : Goes w G vs v' G' vs' y := ⟨h.rf.below hb (Nat.le_refl _), h.below.trans (hb.mono h.below.size), h.not⟩
theorem Goes.trans {v'' : Av} {G'' : Nat} {vs'' : Nat → Value} (h : Goes w G vs v' G' vs' x) (h' : Goes x G' vs' v'' G'' vs'' y) : Goes w G vs v'' G'' vs'' y :=
 ⟨h'.rf, h.below.trans (h'.below.mono h.below.size), fun q hq hn => h'.not q (Nat.lt_of_lt_of_le hq h.below.size) (h.not q hq hn)⟩
theorem Av.Ok.tame (h : v.Ok) (ho : ∀ i, 4 ≤ i → v.rg.l i = []) : Tame v.rg := ⟨h.wf, by rw [h.n]; decide, fun i hi => ho i (by rw [h.n] at hi; exact hi)⟩

set_option maxHeartbeats 2000000 in
set_option maxRecDepth 100000 in
theorem rlen_c {i : Nat} (hi : i < 4) (hok : v.Ok) (w : World) (h : Dat w v G vs) :
  Calls Tryz.prog 63 #[.agg #[.int .i64 v.most, .int .i64 v.tgt, .slice (some ⟨G, 0, none⟩) 4 4, .int .i64 v.pl], .int .i64 i] w fun e w' => e = .returned (.int .i64 (v.len i : Int)) ∧ Below w.heap.size w w' := by
 have h1 := h.alloc (.cells #[.int .i64 v.most, .int .i64 v.tgt, .slice (some ⟨G, 0, none⟩) 4 4, .int .i64 v.pl] 32)
 have hb := (Below.refl _ w).alloc (Nat.le_refl _) (.cells #[.int .i64 v.most, .int .i64 v.tgt, .slice (some ⟨G, 0, none⟩) 4 4, .int .i64 v.pl] 32)
 obtain ⟨c1, ga, gc, hv⟩ := h1.at_ (i := i) (by rw [hok.n]; exact hi)
 rw [hv] at c1
 have q1 : (0 : Int) ≤ (i : Int) := by omega
 have q2 : (i : Int) < 4 := by omega
 clear hv h1 h
 go_enter Tryz.func63, Tryz.ntmps63
 go_wp2_with fail
 go_ret
 exact ⟨rfl, hb⟩
structure Wk (w : World) (G : Nat) (vs : Nat → Value) (v' : Av) (G' : Nat) (vs' : Nat → Value) (x : World) : Prop where
 go : Goes w G vs v' G' vs' x
 box : Blk x w.heap.size 32 #[.int .i64 v'.most, .int .i64 v'.tgt, .slice (some ⟨G', 0, none⟩) 4 4, .int .i64 v'.pl]
theorem Wk.onto (h : Wk w G vs v' G' vs' x) (hb : Below x.heap.size x y) : Wk w G vs v' G' vs' y := ⟨h.go.onto hb, h.box.below hb h.box.lt⟩
theorem Wk.drewN (h : Wk w G vs v' G' vs' x) (n : Nat) : Wk w G vs v' G' vs' (x.drewN n) := h.onto ⟨rfl, rfl, rfl, Nat.le_refl _, fun _ _ => rfl⟩
theorem Wk.new (h : Dat w v G vs) : Wk w G vs v G vs (w.alloc (.cells #[.int .i64 v.most, .int .i64 v.tgt, .slice (some ⟨G, 0, none⟩) 4 4, .int .i64 v.pl] 32)) := ⟨(Goes.refl h).onto ((Below.refl _ w).alloc (Nat.le_refl _) _), Blk.new w _ _⟩
theorem Wk.all (h : Wk w G vs v' G' vs' x) : x.cell? ⟨w.heap.size, 0, none⟩ = some (.int .i64 v'.most) ∧ x.cell? ⟨w.heap.size, 1, none⟩ = some (.int .i64 v'.tgt) ∧ x.cell? ⟨w.heap.size, 2, none⟩ = some (.slice (some ⟨G', 0, none⟩) 4 4) ∧ x.cell? ⟨w.heap.size, 3, none⟩ = some (.int .i64 v'.pl) ∧ Wk w G vs v' G' vs' x :=
 ⟨h.box.cell 0, h.box.cell 1, h.box.cell 2, h.box.cell 3, h⟩
theorem wk_len {a : Int} {i : Nat} (ha : a = (i : Int)) (hi : i < 4) (hok : v'.Ok) (h : Wk w G vs v' G' vs' x) :
  Calls Tryz.prog 63 #[.agg #[.int .i64 v'.most, .int .i64 v'.tgt, .slice (some ⟨G', 0, none⟩) 4 4, .int .i64 v'.pl], .int .i64 a] x fun e y => e = .returned (.int .i64 (v'.len i : Int)) ∧ Wk w G vs v' G' vs' y := by
 subst ha
 refine (rlen_c hi hok x h.go.rf).mono ?_
 rintro e y ⟨rfl, hb⟩
 exact ⟨rfl, h.onto hb⟩
set_option maxHeartbeats 200000 in
set_option maxRecDepth 100000 in
theorem rkept_c (hok : v.Ok) (w : World) (h : Dat w v G vs) :
  Calls Tryz.prog 34 #[.agg #[.int .i64 v.most, .int .i64 v.tgt, .slice (some ⟨G, 0, none⟩) 4 4, .int .i64 v.pl]] w fun e w' => e = .returned (.int .i64 v.kept) ∧ Below w.heap.size w w' := by
 have h1 := Wk.new h
 have f0 := fun W (h : Wk w G vs v G vs W) => wk_len (a := 0) (i := 0) rfl (by omega) hok h
 have f1 := fun W (h : Wk w G vs v G vs W) => wk_len (a := 1) (i := 1) rfl (by omega) hok h
 have l0 := hok.len_le (i := 0) (by omega)
 have l1 := hok.len_le (i := 1) (by omega)
 have u1 : IntKind.i64.wrap ((v.len 0 : Int) + (v.len 1 : Int)) = (v.kept : Int) := by rw [IntKind.wrap_i64, Av.kept]; omega
 go_enter Tryz.func34, Tryz.ntmps34
 go_upto_region 1 with (fail)
 generalize w.alloc (.cells #[.int .i64 v.most, .int .i64 v.tgt, .slice (some ⟨G, 0, none⟩) 4 4, .int .i64 v.pl] 32) = w1 at *
 have hd := (h1.drewN 1).all
 go_region_held3 (fun W => W.cell? ⟨w.heap.size, 0, none⟩ = some (.int .i64 v.most) ∧ W.cell? ⟨w.heap.size, 1, none⟩ = some (.int .i64 v.tgt) ∧ W.cell? ⟨w.heap.size, 2, none⟩ = some (.slice (some ⟨G, 0, none⟩) 4 4) ∧ W.cell? ⟨w.heap.size, 3, none⟩ = some (.int .i64 v.pl) ∧ Wk w G vs v G vs W)
  (first | assumption | exact hd | exact Wk.all (by assumption))
  (first | (go_at_call 63; (with_reducible refine Calls.mono (f0 _ (by assumption : _ ∧ _ ∧ _ ∧ _ ∧ _).2.2.2.2) ?_); rintro e wv ⟨rfl, hwv⟩) | (go_at_call 63; (with_reducible refine Calls.mono (f1 _ (by assumption : _ ∧ _ ∧ _ ∧ _ ∧ _).2.2.2.2) ?_); rintro e wv ⟨rfl, hwv⟩))
 go_wp2_with fail
 go_ret
 exact ⟨rfl, hwv.go.below⟩
theorem ix_eq (hok : v.Ok) (k : Key) : v.rg.idx k = (v.at_ k).getD 0 ∧ v.rg.hasB k = (v.at_ k).isSome := by
 cases e : v.at_ k with
 | none => exact Rg.idx_no fun t ht => Av.at_none e t (by rw [← hok.n]; exact ht)
 | some i =>
  obtain ⟨hi, hm⟩ := Av.at_some e
  exact Rg.idx_of hok.wf (by rw [hok.n]; exact hi) hm
theorem Av.Ok.lens (h : v.Ok) : ∀ i, i < v.rg.n → (v.rg.l i).length < 100000 := fun i hi => by
 have := h.len_le (i := i) (by rw [← h.n]; exact hi)
 unfold Av.len at this
 omega
theorem Av.Ok.val (h : v.Ok) (G : Nat) : refV G v.rg = .agg #[.slice (some ⟨G, 0, none⟩) 4 4, .int .i64 v.pl] := by
 unfold refV
 rw [h.n, h.pl]
 rfl
theorem wk_in (hok : v'.Ok) (h : Wk w G vs v' G' vs' x) :
  Calls Tryz.prog 65 #[.agg #[.slice (some ⟨G', 0, none⟩) 4 4, .int .i64 v'.pl], .string (str k)] x fun e y => e = .returned (.tuple #[.int .i64 (((v'.at_ k).getD 0 : Nat) : Int), .bool (v'.at_ k).isSome]) ∧ Wk w G vs v' G' vs' y := by
 have hc := rin_c k (by rw [hok.n]; decide) hok.lens x h.go.rf
 rw [hok.val, (ix_eq hok k).1, (ix_eq hok k).2] at hc
 refine hc.mono ?_
 rintro e y ⟨rfl, hb⟩
 exact ⟨rfl, h.onto hb⟩
set_option maxHeartbeats 1000000 in
set_option maxRecDepth 100000 in
theorem rhas_c (hok : v.Ok) (w : World) (h : Dat w v G vs) :
  Calls Tryz.prog 36 #[.agg #[.int .i64 v.most, .int .i64 v.tgt, .slice (some ⟨G, 0, none⟩) 4 4, .int .i64 v.pl], .string (str k)] w fun e w' => e = .returned (.bool (v.has k)) ∧ Below w.heap.size w w' := by
 have h1 := Wk.new h
 have hin := fun W (h : Wk w G vs v G vs W) => wk_in (k := k) hok h
 have hha := Av.at_has (k := k) hok
 go_enter Tryz.func36, Tryz.ntmps36
 go_upto_region 1 with (fail)
 generalize w.alloc (.cells #[.int .i64 v.most, .int .i64 v.tgt, .slice (some ⟨G, 0, none⟩) 4 4, .int .i64 v.pl] 32) = w1 at *
 obtain ⟨x0, x1, x2, x3, -⟩ := h1.all
 cases e : v.at_ k with
 | none =>
  simp only [e, Option.getD_none, Option.isSome_none] at hin
  rw [e] at hha
  go_wp2_with fail
  refine (hin _ h1).mono ?_
  rintro e w2 ⟨rfl, h2⟩
  clear x0 x1 x2 x3
  go_wp2_with fail
  go_ret
  exact ⟨by rw [hha]; rfl, h2.go.below⟩
 | some i =>
  simp only [e, Option.getD_some, Option.isSome_some] at hin
  rw [e] at hha
  by_cases hi : i < 2
  ·have d1 : decide ((i : Int) < 2) = true := decide_eq_true (by omega)
   have hb : (some i == some 0 || some i == some 1) = true := by rcases (by omega : i = 0 ∨ i = 1) with rfl | rfl <;> rfl
   have hv := hha.trans hb
   clear hha hb e
   go_wp2_with fail
   refine (hin _ h1).mono ?_
   rintro e w2 ⟨rfl, h2⟩
   clear x0 x1 x2 x3
   go_wp2_with fail
   go_ret
   exact ⟨by rw [hv]; rfl, h2.go.below⟩
  ·have d1 : decide ((i : Int) < 2) = false := decide_eq_false (by omega)
   have hb : (some i == some 0 || some i == some 1) = false := by
    rw [Bool.or_eq_false_iff, beq_eq_false_iff_ne, beq_eq_false_iff_ne]
    exact ⟨fun e => hi (by cases e; omega), fun e => hi (by cases e; omega)⟩
   have hv := hha.trans hb
   clear hha hb e
   go_wp2_with fail
   refine (hin _ h1).mono ?_
   rintro e w2 ⟨rfl, h2⟩
   clear x0 x1 x2 x3
   go_wp2_with fail
   go_ret
   exact ⟨by rw [hv]; rfl, h2.go.below⟩
end
end Go.Proofs.YtncgfnocokippaaGreat.Arcy
namespace Go.Proofs.YtncgfnocokippaaGreat.Arcy
open Go.ChangeShapes Go.WideShapes Go.ChangeAt Go.RowKit Go.Shelf
open Wirey (Blk Row str str_size str_list Kp)
open Ringy Go.ChangeMaps Go.Maps

structure Av.Fine (v : Av) : Prop where
 ok : v.Ok
 out : ∀ i, 4 ≤ i → v.rg.l i = []
section
variable {w x y : World} {v v' v'' : Av} {G G' G'' : Nat} {vs vs' vs'' : Nat → Value} {k : Key}
structure Wr (w : World) (G : Nat) (vs : Nat → Value) (v' : Av) (G' : Nat) (vs' : Nat → Value) (x : World) : Prop where
 go : Goes w G vs v' G' vs' x
 box : Blk x w.heap.size 32 #[.int .i64 v'.most, .int .i64 v'.tgt, .slice (some ⟨G', 0, none⟩) 4 4, .int .i64 v'.pl]
 res : Blk x (w.heap.size + 1) 32 #[.int .i64 0, .int .i64 0, .slice none 0 0, .int .i64 0]
 n0 : NotIn w.heap.size G' vs' 4
 n1 : NotIn (w.heap.size + 1) G' vs' 4
theorem Wr.onto (h : Wr w G vs v' G' vs' x) (hb : Below x.heap.size x y) : Wr w G vs v' G' vs' y := ⟨h.go.onto hb, h.box.below hb h.box.lt, h.res.below hb h.res.lt, h.n0, h.n1⟩
theorem Wr.drewN (h : Wr w G vs v' G' vs' x) (n : Nat) : Wr w G vs v' G' vs' (x.drewN n) := h.onto ⟨rfl, rfl, rfl, Nat.le_refl _, fun _ _ => rfl⟩
theorem Wr.new (hok : v.Ok) (h : Dat w v G vs) : Wr w G vs v G vs ((w.alloc (.cells #[.int .i64 v.most, .int .i64 v.tgt, .slice (some ⟨G, 0, none⟩) 4 4, .int .i64 v.pl] 32)).alloc (.cells #[.int .i64 0, .int .i64 0, .slice none 0 0, .int .i64 0] 32)) := by
 have hb := ((Below.refl _ w).alloc (Nat.le_refl _) (.cells #[.int .i64 v.most, .int .i64 v.tgt, .slice (some ⟨G, 0, none⟩) 4 4, .int .i64 v.pl] 32)).alloc (by simp) (.cells #[.int .i64 0, .int .i64 0, .slice none 0 0, .int .i64 0] 32)
 have h0 := (Blk.new w 32 #[.int .i64 v.most, .int .i64 v.tgt, .slice (some ⟨G, 0, none⟩) 4 4, .int .i64 v.pl]).alloc (.cells #[.int .i64 0, .int .i64 0, .slice none 0 0, .int .i64 0] 32)
 have h1 := Blk.new (w.alloc (.cells #[.int .i64 v.most, .int .i64 v.tgt, .slice (some ⟨G, 0, none⟩) 4 4, .int .i64 v.pl] 32)) 32 #[.int .i64 0, .int .i64 0, .slice none 0 0, .int .i64 0]
 rw [show (w.alloc (.cells #[.int .i64 v.most, .int .i64 v.tgt, .slice (some ⟨G, 0, none⟩) 4 4, .int .i64 v.pl] 32)).heap.size = w.heap.size + 1 by simp] at h1
 have hn := fun q hq => h.not_in (q := q) hq
 rw [hok.n] at hn
 exact ⟨(Goes.refl h).onto hb, h0, h1, hn _ (Nat.le_refl _), hn _ (Nat.le_succ _)⟩
theorem Wr.cells (h : Wr w G vs v' G' vs' x) : x.cell? ⟨w.heap.size, 0, none⟩ = some (.int .i64 v'.most) ∧ x.cell? ⟨w.heap.size, 1, none⟩ = some (.int .i64 v'.tgt) ∧ x.cell? ⟨w.heap.size, 2, none⟩ = some (.slice (some ⟨G', 0, none⟩) 4 4) ∧ x.cell? ⟨w.heap.size, 3, none⟩ = some (.int .i64 v'.pl) ∧ x.frozen? ⟨w.heap.size, 0, none⟩ = false ∧ x.frozen? ⟨w.heap.size, 1, none⟩ = false ∧ x.frozen? ⟨w.heap.size, 2, none⟩ = false ∧ x.frozen? ⟨w.heap.size, 3, none⟩ = false :=
 ⟨h.box.cell 0, h.box.cell 1, h.box.cell 2, h.box.cell 3, h.box.free 0, h.box.free 1, h.box.free 2, h.box.free 3⟩
theorem Wr.zero (h : Wr w G vs v' G' vs' x) : x.cell? ⟨w.heap.size + 1, 0, none⟩ = some (.int .i64 0) ∧ x.cell? ⟨w.heap.size + 1, 1, none⟩ = some (.int .i64 0) ∧ x.cell? ⟨w.heap.size + 1, 2, none⟩ = some (.slice none 0 0) ∧ x.cell? ⟨w.heap.size + 1, 3, none⟩ = some (.int .i64 0) ∧
  x.frozen? ⟨w.heap.size + 1, 0, none⟩ = false ∧ x.frozen? ⟨w.heap.size + 1, 1, none⟩ = false ∧ x.frozen? ⟨w.heap.size + 1, 2, none⟩ = false ∧ x.frozen? ⟨w.heap.size + 1, 3, none⟩ = false :=
 ⟨h.res.cell 0, h.res.cell 1, h.res.cell 2, h.res.cell 3, h.res.free 0, h.res.free 1, h.res.free 2, h.res.free 3⟩
theorem Dat.beside {q : Nat} (h : Dat x v G vs) (hok : v.Ok) (hn : NotIn q G vs 4) (i : Nat) (u : Value) : Dat (x.setCell ⟨q, i, none⟩ u) v G vs :=
 ⟨h.blk.far (p := ⟨q, i, none⟩) hn.1 u, fun j hj => ownsRow_stay (h.row j hj) fun b hb => Below.heap_setCell x ⟨q, i, none⟩ u b (hn.2 j b (by rw [← hok.n]; exact hj) hb), h.noG, h.noR⟩
theorem Goes.beside {q : Nat} (h : Goes w G vs v' G' vs' x) (hok : v'.Ok) (hq : w.heap.size ≤ q) (hn : NotIn q G' vs' 4) (i : Nat) (u : Value) : Goes w G vs v' G' vs' (x.setCell ⟨q, i, none⟩ u) :=
 ⟨Dat.beside h.rf hok hn i u, h.below.setCell (p := ⟨q, i, none⟩) hq u, h.not⟩
theorem Wr.take (h : Wr w G vs v G' vs' x) (hok : v'.Ok) (hg : Goes x G' vs' v' G'' vs'' y) :
  Wr w G vs v' G'' vs'' ((((y.setCell ⟨w.heap.size, 0, none⟩ (.int .i64 v'.most)).setCell ⟨w.heap.size, 1, none⟩ (.int .i64 v'.tgt)).setCell ⟨w.heap.size, 2, none⟩ (.slice (some ⟨G'', 0, none⟩) 4 4)).setCell ⟨w.heap.size, 3, none⟩ (.int .i64 v'.pl)) := by
 have n0 := hg.not _ h.box.lt h.n0
 have n1 := hg.not _ h.res.lt h.n1
 have hne : w.heap.size + 1 ≠ w.heap.size := by omega
 have hb := h.box.below hg.below h.box.lt
 have hr := h.res.below hg.below h.res.lt
 have hG := h.go.trans hg
 exact ⟨(((hG.beside hok (Nat.le_refl _) n0 0 _).beside hok (Nat.le_refl _) n0 1 _).beside hok (Nat.le_refl _) n0 2 _).beside hok (Nat.le_refl _) n0 3 _,
   (((hb.put 0 (.int .i64 v'.most)).put 1 (.int .i64 v'.tgt)).put 2 (.slice (some ⟨G'', 0, none⟩) 4 4)).put 3 (.int .i64 v'.pl),
   (((hr.far (p := ⟨w.heap.size, 0, none⟩) hne _).far (p := ⟨w.heap.size, 1, none⟩) hne _).far (p := ⟨w.heap.size, 2, none⟩) hne _).far (p := ⟨w.heap.size, 3, none⟩) hne _, n0, n1⟩
theorem Wr.take2 (h : Wr w G vs v G' vs' x) (hok : v'.Ok) (hm : v'.most = v.most) (ht : v'.tgt = v.tgt) (hg : Goes x G' vs' v' G'' vs'' y) :
  Wr w G vs v' G'' vs'' ((y.setCell ⟨w.heap.size, 2, none⟩ (.slice (some ⟨G'', 0, none⟩) 4 4)).setCell ⟨w.heap.size, 3, none⟩ (.int .i64 v.pl)) := by
 have n0 := hg.not _ h.box.lt h.n0
 have n1 := hg.not _ h.res.lt h.n1
 have hne : w.heap.size + 1 ≠ w.heap.size := by omega
 have hb := h.box.below hg.below h.box.lt
 have hr := h.res.below hg.below h.res.lt
 have hG := h.go.trans hg
 have hpl : v'.pl = v.pl := by unfold Av.pl; rw [hm]
 refine ⟨(hG.beside hok (Nat.le_refl _) n0 2 _).beside hok (Nat.le_refl _) n0 3 _, ?_, (hr.far (p := ⟨w.heap.size, 2, none⟩) hne _).far (p := ⟨w.heap.size, 3, none⟩) hne _, n0, n1⟩
 rw [hm, ht, hpl]
 exact (hb.put 2 (.slice (some ⟨G'', 0, none⟩) 4 4)).put 3 (.int .i64 v.pl)
theorem Wr.turn (h : Wr w G vs v G' vs' x) {t : Nat} (hok : v.Ok) (ht : t ≤ v.most) : Wr w G vs { v with tgt := t } G' vs' (x.setCell ⟨w.heap.size, 1, none⟩ (.int .i64 t)) := by
 have hne : w.heap.size + 1 ≠ w.heap.size := by omega
 have hk : ({ v with tgt := t } : Av).Ok := ⟨hok.wf, hok.n, hok.pl, hok.m1, hok.m2, ht, hok.kept, hok.one, hok.all⟩
 have hG : Goes w G vs { v with tgt := t } G' vs' x := ⟨h.go.rf, h.go.below, h.go.not⟩
 exact ⟨hG.beside hk (Nat.le_refl _) h.n0 1 _, h.box.put 1 (.int .i64 t), h.res.far (p := ⟨w.heap.size, 1, none⟩) hne _, h.n0, h.n1⟩
theorem Wr.turn2 (h : Wr w G vs v G' vs' x) {t : Nat} (hok : v.Ok) (ht : t ≤ v.most) (u : Value) : Wr w G vs { v with tgt := t } G' vs' ((x.setCell ⟨w.heap.size, 1, none⟩ u).setCell ⟨w.heap.size, 1, none⟩ (.int .i64 t)) := by
 have hne : w.heap.size + 1 ≠ w.heap.size := by omega
 have hk : ({ v with tgt := t } : Av).Ok := ⟨hok.wf, hok.n, hok.pl, hok.m1, hok.m2, ht, hok.kept, hok.one, hok.all⟩
 have hG : Goes w G vs { v with tgt := t } G' vs' x := ⟨h.go.rf, h.go.below, h.go.not⟩
 exact ⟨(hG.beside hk (Nat.le_refl _) h.n0 1 _).beside hk (Nat.le_refl _) h.n0 1 _, (h.box.put 1 u).put 1 (.int .i64 t), (h.res.far (p := ⟨w.heap.size, 1, none⟩) hne _).far (p := ⟨w.heap.size, 1, none⟩) hne _, h.n0, h.n1⟩
def putA (w y : World) (m t G p : Nat) : World := ((((y.setCell ⟨w.heap.size + 1, 0, none⟩ (.int .i64 m)).setCell ⟨w.heap.size + 1, 1, none⟩ (.int .i64 t)).setCell ⟨w.heap.size + 1, 2, none⟩ (.slice (some ⟨G, 0, none⟩) 4 4)).setCell ⟨w.heap.size + 1, 3, none⟩ (.int .i64 p))
theorem Wr.fin (h : Wr w G vs v G' vs' x) (hok : v'.Ok) (hg : Goes x G' vs' v' G'' vs'' y) :
  Goes w G vs v' G'' vs'' (putA w y v'.most v'.tgt G'' v'.pl) ∧ (putA w y v'.most v'.tgt G'' v'.pl).cell? ⟨w.heap.size + 1, 0, none⟩ = some (.int .i64 v'.most) ∧ (putA w y v'.most v'.tgt G'' v'.pl).cell? ⟨w.heap.size + 1, 1, none⟩ = some (.int .i64 v'.tgt) ∧ (putA w y v'.most v'.tgt G'' v'.pl).cell? ⟨w.heap.size + 1, 2, none⟩ = some (.slice (some ⟨G'', 0, none⟩) 4 4) ∧ (putA w y v'.most v'.tgt G'' v'.pl).cell? ⟨w.heap.size + 1, 3, none⟩ = some (.int .i64 v'.pl) := by
 have n1 := hg.not _ h.res.lt h.n1
 have hr := h.res.below hg.below h.res.lt
 have hG := h.go.trans hg
 have hB : Blk (putA w y v'.most v'.tgt G'' v'.pl) (w.heap.size + 1) 32 #[.int .i64 v'.most, .int .i64 v'.tgt, .slice (some ⟨G'', 0, none⟩) 4 4, .int .i64 v'.pl] := (((hr.put 0 (.int .i64 v'.most)).put 1 (.int .i64 v'.tgt)).put 2 (.slice (some ⟨G'', 0, none⟩) 4 4)).put 3 (.int .i64 v'.pl)
 exact ⟨(((hG.beside hok (Nat.le_succ _) n1 0 _).beside hok (Nat.le_succ _) n1 1 _).beside hok (Nat.le_succ _) n1 2 _).beside hok (Nat.le_succ _) n1 3 _, hB.cell 0, hB.cell 1, hB.cell 2, hB.cell 3⟩
theorem Wr.done (h : Wr w G vs v G' vs' x) (hok : v.Ok) : Goes w G vs v G' vs' (putA w x v.most v.tgt G' v.pl) ∧ (putA w x v.most v.tgt G' v.pl).cell? ⟨w.heap.size + 1, 0, none⟩ = some (.int .i64 v.most) ∧ (putA w x v.most v.tgt G' v.pl).cell? ⟨w.heap.size + 1, 1, none⟩ = some (.int .i64 v.tgt) ∧ (putA w x v.most v.tgt G' v.pl).cell? ⟨w.heap.size + 1, 2, none⟩ = some (.slice (some ⟨G', 0, none⟩) 4 4) ∧ (putA w x v.most v.tgt G' v.pl).cell? ⟨w.heap.size + 1, 3, none⟩ = some (.int .i64 v.pl) := h.fin hok (Goes.refl h.go.rf)
theorem ring_front {j : Nat} (hj : j < 4) (hk : k.length ≤ 64) (hf : v.Fine) (x : World) (h : Dat x v G vs) :
  Calls Tryz.prog 103 #[.agg #[.slice (some ⟨G, 0, none⟩) 4 4, .int .i64 v.pl], .int .i64 j, .string (str k)] x fun e y => ∃ G' vs', e = .returned (.tuple #[.agg #[.slice (some ⟨G', 0, none⟩) 4 4, .int .i64 v.pl], .bool true]) ∧ Goes x G vs (v.fr j k) G' vs' y := by
 have hok := hf.ok
 have hT := hok.tame hf.out
 have he : v.rg.ok (j : Int) k = true := Rg.ok_of (by omega) (by rw [hok.n]; omega) hk (hok.can k)
 have hc := rfront_yes (r := v.rg) (j := j) (k := k) (by unfold maxLen; omega) (by rw [hok.n]; decide) (fun i => Nat.lt_trans (hT.len i) (by omega)) x h (by rw [hok.n]; exact hj) he
 rw [hok.val] at hc
 have hfr : v.rg.fr (j : Int) k = (v.fr j k).rg := by rw [Rg.fr_ok he]; rfl
 rw [hfr] at hc
 refine hc.mono ?_
 rintro e y ⟨G', vs', rfl, hR, hb⟩
 refine ⟨G', vs', ?_, hR.free (fun ho => ho) (fun _ _ _ _ ho => ho), hb, fun q hq _ => ?_⟩
 ·have : refV G' (v.fr j k).rg = .agg #[.slice (some ⟨G', 0, none⟩) 4 4, .int .i64 v.pl] := hok.val G'
  rw [this]
 ·have := hR.not_old hq
  rw [show (v.fr j k).rg.n = 4 from hok.n] at this
  exact this
theorem ring_drop (hok : v.Ok) (x : World) (h : Dat x v G vs) :
  Calls Tryz.prog 84 #[.agg #[.slice (some ⟨G, 0, none⟩) 4 4, .int .i64 v.pl], .string (str k)] x fun e y => ∃ G' vs', e = .returned (.agg #[.slice (some ⟨G', 0, none⟩) 4 4, .int .i64 v.pl]) ∧ Goes x G vs (v.dr k) G' vs' y := by
 have hc := rdrop_c (r := v.rg) k (by rw [hok.n]; decide) hok.lens x h
 rw [hok.val] at hc
 refine hc.mono ?_
 rintro e y ⟨G', vs', rfl, hR, hb, -⟩
 refine ⟨G', vs', ?_, hR.free (fun ho => ho) (fun _ _ _ _ ho => ho), hb, fun q hq _ => ?_⟩
 ·have : refV G' (v.rg.drop k) = .agg #[.slice (some ⟨G', 0, none⟩) 4 4, .int .i64 v.pl] := (hok.dr k).val G'
  rw [this]
 ·have := hR.not_old hq
  rw [show (v.rg.drop k).n = 4 from hok.n] at this
  exact this
theorem ring_back {i : Nat} (hi : i < 4) (hok : v.Ok) (x : World) (h : Dat x v G vs) :
  Calls Tryz.prog 83 #[.agg #[.slice (some ⟨G, 0, none⟩) 4 4, .int .i64 v.pl], .int .i64 i] x fun e y => e = .returned (.tuple #[.string (str ((v.last i).getD [])), .bool (v.last i).isSome]) ∧ Below x.heap.size x y := by
 have hc := rback_c (r := v.rg) (i := i) (by rw [hok.n]; exact hi) (hok.lens i (by rw [hok.n]; exact hi)) x h
 rw [hok.val] at hc
 have e1 : v.rg.back i = (v.last i).getD [] := by
  unfold Rg.back Av.last
  rw [List.getLast?_eq_getElem?]
 have e2 : decide (0 < (v.rg.l i).length) = (v.last i).isSome := by
  unfold Av.last
  cases hl : v.rg.l i with
  | nil => rfl
  | cons a t => simp
 rw [e1, e2] at hc
 exact hc
set_option maxHeartbeats 2000000 in
set_option maxRecDepth 100000 in
theorem rfront_c {j : Nat} (hj : j < 4) (hk : k.length ≤ 64) (hf : v.Fine) (hv : (v.fr j k).Ok) (w : World) (h : Dat w v G vs) :
  Calls Tryz.prog 79 #[.agg #[.int .i64 v.most, .int .i64 v.tgt, .slice (some ⟨G, 0, none⟩) 4 4, .int .i64 v.pl], .int .i64 j, .string (str k)] w fun e w' => ∃ G' vs', e = .returned (.agg #[.int .i64 v.most, .int .i64 v.tgt, .slice (some ⟨G', 0, none⟩) 4 4, .int .i64 v.pl]) ∧ Goes w G vs (v.fr j k) G' vs' w' := by
 have h2 := Wr.new hf.ok h
 go_enter Tryz.func79, Tryz.ntmps79
 go_upto_region 1 with (fail)
 generalize (w.alloc (.cells #[.int .i64 v.most, .int .i64 v.tgt, .slice (some ⟨G, 0, none⟩) 4 4, .int .i64 v.pl] 32)).alloc (.cells #[.int .i64 0, .int .i64 0, .slice none 0 0, .int .i64 0] 32) = w2 at *
 obtain ⟨x0, x1, x2, x3, -⟩ := h2.cells
 have hfc := ring_front hj hk hf w2 h2.go.rf
 go_wp2_with fail
 refine hfc.mono ?_
 rintro e w3 ⟨G', vs', rfl, hg⟩
 clear x0 x1 x2 x3
 have hR := h2.take2 (v' := v.fr j k) hv rfl rfl hg
 obtain ⟨x0, x1, x2, x3, y0, y1, y2, y3⟩ := (h2.box.below hg.below h2.box.lt |> fun (hb : Blk w3 w.heap.size 32 #[.int .i64 v.most, .int .i64 v.tgt, .slice (some ⟨G, 0, none⟩) 4 4, .int .i64 v.pl]) => (⟨hb.cell 0, hb.cell 1, hb.cell 2, hb.cell 3, hb.free 0, hb.free 1, hb.free 2, hb.free 3⟩ : w3.cell? ⟨w.heap.size, 0, none⟩ = some (.int .i64 v.most) ∧ w3.cell? ⟨w.heap.size, 1, none⟩ = some (.int .i64 v.tgt) ∧ w3.cell? ⟨w.heap.size, 2, none⟩ = some (.slice (some ⟨G, 0, none⟩) 4 4) ∧ w3.cell? ⟨w.heap.size, 3, none⟩ = some (.int .i64 v.pl) ∧ w3.frozen? ⟨w.heap.size, 0, none⟩ = false ∧ w3.frozen? ⟨w.heap.size, 1, none⟩ = false ∧ w3.frozen? ⟨w.heap.size, 2, none⟩ = false ∧ w3.frozen? ⟨w.heap.size, 3, none⟩ = false))
 go_upto_region 2 with (fail)
 clear x0 x1 x2 x3 y0 y1 y2 y3 hfc
 generalize (w3.setCell ⟨w.heap.size, 2, none⟩ (.slice (some ⟨G', 0, none⟩) 4 4)).setCell ⟨w.heap.size, 3, none⟩ (.int .i64 v.pl) = w4 at *
 obtain ⟨x0, x1, x2, x3, -⟩ := (show w4.cell? ⟨w.heap.size, 0, none⟩ = some (.int .i64 v.most) ∧ w4.cell? ⟨w.heap.size, 1, none⟩ = some (.int .i64 v.tgt) ∧ w4.cell? ⟨w.heap.size, 2, none⟩ = some (.slice (some ⟨G', 0, none⟩) 4 4) ∧ w4.cell? ⟨w.heap.size, 3, none⟩ = some (.int .i64 v.pl) ∧ _ from hR.cells)
 obtain ⟨z0, z1, z2, z3, z4, z5, z6, z7⟩ := hR.zero
 obtain ⟨hG, p0, p1, p2, p3⟩ := (show Goes w G vs (v.fr j k) G' vs' (putA w w4 v.most v.tgt G' v.pl) ∧ (putA w w4 v.most v.tgt G' v.pl).cell? ⟨w.heap.size + 1, 0, none⟩ = some (.int .i64 v.most) ∧ (putA w w4 v.most v.tgt G' v.pl).cell? ⟨w.heap.size + 1, 1, none⟩ = some (.int .i64 v.tgt) ∧ (putA w w4 v.most v.tgt G' v.pl).cell? ⟨w.heap.size + 1, 2, none⟩ = some (.slice (some ⟨G', 0, none⟩) 4 4) ∧ (putA w w4 v.most v.tgt G' v.pl).cell? ⟨w.heap.size + 1, 3, none⟩ = some (.int .i64 v.pl) from hR.done hv)
 unfold putA at hG p0 p1 p2 p3
 have HG := Lib.hid hG
 have HP0 := Lib.hid p0
 have HP1 := Lib.hid p1
 have HP2 := Lib.hid p2
 have HP3 := Lib.hid p3
 clear hG p0 p1 p2 p3
 go_wp2_with fail
 have p0 := HP0.out
 have p1 := HP1.out
 have p2 := HP2.out
 have p3 := HP3.out
 have hG := HG.out
 clear HP0 HP1 HP2 HP3 HG
 generalize ((((w4.setCell ⟨w.heap.size + 1, 0, none⟩ (.int .i64 v.most)).setCell ⟨w.heap.size + 1, 1, none⟩ (.int .i64 v.tgt)).setCell ⟨w.heap.size + 1, 2, none⟩ (.slice (some ⟨G', 0, none⟩) 4 4)).setCell ⟨w.heap.size + 1, 3, none⟩ (.int .i64 v.pl)) = w9 at *
 (try simp only [Exit.inBlock, Exit.then])
 refine bodyPost_ret (v := .agg #[.int .i64 v.most, .int .i64 v.tgt, .slice (some ⟨G', 0, none⟩) 4 4, .int .i64 v.pl]) (by simp [results, Tryz.results79, go_sem, p0, p1, p2, p3]) rfl ?_
 exact ⟨G', vs', rfl, hG⟩
end
end Go.Proofs.YtncgfnocokippaaGreat.Arcy
