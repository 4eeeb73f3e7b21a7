/- The document's own ARC in memory: what asks it, a key's going to a list's front, the last one's being forgotten, the going of one that is kept. The only condition: it is as chapter 7 has it. -/
import Derived.Test.YtfhlnidjneaieaaRingBoth
import Derived.Test.YtfhlnidjneaieaaArcRun
import Derived.Deep.RegionHeld3
import Derived.Deep.CutRange
namespace Go.Proofs.Ytfhlnidjneaieaa.Arcy
open Go.ChangeShapes Go.WideShapes Go.ChangeAt Go.RowKit Go.Shelf
open Wirey (Blk Row str str_size str_list Kp)
open Ringy Go.ChangeMaps Go.Maps

def Av.pl (v : Av) : Nat := 2 * v.most + 1
/-- The document's ARC, by its row of lists: nothing else is asked of where they lie. -/
abbrev Dat (x : World) (v : Av) (G : Nat) (vs : Nat → Value) : Prop := RefAt x (fun _ => False) G vs v.rg
section
variable {w x y : World} {v v' : Av} {G G' : Nat} {vs vs' : Nat → Value} {k : Key}
/-- From one ARC to another one: whatever block was none of its lists' is none. -/
structure Goes (w : World) (G : Nat) (vs : Nat → Value) (v' : Av) (G' : Nat) (vs' : Nat → Value) (x : World) : Prop where
  rf : Dat x v' G' vs'
  below : Below w.heap.size w x
  not : ∀ q, q < w.heap.size → NotIn q G vs 4 → NotIn q G' vs' 4
theorem Goes.refl (h : Dat w v G vs) : Goes w G vs v G vs w := ⟨h, Below.refl _ _, fun _ _ h => h⟩
theorem Goes.onto (h : Goes w G vs v' G' vs' x) (hb : Below x.heap.size x y) : Goes w G vs v' G' vs' y := ⟨h.rf.below hb (Nat.le_refl _), h.below.trans (hb.mono h.below.size), h.not⟩
theorem Goes.trans {v'' : Av} {G'' : Nat} {vs'' : Nat → Value} (h : Goes w G vs v' G' vs' x) (h' : Goes x G' vs' v'' G'' vs'' y) : Goes w G vs v'' G'' vs'' y :=
  ⟨h'.rf, h.below.trans (h'.below.mono h.below.size), fun q hq hn => h'.not q (Nat.lt_of_lt_of_le hq h.below.size) (h.not q hq hn)⟩
/-- Behind blocks that a call laid for itself. -/
theorem Goes.from {w1 : World} (h : Goes w1 G vs v' G' vs' x) (hb : Below w.heap.size w w1) : Goes w G vs v' G' vs' x :=
  ⟨h.rf, hb.trans (h.below.mono hb.size), fun q hq hn => h.not q (Nat.lt_of_lt_of_le hq hb.size) hn⟩
theorem Av.Ok.tame (h : v.Ok) (ho : ∀ i, 4 ≤ i → v.rg.l i = []) : Tame v.rg := ⟨h.wf, by rw [h.n]; decide, fun i hi => ho i (by rw [h.n] at hi; exact hi)⟩

set_option maxHeartbeats 2000000 in
set_option maxRecDepth 100000 in
theorem rlen_c {i : Nat} (hi : i < 4) (hok : v.Ok) (w : World) (h : Dat w v G vs) :
    Calls Try.prog 94 #[.agg #[.int .i64 (v.most : Int), .int .i64 (v.tgt : Int), .slice (some ⟨G, 0, none⟩) 4 4, .int .i64 (v.pl : Int)], .int .i64 (i : Int)] w fun e w' => e = .returned (.int .i64 (v.len i : Int)) ∧ Below w.heap.size w w' := by
  have h1 := h.alloc (.cells #[.int .i64 (v.most : Int), .int .i64 (v.tgt : Int), .slice (some ⟨G, 0, none⟩) 4 4, .int .i64 (v.pl : Int)] 63)
  have hb := (Below.refl _ w).alloc (Nat.le_refl _) (.cells #[.int .i64 (v.most : Int), .int .i64 (v.tgt : Int), .slice (some ⟨G, 0, none⟩) 4 4, .int .i64 (v.pl : Int)] 63)
  obtain ⟨c1, ga, gc, hv⟩ := h1.at_ (i := i) (by rw [hok.n]; exact hi)
  rw [hv] at c1
  have q1 : (0 : Int) ≤ (i : Int) := by omega
  have q2 : (i : Int) < 4 := by omega
  clear hv h1 h
  go_enter Try.func94, Try.ntmps94
  go_wp2_with fail
  go_ret
  exact ⟨rfl, hb⟩
/-- What a method lays first: its own copy, in a box. -/
structure Wk (w : World) (G : Nat) (vs : Nat → Value) (v' : Av) (G' : Nat) (vs' : Nat → Value) (x : World) : Prop where
  go : Goes w G vs v' G' vs' x
  box : Blk x w.heap.size 63 #[.int .i64 (v'.most : Int), .int .i64 (v'.tgt : Int), .slice (some ⟨G', 0, none⟩) 4 4, .int .i64 (v'.pl : Int)]
theorem Wk.onto (h : Wk w G vs v' G' vs' x) (hb : Below x.heap.size x y) : Wk w G vs v' G' vs' y := ⟨h.go.onto hb, h.box.below hb h.box.lt⟩
theorem Wk.drewN (h : Wk w G vs v' G' vs' x) (n : Nat) : Wk w G vs v' G' vs' (x.drewN n) := h.onto ⟨rfl, rfl, rfl, Nat.le_refl _, fun _ _ => rfl⟩
theorem Wk.new (h : Dat w v G vs) : Wk w G vs v G vs (w.alloc (.cells #[.int .i64 (v.most : Int), .int .i64 (v.tgt : Int), .slice (some ⟨G, 0, none⟩) 4 4, .int .i64 (v.pl : Int)] 63)) := ⟨(Goes.refl h).onto ((Below.refl _ w).alloc (Nat.le_refl _) _), Blk.new w _ _⟩
theorem Wk.all (h : Wk w G vs v' G' vs' x) : x.cell? ⟨w.heap.size, 0, none⟩ = some (.int .i64 (v'.most : Int)) ∧ x.cell? ⟨w.heap.size, 1, none⟩ = some (.int .i64 (v'.tgt : Int)) ∧ x.cell? ⟨w.heap.size, 2, none⟩ = some (.slice (some ⟨G', 0, none⟩) 4 4) ∧ x.cell? ⟨w.heap.size, 3, none⟩ = some (.int .i64 (v'.pl : Int)) ∧ Wk w G vs v' G' vs' x :=
  ⟨h.box.cell 0, h.box.cell 1, h.box.cell 2, h.box.cell 3, h⟩
theorem wk_len {a : Int} {i : Nat} (ha : a = (i : Int)) (hi : i < 4) (hok : v'.Ok) (h : Wk w G vs v' G' vs' x) :
    Calls Try.prog 94 #[.agg #[.int .i64 (v'.most : Int), .int .i64 (v'.tgt : Int), .slice (some ⟨G', 0, none⟩) 4 4, .int .i64 (v'.pl : Int)], .int .i64 a] x fun e y => e = .returned (.int .i64 (v'.len i : Int)) ∧ Wk w G vs v' G' vs' y := by
  subst ha
  refine (rlen_c hi hok x h.go.rf).mono ?_
  rintro e y ⟨rfl, hb⟩
  exact ⟨rfl, h.onto hb⟩
set_option maxHeartbeats 200000 in
set_option maxRecDepth 100000 in
theorem rkept_c (hok : v.Ok) (w : World) (h : Dat w v G vs) :
    Calls Try.prog 74 #[.agg #[.int .i64 (v.most : Int), .int .i64 (v.tgt : Int), .slice (some ⟨G, 0, none⟩) 4 4, .int .i64 (v.pl : Int)]] w fun e w' => e = .returned (.int .i64 (v.kept : Int)) ∧ Below w.heap.size w w' := by
  have h1 := Wk.new h
  have f0 := fun W (h : Wk w G vs v G vs W) => wk_len (a := 0) (i := 0) rfl (by omega) hok h
  have f1 := fun W (h : Wk w G vs v G vs W) => wk_len (a := 1) (i := 1) rfl (by omega) hok h
  have l0 := hok.len_le (i := 0) (by omega)
  have l1 := hok.len_le (i := 1) (by omega)
  have u1 : IntKind.i64.wrap ((v.len 0 : Int) + (v.len 1 : Int)) = (v.kept : Int) := by rw [IntKind.wrap_i64, Av.kept]; omega
  go_enter Try.func74, Try.ntmps74
  go_upto_region 1 with (fail)
  generalize w.alloc (.cells #[.int .i64 (v.most : Int), .int .i64 (v.tgt : Int), .slice (some ⟨G, 0, none⟩) 4 4, .int .i64 (v.pl : Int)] 63) = w1 at *
  have hd := (h1.drewN 1).all
  go_region_held3 (fun W => W.cell? ⟨w.heap.size, 0, none⟩ = some (.int .i64 (v.most : Int)) ∧ W.cell? ⟨w.heap.size, 1, none⟩ = some (.int .i64 (v.tgt : Int)) ∧ W.cell? ⟨w.heap.size, 2, none⟩ = some (.slice (some ⟨G, 0, none⟩) 4 4) ∧ W.cell? ⟨w.heap.size, 3, none⟩ = some (.int .i64 (v.pl : Int)) ∧ Wk w G vs v G vs W)
    (first | assumption | exact hd | exact Wk.all (by assumption))
    (first | (go_at_call 94; (with_reducible refine Calls.mono (f0 _ (by assumption : _ ∧ _ ∧ _ ∧ _ ∧ _).2.2.2.2) ?_); rintro e wv ⟨rfl, hwv⟩) | (go_at_call 94; (with_reducible refine Calls.mono (f1 _ (by assumption : _ ∧ _ ∧ _ ∧ _ ∧ _).2.2.2.2) ?_); rintro e wv ⟨rfl, hwv⟩))
  go_wp2_with fail
  go_ret
  exact ⟨rfl, hwv.go.below⟩
/-- In which list a key is, as the document's lists tell. -/
theorem ix_eq (hok : v.Ok) (k : Key) : v.rg.idx k = (v.at_ k).getD 0 ∧ v.rg.hasB k = (v.at_ k).isSome := by
  cases e : v.at_ k with
  | none => exact Rg.idx_no fun t ht => Av.at_none e t (by rw [← hok.n]; exact ht)
  | some i =>
    obtain ⟨hi, hm⟩ := Av.at_some e
    exact Rg.idx_of hok.wf (by rw [hok.n]; exact hi) hm
theorem Av.Ok.lens (h : v.Ok) : ∀ i, i < v.rg.n → (v.rg.l i).length < 100000 := fun i hi => by
  have := h.len_le (i := i) (by rw [← h.n]; exact hi)
  unfold Av.len at this
  omega
theorem Av.Ok.val (h : v.Ok) (G : Nat) : refV G v.rg = .agg #[.slice (some ⟨G, 0, none⟩) 4 4, .int .i64 (v.pl : Int)] := by
  unfold refV
  rw [h.n, h.pl]
  rfl
theorem wk_in (hok : v'.Ok) (h : Wk w G vs v' G' vs' x) :
    Calls Try.prog 18 #[.agg #[.slice (some ⟨G', 0, none⟩) 4 4, .int .i64 (v'.pl : Int)], .string (str k)] x fun e y => e = .returned (.tuple #[.int .i64 (((v'.at_ k).getD 0 : Nat) : Int), .bool (v'.at_ k).isSome]) ∧ Wk w G vs v' G' vs' y := by
  have hc := rin_c k (by rw [hok.n]; decide) hok.lens x h.go.rf
  rw [hok.val, (ix_eq hok k).1, (ix_eq hok k).2] at hc
  refine hc.mono ?_
  rintro e y ⟨rfl, hb⟩
  exact ⟨rfl, h.onto hb⟩
set_option maxHeartbeats 1000000 in
set_option maxRecDepth 100000 in
theorem rhas_c (hok : v.Ok) (w : World) (h : Dat w v G vs) :
    Calls Try.prog 40 #[.agg #[.int .i64 (v.most : Int), .int .i64 (v.tgt : Int), .slice (some ⟨G, 0, none⟩) 4 4, .int .i64 (v.pl : Int)], .string (str k)] w fun e w' => e = .returned (.bool (v.has k)) ∧ Below w.heap.size w w' := by
  have h1 := Wk.new h
  have hin := fun W (h : Wk w G vs v G vs W) => wk_in (k := k) hok h
  have hha := Av.at_has (k := k) hok
  go_enter Try.func40, Try.ntmps40
  go_upto_region 1 with (fail)
  generalize w.alloc (.cells #[.int .i64 (v.most : Int), .int .i64 (v.tgt : Int), .slice (some ⟨G, 0, none⟩) 4 4, .int .i64 (v.pl : Int)] 63) = w1 at *
  obtain ⟨x0, x1, x2, x3, -⟩ := h1.all
  cases e : v.at_ k with
  | none =>
    simp only [e, Option.getD_none, Option.isSome_none] at hin
    rw [e] at hha
    go_wp2_with fail
    refine (hin _ h1).mono ?_
    rintro e w2 ⟨rfl, h2⟩
    clear x0 x1 x2 x3
    go_wp2_with fail
    go_ret
    exact ⟨by rw [hha]; rfl, h2.go.below⟩
  | some i =>
    simp only [e, Option.getD_some, Option.isSome_some] at hin
    rw [e] at hha
    by_cases hi : i < 2
    · have d1 : decide ((i : Int) < 2) = true := decide_eq_true (by omega)
      have hb : (some i == some 0 || some i == some 1) = true := by rcases (by omega : i = 0 ∨ i = 1) with rfl | rfl <;> rfl
      have hv := hha.trans hb
      clear hha hb e
      go_wp2_with fail
      refine (hin _ h1).mono ?_
      rintro e w2 ⟨rfl, h2⟩
      clear x0 x1 x2 x3
      go_wp2_with fail
      go_ret
      exact ⟨by rw [hv]; rfl, h2.go.below⟩
    · have d1 : decide ((i : Int) < 2) = false := decide_eq_false (by omega)
      have hb : (some i == some 0 || some i == some 1) = false := by
        rw [Bool.or_eq_false_iff, beq_eq_false_iff_ne, beq_eq_false_iff_ne]
        exact ⟨fun e => hi (by cases e; omega), fun e => hi (by cases e; omega)⟩
      have hv := hha.trans hb
      clear hha hb e
      go_wp2_with fail
      refine (hin _ h1).mono ?_
      rintro e w2 ⟨rfl, h2⟩
      clear x0 x1 x2 x3
      go_wp2_with fail
      go_ret
      exact ⟨by rw [hv]; rfl, h2.go.below⟩
end
end Go.Proofs.Ytfhlnidjneaieaa.Arcy

namespace Go.Proofs.Ytfhlnidjneaieaa.Arcy
open Go.ChangeShapes Go.WideShapes Go.ChangeAt Go.RowKit Go.Shelf
open Wirey (Blk Row str str_size str_list Kp)
open Ringy Go.ChangeMaps Go.Maps

/-- Nothing lies behind the four lists. -/
structure Av.Fine (v : Av) : Prop where
  ok : v.Ok
  out : ∀ i, 4 ≤ i → v.rg.l i = []
section
variable {w x y : World} {v v' v'' : Av} {G G' G'' : Nat} {vs vs' vs'' : Nat → Value} {k : Key}
/-- What a method that hands back an ARC lays: its own copy, and the result. -/
structure Wr (w : World) (G : Nat) (vs : Nat → Value) (v' : Av) (G' : Nat) (vs' : Nat → Value) (x : World) : Prop where
  go : Goes w G vs v' G' vs' x
  box : Blk x w.heap.size 63 #[.int .i64 (v'.most : Int), .int .i64 (v'.tgt : Int), .slice (some ⟨G', 0, none⟩) 4 4, .int .i64 (v'.pl : Int)]
  res : Blk x (w.heap.size + 1) 63 #[.int .i64 0, .int .i64 0, .slice none 0 0, .int .i64 0]
  n0 : NotIn w.heap.size G' vs' 4
  n1 : NotIn (w.heap.size + 1) G' vs' 4
theorem Wr.onto (h : Wr w G vs v' G' vs' x) (hb : Below x.heap.size x y) : Wr w G vs v' G' vs' y := ⟨h.go.onto hb, h.box.below hb h.box.lt, h.res.below hb h.res.lt, h.n0, h.n1⟩
theorem Wr.drewN (h : Wr w G vs v' G' vs' x) (n : Nat) : Wr w G vs v' G' vs' (x.drewN n) := h.onto ⟨rfl, rfl, rfl, Nat.le_refl _, fun _ _ => rfl⟩
theorem Wr.new (hok : v.Ok) (h : Dat w v G vs) : Wr w G vs v G vs ((w.alloc (.cells #[.int .i64 (v.most : Int), .int .i64 (v.tgt : Int), .slice (some ⟨G, 0, none⟩) 4 4, .int .i64 (v.pl : Int)] 63)).alloc (.cells #[.int .i64 0, .int .i64 0, .slice none 0 0, .int .i64 0] 63)) := by
  have hb := ((Below.refl _ w).alloc (Nat.le_refl _) (.cells #[.int .i64 (v.most : Int), .int .i64 (v.tgt : Int), .slice (some ⟨G, 0, none⟩) 4 4, .int .i64 (v.pl : Int)] 63)).alloc (by simp) (.cells #[.int .i64 0, .int .i64 0, .slice none 0 0, .int .i64 0] 63)
  have h0 := (Blk.new w 63 #[.int .i64 (v.most : Int), .int .i64 (v.tgt : Int), .slice (some ⟨G, 0, none⟩) 4 4, .int .i64 (v.pl : Int)]).alloc (.cells #[.int .i64 0, .int .i64 0, .slice none 0 0, .int .i64 0] 63)
  have h1 := Blk.new (w.alloc (.cells #[.int .i64 (v.most : Int), .int .i64 (v.tgt : Int), .slice (some ⟨G, 0, none⟩) 4 4, .int .i64 (v.pl : Int)] 63)) 63 #[.int .i64 0, .int .i64 0, .slice none 0 0, .int .i64 0]
  rw [show (w.alloc (.cells #[.int .i64 (v.most : Int), .int .i64 (v.tgt : Int), .slice (some ⟨G, 0, none⟩) 4 4, .int .i64 (v.pl : Int)] 63)).heap.size = w.heap.size + 1 by simp] at h1
  have hn := fun q hq => h.not_in (q := q) hq
  rw [hok.n] at hn
  exact ⟨(Goes.refl h).onto hb, h0, h1, hn _ (Nat.le_refl _), hn _ (Nat.le_succ _)⟩
theorem Wr.cells (h : Wr w G vs v' G' vs' x) : x.cell? ⟨w.heap.size, 0, none⟩ = some (.int .i64 (v'.most : Int)) ∧ x.cell? ⟨w.heap.size, 1, none⟩ = some (.int .i64 (v'.tgt : Int)) ∧ x.cell? ⟨w.heap.size, 2, none⟩ = some (.slice (some ⟨G', 0, none⟩) 4 4) ∧ x.cell? ⟨w.heap.size, 3, none⟩ = some (.int .i64 (v'.pl : Int)) ∧ x.frozen? ⟨w.heap.size, 0, none⟩ = false ∧ x.frozen? ⟨w.heap.size, 1, none⟩ = false ∧ x.frozen? ⟨w.heap.size, 2, none⟩ = false ∧ x.frozen? ⟨w.heap.size, 3, none⟩ = false :=
  ⟨h.box.cell 0, h.box.cell 1, h.box.cell 2, h.box.cell 3, h.box.free 0, h.box.free 1, h.box.free 2, h.box.free 3⟩
theorem Wr.zero (h : Wr w G vs v' G' vs' x) : x.cell? ⟨w.heap.size + 1, 0, none⟩ = some (.int .i64 0) ∧ x.cell? ⟨w.heap.size + 1, 1, none⟩ = some (.int .i64 0) ∧ x.cell? ⟨w.heap.size + 1, 2, none⟩ = some (.slice none 0 0) ∧ x.cell? ⟨w.heap.size + 1, 3, none⟩ = some (.int .i64 0) ∧
    x.frozen? ⟨w.heap.size + 1, 0, none⟩ = false ∧ x.frozen? ⟨w.heap.size + 1, 1, none⟩ = false ∧ x.frozen? ⟨w.heap.size + 1, 2, none⟩ = false ∧ x.frozen? ⟨w.heap.size + 1, 3, none⟩ = false :=
  ⟨h.res.cell 0, h.res.cell 1, h.res.cell 2, h.res.cell 3, h.res.free 0, h.res.free 1, h.res.free 2, h.res.free 3⟩
theorem Dat.beside {q : Nat} (h : Dat x v G vs) (hok : v.Ok) (hn : NotIn q G vs 4) (i : Nat) (u : Value) : Dat (x.setCell ⟨q, i, none⟩ u) v G vs :=
  ⟨h.blk.far (p := ⟨q, i, none⟩) hn.1 u, fun j hj => ownsRow_stay (h.row j hj) fun b hb => Below.heap_setCell x ⟨q, i, none⟩ u b (hn.2 j b (by rw [← hok.n]; exact hj) hb), h.noG, h.noR⟩
theorem Goes.beside {q : Nat} (h : Goes w G vs v' G' vs' x) (hok : v'.Ok) (hq : w.heap.size ≤ q) (hn : NotIn q G' vs' 4) (i : Nat) (u : Value) : Goes w G vs v' G' vs' (x.setCell ⟨q, i, none⟩ u) :=
  ⟨Dat.beside h.rf hok hn i u, h.below.setCell (p := ⟨q, i, none⟩) hq u, h.not⟩
/-- The own copy is laid anew. -/
theorem Wr.take (h : Wr w G vs v G' vs' x) (hok : v'.Ok) (hg : Goes x G' vs' v' G'' vs'' y) :
    Wr w G vs v' G'' vs'' ((((y.setCell ⟨w.heap.size, 0, none⟩ (.int .i64 (v'.most : Int))).setCell ⟨w.heap.size, 1, none⟩ (.int .i64 (v'.tgt : Int))).setCell ⟨w.heap.size, 2, none⟩ (.slice (some ⟨G'', 0, none⟩) 4 4)).setCell ⟨w.heap.size, 3, none⟩ (.int .i64 (v'.pl : Int))) := by
  have n0 := hg.not _ h.box.lt h.n0
  have n1 := hg.not _ h.res.lt h.n1
  have hne : w.heap.size + 1 ≠ w.heap.size := by omega
  have hb := h.box.below hg.below h.box.lt
  have hr := h.res.below hg.below h.res.lt
  have hG := h.go.trans hg
  exact ⟨(((hG.beside hok (Nat.le_refl _) n0 0 _).beside hok (Nat.le_refl _) n0 1 _).beside hok (Nat.le_refl _) n0 2 _).beside hok (Nat.le_refl _) n0 3 _,
    (((hb.put 0 (.int .i64 (v'.most : Int))).put 1 (.int .i64 (v'.tgt : Int))).put 2 (.slice (some ⟨G'', 0, none⟩) 4 4)).put 3 (.int .i64 (v'.pl : Int)),
    (((hr.far (p := ⟨w.heap.size, 0, none⟩) hne _).far (p := ⟨w.heap.size, 1, none⟩) hne _).far (p := ⟨w.heap.size, 2, none⟩) hne _).far (p := ⟨w.heap.size, 3, none⟩) hne _, n0, n1⟩
/-- .. its lists alone. -/
theorem Wr.take2 (h : Wr w G vs v G' vs' x) (hok : v'.Ok) (hm : v'.most = v.most) (ht : v'.tgt = v.tgt) (hg : Goes x G' vs' v' G'' vs'' y) :
    Wr w G vs v' G'' vs'' ((y.setCell ⟨w.heap.size, 2, none⟩ (.slice (some ⟨G'', 0, none⟩) 4 4)).setCell ⟨w.heap.size, 3, none⟩ (.int .i64 (v.pl : Int))) := by
  have n0 := hg.not _ h.box.lt h.n0
  have n1 := hg.not _ h.res.lt h.n1
  have hne : w.heap.size + 1 ≠ w.heap.size := by omega
  have hb := h.box.below hg.below h.box.lt
  have hr := h.res.below hg.below h.res.lt
  have hG := h.go.trans hg
  have hpl : v'.pl = v.pl := by unfold Av.pl; rw [hm]
  refine ⟨(hG.beside hok (Nat.le_refl _) n0 2 _).beside hok (Nat.le_refl _) n0 3 _, ?_, (hr.far (p := ⟨w.heap.size, 2, none⟩) hne _).far (p := ⟨w.heap.size, 3, none⟩) hne _, n0, n1⟩
  rw [hm, ht, hpl]
  exact (hb.put 2 (.slice (some ⟨G'', 0, none⟩) 4 4)).put 3 (.int .i64 (v.pl : Int))
/-- The target alone. -/
theorem Wr.turn (h : Wr w G vs v G' vs' x) {t : Nat} (hok : v.Ok) (ht : t ≤ v.most) : Wr w G vs { v with tgt := t } G' vs' (x.setCell ⟨w.heap.size, 1, none⟩ (.int .i64 (t : Int))) := by
  have hne : w.heap.size + 1 ≠ w.heap.size := by omega
  have hk : ({ v with tgt := t } : Av).Ok := ⟨hok.wf, hok.n, hok.pl, hok.m1, hok.m2, ht, hok.kept, hok.one, hok.all⟩
  have hG : Goes w G vs { v with tgt := t } G' vs' x := ⟨h.go.rf, h.go.below, h.go.not⟩
  exact ⟨hG.beside hk (Nat.le_refl _) h.n0 1 _, h.box.put 1 (.int .i64 (t : Int)), h.res.far (p := ⟨w.heap.size, 1, none⟩) hne _, h.n0, h.n1⟩
theorem Wr.turn2 (h : Wr w G vs v G' vs' x) {t : Nat} (hok : v.Ok) (ht : t ≤ v.most) (u : Value) : Wr w G vs { v with tgt := t } G' vs' ((x.setCell ⟨w.heap.size, 1, none⟩ u).setCell ⟨w.heap.size, 1, none⟩ (.int .i64 (t : Int))) := by
  have hne : w.heap.size + 1 ≠ w.heap.size := by omega
  have hk : ({ v with tgt := t } : Av).Ok := ⟨hok.wf, hok.n, hok.pl, hok.m1, hok.m2, ht, hok.kept, hok.one, hok.all⟩
  have hG : Goes w G vs { v with tgt := t } G' vs' x := ⟨h.go.rf, h.go.below, h.go.not⟩
  exact ⟨(hG.beside hk (Nat.le_refl _) h.n0 1 _).beside hk (Nat.le_refl _) h.n0 1 _, (h.box.put 1 u).put 1 (.int .i64 (t : Int)), (h.res.far (p := ⟨w.heap.size, 1, none⟩) hne _).far (p := ⟨w.heap.size, 1, none⟩) hne _, h.n0, h.n1⟩
/-- The result is laid: what is left of it all. -/
def putA (w y : World) (m t G p : Nat) : World := ((((y.setCell ⟨w.heap.size + 1, 0, none⟩ (.int .i64 (m : Int))).setCell ⟨w.heap.size + 1, 1, none⟩ (.int .i64 (t : Int))).setCell ⟨w.heap.size + 1, 2, none⟩ (.slice (some ⟨G, 0, none⟩) 4 4)).setCell ⟨w.heap.size + 1, 3, none⟩ (.int .i64 (p : Int)))
theorem Wr.fin (h : Wr w G vs v G' vs' x) (hok : v'.Ok) (hg : Goes x G' vs' v' G'' vs'' y) :
    Goes w G vs v' G'' vs'' (putA w y v'.most v'.tgt G'' v'.pl) ∧ (putA w y v'.most v'.tgt G'' v'.pl).cell? ⟨w.heap.size + 1, 0, none⟩ = some (.int .i64 (v'.most : Int)) ∧ (putA w y v'.most v'.tgt G'' v'.pl).cell? ⟨w.heap.size + 1, 1, none⟩ = some (.int .i64 (v'.tgt : Int)) ∧ (putA w y v'.most v'.tgt G'' v'.pl).cell? ⟨w.heap.size + 1, 2, none⟩ = some (.slice (some ⟨G'', 0, none⟩) 4 4) ∧ (putA w y v'.most v'.tgt G'' v'.pl).cell? ⟨w.heap.size + 1, 3, none⟩ = some (.int .i64 (v'.pl : Int)) := by
  have n1 := hg.not _ h.res.lt h.n1
  have hr := h.res.below hg.below h.res.lt
  have hG := h.go.trans hg
  have hB : Blk (putA w y v'.most v'.tgt G'' v'.pl) (w.heap.size + 1) 63 #[.int .i64 (v'.most : Int), .int .i64 (v'.tgt : Int), .slice (some ⟨G'', 0, none⟩) 4 4, .int .i64 (v'.pl : Int)] := (((hr.put 0 (.int .i64 (v'.most : Int))).put 1 (.int .i64 (v'.tgt : Int))).put 2 (.slice (some ⟨G'', 0, none⟩) 4 4)).put 3 (.int .i64 (v'.pl : Int))
  exact ⟨(((hG.beside hok (Nat.le_succ _) n1 0 _).beside hok (Nat.le_succ _) n1 1 _).beside hok (Nat.le_succ _) n1 2 _).beside hok (Nat.le_succ _) n1 3 _, hB.cell 0, hB.cell 1, hB.cell 2, hB.cell 3⟩
theorem Wr.done (h : Wr w G vs v G' vs' x) (hok : v.Ok) : Goes w G vs v G' vs' (putA w x v.most v.tgt G' v.pl) ∧ (putA w x v.most v.tgt G' v.pl).cell? ⟨w.heap.size + 1, 0, none⟩ = some (.int .i64 (v.most : Int)) ∧ (putA w x v.most v.tgt G' v.pl).cell? ⟨w.heap.size + 1, 1, none⟩ = some (.int .i64 (v.tgt : Int)) ∧ (putA w x v.most v.tgt G' v.pl).cell? ⟨w.heap.size + 1, 2, none⟩ = some (.slice (some ⟨G', 0, none⟩) 4 4) ∧ (putA w x v.most v.tgt G' v.pl).cell? ⟨w.heap.size + 1, 3, none⟩ = some (.int .i64 (v.pl : Int)) := h.fin hok (Goes.refl h.go.rf)
/-- A list of the document's turned by the lists' own operation. -/
theorem ring_front {j : Nat} (hj : j < 4) (hk : k.length ≤ 64) (hf : v.Fine) (x : World) (h : Dat x v G vs) :
    Calls Try.prog 24 #[.agg #[.slice (some ⟨G, 0, none⟩) 4 4, .int .i64 (v.pl : Int)], .int .i64 (j : Int), .string (str k)] x fun e y => ∃ G' vs', e = .returned (.tuple #[.agg #[.slice (some ⟨G', 0, none⟩) 4 4, .int .i64 (v.pl : Int)], .bool true]) ∧ Goes x G vs (v.fr j k) G' vs' y := by
  have hok := hf.ok
  have hT := hok.tame hf.out
  have he : v.rg.ok (j : Int) k = true := Rg.ok_of (by omega) (by rw [hok.n]; omega) hk (hok.can k)
  have hc := rfront_yes (r := v.rg) (j := j) (k := k) (by unfold maxLen; omega) (by rw [hok.n]; decide) (fun i => Nat.lt_trans (hT.len i) (by omega)) x h (by rw [hok.n]; exact hj) he
  rw [hok.val] at hc
  have hfr : v.rg.fr (j : Int) k = (v.fr j k).rg := by rw [Rg.fr_ok he]; rfl
  rw [hfr] at hc
  refine hc.mono ?_
  rintro e y ⟨G', vs', rfl, hR, hb⟩
  refine ⟨G', vs', ?_, hR.free (fun ho => ho) (fun _ _ _ _ ho => ho), hb, fun q hq _ => ?_⟩
  · have : refV G' (v.fr j k).rg = .agg #[.slice (some ⟨G', 0, none⟩) 4 4, .int .i64 (v.pl : Int)] := hok.val G'
    rw [this]
  · have := hR.not_old hq
    rw [show (v.fr j k).rg.n = 4 from hok.n] at this
    exact this
theorem ring_drop (hok : v.Ok) (x : World) (h : Dat x v G vs) :
    Calls Try.prog 19 #[.agg #[.slice (some ⟨G, 0, none⟩) 4 4, .int .i64 (v.pl : Int)], .string (str k)] x fun e y => ∃ G' vs', e = .returned (.agg #[.slice (some ⟨G', 0, none⟩) 4 4, .int .i64 (v.pl : Int)]) ∧ Goes x G vs (v.dr k) G' vs' y := by
  have hc := rdrop_c (r := v.rg) k (by rw [hok.n]; decide) hok.lens x h
  rw [hok.val] at hc
  refine hc.mono ?_
  rintro e y ⟨G', vs', rfl, hR, hb, -⟩
  refine ⟨G', vs', ?_, hR.free (fun ho => ho) (fun _ _ _ _ ho => ho), hb, fun q hq _ => ?_⟩
  · have : refV G' (v.rg.drop k) = .agg #[.slice (some ⟨G', 0, none⟩) 4 4, .int .i64 (v.pl : Int)] := (hok.dr k).val G'
    rw [this]
  · have := hR.not_old hq
    rw [show (v.rg.drop k).n = 4 from hok.n] at this
    exact this
/-- The last key of a list. -/
theorem ring_back {i : Nat} (hi : i < 4) (hok : v.Ok) (x : World) (h : Dat x v G vs) :
    Calls Try.prog 64 #[.agg #[.slice (some ⟨G, 0, none⟩) 4 4, .int .i64 (v.pl : Int)], .int .i64 (i : Int)] x fun e y => e = .returned (.tuple #[.string (str ((v.last i).getD [])), .bool (v.last i).isSome]) ∧ Below x.heap.size x y := by
  have hc := rback_c (r := v.rg) (i := i) (by rw [hok.n]; exact hi) (hok.lens i (by rw [hok.n]; exact hi)) x h
  rw [hok.val] at hc
  have e1 : v.rg.back i = (v.last i).getD [] := by
    unfold Rg.back Av.last
    rw [List.getLast?_eq_getElem?]
  have e2 : decide (0 < (v.rg.l i).length) = (v.last i).isSome := by
    unfold Av.last
    cases hl : v.rg.l i with
    | nil => rfl
    | cons a t => simp
  rw [e1, e2] at hc
  exact hc
set_option maxHeartbeats 2000000 in
set_option maxRecDepth 100000 in
theorem rfront_c {j : Nat} (hj : j < 4) (hk : k.length ≤ 64) (hf : v.Fine) (hv : (v.fr j k).Ok) (w : World) (h : Dat w v G vs) :
    Calls Try.prog 90 #[.agg #[.int .i64 (v.most : Int), .int .i64 (v.tgt : Int), .slice (some ⟨G, 0, none⟩) 4 4, .int .i64 (v.pl : Int)], .int .i64 (j : Int), .string (str k)] w fun e w' => ∃ G' vs', e = .returned (.agg #[.int .i64 (v.most : Int), .int .i64 (v.tgt : Int), .slice (some ⟨G', 0, none⟩) 4 4, .int .i64 (v.pl : Int)]) ∧ Goes w G vs (v.fr j k) G' vs' w' := by
  have h2 := Wr.new hf.ok h
  go_enter Try.func90, Try.ntmps90
  go_upto_region 1 with (fail)
  generalize (w.alloc (.cells #[.int .i64 (v.most : Int), .int .i64 (v.tgt : Int), .slice (some ⟨G, 0, none⟩) 4 4, .int .i64 (v.pl : Int)] 63)).alloc (.cells #[.int .i64 0, .int .i64 0, .slice none 0 0, .int .i64 0] 63) = w2 at *
  obtain ⟨x0, x1, x2, x3, -⟩ := h2.cells
  have hfc := ring_front hj hk hf w2 h2.go.rf
  go_wp2_with fail
  refine hfc.mono ?_
  rintro e w3 ⟨G', vs', rfl, hg⟩
  clear x0 x1 x2 x3
  have hR := h2.take2 (v' := v.fr j k) hv rfl rfl hg
  obtain ⟨x0, x1, x2, x3, y0, y1, y2, y3⟩ := (h2.box.below hg.below h2.box.lt |> fun (hb : Blk w3 w.heap.size 63 #[.int .i64 (v.most : Int), .int .i64 (v.tgt : Int), .slice (some ⟨G, 0, none⟩) 4 4, .int .i64 (v.pl : Int)]) => (⟨hb.cell 0, hb.cell 1, hb.cell 2, hb.cell 3, hb.free 0, hb.free 1, hb.free 2, hb.free 3⟩ : w3.cell? ⟨w.heap.size, 0, none⟩ = some (.int .i64 (v.most : Int)) ∧ w3.cell? ⟨w.heap.size, 1, none⟩ = some (.int .i64 (v.tgt : Int)) ∧ w3.cell? ⟨w.heap.size, 2, none⟩ = some (.slice (some ⟨G, 0, none⟩) 4 4) ∧ w3.cell? ⟨w.heap.size, 3, none⟩ = some (.int .i64 (v.pl : Int)) ∧ w3.frozen? ⟨w.heap.size, 0, none⟩ = false ∧ w3.frozen? ⟨w.heap.size, 1, none⟩ = false ∧ w3.frozen? ⟨w.heap.size, 2, none⟩ = false ∧ w3.frozen? ⟨w.heap.size, 3, none⟩ = false))
  go_upto_region 2 with (fail)
  clear x0 x1 x2 x3 y0 y1 y2 y3 hfc
  generalize (w3.setCell ⟨w.heap.size, 2, none⟩ (.slice (some ⟨G', 0, none⟩) 4 4)).setCell ⟨w.heap.size, 3, none⟩ (.int .i64 (v.pl : Int)) = w4 at *
  obtain ⟨x0, x1, x2, x3, -⟩ := (show w4.cell? ⟨w.heap.size, 0, none⟩ = some (.int .i64 (v.most : Int)) ∧ w4.cell? ⟨w.heap.size, 1, none⟩ = some (.int .i64 (v.tgt : Int)) ∧ w4.cell? ⟨w.heap.size, 2, none⟩ = some (.slice (some ⟨G', 0, none⟩) 4 4) ∧ w4.cell? ⟨w.heap.size, 3, none⟩ = some (.int .i64 (v.pl : Int)) ∧ _ from hR.cells)
  obtain ⟨z0, z1, z2, z3, z4, z5, z6, z7⟩ := hR.zero
  obtain ⟨hG, p0, p1, p2, p3⟩ := (show Goes w G vs (v.fr j k) G' vs' (putA w w4 v.most v.tgt G' v.pl) ∧ (putA w w4 v.most v.tgt G' v.pl).cell? ⟨w.heap.size + 1, 0, none⟩ = some (.int .i64 (v.most : Int)) ∧ (putA w w4 v.most v.tgt G' v.pl).cell? ⟨w.heap.size + 1, 1, none⟩ = some (.int .i64 (v.tgt : Int)) ∧ (putA w w4 v.most v.tgt G' v.pl).cell? ⟨w.heap.size + 1, 2, none⟩ = some (.slice (some ⟨G', 0, none⟩) 4 4) ∧ (putA w w4 v.most v.tgt G' v.pl).cell? ⟨w.heap.size + 1, 3, none⟩ = some (.int .i64 (v.pl : Int)) from hR.done hv)
  unfold putA at hG p0 p1 p2 p3
  have HG := Lib.hid hG
  have HP0 := Lib.hid p0
  have HP1 := Lib.hid p1
  have HP2 := Lib.hid p2
  have HP3 := Lib.hid p3
  clear hG p0 p1 p2 p3
  go_wp2_with fail
  have p0 := HP0.out
  have p1 := HP1.out
  have p2 := HP2.out
  have p3 := HP3.out
  have hG := HG.out
  clear HP0 HP1 HP2 HP3 HG
  generalize ((((w4.setCell ⟨w.heap.size + 1, 0, none⟩ (.int .i64 (v.most : Int))).setCell ⟨w.heap.size + 1, 1, none⟩ (.int .i64 (v.tgt : Int))).setCell ⟨w.heap.size + 1, 2, none⟩ (.slice (some ⟨G', 0, none⟩) 4 4)).setCell ⟨w.heap.size + 1, 3, none⟩ (.int .i64 (v.pl : Int))) = w9 at *
  (try simp only [Exit.inBlock, Exit.then])
  refine bodyPost_ret (v := .agg #[.int .i64 (v.most : Int), .int .i64 (v.tgt : Int), .slice (some ⟨G', 0, none⟩) 4 4, .int .i64 (v.pl : Int)]) (by simp [results, Try.results90, go_sem, p0, p1, p2, p3]) rfl ?_
  exact ⟨G', vs', rfl, hG⟩
end
end Go.Proofs.Ytfhlnidjneaieaa.Arcy

namespace Go.Proofs.Ytfhlnidjneaieaa.Arcy
open Go.ChangeShapes Go.WideShapes Go.ChangeAt Go.RowKit Go.Shelf
open Wirey (Blk Row str str_size str_list Kp)
open Ringy Go.ChangeMaps Go.Maps

section
variable {w x y : World} {v v' v'' : Av} {G G' G'' : Nat} {vs vs' vs'' : Nat → Value} {k : Key}
theorem rfront_a {a : Int} {j : Nat} (ha : a = (j : Int)) (hj : j < 4) (hk : k.length ≤ 64) (hf : v.Fine) (hv : (v.fr j k).Ok) (w : World) (h : Dat w v G vs) :
    Calls Try.prog 90 #[.agg #[.int .i64 (v.most : Int), .int .i64 (v.tgt : Int), .slice (some ⟨G, 0, none⟩) 4 4, .int .i64 (v.pl : Int)], .int .i64 a, .string (str k)] w fun e w' => ∃ G' vs', e = .returned (.agg #[.int .i64 (v.most : Int), .int .i64 (v.tgt : Int), .slice (some ⟨G', 0, none⟩) 4 4, .int .i64 (v.pl : Int)]) ∧ Goes w G vs (v.fr j k) G' vs' w' := by
  subst ha
  exact rfront_c hj hk hf hv w h
theorem ring_backA {a : Int} {i : Nat} (ha : a = (i : Int)) (hi : i < 4) (hok : v.Ok) (x : World) (h : Dat x v G vs) :
    Calls Try.prog 64 #[.agg #[.slice (some ⟨G, 0, none⟩) 4 4, .int .i64 (v.pl : Int)], .int .i64 a] x fun e y => e = .returned (.tuple #[.string (str ((v.last i).getD [])), .bool (v.last i).isSome]) ∧ Below x.heap.size x y := by
  subst ha
  exact ring_back hi hok x h
set_option maxHeartbeats 2000000 in
set_option maxRecDepth 100000 in
theorem rforget_c {a : Int} {i : Nat} (ha : a = (i : Int)) (hi : i < 4) (hok : v.Ok) (w : World) (h : Dat w v G vs) :
    Calls Try.prog 95 #[.agg #[.int .i64 (v.most : Int), .int .i64 (v.tgt : Int), .slice (some ⟨G, 0, none⟩) 4 4, .int .i64 (v.pl : Int)], .int .i64 a] w fun e w' => ∃ G' vs', e = .returned (.agg #[.int .i64 (v.most : Int), .int .i64 (v.tgt : Int), .slice (some ⟨G', 0, none⟩) 4 4, .int .i64 (v.pl : Int)]) ∧ Goes w G vs (v.forget i) G' vs' w' := by
  subst ha
  have h2 := Wr.new hok h
  go_enter Try.func95, Try.ntmps95
  go_upto_region 1 with (fail)
  generalize (w.alloc (.cells #[.int .i64 (v.most : Int), .int .i64 (v.tgt : Int), .slice (some ⟨G, 0, none⟩) 4 4, .int .i64 (v.pl : Int)] 63)).alloc (.cells #[.int .i64 0, .int .i64 0, .slice none 0 0, .int .i64 0] 63) = w2 at *
  obtain ⟨x0, x1, x2, x3, -⟩ := h2.cells
  have hbk := ring_back hi hok w2 h2.go.rf
  cases e : v.last i with
  | none =>
    rw [e] at hbk
    have hfo : v.forget i = v := by unfold Av.forget; rw [e]
    simp only [Option.getD_none, Option.isSome_none] at hbk
    clear e
    go_wp2_with fail
    refine hbk.mono ?_
    rintro e w3 ⟨rfl, hb3⟩
    have h3 := h2.onto hb3
    clear x0 x1 x2 x3 h2 hbk hb3
    obtain ⟨x0, x1, x2, x3, -⟩ := h3.cells
    obtain ⟨z0, z1, z2, z3, z4, z5, z6, z7⟩ := h3.zero
    obtain ⟨hG, p0, p1, p2, p3⟩ := (show Goes w G vs v G vs (putA w w3 v.most v.tgt G v.pl) ∧ (putA w w3 v.most v.tgt G v.pl).cell? ⟨w.heap.size + 1, 0, none⟩ = some (.int .i64 (v.most : Int)) ∧ (putA w w3 v.most v.tgt G v.pl).cell? ⟨w.heap.size + 1, 1, none⟩ = some (.int .i64 (v.tgt : Int)) ∧ (putA w w3 v.most v.tgt G v.pl).cell? ⟨w.heap.size + 1, 2, none⟩ = some (.slice (some ⟨G, 0, none⟩) 4 4) ∧ (putA w w3 v.most v.tgt G v.pl).cell? ⟨w.heap.size + 1, 3, none⟩ = some (.int .i64 (v.pl : Int)) from h3.done hok)
    unfold putA at hG p0 p1 p2 p3
    have HG := Lib.hid hG
    have HP0 := Lib.hid p0
    have HP1 := Lib.hid p1
    have HP2 := Lib.hid p2
    have HP3 := Lib.hid p3
    clear hG p0 p1 p2 p3
    go_wp2_with fail
    have p0 := HP0.out
    have p1 := HP1.out
    have p2 := HP2.out
    have p3 := HP3.out
    have hG := HG.out
    clear HP0 HP1 HP2 HP3 HG
    generalize ((((w3.setCell ⟨w.heap.size + 1, 0, none⟩ (.int .i64 (v.most : Int))).setCell ⟨w.heap.size + 1, 1, none⟩ (.int .i64 (v.tgt : Int))).setCell ⟨w.heap.size + 1, 2, none⟩ (.slice (some ⟨G, 0, none⟩) 4 4)).setCell ⟨w.heap.size + 1, 3, none⟩ (.int .i64 (v.pl : Int))) = w9 at *
    (try simp only [Exit.inBlock, Exit.then])
    refine bodyPost_ret (v := .agg #[.int .i64 (v.most : Int), .int .i64 (v.tgt : Int), .slice (some ⟨G, 0, none⟩) 4 4, .int .i64 (v.pl : Int)]) (by simp [results, Try.results95, go_sem, p0, p1, p2, p3]) rfl ?_
    exact ⟨G, vs, rfl, by rw [hfo]; exact hG⟩
  | some k =>
    rw [e] at hbk
    have hfo : v.forget i = v.dr k := by unfold Av.forget; rw [e]
    simp only [Option.getD_some, Option.isSome_some] at hbk
    have hdr := fun W (h : Dat W v G vs) => ring_drop (k := k) hok W h
    have hokd := hok.dr k
    clear e
    go_wp2_with fail
    refine hbk.mono ?_
    rintro e w3 ⟨rfl, hb3⟩
    have h3 := h2.onto hb3
    clear x0 x1 x2 x3 h2 hbk hb3
    obtain ⟨x0, x1, x2, x3, -⟩ := h3.cells
    go_wp2_with fail
    refine (hdr _ h3.go.rf).mono ?_
    rintro e w4 ⟨G', vs', rfl, hg⟩
    have hR := h3.take2 (v' := v.dr k) hokd rfl rfl hg
    have h4 := h3.onto hg.below
    clear x0 x1 x2 x3 h3 hdr hg
    obtain ⟨x0, x1, x2, x3, y0, y1, y2, y3⟩ := h4.cells
    go_upto_region 4 with (fail)
    clear x0 x1 x2 x3 y0 y1 y2 y3 h4
    generalize (w4.setCell ⟨w.heap.size, 2, none⟩ (.slice (some ⟨G', 0, none⟩) 4 4)).setCell ⟨w.heap.size, 3, none⟩ (.int .i64 (v.pl : Int)) = w5 at *
    obtain ⟨x0, x1, x2, x3, -⟩ := (show w5.cell? ⟨w.heap.size, 0, none⟩ = some (.int .i64 (v.most : Int)) ∧ w5.cell? ⟨w.heap.size, 1, none⟩ = some (.int .i64 (v.tgt : Int)) ∧ w5.cell? ⟨w.heap.size, 2, none⟩ = some (.slice (some ⟨G', 0, none⟩) 4 4) ∧ w5.cell? ⟨w.heap.size, 3, none⟩ = some (.int .i64 (v.pl : Int)) ∧ _ from hR.cells)
    obtain ⟨z0, z1, z2, z3, z4, z5, z6, z7⟩ := hR.zero
    obtain ⟨hG, p0, p1, p2, p3⟩ := (show Goes w G vs (v.dr k) G' vs' (putA w w5 v.most v.tgt G' v.pl) ∧ (putA w w5 v.most v.tgt G' v.pl).cell? ⟨w.heap.size + 1, 0, none⟩ = some (.int .i64 (v.most : Int)) ∧ (putA w w5 v.most v.tgt G' v.pl).cell? ⟨w.heap.size + 1, 1, none⟩ = some (.int .i64 (v.tgt : Int)) ∧ (putA w w5 v.most v.tgt G' v.pl).cell? ⟨w.heap.size + 1, 2, none⟩ = some (.slice (some ⟨G', 0, none⟩) 4 4) ∧ (putA w w5 v.most v.tgt G' v.pl).cell? ⟨w.heap.size + 1, 3, none⟩ = some (.int .i64 (v.pl : Int)) from hR.done hokd)
    unfold putA at hG p0 p1 p2 p3
    have HG := Lib.hid hG
    have HP0 := Lib.hid p0
    have HP1 := Lib.hid p1
    have HP2 := Lib.hid p2
    have HP3 := Lib.hid p3
    clear hG p0 p1 p2 p3
    go_wp2_with fail
    have p0 := HP0.out
    have p1 := HP1.out
    have p2 := HP2.out
    have p3 := HP3.out
    have hG := HG.out
    clear HP0 HP1 HP2 HP3 HG
    generalize ((((w5.setCell ⟨w.heap.size + 1, 0, none⟩ (.int .i64 (v.most : Int))).setCell ⟨w.heap.size + 1, 1, none⟩ (.int .i64 (v.tgt : Int))).setCell ⟨w.heap.size + 1, 2, none⟩ (.slice (some ⟨G', 0, none⟩) 4 4)).setCell ⟨w.heap.size + 1, 3, none⟩ (.int .i64 (v.pl : Int))) = w9 at *
    (try simp only [Exit.inBlock, Exit.then])
    refine bodyPost_ret (v := .agg #[.int .i64 (v.most : Int), .int .i64 (v.tgt : Int), .slice (some ⟨G', 0, none⟩) 4 4, .int .i64 (v.pl : Int)]) (by simp [results, Try.results95, go_sem, p0, p1, p2, p3]) rfl ?_
    exact ⟨G', vs', rfl, by rw [hfo]; exact hG⟩
theorem Wr.all (h : Wr w G vs v' G' vs' x) : x.cell? ⟨w.heap.size, 0, none⟩ = some (.int .i64 (v'.most : Int)) ∧ x.cell? ⟨w.heap.size, 1, none⟩ = some (.int .i64 (v'.tgt : Int)) ∧ x.cell? ⟨w.heap.size, 2, none⟩ = some (.slice (some ⟨G', 0, none⟩) 4 4) ∧ x.cell? ⟨w.heap.size, 3, none⟩ = some (.int .i64 (v'.pl : Int)) ∧ Wr w G vs v' G' vs' x := ⟨h.box.cell 0, h.box.cell 1, h.box.cell 2, h.box.cell 3, h⟩
theorem wr_len {a : Int} {i : Nat} (ha : a = (i : Int)) (hi : i < 4) (hok : v'.Ok) (h : Wr w G vs v' G' vs' x) :
    Calls Try.prog 94 #[.agg #[.int .i64 (v'.most : Int), .int .i64 (v'.tgt : Int), .slice (some ⟨G', 0, none⟩) 4 4, .int .i64 (v'.pl : Int)], .int .i64 a] x fun e y => e = .returned (.int .i64 (v'.len i : Int)) ∧ Wr w G vs v' G' vs' y := by
  subst ha
  refine (rlen_c hi hok x h.go.rf).mono ?_
  rintro e y ⟨rfl, hb⟩
  exact ⟨rfl, h.onto hb⟩
theorem row_lit {B : Nat} (w : World) (hB : B ≤ w.heap.size) (k : Key) : (w.alloc (.cells #[.string (str k)] 9)).ownsRow B 9 1 (.slice (some ⟨w.heap.size, 0, none⟩) 1 1) 1 (strsV [k]) :=
  World.ownsRow_lit (size := 1) (e := 9) (base := B) w #[.string (str k)] 1 hB (by unfold maxLen; omega) rfl
theorem row_put {w x : World} {B m t G p n : Nat} {val : Value} {xs : List Value} (h : x.ownsRow B 9 1 val n xs) (hB : w.heap.size + 2 ≤ B) : (putA w x m t G p).ownsRow B 9 1 val n xs := by
  refine ownsRow_stay h fun b hb => ?_
  have hne : b ≠ w.heap.size + 1 := by have := (h.lt b hb).1; omega
  exact (((Below.heap_setCell _ ⟨w.heap.size + 1, 3, none⟩ _ b hne).trans (Below.heap_setCell _ ⟨w.heap.size + 1, 2, none⟩ _ b hne)).trans (Below.heap_setCell _ ⟨w.heap.size + 1, 1, none⟩ _ b hne)).trans (Below.heap_setCell x ⟨w.heap.size + 1, 0, none⟩ _ b hne)
set_option maxHeartbeats 8000000 in
set_option maxRecDepth 100000 in
theorem rreplace_c (b : Bool) (hf : v.Fine) (w : World) (h : Dat w v G vs) :
    Calls Try.prog 91 #[.agg #[.int .i64 (v.most : Int), .int .i64 (v.tgt : Int), .slice (some ⟨G, 0, none⟩) 4 4, .int .i64 (v.pl : Int)], .bool b] w fun e w' => ∃ G' vs' val, e = .returned (.tuple #[.agg #[.int .i64 (v.most : Int), .int .i64 (v.tgt : Int), .slice (some ⟨G', 0, none⟩) 4 4, .int .i64 (v.pl : Int)], val]) ∧ Goes w G vs (v.repl b) G' vs' w' ∧ w'.ownsRow w.heap.size 9 1 val (v.last (v.src b)).toList.length (strsV (v.last (v.src b)).toList) := by
  have hok := hf.ok
  have h2 := Wr.new hok h
  have f0 := fun W (h : Wr w G vs v G vs W) => wr_len (a := 0) (i := 0) rfl (by omega) hok h
  have f1 := fun W (h : Wr w G vs v G vs W) => wr_len (a := 1) (i := 1) rfl (by omega) hok h
  go_enter Try.func91, Try.ntmps91
  go_upto_region 2 with (fail)
  generalize (w.alloc (.cells #[.int .i64 (v.most : Int), .int .i64 (v.tgt : Int), .slice (some ⟨G, 0, none⟩) 4 4, .int .i64 (v.pl : Int)] 63)).alloc (.cells #[.int .i64 0, .int .i64 0, .slice none 0 0, .int .i64 0] 63) = w2 at *
  go_cut [33] from 9 to 32 (fun c wx => c = .bool (v.once b) ∧ Wr w G vs v G vs wx)
  case first =>
    by_cases n0 : 0 < v.len 0
    · have d0 : decide ((0 : Int) < (v.len 0 : Int)) = true := decide_eq_true (by omega)
      by_cases n1 : v.tgt < v.len 0
      · have d1 : decide ((v.tgt : Int) < (v.len 0 : Int)) = true := decide_eq_true (by omega)
        have ho : v.once b = true := by simp [Av.once, n0, n1]
        refine region_only 25 #[false, false, false, false, false, false, false, false, false, false, false, false, false, false, false, false, false, false, false, false, false, false, false, false, false] (S := (fun W => W.cell? ⟨w.heap.size, 0, none⟩ = some (.int .i64 (v.most : Int)) ∧ W.cell? ⟨w.heap.size, 1, none⟩ = some (.int .i64 (v.tgt : Int)) ∧ W.cell? ⟨w.heap.size, 2, none⟩ = some (.slice (some ⟨G, 0, none⟩) 4 4) ∧ W.cell? ⟨w.heap.size, 3, none⟩ = some (.int .i64 (v.pl : Int)) ∧ Wr w G vs v G vs W)) rfl rfl (by kernel_rfl) (Wr.all (h2.drewN 1)) (fun hSw => ?_)
        refine take_at 0 9 (fuel := 24) ?_ rfl rfl (by kernel_rfl) (by kernel_rfl) (by kernel_rfl) (Or.inl ⟨by rfl, ?_⟩) hSw ?_
        rotate_left
        · intro wx hSx
          (try dsimp only at hSx)
          go_split_ands
          go_simp
          (try with_reducible rfl)
        simp only [List.setIfInBounds_toArray, List.set_cons_zero, List.set_cons_succ]
        refine wpAnyH_ready (fuel := 23) (rs := [1]) (by kernel_rfl) (by simp) (AllReadyH.cons rfl (fun K hK => ?_) AllReadyH.nil)
        go_simp
        refine Calls.mono (f0 _ hSw.2.2.2.2) ?_
        rintro e wv ⟨rfl, hwv⟩
        refine hK.out _ _ (Wr.all hwv) (fun hSw => ?_)
        clear hK K
        simp only [List.setIfInBounds_toArray, List.set_cons_zero, List.set_cons_succ]
        refine take_at 2 11 (fuel := 22) ?_ rfl rfl (by kernel_rfl) (by kernel_rfl) (by kernel_rfl) (Or.inl ⟨by rfl, ?_⟩) hSw ?_
        rotate_left
        · intro wx hSx
          (try dsimp only at hSx)
          go_split_ands
          go_simp
          (try with_reducible rfl)
        simp only [List.setIfInBounds_toArray, List.set_cons_zero, List.set_cons_succ]
        refine take_at 3 12 (fuel := 21) ?_ rfl rfl (by kernel_rfl) (by kernel_rfl) (by kernel_rfl) (Or.inl ⟨by rfl, ?_⟩) hSw ?_
        rotate_left
        · intro wx hSx
          (try dsimp only at hSx)
          go_split_ands
          go_simp
          (try with_reducible rfl)
        simp only [List.setIfInBounds_toArray, List.set_cons_zero, List.set_cons_succ]
        refine take_at 4 13 (fuel := 20) ?_ rfl rfl (by kernel_rfl) (by kernel_rfl) (by kernel_rfl) (Or.inl ⟨by rfl, ?_⟩) hSw ?_
        rotate_left
        · intro wx hSx
          (try dsimp only at hSx)
          go_split_ands
          go_simp
          (try with_reducible rfl)
        simp only [List.setIfInBounds_toArray, List.set_cons_zero, List.set_cons_succ]
        refine take_at 6 15 (fuel := 19) ?_ rfl rfl (by kernel_rfl) (by kernel_rfl) (by kernel_rfl) (Or.inl ⟨by rfl, ?_⟩) hSw ?_
        rotate_left
        · intro wx hSx
          (try dsimp only at hSx)
          go_split_ands
          go_simp
          (try with_reducible rfl)
        simp only [List.setIfInBounds_toArray, List.set_cons_zero, List.set_cons_succ]
        refine take_at 7 16 (fuel := 18) ?_ rfl rfl (by kernel_rfl) (by kernel_rfl) (by kernel_rfl) (Or.inl ⟨by rfl, ?_⟩) hSw ?_
        rotate_left
        · intro wx hSx
          (try dsimp only at hSx)
          go_split_ands
          go_simp
          (try with_reducible rfl)
        simp only [List.setIfInBounds_toArray, List.set_cons_zero, List.set_cons_succ]
        refine wpAnyH_ready (fuel := 17) (rs := [5]) (by kernel_rfl) (by simp) (AllReadyH.cons rfl (fun K hK => ?_) AllReadyH.nil)
        go_simp
        refine Calls.mono (f0 _ hSw.2.2.2.2) ?_
        rintro e wv ⟨rfl, hwv⟩
        refine hK.out _ _ (Wr.all hwv) (fun hSw => ?_)
        clear hK K
        simp only [List.setIfInBounds_toArray, List.set_cons_zero, List.set_cons_succ]
        refine take_at 8 17 (fuel := 16) ?_ rfl rfl (by kernel_rfl) (by kernel_rfl) (by kernel_rfl) (Or.inl ⟨by rfl, ?_⟩) hSw ?_
        rotate_left
        · intro wx hSx
          (try dsimp only at hSx)
          go_split_ands
          go_simp
          (try with_reducible rfl)
        simp only [List.setIfInBounds_toArray, List.set_cons_zero, List.set_cons_succ]
        refine take_at 9 18 (fuel := 15) ?_ rfl rfl (by kernel_rfl) (by kernel_rfl) (by kernel_rfl) (Or.inl ⟨by rfl, ?_⟩) hSw ?_
        rotate_left
        · intro wx hSx
          (try dsimp only at hSx)
          go_split_ands
          go_simp
          (try with_reducible rfl)
        simp only [List.setIfInBounds_toArray, List.set_cons_zero, List.set_cons_succ]
        refine take_at 10 19 undef (fuel := 14) rfl rfl (by kernel_rfl) (by kernel_rfl) (by kernel_rfl) (Or.inr ⟨by rfl, rfl⟩) hSw ?_
        simp only [List.setIfInBounds_toArray, List.set_cons_zero, List.set_cons_succ]
        refine take_at 11 20 undef (fuel := 13) rfl rfl (by kernel_rfl) (by kernel_rfl) (by kernel_rfl) (Or.inr ⟨by rfl, rfl⟩) hSw ?_
        simp only [List.setIfInBounds_toArray, List.set_cons_zero, List.set_cons_succ]
        refine take_at 12 21 undef (fuel := 12) rfl rfl (by kernel_rfl) (by kernel_rfl) (by kernel_rfl) (Or.inr ⟨by rfl, rfl⟩) hSw ?_
        simp only [List.setIfInBounds_toArray, List.set_cons_zero, List.set_cons_succ]
        refine take_at 13 22 undef (fuel := 11) rfl rfl (by kernel_rfl) (by kernel_rfl) (by kernel_rfl) (Or.inr ⟨by rfl, rfl⟩) hSw ?_
        simp only [List.setIfInBounds_toArray, List.set_cons_zero, List.set_cons_succ]
        refine take_at 14 23 undef (fuel := 10) rfl rfl (by kernel_rfl) (by kernel_rfl) (by kernel_rfl) (Or.inr ⟨by rfl, rfl⟩) hSw ?_
        simp only [List.setIfInBounds_toArray, List.set_cons_zero, List.set_cons_succ]
        refine take_at 15 24 undef (fuel := 9) rfl rfl (by kernel_rfl) (by kernel_rfl) (by kernel_rfl) (Or.inr ⟨by rfl, rfl⟩) hSw ?_
        simp only [List.setIfInBounds_toArray, List.set_cons_zero, List.set_cons_succ]
        refine take_at 16 25 undef (fuel := 8) rfl rfl (by kernel_rfl) (by kernel_rfl) (by kernel_rfl) (Or.inr ⟨by rfl, rfl⟩) hSw ?_
        simp only [List.setIfInBounds_toArray, List.set_cons_zero, List.set_cons_succ]
        refine take_at 17 26 undef (fuel := 7) rfl rfl (by kernel_rfl) (by kernel_rfl) (by kernel_rfl) (Or.inr ⟨by rfl, rfl⟩) hSw ?_
        simp only [List.setIfInBounds_toArray, List.set_cons_zero, List.set_cons_succ]
        refine take_at 18 27 (fuel := 6) ?_ rfl rfl (by kernel_rfl) (by kernel_rfl) (by kernel_rfl) (Or.inl ⟨by rfl, ?_⟩) hSw ?_
        rotate_left
        · intro wx hSx
          (try dsimp only at hSx)
          go_split_ands
          go_simp
          (try with_reducible rfl)
        simp only [List.setIfInBounds_toArray, List.set_cons_zero, List.set_cons_succ]
        refine take_at 19 28 (fuel := 5) ?_ rfl rfl (by kernel_rfl) (by kernel_rfl) (by kernel_rfl) (Or.inl ⟨by rfl, ?_⟩) hSw ?_
        rotate_left
        · intro wx hSx
          (try dsimp only at hSx)
          go_split_ands
          go_simp
          (try with_reducible rfl)
        simp only [List.setIfInBounds_toArray, List.set_cons_zero, List.set_cons_succ]
        refine take_at 20 29 undef (fuel := 4) rfl rfl (by kernel_rfl) (by kernel_rfl) (by kernel_rfl) (Or.inr ⟨by rfl, rfl⟩) hSw ?_
        simp only [List.setIfInBounds_toArray, List.set_cons_zero, List.set_cons_succ]
        refine take_at 21 30 undef (fuel := 3) rfl rfl (by kernel_rfl) (by kernel_rfl) (by kernel_rfl) (Or.inr ⟨by rfl, rfl⟩) hSw ?_
        simp only [List.setIfInBounds_toArray, List.set_cons_zero, List.set_cons_succ]
        refine take_at 22 31 undef (fuel := 2) rfl rfl (by kernel_rfl) (by kernel_rfl) (by kernel_rfl) (Or.inr ⟨by rfl, rfl⟩) hSw ?_
        simp only [List.setIfInBounds_toArray, List.set_cons_zero, List.set_cons_succ]
        refine take_at 23 32 (fuel := 1) ?_ rfl rfl (by kernel_rfl) (by kernel_rfl) (by kernel_rfl) (Or.inl ⟨by rfl, ?_⟩) hSw ?_
        rotate_left
        · intro wx hSx
          (try dsimp only at hSx)
          go_split_ands
          go_simp
          (try with_reducible rfl)
        simp only [List.setIfInBounds_toArray, List.set_cons_zero, List.set_cons_succ]
        refine take_at 24 33 (fuel := 0) ?_ rfl rfl (by kernel_rfl) (by kernel_rfl) (by kernel_rfl) (Or.inl ⟨by rfl, ?_⟩) hSw ?_
        rotate_left
        · intro wx hSx
          (try dsimp only at hSx)
          go_split_ands
          go_simp
          (try with_reducible rfl)
        simp only [List.setIfInBounds_toArray, List.set_cons_zero, List.set_cons_succ]
        refine wpAnyH_done (by kernel_rfl) ⟨rfl, ?_⟩ 0
        have hZ := hSw.2.2.2.2
        clear hSw
        go_wp2_with fail
        go_meet
        exact ⟨by rw [ho], hZ⟩
      · have d1 : decide ((v.tgt : Int) < (v.len 0 : Int)) = false := decide_eq_false (by omega)
        by_cases n3 : v.len 1 = 0
        · have d3 : ((v.len 1 : Int) == 0) = true := beq_iff_eq.2 (by omega)
          cases b with
          | false =>
            have ho : v.once false = true := by simp [Av.once, n0, n3]
            refine region_only 25 #[false, false, false, false, false, false, false, false, false, false, false, false, false, false, false, false, false, false, false, false, false, false, false, false, false] (S := (fun W => W.cell? ⟨w.heap.size, 0, none⟩ = some (.int .i64 (v.most : Int)) ∧ W.cell? ⟨w.heap.size, 1, none⟩ = some (.int .i64 (v.tgt : Int)) ∧ W.cell? ⟨w.heap.size, 2, none⟩ = some (.slice (some ⟨G, 0, none⟩) 4 4) ∧ W.cell? ⟨w.heap.size, 3, none⟩ = some (.int .i64 (v.pl : Int)) ∧ Wr w G vs v G vs W)) rfl rfl (by kernel_rfl) (Wr.all (h2.drewN 1)) (fun hSw => ?_)
            refine take_at 0 9 (fuel := 24) ?_ rfl rfl (by kernel_rfl) (by kernel_rfl) (by kernel_rfl) (Or.inl ⟨by rfl, ?_⟩) hSw ?_
            rotate_left
            · intro wx hSx
              (try dsimp only at hSx)
              go_split_ands
              go_simp
              (try with_reducible rfl)
            simp only [List.setIfInBounds_toArray, List.set_cons_zero, List.set_cons_succ]
            refine wpAnyH_ready (fuel := 23) (rs := [1]) (by kernel_rfl) (by simp) (AllReadyH.cons rfl (fun K hK => ?_) AllReadyH.nil)
            go_simp
            refine Calls.mono (f0 _ hSw.2.2.2.2) ?_
            rintro e wv ⟨rfl, hwv⟩
            refine hK.out _ _ (Wr.all hwv) (fun hSw => ?_)
            clear hK K
            simp only [List.setIfInBounds_toArray, List.set_cons_zero, List.set_cons_succ]
            refine take_at 2 11 (fuel := 22) ?_ rfl rfl (by kernel_rfl) (by kernel_rfl) (by kernel_rfl) (Or.inl ⟨by rfl, ?_⟩) hSw ?_
            rotate_left
            · intro wx hSx
              (try dsimp only at hSx)
              go_split_ands
              go_simp
              (try with_reducible rfl)
            simp only [List.setIfInBounds_toArray, List.set_cons_zero, List.set_cons_succ]
            refine take_at 3 12 (fuel := 21) ?_ rfl rfl (by kernel_rfl) (by kernel_rfl) (by kernel_rfl) (Or.inl ⟨by rfl, ?_⟩) hSw ?_
            rotate_left
            · intro wx hSx
              (try dsimp only at hSx)
              go_split_ands
              go_simp
              (try with_reducible rfl)
            simp only [List.setIfInBounds_toArray, List.set_cons_zero, List.set_cons_succ]
            refine take_at 4 13 (fuel := 20) ?_ rfl rfl (by kernel_rfl) (by kernel_rfl) (by kernel_rfl) (Or.inl ⟨by rfl, ?_⟩) hSw ?_
            rotate_left
            · intro wx hSx
              (try dsimp only at hSx)
              go_split_ands
              go_simp
              (try with_reducible rfl)
            simp only [List.setIfInBounds_toArray, List.set_cons_zero, List.set_cons_succ]
            refine take_at 6 15 (fuel := 19) ?_ rfl rfl (by kernel_rfl) (by kernel_rfl) (by kernel_rfl) (Or.inl ⟨by rfl, ?_⟩) hSw ?_
            rotate_left
            · intro wx hSx
              (try dsimp only at hSx)
              go_split_ands
              go_simp
              (try with_reducible rfl)
            simp only [List.setIfInBounds_toArray, List.set_cons_zero, List.set_cons_succ]
            refine take_at 7 16 (fuel := 18) ?_ rfl rfl (by kernel_rfl) (by kernel_rfl) (by kernel_rfl) (Or.inl ⟨by rfl, ?_⟩) hSw ?_
            rotate_left
            · intro wx hSx
              (try dsimp only at hSx)
              go_split_ands
              go_simp
              (try with_reducible rfl)
            simp only [List.setIfInBounds_toArray, List.set_cons_zero, List.set_cons_succ]
            refine wpAnyH_ready (fuel := 17) (rs := [5]) (by kernel_rfl) (by simp) (AllReadyH.cons rfl (fun K hK => ?_) AllReadyH.nil)
            go_simp
            refine Calls.mono (f0 _ hSw.2.2.2.2) ?_
            rintro e wv ⟨rfl, hwv⟩
            refine hK.out _ _ (Wr.all hwv) (fun hSw => ?_)
            clear hK K
            simp only [List.setIfInBounds_toArray, List.set_cons_zero, List.set_cons_succ]
            refine take_at 8 17 (fuel := 16) ?_ rfl rfl (by kernel_rfl) (by kernel_rfl) (by kernel_rfl) (Or.inl ⟨by rfl, ?_⟩) hSw ?_
            rotate_left
            · intro wx hSx
              (try dsimp only at hSx)
              go_split_ands
              go_simp
              (try with_reducible rfl)
            simp only [List.setIfInBounds_toArray, List.set_cons_zero, List.set_cons_succ]
            refine take_at 9 18 (fuel := 15) ?_ rfl rfl (by kernel_rfl) (by kernel_rfl) (by kernel_rfl) (Or.inl ⟨by rfl, ?_⟩) hSw ?_
            rotate_left
            · intro wx hSx
              (try dsimp only at hSx)
              go_split_ands
              go_simp
              (try with_reducible rfl)
            simp only [List.setIfInBounds_toArray, List.set_cons_zero, List.set_cons_succ]
            refine take_at 10 19 (fuel := 14) ?_ rfl rfl (by kernel_rfl) (by kernel_rfl) (by kernel_rfl) (Or.inl ⟨by rfl, ?_⟩) hSw ?_
            rotate_left
            · intro wx hSx
              (try dsimp only at hSx)
              go_split_ands
              go_simp
              (try with_reducible rfl)
            simp only [List.setIfInBounds_toArray, List.set_cons_zero, List.set_cons_succ]
            refine take_at 11 20 (fuel := 13) ?_ rfl rfl (by kernel_rfl) (by kernel_rfl) (by kernel_rfl) (Or.inl ⟨by rfl, ?_⟩) hSw ?_
            rotate_left
            · intro wx hSx
              (try dsimp only at hSx)
              go_split_ands
              go_simp
              (try with_reducible rfl)
            simp only [List.setIfInBounds_toArray, List.set_cons_zero, List.set_cons_succ]
            refine take_at 12 21 undef (fuel := 12) rfl rfl (by kernel_rfl) (by kernel_rfl) (by kernel_rfl) (Or.inr ⟨by rfl, rfl⟩) hSw ?_
            simp only [List.setIfInBounds_toArray, List.set_cons_zero, List.set_cons_succ]
            refine take_at 13 22 undef (fuel := 11) rfl rfl (by kernel_rfl) (by kernel_rfl) (by kernel_rfl) (Or.inr ⟨by rfl, rfl⟩) hSw ?_
            simp only [List.setIfInBounds_toArray, List.set_cons_zero, List.set_cons_succ]
            refine take_at 14 23 undef (fuel := 10) rfl rfl (by kernel_rfl) (by kernel_rfl) (by kernel_rfl) (Or.inr ⟨by rfl, rfl⟩) hSw ?_
            simp only [List.setIfInBounds_toArray, List.set_cons_zero, List.set_cons_succ]
            refine take_at 15 24 undef (fuel := 9) rfl rfl (by kernel_rfl) (by kernel_rfl) (by kernel_rfl) (Or.inr ⟨by rfl, rfl⟩) hSw ?_
            simp only [List.setIfInBounds_toArray, List.set_cons_zero, List.set_cons_succ]
            refine take_at 16 25 undef (fuel := 8) rfl rfl (by kernel_rfl) (by kernel_rfl) (by kernel_rfl) (Or.inr ⟨by rfl, rfl⟩) hSw ?_
            simp only [List.setIfInBounds_toArray, List.set_cons_zero, List.set_cons_succ]
            refine take_at 17 26 (fuel := 7) ?_ rfl rfl (by kernel_rfl) (by kernel_rfl) (by kernel_rfl) (Or.inl ⟨by rfl, ?_⟩) hSw ?_
            rotate_left
            · intro wx hSx
              (try dsimp only at hSx)
              go_split_ands
              go_simp
              (try with_reducible rfl)
            simp only [List.setIfInBounds_toArray, List.set_cons_zero, List.set_cons_succ]
            refine take_at 18 27 (fuel := 6) ?_ rfl rfl (by kernel_rfl) (by kernel_rfl) (by kernel_rfl) (Or.inl ⟨by rfl, ?_⟩) hSw ?_
            rotate_left
            · intro wx hSx
              (try dsimp only at hSx)
              go_split_ands
              go_simp
              (try with_reducible rfl)
            simp only [List.setIfInBounds_toArray, List.set_cons_zero, List.set_cons_succ]
            refine take_at 19 28 (fuel := 5) ?_ rfl rfl (by kernel_rfl) (by kernel_rfl) (by kernel_rfl) (Or.inl ⟨by rfl, ?_⟩) hSw ?_
            rotate_left
            · intro wx hSx
              (try dsimp only at hSx)
              go_split_ands
              go_simp
              (try with_reducible rfl)
            simp only [List.setIfInBounds_toArray, List.set_cons_zero, List.set_cons_succ]
            refine take_at 20 29 (fuel := 4) ?_ rfl rfl (by kernel_rfl) (by kernel_rfl) (by kernel_rfl) (Or.inl ⟨by rfl, ?_⟩) hSw ?_
            rotate_left
            · intro wx hSx
              (try dsimp only at hSx)
              go_split_ands
              go_simp
              (try with_reducible rfl)
            simp only [List.setIfInBounds_toArray, List.set_cons_zero, List.set_cons_succ]
            refine wpAnyH_ready (fuel := 3) (rs := [21]) (by kernel_rfl) (by simp) (AllReadyH.cons rfl (fun K hK => ?_) AllReadyH.nil)
            go_simp
            refine Calls.mono (f1 _ hSw.2.2.2.2) ?_
            rintro e wv ⟨rfl, hwv⟩
            refine hK.out _ _ (Wr.all hwv) (fun hSw => ?_)
            clear hK K
            simp only [List.setIfInBounds_toArray, List.set_cons_zero, List.set_cons_succ]
            refine take_at 22 31 (fuel := 2) ?_ rfl rfl (by kernel_rfl) (by kernel_rfl) (by kernel_rfl) (Or.inl ⟨by rfl, ?_⟩) hSw ?_
            rotate_left
            · intro wx hSx
              (try dsimp only at hSx)
              go_split_ands
              go_simp
              (try with_reducible rfl)
            simp only [List.setIfInBounds_toArray, List.set_cons_zero, List.set_cons_succ]
            refine take_at 23 32 (fuel := 1) ?_ rfl rfl (by kernel_rfl) (by kernel_rfl) (by kernel_rfl) (Or.inl ⟨by rfl, ?_⟩) hSw ?_
            rotate_left
            · intro wx hSx
              (try dsimp only at hSx)
              go_split_ands
              go_simp
              (try with_reducible rfl)
            simp only [List.setIfInBounds_toArray, List.set_cons_zero, List.set_cons_succ]
            refine take_at 24 33 (fuel := 0) ?_ rfl rfl (by kernel_rfl) (by kernel_rfl) (by kernel_rfl) (Or.inl ⟨by rfl, ?_⟩) hSw ?_
            rotate_left
            · intro wx hSx
              (try dsimp only at hSx)
              go_split_ands
              go_simp
              (try with_reducible rfl)
            simp only [List.setIfInBounds_toArray, List.set_cons_zero, List.set_cons_succ]
            refine wpAnyH_done (by kernel_rfl) ⟨rfl, ?_⟩ 0
            have hZ := hSw.2.2.2.2
            clear hSw
            go_wp2_with fail
            go_meet
            exact ⟨by rw [ho], hZ⟩
          | true =>
            by_cases n2 : v.len 0 = v.tgt
            · have d2 : ((v.len 0 : Int) == (v.tgt : Int)) = true := beq_iff_eq.2 (by omega)
              have ho : v.once true = true := by simp [Av.once, n0, n3]
              clear n2
              refine region_only 25 #[false, false, false, false, false, false, false, false, false, false, false, false, false, false, false, false, false, false, false, false, false, false, false, false, false] (S := (fun W => W.cell? ⟨w.heap.size, 0, none⟩ = some (.int .i64 (v.most : Int)) ∧ W.cell? ⟨w.heap.size, 1, none⟩ = some (.int .i64 (v.tgt : Int)) ∧ W.cell? ⟨w.heap.size, 2, none⟩ = some (.slice (some ⟨G, 0, none⟩) 4 4) ∧ W.cell? ⟨w.heap.size, 3, none⟩ = some (.int .i64 (v.pl : Int)) ∧ Wr w G vs v G vs W)) rfl rfl (by kernel_rfl) (Wr.all (h2.drewN 1)) (fun hSw => ?_)
              refine take_at 0 9 (fuel := 24) ?_ rfl rfl (by kernel_rfl) (by kernel_rfl) (by kernel_rfl) (Or.inl ⟨by rfl, ?_⟩) hSw ?_
              rotate_left
              · intro wx hSx
                (try dsimp only at hSx)
                go_split_ands
                go_simp
                (try with_reducible rfl)
              simp only [List.setIfInBounds_toArray, List.set_cons_zero, List.set_cons_succ]
              refine wpAnyH_ready (fuel := 23) (rs := [1]) (by kernel_rfl) (by simp) (AllReadyH.cons rfl (fun K hK => ?_) AllReadyH.nil)
              go_simp
              refine Calls.mono (f0 _ hSw.2.2.2.2) ?_
              rintro e wv ⟨rfl, hwv⟩
              refine hK.out _ _ (Wr.all hwv) (fun hSw => ?_)
              clear hK K
              simp only [List.setIfInBounds_toArray, List.set_cons_zero, List.set_cons_succ]
              refine take_at 2 11 (fuel := 22) ?_ rfl rfl (by kernel_rfl) (by kernel_rfl) (by kernel_rfl) (Or.inl ⟨by rfl, ?_⟩) hSw ?_
              rotate_left
              · intro wx hSx
                (try dsimp only at hSx)
                go_split_ands
                go_simp
                (try with_reducible rfl)
              simp only [List.setIfInBounds_toArray, List.set_cons_zero, List.set_cons_succ]
              refine take_at 3 12 (fuel := 21) ?_ rfl rfl (by kernel_rfl) (by kernel_rfl) (by kernel_rfl) (Or.inl ⟨by rfl, ?_⟩) hSw ?_
              rotate_left
              · intro wx hSx
                (try dsimp only at hSx)
                go_split_ands
                go_simp
                (try with_reducible rfl)
              simp only [List.setIfInBounds_toArray, List.set_cons_zero, List.set_cons_succ]
              refine take_at 4 13 (fuel := 20) ?_ rfl rfl (by kernel_rfl) (by kernel_rfl) (by kernel_rfl) (Or.inl ⟨by rfl, ?_⟩) hSw ?_
              rotate_left
              · intro wx hSx
                (try dsimp only at hSx)
                go_split_ands
                go_simp
                (try with_reducible rfl)
              simp only [List.setIfInBounds_toArray, List.set_cons_zero, List.set_cons_succ]
              refine take_at 6 15 (fuel := 19) ?_ rfl rfl (by kernel_rfl) (by kernel_rfl) (by kernel_rfl) (Or.inl ⟨by rfl, ?_⟩) hSw ?_
              rotate_left
              · intro wx hSx
                (try dsimp only at hSx)
                go_split_ands
                go_simp
                (try with_reducible rfl)
              simp only [List.setIfInBounds_toArray, List.set_cons_zero, List.set_cons_succ]
              refine take_at 7 16 (fuel := 18) ?_ rfl rfl (by kernel_rfl) (by kernel_rfl) (by kernel_rfl) (Or.inl ⟨by rfl, ?_⟩) hSw ?_
              rotate_left
              · intro wx hSx
                (try dsimp only at hSx)
                go_split_ands
                go_simp
                (try with_reducible rfl)
              simp only [List.setIfInBounds_toArray, List.set_cons_zero, List.set_cons_succ]
              refine wpAnyH_ready (fuel := 17) (rs := [5]) (by kernel_rfl) (by simp) (AllReadyH.cons rfl (fun K hK => ?_) AllReadyH.nil)
              go_simp
              refine Calls.mono (f0 _ hSw.2.2.2.2) ?_
              rintro e wv ⟨rfl, hwv⟩
              refine hK.out _ _ (Wr.all hwv) (fun hSw => ?_)
              clear hK K
              simp only [List.setIfInBounds_toArray, List.set_cons_zero, List.set_cons_succ]
              refine take_at 8 17 (fuel := 16) ?_ rfl rfl (by kernel_rfl) (by kernel_rfl) (by kernel_rfl) (Or.inl ⟨by rfl, ?_⟩) hSw ?_
              rotate_left
              · intro wx hSx
                (try dsimp only at hSx)
                go_split_ands
                go_simp
                (try with_reducible rfl)
              simp only [List.setIfInBounds_toArray, List.set_cons_zero, List.set_cons_succ]
              refine take_at 9 18 (fuel := 15) ?_ rfl rfl (by kernel_rfl) (by kernel_rfl) (by kernel_rfl) (Or.inl ⟨by rfl, ?_⟩) hSw ?_
              rotate_left
              · intro wx hSx
                (try dsimp only at hSx)
                go_split_ands
                go_simp
                (try with_reducible rfl)
              simp only [List.setIfInBounds_toArray, List.set_cons_zero, List.set_cons_succ]
              refine take_at 10 19 (fuel := 14) ?_ rfl rfl (by kernel_rfl) (by kernel_rfl) (by kernel_rfl) (Or.inl ⟨by rfl, ?_⟩) hSw ?_
              rotate_left
              · intro wx hSx
                (try dsimp only at hSx)
                go_split_ands
                go_simp
                (try with_reducible rfl)
              simp only [List.setIfInBounds_toArray, List.set_cons_zero, List.set_cons_succ]
              refine take_at 11 20 (fuel := 13) ?_ rfl rfl (by kernel_rfl) (by kernel_rfl) (by kernel_rfl) (Or.inl ⟨by rfl, ?_⟩) hSw ?_
              rotate_left
              · intro wx hSx
                (try dsimp only at hSx)
                go_split_ands
                go_simp
                (try with_reducible rfl)
              simp only [List.setIfInBounds_toArray, List.set_cons_zero, List.set_cons_succ]
              refine take_at 12 21 (fuel := 12) ?_ rfl rfl (by kernel_rfl) (by kernel_rfl) (by kernel_rfl) (Or.inl ⟨by rfl, ?_⟩) hSw ?_
              rotate_left
              · intro wx hSx
                (try dsimp only at hSx)
                go_split_ands
                go_simp
                (try with_reducible rfl)
              simp only [List.setIfInBounds_toArray, List.set_cons_zero, List.set_cons_succ]
              refine take_at 14 23 (fuel := 11) ?_ rfl rfl (by kernel_rfl) (by kernel_rfl) (by kernel_rfl) (Or.inl ⟨by rfl, ?_⟩) hSw ?_
              rotate_left
              · intro wx hSx
                (try dsimp only at hSx)
                go_split_ands
                go_simp
                (try with_reducible rfl)
              simp only [List.setIfInBounds_toArray, List.set_cons_zero, List.set_cons_succ]
              refine take_at 15 24 (fuel := 10) ?_ rfl rfl (by kernel_rfl) (by kernel_rfl) (by kernel_rfl) (Or.inl ⟨by rfl, ?_⟩) hSw ?_
              rotate_left
              · intro wx hSx
                (try dsimp only at hSx)
                go_split_ands
                go_simp
                (try with_reducible rfl)
              simp only [List.setIfInBounds_toArray, List.set_cons_zero, List.set_cons_succ]
              refine wpAnyH_ready (fuel := 9) (rs := [13]) (by kernel_rfl) (by simp) (AllReadyH.cons rfl (fun K hK => ?_) AllReadyH.nil)
              go_simp
              refine Calls.mono (f0 _ hSw.2.2.2.2) ?_
              rintro e wv ⟨rfl, hwv⟩
              refine hK.out _ _ (Wr.all hwv) (fun hSw => ?_)
              clear hK K
              simp only [List.setIfInBounds_toArray, List.set_cons_zero, List.set_cons_succ]
              refine take_at 16 25 (fuel := 8) ?_ rfl rfl (by kernel_rfl) (by kernel_rfl) (by kernel_rfl) (Or.inl ⟨by rfl, ?_⟩) hSw ?_
              rotate_left
              · intro wx hSx
                (try dsimp only at hSx)
                go_split_ands
                go_simp
                (try with_reducible rfl)
              simp only [List.setIfInBounds_toArray, List.set_cons_zero, List.set_cons_succ]
              refine take_at 17 26 (fuel := 7) ?_ rfl rfl (by kernel_rfl) (by kernel_rfl) (by kernel_rfl) (Or.inl ⟨by rfl, ?_⟩) hSw ?_
              rotate_left
              · intro wx hSx
                (try dsimp only at hSx)
                go_split_ands
                go_simp
                (try with_reducible rfl)
              simp only [List.setIfInBounds_toArray, List.set_cons_zero, List.set_cons_succ]
              refine take_at 18 27 (fuel := 6) ?_ rfl rfl (by kernel_rfl) (by kernel_rfl) (by kernel_rfl) (Or.inl ⟨by rfl, ?_⟩) hSw ?_
              rotate_left
              · intro wx hSx
                (try dsimp only at hSx)
                go_split_ands
                go_simp
                (try with_reducible rfl)
              simp only [List.setIfInBounds_toArray, List.set_cons_zero, List.set_cons_succ]
              refine take_at 19 28 (fuel := 5) ?_ rfl rfl (by kernel_rfl) (by kernel_rfl) (by kernel_rfl) (Or.inl ⟨by rfl, ?_⟩) hSw ?_
              rotate_left
              · intro wx hSx
                (try dsimp only at hSx)
                go_split_ands
                go_simp
                (try with_reducible rfl)
              simp only [List.setIfInBounds_toArray, List.set_cons_zero, List.set_cons_succ]
              refine take_at 20 29 undef (fuel := 4) rfl rfl (by kernel_rfl) (by kernel_rfl) (by kernel_rfl) (Or.inr ⟨by rfl, rfl⟩) hSw ?_
              simp only [List.setIfInBounds_toArray, List.set_cons_zero, List.set_cons_succ]
              refine take_at 21 30 undef (fuel := 3) rfl rfl (by kernel_rfl) (by kernel_rfl) (by kernel_rfl) (Or.inr ⟨by rfl, rfl⟩) hSw ?_
              simp only [List.setIfInBounds_toArray, List.set_cons_zero, List.set_cons_succ]
              refine take_at 22 31 undef (fuel := 2) rfl rfl (by kernel_rfl) (by kernel_rfl) (by kernel_rfl) (Or.inr ⟨by rfl, rfl⟩) hSw ?_
              simp only [List.setIfInBounds_toArray, List.set_cons_zero, List.set_cons_succ]
              refine take_at 23 32 (fuel := 1) ?_ rfl rfl (by kernel_rfl) (by kernel_rfl) (by kernel_rfl) (Or.inl ⟨by rfl, ?_⟩) hSw ?_
              rotate_left
              · intro wx hSx
                (try dsimp only at hSx)
                go_split_ands
                go_simp
                (try with_reducible rfl)
              simp only [List.setIfInBounds_toArray, List.set_cons_zero, List.set_cons_succ]
              refine take_at 24 33 (fuel := 0) ?_ rfl rfl (by kernel_rfl) (by kernel_rfl) (by kernel_rfl) (Or.inl ⟨by rfl, ?_⟩) hSw ?_
              rotate_left
              · intro wx hSx
                (try dsimp only at hSx)
                go_split_ands
                go_simp
                (try with_reducible rfl)
              simp only [List.setIfInBounds_toArray, List.set_cons_zero, List.set_cons_succ]
              refine wpAnyH_done (by kernel_rfl) ⟨rfl, ?_⟩ 0
              have hZ := hSw.2.2.2.2
              clear hSw
              go_wp2_with fail
              go_meet
              exact ⟨by rw [ho], hZ⟩
            · have d2 : ((v.len 0 : Int) == (v.tgt : Int)) = false := beq_eq_false_iff_ne.2 (by omega)
              have ho : v.once true = true := by simp [Av.once, n0, n3]
              refine region_only 25 #[false, false, false, false, false, false, false, false, false, false, false, false, false, false, false, false, false, false, false, false, false, false, false, false, false] (S := (fun W => W.cell? ⟨w.heap.size, 0, none⟩ = some (.int .i64 (v.most : Int)) ∧ W.cell? ⟨w.heap.size, 1, none⟩ = some (.int .i64 (v.tgt : Int)) ∧ W.cell? ⟨w.heap.size, 2, none⟩ = some (.slice (some ⟨G, 0, none⟩) 4 4) ∧ W.cell? ⟨w.heap.size, 3, none⟩ = some (.int .i64 (v.pl : Int)) ∧ Wr w G vs v G vs W)) rfl rfl (by kernel_rfl) (Wr.all (h2.drewN 1)) (fun hSw => ?_)
              refine take_at 0 9 (fuel := 24) ?_ rfl rfl (by kernel_rfl) (by kernel_rfl) (by kernel_rfl) (Or.inl ⟨by rfl, ?_⟩) hSw ?_
              rotate_left
              · intro wx hSx
                (try dsimp only at hSx)
                go_split_ands
                go_simp
                (try with_reducible rfl)
              simp only [List.setIfInBounds_toArray, List.set_cons_zero, List.set_cons_succ]
              refine wpAnyH_ready (fuel := 23) (rs := [1]) (by kernel_rfl) (by simp) (AllReadyH.cons rfl (fun K hK => ?_) AllReadyH.nil)
              go_simp
              refine Calls.mono (f0 _ hSw.2.2.2.2) ?_
              rintro e wv ⟨rfl, hwv⟩
              refine hK.out _ _ (Wr.all hwv) (fun hSw => ?_)
              clear hK K
              simp only [List.setIfInBounds_toArray, List.set_cons_zero, List.set_cons_succ]
              refine take_at 2 11 (fuel := 22) ?_ rfl rfl (by kernel_rfl) (by kernel_rfl) (by kernel_rfl) (Or.inl ⟨by rfl, ?_⟩) hSw ?_
              rotate_left
              · intro wx hSx
                (try dsimp only at hSx)
                go_split_ands
                go_simp
                (try with_reducible rfl)
              simp only [List.setIfInBounds_toArray, List.set_cons_zero, List.set_cons_succ]
              refine take_at 3 12 (fuel := 21) ?_ rfl rfl (by kernel_rfl) (by kernel_rfl) (by kernel_rfl) (Or.inl ⟨by rfl, ?_⟩) hSw ?_
              rotate_left
              · intro wx hSx
                (try dsimp only at hSx)
                go_split_ands
                go_simp
                (try with_reducible rfl)
              simp only [List.setIfInBounds_toArray, List.set_cons_zero, List.set_cons_succ]
              refine take_at 4 13 (fuel := 20) ?_ rfl rfl (by kernel_rfl) (by kernel_rfl) (by kernel_rfl) (Or.inl ⟨by rfl, ?_⟩) hSw ?_
              rotate_left
              · intro wx hSx
                (try dsimp only at hSx)
                go_split_ands
                go_simp
                (try with_reducible rfl)
              simp only [List.setIfInBounds_toArray, List.set_cons_zero, List.set_cons_succ]
              refine take_at 6 15 (fuel := 19) ?_ rfl rfl (by kernel_rfl) (by kernel_rfl) (by kernel_rfl) (Or.inl ⟨by rfl, ?_⟩) hSw ?_
              rotate_left
              · intro wx hSx
                (try dsimp only at hSx)
                go_split_ands
                go_simp
                (try with_reducible rfl)
              simp only [List.setIfInBounds_toArray, List.set_cons_zero, List.set_cons_succ]
              refine take_at 7 16 (fuel := 18) ?_ rfl rfl (by kernel_rfl) (by kernel_rfl) (by kernel_rfl) (Or.inl ⟨by rfl, ?_⟩) hSw ?_
              rotate_left
              · intro wx hSx
                (try dsimp only at hSx)
                go_split_ands
                go_simp
                (try with_reducible rfl)
              simp only [List.setIfInBounds_toArray, List.set_cons_zero, List.set_cons_succ]
              refine wpAnyH_ready (fuel := 17) (rs := [5]) (by kernel_rfl) (by simp) (AllReadyH.cons rfl (fun K hK => ?_) AllReadyH.nil)
              go_simp
              refine Calls.mono (f0 _ hSw.2.2.2.2) ?_
              rintro e wv ⟨rfl, hwv⟩
              refine hK.out _ _ (Wr.all hwv) (fun hSw => ?_)
              clear hK K
              simp only [List.setIfInBounds_toArray, List.set_cons_zero, List.set_cons_succ]
              refine take_at 8 17 (fuel := 16) ?_ rfl rfl (by kernel_rfl) (by kernel_rfl) (by kernel_rfl) (Or.inl ⟨by rfl, ?_⟩) hSw ?_
              rotate_left
              · intro wx hSx
                (try dsimp only at hSx)
                go_split_ands
                go_simp
                (try with_reducible rfl)
              simp only [List.setIfInBounds_toArray, List.set_cons_zero, List.set_cons_succ]
              refine take_at 9 18 (fuel := 15) ?_ rfl rfl (by kernel_rfl) (by kernel_rfl) (by kernel_rfl) (Or.inl ⟨by rfl, ?_⟩) hSw ?_
              rotate_left
              · intro wx hSx
                (try dsimp only at hSx)
                go_split_ands
                go_simp
                (try with_reducible rfl)
              simp only [List.setIfInBounds_toArray, List.set_cons_zero, List.set_cons_succ]
              refine take_at 10 19 (fuel := 14) ?_ rfl rfl (by kernel_rfl) (by kernel_rfl) (by kernel_rfl) (Or.inl ⟨by rfl, ?_⟩) hSw ?_
              rotate_left
              · intro wx hSx
                (try dsimp only at hSx)
                go_split_ands
                go_simp
                (try with_reducible rfl)
              simp only [List.setIfInBounds_toArray, List.set_cons_zero, List.set_cons_succ]
              refine take_at 11 20 (fuel := 13) ?_ rfl rfl (by kernel_rfl) (by kernel_rfl) (by kernel_rfl) (Or.inl ⟨by rfl, ?_⟩) hSw ?_
              rotate_left
              · intro wx hSx
                (try dsimp only at hSx)
                go_split_ands
                go_simp
                (try with_reducible rfl)
              simp only [List.setIfInBounds_toArray, List.set_cons_zero, List.set_cons_succ]
              refine take_at 12 21 (fuel := 12) ?_ rfl rfl (by kernel_rfl) (by kernel_rfl) (by kernel_rfl) (Or.inl ⟨by rfl, ?_⟩) hSw ?_
              rotate_left
              · intro wx hSx
                (try dsimp only at hSx)
                go_split_ands
                go_simp
                (try with_reducible rfl)
              simp only [List.setIfInBounds_toArray, List.set_cons_zero, List.set_cons_succ]
              refine take_at 14 23 (fuel := 11) ?_ rfl rfl (by kernel_rfl) (by kernel_rfl) (by kernel_rfl) (Or.inl ⟨by rfl, ?_⟩) hSw ?_
              rotate_left
              · intro wx hSx
                (try dsimp only at hSx)
                go_split_ands
                go_simp
                (try with_reducible rfl)
              simp only [List.setIfInBounds_toArray, List.set_cons_zero, List.set_cons_succ]
              refine take_at 15 24 (fuel := 10) ?_ rfl rfl (by kernel_rfl) (by kernel_rfl) (by kernel_rfl) (Or.inl ⟨by rfl, ?_⟩) hSw ?_
              rotate_left
              · intro wx hSx
                (try dsimp only at hSx)
                go_split_ands
                go_simp
                (try with_reducible rfl)
              simp only [List.setIfInBounds_toArray, List.set_cons_zero, List.set_cons_succ]
              refine wpAnyH_ready (fuel := 9) (rs := [13]) (by kernel_rfl) (by simp) (AllReadyH.cons rfl (fun K hK => ?_) AllReadyH.nil)
              go_simp
              refine Calls.mono (f0 _ hSw.2.2.2.2) ?_
              rintro e wv ⟨rfl, hwv⟩
              refine hK.out _ _ (Wr.all hwv) (fun hSw => ?_)
              clear hK K
              simp only [List.setIfInBounds_toArray, List.set_cons_zero, List.set_cons_succ]
              refine take_at 16 25 (fuel := 8) ?_ rfl rfl (by kernel_rfl) (by kernel_rfl) (by kernel_rfl) (Or.inl ⟨by rfl, ?_⟩) hSw ?_
              rotate_left
              · intro wx hSx
                (try dsimp only at hSx)
                go_split_ands
                go_simp
                (try with_reducible rfl)
              simp only [List.setIfInBounds_toArray, List.set_cons_zero, List.set_cons_succ]
              refine take_at 17 26 (fuel := 7) ?_ rfl rfl (by kernel_rfl) (by kernel_rfl) (by kernel_rfl) (Or.inl ⟨by rfl, ?_⟩) hSw ?_
              rotate_left
              · intro wx hSx
                (try dsimp only at hSx)
                go_split_ands
                go_simp
                (try with_reducible rfl)
              simp only [List.setIfInBounds_toArray, List.set_cons_zero, List.set_cons_succ]
              refine take_at 18 27 (fuel := 6) ?_ rfl rfl (by kernel_rfl) (by kernel_rfl) (by kernel_rfl) (Or.inl ⟨by rfl, ?_⟩) hSw ?_
              rotate_left
              · intro wx hSx
                (try dsimp only at hSx)
                go_split_ands
                go_simp
                (try with_reducible rfl)
              simp only [List.setIfInBounds_toArray, List.set_cons_zero, List.set_cons_succ]
              refine take_at 19 28 (fuel := 5) ?_ rfl rfl (by kernel_rfl) (by kernel_rfl) (by kernel_rfl) (Or.inl ⟨by rfl, ?_⟩) hSw ?_
              rotate_left
              · intro wx hSx
                (try dsimp only at hSx)
                go_split_ands
                go_simp
                (try with_reducible rfl)
              simp only [List.setIfInBounds_toArray, List.set_cons_zero, List.set_cons_succ]
              refine take_at 20 29 (fuel := 4) ?_ rfl rfl (by kernel_rfl) (by kernel_rfl) (by kernel_rfl) (Or.inl ⟨by rfl, ?_⟩) hSw ?_
              rotate_left
              · intro wx hSx
                (try dsimp only at hSx)
                go_split_ands
                go_simp
                (try with_reducible rfl)
              simp only [List.setIfInBounds_toArray, List.set_cons_zero, List.set_cons_succ]
              refine wpAnyH_ready (fuel := 3) (rs := [21]) (by kernel_rfl) (by simp) (AllReadyH.cons rfl (fun K hK => ?_) AllReadyH.nil)
              go_simp
              refine Calls.mono (f1 _ hSw.2.2.2.2) ?_
              rintro e wv ⟨rfl, hwv⟩
              refine hK.out _ _ (Wr.all hwv) (fun hSw => ?_)
              clear hK K
              simp only [List.setIfInBounds_toArray, List.set_cons_zero, List.set_cons_succ]
              refine take_at 22 31 (fuel := 2) ?_ rfl rfl (by kernel_rfl) (by kernel_rfl) (by kernel_rfl) (Or.inl ⟨by rfl, ?_⟩) hSw ?_
              rotate_left
              · intro wx hSx
                (try dsimp only at hSx)
                go_split_ands
                go_simp
                (try with_reducible rfl)
              simp only [List.setIfInBounds_toArray, List.set_cons_zero, List.set_cons_succ]
              refine take_at 23 32 (fuel := 1) ?_ rfl rfl (by kernel_rfl) (by kernel_rfl) (by kernel_rfl) (Or.inl ⟨by rfl, ?_⟩) hSw ?_
              rotate_left
              · intro wx hSx
                (try dsimp only at hSx)
                go_split_ands
                go_simp
                (try with_reducible rfl)
              simp only [List.setIfInBounds_toArray, List.set_cons_zero, List.set_cons_succ]
              refine take_at 24 33 (fuel := 0) ?_ rfl rfl (by kernel_rfl) (by kernel_rfl) (by kernel_rfl) (Or.inl ⟨by rfl, ?_⟩) hSw ?_
              rotate_left
              · intro wx hSx
                (try dsimp only at hSx)
                go_split_ands
                go_simp
                (try with_reducible rfl)
              simp only [List.setIfInBounds_toArray, List.set_cons_zero, List.set_cons_succ]
              refine wpAnyH_done (by kernel_rfl) ⟨rfl, ?_⟩ 0
              have hZ := hSw.2.2.2.2
              clear hSw
              go_wp2_with fail
              go_meet
              exact ⟨by rw [ho], hZ⟩
        · have d3 : ((v.len 1 : Int) == 0) = false := beq_eq_false_iff_ne.2 (by omega)
          cases b with
          | false =>
            have ho : v.once false = false := by simp [Av.once, n1, n3]
            refine region_only 25 #[false, false, false, false, false, false, false, false, false, false, false, false, false, false, false, false, false, false, false, false, false, false, false, false, false] (S := (fun W => W.cell? ⟨w.heap.size, 0, none⟩ = some (.int .i64 (v.most : Int)) ∧ W.cell? ⟨w.heap.size, 1, none⟩ = some (.int .i64 (v.tgt : Int)) ∧ W.cell? ⟨w.heap.size, 2, none⟩ = some (.slice (some ⟨G, 0, none⟩) 4 4) ∧ W.cell? ⟨w.heap.size, 3, none⟩ = some (.int .i64 (v.pl : Int)) ∧ Wr w G vs v G vs W)) rfl rfl (by kernel_rfl) (Wr.all (h2.drewN 1)) (fun hSw => ?_)
            refine take_at 0 9 (fuel := 24) ?_ rfl rfl (by kernel_rfl) (by kernel_rfl) (by kernel_rfl) (Or.inl ⟨by rfl, ?_⟩) hSw ?_
            rotate_left
            · intro wx hSx
              (try dsimp only at hSx)
              go_split_ands
              go_simp
              (try with_reducible rfl)
            simp only [List.setIfInBounds_toArray, List.set_cons_zero, List.set_cons_succ]
            refine wpAnyH_ready (fuel := 23) (rs := [1]) (by kernel_rfl) (by simp) (AllReadyH.cons rfl (fun K hK => ?_) AllReadyH.nil)
            go_simp
            refine Calls.mono (f0 _ hSw.2.2.2.2) ?_
            rintro e wv ⟨rfl, hwv⟩
            refine hK.out _ _ (Wr.all hwv) (fun hSw => ?_)
            clear hK K
            simp only [List.setIfInBounds_toArray, List.set_cons_zero, List.set_cons_succ]
            refine take_at 2 11 (fuel := 22) ?_ rfl rfl (by kernel_rfl) (by kernel_rfl) (by kernel_rfl) (Or.inl ⟨by rfl, ?_⟩) hSw ?_
            rotate_left
            · intro wx hSx
              (try dsimp only at hSx)
              go_split_ands
              go_simp
              (try with_reducible rfl)
            simp only [List.setIfInBounds_toArray, List.set_cons_zero, List.set_cons_succ]
            refine take_at 3 12 (fuel := 21) ?_ rfl rfl (by kernel_rfl) (by kernel_rfl) (by kernel_rfl) (Or.inl ⟨by rfl, ?_⟩) hSw ?_
            rotate_left
            · intro wx hSx
              (try dsimp only at hSx)
              go_split_ands
              go_simp
              (try with_reducible rfl)
            simp only [List.setIfInBounds_toArray, List.set_cons_zero, List.set_cons_succ]
            refine take_at 4 13 (fuel := 20) ?_ rfl rfl (by kernel_rfl) (by kernel_rfl) (by kernel_rfl) (Or.inl ⟨by rfl, ?_⟩) hSw ?_
            rotate_left
            · intro wx hSx
              (try dsimp only at hSx)
              go_split_ands
              go_simp
              (try with_reducible rfl)
            simp only [List.setIfInBounds_toArray, List.set_cons_zero, List.set_cons_succ]
            refine take_at 6 15 (fuel := 19) ?_ rfl rfl (by kernel_rfl) (by kernel_rfl) (by kernel_rfl) (Or.inl ⟨by rfl, ?_⟩) hSw ?_
            rotate_left
            · intro wx hSx
              (try dsimp only at hSx)
              go_split_ands
              go_simp
              (try with_reducible rfl)
            simp only [List.setIfInBounds_toArray, List.set_cons_zero, List.set_cons_succ]
            refine take_at 7 16 (fuel := 18) ?_ rfl rfl (by kernel_rfl) (by kernel_rfl) (by kernel_rfl) (Or.inl ⟨by rfl, ?_⟩) hSw ?_
            rotate_left
            · intro wx hSx
              (try dsimp only at hSx)
              go_split_ands
              go_simp
              (try with_reducible rfl)
            simp only [List.setIfInBounds_toArray, List.set_cons_zero, List.set_cons_succ]
            refine wpAnyH_ready (fuel := 17) (rs := [5]) (by kernel_rfl) (by simp) (AllReadyH.cons rfl (fun K hK => ?_) AllReadyH.nil)
            go_simp
            refine Calls.mono (f0 _ hSw.2.2.2.2) ?_
            rintro e wv ⟨rfl, hwv⟩
            refine hK.out _ _ (Wr.all hwv) (fun hSw => ?_)
            clear hK K
            simp only [List.setIfInBounds_toArray, List.set_cons_zero, List.set_cons_succ]
            refine take_at 8 17 (fuel := 16) ?_ rfl rfl (by kernel_rfl) (by kernel_rfl) (by kernel_rfl) (Or.inl ⟨by rfl, ?_⟩) hSw ?_
            rotate_left
            · intro wx hSx
              (try dsimp only at hSx)
              go_split_ands
              go_simp
              (try with_reducible rfl)
            simp only [List.setIfInBounds_toArray, List.set_cons_zero, List.set_cons_succ]
            refine take_at 9 18 (fuel := 15) ?_ rfl rfl (by kernel_rfl) (by kernel_rfl) (by kernel_rfl) (Or.inl ⟨by rfl, ?_⟩) hSw ?_
            rotate_left
            · intro wx hSx
              (try dsimp only at hSx)
              go_split_ands
              go_simp
              (try with_reducible rfl)
            simp only [List.setIfInBounds_toArray, List.set_cons_zero, List.set_cons_succ]
            refine take_at 10 19 (fuel := 14) ?_ rfl rfl (by kernel_rfl) (by kernel_rfl) (by kernel_rfl) (Or.inl ⟨by rfl, ?_⟩) hSw ?_
            rotate_left
            · intro wx hSx
              (try dsimp only at hSx)
              go_split_ands
              go_simp
              (try with_reducible rfl)
            simp only [List.setIfInBounds_toArray, List.set_cons_zero, List.set_cons_succ]
            refine take_at 11 20 (fuel := 13) ?_ rfl rfl (by kernel_rfl) (by kernel_rfl) (by kernel_rfl) (Or.inl ⟨by rfl, ?_⟩) hSw ?_
            rotate_left
            · intro wx hSx
              (try dsimp only at hSx)
              go_split_ands
              go_simp
              (try with_reducible rfl)
            simp only [List.setIfInBounds_toArray, List.set_cons_zero, List.set_cons_succ]
            refine take_at 12 21 undef (fuel := 12) rfl rfl (by kernel_rfl) (by kernel_rfl) (by kernel_rfl) (Or.inr ⟨by rfl, rfl⟩) hSw ?_
            simp only [List.setIfInBounds_toArray, List.set_cons_zero, List.set_cons_succ]
            refine take_at 13 22 undef (fuel := 11) rfl rfl (by kernel_rfl) (by kernel_rfl) (by kernel_rfl) (Or.inr ⟨by rfl, rfl⟩) hSw ?_
            simp only [List.setIfInBounds_toArray, List.set_cons_zero, List.set_cons_succ]
            refine take_at 14 23 undef (fuel := 10) rfl rfl (by kernel_rfl) (by kernel_rfl) (by kernel_rfl) (Or.inr ⟨by rfl, rfl⟩) hSw ?_
            simp only [List.setIfInBounds_toArray, List.set_cons_zero, List.set_cons_succ]
            refine take_at 15 24 undef (fuel := 9) rfl rfl (by kernel_rfl) (by kernel_rfl) (by kernel_rfl) (Or.inr ⟨by rfl, rfl⟩) hSw ?_
            simp only [List.setIfInBounds_toArray, List.set_cons_zero, List.set_cons_succ]
            refine take_at 16 25 undef (fuel := 8) rfl rfl (by kernel_rfl) (by kernel_rfl) (by kernel_rfl) (Or.inr ⟨by rfl, rfl⟩) hSw ?_
            simp only [List.setIfInBounds_toArray, List.set_cons_zero, List.set_cons_succ]
            refine take_at 17 26 (fuel := 7) ?_ rfl rfl (by kernel_rfl) (by kernel_rfl) (by kernel_rfl) (Or.inl ⟨by rfl, ?_⟩) hSw ?_
            rotate_left
            · intro wx hSx
              (try dsimp only at hSx)
              go_split_ands
              go_simp
              (try with_reducible rfl)
            simp only [List.setIfInBounds_toArray, List.set_cons_zero, List.set_cons_succ]
            refine take_at 18 27 (fuel := 6) ?_ rfl rfl (by kernel_rfl) (by kernel_rfl) (by kernel_rfl) (Or.inl ⟨by rfl, ?_⟩) hSw ?_
            rotate_left
            · intro wx hSx
              (try dsimp only at hSx)
              go_split_ands
              go_simp
              (try with_reducible rfl)
            simp only [List.setIfInBounds_toArray, List.set_cons_zero, List.set_cons_succ]
            refine take_at 19 28 (fuel := 5) ?_ rfl rfl (by kernel_rfl) (by kernel_rfl) (by kernel_rfl) (Or.inl ⟨by rfl, ?_⟩) hSw ?_
            rotate_left
            · intro wx hSx
              (try dsimp only at hSx)
              go_split_ands
              go_simp
              (try with_reducible rfl)
            simp only [List.setIfInBounds_toArray, List.set_cons_zero, List.set_cons_succ]
            refine take_at 20 29 (fuel := 4) ?_ rfl rfl (by kernel_rfl) (by kernel_rfl) (by kernel_rfl) (Or.inl ⟨by rfl, ?_⟩) hSw ?_
            rotate_left
            · intro wx hSx
              (try dsimp only at hSx)
              go_split_ands
              go_simp
              (try with_reducible rfl)
            simp only [List.setIfInBounds_toArray, List.set_cons_zero, List.set_cons_succ]
            refine wpAnyH_ready (fuel := 3) (rs := [21]) (by kernel_rfl) (by simp) (AllReadyH.cons rfl (fun K hK => ?_) AllReadyH.nil)
            go_simp
            refine Calls.mono (f1 _ hSw.2.2.2.2) ?_
            rintro e wv ⟨rfl, hwv⟩
            refine hK.out _ _ (Wr.all hwv) (fun hSw => ?_)
            clear hK K
            simp only [List.setIfInBounds_toArray, List.set_cons_zero, List.set_cons_succ]
            refine take_at 22 31 (fuel := 2) ?_ rfl rfl (by kernel_rfl) (by kernel_rfl) (by kernel_rfl) (Or.inl ⟨by rfl, ?_⟩) hSw ?_
            rotate_left
            · intro wx hSx
              (try dsimp only at hSx)
              go_split_ands
              go_simp
              (try with_reducible rfl)
            simp only [List.setIfInBounds_toArray, List.set_cons_zero, List.set_cons_succ]
            refine take_at 23 32 (fuel := 1) ?_ rfl rfl (by kernel_rfl) (by kernel_rfl) (by kernel_rfl) (Or.inl ⟨by rfl, ?_⟩) hSw ?_
            rotate_left
            · intro wx hSx
              (try dsimp only at hSx)
              go_split_ands
              go_simp
              (try with_reducible rfl)
            simp only [List.setIfInBounds_toArray, List.set_cons_zero, List.set_cons_succ]
            refine take_at 24 33 (fuel := 0) ?_ rfl rfl (by kernel_rfl) (by kernel_rfl) (by kernel_rfl) (Or.inl ⟨by rfl, ?_⟩) hSw ?_
            rotate_left
            · intro wx hSx
              (try dsimp only at hSx)
              go_split_ands
              go_simp
              (try with_reducible rfl)
            simp only [List.setIfInBounds_toArray, List.set_cons_zero, List.set_cons_succ]
            refine wpAnyH_done (by kernel_rfl) ⟨rfl, ?_⟩ 0
            have hZ := hSw.2.2.2.2
            clear hSw
            go_wp2_with fail
            go_meet
            exact ⟨by rw [ho], hZ⟩
          | true =>
            by_cases n2 : v.len 0 = v.tgt
            · have d2 : ((v.len 0 : Int) == (v.tgt : Int)) = true := beq_iff_eq.2 (by omega)
              have ho : v.once true = true := by rw [n2] at n0; simp [Av.once, n2, n0]
              clear n2
              refine region_only 25 #[false, false, false, false, false, false, false, false, false, false, false, false, false, false, false, false, false, false, false, false, false, false, false, false, false] (S := (fun W => W.cell? ⟨w.heap.size, 0, none⟩ = some (.int .i64 (v.most : Int)) ∧ W.cell? ⟨w.heap.size, 1, none⟩ = some (.int .i64 (v.tgt : Int)) ∧ W.cell? ⟨w.heap.size, 2, none⟩ = some (.slice (some ⟨G, 0, none⟩) 4 4) ∧ W.cell? ⟨w.heap.size, 3, none⟩ = some (.int .i64 (v.pl : Int)) ∧ Wr w G vs v G vs W)) rfl rfl (by kernel_rfl) (Wr.all (h2.drewN 1)) (fun hSw => ?_)
              refine take_at 0 9 (fuel := 24) ?_ rfl rfl (by kernel_rfl) (by kernel_rfl) (by kernel_rfl) (Or.inl ⟨by rfl, ?_⟩) hSw ?_
              rotate_left
              · intro wx hSx
                (try dsimp only at hSx)
                go_split_ands
                go_simp
                (try with_reducible rfl)
              simp only [List.setIfInBounds_toArray, List.set_cons_zero, List.set_cons_succ]
              refine wpAnyH_ready (fuel := 23) (rs := [1]) (by kernel_rfl) (by simp) (AllReadyH.cons rfl (fun K hK => ?_) AllReadyH.nil)
              go_simp
              refine Calls.mono (f0 _ hSw.2.2.2.2) ?_
              rintro e wv ⟨rfl, hwv⟩
              refine hK.out _ _ (Wr.all hwv) (fun hSw => ?_)
              clear hK K
              simp only [List.setIfInBounds_toArray, List.set_cons_zero, List.set_cons_succ]
              refine take_at 2 11 (fuel := 22) ?_ rfl rfl (by kernel_rfl) (by kernel_rfl) (by kernel_rfl) (Or.inl ⟨by rfl, ?_⟩) hSw ?_
              rotate_left
              · intro wx hSx
                (try dsimp only at hSx)
                go_split_ands
                go_simp
                (try with_reducible rfl)
              simp only [List.setIfInBounds_toArray, List.set_cons_zero, List.set_cons_succ]
              refine take_at 3 12 (fuel := 21) ?_ rfl rfl (by kernel_rfl) (by kernel_rfl) (by kernel_rfl) (Or.inl ⟨by rfl, ?_⟩) hSw ?_
              rotate_left
              · intro wx hSx
                (try dsimp only at hSx)
                go_split_ands
                go_simp
                (try with_reducible rfl)
              simp only [List.setIfInBounds_toArray, List.set_cons_zero, List.set_cons_succ]
              refine take_at 4 13 (fuel := 20) ?_ rfl rfl (by kernel_rfl) (by kernel_rfl) (by kernel_rfl) (Or.inl ⟨by rfl, ?_⟩) hSw ?_
              rotate_left
              · intro wx hSx
                (try dsimp only at hSx)
                go_split_ands
                go_simp
                (try with_reducible rfl)
              simp only [List.setIfInBounds_toArray, List.set_cons_zero, List.set_cons_succ]
              refine take_at 6 15 (fuel := 19) ?_ rfl rfl (by kernel_rfl) (by kernel_rfl) (by kernel_rfl) (Or.inl ⟨by rfl, ?_⟩) hSw ?_
              rotate_left
              · intro wx hSx
                (try dsimp only at hSx)
                go_split_ands
                go_simp
                (try with_reducible rfl)
              simp only [List.setIfInBounds_toArray, List.set_cons_zero, List.set_cons_succ]
              refine take_at 7 16 (fuel := 18) ?_ rfl rfl (by kernel_rfl) (by kernel_rfl) (by kernel_rfl) (Or.inl ⟨by rfl, ?_⟩) hSw ?_
              rotate_left
              · intro wx hSx
                (try dsimp only at hSx)
                go_split_ands
                go_simp
                (try with_reducible rfl)
              simp only [List.setIfInBounds_toArray, List.set_cons_zero, List.set_cons_succ]
              refine wpAnyH_ready (fuel := 17) (rs := [5]) (by kernel_rfl) (by simp) (AllReadyH.cons rfl (fun K hK => ?_) AllReadyH.nil)
              go_simp
              refine Calls.mono (f0 _ hSw.2.2.2.2) ?_
              rintro e wv ⟨rfl, hwv⟩
              refine hK.out _ _ (Wr.all hwv) (fun hSw => ?_)
              clear hK K
              simp only [List.setIfInBounds_toArray, List.set_cons_zero, List.set_cons_succ]
              refine take_at 8 17 (fuel := 16) ?_ rfl rfl (by kernel_rfl) (by kernel_rfl) (by kernel_rfl) (Or.inl ⟨by rfl, ?_⟩) hSw ?_
              rotate_left
              · intro wx hSx
                (try dsimp only at hSx)
                go_split_ands
                go_simp
                (try with_reducible rfl)
              simp only [List.setIfInBounds_toArray, List.set_cons_zero, List.set_cons_succ]
              refine take_at 9 18 (fuel := 15) ?_ rfl rfl (by kernel_rfl) (by kernel_rfl) (by kernel_rfl) (Or.inl ⟨by rfl, ?_⟩) hSw ?_
              rotate_left
              · intro wx hSx
                (try dsimp only at hSx)
                go_split_ands
                go_simp
                (try with_reducible rfl)
              simp only [List.setIfInBounds_toArray, List.set_cons_zero, List.set_cons_succ]
              refine take_at 10 19 (fuel := 14) ?_ rfl rfl (by kernel_rfl) (by kernel_rfl) (by kernel_rfl) (Or.inl ⟨by rfl, ?_⟩) hSw ?_
              rotate_left
              · intro wx hSx
                (try dsimp only at hSx)
                go_split_ands
                go_simp
                (try with_reducible rfl)
              simp only [List.setIfInBounds_toArray, List.set_cons_zero, List.set_cons_succ]
              refine take_at 11 20 (fuel := 13) ?_ rfl rfl (by kernel_rfl) (by kernel_rfl) (by kernel_rfl) (Or.inl ⟨by rfl, ?_⟩) hSw ?_
              rotate_left
              · intro wx hSx
                (try dsimp only at hSx)
                go_split_ands
                go_simp
                (try with_reducible rfl)
              simp only [List.setIfInBounds_toArray, List.set_cons_zero, List.set_cons_succ]
              refine take_at 12 21 (fuel := 12) ?_ rfl rfl (by kernel_rfl) (by kernel_rfl) (by kernel_rfl) (Or.inl ⟨by rfl, ?_⟩) hSw ?_
              rotate_left
              · intro wx hSx
                (try dsimp only at hSx)
                go_split_ands
                go_simp
                (try with_reducible rfl)
              simp only [List.setIfInBounds_toArray, List.set_cons_zero, List.set_cons_succ]
              refine take_at 14 23 (fuel := 11) ?_ rfl rfl (by kernel_rfl) (by kernel_rfl) (by kernel_rfl) (Or.inl ⟨by rfl, ?_⟩) hSw ?_
              rotate_left
              · intro wx hSx
                (try dsimp only at hSx)
                go_split_ands
                go_simp
                (try with_reducible rfl)
              simp only [List.setIfInBounds_toArray, List.set_cons_zero, List.set_cons_succ]
              refine take_at 15 24 (fuel := 10) ?_ rfl rfl (by kernel_rfl) (by kernel_rfl) (by kernel_rfl) (Or.inl ⟨by rfl, ?_⟩) hSw ?_
              rotate_left
              · intro wx hSx
                (try dsimp only at hSx)
                go_split_ands
                go_simp
                (try with_reducible rfl)
              simp only [List.setIfInBounds_toArray, List.set_cons_zero, List.set_cons_succ]
              refine wpAnyH_ready (fuel := 9) (rs := [13]) (by kernel_rfl) (by simp) (AllReadyH.cons rfl (fun K hK => ?_) AllReadyH.nil)
              go_simp
              refine Calls.mono (f0 _ hSw.2.2.2.2) ?_
              rintro e wv ⟨rfl, hwv⟩
              refine hK.out _ _ (Wr.all hwv) (fun hSw => ?_)
              clear hK K
              simp only [List.setIfInBounds_toArray, List.set_cons_zero, List.set_cons_succ]
              refine take_at 16 25 (fuel := 8) ?_ rfl rfl (by kernel_rfl) (by kernel_rfl) (by kernel_rfl) (Or.inl ⟨by rfl, ?_⟩) hSw ?_
              rotate_left
              · intro wx hSx
                (try dsimp only at hSx)
                go_split_ands
                go_simp
                (try with_reducible rfl)
              simp only [List.setIfInBounds_toArray, List.set_cons_zero, List.set_cons_succ]
              refine take_at 17 26 (fuel := 7) ?_ rfl rfl (by kernel_rfl) (by kernel_rfl) (by kernel_rfl) (Or.inl ⟨by rfl, ?_⟩) hSw ?_
              rotate_left
              · intro wx hSx
                (try dsimp only at hSx)
                go_split_ands
                go_simp
                (try with_reducible rfl)
              simp only [List.setIfInBounds_toArray, List.set_cons_zero, List.set_cons_succ]
              refine take_at 18 27 (fuel := 6) ?_ rfl rfl (by kernel_rfl) (by kernel_rfl) (by kernel_rfl) (Or.inl ⟨by rfl, ?_⟩) hSw ?_
              rotate_left
              · intro wx hSx
                (try dsimp only at hSx)
                go_split_ands
                go_simp
                (try with_reducible rfl)
              simp only [List.setIfInBounds_toArray, List.set_cons_zero, List.set_cons_succ]
              refine take_at 19 28 (fuel := 5) ?_ rfl rfl (by kernel_rfl) (by kernel_rfl) (by kernel_rfl) (Or.inl ⟨by rfl, ?_⟩) hSw ?_
              rotate_left
              · intro wx hSx
                (try dsimp only at hSx)
                go_split_ands
                go_simp
                (try with_reducible rfl)
              simp only [List.setIfInBounds_toArray, List.set_cons_zero, List.set_cons_succ]
              refine take_at 20 29 undef (fuel := 4) rfl rfl (by kernel_rfl) (by kernel_rfl) (by kernel_rfl) (Or.inr ⟨by rfl, rfl⟩) hSw ?_
              simp only [List.setIfInBounds_toArray, List.set_cons_zero, List.set_cons_succ]
              refine take_at 21 30 undef (fuel := 3) rfl rfl (by kernel_rfl) (by kernel_rfl) (by kernel_rfl) (Or.inr ⟨by rfl, rfl⟩) hSw ?_
              simp only [List.setIfInBounds_toArray, List.set_cons_zero, List.set_cons_succ]
              refine take_at 22 31 undef (fuel := 2) rfl rfl (by kernel_rfl) (by kernel_rfl) (by kernel_rfl) (Or.inr ⟨by rfl, rfl⟩) hSw ?_
              simp only [List.setIfInBounds_toArray, List.set_cons_zero, List.set_cons_succ]
              refine take_at 23 32 (fuel := 1) ?_ rfl rfl (by kernel_rfl) (by kernel_rfl) (by kernel_rfl) (Or.inl ⟨by rfl, ?_⟩) hSw ?_
              rotate_left
              · intro wx hSx
                (try dsimp only at hSx)
                go_split_ands
                go_simp
                (try with_reducible rfl)
              simp only [List.setIfInBounds_toArray, List.set_cons_zero, List.set_cons_succ]
              refine take_at 24 33 (fuel := 0) ?_ rfl rfl (by kernel_rfl) (by kernel_rfl) (by kernel_rfl) (Or.inl ⟨by rfl, ?_⟩) hSw ?_
              rotate_left
              · intro wx hSx
                (try dsimp only at hSx)
                go_split_ands
                go_simp
                (try with_reducible rfl)
              simp only [List.setIfInBounds_toArray, List.set_cons_zero, List.set_cons_succ]
              refine wpAnyH_done (by kernel_rfl) ⟨rfl, ?_⟩ 0
              have hZ := hSw.2.2.2.2
              clear hSw
              go_wp2_with fail
              go_meet
              exact ⟨by rw [ho], hZ⟩
            · have d2 : ((v.len 0 : Int) == (v.tgt : Int)) = false := beq_eq_false_iff_ne.2 (by omega)
              have ho : v.once true = false := by simp [Av.once, n1, n2, n3]
              clear n2
              refine region_only 25 #[false, false, false, false, false, false, false, false, false, false, false, false, false, false, false, false, false, false, false, false, false, false, false, false, false] (S := (fun W => W.cell? ⟨w.heap.size, 0, none⟩ = some (.int .i64 (v.most : Int)) ∧ W.cell? ⟨w.heap.size, 1, none⟩ = some (.int .i64 (v.tgt : Int)) ∧ W.cell? ⟨w.heap.size, 2, none⟩ = some (.slice (some ⟨G, 0, none⟩) 4 4) ∧ W.cell? ⟨w.heap.size, 3, none⟩ = some (.int .i64 (v.pl : Int)) ∧ Wr w G vs v G vs W)) rfl rfl (by kernel_rfl) (Wr.all (h2.drewN 1)) (fun hSw => ?_)
              refine take_at 0 9 (fuel := 24) ?_ rfl rfl (by kernel_rfl) (by kernel_rfl) (by kernel_rfl) (Or.inl ⟨by rfl, ?_⟩) hSw ?_
              rotate_left
              · intro wx hSx
                (try dsimp only at hSx)
                go_split_ands
                go_simp
                (try with_reducible rfl)
              simp only [List.setIfInBounds_toArray, List.set_cons_zero, List.set_cons_succ]
              refine wpAnyH_ready (fuel := 23) (rs := [1]) (by kernel_rfl) (by simp) (AllReadyH.cons rfl (fun K hK => ?_) AllReadyH.nil)
              go_simp
              refine Calls.mono (f0 _ hSw.2.2.2.2) ?_
              rintro e wv ⟨rfl, hwv⟩
              refine hK.out _ _ (Wr.all hwv) (fun hSw => ?_)
              clear hK K
              simp only [List.setIfInBounds_toArray, List.set_cons_zero, List.set_cons_succ]
              refine take_at 2 11 (fuel := 22) ?_ rfl rfl (by kernel_rfl) (by kernel_rfl) (by kernel_rfl) (Or.inl ⟨by rfl, ?_⟩) hSw ?_
              rotate_left
              · intro wx hSx
                (try dsimp only at hSx)
                go_split_ands
                go_simp
                (try with_reducible rfl)
              simp only [List.setIfInBounds_toArray, List.set_cons_zero, List.set_cons_succ]
              refine take_at 3 12 (fuel := 21) ?_ rfl rfl (by kernel_rfl) (by kernel_rfl) (by kernel_rfl) (Or.inl ⟨by rfl, ?_⟩) hSw ?_
              rotate_left
              · intro wx hSx
                (try dsimp only at hSx)
                go_split_ands
                go_simp
                (try with_reducible rfl)
              simp only [List.setIfInBounds_toArray, List.set_cons_zero, List.set_cons_succ]
              refine take_at 4 13 (fuel := 20) ?_ rfl rfl (by kernel_rfl) (by kernel_rfl) (by kernel_rfl) (Or.inl ⟨by rfl, ?_⟩) hSw ?_
              rotate_left
              · intro wx hSx
                (try dsimp only at hSx)
                go_split_ands
                go_simp
                (try with_reducible rfl)
              simp only [List.setIfInBounds_toArray, List.set_cons_zero, List.set_cons_succ]
              refine take_at 6 15 (fuel := 19) ?_ rfl rfl (by kernel_rfl) (by kernel_rfl) (by kernel_rfl) (Or.inl ⟨by rfl, ?_⟩) hSw ?_
              rotate_left
              · intro wx hSx
                (try dsimp only at hSx)
                go_split_ands
                go_simp
                (try with_reducible rfl)
              simp only [List.setIfInBounds_toArray, List.set_cons_zero, List.set_cons_succ]
              refine take_at 7 16 (fuel := 18) ?_ rfl rfl (by kernel_rfl) (by kernel_rfl) (by kernel_rfl) (Or.inl ⟨by rfl, ?_⟩) hSw ?_
              rotate_left
              · intro wx hSx
                (try dsimp only at hSx)
                go_split_ands
                go_simp
                (try with_reducible rfl)
              simp only [List.setIfInBounds_toArray, List.set_cons_zero, List.set_cons_succ]
              refine wpAnyH_ready (fuel := 17) (rs := [5]) (by kernel_rfl) (by simp) (AllReadyH.cons rfl (fun K hK => ?_) AllReadyH.nil)
              go_simp
              refine Calls.mono (f0 _ hSw.2.2.2.2) ?_
              rintro e wv ⟨rfl, hwv⟩
              refine hK.out _ _ (Wr.all hwv) (fun hSw => ?_)
              clear hK K
              simp only [List.setIfInBounds_toArray, List.set_cons_zero, List.set_cons_succ]
              refine take_at 8 17 (fuel := 16) ?_ rfl rfl (by kernel_rfl) (by kernel_rfl) (by kernel_rfl) (Or.inl ⟨by rfl, ?_⟩) hSw ?_
              rotate_left
              · intro wx hSx
                (try dsimp only at hSx)
                go_split_ands
                go_simp
                (try with_reducible rfl)
              simp only [List.setIfInBounds_toArray, List.set_cons_zero, List.set_cons_succ]
              refine take_at 9 18 (fuel := 15) ?_ rfl rfl (by kernel_rfl) (by kernel_rfl) (by kernel_rfl) (Or.inl ⟨by rfl, ?_⟩) hSw ?_
              rotate_left
              · intro wx hSx
                (try dsimp only at hSx)
                go_split_ands
                go_simp
                (try with_reducible rfl)
              simp only [List.setIfInBounds_toArray, List.set_cons_zero, List.set_cons_succ]
              refine take_at 10 19 (fuel := 14) ?_ rfl rfl (by kernel_rfl) (by kernel_rfl) (by kernel_rfl) (Or.inl ⟨by rfl, ?_⟩) hSw ?_
              rotate_left
              · intro wx hSx
                (try dsimp only at hSx)
                go_split_ands
                go_simp
                (try with_reducible rfl)
              simp only [List.setIfInBounds_toArray, List.set_cons_zero, List.set_cons_succ]
              refine take_at 11 20 (fuel := 13) ?_ rfl rfl (by kernel_rfl) (by kernel_rfl) (by kernel_rfl) (Or.inl ⟨by rfl, ?_⟩) hSw ?_
              rotate_left
              · intro wx hSx
                (try dsimp only at hSx)
                go_split_ands
                go_simp
                (try with_reducible rfl)
              simp only [List.setIfInBounds_toArray, List.set_cons_zero, List.set_cons_succ]
              refine take_at 12 21 (fuel := 12) ?_ rfl rfl (by kernel_rfl) (by kernel_rfl) (by kernel_rfl) (Or.inl ⟨by rfl, ?_⟩) hSw ?_
              rotate_left
              · intro wx hSx
                (try dsimp only at hSx)
                go_split_ands
                go_simp
                (try with_reducible rfl)
              simp only [List.setIfInBounds_toArray, List.set_cons_zero, List.set_cons_succ]
              refine take_at 14 23 (fuel := 11) ?_ rfl rfl (by kernel_rfl) (by kernel_rfl) (by kernel_rfl) (Or.inl ⟨by rfl, ?_⟩) hSw ?_
              rotate_left
              · intro wx hSx
                (try dsimp only at hSx)
                go_split_ands
                go_simp
                (try with_reducible rfl)
              simp only [List.setIfInBounds_toArray, List.set_cons_zero, List.set_cons_succ]
              refine take_at 15 24 (fuel := 10) ?_ rfl rfl (by kernel_rfl) (by kernel_rfl) (by kernel_rfl) (Or.inl ⟨by rfl, ?_⟩) hSw ?_
              rotate_left
              · intro wx hSx
                (try dsimp only at hSx)
                go_split_ands
                go_simp
                (try with_reducible rfl)
              simp only [List.setIfInBounds_toArray, List.set_cons_zero, List.set_cons_succ]
              refine wpAnyH_ready (fuel := 9) (rs := [13]) (by kernel_rfl) (by simp) (AllReadyH.cons rfl (fun K hK => ?_) AllReadyH.nil)
              go_simp
              refine Calls.mono (f0 _ hSw.2.2.2.2) ?_
              rintro e wv ⟨rfl, hwv⟩
              refine hK.out _ _ (Wr.all hwv) (fun hSw => ?_)
              clear hK K
              simp only [List.setIfInBounds_toArray, List.set_cons_zero, List.set_cons_succ]
              refine take_at 16 25 (fuel := 8) ?_ rfl rfl (by kernel_rfl) (by kernel_rfl) (by kernel_rfl) (Or.inl ⟨by rfl, ?_⟩) hSw ?_
              rotate_left
              · intro wx hSx
                (try dsimp only at hSx)
                go_split_ands
                go_simp
                (try with_reducible rfl)
              simp only [List.setIfInBounds_toArray, List.set_cons_zero, List.set_cons_succ]
              refine take_at 17 26 (fuel := 7) ?_ rfl rfl (by kernel_rfl) (by kernel_rfl) (by kernel_rfl) (Or.inl ⟨by rfl, ?_⟩) hSw ?_
              rotate_left
              · intro wx hSx
                (try dsimp only at hSx)
                go_split_ands
                go_simp
                (try with_reducible rfl)
              simp only [List.setIfInBounds_toArray, List.set_cons_zero, List.set_cons_succ]
              refine take_at 18 27 (fuel := 6) ?_ rfl rfl (by kernel_rfl) (by kernel_rfl) (by kernel_rfl) (Or.inl ⟨by rfl, ?_⟩) hSw ?_
              rotate_left
              · intro wx hSx
                (try dsimp only at hSx)
                go_split_ands
                go_simp
                (try with_reducible rfl)
              simp only [List.setIfInBounds_toArray, List.set_cons_zero, List.set_cons_succ]
              refine take_at 19 28 (fuel := 5) ?_ rfl rfl (by kernel_rfl) (by kernel_rfl) (by kernel_rfl) (Or.inl ⟨by rfl, ?_⟩) hSw ?_
              rotate_left
              · intro wx hSx
                (try dsimp only at hSx)
                go_split_ands
                go_simp
                (try with_reducible rfl)
              simp only [List.setIfInBounds_toArray, List.set_cons_zero, List.set_cons_succ]
              refine take_at 20 29 (fuel := 4) ?_ rfl rfl (by kernel_rfl) (by kernel_rfl) (by kernel_rfl) (Or.inl ⟨by rfl, ?_⟩) hSw ?_
              rotate_left
              · intro wx hSx
                (try dsimp only at hSx)
                go_split_ands
                go_simp
                (try with_reducible rfl)
              simp only [List.setIfInBounds_toArray, List.set_cons_zero, List.set_cons_succ]
              refine wpAnyH_ready (fuel := 3) (rs := [21]) (by kernel_rfl) (by simp) (AllReadyH.cons rfl (fun K hK => ?_) AllReadyH.nil)
              go_simp
              refine Calls.mono (f1 _ hSw.2.2.2.2) ?_
              rintro e wv ⟨rfl, hwv⟩
              refine hK.out _ _ (Wr.all hwv) (fun hSw => ?_)
              clear hK K
              simp only [List.setIfInBounds_toArray, List.set_cons_zero, List.set_cons_succ]
              refine take_at 22 31 (fuel := 2) ?_ rfl rfl (by kernel_rfl) (by kernel_rfl) (by kernel_rfl) (Or.inl ⟨by rfl, ?_⟩) hSw ?_
              rotate_left
              · intro wx hSx
                (try dsimp only at hSx)
                go_split_ands
                go_simp
                (try with_reducible rfl)
              simp only [List.setIfInBounds_toArray, List.set_cons_zero, List.set_cons_succ]
              refine take_at 23 32 (fuel := 1) ?_ rfl rfl (by kernel_rfl) (by kernel_rfl) (by kernel_rfl) (Or.inl ⟨by rfl, ?_⟩) hSw ?_
              rotate_left
              · intro wx hSx
                (try dsimp only at hSx)
                go_split_ands
                go_simp
                (try with_reducible rfl)
              simp only [List.setIfInBounds_toArray, List.set_cons_zero, List.set_cons_succ]
              refine take_at 24 33 (fuel := 0) ?_ rfl rfl (by kernel_rfl) (by kernel_rfl) (by kernel_rfl) (Or.inl ⟨by rfl, ?_⟩) hSw ?_
              rotate_left
              · intro wx hSx
                (try dsimp only at hSx)
                go_split_ands
                go_simp
                (try with_reducible rfl)
              simp only [List.setIfInBounds_toArray, List.set_cons_zero, List.set_cons_succ]
              refine wpAnyH_done (by kernel_rfl) ⟨rfl, ?_⟩ 0
              have hZ := hSw.2.2.2.2
              clear hSw
              go_wp2_with fail
              go_meet
              exact ⟨by rw [ho], hZ⟩
    · have d0 : decide ((0 : Int) < (v.len 0 : Int)) = false := decide_eq_false (by omega)
      have ho : v.once b = false := by simp [Av.once, n0]
      refine region_only 25 #[false, false, false, false, false, false, false, false, false, false, false, false, false, false, false, false, false, false, false, false, false, false, false, false, false] (S := (fun W => W.cell? ⟨w.heap.size, 0, none⟩ = some (.int .i64 (v.most : Int)) ∧ W.cell? ⟨w.heap.size, 1, none⟩ = some (.int .i64 (v.tgt : Int)) ∧ W.cell? ⟨w.heap.size, 2, none⟩ = some (.slice (some ⟨G, 0, none⟩) 4 4) ∧ W.cell? ⟨w.heap.size, 3, none⟩ = some (.int .i64 (v.pl : Int)) ∧ Wr w G vs v G vs W)) rfl rfl (by kernel_rfl) (Wr.all (h2.drewN 1)) (fun hSw => ?_)
      refine take_at 0 9 (fuel := 24) ?_ rfl rfl (by kernel_rfl) (by kernel_rfl) (by kernel_rfl) (Or.inl ⟨by rfl, ?_⟩) hSw ?_
      rotate_left
      · intro wx hSx
        (try dsimp only at hSx)
        go_split_ands
        go_simp
        (try with_reducible rfl)
      simp only [List.setIfInBounds_toArray, List.set_cons_zero, List.set_cons_succ]
      refine wpAnyH_ready (fuel := 23) (rs := [1]) (by kernel_rfl) (by simp) (AllReadyH.cons rfl (fun K hK => ?_) AllReadyH.nil)
      go_simp
      refine Calls.mono (f0 _ hSw.2.2.2.2) ?_
      rintro e wv ⟨rfl, hwv⟩
      refine hK.out _ _ (Wr.all hwv) (fun hSw => ?_)
      clear hK K
      simp only [List.setIfInBounds_toArray, List.set_cons_zero, List.set_cons_succ]
      refine take_at 2 11 (fuel := 22) ?_ rfl rfl (by kernel_rfl) (by kernel_rfl) (by kernel_rfl) (Or.inl ⟨by rfl, ?_⟩) hSw ?_
      rotate_left
      · intro wx hSx
        (try dsimp only at hSx)
        go_split_ands
        go_simp
        (try with_reducible rfl)
      simp only [List.setIfInBounds_toArray, List.set_cons_zero, List.set_cons_succ]
      refine take_at 3 12 (fuel := 21) ?_ rfl rfl (by kernel_rfl) (by kernel_rfl) (by kernel_rfl) (Or.inl ⟨by rfl, ?_⟩) hSw ?_
      rotate_left
      · intro wx hSx
        (try dsimp only at hSx)
        go_split_ands
        go_simp
        (try with_reducible rfl)
      simp only [List.setIfInBounds_toArray, List.set_cons_zero, List.set_cons_succ]
      refine take_at 4 13 undef (fuel := 20) rfl rfl (by kernel_rfl) (by kernel_rfl) (by kernel_rfl) (Or.inr ⟨by rfl, rfl⟩) hSw ?_
      simp only [List.setIfInBounds_toArray, List.set_cons_zero, List.set_cons_succ]
      refine take_at 5 14 undef (fuel := 19) rfl rfl (by kernel_rfl) (by kernel_rfl) (by kernel_rfl) (Or.inr ⟨by rfl, rfl⟩) hSw ?_
      simp only [List.setIfInBounds_toArray, List.set_cons_zero, List.set_cons_succ]
      refine take_at 6 15 undef (fuel := 18) rfl rfl (by kernel_rfl) (by kernel_rfl) (by kernel_rfl) (Or.inr ⟨by rfl, rfl⟩) hSw ?_
      simp only [List.setIfInBounds_toArray, List.set_cons_zero, List.set_cons_succ]
      refine take_at 7 16 undef (fuel := 17) rfl rfl (by kernel_rfl) (by kernel_rfl) (by kernel_rfl) (Or.inr ⟨by rfl, rfl⟩) hSw ?_
      simp only [List.setIfInBounds_toArray, List.set_cons_zero, List.set_cons_succ]
      refine take_at 8 17 undef (fuel := 16) rfl rfl (by kernel_rfl) (by kernel_rfl) (by kernel_rfl) (Or.inr ⟨by rfl, rfl⟩) hSw ?_
      simp only [List.setIfInBounds_toArray, List.set_cons_zero, List.set_cons_succ]
      refine take_at 9 18 undef (fuel := 15) rfl rfl (by kernel_rfl) (by kernel_rfl) (by kernel_rfl) (Or.inr ⟨by rfl, rfl⟩) hSw ?_
      simp only [List.setIfInBounds_toArray, List.set_cons_zero, List.set_cons_succ]
      refine take_at 10 19 undef (fuel := 14) rfl rfl (by kernel_rfl) (by kernel_rfl) (by kernel_rfl) (Or.inr ⟨by rfl, rfl⟩) hSw ?_
      simp only [List.setIfInBounds_toArray, List.set_cons_zero, List.set_cons_succ]
      refine take_at 11 20 undef (fuel := 13) rfl rfl (by kernel_rfl) (by kernel_rfl) (by kernel_rfl) (Or.inr ⟨by rfl, rfl⟩) hSw ?_
      simp only [List.setIfInBounds_toArray, List.set_cons_zero, List.set_cons_succ]
      refine take_at 12 21 undef (fuel := 12) rfl rfl (by kernel_rfl) (by kernel_rfl) (by kernel_rfl) (Or.inr ⟨by rfl, rfl⟩) hSw ?_
      simp only [List.setIfInBounds_toArray, List.set_cons_zero, List.set_cons_succ]
      refine take_at 13 22 undef (fuel := 11) rfl rfl (by kernel_rfl) (by kernel_rfl) (by kernel_rfl) (Or.inr ⟨by rfl, rfl⟩) hSw ?_
      simp only [List.setIfInBounds_toArray, List.set_cons_zero, List.set_cons_succ]
      refine take_at 14 23 undef (fuel := 10) rfl rfl (by kernel_rfl) (by kernel_rfl) (by kernel_rfl) (Or.inr ⟨by rfl, rfl⟩) hSw ?_
      simp only [List.setIfInBounds_toArray, List.set_cons_zero, List.set_cons_succ]
      refine take_at 15 24 undef (fuel := 9) rfl rfl (by kernel_rfl) (by kernel_rfl) (by kernel_rfl) (Or.inr ⟨by rfl, rfl⟩) hSw ?_
      simp only [List.setIfInBounds_toArray, List.set_cons_zero, List.set_cons_succ]
      refine take_at 16 25 undef (fuel := 8) rfl rfl (by kernel_rfl) (by kernel_rfl) (by kernel_rfl) (Or.inr ⟨by rfl, rfl⟩) hSw ?_
      simp only [List.setIfInBounds_toArray, List.set_cons_zero, List.set_cons_succ]
      refine take_at 17 26 undef (fuel := 7) rfl rfl (by kernel_rfl) (by kernel_rfl) (by kernel_rfl) (Or.inr ⟨by rfl, rfl⟩) hSw ?_
      simp only [List.setIfInBounds_toArray, List.set_cons_zero, List.set_cons_succ]
      refine take_at 18 27 undef (fuel := 6) rfl rfl (by kernel_rfl) (by kernel_rfl) (by kernel_rfl) (Or.inr ⟨by rfl, rfl⟩) hSw ?_
      simp only [List.setIfInBounds_toArray, List.set_cons_zero, List.set_cons_succ]
      refine take_at 19 28 undef (fuel := 5) rfl rfl (by kernel_rfl) (by kernel_rfl) (by kernel_rfl) (Or.inr ⟨by rfl, rfl⟩) hSw ?_
      simp only [List.setIfInBounds_toArray, List.set_cons_zero, List.set_cons_succ]
      refine take_at 20 29 undef (fuel := 4) rfl rfl (by kernel_rfl) (by kernel_rfl) (by kernel_rfl) (Or.inr ⟨by rfl, rfl⟩) hSw ?_
      simp only [List.setIfInBounds_toArray, List.set_cons_zero, List.set_cons_succ]
      refine take_at 21 30 undef (fuel := 3) rfl rfl (by kernel_rfl) (by kernel_rfl) (by kernel_rfl) (Or.inr ⟨by rfl, rfl⟩) hSw ?_
      simp only [List.setIfInBounds_toArray, List.set_cons_zero, List.set_cons_succ]
      refine take_at 22 31 undef (fuel := 2) rfl rfl (by kernel_rfl) (by kernel_rfl) (by kernel_rfl) (Or.inr ⟨by rfl, rfl⟩) hSw ?_
      simp only [List.setIfInBounds_toArray, List.set_cons_zero, List.set_cons_succ]
      refine take_at 23 32 undef (fuel := 1) rfl rfl (by kernel_rfl) (by kernel_rfl) (by kernel_rfl) (Or.inr ⟨by rfl, rfl⟩) hSw ?_
      simp only [List.setIfInBounds_toArray, List.set_cons_zero, List.set_cons_succ]
      refine take_at 24 33 (fuel := 0) ?_ rfl rfl (by kernel_rfl) (by kernel_rfl) (by kernel_rfl) (Or.inl ⟨by rfl, ?_⟩) hSw ?_
      rotate_left
      · intro wx hSx
        (try dsimp only at hSx)
        go_split_ands
        go_simp
        (try with_reducible rfl)
      simp only [List.setIfInBounds_toArray, List.set_cons_zero, List.set_cons_succ]
      refine wpAnyH_done (by kernel_rfl) ⟨rfl, ?_⟩ 0
      have hZ := hSw.2.2.2.2
      clear hSw
      go_wp2_with fail
      go_meet
      exact ⟨by rw [ho], hZ⟩
  case rest =>
    obtain ⟨rfl, h3⟩ := hcut
    clear f0 f1 h2
    obtain ⟨x0, x1, x2, x3, -⟩ := h3.cells
    cases ho : v.once b with
    | true =>
      have hs : v.src b = 0 := by unfold Av.src; rw [if_pos ho]
      have hbk := ring_backA (a := 0) (i := 0) rfl (by omega) hok wc h3.go.rf
      cases el : v.last 0 with
      | none =>
        rw [el] at hbk
        simp only [Option.getD_none, Option.isSome_none] at hbk
        have hrp : v.repl b = v := by unfold Av.repl; rw [hs, el]
        go_wp2_with fail
        refine hbk.mono ?_
        rintro e w4 ⟨rfl, hb4⟩
        have h4 := h3.onto hb4
        clear x0 x1 x2 x3 h3 hbk hb4
        obtain ⟨x0, x1, x2, x3, -⟩ := h4.cells
        obtain ⟨z0, z1, z2, z3, z4, z5, z6, z7⟩ := h4.zero
        obtain ⟨hG, p0, p1, p2, p3⟩ := (show Goes w G vs v G vs (putA w w4 v.most v.tgt G v.pl) ∧ (putA w w4 v.most v.tgt G v.pl).cell? ⟨w.heap.size + 1, 0, none⟩ = some (.int .i64 (v.most : Int)) ∧ (putA w w4 v.most v.tgt G v.pl).cell? ⟨w.heap.size + 1, 1, none⟩ = some (.int .i64 (v.tgt : Int)) ∧ (putA w w4 v.most v.tgt G v.pl).cell? ⟨w.heap.size + 1, 2, none⟩ = some (.slice (some ⟨G, 0, none⟩) 4 4) ∧ (putA w w4 v.most v.tgt G v.pl).cell? ⟨w.heap.size + 1, 3, none⟩ = some (.int .i64 (v.pl : Int)) from h4.done hok)
        unfold putA at hG p0 p1 p2 p3
        have HG := Lib.hid hG
        have HP0 := Lib.hid p0
        have HP1 := Lib.hid p1
        have HP2 := Lib.hid p2
        have HP3 := Lib.hid p3
        clear hG p0 p1 p2 p3
        go_wp2_with fail
        have p0 := HP0.out
        have p1 := HP1.out
        have p2 := HP2.out
        have p3 := HP3.out
        have hG := HG.out
        clear HP0 HP1 HP2 HP3 HG
        generalize ((((w4.setCell ⟨w.heap.size + 1, 0, none⟩ (.int .i64 (v.most : Int))).setCell ⟨w.heap.size + 1, 1, none⟩ (.int .i64 (v.tgt : Int))).setCell ⟨w.heap.size + 1, 2, none⟩ (.slice (some ⟨G, 0, none⟩) 4 4)).setCell ⟨w.heap.size + 1, 3, none⟩ (.int .i64 (v.pl : Int))) = w9 at *
        (try simp only [Exit.inBlock, Exit.then])
        refine bodyPost_ret (v := .tuple #[.agg #[.int .i64 (v.most : Int), .int .i64 (v.tgt : Int), .slice (some ⟨G, 0, none⟩) 4 4, .int .i64 (v.pl : Int)], .slice none 0 0]) (by simp [results, Try.results91, go_sem, p0, p1, p2, p3]) rfl ?_
        exact ⟨G, vs, .slice none 0 0, rfl, by rw [hrp]; exact hG, by rw [hs, el]; exact World.ownsRow_nil _ _ _ _⟩
      | some k =>
        rw [el] at hbk
        simp only [Option.getD_some, Option.isSome_some] at hbk
        have hrp : v.repl b = v.fr 2 k := by unfold Av.repl; rw [hs, el]
        have hm := Av.last_mem el
        have hv : (v.fr 2 k).Ok := (Av.move_went hok (by omega) hm).ok
        have hfc := fun W (h : Dat W v G vs) => rfront_a (a := 2) (j := 2) rfl (by omega) (hok.klen (by omega) hm) hf hv W h
        go_wp2_with fail
        refine hbk.mono ?_
        rintro e w4 ⟨rfl, hb4⟩
        have h4 := h3.onto hb4
        clear x0 x1 x2 x3 h3 hbk hb4
        obtain ⟨x0, x1, x2, x3, -⟩ := h4.cells
        go_wp2_with fail
        refine (hfc _ h4.go.rf).mono ?_
        rintro e w5 ⟨G', vs', rfl, hg⟩
        have hg6 := hg.onto ((Below.refl _ w5).alloc (Nat.le_refl _) (.cells #[.string (str k)] 9))
        have h6 := h4.onto hg6.below
        have hrow := row_put (w := w) (m := v.most) (t := v.tgt) (G := G') (p := v.pl) (row_lit (B := w.heap.size + 2) w5 (by have := h4.res.lt; have := hg.below.size; omega) k) (Nat.le_refl _)
        unfold putA at hrow
        have HROW := Lib.hid hrow
        have hR := h4.fin (v' := v.fr 2 k) hv hg6
        clear x0 x1 x2 x3 hfc hg hrow hg6 h4
        obtain ⟨z0, z1, z2, z3, z4, z5, z6, z7⟩ := h6.zero
        clear h6
        obtain ⟨hG, p0, p1, p2, p3⟩ := (show Goes w G vs (v.fr 2 k) G' vs' (putA w (w5.alloc (.cells #[.string (str k)] 9)) v.most v.tgt G' v.pl) ∧ (putA w (w5.alloc (.cells #[.string (str k)] 9)) v.most v.tgt G' v.pl).cell? ⟨w.heap.size + 1, 0, none⟩ = some (.int .i64 (v.most : Int)) ∧ (putA w (w5.alloc (.cells #[.string (str k)] 9)) v.most v.tgt G' v.pl).cell? ⟨w.heap.size + 1, 1, none⟩ = some (.int .i64 (v.tgt : Int)) ∧ (putA w (w5.alloc (.cells #[.string (str k)] 9)) v.most v.tgt G' v.pl).cell? ⟨w.heap.size + 1, 2, none⟩ = some (.slice (some ⟨G', 0, none⟩) 4 4) ∧ (putA w (w5.alloc (.cells #[.string (str k)] 9)) v.most v.tgt G' v.pl).cell? ⟨w.heap.size + 1, 3, none⟩ = some (.int .i64 (v.pl : Int)) from hR)
        unfold putA at hG p0 p1 p2 p3
        have HG := Lib.hid hG
        have HP0 := Lib.hid p0
        have HP1 := Lib.hid p1
        have HP2 := Lib.hid p2
        have HP3 := Lib.hid p3
        clear hG p0 p1 p2 p3
        go_wp2_with fail
        have p0 := HP0.out
        have p1 := HP1.out
        have p2 := HP2.out
        have p3 := HP3.out
        have hG := HG.out
        clear HP0 HP1 HP2 HP3 HG
        generalize (((((w5.alloc (.cells #[.string (str k)] 9)).setCell ⟨w.heap.size + 1, 0, none⟩ (.int .i64 (v.most : Int))).setCell ⟨w.heap.size + 1, 1, none⟩ (.int .i64 (v.tgt : Int))).setCell ⟨w.heap.size + 1, 2, none⟩ (.slice (some ⟨G', 0, none⟩) 4 4)).setCell ⟨w.heap.size + 1, 3, none⟩ (.int .i64 (v.pl : Int))) = w9 at *
        (try simp only [Exit.inBlock, Exit.then])
        refine bodyPost_ret (v := .tuple #[.agg #[.int .i64 (v.most : Int), .int .i64 (v.tgt : Int), .slice (some ⟨G', 0, none⟩) 4 4, .int .i64 (v.pl : Int)], .slice (some ⟨w5.heap.size, 0, none⟩) 1 1]) (by simp [results, Try.results91, go_sem, p0, p1, p2, p3]) rfl ?_
        exact ⟨G', vs', _, rfl, by rw [hrp]; exact hG, by rw [hs, el]; exact Ringy.own_mono HROW.out (by omega)⟩
    | false =>
      have hs : v.src b = 1 := by unfold Av.src; rw [if_neg (by rw [ho]; decide)]
      have hbk := ring_backA (a := 1) (i := 1) rfl (by omega) hok wc h3.go.rf
      cases el : v.last 1 with
      | none =>
        rw [el] at hbk
        simp only [Option.getD_none, Option.isSome_none] at hbk
        have hrp : v.repl b = v := by unfold Av.repl; rw [hs, el]
        go_wp2_with fail
        refine hbk.mono ?_
        rintro e w4 ⟨rfl, hb4⟩
        have h4 := h3.onto hb4
        clear x0 x1 x2 x3 h3 hbk hb4
        obtain ⟨x0, x1, x2, x3, -⟩ := h4.cells
        obtain ⟨z0, z1, z2, z3, z4, z5, z6, z7⟩ := h4.zero
        obtain ⟨hG, p0, p1, p2, p3⟩ := (show Goes w G vs v G vs (putA w w4 v.most v.tgt G v.pl) ∧ (putA w w4 v.most v.tgt G v.pl).cell? ⟨w.heap.size + 1, 0, none⟩ = some (.int .i64 (v.most : Int)) ∧ (putA w w4 v.most v.tgt G v.pl).cell? ⟨w.heap.size + 1, 1, none⟩ = some (.int .i64 (v.tgt : Int)) ∧ (putA w w4 v.most v.tgt G v.pl).cell? ⟨w.heap.size + 1, 2, none⟩ = some (.slice (some ⟨G, 0, none⟩) 4 4) ∧ (putA w w4 v.most v.tgt G v.pl).cell? ⟨w.heap.size + 1, 3, none⟩ = some (.int .i64 (v.pl : Int)) from h4.done hok)
        unfold putA at hG p0 p1 p2 p3
        have HG := Lib.hid hG
        have HP0 := Lib.hid p0
        have HP1 := Lib.hid p1
        have HP2 := Lib.hid p2
        have HP3 := Lib.hid p3
        clear hG p0 p1 p2 p3
        go_wp2_with fail
        have p0 := HP0.out
        have p1 := HP1.out
        have p2 := HP2.out
        have p3 := HP3.out
        have hG := HG.out
        clear HP0 HP1 HP2 HP3 HG
        generalize ((((w4.setCell ⟨w.heap.size + 1, 0, none⟩ (.int .i64 (v.most : Int))).setCell ⟨w.heap.size + 1, 1, none⟩ (.int .i64 (v.tgt : Int))).setCell ⟨w.heap.size + 1, 2, none⟩ (.slice (some ⟨G, 0, none⟩) 4 4)).setCell ⟨w.heap.size + 1, 3, none⟩ (.int .i64 (v.pl : Int))) = w9 at *
        (try simp only [Exit.inBlock, Exit.then])
        refine bodyPost_ret (v := .tuple #[.agg #[.int .i64 (v.most : Int), .int .i64 (v.tgt : Int), .slice (some ⟨G, 0, none⟩) 4 4, .int .i64 (v.pl : Int)], .slice none 0 0]) (by simp [results, Try.results91, go_sem, p0, p1, p2, p3]) rfl ?_
        exact ⟨G, vs, .slice none 0 0, rfl, by rw [hrp]; exact hG, by rw [hs, el]; exact World.ownsRow_nil _ _ _ _⟩
      | some k =>
        rw [el] at hbk
        simp only [Option.getD_some, Option.isSome_some] at hbk
        have hrp : v.repl b = v.fr 3 k := by unfold Av.repl; rw [hs, el]
        have hm := Av.last_mem el
        have hv : (v.fr 3 k).Ok := (Av.move_went hok (by omega) hm).ok
        have hfc := fun W (h : Dat W v G vs) => rfront_a (a := 3) (j := 3) rfl (by omega) (hok.klen (by omega) hm) hf hv W h
        go_wp2_with fail
        refine hbk.mono ?_
        rintro e w4 ⟨rfl, hb4⟩
        have h4 := h3.onto hb4
        clear x0 x1 x2 x3 h3 hbk hb4
        obtain ⟨x0, x1, x2, x3, -⟩ := h4.cells
        go_wp2_with fail
        refine (hfc _ h4.go.rf).mono ?_
        rintro e w5 ⟨G', vs', rfl, hg⟩
        have hg6 := hg.onto ((Below.refl _ w5).alloc (Nat.le_refl _) (.cells #[.string (str k)] 9))
        have h6 := h4.onto hg6.below
        have hrow := row_put (w := w) (m := v.most) (t := v.tgt) (G := G') (p := v.pl) (row_lit (B := w.heap.size + 2) w5 (by have := h4.res.lt; have := hg.below.size; omega) k) (Nat.le_refl _)
        unfold putA at hrow
        have HROW := Lib.hid hrow
        have hR := h4.fin (v' := v.fr 3 k) hv hg6
        clear x0 x1 x2 x3 hfc hg hrow hg6 h4
        obtain ⟨z0, z1, z2, z3, z4, z5, z6, z7⟩ := h6.zero
        clear h6
        obtain ⟨hG, p0, p1, p2, p3⟩ := (show Goes w G vs (v.fr 3 k) G' vs' (putA w (w5.alloc (.cells #[.string (str k)] 9)) v.most v.tgt G' v.pl) ∧ (putA w (w5.alloc (.cells #[.string (str k)] 9)) v.most v.tgt G' v.pl).cell? ⟨w.heap.size + 1, 0, none⟩ = some (.int .i64 (v.most : Int)) ∧ (putA w (w5.alloc (.cells #[.string (str k)] 9)) v.most v.tgt G' v.pl).cell? ⟨w.heap.size + 1, 1, none⟩ = some (.int .i64 (v.tgt : Int)) ∧ (putA w (w5.alloc (.cells #[.string (str k)] 9)) v.most v.tgt G' v.pl).cell? ⟨w.heap.size + 1, 2, none⟩ = some (.slice (some ⟨G', 0, none⟩) 4 4) ∧ (putA w (w5.alloc (.cells #[.string (str k)] 9)) v.most v.tgt G' v.pl).cell? ⟨w.heap.size + 1, 3, none⟩ = some (.int .i64 (v.pl : Int)) from hR)
        unfold putA at hG p0 p1 p2 p3
        have HG := Lib.hid hG
        have HP0 := Lib.hid p0
        have HP1 := Lib.hid p1
        have HP2 := Lib.hid p2
        have HP3 := Lib.hid p3
        clear hG p0 p1 p2 p3
        go_wp2_with fail
        have p0 := HP0.out
        have p1 := HP1.out
        have p2 := HP2.out
        have p3 := HP3.out
        have hG := HG.out
        clear HP0 HP1 HP2 HP3 HG
        generalize (((((w5.alloc (.cells #[.string (str k)] 9)).setCell ⟨w.heap.size + 1, 0, none⟩ (.int .i64 (v.most : Int))).setCell ⟨w.heap.size + 1, 1, none⟩ (.int .i64 (v.tgt : Int))).setCell ⟨w.heap.size + 1, 2, none⟩ (.slice (some ⟨G', 0, none⟩) 4 4)).setCell ⟨w.heap.size + 1, 3, none⟩ (.int .i64 (v.pl : Int))) = w9 at *
        (try simp only [Exit.inBlock, Exit.then])
        refine bodyPost_ret (v := .tuple #[.agg #[.int .i64 (v.most : Int), .int .i64 (v.tgt : Int), .slice (some ⟨G', 0, none⟩) 4 4, .int .i64 (v.pl : Int)], .slice (some ⟨w5.heap.size, 0, none⟩) 1 1]) (by simp [results, Try.results91, go_sem, p0, p1, p2, p3]) rfl ?_
        exact ⟨G', vs', _, rfl, by rw [hrp]; exact hG, by rw [hs, el]; exact Ringy.own_mono HROW.out (by omega)⟩
end
end Go.Proofs.Ytfhlnidjneaieaa.Arcy

namespace Go.Proofs.Ytfhlnidjneaieaa.Arcy
open Go.ChangeShapes Go.WideShapes Go.ChangeAt Go.RowKit Go.Shelf
open Wirey (Blk Row str str_size str_list Kp)
open Ringy Go.ChangeMaps Go.Maps

section
variable {w x y : World} {v v' v'' : Av} {G G' G'' : Nat} {vs vs' vs'' : Nat → Value} {k : Key}
theorem Av.Fine.fr {j : Nat} (h : v.Fine) (hj : j < 4) (hv : (v.fr j k).Ok) : (v.fr j k).Fine := ⟨hv, fun i hi => by
  show (if i = j then k :: strike k (v.rg.l i) else strike k (v.rg.l i)) = []
  rw [if_neg (by omega), h.out i hi]
  rfl⟩
theorem Av.Fine.dr (h : v.Fine) (k : Key) : (v.dr k).Fine := ⟨h.ok.dr k, fun i hi => by
  show strike k (v.rg.l i) = []
  rw [h.out i hi]
  rfl⟩
theorem Av.Fine.forget (h : v.Fine) (i : Nat) : (v.forget i).Fine := by
  unfold Av.forget
  split
  · exact h
  · exact h.dr _
theorem Av.Fine.repl (h : v.Fine) (b : Bool) : (v.repl b).Fine := by
  unfold Av.repl
  split
  · exact h
  · next k e =>
    have hs : v.src b < 2 := by rcases Av.src_cases v b with e | e <;> omega
    exact h.fr (by omega) (Av.move_went h.ok hs (Av.last_mem e)).ok
theorem Av.Fine.up (h : v.Fine) : v.up.Fine := ⟨h.ok.up, h.out⟩
theorem Av.Fine.down (h : v.Fine) : v.down.Fine := ⟨h.ok.down, h.out⟩
theorem Av.forget_num (v : Av) (i : Nat) : (v.forget i).most = v.most ∧ (v.forget i).tgt = v.tgt := by unfold Av.forget; split <;> exact ⟨rfl, rfl⟩
theorem Av.repl_num (v : Av) (b : Bool) : (v.repl b).most = v.most ∧ (v.repl b).tgt = v.tgt := by unfold Av.repl; split <;> exact ⟨rfl, rfl⟩
theorem wr_has (hok : v'.Ok) (h : Wr w G vs v' G' vs' x) :
    Calls Try.prog 40 #[.agg #[.int .i64 (v'.most : Int), .int .i64 (v'.tgt : Int), .slice (some ⟨G', 0, none⟩) 4 4, .int .i64 (v'.pl : Int)], .string (str k)] x fun e y => e = .returned (.bool (v'.has k)) ∧ Wr w G vs v' G' vs' y := by
  refine (rhas_c hok x h.go.rf).mono ?_
  rintro e y ⟨rfl, hb⟩
  exact ⟨rfl, h.onto hb⟩
theorem wr_kept (hok : v'.Ok) (h : Wr w G vs v' G' vs' x) :
    Calls Try.prog 74 #[.agg #[.int .i64 (v'.most : Int), .int .i64 (v'.tgt : Int), .slice (some ⟨G', 0, none⟩) 4 4, .int .i64 (v'.pl : Int)]] x fun e y => e = .returned (.int .i64 (v'.kept : Int)) ∧ Wr w G vs v' G' vs' y := by
  refine (rkept_c hok x h.go.rf).mono ?_
  rintro e y ⟨rfl, hb⟩
  exact ⟨rfl, h.onto hb⟩
theorem wr_in (hok : v'.Ok) (h : Wr w G vs v' G' vs' x) :
    Calls Try.prog 18 #[.agg #[.slice (some ⟨G', 0, none⟩) 4 4, .int .i64 (v'.pl : Int)], .string (str k)] x fun e y => e = .returned (.tuple #[.int .i64 (((v'.at_ k).getD 0 : Nat) : Int), .bool (v'.at_ k).isSome]) ∧ Wr w G vs v' G' vs' y := by
  have hc := rin_c k (by rw [hok.n]; decide) hok.lens x h.go.rf
  rw [hok.val, (ix_eq hok k).1, (ix_eq hok k).2] at hc
  refine hc.mono ?_
  rintro e y ⟨rfl, hb⟩
  exact ⟨rfl, h.onto hb⟩
/-- What inserting hands back. -/
def InsP (w : World) (G : Nat) (vs : Nat → Value) (v' : Av) (L : List Key) (e : Ending) (w' : World) : Prop :=
  ∃ G' vs' val, e = .returned (.tuple #[.agg #[.int .i64 (v'.most : Int), .int .i64 (v'.tgt : Int), .slice (some ⟨G', 0, none⟩) 4 4, .int .i64 (v'.pl : Int)], val]) ∧ Goes w G vs v' G' vs' w' ∧ w'.ownsRow w.heap.size 9 1 val L.length (strsV L)
set_option maxHeartbeats 2000000 in
set_option maxRecDepth 100000 in
theorem rins_long (hk : 64 < k.length) (hl : k.length ≤ maxLen) (hok : v.Ok) (w : World) (h : Dat w v G vs) :
    Calls Try.prog 72 #[.agg #[.int .i64 (v.most : Int), .int .i64 (v.tgt : Int), .slice (some ⟨G, 0, none⟩) 4 4, .int .i64 (v.pl : Int)], .string (str k)] w (InsP w G vs v []) := by
  have hsz := str_size k
  unfold maxLen at hl
  have h2 := Wr.new hok h
  have d1 : (64 : Int) < (k.length : Int) := by omega
  go_enter Try.func72, Try.ntmps72
  go_upto_region 1 with (fail)
  generalize (w.alloc (.cells #[.int .i64 (v.most : Int), .int .i64 (v.tgt : Int), .slice (some ⟨G, 0, none⟩) 4 4, .int .i64 (v.pl : Int)] 63)).alloc (.cells #[.int .i64 0, .int .i64 0, .slice none 0 0, .int .i64 0] 63) = w2 at *
  obtain ⟨x0, x1, x2, x3, -⟩ := h2.cells
  obtain ⟨z0, z1, z2, z3, z4, z5, z6, z7⟩ := h2.zero
  obtain ⟨hG, p0, p1, p2, p3⟩ := (show Goes w G vs v G vs (putA w w2 v.most v.tgt G v.pl) ∧ (putA w w2 v.most v.tgt G v.pl).cell? ⟨w.heap.size + 1, 0, none⟩ = some (.int .i64 (v.most : Int)) ∧ (putA w w2 v.most v.tgt G v.pl).cell? ⟨w.heap.size + 1, 1, none⟩ = some (.int .i64 (v.tgt : Int)) ∧ (putA w w2 v.most v.tgt G v.pl).cell? ⟨w.heap.size + 1, 2, none⟩ = some (.slice (some ⟨G, 0, none⟩) 4 4) ∧ (putA w w2 v.most v.tgt G v.pl).cell? ⟨w.heap.size + 1, 3, none⟩ = some (.int .i64 (v.pl : Int)) from h2.done hok)
  unfold putA at hG p0 p1 p2 p3
  have HG := Lib.hid hG
  have HP0 := Lib.hid p0
  have HP1 := Lib.hid p1
  have HP2 := Lib.hid p2
  have HP3 := Lib.hid p3
  clear hG p0 p1 p2 p3
  go_wp2_with fail
  have p0 := HP0.out
  have p1 := HP1.out
  have p2 := HP2.out
  have p3 := HP3.out
  have hG := HG.out
  clear HP0 HP1 HP2 HP3 HG
  generalize ((((w2.setCell ⟨w.heap.size + 1, 0, none⟩ (.int .i64 (v.most : Int))).setCell ⟨w.heap.size + 1, 1, none⟩ (.int .i64 (v.tgt : Int))).setCell ⟨w.heap.size + 1, 2, none⟩ (.slice (some ⟨G, 0, none⟩) 4 4)).setCell ⟨w.heap.size + 1, 3, none⟩ (.int .i64 (v.pl : Int))) = w9 at *
  (try simp only [Exit.inBlock, Exit.then])
  refine bodyPost_ret (v := .tuple #[.agg #[.int .i64 (v.most : Int), .int .i64 (v.tgt : Int), .slice (some ⟨G, 0, none⟩) 4 4, .int .i64 (v.pl : Int)], .slice none 0 0]) (by simp [results, Try.results72, go_sem, p0, p1, p2, p3]) rfl ?_
  exact ⟨G, vs, _, rfl, hG, World.ownsRow_nil _ _ _ _⟩
set_option maxHeartbeats 2000000 in
set_option maxRecDepth 100000 in
theorem rins_known (hk : k.length ≤ 64) (hh : v.has k = true) (hf : v.Fine) (hv : (v.fr 1 k).Ok) (w : World) (h : Dat w v G vs) :
    Calls Try.prog 72 #[.agg #[.int .i64 (v.most : Int), .int .i64 (v.tgt : Int), .slice (some ⟨G, 0, none⟩) 4 4, .int .i64 (v.pl : Int)], .string (str k)] w (InsP w G vs (v.fr 1 k) []) := by
  have hsz := str_size k
  have hok := hf.ok
  have h2 := Wr.new hok h
  have d1 : ¬ (64 : Int) < (k.length : Int) := by omega
  have fh := fun W (h : Wr w G vs v G vs W) => wr_has (k := k) hok h
  rw [hh] at fh
  have hfc := fun W (h : Dat W v G vs) => rfront_a (a := 1) (j := 1) rfl (by omega) hk hf hv W h
  clear hh
  go_enter Try.func72, Try.ntmps72
  go_upto_region 1 with (fail)
  generalize (w.alloc (.cells #[.int .i64 (v.most : Int), .int .i64 (v.tgt : Int), .slice (some ⟨G, 0, none⟩) 4 4, .int .i64 (v.pl : Int)] 63)).alloc (.cells #[.int .i64 0, .int .i64 0, .slice none 0 0, .int .i64 0] 63) = w2 at *
  obtain ⟨x0, x1, x2, x3, -⟩ := h2.cells
  go_wp2_with fail
  refine (fh _ h2).mono ?_
  rintro e w3 ⟨rfl, h3⟩
  clear x0 x1 x2 x3
  obtain ⟨x0, x1, x2, x3, -⟩ := h3.cells
  go_wp2_with fail
  refine (hfc _ h3.go.rf).mono ?_
  rintro e w4 ⟨G', vs', rfl, hg⟩
  have h4 := h3.onto hg.below
  have hR := h3.fin (v' := v.fr 1 k) hv hg
  clear x0 x1 x2 x3 h2 h3 hg fh hfc
  obtain ⟨z0, z1, z2, z3, z4, z5, z6, z7⟩ := h4.zero
  clear h4
  obtain ⟨hG, p0, p1, p2, p3⟩ := (show Goes w G vs (v.fr 1 k) G' vs' (putA w w4 v.most v.tgt G' v.pl) ∧ (putA w w4 v.most v.tgt G' v.pl).cell? ⟨w.heap.size + 1, 0, none⟩ = some (.int .i64 (v.most : Int)) ∧ (putA w w4 v.most v.tgt G' v.pl).cell? ⟨w.heap.size + 1, 1, none⟩ = some (.int .i64 (v.tgt : Int)) ∧ (putA w w4 v.most v.tgt G' v.pl).cell? ⟨w.heap.size + 1, 2, none⟩ = some (.slice (some ⟨G', 0, none⟩) 4 4) ∧ (putA w w4 v.most v.tgt G' v.pl).cell? ⟨w.heap.size + 1, 3, none⟩ = some (.int .i64 (v.pl : Int)) from hR)
  unfold putA at hG p0 p1 p2 p3
  have HG := Lib.hid hG
  have HP0 := Lib.hid p0
  have HP1 := Lib.hid p1
  have HP2 := Lib.hid p2
  have HP3 := Lib.hid p3
  clear hG p0 p1 p2 p3
  go_wp2_with fail
  have p0 := HP0.out
  have p1 := HP1.out
  have p2 := HP2.out
  have p3 := HP3.out
  have hG := HG.out
  clear HP0 HP1 HP2 HP3 HG
  generalize ((((w4.setCell ⟨w.heap.size + 1, 0, none⟩ (.int .i64 (v.most : Int))).setCell ⟨w.heap.size + 1, 1, none⟩ (.int .i64 (v.tgt : Int))).setCell ⟨w.heap.size + 1, 2, none⟩ (.slice (some ⟨G', 0, none⟩) 4 4)).setCell ⟨w.heap.size + 1, 3, none⟩ (.int .i64 (v.pl : Int))) = w9 at *
  (try simp only [Exit.inBlock, Exit.then])
  refine bodyPost_ret (v := .tuple #[.agg #[.int .i64 (v.most : Int), .int .i64 (v.tgt : Int), .slice (some ⟨G', 0, none⟩) 4 4, .int .i64 (v.pl : Int)], .slice none 0 0]) (by simp [results, Try.results72, go_sem, p0, p1, p2, p3]) rfl ?_
  exact ⟨G', vs', _, rfl, hG, World.ownsRow_nil _ _ _ _⟩
end
end Go.Proofs.Ytfhlnidjneaieaa.Arcy
