/- Layer 11 (table): for every input the call returns true and leaves what it was given as it was: whatever is laid and dropped, the entries are the document's, with their bytes; through those that they are written as, too (TablePlays). No condition. -/
import Derived.Test.YtdjfdpmfpnbpjaaTabCalls
import Derived.Test.YtdjfdpmfpnbpjaaKit
import Derived.Test.YtdjfdpmfpnbpjaaTabAwake
import Derived.Test.YtdjfdpmfpnbpjaaTabOpen
import Derived.Test.YtdjfdpmfpnbpjaaRows
import Derived.Test.YtdjfdpmfpnbpjaaTabSame
import Derived.Test.YtdjfdpmfpnbpjaaTabDrop
import Derived.Test.YtdjfdpmfpnbpjaaTabPut
import Derived.Lib.Hide
import Derived.Laws.Cover1
import Derived.BigQuiet
namespace Go.Proofs.Ytdjfdpmfpnbpjaa.Taby
open Go.ChangeShapes Go.WideShapes Go.ChangeAt Go.RowKit
open Wirey (Blk Row str str_size str_list str_cat str_take enc enc_len txt Kp)
open Regy

/-- One round of the law: the program's entries, the document's, and the round's own entry in its box. -/
structure Rn (w W : World) (P : Nat → Prop) (b : Nat) (mp md : List En) (v : Value) (q : Nat) (x : En) : Prop where
  held : HeldT w W P b mp
  sl : Sl W w.heap.size v md
  no : ∀ g, v.ownBlock = some g → ¬ P g
  bel : Below w.heap.size w W
  box : Blk W q 32 x.cs
  nq : ¬ P q
section
variable {w W W' : World} {P P' : Nat → Prop} {b b' : Nat} {mp md mp' md' : List En} {v v' : Value} {q : Nat} {x : En}
theorem Rn.below (h : Rn w W P b mp md v q x) (hb : Below W.heap.size W W') : Rn w W' P b mp md v q x :=
  ⟨h.held.below hb, h.sl.below hb, h.no, h.bel.trans (hb.mono h.bel.size), h.box.below hb h.box.lt, h.nq⟩
theorem Rn.alloc (h : Rn w W P b mp md v q x) (o : Obj) : Rn w (W.alloc o) P b mp md v q x := h.below ((Below.refl _ W).alloc (Nat.le_refl _) o)
theorem Rn.doc (h : Rn w W P b mp md v q x) (hs : Sl W' W.heap.size v' md') (hb : Below W.heap.size W W') : Rn w W' P b mp md' v' q x :=
  ⟨h.held.below hb, hs.low h.bel.size, fun g hg hp => by have := (hs.lt g hg).1; have := (h.held.low g hp).2; omega, h.bel.trans (hb.mono h.bel.size), h.box.below hb h.box.lt, h.nq⟩
theorem Rn.prog (h : Rn w W P b mp md v q x) (hH : HeldT w W' P' b mp') (hM : Mv P P' W W') : Rn w W' P' b mp' md v q x :=
  ⟨hH, hM.sl h.sl h.no, hM.no h.sl h.no, hM.below h.bel fun k hk => (h.held.low k hk).1, (hM.kp.block q h.box.lt h.nq).trans h.box, fun hp => by
    rcases hM.new q hp with h1 | h1
    · exact h.nq h1
    · have := h.box.lt; omega⟩
theorem Rn.other (h : Rn w W P b mp md v q x) (hH : HeldT W W' P' b' mp') (hb : Below W.heap.size W W') : Rn w W' P' b' mp' md v q x :=
  ⟨hH.base h.bel.size, h.sl.below hb, fun g hg hp => by have := (h.sl.lt g hg).2; have := (hH.low g hp).1; omega, h.bel.trans (hb.mono h.bel.size), h.box.below hb h.box.lt, fun hp => by have := h.box.lt; have := (hH.low q hp).1; omega⟩
theorem Rn.cells (h : Rn w W P b mp md v q x) : W.cell? ⟨q, 0, none⟩ = some (.string (str x.key)) ∧ W.cell? ⟨q, 1, none⟩ = some (.string (str x.val)) ∧ W.cell? ⟨q, 2, none⟩ = some (.int .u64 (x.ver : Int)) ∧ W.cell? ⟨q, 3, none⟩ = some (.int .u64 (x.fin : Int)) :=
  ⟨h.box.cell 0, h.box.cell 1, h.box.cell 2, h.box.cell 3⟩
end
set_option maxHeartbeats 2000000 in
set_option maxRecDepth 100000 in
theorem tablePlays_walk (ao : Option Addr) (len cap sb off : Nat) (K : Nat → Int) (X : Nat → En) (w : World) (hA : Acts w ao len sb off K X) :
    Calls Try.prog 4 #[.slice ao len cap] w fun e w' => e = .returned (.bool true) ∧ Below w.heap.size w w' := by
  have htl := Wirey.toList_str
  have hmost := hA.most
  unfold maxLen at hmost
  go_enter Try.func4, Try.ntmps4
  go_wp2_with fail
  refine (new_c _).mono ?_
  rintro e w1 ⟨P0, b0, rfl, hH1, hb1⟩
  have hH2 := hH1.below ((Below.refl _ w1).alloc (Nat.le_refl _) (.cells #[] 32))
  have hS2 := Sl.empty w1 w.heap.size hb1.size
  have hb2 := hb1.alloc hb1.size (.cells #[] 32)
  have hno : ∀ g, (Value.slice (some ⟨w1.heap.size, 0, none⟩) 0 0).ownBlock = some g → ¬ P0 g := fun g hg hp => by
    have h1 := (hH1.low g hp).2
    have e : w1.heap.size = g := by simpa [Value.ownBlock] using hg
    omega
  clear hH1 hb1
  go_upto_region 2 with (fail)
  generalize w1.alloc (.cells #[] 32) = w2 at *
  generalize (Value.slice (some ⟨w1.heap.size, 0, none⟩) 0 0) = v0 at *
  go_wp2_with fail
  refine (awake_c _).mono ?_
  rintro e w3 ⟨rfl, hb3⟩
  have hH3 := hH2.below hb3
  have hS3 := hS2.below hb3
  have hb4 := hb2.trans (hb3.mono hb2.size)
  clear hH2 hS2 hb2 hb3
  go_wp2_with fail
  go_loopw [3, 4, 5] (fun t v i wr => ∃ (j : Nat) (P : Nat → Prop) (b : Nat) (m : List En), j ≤ len ∧ j ≤ 60 ∧ i = .int .i64 j ∧ t = tp b ∧ m.length ≤ j ∧ HeldT w wr P b m ∧ Sl wr w.heap.size v m ∧ (∀ g, v.ownBlock = some g → ¬ P g) ∧ Below w.heap.size w wr) (fun t v i _ => len - (intOf i).toNat)
  case atStart => exact ⟨0, P0, b0, [], by omega, by omega, rfl, rfl, Nat.le_refl _, hH3, hS3, hno, hb4⟩
  case round =>
    clear hH3 hS3 hno hb4
    obtain ⟨j, P, b, m, hj, hj60, rfl, rfl, hml, hH, hS, hno, hb⟩ := hrel
    obtain ⟨va, vc, rfl⟩ := hS.form
    by_cases h3 : j < len ∧ j < 60
    · have hlt : (j : Int) < (len : Int) := by omega
      have h60 : (j : Int) < 60 := by omega
      have d1 : decide ((j : Int) < (len : Int)) = true := decide_eq_true hlt
      have d2 : decide ((j : Int) < 60) = true := decide_eq_true h60
      have hAr := hA.below hb
      obtain ⟨rfl, a0, a1, a2, a3, a4⟩ := hAr.at_ h3.1
      have hbig := hAr.big j h3.1
      have hkind := hAr.kind j h3.1
      generalize hXj : X j = y at *
      generalize hKj : K j = kd at *
      have hok := En.cut_ok y hbig.ver hbig.fin
      have hcut := fun W => cut_c y hbig.key hbig.val W
      generalize hxc : y.cut = x at *
      clear hxc hbig
      have hsb : sb < w.heap.size := by obtain ⟨C, a, -⟩ := hA.arr; exact a.lt (by omega)
      have HA := Lib.hid hA
      have HS := Lib.hid hS
      have HN := Lib.hid hno
      clear hA hAr hS hno hXj hKj
      go_wp2_with fail
      refine (hcut _).mono ?_
      rintro e w5 ⟨rfl, hb5⟩
      have hR : Rn w (w5.alloc (.cells x.cs 32)) P b m m (.slice va m.length vc) w5.heap.size x := ⟨(hH.below hb5).below ((Below.refl _ w5).alloc (Nat.le_refl _) _), (HS.out.below hb5).alloc _, HN.out, (hb.trans (hb5.mono hb.size)).alloc (Nat.le_trans hb.size hb5.size) _, Blk.new w5 32 x.cs, fun hp => by have := (hH.low _ hp).2; have := hb5.size; omega⟩
      have k0 : (w5.alloc (.cells x.cs 32)).cell? ⟨sb, off + j * 5, none⟩ = some (.int .i64 kd) := ((World.cell?_of_block (a := ⟨sb, off + j * 5, none⟩) (Below.heap_alloc w5 _ sb (by have := hb.size; have := hb5.size; omega))).trans (World.cell?_of_block (a := ⟨sb, off + j * 5, none⟩) (hb5.block sb (by have := hb.size; omega)))).trans a0
      clear a0 a1 a2 a3 a4 hH HS HN hb hb5 hcut
      go_upto_region 8 with (fail)
      generalize hw6 : w5.alloc (.cells _ 32) = w6 at *
      clear hw6
      generalize w5.heap.size = q at *
      by_cases hk4 : kd = 4
      · subst hk4
        obtain ⟨c0, c1, c2, c3⟩ := hR.cells
        go_wp2_with fail
        refine (rget_c x.key (by omega) _ (hR.sl.low (Nat.zero_le _))).mono ?_
        rintro e u4 ⟨rfl, hbn⟩
        have R1 := (hR.below hbn).alloc (.cells ((find x.key m).getD En.none).cs 32)
        clear c0 c1 c2 c3 hbn hR k0
        go_upto_region 13 with (fail)
        generalize hw9 : u4.alloc (.cells _ 32) = w9 at *
        clear hw9
        obtain ⟨c0, c1, c2, c3⟩ := R1.cells
        go_wp2_with fail
        refine (rdrop_c x.key (by omega) _ (R1.sl.low (Nat.zero_le _))).mono ?_
        rintro e u5 ⟨v5, rfl, hS5, hbn⟩
        have R2 := R1.doc hS5 hbn
        clear c0 c1 c2 c3 hbn R1 hS5
        obtain ⟨c0, c1, c2, c3⟩ := R2.cells
        have dbb : ((find x.key m).isSome != (find x.key m).isSome) = false := by cases (find x.key m).isSome <;> rfl
        go_wp2_with fail
        refine (drop_c x.key hok.key (by omega) R2.held).mono ?_
        rintro e u6 ⟨rfl, P6, hH6, hM6⟩
        have R3 := R2.prog hH6 hM6
        clear c0 c1 c2 c3 R2 hH6 hM6
        obtain ⟨v5a, v5c, rfl⟩ := R3.sl.form
        have hdl := drop_len (k := x.key) (l := m)
        go_upto_region 21 with (fail)
        clear dbb
        generalize drop x.key m = m2 at *
        obtain ⟨c0, c1, c2, c3⟩ := R3.cells
        go_wp2_with fail
        refine (get_c x.key hok.key (by omega) R3.held).mono ?_
        rintro e u1 ⟨rfl, hbn⟩
        have T1 := (R3.below hbn).alloc (.cells ((find x.key m2).getD En.none).cs 32)
        have Y1 := Blk.new u1 32 ((find x.key m2).getD En.none).cs
        clear c0 c1 c2 c3 hbn
        go_upto_region 22 with (fail)
        generalize hw7 : u1.alloc (.cells _ 32) = w7 at *
        clear hw7
        generalize u1.heap.size = q1 at *
        obtain ⟨c0, c1, c2, c3⟩ := T1.cells
        go_wp2_with fail
        refine (rget_c x.key (by omega) _ (T1.sl.low (Nat.zero_le _))).mono ?_
        rintro e u2 ⟨rfl, hbn⟩
        have T2 := (T1.below hbn).alloc (.cells ((find x.key m2).getD En.none).cs 32)
        have Y2 := (Y1.below hbn Y1.lt).alloc (.cells ((find x.key m2).getD En.none).cs 32)
        have Z2 := Blk.new u2 32 ((find x.key m2).getD En.none).cs
        clear c0 c1 c2 c3 hbn T1 Y1
        go_upto_region 23 with (fail)
        generalize hw8 : u2.alloc (.cells _ 32) = w8 at *
        clear hw8
        generalize u2.heap.size = q2 at *
        generalize (find x.key m2).isSome = bb at *
        generalize (find x.key m2).getD En.none = en at *
        have dbb : (bb != bb) = false := by cases bb <;> rfl
        go_wp2_with fail
        refine (same_c (by omega) T2.held (T2.sl.low (Nat.zero_le _))).mono ?_
        rintro e u3 ⟨rfl, hbn⟩
        have T3 := T2.below hbn
        have Y3 := Y2.below hbn Y2.lt
        have Z3 := Z2.below hbn Z2.lt
        clear T2 Y2 Z2 hbn
        have y0 := Y3.cell 0
        have y1 := Y3.cell 1
        have y2 := Y3.cell 2
        have y3 := Y3.cell 3
        have z0 := Z3.cell 0
        have z1 := Z3.cell 1
        have z2 := Z3.cell 2
        have z3 := Z3.cell 3
        simp only [List.getElem?_toArray, List.getElem?_cons_zero, List.getElem?_cons_succ] at y0 y1 y2 y3 z0 z1 z2 z3
        go_wp2_with fail
        go_roundw
        case rel => exact ⟨j + 1, _, _, _, by omega, by omega, rfl, rfl, by omega, T3.held, T3.sl, T3.no, T3.bel⟩
        case measure => simp [intOf]; omega
      by_cases hk5 : kd = 5
      · subst hk5
        have hrise := hR.held.rise
        have hoks := hR.held.ok
        go_wp2_with fail
        refine (export_c (by omega) hR.held).mono ?_
        rintro e u4 ⟨rfl, hbn⟩
        have R1 := hR.below hbn
        clear hbn hR k0
        go_wp2_with fail
        refine (import_c (by omega) hrise hoks).mono ?_
        rintro e u5 ⟨P5, b5, rfl, hH5, hb5⟩
        have R2 := R1.other hH5 hb5
        have R2' := R1.below hb5
        clear R1 hH5 hb5
        go_wp2_with fail
        refine (export_c (by omega) R2'.held).mono ?_
        rintro e u6 ⟨rfl, hbn⟩
        have R3 := R2.below hbn
        clear R2 R2' hbn
        go_wp2_with fail
        refine (rputall_c (by omega) hoks _ (R3.sl.low (Nat.zero_le _))).mono ?_
        rintro e u7 ⟨rfl, hbn⟩
        have R4 := R3.below hbn
        clear R3 hbn hrise hoks
        go_upto_region 21 with (fail)
        obtain ⟨c0, c1, c2, c3⟩ := R4.cells
        go_wp2_with fail
        refine (get_c x.key hok.key (by omega) R4.held).mono ?_
        rintro e u1 ⟨rfl, hbn⟩
        have T1 := (R4.below hbn).alloc (.cells ((find x.key m).getD En.none).cs 32)
        have Y1 := Blk.new u1 32 ((find x.key m).getD En.none).cs
        clear c0 c1 c2 c3 hbn
        go_upto_region 22 with (fail)
        generalize hw7 : u1.alloc (.cells _ 32) = w7 at *
        clear hw7
        generalize u1.heap.size = q1 at *
        obtain ⟨c0, c1, c2, c3⟩ := T1.cells
        go_wp2_with fail
        refine (rget_c x.key (by omega) _ (T1.sl.low (Nat.zero_le _))).mono ?_
        rintro e u2 ⟨rfl, hbn⟩
        have T2 := (T1.below hbn).alloc (.cells ((find x.key m).getD En.none).cs 32)
        have Y2 := (Y1.below hbn Y1.lt).alloc (.cells ((find x.key m).getD En.none).cs 32)
        have Z2 := Blk.new u2 32 ((find x.key m).getD En.none).cs
        clear c0 c1 c2 c3 hbn T1 Y1
        go_upto_region 23 with (fail)
        generalize hw8 : u2.alloc (.cells _ 32) = w8 at *
        clear hw8
        generalize u2.heap.size = q2 at *
        generalize (find x.key m).isSome = bb at *
        generalize (find x.key m).getD En.none = en at *
        have dbb : (bb != bb) = false := by cases bb <;> rfl
        go_wp2_with fail
        refine (same_c (by omega) T2.held (T2.sl.low (Nat.zero_le _))).mono ?_
        rintro e u3 ⟨rfl, hbn⟩
        have T3 := T2.below hbn
        have Y3 := Y2.below hbn Y2.lt
        have Z3 := Z2.below hbn Z2.lt
        clear T2 Y2 Z2 hbn
        have y0 := Y3.cell 0
        have y1 := Y3.cell 1
        have y2 := Y3.cell 2
        have y3 := Y3.cell 3
        have z0 := Z3.cell 0
        have z1 := Z3.cell 1
        have z2 := Z3.cell 2
        have z3 := Z3.cell 3
        simp only [List.getElem?_toArray, List.getElem?_cons_zero, List.getElem?_cons_succ] at y0 y1 y2 y3 z0 z1 z2 z3
        go_wp2_with fail
        go_roundw
        case rel => exact ⟨j + 1, _, _, _, by omega, by omega, rfl, rfl, by omega, T3.held, T3.sl, T3.no, T3.bel⟩
        case measure => simp [intOf]; omega
      · have q4 : (kd == 4) = false := beq_eq_false_iff_ne.2 hk4
        have q5 : (kd == 5) = false := beq_eq_false_iff_ne.2 hk5
        have hrise := hR.held.rise
        obtain ⟨c0, c1, c2, c3⟩ := hR.cells
        go_wp2_with fail
        refine (rput_c (x := x) (by omega) hrise _ (hR.sl.low (Nat.zero_le _))).mono ?_
        rintro e u5 ⟨v5, rfl, hS5, hbn⟩
        have R2 := hR.doc hS5 hbn
        clear c0 c1 c2 c3 hbn hR hS5 k0
        obtain ⟨c0, c1, c2, c3⟩ := R2.cells
        go_wp2_with fail
        refine (put_c hok (by omega) R2.held).mono ?_
        rintro e u6 ⟨rfl, P6, hH6, hM6⟩
        have R3 := R2.prog hH6 hM6
        clear c0 c1 c2 c3 R2 hH6 hM6
        obtain ⟨v5a, v5c, rfl⟩ := R3.sl.form
        have hil := ins_len (x := x) (l := m)
        go_upto_region 21 with (fail)
        generalize ins x m = m2 at *
        obtain ⟨c0, c1, c2, c3⟩ := R3.cells
        go_wp2_with fail
        refine (get_c x.key hok.key (by omega) R3.held).mono ?_
        rintro e u1 ⟨rfl, hbn⟩
        have T1 := (R3.below hbn).alloc (.cells ((find x.key m2).getD En.none).cs 32)
        have Y1 := Blk.new u1 32 ((find x.key m2).getD En.none).cs
        clear c0 c1 c2 c3 hbn
        go_upto_region 22 with (fail)
        generalize hw7 : u1.alloc (.cells _ 32) = w7 at *
        clear hw7
        generalize u1.heap.size = q1 at *
        obtain ⟨c0, c1, c2, c3⟩ := T1.cells
        go_wp2_with fail
        refine (rget_c x.key (by omega) _ (T1.sl.low (Nat.zero_le _))).mono ?_
        rintro e u2 ⟨rfl, hbn⟩
        have T2 := (T1.below hbn).alloc (.cells ((find x.key m2).getD En.none).cs 32)
        have Y2 := (Y1.below hbn Y1.lt).alloc (.cells ((find x.key m2).getD En.none).cs 32)
        have Z2 := Blk.new u2 32 ((find x.key m2).getD En.none).cs
        clear c0 c1 c2 c3 hbn T1 Y1
        go_upto_region 23 with (fail)
        generalize hw8 : u2.alloc (.cells _ 32) = w8 at *
        clear hw8
        generalize u2.heap.size = q2 at *
        generalize (find x.key m2).isSome = bb at *
        generalize (find x.key m2).getD En.none = en at *
        have dbb : (bb != bb) = false := by cases bb <;> rfl
        go_wp2_with fail
        refine (same_c (by omega) T2.held (T2.sl.low (Nat.zero_le _))).mono ?_
        rintro e u3 ⟨rfl, hbn⟩
        have T3 := T2.below hbn
        have Y3 := Y2.below hbn Y2.lt
        have Z3 := Z2.below hbn Z2.lt
        clear T2 Y2 Z2 hbn
        have y0 := Y3.cell 0
        have y1 := Y3.cell 1
        have y2 := Y3.cell 2
        have y3 := Y3.cell 3
        have z0 := Z3.cell 0
        have z1 := Z3.cell 1
        have z2 := Z3.cell 2
        have z3 := Z3.cell 3
        simp only [List.getElem?_toArray, List.getElem?_cons_zero, List.getElem?_cons_succ] at y0 y1 y2 y3 z0 z1 z2 z3
        go_wp2_with fail
        go_roundw
        case rel => exact ⟨j + 1, _, _, _, by omega, by omega, rfl, rfl, by omega, T3.held, T3.sl, T3.no, T3.bel⟩
        case measure => simp [intOf]; omega
    · have hexit : ¬ j < len ∨ (j < len ∧ ¬ j < 60) := by omega
      clear hA hS hno hH
      rcases hexit with h4 | ⟨h4, h5⟩
      · have d1 : decide ((j : Int) < (len : Int)) = false := decide_eq_false (by omega)
        go_wp2_with fail
        go_ret
        exact ⟨rfl, hb⟩
      · have d1 : decide ((j : Int) < (len : Int)) = true := decide_eq_true (by omega)
        have d2 : decide ((j : Int) < 60) = false := decide_eq_false (by omega)
        go_wp2_with fail
        go_ret
        exact ⟨rfl, hb⟩
set_option linter.unusedVariables false in
set_option maxRecDepth 100000 in
theorem tablePlays_lifted (os : Os) (started : os.Started) (H : Type) (enc : TypeId × Value → H) :
    ReturnsInHanded {} Try.checked os 4 .any (Rows.tablePlaysSpec.pre6 enc Try.prog Try.f4 Rows.tablePlaysRow.domain false) (Rows.tablePlaysSpec.post enc Try.prog Try.f4 false true false false) := by
  refine returnsInHanded_of_change (C := Try.checked) Kit.own started (by kernel_rfl) Try.func4
    (ChangeSpec.witness6 (enc := enc) (C := Try.checked) false ⟨#[], #[.slice none 0 0], []⟩ 8 (by kernel_rfl) (by kernel_rfl) (by kernel_rfl) (by kernel_rfl)) ?_
  intro W base args ds gs before hval0 hW hcnd _
  have hval : ∀ (j : Nat) t v, Try.f4.params[j]? = some t → args[j]? = some v → Value.okWide Try.prog W .any base t v := hval0
  have hW' := hW
  obtain ⟨p, q, hA0, hV, rfl, hfz, hnd⟩ := hW
  have hA : DataW.TrodAll enc Try.prog W 0 (fun _ => true) true Try.f4.params.toList args.toList ds p := hA0
  rw [Try.params4] at hA hval
  obtain ⟨v0, vs0, d0, ds0, p0, q0, hargs, rfl, rfl, h0, r0⟩ := trodAll_cons hA
  obtain ⟨rfl, rfl, rfl⟩ := trodAll_nil r0
  obtain ⟨rfl, rfl⟩ := trodVars_none hV
  obtain rfl : args = #[v0] := by cases args; simp_all
  obtain ⟨b0, c0, l0, rfl⟩ := okWide_slice Try.underlying26 (hval 0 26 v0 rfl rfl)
  obtain ⟨fuel0, hf0⟩ := h0
  obtain ⟨ao0, len0, cap0, sb0, off0, K0, X0, hv0, ht0⟩ := open_acts (show DataW.trod enc Try.prog W 0 (fun _ => true) true fuel0 26 [.slice b0 c0 l0] = some _ from hf0)
  injection hv0 with hv0x hv0y hv0z
  subst hv0x hv0y hv0z
  clear hA0 hval0
  refine (tablePlays_walk _ _ _ _ _ _ _ W ht0).mono fun e W' ⟨he, hg⟩ => ?_
  subst he
  exact ⟨_, rfl, Kit.law_post hW' rfl (by kernel_rfl) rfl (by kernel_rfl) hg⟩

theorem tablePlays_over : Rows.tablePlaysRow.holds Try.pinned (OpenSpec.ofChange Rows.tablePlaysSpec) :=
  OpenClaim.holds_of_wide 4 Try.f4 rfl rfl rfl rfl rfl rfl rfl ⟨rfl, rfl, rfl, rfl, rfl⟩ rfl rfl rfl rfl rfl (by kernel_rfl) Try.func4 (by kernel_rfl)
    (of_decide_eq_true (by kernel_rfl)) (by unfold Func.isWrapper; first | (rw [if_pos (by decide +kernel)]; kernel_rfl) | (rw [if_neg (by decide +kernel)]; exact ⟨rfl, rfl⟩))
    (fun os started H enc _ => tablePlays_lifted os started H enc)

theorem tablePlays_holds : Rows.TablePlaysSaid :=
  tablePlays_over
end Go.Proofs.Ytdjfdpmfpnbpjaa.Taby
