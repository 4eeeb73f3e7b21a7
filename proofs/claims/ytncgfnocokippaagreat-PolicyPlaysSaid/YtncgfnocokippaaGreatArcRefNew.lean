/- The document's own ARC: a new key is inserted. The only condition: it is as chapter 7 has it. -/
import Derived.Test.YtncgfnocokippaaGreatArcRefAgainAll
import Derived.Deep.CutBlock
import Derived.Test.YtncgfnocokippaaGreatSq
namespace Go.Proofs.YtncgfnocokippaaGreat.Arcy
open Go.ChangeShapes Go.WideShapes Go.ChangeAt Go.RowKit Go.Shelf
open Wirey (Blk Row str str_size str_list Kp)
open Ringy Go.ChangeMaps Go.Maps

section
variable {w x y : World} {v v' v'' : Av} {G G' G'' : Nat} {vs vs' vs'' : Nat → Value} {k : Key}
theorem Av.Fine.fresh (h : v.Fine) : v.fresh.Fine := by
 unfold Av.fresh Av.shut
 split
 ·exact h.forget 0
 ·split
  ·exact (h.forget 2).room false
  ·split
   ·exact (h.forget 3).room false
   ·exact h.room false
theorem Wo.forget {out : Value} {L : List Key} {i : Nat} (h : Wo w G vs v G' vs' out L x) (hf : v.Fine) (hg : Goes x G' vs' (v.forget i) G'' vs'' y) :
  Wo w G vs (v.forget i) G'' vs'' out L ((((y.setCell ⟨w.heap.size, 0, none⟩ (.int .i64 v.most)).setCell ⟨w.heap.size, 1, none⟩ (.int .i64 v.tgt)).setCell ⟨w.heap.size, 2, none⟩ (.slice (some ⟨G'', 0, none⟩) 4 4)).setCell ⟨w.heap.size, 3, none⟩ (.int .i64 v.pl)) := by
 have h1 := h.wr.take (v' := v.forget i) (hf.forget i).ok hg
 have hpl : (v.forget i).pl = v.pl := by unfold Av.pl; rw [(Av.forget_num v i).1]
 rw [(Av.forget_num v i).1, (Av.forget_num v i).2, hpl] at h1
 exact ⟨h1, row_box (row_box (row_box (row_box (h.onto hg.below).row (Nat.le_refl _) 0 _) (Nat.le_refl _) 1 _) (Nat.le_refl _) 2 _) (Nat.le_refl _) 3 _⟩
set_option maxHeartbeats 8000000 in
set_option maxRecDepth 100000 in
theorem rins_new (hk : k.length ≤ 64) (e : v.at_ k = none) (hf : v.Fine) (hv : (v.fresh.fr 0 k).Ok) (w : World) (h : Dat w v G vs) :
  Calls Tryz.prog 61 #[.agg #[.int .i64 v.most, .int .i64 v.tgt, .slice (some ⟨G, 0, none⟩) 4 4, .int .i64 v.pl], .string (str k)] w (InsP w G vs (v.fresh.fr 0 k) v.freshK) := by
 have hsz := str_size k
 have hok := hf.ok
 have h2 := Wr.new hok h
 have d1 : ¬ (64 : Int) < (k.length : Int) := by omega
 have hh : v.has k = false := by rw [Av.at_has hok, e]; rfl
 have fh := fun W (h : Wr w G vs v G vs W) => wr_has (k := k) hok h
 have fi : ∀ W out L, Wo w G vs v G vs out L W → Calls Tryz.prog 65 #[.agg #[.slice (some ⟨G, 0, none⟩) 4 4, .int .i64 v.pl], .string (str k)] W fun e y => e = .returned (.tuple #[.int .i64 0, .bool false]) ∧ Wo w G vs v G vs out L y := fun W out L h => by have := wo_of (fun d => rin7_c (k := k) hok W d) h; rw [e] at this; exact this
 rw [hh] at fh
 have f0 := fun W out L (h : Wo w G vs v G vs out L W) => wo_of (fun d => rlen_a (a := 0) (i := 0) rfl (by omega) hok W d) h
 have f2 := fun W out L (h : Wo w G vs v G vs out L W) => wo_of (fun d => rlen_a (a := 2) (i := 2) rfl (by omega) hok W d) h
 have f3 := fun W out L (h : Wo w G vs v G vs out L W) => wo_of (fun d => rlen_a (a := 3) (i := 3) rfl (by omega) hok W d) h
 have fk := fun W out L (h : Wo w G vs v G vs out L W) => wo_of (fun d => rkept_c hok W d) h
 have l0 := hok.len_le (i := 0) (by omega)
 have l1 := hok.len_le (i := 1) (by omega)
 have l2 := hok.len_le (i := 2) (by omega)
 have l3 := hok.len_le (i := 3) (by omega)
 have b1 := hok.one
 have b2 := hok.m2
 have b3 : v.one = v.len 0 + v.len 2 := rfl
 have b4 : v.kept = v.len 0 + v.len 1 := rfl
 have b5 : v.all = v.len 0 + v.len 1 + v.len 2 + v.len 3 := rfl
 obtain ⟨p, hp⟩ : ∃ p : Nat, p = v.kept + v.len 2 := ⟨_, rfl⟩
 have u1 : IntKind.i64.wrap ((v.len 0 : Int) + (v.len 2 : Int)) = (v.one : Int) := by rw [IntKind.wrap_i64]; omega
 have u2 : IntKind.i64.wrap ((v.kept : Int) + (v.len 2 : Int)) = (p : Int) := by rw [IntKind.wrap_i64]; omega
 have u3 : IntKind.i64.wrap ((p : Int) + (v.len 3 : Int)) = (v.all : Int) := by rw [IntKind.wrap_i64]; omega
 have u4 : IntKind.i64.wrap (2 * (v.most : Int)) = 2 * (v.most : Int) := by rw [IntKind.wrap_i64]; omega
 have B3 := Lib.hid b3
 have B4 := Lib.hid b4
 have B5 := Lib.hid b5
 clear b3 b4 b5 hp
 go_enter Tryz.func61, Tryz.ntmps61
 go_upto_region 1 with (fail)
 generalize (w.alloc (.cells #[.int .i64 v.most, .int .i64 v.tgt, .slice (some ⟨G, 0, none⟩) 4 4, .int .i64 v.pl] 32)).alloc (.cells #[.int .i64 0, .int .i64 0, .slice none 0 0, .int .i64 0] 32) = w2 at *
 obtain ⟨x0, x1, x2, x3, -⟩ := h2.cells
 go_wp2_with fail
 refine (fh _ h2).mono ?_
 rintro e w3 ⟨rfl, h3⟩
 have h4 : Wo w G vs v G vs (.slice (some ⟨w3.heap.size, 0, none⟩) 0 0) [] (w3.alloc (.cells #[] 9)) := ⟨h3.onto ((Below.refl _ w3).alloc (Nat.le_refl _) (.cells #[] 9)), World.ownsRow_lit (size := 1) (e := 9) w3 #[] 0 (by have := h3.res.lt; omega) (by unfold maxLen; omega) rfl⟩
 clear x0 x1 x2 x3 h2 h3 fh hh
 obtain ⟨x0, x1, x2, x3, -⟩ := h4.all
 go_upto_region 6 with (fail)
 generalize w3.alloc (.cells #[] 9) = w4 at *
 go_wp2_with fail
 refine (fi _ _ _ h4).mono ?_
 rintro e w5 ⟨rfl, h5⟩
 clear x0 x1 x2 x3 h4 fi
 go_upto_region 25 with (fail)
 have hda := (h5.drewN 1).all
 go_region_held3 (fun W => W.cell? ⟨w.heap.size, 0, none⟩ = some (.int .i64 v.most) ∧ W.cell? ⟨w.heap.size, 1, none⟩ = some (.int .i64 v.tgt) ∧ W.cell? ⟨w.heap.size, 2, none⟩ = some (.slice (some ⟨G, 0, none⟩) 4 4) ∧ W.cell? ⟨w.heap.size, 3, none⟩ = some (.int .i64 v.pl) ∧ Wo w G vs v G vs (.slice (some ⟨w3.heap.size, 0, none⟩) 0 0) [] W)
  (first | assumption | exact hda | exact Wo.all (by assumption))
  (first | (go_at_call 63; (with_reducible refine Calls.mono (f0 _ _ _ (by assumption : _ ∧ _ ∧ _ ∧ _ ∧ _).2.2.2.2) ?_); rintro e wv ⟨rfl, hwv⟩) | (go_at_call 63; (with_reducible refine Calls.mono (f2 _ _ _ (by assumption : _ ∧ _ ∧ _ ∧ _ ∧ _).2.2.2.2) ?_); rintro e wv ⟨rfl, hwv⟩) | (go_at_call 63; (with_reducible refine Calls.mono (f3 _ _ _ (by assumption : _ ∧ _ ∧ _ ∧ _ ∧ _).2.2.2.2) ?_); rintro e wv ⟨rfl, hwv⟩) | (go_at_call 34; (with_reducible refine Calls.mono (fk _ _ _ (by assumption : _ ∧ _ ∧ _ ∧ _ ∧ _).2.2.2.2) ?_); rintro e wv ⟨rfl, hwv⟩) | fail)
 have h6 := (by assumption : _ ∧ _ ∧ _ ∧ _ ∧ Wo w G vs v G vs _ _ _).2.2.2.2
 clear hda f2 f3 fk h5 u1 u2 u3
 go_upto_block 0 with (fail)
 go_cut [6, 15, 16] from 103 (fun out _ _ wx => ∃ G1 vs1, Wo w G vs v.fresh G1 vs1 out v.freshK wx)
 case first =>
  obtain ⟨x0, x1, x2, x3, -⟩ := h6.all
  by_cases n1 : v.most ≤ v.one
  ·have d2 : decide ((v.most : Int) ≤ (v.one : Int)) = true := decide_eq_true (by omega)
   by_cases n2 : v.len 0 = v.most
   ·have d3 : ((v.len 0 : Int) == (v.most : Int)) = true := beq_iff_eq.2 (by omega)
    have HF1 := Lib.hid (show v.fresh = v.forget 0 from if_pos (by omega))
    obtain ⟨k0, el⟩ := Av.last_of (v := v) (i := 0) (by have := hok.m1; omega)
    have HF2 := Lib.hid (show v.freshK = [k0] from (if_pos (by omega)).trans (by rw [el]; rfl))
    have fb := fun W (h : Dat W v G vs) => ring_backA (a := 0) (i := 0) rfl (by omega) hok W h
    simp only [el, Option.getD_some, Option.isSome_some] at fb
    have fg := fun W (h : Dat W v G vs) => rforget_c (a := 0) (i := 0) rfl (by omega) hok W h
    clear n2 el
    go_upto_region 26 with (fail)
    refine region_only 12 #[false, false, false, false, false, false, false, false, false, false, false, false] (S := (fun W => W.cell? ⟨w.heap.size, 0, none⟩ = some (.int .i64 v.most) ∧ W.cell? ⟨w.heap.size, 1, none⟩ = some (.int .i64 v.tgt) ∧ W.cell? ⟨w.heap.size, 2, none⟩ = some (.slice (some ⟨G, 0, none⟩) 4 4) ∧ W.cell? ⟨w.heap.size, 3, none⟩ = some (.int .i64 v.pl) ∧ Wo w G vs v G vs (.slice (some ⟨w3.heap.size, 0, none⟩) 0 0) [] W)) rfl rfl (by kernel_rfl) (Wo.all (h6.drewN 1)) (fun hSw => ?_)
    refine tkA 0 104 11 ?_ rfl rfl ?_ hSw ?_
    rotate_left
    ·intro wx hSx; (try dsimp only at hSx); go_split_ands; go_simp; (try with_reducible rfl)
    simp only [sA, List.set_cons_zero, sC]
    refine tkA 1 105 10 ?_ rfl rfl ?_ hSw ?_
    rotate_left
    ·intro wx hSx; (try dsimp only at hSx); go_split_ands; go_simp; (try with_reducible rfl)
    simp only [sA, List.set_cons_zero, sC]
    refine tkA 2 106 9 ?_ rfl rfl ?_ hSw ?_
    rotate_left
    ·intro wx hSx; (try dsimp only at hSx); go_split_ands; go_simp; (try with_reducible rfl)
    simp only [sA, List.set_cons_zero, sC]
    refine tkA 3 107 8 ?_ rfl rfl ?_ hSw ?_
    rotate_left
    ·intro wx hSx; (try dsimp only at hSx); go_split_ands; go_simp; (try with_reducible rfl)
    simp only [sA, List.set_cons_zero, sC]
    refine tkA 4 108 7 ?_ rfl rfl ?_ hSw ?_
    rotate_left
    ·intro wx hSx; (try dsimp only at hSx); go_split_ands; go_simp; (try with_reducible rfl)
    simp only [sA, List.set_cons_zero, sC]
    refine tkA 5 109 6 ?_ rfl rfl ?_ hSw ?_
    rotate_left
    ·intro wx hSx; (try dsimp only at hSx); go_split_ands; go_simp; (try with_reducible rfl)
    simp only [sA, List.set_cons_zero, sC]
    refine tkA 7 111 5 ?_ rfl rfl ?_ hSw ?_
    rotate_left
    ·intro wx hSx; (try dsimp only at hSx); go_split_ands; go_simp; (try with_reducible rfl)
    simp only [sA, List.set_cons_zero, sC]
    refine tkA 8 112 4 ?_ rfl rfl ?_ hSw ?_
    rotate_left
    ·intro wx hSx; (try dsimp only at hSx); go_split_ands; go_simp; (try with_reducible rfl)
    simp only [sA, List.set_cons_zero, sC]
    refine rdA 3 6 rfl fun K hK => ?_
    go_simp
    refine Calls.mono (f0 _ _ _ hSw.2.2.2.2) ?_
    rintro e wv ⟨rfl, hwv⟩
    refine hK.out _ _ (Wo.all hwv) (fun hSw => ?_)
    clear hK K
    simp only [sA, List.set_cons_zero, sC]
    refine tkA 9 113 2 ?_ rfl rfl ?_ hSw ?_
    rotate_left
    ·intro wx hSx; (try dsimp only at hSx); go_split_ands; go_simp; (try with_reducible rfl)
    simp only [sA, List.set_cons_zero, sC]
    refine tkA 10 114 1 ?_ rfl rfl ?_ hSw ?_
    rotate_left
    ·intro wx hSx; (try dsimp only at hSx); go_split_ands; go_simp; (try with_reducible rfl)
    simp only [sA, List.set_cons_zero, sC]
    refine tkA 11 103 0 ?_ rfl rfl ?_ hSw ?_
    rotate_left
    ·intro wx hSx; (try dsimp only at hSx); go_split_ands; go_simp; (try with_reducible rfl)
    simp only [sA, List.set_cons_zero, sC]
    refine wpAnyH_done (by kernel_rfl) ⟨rfl, ?_⟩ 0
    replace h6 := hSw.2.2.2.2
    clear hSw x0 x1 x2 x3
    obtain ⟨x0, x1, x2, x3, -⟩ := h6.all
    go_wp2_with fail
    refine (fb _ h6.wr.go.rf).mono ?_
    rintro e w7 ⟨rfl, hb7⟩
    have h6' := h6.wr.onto hb7
    have h7 : Wo w G vs v G vs (.slice (some ⟨w7.heap.size, 0, none⟩) 1 1) [k0] (w7.alloc (.cells #[.string (str k0)] 9)) := ⟨h6'.onto ((Below.refl _ w7).alloc (Nat.le_refl _) _), row_lit w7 h6'.res.lt k0⟩
    clear h6' h6 hb7 x0 x1 x2 x3 fb
    obtain ⟨x0, x1, x2, x3, -⟩ := h7.all
    go_wp2_with fail
    refine (fg _ h7.wr.go.rf).mono ?_
    rintro e w8 ⟨G1, vs1, rfl, hg⟩
    have h8 := h7.forget hf hg
    have h9 := h7.onto hg.below
    clear x0 x1 x2 x3 hg fg
    obtain ⟨x0, x1, x2, x3, y0, y1, y2, y3⟩ := h9.wr.cells
    go_wp2_with fail
    go_meet
    exact ⟨G1, vs1, by rw [HF1.out, HF2.out]; exact h8⟩
   ·have d3 : ((v.len 0 : Int) == (v.most : Int)) = false := beq_eq_false_iff_ne.2 (by omega)
    have n3 : ¬ v.most ≤ v.len 0 := by have := B3.out; omega
    have hs : v.shut = v.forget 2 := if_pos n1
    have HF1 := Lib.hid (show v.fresh = (v.forget 2).room false by rw [← hs]; exact if_neg n3)
    have HF2 := Lib.hid (show v.freshK = (v.forget 2).roomK false by rw [← hs]; exact if_neg n3)
    clear hs
    go_upto_region 26 with (fail)
    refine region_only 12 #[false, false, false, false, false, false, false, false, false, false, false, false] (S := (fun W => W.cell? ⟨w.heap.size, 0, none⟩ = some (.int .i64 v.most) ∧ W.cell? ⟨w.heap.size, 1, none⟩ = some (.int .i64 v.tgt) ∧ W.cell? ⟨w.heap.size, 2, none⟩ = some (.slice (some ⟨G, 0, none⟩) 4 4) ∧ W.cell? ⟨w.heap.size, 3, none⟩ = some (.int .i64 v.pl) ∧ Wo w G vs v G vs (.slice (some ⟨w3.heap.size, 0, none⟩) 0 0) [] W)) rfl rfl (by kernel_rfl) (Wo.all (h6.drewN 1)) (fun hSw => ?_)
    refine tkA 0 104 11 ?_ rfl rfl ?_ hSw ?_
    rotate_left
    ·intro wx hSx; (try dsimp only at hSx); go_split_ands; go_simp; (try with_reducible rfl)
    simp only [sA, List.set_cons_zero, sC]
    refine tkA 1 105 10 ?_ rfl rfl ?_ hSw ?_
    rotate_left
    ·intro wx hSx; (try dsimp only at hSx); go_split_ands; go_simp; (try with_reducible rfl)
    simp only [sA, List.set_cons_zero, sC]
    refine tkA 2 106 9 ?_ rfl rfl ?_ hSw ?_
    rotate_left
    ·intro wx hSx; (try dsimp only at hSx); go_split_ands; go_simp; (try with_reducible rfl)
    simp only [sA, List.set_cons_zero, sC]
    refine tkA 3 107 8 ?_ rfl rfl ?_ hSw ?_
    rotate_left
    ·intro wx hSx; (try dsimp only at hSx); go_split_ands; go_simp; (try with_reducible rfl)
    simp only [sA, List.set_cons_zero, sC]
    refine tkA 4 108 7 ?_ rfl rfl ?_ hSw ?_
    rotate_left
    ·intro wx hSx; (try dsimp only at hSx); go_split_ands; go_simp; (try with_reducible rfl)
    simp only [sA, List.set_cons_zero, sC]
    refine tkA 5 109 6 ?_ rfl rfl ?_ hSw ?_
    rotate_left
    ·intro wx hSx; (try dsimp only at hSx); go_split_ands; go_simp; (try with_reducible rfl)
    simp only [sA, List.set_cons_zero, sC]
    refine tkA 7 111 5 ?_ rfl rfl ?_ hSw ?_
    rotate_left
    ·intro wx hSx; (try dsimp only at hSx); go_split_ands; go_simp; (try with_reducible rfl)
    simp only [sA, List.set_cons_zero, sC]
    refine tkA 8 112 4 ?_ rfl rfl ?_ hSw ?_
    rotate_left
    ·intro wx hSx; (try dsimp only at hSx); go_split_ands; go_simp; (try with_reducible rfl)
    simp only [sA, List.set_cons_zero, sC]
    refine rdA 3 6 rfl fun K hK => ?_
    go_simp
    refine Calls.mono (f0 _ _ _ hSw.2.2.2.2) ?_
    rintro e wv ⟨rfl, hwv⟩
    refine hK.out _ _ (Wo.all hwv) (fun hSw => ?_)
    clear hK K
    simp only [sA, List.set_cons_zero, sC]
    refine tkA 9 113 2 ?_ rfl rfl ?_ hSw ?_
    rotate_left
    ·intro wx hSx; (try dsimp only at hSx); go_split_ands; go_simp; (try with_reducible rfl)
    simp only [sA, List.set_cons_zero, sC]
    refine tkA 10 114 1 ?_ rfl rfl ?_ hSw ?_
    rotate_left
    ·intro wx hSx; (try dsimp only at hSx); go_split_ands; go_simp; (try with_reducible rfl)
    simp only [sA, List.set_cons_zero, sC]
    refine tkA 11 103 0 ?_ rfl rfl ?_ hSw ?_
    rotate_left
    ·intro wx hSx; (try dsimp only at hSx); go_split_ands; go_simp; (try with_reducible rfl)
    simp only [sA, List.set_cons_zero, sC]
    refine wpAnyH_done (by kernel_rfl) ⟨rfl, ?_⟩ 0
    replace h6 := hSw.2.2.2.2
    clear hSw x0 x1 x2 x3
    obtain ⟨x0, x1, x2, x3, -⟩ := h6.all
    have fg := fun W (h : Dat W v G vs) => rforget_c (a := 2) (i := 2) rfl (by omega) hok W h
    go_wp2_with fail
    refine (fg _ h6.wr.go.rf).mono ?_
    rintro e w8 ⟨G1, vs1, rfl, hg⟩
    have h7 := h6.forget hf hg
    have h9 := h6.onto hg.below
    clear x0 x1 x2 x3 hg fg
    obtain ⟨x0, x1, x2, x3, y0, y1, y2, y3⟩ := h9.wr.cells
    go_upto_region 32 with (fail)
    generalize ((((w8.setCell ⟨w.heap.size, 0, none⟩ (.int .i64 v.most)).setCell ⟨w.heap.size, 1, none⟩ (.int .i64 v.tgt)).setCell ⟨w.heap.size, 2, none⟩ (.slice (some ⟨G1, 0, none⟩) 4 4)).setCell ⟨w.heap.size, 3, none⟩ (.int .i64 v.pl)) = w7 at *
    have hf1 := hf.forget 2
    clear h6 h9 x0 x1 x2 x3 y0 y1 y2 y3
    generalize v.forget 2 = v1 at *
    have fk := fun W out L (h : Wo w G vs v1 G1 vs1 out L W) => wo_of (fun d => rkept_c hf1.ok W d) h
    obtain ⟨x0, x1, x2, x3, -⟩ := h7.all
    go_upto_region 32 with (fail)
    have hda := (h7.drewN 1).all
    go_region_held3 (fun W => W.cell? ⟨w.heap.size, 0, none⟩ = some (.int .i64 v1.most) ∧ W.cell? ⟨w.heap.size, 1, none⟩ = some (.int .i64 v1.tgt) ∧ W.cell? ⟨w.heap.size, 2, none⟩ = some (.slice (some ⟨G1, 0, none⟩) 4 4) ∧ W.cell? ⟨w.heap.size, 3, none⟩ = some (.int .i64 v1.pl) ∧ Wo w G vs v1 G1 vs1 (.slice (some ⟨w3.heap.size, 0, none⟩) 0 0) [] W)
      (first | assumption | exact hda | exact Wo.all (by assumption))
      (first | (go_at_call 34; (with_reducible refine Calls.mono (fk _ _ _ (by assumption : _ ∧ _ ∧ _ ∧ _ ∧ _).2.2.2.2) ?_); rintro e wv ⟨rfl, hwv⟩) | fail)
    have h8 := (by assumption : _ ∧ _ ∧ _ ∧ _ ∧ Wo w G vs v1 G1 vs1 _ _ _).2.2.2.2
    clear hda fk h7 x0 x1 x2 x3
    obtain ⟨x0, x1, x2, x3, -⟩ := h8.all
    by_cases hr : v1.kept < v1.most
    ·have d5 : decide ((v1.most : Int) ≤ (v1.kept : Int)) = false := decide_eq_false (by omega)
     have HE1 := Lib.hid (show v1.room false = v1 from if_pos hr)
     have HE2 := Lib.hid (show v1.roomK false = [] from if_pos hr)
     go_wp2_with fail
     go_meet
     exact ⟨G1, vs1, by rw [HF1.out, HF2.out, HE1.out, HE2.out]; exact h8⟩
    ·have d5 : decide ((v1.most : Int) ≤ (v1.kept : Int)) = true := decide_eq_true (by omega)
     have HE1 := Lib.hid (show v1.room false = v1.repl false from if_neg hr)
     have HE2 := Lib.hid (show v1.roomK false = (v1.last (v1.src false)).toList from if_neg hr)
     have fr := fun W (h : Dat W v1 G1 vs1) => rreplace_c false hf1 W h
     go_wp2_with fail
     refine (fr _ h8.wr.go.rf).mono ?_
     rintro e w8 ⟨G2, vs2, val, rfl, hg, hrow⟩
     have hR := Lib.hid (h8.room hf1 hg hrow)
     have h9 := h8.onto hg.below
     clear x0 x1 x2 x3 hrow hg fr
     obtain ⟨x0, x1, x2, x3, y0, y1, y2, y3⟩ := h9.wr.cells
     clear h8 h9
     go_wp2_with fail
     go_meet
     exact ⟨G2, vs2, by rw [HF1.out, HE1.out]; exact hR.out.1, by rw [HF2.out, HE2.out]; exact hR.out.2⟩
  ·have d2 : decide ((v.most : Int) ≤ (v.one : Int)) = false := decide_eq_false (by omega)
   have n3 : ¬ v.most ≤ v.len 0 := by have := B3.out; omega
   by_cases n4 : v.most ≤ v.all
   ·have d4 : decide ((v.most : Int) ≤ (v.all : Int)) = true := decide_eq_true (by omega)
    by_cases n5 : 2 * v.most ≤ v.all
    ·have d6 : decide (2 * (v.most : Int) ≤ (v.all : Int)) = true := decide_eq_true (by omega)
     have hs : v.shut = v.forget 3 := (if_neg n1).trans (if_pos n5)
     have HF1 := Lib.hid (show v.fresh = (v.forget 3).room false by rw [← hs]; exact if_neg n3)
     have HF2 := Lib.hid (show v.freshK = (v.forget 3).roomK false by rw [← hs]; exact if_neg n3)
     clear hs
     go_upto_region 26 with (fail)
     refine region_only 12 #[false, false, false, false, false, false, false, false, false, false, false, false] (S := (fun W => W.cell? ⟨w.heap.size, 0, none⟩ = some (.int .i64 v.most) ∧ W.cell? ⟨w.heap.size, 1, none⟩ = some (.int .i64 v.tgt) ∧ W.cell? ⟨w.heap.size, 2, none⟩ = some (.slice (some ⟨G, 0, none⟩) 4 4) ∧ W.cell? ⟨w.heap.size, 3, none⟩ = some (.int .i64 v.pl) ∧ Wo w G vs v G vs (.slice (some ⟨w3.heap.size, 0, none⟩) 0 0) [] W)) rfl rfl (by kernel_rfl) (Wo.all (h6.drewN 1)) (fun hSw => ?_)
     refine tkA 0 104 11 ?_ rfl rfl ?_ hSw ?_
     rotate_left
     ·intro wx hSx; (try dsimp only at hSx); go_split_ands; go_simp; (try with_reducible rfl)
     simp only [sA, List.set_cons_zero, sC]
     refine tkA 1 105 10 ?_ rfl rfl ?_ hSw ?_
     rotate_left
     ·intro wx hSx; (try dsimp only at hSx); go_split_ands; go_simp; (try with_reducible rfl)
     simp only [sA, List.set_cons_zero, sC]
     refine tkA 2 106 9 ?_ rfl rfl ?_ hSw ?_
     rotate_left
     ·intro wx hSx; (try dsimp only at hSx); go_split_ands; go_simp; (try with_reducible rfl)
     simp only [sA, List.set_cons_zero, sC]
     refine tkA 3 107 8 ?_ rfl rfl ?_ hSw ?_
     rotate_left
     ·intro wx hSx; (try dsimp only at hSx); go_split_ands; go_simp; (try with_reducible rfl)
     simp only [sA, List.set_cons_zero, sC]
     refine tkA 4 108 7 ?_ rfl rfl ?_ hSw ?_
     rotate_left
     ·intro wx hSx; (try dsimp only at hSx); go_split_ands; go_simp; (try with_reducible rfl)
     simp only [sA, List.set_cons_zero, sC]
     refine take_at 5 109 undef (fuel := 6) rfl rfl (by kernel_rfl) (by kernel_rfl) (by kernel_rfl) (Or.inr ⟨by rfl, rfl⟩) hSw ?_
     simp only [sA, List.set_cons_zero, sC]
     refine take_at 6 110 undef (fuel := 5) rfl rfl (by kernel_rfl) (by kernel_rfl) (by kernel_rfl) (Or.inr ⟨by rfl, rfl⟩) hSw ?_
     simp only [sA, List.set_cons_zero, sC]
     refine take_at 7 111 undef (fuel := 4) rfl rfl (by kernel_rfl) (by kernel_rfl) (by kernel_rfl) (Or.inr ⟨by rfl, rfl⟩) hSw ?_
     simp only [sA, List.set_cons_zero, sC]
     refine take_at 8 112 undef (fuel := 3) rfl rfl (by kernel_rfl) (by kernel_rfl) (by kernel_rfl) (Or.inr ⟨by rfl, rfl⟩) hSw ?_
     simp only [sA, List.set_cons_zero, sC]
     refine take_at 9 113 undef (fuel := 2) rfl rfl (by kernel_rfl) (by kernel_rfl) (by kernel_rfl) (Or.inr ⟨by rfl, rfl⟩) hSw ?_
     simp only [sA, List.set_cons_zero, sC]
     refine tkA 10 114 1 ?_ rfl rfl ?_ hSw ?_
     rotate_left
     ·intro wx hSx; (try dsimp only at hSx); go_split_ands; go_simp; (try with_reducible rfl)
     simp only [sA, List.set_cons_zero, sC]
     refine tkA 11 103 0 ?_ rfl rfl ?_ hSw ?_
     rotate_left
     ·intro wx hSx; (try dsimp only at hSx); go_split_ands; go_simp; (try with_reducible rfl)
     simp only [sA, List.set_cons_zero, sC]
     refine wpAnyH_done (by kernel_rfl) ⟨rfl, ?_⟩ 0
     replace h6 := hSw.2.2.2.2
     clear hSw x0 x1 x2 x3
     obtain ⟨x0, x1, x2, x3, -⟩ := h6.all
     have fg := fun W (h : Dat W v G vs) => rforget_c (a := 3) (i := 3) rfl (by omega) hok W h
     go_wp2_with fail
     refine (fg _ h6.wr.go.rf).mono ?_
     rintro e w8 ⟨G1, vs1, rfl, hg⟩
     have h7 := h6.forget hf hg
     have h9 := h6.onto hg.below
     clear x0 x1 x2 x3 hg fg
     obtain ⟨x0, x1, x2, x3, y0, y1, y2, y3⟩ := h9.wr.cells
     go_upto_region 37 with (fail)
     generalize ((((w8.setCell ⟨w.heap.size, 0, none⟩ (.int .i64 v.most)).setCell ⟨w.heap.size, 1, none⟩ (.int .i64 v.tgt)).setCell ⟨w.heap.size, 2, none⟩ (.slice (some ⟨G1, 0, none⟩) 4 4)).setCell ⟨w.heap.size, 3, none⟩ (.int .i64 v.pl)) = w7 at *
     have hf1 := hf.forget 3
     clear h6 h9 x0 x1 x2 x3 y0 y1 y2 y3
     generalize v.forget 3 = v1 at *
     have fk := fun W out L (h : Wo w G vs v1 G1 vs1 out L W) => wo_of (fun d => rkept_c hf1.ok W d) h
     obtain ⟨x0, x1, x2, x3, -⟩ := h7.all
     go_upto_region 37 with (fail)
     have hda := (h7.drewN 1).all
     go_region_held3 (fun W => W.cell? ⟨w.heap.size, 0, none⟩ = some (.int .i64 v1.most) ∧ W.cell? ⟨w.heap.size, 1, none⟩ = some (.int .i64 v1.tgt) ∧ W.cell? ⟨w.heap.size, 2, none⟩ = some (.slice (some ⟨G1, 0, none⟩) 4 4) ∧ W.cell? ⟨w.heap.size, 3, none⟩ = some (.int .i64 v1.pl) ∧ Wo w G vs v1 G1 vs1 (.slice (some ⟨w3.heap.size, 0, none⟩) 0 0) [] W)
       (first | assumption | exact hda | exact Wo.all (by assumption))
       (first | (go_at_call 34; (with_reducible refine Calls.mono (fk _ _ _ (by assumption : _ ∧ _ ∧ _ ∧ _ ∧ _).2.2.2.2) ?_); rintro e wv ⟨rfl, hwv⟩) | fail)
     have h8 := (by assumption : _ ∧ _ ∧ _ ∧ _ ∧ Wo w G vs v1 G1 vs1 _ _ _).2.2.2.2
     clear hda fk h7 x0 x1 x2 x3
     obtain ⟨x0, x1, x2, x3, -⟩ := h8.all
     by_cases hr : v1.kept < v1.most
     ·have d5 : decide ((v1.most : Int) ≤ (v1.kept : Int)) = false := decide_eq_false (by omega)
      have HE1 := Lib.hid (show v1.room false = v1 from if_pos hr)
      have HE2 := Lib.hid (show v1.roomK false = [] from if_pos hr)
      go_wp2_with fail
      go_meet
      exact ⟨G1, vs1, by rw [HF1.out, HF2.out, HE1.out, HE2.out]; exact h8⟩
     ·have d5 : decide ((v1.most : Int) ≤ (v1.kept : Int)) = true := decide_eq_true (by omega)
      have HE1 := Lib.hid (show v1.room false = v1.repl false from if_neg hr)
      have HE2 := Lib.hid (show v1.roomK false = (v1.last (v1.src false)).toList from if_neg hr)
      have fr := fun W (h : Dat W v1 G1 vs1) => rreplace_c false hf1 W h
      go_wp2_with fail
      refine (fr _ h8.wr.go.rf).mono ?_
      rintro e w8 ⟨G2, vs2, val, rfl, hg, hrow⟩
      have hR := Lib.hid (h8.room hf1 hg hrow)
      have h9 := h8.onto hg.below
      clear x0 x1 x2 x3 hrow hg fr
      obtain ⟨x0, x1, x2, x3, y0, y1, y2, y3⟩ := h9.wr.cells
      clear h8 h9
      go_wp2_with fail
      go_meet
      exact ⟨G2, vs2, by rw [HF1.out, HE1.out]; exact hR.out.1, by rw [HF2.out, HE2.out]; exact hR.out.2⟩
    ·have d6 : decide (2 * (v.most : Int) ≤ (v.all : Int)) = false := decide_eq_false (by omega)
     have hs : v.shut = v := (if_neg n1).trans (if_neg n5)
     have HF1 := Lib.hid (show v.fresh = v.room false from (if_neg n3).trans (by rw [hs]))
     have HF2 := Lib.hid (show v.freshK = v.roomK false from (if_neg n3).trans (by rw [hs]))
     clear hs
     go_upto_region 26 with (fail)
     refine region_only 12 #[false, false, false, false, false, false, false, false, false, false, false, false] (S := (fun W => W.cell? ⟨w.heap.size, 0, none⟩ = some (.int .i64 v.most) ∧ W.cell? ⟨w.heap.size, 1, none⟩ = some (.int .i64 v.tgt) ∧ W.cell? ⟨w.heap.size, 2, none⟩ = some (.slice (some ⟨G, 0, none⟩) 4 4) ∧ W.cell? ⟨w.heap.size, 3, none⟩ = some (.int .i64 v.pl) ∧ Wo w G vs v G vs (.slice (some ⟨w3.heap.size, 0, none⟩) 0 0) [] W)) rfl rfl (by kernel_rfl) (Wo.all (h6.drewN 1)) (fun hSw => ?_)
     refine tkA 0 104 11 ?_ rfl rfl ?_ hSw ?_
     rotate_left
     ·intro wx hSx; (try dsimp only at hSx); go_split_ands; go_simp; (try with_reducible rfl)
     simp only [sA, List.set_cons_zero, sC]
     refine tkA 1 105 10 ?_ rfl rfl ?_ hSw ?_
     rotate_left
     ·intro wx hSx; (try dsimp only at hSx); go_split_ands; go_simp; (try with_reducible rfl)
     simp only [sA, List.set_cons_zero, sC]
     refine tkA 2 106 9 ?_ rfl rfl ?_ hSw ?_
     rotate_left
     ·intro wx hSx; (try dsimp only at hSx); go_split_ands; go_simp; (try with_reducible rfl)
     simp only [sA, List.set_cons_zero, sC]
     refine tkA 3 107 8 ?_ rfl rfl ?_ hSw ?_
     rotate_left
     ·intro wx hSx; (try dsimp only at hSx); go_split_ands; go_simp; (try with_reducible rfl)
     simp only [sA, List.set_cons_zero, sC]
     refine tkA 4 108 7 ?_ rfl rfl ?_ hSw ?_
     rotate_left
     ·intro wx hSx; (try dsimp only at hSx); go_split_ands; go_simp; (try with_reducible rfl)
     simp only [sA, List.set_cons_zero, sC]
     refine take_at 5 109 undef (fuel := 6) rfl rfl (by kernel_rfl) (by kernel_rfl) (by kernel_rfl) (Or.inr ⟨by rfl, rfl⟩) hSw ?_
     simp only [sA, List.set_cons_zero, sC]
     refine take_at 6 110 undef (fuel := 5) rfl rfl (by kernel_rfl) (by kernel_rfl) (by kernel_rfl) (Or.inr ⟨by rfl, rfl⟩) hSw ?_
     simp only [sA, List.set_cons_zero, sC]
     refine take_at 7 111 undef (fuel := 4) rfl rfl (by kernel_rfl) (by kernel_rfl) (by kernel_rfl) (Or.inr ⟨by rfl, rfl⟩) hSw ?_
     simp only [sA, List.set_cons_zero, sC]
     refine take_at 8 112 undef (fuel := 3) rfl rfl (by kernel_rfl) (by kernel_rfl) (by kernel_rfl) (Or.inr ⟨by rfl, rfl⟩) hSw ?_
     simp only [sA, List.set_cons_zero, sC]
     refine take_at 9 113 undef (fuel := 2) rfl rfl (by kernel_rfl) (by kernel_rfl) (by kernel_rfl) (Or.inr ⟨by rfl, rfl⟩) hSw ?_
     simp only [sA, List.set_cons_zero, sC]
     refine tkA 10 114 1 ?_ rfl rfl ?_ hSw ?_
     rotate_left
     ·intro wx hSx; (try dsimp only at hSx); go_split_ands; go_simp; (try with_reducible rfl)
     simp only [sA, List.set_cons_zero, sC]
     refine tkA 11 103 0 ?_ rfl rfl ?_ hSw ?_
     rotate_left
     ·intro wx hSx; (try dsimp only at hSx); go_split_ands; go_simp; (try with_reducible rfl)
     simp only [sA, List.set_cons_zero, sC]
     refine wpAnyH_done (by kernel_rfl) ⟨rfl, ?_⟩ 0
     replace h6 := hSw.2.2.2.2
     clear hSw x0 x1 x2 x3
     obtain ⟨x0, x1, x2, x3, -⟩ := h6.all
     have h7 := h6
     have hf1 := hf
     clear h6 x0 x1 x2 x3
     have fk := fun W out L (h : Wo w G vs v G vs out L W) => wo_of (fun d => rkept_c hf1.ok W d) h
     obtain ⟨x0, x1, x2, x3, -⟩ := h7.all
     go_upto_region 37 with (fail)
     have hda := (h7.drewN 1).all
     go_region_held3 (fun W => W.cell? ⟨w.heap.size, 0, none⟩ = some (.int .i64 v.most) ∧ W.cell? ⟨w.heap.size, 1, none⟩ = some (.int .i64 v.tgt) ∧ W.cell? ⟨w.heap.size, 2, none⟩ = some (.slice (some ⟨G, 0, none⟩) 4 4) ∧ W.cell? ⟨w.heap.size, 3, none⟩ = some (.int .i64 v.pl) ∧ Wo w G vs v G vs (.slice (some ⟨w3.heap.size, 0, none⟩) 0 0) [] W)
       (first | assumption | exact hda | exact Wo.all (by assumption))
       (first | (go_at_call 34; (with_reducible refine Calls.mono (fk _ _ _ (by assumption : _ ∧ _ ∧ _ ∧ _ ∧ _).2.2.2.2) ?_); rintro e wv ⟨rfl, hwv⟩) | fail)
     have h8 := (by assumption : _ ∧ _ ∧ _ ∧ _ ∧ Wo w G vs v G vs _ _ _).2.2.2.2
     clear hda fk h7 x0 x1 x2 x3
     obtain ⟨x0, x1, x2, x3, -⟩ := h8.all
     by_cases hr : v.kept < v.most
     ·have d5 : decide ((v.most : Int) ≤ (v.kept : Int)) = false := decide_eq_false (by omega)
      have HE1 := Lib.hid (show v.room false = v from if_pos hr)
      have HE2 := Lib.hid (show v.roomK false = [] from if_pos hr)
      go_wp2_with fail
      go_meet
      exact ⟨G, vs, by rw [HF1.out, HF2.out, HE1.out, HE2.out]; exact h8⟩
     ·have d5 : decide ((v.most : Int) ≤ (v.kept : Int)) = true := decide_eq_true (by omega)
      have HE1 := Lib.hid (show v.room false = v.repl false from if_neg hr)
      have HE2 := Lib.hid (show v.roomK false = (v.last (v.src false)).toList from if_neg hr)
      have fr := fun W (h : Dat W v G vs) => rreplace_c false hf1 W h
      go_wp2_with fail
      refine (fr _ h8.wr.go.rf).mono ?_
      rintro e w8 ⟨G2, vs2, val, rfl, hg, hrow⟩
      have hR := Lib.hid (h8.room hf1 hg hrow)
      have h9 := h8.onto hg.below
      clear x0 x1 x2 x3 hrow hg fr
      obtain ⟨x0, x1, x2, x3, y0, y1, y2, y3⟩ := h9.wr.cells
      clear h8 h9
      go_wp2_with fail
      go_meet
      exact ⟨G2, vs2, by rw [HF1.out, HE1.out]; exact hR.out.1, by rw [HF2.out, HE2.out]; exact hR.out.2⟩
   ·have d4 : decide ((v.most : Int) ≤ (v.all : Int)) = false := decide_eq_false (by omega)
    have hs : v.shut = v := (if_neg n1).trans (if_neg (by omega))
    have hr : v.kept < v.most := by have := B4.out; have := B5.out; omega
    have HF1 := Lib.hid (show v.fresh = v from (if_neg n3).trans (by rw [hs]; exact if_pos hr))
    have HF2 := Lib.hid (show v.freshK = [] from (if_neg n3).trans (by rw [hs]; exact if_pos hr))
    clear hs hr
    go_upto_region 26 with (fail)
    refine region_only 12 #[false, false, false, false, false, false, false, false, false, false, false, false] (S := (fun W => W.cell? ⟨w.heap.size, 0, none⟩ = some (.int .i64 v.most) ∧ W.cell? ⟨w.heap.size, 1, none⟩ = some (.int .i64 v.tgt) ∧ W.cell? ⟨w.heap.size, 2, none⟩ = some (.slice (some ⟨G, 0, none⟩) 4 4) ∧ W.cell? ⟨w.heap.size, 3, none⟩ = some (.int .i64 v.pl) ∧ Wo w G vs v G vs (.slice (some ⟨w3.heap.size, 0, none⟩) 0 0) [] W)) rfl rfl (by kernel_rfl) (Wo.all (h6.drewN 1)) (fun hSw => ?_)
    refine tkA 0 104 11 ?_ rfl rfl ?_ hSw ?_
    rotate_left
    ·intro wx hSx; (try dsimp only at hSx); go_split_ands; go_simp; (try with_reducible rfl)
    simp only [sA, List.set_cons_zero, sC]
    refine tkA 1 105 10 ?_ rfl rfl ?_ hSw ?_
    rotate_left
    ·intro wx hSx; (try dsimp only at hSx); go_split_ands; go_simp; (try with_reducible rfl)
    simp only [sA, List.set_cons_zero, sC]
    refine tkA 2 106 9 ?_ rfl rfl ?_ hSw ?_
    rotate_left
    ·intro wx hSx; (try dsimp only at hSx); go_split_ands; go_simp; (try with_reducible rfl)
    simp only [sA, List.set_cons_zero, sC]
    refine tkA 3 107 8 ?_ rfl rfl ?_ hSw ?_
    rotate_left
    ·intro wx hSx; (try dsimp only at hSx); go_split_ands; go_simp; (try with_reducible rfl)
    simp only [sA, List.set_cons_zero, sC]
    refine tkA 4 108 7 ?_ rfl rfl ?_ hSw ?_
    rotate_left
    ·intro wx hSx; (try dsimp only at hSx); go_split_ands; go_simp; (try with_reducible rfl)
    simp only [sA, List.set_cons_zero, sC]
    refine take_at 5 109 undef (fuel := 6) rfl rfl (by kernel_rfl) (by kernel_rfl) (by kernel_rfl) (Or.inr ⟨by rfl, rfl⟩) hSw ?_
    simp only [sA, List.set_cons_zero, sC]
    refine take_at 6 110 undef (fuel := 5) rfl rfl (by kernel_rfl) (by kernel_rfl) (by kernel_rfl) (Or.inr ⟨by rfl, rfl⟩) hSw ?_
    simp only [sA, List.set_cons_zero, sC]
    refine take_at 7 111 undef (fuel := 4) rfl rfl (by kernel_rfl) (by kernel_rfl) (by kernel_rfl) (Or.inr ⟨by rfl, rfl⟩) hSw ?_
    simp only [sA, List.set_cons_zero, sC]
    refine take_at 8 112 undef (fuel := 3) rfl rfl (by kernel_rfl) (by kernel_rfl) (by kernel_rfl) (Or.inr ⟨by rfl, rfl⟩) hSw ?_
    simp only [sA, List.set_cons_zero, sC]
    refine take_at 9 113 undef (fuel := 2) rfl rfl (by kernel_rfl) (by kernel_rfl) (by kernel_rfl) (Or.inr ⟨by rfl, rfl⟩) hSw ?_
    simp only [sA, List.set_cons_zero, sC]
    refine tkA 10 114 1 ?_ rfl rfl ?_ hSw ?_
    rotate_left
    ·intro wx hSx; (try dsimp only at hSx); go_split_ands; go_simp; (try with_reducible rfl)
    simp only [sA, List.set_cons_zero, sC]
    refine tkA 11 103 0 ?_ rfl rfl ?_ hSw ?_
    rotate_left
    ·intro wx hSx; (try dsimp only at hSx); go_split_ands; go_simp; (try with_reducible rfl)
    simp only [sA, List.set_cons_zero, sC]
    refine wpAnyH_done (by kernel_rfl) ⟨rfl, ?_⟩ 0
    replace h6 := hSw.2.2.2.2
    clear hSw x0 x1 x2 x3
    obtain ⟨x0, x1, x2, x3, -⟩ := h6.all
    go_wp2_with fail
    go_meet
    exact ⟨G, vs, by rw [HF1.out, HF2.out]; exact h6⟩
 case rest =>
  obtain ⟨G1, vs1, h9⟩ := hcut
  have hf2 := hf.fresh
  clear h6 f0 u4
  generalize v.fresh = v2 at *
  generalize v.freshK = LK at *
  have fc := fun W (h : Dat W v2 G1 vs1) => rfront_a (a := 0) (j := 0) rfl (by omega) hk hf2 hv W h
  obtain ⟨x0, x1, x2, x3, -⟩ := h9.all
  go_wp2_with fail
  refine (fc _ h9.wr.go.rf).mono ?_
  rintro e w9 ⟨G', vs', rfl, hg⟩
  have h10 := h9.onto hg.below
  have hR := h9.wr.fin (v' := v2.fr 0 k) hv hg
  have hrow := row_put (w := w) (m := v2.most) (t := v2.tgt) (G := G') (p := v2.pl) h10.row (Nat.le_refl _)
  unfold putA at hrow
  have HROW := Lib.hid hrow
  clear x0 x1 x2 x3 hrow hg fc h9
  obtain ⟨z0, z1, z2, z3, z4, z5, z6, z7⟩ := h10.wr.zero
  clear h10
  obtain ⟨hG, p0, p1, p2, p3⟩ := (show Goes w G vs (v2.fr 0 k) G' vs' (putA w w9 v2.most v2.tgt G' v2.pl) ∧ (putA w w9 v2.most v2.tgt G' v2.pl).cell? ⟨w.heap.size + 1, 0, none⟩ = some (.int .i64 v2.most) ∧ (putA w w9 v2.most v2.tgt G' v2.pl).cell? ⟨w.heap.size + 1, 1, none⟩ = some (.int .i64 v2.tgt) ∧ (putA w w9 v2.most v2.tgt G' v2.pl).cell? ⟨w.heap.size + 1, 2, none⟩ = some (.slice (some ⟨G', 0, none⟩) 4 4) ∧ (putA w w9 v2.most v2.tgt G' v2.pl).cell? ⟨w.heap.size + 1, 3, none⟩ = some (.int .i64 v2.pl) from hR)
  unfold putA at hG p0 p1 p2 p3
  have HG := Lib.hid hG
  have HP0 := Lib.hid p0
  have HP1 := Lib.hid p1
  have HP2 := Lib.hid p2
  have HP3 := Lib.hid p3
  clear hG p0 p1 p2 p3
  go_wp2_with fail
  have p0 := HP0.out
  have p1 := HP1.out
  have p2 := HP2.out
  have p3 := HP3.out
  have hG := HG.out
  clear HP0 HP1 HP2 HP3 HG
  generalize ((((w9.setCell ⟨w.heap.size + 1, 0, none⟩ (.int .i64 v2.most)).setCell ⟨w.heap.size + 1, 1, none⟩ (.int .i64 v2.tgt)).setCell ⟨w.heap.size + 1, 2, none⟩ (.slice (some ⟨G', 0, none⟩) 4 4)).setCell ⟨w.heap.size + 1, 3, none⟩ (.int .i64 v2.pl)) = w9 at *
  (try simp only [Exit.inBlock, Exit.then])
  refine bodyPost_ret (v := .tuple #[.agg #[.int .i64 v2.most, .int .i64 v2.tgt, .slice (some ⟨G', 0, none⟩) 4 4, .int .i64 v2.pl], u6]) (by simp [results, Tryz.results61, go_sem, p0, p1, p2, p3]) rfl ?_
  exact ⟨G', vs', _, rfl, hG, Ringy.own_mono HROW.out (by omega)⟩
end
end Go.Proofs.YtncgfnocokippaaGreat.Arcy
