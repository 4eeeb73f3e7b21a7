/- Layer 9 (policy): for every input the call returns true and leaves what it was given as it was: whichever policy it is, all is as that one's, through its bytes, too (PolicyPlays). No condition. -/
import Derived.Test.YtncgfnocokippaaGreatPolicyLoopAll
import Derived.Test.YtncgfnocokippaaGreatSq
namespace Go.Proofs.YtncgfnocokippaaGreat.Policyy
open Go.ChangeShapes Go.WideShapes Go.ChangeAt Go.RowKit Go.Shelf
open Wirey (Blk Row str str_size str_list str_of str_take Kp)
open Ringy hiding fewL fewL_le
open Go.ChangeMaps Go.Maps
open Tinyy (fewL Acts)

set_option maxHeartbeats 8000000 in
set_option maxRecDepth 100000 in
theorem policyPlays_walk (a0 : Int) (_w0 : (Lit.int .i64 a0).wf = true) (a1 : Int) (_w1 : (Lit.int .i64 a1).wf = true) (ao : Option Addr) (n cap sb off : Nat) (K : Nat → Int) (T : Nat → List UInt8) (w : World) (ht : Acts w ao n sb off K T) :
  Calls Tryz.prog 3 #[.int .i64 a0, .int .i64 a1, .slice ao n cap] w fun e w' => e = .returned (.bool true) ∧ Below w.heap.size w w' := by
 obtain ⟨x, hx, hx2⟩ := and_natP a0 1 1 (by decide) (by omega)
 have hx : bits .and .i64 a0 1 = (x : Int) := hx
 obtain ⟨z, hz, hz2⟩ := and_natP a1 15 4 (by decide) (by omega)
 have hz : bits .and .i64 a1 15 = (z : Int) := hz
 have hn63 := ht.n63
 have hkd : 1 + x = 1 ∨ 1 + x = 2 := by omega
 have hN := newP_c (kind := 1 + x) (n := 1 + z) (seed := 5) hkd (by omega) (by omega) (by omega) w
 have hRN := fun W => newD (kind := 1 + x) (n := 1 + z) (seed := 5) hkd (by omega) (by omega) (by omega) W
 have hO0 := Pv.new_out (kind := 1 + x) (n := 1 + z) (seed := 5) (by omega) (by omega) (by omega)
 have hk0 : (Pv.new (1 + x) (1 + z) 5).kind = 1 + x := by
  unfold Pv.new
  split
  ·rename_i e; rw [e]; rfl
  ·show 2 = 1 + x; omega
 simp only [Int.natCast_add] at hN hRN
 generalize Pv.new (1 + x) (1 + z) 5 = p at *
 go_enter Tryz.func3, Tryz.ntmps3
 go_wp2_with fail
 refine hN.mono ?_
 rintro e w1 ⟨C, H, rfl, h1⟩
 go_wp2_with fail
 refine (hRN _).mono ?_
 rintro e w2 ⟨c, I, rfl, hd, hnew, hb2⟩
 have oc := hd.one
 have hs := fun (i : Nat) (a : Addr) (m : Mode) (W : World) => run_store Tryz.prog W a (c i) m (oc i)
 have h2 := h1.later hb2 (Nat.le_refl _)
 have hT0 : Twin w C p H p c I w2 := ⟨h2, hd, fun q hq hi => by have := hnew q hi; have := (h1.own q hq).2; omega, hO0⟩
 have hL0 : Lp w w2.heap.size C p H c I (w2.alloc (.cells #[c 0, c 1, c 2, c 3, c 4, c 5, c 6, c 7, c 8, c 9, c 10, c 11, c 12] 40)) := ⟨hT0.onto ((Below.refl _ w2).alloc (Nat.le_refl _) (.cells #[c 0, c 1, c 2, c 3, c 4, c 5, c 6, c 7, c 8, c 9, c 10, c 11, c 12] 40)), Blk.new w2 40 #[c 0, c 1, c 2, c 3, c 4, c 5, c 6, c 7, c 8, c 9, c 10, c 11, c 12], hT0.fresh (Nat.le_refl _), h2.below.size⟩
 clear hN hRN h1 h2 hd hnew hb2 hT0
 go_upto_region 4 with (fail)
 generalize w2.heap.size = mb at *
 generalize w2.alloc (.cells #[c 0, c 1, c 2, c 3, c 4, c 5, c 6, c 7, c 8, c 9, c 10, c 11, c 12] 40) = w3 at *
 clear hs oc
 go_wp2_with fail
 refine (awakeP_c _).mono ?_
 rintro e w4 ⟨rfl, hb4⟩
 have hL4 := hL0.onto hb4
 clear hL0 hb4
 go_wp2_with fail
 go_loopw [9, 12] (fun v9 i wr => ∃ (j C : Nat) (p : Pv) (H : Nat → Prop) (c : Nat → Value) (I : Nat → Prop), j ≤ n ∧ j ≤ 80 ∧ i = .int .i64 j ∧ v9 = .pointer (some ⟨C, 0, none⟩) ∧ Lp w mb C p H c I wr ∧ p.kind = 1 + x) (fun _ i _ => 80 - (intOf i).toNat)
 case atStart => exact ⟨0, C, p, H, c, I, by omega, by omega, rfl, rfl, hL4, hk0⟩
 case round =>
  obtain ⟨j, C, p, H, c, I, hjn, hj80, rfl, rfl, hL, hkind⟩ := hrel
  clear hL4 hO0 hk0
  by_cases h1 : j < n ∧ j < 80
  ·obtain ⟨h1, h80⟩ := h1
   have d1 : decide ((j : Int) < (n : Int)) = true := decide_eq_true (by omega)
   have d2 : decide ((j : Int) < 80) = true := decide_eq_true (by omega)
   have q1 : (0 : Int) ≤ (j : Int) := by omega
   have q2 : (j : Int) < (n : Int) := by omega
   have hao := ht.ao (by omega)
   have hsb := ht.lt (by omega)
   have hw1 := ht.kind j h1
   have hw2 := ht.key j h1
   have hsize := ht.size j h1
   subst hao
   have hfl := fewP_le (T j)
   generalize K j = q at *
   have hF1 := p.act_kind q (fewL (T j))
   rw [hkind] at hF1
   have HF1 := Lib.hid hF1
   clear hF1 hkind
   go_upto_region 9 with (fail)
   have hLd : Lp w mb C p H c I wr.drew := hL.drewN 1
   have hactd : wr.drew.cell? ⟨sb, off + j * 2, none⟩ = some (.int .i64 q) ∧ wr.drew.cell? ⟨sb, off + j * 2 + 1, none⟩ = some (.string (str (T j))) := ⟨(World.cell?_of_block (hLd.low.block sb hsb)).trans hw1, (World.cell?_of_block (hLd.low.block sb hsb)).trans hw2⟩
   have hS9 : wr.drew.cell? ⟨mb, 0, none⟩ = some (c 0) ∧ wr.drew.cell? ⟨mb, 1, none⟩ = some (c 1) ∧ wr.drew.cell? ⟨mb, 2, none⟩ = some (c 2) ∧ wr.drew.cell? ⟨mb, 3, none⟩ = some (c 3) ∧ wr.drew.cell? ⟨mb, 4, none⟩ = some (c 4) ∧ wr.drew.cell? ⟨mb, 5, none⟩ = some (c 5) ∧ wr.drew.cell? ⟨mb, 6, none⟩ = some (c 6) ∧ wr.drew.cell? ⟨mb, 7, none⟩ = some (c 7) ∧ wr.drew.cell? ⟨mb, 8, none⟩ = some (c 8) ∧ wr.drew.cell? ⟨mb, 9, none⟩ = some (c 9) ∧ wr.drew.cell? ⟨mb, 10, none⟩ = some (c 10) ∧ wr.drew.cell? ⟨mb, 11, none⟩ = some (c 11) ∧ wr.drew.cell? ⟨mb, 12, none⟩ = some (c 12) ∧ wr.drew.cell? ⟨sb, off + j * 2, none⟩ = some (.int .i64 q) ∧ wr.drew.cell? ⟨sb, off + j * 2 + 1, none⟩ = some (.string (str (T j))) := ⟨hLd.box.cell 0, hLd.box.cell 1, hLd.box.cell 2, hLd.box.cell 3, hLd.box.cell 4, hLd.box.cell 5, hLd.box.cell 6, hLd.box.cell 7, hLd.box.cell 8, hLd.box.cell 9, hLd.box.cell 10, hLd.box.cell 11, hLd.box.cell 12, hactd⟩
   have fdA := fun W (h : Lp w mb C p H c I W) => do_c (K := fun q => q = mb) (T j) hsize q (fun q hq => by subst hq; exact ⟨h.box.lt, h.sd⟩) h.two
   generalize hv1 : p.act q (fewL (T j)) = p1 at *
   go_cut [13, 14, 15] from 47 to 57 (fun v13 v14 v15 wx => ∃ (nb C' : Nat) (H' I' : Nat → Prop) (d : Nat → Value), v13 = .pointer (some ⟨C', 0, none⟩) ∧ v14 = .pointer (some ⟨nb, 0, none⟩) ∧ v15 = .bool true ∧ Blk wx nb 40 #[d 0, d 1, d 2, d 3, d 4, d 5, d 6, d 7, d 8, d 9, d 10, d 11, d 12] ∧ Blk wx mb 40 #[c 0, c 1, c 2, c 3, c 4, c 5, c 6, c 7, c 8, c 9, c 10, c 11, c 12] ∧ Side H' I' mb ∧ nb ≠ mb ∧ Twin w C' p1 H' p1 d I' wx)
   case first =>
    refine region_only 15 #[false, false, false, false, false, false, false, false, false, false, false, false, false, false, false] (S := (fun W => W.cell? ⟨mb, 0, none⟩ = some (c 0) ∧ W.cell? ⟨mb, 1, none⟩ = some (c 1) ∧ W.cell? ⟨mb, 2, none⟩ = some (c 2) ∧ W.cell? ⟨mb, 3, none⟩ = some (c 3) ∧ W.cell? ⟨mb, 4, none⟩ = some (c 4) ∧ W.cell? ⟨mb, 5, none⟩ = some (c 5) ∧ W.cell? ⟨mb, 6, none⟩ = some (c 6) ∧ W.cell? ⟨mb, 7, none⟩ = some (c 7) ∧ W.cell? ⟨mb, 8, none⟩ = some (c 8) ∧ W.cell? ⟨mb, 9, none⟩ = some (c 9) ∧ W.cell? ⟨mb, 10, none⟩ = some (c 10) ∧ W.cell? ⟨mb, 11, none⟩ = some (c 11) ∧ W.cell? ⟨mb, 12, none⟩ = some (c 12) ∧ W.cell? ⟨sb, off + j * 2, none⟩ = some (.int .i64 q) ∧ W.cell? ⟨sb, off + j * 2 + 1, none⟩ = some (.string (str (T j))))) rfl rfl (by kernel_rfl) hS9 (fun hSw => ?_)
    refine tkA 0 48 14 ?_ rfl rfl ?_ hSw ?_
    rotate_left
    ·intro wx hSx; (try dsimp only at hSx); go_split_ands; go_simp; (try with_reducible rfl)
    simp only [sA, List.set_cons_zero, sC]
    refine tkA 1 49 13 ?_ rfl rfl ?_ hSw ?_
    rotate_left
    ·intro wx hSx; (try dsimp only at hSx); go_split_ands; go_simp; (try with_reducible rfl)
    simp only [sA, List.set_cons_zero, sC]
    refine tkA 2 50 12 ?_ rfl rfl ?_ hSw ?_
    rotate_left
    ·intro wx hSx; (try dsimp only at hSx); go_split_ands; go_simp; (try with_reducible rfl)
    simp only [sA, List.set_cons_zero, sC]
    refine tkA 3 51 11 ?_ rfl rfl ?_ hSw ?_
    rotate_left
    ·intro wx hSx; (try dsimp only at hSx); go_split_ands; go_simp; (try with_reducible rfl)
    simp only [sA, List.set_cons_zero, sC]
    refine tkA 4 52 10 ?_ rfl rfl ?_ hSw ?_
    rotate_left
    ·intro wx hSx; (try dsimp only at hSx); go_split_ands; go_simp; (try with_reducible rfl)
    simp only [sA, List.set_cons_zero, sC]
    refine tkA 5 53 9 ?_ rfl rfl ?_ hSw ?_
    rotate_left
    ·intro wx hSx; (try dsimp only at hSx); go_split_ands; go_simp; (try with_reducible rfl)
    simp only [sA, List.set_cons_zero, sC]
    refine wpAnyH_ready (fuel := 8) (rs := [6, 11]) (by kernel_rfl) (by simp) (AllReadyH.cons rfl (fun K hK => ?_) (AllReadyH.cons rfl (fun K hK => ?_) AllReadyH.nil))
    ·go_simp
     refine Calls.mono (fdA _ hLd) ?_
     rintro e wv ⟨C', H', d, I', rfl, hT', hKp⟩
     obtain ⟨e1, e2⟩ := hKp mb rfl
     have hb1 : Blk wv mb 40 #[c 0, c 1, c 2, c 3, c 4, c 5, c 6, c 7, c 8, c 9, c 10, c 11, c 12] := e1.trans hLd.box
     have hact' : wv.cell? ⟨sb, off + j * 2, none⟩ = some (.int .i64 q) ∧ wv.cell? ⟨sb, off + j * 2 + 1, none⟩ = some (.string (str (T j))) := ⟨(World.cell?_of_block (hT'.a.below.block sb hsb)).trans hw1, (World.cell?_of_block (hT'.a.below.block sb hsb)).trans hw2⟩
     refine hK.out _ _ ⟨hb1.cell 0, hb1.cell 1, hb1.cell 2, hb1.cell 3, hb1.cell 4, hb1.cell 5, hb1.cell 6, hb1.cell 7, hb1.cell 8, hb1.cell 9, hb1.cell 10, hb1.cell 11, hb1.cell 12, hact'⟩ (fun hSw => ?_)
     clear hK K
     simp only [sA, List.set_cons_zero, sC]
     refine tkA 7 47 7 ?_ rfl rfl ?_ hSw ?_
     rotate_left
     ·intro wx hSx; (try dsimp only at hSx); go_split_ands; go_simp; (try with_reducible rfl)
     simp only [sA, List.set_cons_zero, sC]
     refine tkA 8 55 6 ?_ rfl rfl ?_ hSw ?_
     rotate_left
     ·intro wx hSx; (try dsimp only at hSx); go_split_ands; go_simp; (try with_reducible rfl)
     simp only [sA, List.set_cons_zero, sC]
     refine tkA 9 56 5 ?_ rfl rfl ?_ hSw ?_
     rotate_left
     ·intro wx hSx; (try dsimp only at hSx); go_split_ands; go_simp; (try with_reducible rfl)
     simp only [sA, List.set_cons_zero, sC]
     refine tkA 10 57 4 ?_ rfl rfl ?_ hSw ?_
     rotate_left
     ·intro wx hSx; (try dsimp only at hSx); go_split_ands; go_simp; (try with_reducible rfl)
     simp only [sA, List.set_cons_zero, sC]
     refine rdA 3 11 rfl fun K hK => ?_
     go_simp
     have hb2 := hb1.alloc (.cells #[.int .i64 0, .int .i64 0, .int .i64 0, .slice none 0 0, .int .i64 0, .int .i64 0, .int .i64 0, .int .u64 0, .slice none 0 0, .slice none 0 0, .int .i64 0, .slice none 0 0, .int .i64 0] 40)
     have hsbv : sb < wv.heap.size := Nat.lt_of_lt_of_le hsb hT'.a.below.size
     have hact2 : (wv.alloc (.cells #[.int .i64 0, .int .i64 0, .int .i64 0, .slice none 0 0, .int .i64 0, .int .i64 0, .int .i64 0, .int .u64 0, .slice none 0 0, .slice none 0 0, .int .i64 0, .slice none 0 0, .int .i64 0] 40)).cell? ⟨sb, off + j * 2, none⟩ = some (.int .i64 q) ∧ (wv.alloc (.cells #[.int .i64 0, .int .i64 0, .int .i64 0, .slice none 0 0, .int .i64 0, .int .i64 0, .int .i64 0, .int .u64 0, .slice none 0 0, .slice none 0 0, .int .i64 0, .slice none 0 0, .int .i64 0] 40)).cell? ⟨sb, off + j * 2 + 1, none⟩ = some (.string (str (T j))) := ⟨(World.cell?_of_block (Below.heap_alloc wv _ sb hsbv)).trans hact'.1, (World.cell?_of_block (Below.heap_alloc wv _ sb hsbv)).trans hact'.2⟩
     refine hK.out _ _ ⟨hb2.cell 0, hb2.cell 1, hb2.cell 2, hb2.cell 3, hb2.cell 4, hb2.cell 5, hb2.cell 6, hb2.cell 7, hb2.cell 8, hb2.cell 9, hb2.cell 10, hb2.cell 11, hb2.cell 12, hact2⟩ (fun hSw => ?_)
     clear hK K
     simp only [sA, List.set_cons_zero, sC]
     refine tkA 12 13 2 ?_ rfl rfl ?_ hSw ?_
     rotate_left
     ·intro wx hSx; (try dsimp only at hSx); go_split_ands; go_simp; (try with_reducible rfl)
     simp only [sA, List.set_cons_zero, sC]
     have hbn := Blk.new wv 40 #[.int .i64 0, .int .i64 0, .int .i64 0, .slice none 0 0, .int .i64 0, .int .i64 0, .int .i64 0, .int .u64 0, .slice none 0 0, .slice none 0 0, .int .i64 0, .slice none 0 0, .int .i64 0]
     have hne : wv.heap.size ≠ mb := Nat.ne_of_gt hb1.lt
     have hx9 := hT'.onto ((Below.refl _ wv).alloc (Nat.le_refl _) (.cells #[.int .i64 0, .int .i64 0, .int .i64 0, .slice none 0 0, .int .i64 0, .int .i64 0, .int .i64 0, .int .u64 0, .slice none 0 0, .slice none 0 0, .int .i64 0, .slice none 0 0, .int .i64 0] 40))
     have hns := hT'.fresh (q := wv.heap.size) (Nat.le_refl _)
     have hnl : w.heap.size ≤ wv.heap.size := hT'.a.below.size
     have hsn : sb ≠ wv.heap.size := by omega
     clear hact' hT' hb1
     generalize wv.heap.size = nb at *
     generalize wv.alloc (.cells #[.int .i64 0, .int .i64 0, .int .i64 0, .slice none 0 0, .int .i64 0, .int .i64 0, .int .i64 0, .int .u64 0, .slice none 0 0, .slice none 0 0, .int .i64 0, .slice none 0 0, .int .i64 0] 40) = wa at *
     have od := hx9.d.one
     have hd := fun (i : Nat) (a : Addr) (m : Mode) (W : World) => run_store Tryz.prog W a (d i) m (od i)
     have z0 := hbn.cell 0
     have z1 := hbn.cell 1
     have z2 := hbn.cell 2
     have z3 := hbn.cell 3
     have z4 := hbn.cell 4
     have z5 := hbn.cell 5
     have z6 := hbn.cell 6
     have z7 := hbn.cell 7
     have z8 := hbn.cell 8
     have z9 := hbn.cell 9
     have z10 := hbn.cell 10
     have z11 := hbn.cell 11
     have z12 := hbn.cell 12
     have zf0 := hbn.free 0
     have zf1 := hbn.free 1
     have zf2 := hbn.free 2
     have zf3 := hbn.free 3
     have zf4 := hbn.free 4
     have zf5 := hbn.free 5
     have zf6 := hbn.free 6
     have zf7 := hbn.free 7
     have zf8 := hbn.free 8
     have zf9 := hbn.free 9
     have zf10 := hbn.free 10
     have zf11 := hbn.free 11
     have zf12 := hbn.free 12
     simp only [gA, gB, gC] at z0 z1 z2 z3 z4 z5 z6 z7 z8 z9 z10 z11 z12
     have hbp : Blk (((((((((((((wa.setCell ⟨nb, 0, none⟩ (d 0)).setCell ⟨nb, 1, none⟩ (d 1)).setCell ⟨nb, 2, none⟩ (d 2)).setCell ⟨nb, 3, none⟩ (d 3)).setCell ⟨nb, 4, none⟩ (d 4)).setCell ⟨nb, 5, none⟩ (d 5)).setCell ⟨nb, 6, none⟩ (d 6)).setCell ⟨nb, 7, none⟩ (d 7)).setCell ⟨nb, 8, none⟩ (d 8)).setCell ⟨nb, 9, none⟩ (d 9)).setCell ⟨nb, 10, none⟩ (d 10)).setCell ⟨nb, 11, none⟩ (d 11)).setCell ⟨nb, 12, none⟩ (d 12)) nb 40 #[d 0, d 1, d 2, d 3, d 4, d 5, d 6, d 7, d 8, d 9, d 10, d 11, d 12] := blk13 hbn (d 0) (d 1) (d 2) (d 3) (d 4) (d 5) (d 6) (d 7) (d 8) (d 9) (d 10) (d 11) (d 12)
     have hbm : Blk (((((((((((((wa.setCell ⟨nb, 0, none⟩ (d 0)).setCell ⟨nb, 1, none⟩ (d 1)).setCell ⟨nb, 2, none⟩ (d 2)).setCell ⟨nb, 3, none⟩ (d 3)).setCell ⟨nb, 4, none⟩ (d 4)).setCell ⟨nb, 5, none⟩ (d 5)).setCell ⟨nb, 6, none⟩ (d 6)).setCell ⟨nb, 7, none⟩ (d 7)).setCell ⟨nb, 8, none⟩ (d 8)).setCell ⟨nb, 9, none⟩ (d 9)).setCell ⟨nb, 10, none⟩ (d 10)).setCell ⟨nb, 11, none⟩ (d 11)).setCell ⟨nb, 12, none⟩ (d 12)) mb 40 #[c 0, c 1, c 2, c 3, c 4, c 5, c 6, c 7, c 8, c 9, c 10, c 11, c 12] := far13 hb2 (Ne.symm hne) d
     have hact3 : ((((((((((((((wa.setCell ⟨nb, 0, none⟩ (d 0)).setCell ⟨nb, 1, none⟩ (d 1)).setCell ⟨nb, 2, none⟩ (d 2)).setCell ⟨nb, 3, none⟩ (d 3)).setCell ⟨nb, 4, none⟩ (d 4)).setCell ⟨nb, 5, none⟩ (d 5)).setCell ⟨nb, 6, none⟩ (d 6)).setCell ⟨nb, 7, none⟩ (d 7)).setCell ⟨nb, 8, none⟩ (d 8)).setCell ⟨nb, 9, none⟩ (d 9)).setCell ⟨nb, 10, none⟩ (d 10)).setCell ⟨nb, 11, none⟩ (d 11)).setCell ⟨nb, 12, none⟩ (d 12))).cell? ⟨sb, off + j * 2, none⟩ = some (.int .i64 q) ∧ ((((((((((((((wa.setCell ⟨nb, 0, none⟩ (d 0)).setCell ⟨nb, 1, none⟩ (d 1)).setCell ⟨nb, 2, none⟩ (d 2)).setCell ⟨nb, 3, none⟩ (d 3)).setCell ⟨nb, 4, none⟩ (d 4)).setCell ⟨nb, 5, none⟩ (d 5)).setCell ⟨nb, 6, none⟩ (d 6)).setCell ⟨nb, 7, none⟩ (d 7)).setCell ⟨nb, 8, none⟩ (d 8)).setCell ⟨nb, 9, none⟩ (d 9)).setCell ⟨nb, 10, none⟩ (d 10)).setCell ⟨nb, 11, none⟩ (d 11)).setCell ⟨nb, 12, none⟩ (d 12))).cell? ⟨sb, off + j * 2 + 1, none⟩ = some (.string (str (T j))) := ⟨(far13c wa (a := ⟨sb, off + j * 2, none⟩) hsn d).trans hact2.1, (far13c wa (a := ⟨sb, off + j * 2 + 1, none⟩) hsn d).trans hact2.2⟩
     have hTp := hx9.beside (kp13 wa nb (d 0) (d 1) (d 2) (d 3) (d 4) (d 5) (d 6) (d 7) (d 8) (d 9) (d 10) (d 11) (d 12)) (fun q hq => by subst hq; exact ⟨hnl, hns⟩)
     refine rdA 1 13 rfl fun K hK => ?_
     go_simp
     refine hK.out _ _ ⟨hbm.cell 0, hbm.cell 1, hbm.cell 2, hbm.cell 3, hbm.cell 4, hbm.cell 5, hbm.cell 6, hbm.cell 7, hbm.cell 8, hbm.cell 9, hbm.cell 10, hbm.cell 11, hbm.cell 12, hact3⟩ (fun hSw => ?_)
     clear hK K
     simp only [sA, List.set_cons_zero, sC]
     refine tkA 14 15 0 ?_ rfl rfl ?_ hSw ?_
     rotate_left
     ·intro wx hSx; (try dsimp only at hSx); go_split_ands; go_simp; (try with_reducible rfl)
     simp only [sA, List.set_cons_zero, sC]
     refine wpAnyH_done (by kernel_rfl) ⟨rfl, ?_⟩ 0
     go_wp2_with fail
     go_meet
     exact ⟨nb, C', H', I', d, rfl, rfl, rfl, hbp, hbm, e2, hne, hTp⟩
    ·go_simp
     have hbn := Blk.new wr 40 #[.int .i64 0, .int .i64 0, .int .i64 0, .slice none 0 0, .int .i64 0, .int .i64 0, .int .i64 0, .int .u64 0, .slice none 0 0, .slice none 0 0, .int .i64 0, .slice none 0 0, .int .i64 0]
     have hne : wr.heap.size ≠ mb := Nat.ne_of_gt hL.box.lt
     have hLn : Lp w mb C p H c I (wr.alloc (.cells #[.int .i64 0, .int .i64 0, .int .i64 0, .slice none 0 0, .int .i64 0, .int .i64 0, .int .i64 0, .int .u64 0, .slice none 0 0, .slice none 0 0, .int .i64 0, .slice none 0 0, .int .i64 0] 40)).drew := (hL.onto ((Below.refl _ wr).alloc (Nat.le_refl _) (.cells #[.int .i64 0, .int .i64 0, .int .i64 0, .slice none 0 0, .int .i64 0, .int .i64 0, .int .i64 0, .int .u64 0, .slice none 0 0, .slice none 0 0, .int .i64 0, .slice none 0 0, .int .i64 0] 40))).drewN 1
     have hbn0 : Blk (wr.alloc (.cells #[.int .i64 0, .int .i64 0, .int .i64 0, .slice none 0 0, .int .i64 0, .int .i64 0, .int .i64 0, .int .u64 0, .slice none 0 0, .slice none 0 0, .int .i64 0, .slice none 0 0, .int .i64 0] 40)).drew wr.heap.size 40 #[.int .i64 0, .int .i64 0, .int .i64 0, .slice none 0 0, .int .i64 0, .int .i64 0, .int .i64 0, .int .u64 0, .slice none 0 0, .slice none 0 0, .int .i64 0, .slice none 0 0, .int .i64 0] := hbn
     have hns0 := hL.two.fresh (q := wr.heap.size) (Nat.le_refl _)
     have hnl : w.heap.size ≤ wr.heap.size := hL.low.size
     have hsn : sb ≠ wr.heap.size := by omega
     have hactn : (wr.alloc (.cells #[.int .i64 0, .int .i64 0, .int .i64 0, .slice none 0 0, .int .i64 0, .int .i64 0, .int .i64 0, .int .u64 0, .slice none 0 0, .slice none 0 0, .int .i64 0, .slice none 0 0, .int .i64 0] 40)).drew.cell? ⟨sb, off + j * 2, none⟩ = some (.int .i64 q) ∧ (wr.alloc (.cells #[.int .i64 0, .int .i64 0, .int .i64 0, .slice none 0 0, .int .i64 0, .int .i64 0, .int .i64 0, .int .u64 0, .slice none 0 0, .slice none 0 0, .int .i64 0, .slice none 0 0, .int .i64 0] 40)).drew.cell? ⟨sb, off + j * 2 + 1, none⟩ = some (.string (str (T j))) := ⟨(World.cell?_of_block (hLn.low.block sb hsb)).trans hw1, (World.cell?_of_block (hLn.low.block sb hsb)).trans hw2⟩
     refine hK.out _ _ ⟨hLn.box.cell 0, hLn.box.cell 1, hLn.box.cell 2, hLn.box.cell 3, hLn.box.cell 4, hLn.box.cell 5, hLn.box.cell 6, hLn.box.cell 7, hLn.box.cell 8, hLn.box.cell 9, hLn.box.cell 10, hLn.box.cell 11, hLn.box.cell 12, hactn⟩ (fun hSw => ?_)
     clear hK K hbn
     simp only [sA, List.set_cons_zero, sC]
     generalize wr.heap.size = nb at *
     generalize (wr.alloc (.cells #[.int .i64 0, .int .i64 0, .int .i64 0, .slice none 0 0, .int .i64 0, .int .i64 0, .int .i64 0, .int .u64 0, .slice none 0 0, .slice none 0 0, .int .i64 0, .slice none 0 0, .int .i64 0] 40)).drew = wa at *
     have fdB := fun (Kq : Nat → Prop) (hK : ∀ q, Kq q → q < wa.heap.size ∧ Side H I q) => by have hc := do_c (K := Kq) (T j) hsize q hK hLn.two; rw [hv1] at hc; exact hc
     refine rdA 7 6 rfl fun K hK => ?_
     go_simp
     refine Calls.mono (fdB (fun q => q = mb ∨ q = nb) (fun q hq => by
       rcases hq with rfl | rfl
       · exact ⟨hLn.box.lt, hLn.sd⟩
       · exact ⟨hbn0.lt, hns0⟩)) ?_
     rintro e wv ⟨C', H', d, I', rfl, hT', hKp⟩
     obtain ⟨e1, e2⟩ := hKp mb (.inl rfl)
     obtain ⟨e4, hns⟩ := hKp nb (.inr rfl)
     have hb1 : Blk wv mb 40 #[c 0, c 1, c 2, c 3, c 4, c 5, c 6, c 7, c 8, c 9, c 10, c 11, c 12] := e1.trans hLn.box
     have hbn : Blk wv nb 40 #[.int .i64 0, .int .i64 0, .int .i64 0, .slice none 0 0, .int .i64 0, .int .i64 0, .int .i64 0, .int .u64 0, .slice none 0 0, .slice none 0 0, .int .i64 0, .slice none 0 0, .int .i64 0] := e4.trans hbn0
     have hact' : wv.cell? ⟨sb, off + j * 2, none⟩ = some (.int .i64 q) ∧ wv.cell? ⟨sb, off + j * 2 + 1, none⟩ = some (.string (str (T j))) := ⟨(World.cell?_of_block (hT'.a.below.block sb hsb)).trans hw1, (World.cell?_of_block (hT'.a.below.block sb hsb)).trans hw2⟩
     refine hK.out _ _ ⟨hb1.cell 0, hb1.cell 1, hb1.cell 2, hb1.cell 3, hb1.cell 4, hb1.cell 5, hb1.cell 6, hb1.cell 7, hb1.cell 8, hb1.cell 9, hb1.cell 10, hb1.cell 11, hb1.cell 12, hact'⟩ (fun hSw => ?_)
     clear hK K
     simp only [sA, List.set_cons_zero, sC]
     refine tkA 7 47 6 ?_ rfl rfl ?_ hSw ?_
     rotate_left
     ·intro wx hSx; (try dsimp only at hSx); go_split_ands; go_simp; (try with_reducible rfl)
     simp only [sA, List.set_cons_zero, sC]
     refine tkA 8 55 5 ?_ rfl rfl ?_ hSw ?_
     rotate_left
     ·intro wx hSx; (try dsimp only at hSx); go_split_ands; go_simp; (try with_reducible rfl)
     simp only [sA, List.set_cons_zero, sC]
     refine tkA 9 56 4 ?_ rfl rfl ?_ hSw ?_
     rotate_left
     ·intro wx hSx; (try dsimp only at hSx); go_split_ands; go_simp; (try with_reducible rfl)
     simp only [sA, List.set_cons_zero, sC]
     refine tkA 10 57 3 ?_ rfl rfl ?_ hSw ?_
     rotate_left
     ·intro wx hSx; (try dsimp only at hSx); go_split_ands; go_simp; (try with_reducible rfl)
     simp only [sA, List.set_cons_zero, sC]
     refine tkA 12 13 2 ?_ rfl rfl ?_ hSw ?_
     rotate_left
     ·intro wx hSx; (try dsimp only at hSx); go_split_ands; go_simp; (try with_reducible rfl)
     simp only [sA, List.set_cons_zero, sC]
     have hx9 := hT'
     have hb2 := hb1
     have hact2 := hact'
     clear hT' hb1 hact' hbn0 hLn fdB e4
     have od := hx9.d.one
     have hd := fun (i : Nat) (a : Addr) (m : Mode) (W : World) => run_store Tryz.prog W a (d i) m (od i)
     have z0 := hbn.cell 0
     have z1 := hbn.cell 1
     have z2 := hbn.cell 2
     have z3 := hbn.cell 3
     have z4 := hbn.cell 4
     have z5 := hbn.cell 5
     have z6 := hbn.cell 6
     have z7 := hbn.cell 7
     have z8 := hbn.cell 8
     have z9 := hbn.cell 9
     have z10 := hbn.cell 10
     have z11 := hbn.cell 11
     have z12 := hbn.cell 12
     have zf0 := hbn.free 0
     have zf1 := hbn.free 1
     have zf2 := hbn.free 2
     have zf3 := hbn.free 3
     have zf4 := hbn.free 4
     have zf5 := hbn.free 5
     have zf6 := hbn.free 6
     have zf7 := hbn.free 7
     have zf8 := hbn.free 8
     have zf9 := hbn.free 9
     have zf10 := hbn.free 10
     have zf11 := hbn.free 11
     have zf12 := hbn.free 12
     simp only [gA, gB, gC] at z0 z1 z2 z3 z4 z5 z6 z7 z8 z9 z10 z11 z12
     have hbp : Blk (((((((((((((wv.setCell ⟨nb, 0, none⟩ (d 0)).setCell ⟨nb, 1, none⟩ (d 1)).setCell ⟨nb, 2, none⟩ (d 2)).setCell ⟨nb, 3, none⟩ (d 3)).setCell ⟨nb, 4, none⟩ (d 4)).setCell ⟨nb, 5, none⟩ (d 5)).setCell ⟨nb, 6, none⟩ (d 6)).setCell ⟨nb, 7, none⟩ (d 7)).setCell ⟨nb, 8, none⟩ (d 8)).setCell ⟨nb, 9, none⟩ (d 9)).setCell ⟨nb, 10, none⟩ (d 10)).setCell ⟨nb, 11, none⟩ (d 11)).setCell ⟨nb, 12, none⟩ (d 12)) nb 40 #[d 0, d 1, d 2, d 3, d 4, d 5, d 6, d 7, d 8, d 9, d 10, d 11, d 12] := blk13 hbn (d 0) (d 1) (d 2) (d 3) (d 4) (d 5) (d 6) (d 7) (d 8) (d 9) (d 10) (d 11) (d 12)
     have hbm : Blk (((((((((((((wv.setCell ⟨nb, 0, none⟩ (d 0)).setCell ⟨nb, 1, none⟩ (d 1)).setCell ⟨nb, 2, none⟩ (d 2)).setCell ⟨nb, 3, none⟩ (d 3)).setCell ⟨nb, 4, none⟩ (d 4)).setCell ⟨nb, 5, none⟩ (d 5)).setCell ⟨nb, 6, none⟩ (d 6)).setCell ⟨nb, 7, none⟩ (d 7)).setCell ⟨nb, 8, none⟩ (d 8)).setCell ⟨nb, 9, none⟩ (d 9)).setCell ⟨nb, 10, none⟩ (d 10)).setCell ⟨nb, 11, none⟩ (d 11)).setCell ⟨nb, 12, none⟩ (d 12)) mb 40 #[c 0, c 1, c 2, c 3, c 4, c 5, c 6, c 7, c 8, c 9, c 10, c 11, c 12] := far13 hb2 (Ne.symm hne) d
     have hact3 : ((((((((((((((wv.setCell ⟨nb, 0, none⟩ (d 0)).setCell ⟨nb, 1, none⟩ (d 1)).setCell ⟨nb, 2, none⟩ (d 2)).setCell ⟨nb, 3, none⟩ (d 3)).setCell ⟨nb, 4, none⟩ (d 4)).setCell ⟨nb, 5, none⟩ (d 5)).setCell ⟨nb, 6, none⟩ (d 6)).setCell ⟨nb, 7, none⟩ (d 7)).setCell ⟨nb, 8, none⟩ (d 8)).setCell ⟨nb, 9, none⟩ (d 9)).setCell ⟨nb, 10, none⟩ (d 10)).setCell ⟨nb, 11, none⟩ (d 11)).setCell ⟨nb, 12, none⟩ (d 12))).cell? ⟨sb, off + j * 2, none⟩ = some (.int .i64 q) ∧ ((((((((((((((wv.setCell ⟨nb, 0, none⟩ (d 0)).setCell ⟨nb, 1, none⟩ (d 1)).setCell ⟨nb, 2, none⟩ (d 2)).setCell ⟨nb, 3, none⟩ (d 3)).setCell ⟨nb, 4, none⟩ (d 4)).setCell ⟨nb, 5, none⟩ (d 5)).setCell ⟨nb, 6, none⟩ (d 6)).setCell ⟨nb, 7, none⟩ (d 7)).setCell ⟨nb, 8, none⟩ (d 8)).setCell ⟨nb, 9, none⟩ (d 9)).setCell ⟨nb, 10, none⟩ (d 10)).setCell ⟨nb, 11, none⟩ (d 11)).setCell ⟨nb, 12, none⟩ (d 12))).cell? ⟨sb, off + j * 2 + 1, none⟩ = some (.string (str (T j))) := ⟨(far13c wv (a := ⟨sb, off + j * 2, none⟩) hsn d).trans hact2.1, (far13c wv (a := ⟨sb, off + j * 2 + 1, none⟩) hsn d).trans hact2.2⟩
     have hTp := hx9.beside (kp13 wv nb (d 0) (d 1) (d 2) (d 3) (d 4) (d 5) (d 6) (d 7) (d 8) (d 9) (d 10) (d 11) (d 12)) (fun q hq => by subst hq; exact ⟨hnl, hns⟩)
     refine rdA 1 13 rfl fun K hK => ?_
     go_simp
     refine hK.out _ _ ⟨hbm.cell 0, hbm.cell 1, hbm.cell 2, hbm.cell 3, hbm.cell 4, hbm.cell 5, hbm.cell 6, hbm.cell 7, hbm.cell 8, hbm.cell 9, hbm.cell 10, hbm.cell 11, hbm.cell 12, hact3⟩ (fun hSw => ?_)
     clear hK K
     simp only [sA, List.set_cons_zero, sC]
     refine tkA 14 15 0 ?_ rfl rfl ?_ hSw ?_
     rotate_left
     ·intro wx hSx; (try dsimp only at hSx); go_split_ands; go_simp; (try with_reducible rfl)
     simp only [sA, List.set_cons_zero, sC]
     refine wpAnyH_done (by kernel_rfl) ⟨rfl, ?_⟩ 0
     go_wp2_with fail
     go_meet
     exact ⟨nb, C', H', I', d, rfl, rfl, rfl, hbp, hbm, e2, hne, hTp⟩
   case rest =>
    obtain ⟨nb, C', H', I', d, rfl, rfl, rfl, hbn, hbm, hsm, hne, hT1⟩ := hcut
    have hmbl := hL.mbl
    have od := hT1.d.one
    have hd := fun (i : Nat) (a : Addr) (m : Mode) (W : World) => run_store Tryz.prog W a (d i) m (od i)
    clear hL hLd hactd hS9 fdA
    go_upto_region 10 with (fail)
    have hS10 : wc.drew.cell? ⟨nb, 0, none⟩ = some (d 0) ∧ wc.drew.cell? ⟨nb, 1, none⟩ = some (d 1) ∧ wc.drew.cell? ⟨nb, 2, none⟩ = some (d 2) ∧ wc.drew.cell? ⟨nb, 3, none⟩ = some (d 3) ∧ wc.drew.cell? ⟨nb, 4, none⟩ = some (d 4) ∧ wc.drew.cell? ⟨nb, 5, none⟩ = some (d 5) ∧ wc.drew.cell? ⟨nb, 6, none⟩ = some (d 6) ∧ wc.drew.cell? ⟨nb, 7, none⟩ = some (d 7) ∧ wc.drew.cell? ⟨nb, 8, none⟩ = some (d 8) ∧ wc.drew.cell? ⟨nb, 9, none⟩ = some (d 9) ∧ wc.drew.cell? ⟨nb, 10, none⟩ = some (d 10) ∧ wc.drew.cell? ⟨nb, 11, none⟩ = some (d 11) ∧ wc.drew.cell? ⟨nb, 12, none⟩ = some (d 12) := ⟨hbn.cell 0, hbn.cell 1, hbn.cell 2, hbn.cell 3, hbn.cell 4, hbn.cell 5, hbn.cell 6, hbn.cell 7, hbn.cell 8, hbn.cell 9, hbn.cell 10, hbn.cell 11, hbn.cell 12⟩
    have hbm' := blk_drewP hbm
    have z0 := hbm.cell 0
    have z1 := hbm.cell 1
    have z2 := hbm.cell 2
    have z3 := hbm.cell 3
    have z4 := hbm.cell 4
    have z5 := hbm.cell 5
    have z6 := hbm.cell 6
    have z7 := hbm.cell 7
    have z8 := hbm.cell 8
    have z9 := hbm.cell 9
    have z10 := hbm.cell 10
    have z11 := hbm.cell 11
    have z12 := hbm.cell 12
    have zf0 := hbm.free 0
    have zf1 := hbm.free 1
    have zf2 := hbm.free 2
    have zf3 := hbm.free 3
    have zf4 := hbm.free 4
    have zf5 := hbm.free 5
    have zf6 := hbm.free 6
    have zf7 := hbm.free 7
    have zf8 := hbm.free 8
    have zf9 := hbm.free 9
    have zf10 := hbm.free 10
    have zf11 := hbm.free 11
    have zf12 := hbm.free 12
    simp only [gA, gB, gC] at z0 z1 z2 z3 z4 z5 z6 z7 z8 z9 z10 z11 z12
    have r0 := hbm'.cell 0
    have r1 := hbm'.cell 1
    have r2 := hbm'.cell 2
    have r3 := hbm'.cell 3
    have r4 := hbm'.cell 4
    have r5 := hbm'.cell 5
    have r6 := hbm'.cell 6
    have r7 := hbm'.cell 7
    have r8 := hbm'.cell 8
    have r9 := hbm'.cell 9
    have r10 := hbm'.cell 10
    have r11 := hbm'.cell 11
    have r12 := hbm'.cell 12
    have rf0 := hbm'.free 0
    have rf1 := hbm'.free 1
    have rf2 := hbm'.free 2
    have rf3 := hbm'.free 3
    have rf4 := hbm'.free 4
    have rf5 := hbm'.free 5
    have rf6 := hbm'.free 6
    have rf7 := hbm'.free 7
    have rf8 := hbm'.free 8
    have rf9 := hbm'.free 9
    have rf10 := hbm'.free 10
    have rf11 := hbm'.free 11
    have rf12 := hbm'.free 12
    simp only [gA, gB, gC] at r0 r1 r2 r3 r4 r5 r6 r7 r8 r9 r10 r11 r12
    have hbq : Blk (((((((((((((wc.setCell ⟨mb, 0, none⟩ (d 0)).setCell ⟨mb, 1, none⟩ (d 1)).setCell ⟨mb, 2, none⟩ (d 2)).setCell ⟨mb, 3, none⟩ (d 3)).setCell ⟨mb, 4, none⟩ (d 4)).setCell ⟨mb, 5, none⟩ (d 5)).setCell ⟨mb, 6, none⟩ (d 6)).setCell ⟨mb, 7, none⟩ (d 7)).setCell ⟨mb, 8, none⟩ (d 8)).setCell ⟨mb, 9, none⟩ (d 9)).setCell ⟨mb, 10, none⟩ (d 10)).setCell ⟨mb, 11, none⟩ (d 11)).setCell ⟨mb, 12, none⟩ (d 12)) nb 40 #[d 0, d 1, d 2, d 3, d 4, d 5, d 6, d 7, d 8, d 9, d 10, d 11, d 12] := far13 hbn hne d
    have hbr := blk_drewP hbq
    refine region_only 4 #[false, false, false, false] (S := (fun W => W.cell? ⟨nb, 0, none⟩ = some (d 0) ∧ W.cell? ⟨nb, 1, none⟩ = some (d 1) ∧ W.cell? ⟨nb, 2, none⟩ = some (d 2) ∧ W.cell? ⟨nb, 3, none⟩ = some (d 3) ∧ W.cell? ⟨nb, 4, none⟩ = some (d 4) ∧ W.cell? ⟨nb, 5, none⟩ = some (d 5) ∧ W.cell? ⟨nb, 6, none⟩ = some (d 6) ∧ W.cell? ⟨nb, 7, none⟩ = some (d 7) ∧ W.cell? ⟨nb, 8, none⟩ = some (d 8) ∧ W.cell? ⟨nb, 9, none⟩ = some (d 9) ∧ W.cell? ⟨nb, 10, none⟩ = some (d 10) ∧ W.cell? ⟨nb, 11, none⟩ = some (d 11) ∧ W.cell? ⟨nb, 12, none⟩ = some (d 12))) rfl rfl (by kernel_rfl) hS10 (fun hSw => ?_)
    refine tkA 0 58 3 ?_ rfl rfl ?_ hSw ?_
    rotate_left
    ·intro wx hSx; (try dsimp only at hSx); go_split_ands; go_simp; (try with_reducible rfl)
    simp only [sA, List.set_cons_zero, sC]
    refine tkA 1 59 2 ?_ rfl rfl ?_ hSw ?_
    rotate_left
    ·intro wx hSx; (try dsimp only at hSx); go_split_ands; go_simp; (try with_reducible rfl)
    simp only [sA, List.set_cons_zero, sC]
    refine tkA 2 9 1 ?_ rfl rfl ?_ hSw ?_
    rotate_left
    ·intro wx hSx; (try dsimp only at hSx); go_split_ands; go_simp; (try with_reducible rfl)
    simp only [sA, List.set_cons_zero, sC]
    refine rdA 0 3 rfl fun K hK => ?_
    go_simp
    refine hK.out _ _ ⟨hbr.cell 0, hbr.cell 1, hbr.cell 2, hbr.cell 3, hbr.cell 4, hbr.cell 5, hbr.cell 6, hbr.cell 7, hbr.cell 8, hbr.cell 9, hbr.cell 10, hbr.cell 11, hbr.cell 12⟩ (fun hSw => ?_)
    clear hK K
    simp only [sA, List.set_cons_zero, sC]
    refine wpAnyH_done (by kernel_rfl) ⟨rfl, ?_⟩ 0
    have hLp : Lp w mb C' p1 H' d I' ((((((((((((((wc.setCell ⟨mb, 0, none⟩ (d 0)).setCell ⟨mb, 1, none⟩ (d 1)).setCell ⟨mb, 2, none⟩ (d 2)).setCell ⟨mb, 3, none⟩ (d 3)).setCell ⟨mb, 4, none⟩ (d 4)).setCell ⟨mb, 5, none⟩ (d 5)).setCell ⟨mb, 6, none⟩ (d 6)).setCell ⟨mb, 7, none⟩ (d 7)).setCell ⟨mb, 8, none⟩ (d 8)).setCell ⟨mb, 9, none⟩ (d 9)).setCell ⟨mb, 10, none⟩ (d 10)).setCell ⟨mb, 11, none⟩ (d 11)).setCell ⟨mb, 12, none⟩ (d 12))).drew := (lp_lay hT1 hbm hsm hmbl).drewN 1
    clear hSw hS10 hbn hbm hbm' hbq hbr hT1
    clear z0 zf0 z1 zf1 z2 zf2 z3 zf3 z4 zf4 z5 zf5 z6 zf6 z7 zf7 z8 zf8 z9 zf9 z10 zf10 z11 zf11 z12 zf12
    clear r0 rf0 r1 rf1 r2 rf2 r3 rf3 r4 rf4 r5 rf5 r6 rf6 r7 rf7 r8 rf8 r9 rf9 r10 rf10 r11 rf11 r12 rf12
    have ff := fun W (h : Lp w mb C' p1 H' d I' W) => lp_few (T j) hsize h
    have fh := fun W (h : Lp w mb C' p1 H' d I' W) => lp_has (k := fewL (T j)) hfl h
    have fr := fun W (h : Lp w mb C' p1 H' d I' W) => lp_rhas (k := fewL (T j)) h
    have fn := fun W (h : Lp w mb C' p1 H' d I' W) => lp_len h
    have fm := fun W (h : Lp w mb C' p1 H' d I' W) => lp_rlen h
    go_upto_region 11 with (fail)
    generalize ((((((((((((((wc.setCell ⟨mb, 0, none⟩ (d 0)).setCell ⟨mb, 1, none⟩ (d 1)).setCell ⟨mb, 2, none⟩ (d 2)).setCell ⟨mb, 3, none⟩ (d 3)).setCell ⟨mb, 4, none⟩ (d 4)).setCell ⟨mb, 5, none⟩ (d 5)).setCell ⟨mb, 6, none⟩ (d 6)).setCell ⟨mb, 7, none⟩ (d 7)).setCell ⟨mb, 8, none⟩ (d 8)).setCell ⟨mb, 9, none⟩ (d 9)).setCell ⟨mb, 10, none⟩ (d 10)).setCell ⟨mb, 11, none⟩ (d 11)).setCell ⟨mb, 12, none⟩ (d 12))).drew = w5 at *
    have hS11 := (hLp.drewN 1).alls hsb hw2
    generalize fewL (T j) = k at *
    refine region_only 28 #[false, false, false, false, false, false, false, false, false, false, false, false, false, false, false, false, false, false, false, false, false, false, false, false, false, false, false, false] (S := (fun W => (W.cell? ⟨mb, 0, none⟩ = some (d 0) ∧ W.cell? ⟨mb, 1, none⟩ = some (d 1) ∧ W.cell? ⟨mb, 2, none⟩ = some (d 2) ∧ W.cell? ⟨mb, 3, none⟩ = some (d 3) ∧ W.cell? ⟨mb, 4, none⟩ = some (d 4) ∧ W.cell? ⟨mb, 5, none⟩ = some (d 5) ∧ W.cell? ⟨mb, 6, none⟩ = some (d 6) ∧ W.cell? ⟨mb, 7, none⟩ = some (d 7) ∧ W.cell? ⟨mb, 8, none⟩ = some (d 8) ∧ W.cell? ⟨mb, 9, none⟩ = some (d 9) ∧ W.cell? ⟨mb, 10, none⟩ = some (d 10) ∧ W.cell? ⟨mb, 11, none⟩ = some (d 11) ∧ W.cell? ⟨mb, 12, none⟩ = some (d 12)) ∧ W.cell? ⟨sb, off + j * 2 + 1, none⟩ = some (.string (str (T j))) ∧ Lp w mb C' p1 H' d I' W)) rfl rfl (by kernel_rfl) hS11 (fun hSw => ?_)
    refine tkA 0 60 27 ?_ rfl rfl ?_ hSw ?_
    rotate_left
    ·intro wx hSx; (try dsimp only at hSx); go_split_ands; go_simp; (try with_reducible rfl)
    simp only [sA, List.set_cons_zero, sC]
    refine tkA 1 61 26 ?_ rfl rfl ?_ hSw ?_
    rotate_left
    ·intro wx hSx; (try dsimp only at hSx); go_split_ands; go_simp; (try with_reducible rfl)
    simp only [sA, List.set_cons_zero, sC]
    refine tkA 2 62 25 ?_ rfl rfl ?_ hSw ?_
    rotate_left
    ·intro wx hSx; (try dsimp only at hSx); go_split_ands; go_simp; (try with_reducible rfl)
    simp only [sA, List.set_cons_zero, sC]
    refine tkA 3 63 24 ?_ rfl rfl ?_ hSw ?_
    rotate_left
    ·intro wx hSx; (try dsimp only at hSx); go_split_ands; go_simp; (try with_reducible rfl)
    simp only [sA, List.set_cons_zero, sC]
    refine tkA 5 65 23 ?_ rfl rfl ?_ hSw ?_
    rotate_left
    ·intro wx hSx; (try dsimp only at hSx); go_split_ands; go_simp; (try with_reducible rfl)
    simp only [sA, List.set_cons_zero, sC]
    refine rdA 22 4 rfl fun K hK => ?_
    go_simp
    refine Calls.mono (fn _ hSw.2.2) ?_
    rintro e wv ⟨rfl, hwv⟩
    refine hK.out _ _ (hwv.alls hsb hw2) (fun hSw => ?_)
    clear hK K
    simp only [sA, List.set_cons_zero, sC]
    refine rdA 21 6 rfl fun K hK => ?_
    go_simp
    refine Calls.mono (fm _ hSw.2.2) ?_
    rintro e wv ⟨rfl, hwv⟩
    refine hK.out _ _ (hwv.alls hsb hw2) (fun hSw => ?_)
    clear hK K
    simp only [sA, List.set_cons_zero, sC]
    refine tkA 7 67 20 ?_ rfl rfl ?_ hSw ?_
    rotate_left
    ·intro wx hSx; (try dsimp only at hSx); go_split_ands; go_simp; (try with_reducible rfl)
    simp only [sA, List.set_cons_zero, sC]
    refine tkA 8 68 19 ?_ rfl rfl ?_ hSw ?_
    rotate_left
    ·intro wx hSx; (try dsimp only at hSx); go_split_ands; go_simp; (try with_reducible rfl)
    simp only [sA, List.set_cons_zero, sC]
    refine tkA 9 69 18 ?_ rfl rfl ?_ hSw ?_
    rotate_left
    ·intro wx hSx; (try dsimp only at hSx); go_split_ands; go_simp; (try with_reducible rfl)
    simp only [sA, List.set_cons_zero, sC]
    refine tkA 10 70 17 ?_ rfl rfl ?_ hSw ?_
    rotate_left
    ·intro wx hSx; (try dsimp only at hSx); go_split_ands; go_simp; (try with_reducible rfl)
    simp only [sA, List.set_cons_zero, sC]
    refine tkA 11 71 16 ?_ rfl rfl ?_ hSw ?_
    rotate_left
    ·intro wx hSx; (try dsimp only at hSx); go_split_ands; go_simp; (try with_reducible rfl)
    simp only [sA, List.set_cons_zero, sC]
    refine tkA 12 72 15 ?_ rfl rfl ?_ hSw ?_
    rotate_left
    ·intro wx hSx; (try dsimp only at hSx); go_split_ands; go_simp; (try with_reducible rfl)
    simp only [sA, List.set_cons_zero, sC]
    refine tkA 13 73 14 ?_ rfl rfl ?_ hSw ?_
    rotate_left
    ·intro wx hSx; (try dsimp only at hSx); go_split_ands; go_simp; (try with_reducible rfl)
    simp only [sA, List.set_cons_zero, sC]
    refine tkA 14 74 13 ?_ rfl rfl ?_ hSw ?_
    rotate_left
    ·intro wx hSx; (try dsimp only at hSx); go_split_ands; go_simp; (try with_reducible rfl)
    simp only [sA, List.set_cons_zero, sC]
    refine tkA 15 75 12 ?_ rfl rfl ?_ hSw ?_
    rotate_left
    ·intro wx hSx; (try dsimp only at hSx); go_split_ands; go_simp; (try with_reducible rfl)
    simp only [sA, List.set_cons_zero, sC]
    refine tkA 18 78 11 ?_ rfl rfl ?_ hSw ?_
    rotate_left
    ·intro wx hSx; (try dsimp only at hSx); go_split_ands; go_simp; (try with_reducible rfl)
    simp only [sA, List.set_cons_zero, sC]
    refine tkA 19 79 10 ?_ rfl rfl ?_ hSw ?_
    rotate_left
    ·intro wx hSx; (try dsimp only at hSx); go_split_ands; go_simp; (try with_reducible rfl)
    simp only [sA, List.set_cons_zero, sC]
    refine tkA 20 80 9 ?_ rfl rfl ?_ hSw ?_
    rotate_left
    ·intro wx hSx; (try dsimp only at hSx); go_split_ands; go_simp; (try with_reducible rfl)
    simp only [sA, List.set_cons_zero, sC]
    refine tkA 21 81 8 ?_ rfl rfl ?_ hSw ?_
    rotate_left
    ·intro wx hSx; (try dsimp only at hSx); go_split_ands; go_simp; (try with_reducible rfl)
    simp only [sA, List.set_cons_zero, sC]
    refine tkA 22 82 7 ?_ rfl rfl ?_ hSw ?_
    rotate_left
    ·intro wx hSx; (try dsimp only at hSx); go_split_ands; go_simp; (try with_reducible rfl)
    simp only [sA, List.set_cons_zero, sC]
    refine tkA 23 83 6 ?_ rfl rfl ?_ hSw ?_
    rotate_left
    ·intro wx hSx; (try dsimp only at hSx); go_split_ands; go_simp; (try with_reducible rfl)
    simp only [sA, List.set_cons_zero, sC]
    refine rdA 5 16 rfl fun K hK => ?_
    go_simp
    refine Calls.mono (ff _ hSw.2.2) ?_
    rintro e wv ⟨rfl, hwv⟩
    refine hK.out _ _ (hwv.alls hsb hw2) (fun hSw => ?_)
    clear hK K
    simp only [sA, List.set_cons_zero, sC]
    refine rdA 4 17 rfl fun K hK => ?_
    go_simp
    refine Calls.mono (fh _ hSw.2.2) ?_
    rintro e wv ⟨rfl, hwv⟩
    refine hK.out _ _ (hwv.alls hsb hw2) (fun hSw => ?_)
    clear hK K
    simp only [sA, List.set_cons_zero, sC]
    refine rdA 3 24 rfl fun K hK => ?_
    go_simp
    refine Calls.mono (ff _ hSw.2.2) ?_
    rintro e wv ⟨rfl, hwv⟩
    refine hK.out _ _ (hwv.alls hsb hw2) (fun hSw => ?_)
    clear hK K
    simp only [sA, List.set_cons_zero, sC]
    refine rdA 2 25 rfl fun K hK => ?_
    go_simp
    refine Calls.mono (fr _ hSw.2.2) ?_
    rintro e wv ⟨rfl, hwv⟩
    refine hK.out _ _ (hwv.alls hsb hw2) (fun hSw => ?_)
    clear hK K
    simp only [sA, List.set_cons_zero, sC]
    refine tkA 26 86 1 ?_ rfl rfl ?_ hSw ?_
    rotate_left
    ·intro wx hSx; (try dsimp only at hSx); go_split_ands; go_simp; (try with_reducible rfl)
    simp only [sA, List.set_cons_zero, sC]
    refine tkA 27 87 0 ?_ rfl rfl ?_ hSw ?_
    rotate_left
    ·intro wx hSx; (try dsimp only at hSx); go_split_ands; go_simp; (try with_reducible rfl)
    simp only [sA, List.set_cons_zero, sC]
    refine wpAnyH_done (by kernel_rfl) ⟨rfl, ?_⟩ 0
    have hZ := hSw.2.2
    clear hSw hS11 hLp ff fh fr fn fm
    go_wp2_with fail
    go_roundw
    case rel => exact ⟨j + 1, C', p1, H', d, I', by omega, by omega, by simp, rfl, hZ, HF1.out⟩
    case measure => simp [intOf]; omega
  ·have hend : (j < n ∧ ¬ j < 80 ∧ decide ((j : Int) < (n : Int)) = true ∧ decide ((j : Int) < 80) = false) ∨ (¬ j < n ∧ decide ((j : Int) < (n : Int)) = false) := by
    by_cases h : j < n
    ·exact .inl ⟨h, by omega, decide_eq_true (by omega), decide_eq_false (by omega)⟩
    ·exact .inr ⟨h, decide_eq_false (by omega)⟩
   clear h1
   have fe := fun W (h : Lp w mb C p H c I W) => lp_exp h
   have fp := fun W (h : Lp w mb C p H c I W) => lp_put h
   have fk := fun W (h : Lp w mb C p H c I W) => lp_kind hkind h
   simp only [Int.natCast_add] at fk
   have htl := Wirey.toList_str
   rcases hend with ⟨h2, h3, d1, d2⟩ | ⟨h2, d1⟩
   all_goals
    go_upto_region 13 with (fail)
    have hS13 := (hL.drewN 1).all
    refine region_only 12 #[false, false, false, false, false, false, false, false, false, false, false, false] (S := (fun W => (W.cell? ⟨mb, 0, none⟩ = some (c 0) ∧ W.cell? ⟨mb, 1, none⟩ = some (c 1) ∧ W.cell? ⟨mb, 2, none⟩ = some (c 2) ∧ W.cell? ⟨mb, 3, none⟩ = some (c 3) ∧ W.cell? ⟨mb, 4, none⟩ = some (c 4) ∧ W.cell? ⟨mb, 5, none⟩ = some (c 5) ∧ W.cell? ⟨mb, 6, none⟩ = some (c 6) ∧ W.cell? ⟨mb, 7, none⟩ = some (c 7) ∧ W.cell? ⟨mb, 8, none⟩ = some (c 8) ∧ W.cell? ⟨mb, 9, none⟩ = some (c 9) ∧ W.cell? ⟨mb, 10, none⟩ = some (c 10) ∧ W.cell? ⟨mb, 11, none⟩ = some (c 11) ∧ W.cell? ⟨mb, 12, none⟩ = some (c 12)) ∧ Lp w mb C p H c I W)) rfl rfl (by kernel_rfl) hS13 (fun hSw => ?_)
    refine tkA 0 88 11 ?_ rfl rfl ?_ hSw ?_
    rotate_left
    ·intro wx hSx; (try dsimp only at hSx); go_split_ands; go_simp; (try with_reducible rfl)
    simp only [sA, List.set_cons_zero, sC]
    refine tkA 2 90 10 ?_ rfl rfl ?_ hSw ?_
    rotate_left
    ·intro wx hSx; (try dsimp only at hSx); go_split_ands; go_simp; (try with_reducible rfl)
    simp only [sA, List.set_cons_zero, sC]
    refine rdA 9 1 rfl fun K hK => ?_
    go_simp
    refine Calls.mono (fe _ hSw.2) ?_
    rintro e wv ⟨rfl, hwv⟩
    refine hK.out _ _ hwv.all (fun hSw => ?_)
    clear hK K
    simp only [sA, List.set_cons_zero, sC]
    refine rdA 8 3 rfl fun K hK => ?_
    go_simp
    refine Calls.mono (fp _ hSw.2) ?_
    rintro e wv ⟨rfl, hwv⟩
    refine hK.out _ _ hwv.all (fun hSw => ?_)
    clear hK K
    simp only [sA, List.set_cons_zero, sC]
    refine tkA 4 92 7 ?_ rfl rfl ?_ hSw ?_
    rotate_left
    ·intro wx hSx; (try dsimp only at hSx); go_split_ands; go_simp; (try with_reducible rfl)
    simp only [sA, List.set_cons_zero, sC]
    refine tkA 5 93 6 ?_ rfl rfl ?_ hSw ?_
    rotate_left
    ·intro wx hSx; (try dsimp only at hSx); go_split_ands; go_simp; (try with_reducible rfl)
    simp only [sA, List.set_cons_zero, sC]
    refine tkA 6 94 5 ?_ rfl rfl ?_ hSw ?_
    rotate_left
    ·intro wx hSx; (try dsimp only at hSx); go_split_ands; go_simp; (try with_reducible rfl)
    simp only [sA, List.set_cons_zero, sC]
    refine tkA 8 96 4 ?_ rfl rfl ?_ hSw ?_
    rotate_left
    ·intro wx hSx; (try dsimp only at hSx); go_split_ands; go_simp; (try with_reducible rfl)
    simp only [sA, List.set_cons_zero, sC]
    refine rdA 3 7 rfl fun K hK => ?_
    go_simp
    refine Calls.mono (fk _ hSw.2) ?_
    rintro e wv ⟨rfl, hwv⟩
    refine hK.out _ _ hwv.all (fun hSw => ?_)
    clear hK K
    simp only [sA, List.set_cons_zero, sC]
    refine tkA 9 97 2 ?_ rfl rfl ?_ hSw ?_
    rotate_left
    ·intro wx hSx; (try dsimp only at hSx); go_split_ands; go_simp; (try with_reducible rfl)
    simp only [sA, List.set_cons_zero, sC]
    refine tkA 10 98 1 ?_ rfl rfl ?_ hSw ?_
    rotate_left
    ·intro wx hSx; (try dsimp only at hSx); go_split_ands; go_simp; (try with_reducible rfl)
    simp only [sA, List.set_cons_zero, sC]
    refine tkA 11 6 0 ?_ rfl rfl ?_ hSw ?_
    rotate_left
    ·intro wx hSx; (try dsimp only at hSx); go_split_ands; go_simp; (try with_reducible rfl)
    simp only [sA, List.set_cons_zero, sC]
    refine wpAnyH_done (by kernel_rfl) ⟨rfl, ?_⟩ 0
    have hZ := hSw.2
    clear hSw hS13
    go_wp2_with fail
    go_ret
    exact ⟨rfl, hZ.low⟩
set_option linter.unusedVariables false in
set_option maxRecDepth 100000 in
theorem policyPlays_lifted (os : Os) (started : os.Started) (H : Type) (enc : TypeId × Value → H) :
  ReturnsInHanded {} Tryz.checked os 3 .any (Rows.policyPlaysSpec.pre6 enc Tryz.prog Tryz.f3 Rows.policyPlaysRow.domain false) (Rows.policyPlaysSpec.post enc Tryz.prog Tryz.f3 false true false false) := by
 refine returnsInHanded_of_change (C := Tryz.checked) Kit.own started (by kernel_rfl) Tryz.func3
  (ChangeSpec.witness6 (enc := enc) (C := Tryz.checked) false ⟨#[], #[.int .i64 0, .int .i64 0, .slice none 0 0], []⟩ 8 (by kernel_rfl) (by kernel_rfl) (by kernel_rfl) (by kernel_rfl)) ?_
 intro W base args ds gs before hval0 hW hcnd _
 have hval : ∀ (j : Nat) t v, Tryz.f3.params[j]? = some t → args[j]? = some v → Value.okWide Tryz.prog W .any base t v := hval0
 have hW' := hW
 obtain ⟨p, q, hA0, hV, rfl, hfz, hnd⟩ := hW
 have hA : DataW.TrodAll enc Tryz.prog W 0 (fun _ => true) true Tryz.f3.params.toList args.toList ds p := hA0
 rw [Tryz.params3] at hA hval
 obtain ⟨v0, vs0, d0, ds0, p0, q0, hargs, rfl, rfl, h0, r0⟩ := trodAll_cons hA
 obtain ⟨v1, vs1, d1, ds1, p1, q1, rfl, rfl, rfl, h1, r1⟩ := trodAll_cons r0
 obtain ⟨v2, vs2, d2, ds2, p2, q2, rfl, rfl, rfl, h2, r2⟩ := trodAll_cons r1
 obtain ⟨rfl, rfl, rfl⟩ := trodAll_nil r2
 obtain ⟨rfl, rfl⟩ := trodVars_none hV
 obtain rfl : args = #[v0, v1, v2] := by cases args; simp_all
 obtain ⟨a0, rfl, rfl, rfl, w0⟩ := open_int Tryz.underlying3 (hval 0 3 v0 rfl rfl) h0
 obtain ⟨a1, rfl, rfl, rfl, w1⟩ := open_int Tryz.underlying3 (hval 1 3 v1 rfl rfl) h1
 obtain ⟨b2, c2, e2, rfl⟩ := okWide_slice Tryz.underlying22 (hval 2 22 v2 rfl rfl)
 obtain ⟨fuel2, hf2⟩ := h2
 obtain ⟨ao2, len2, cap2, sb2, off2, kx2, tx2, hv2, ht2⟩ := open_acts (show DataW.trod enc Tryz.prog W 0 (fun _ => true) true fuel2 22 [.slice b2 c2 e2] = some _ from hf2)
 injection hv2 with hv2x hv2y hv2z
 subst hv2x hv2y hv2z
 clear hA0 hval0
 refine (policyPlays_walk a0 w0 a1 w1 _ _ _ _ _ _ _ W ht2).mono fun e W' ⟨he, hg⟩ => ?_
 subst he
 exact ⟨_, rfl, Kit.law_post hW' rfl (by kernel_rfl) rfl (by kernel_rfl) hg⟩

theorem policyPlays_over : Rows.policyPlaysRow.holds Tryz.pinned (OpenSpec.ofChange Rows.policyPlaysSpec) :=
 OpenClaim.holds_of_wide 3 Tryz.f3 rfl rfl rfl rfl rfl rfl rfl ⟨rfl, rfl, rfl, rfl, rfl⟩ rfl rfl rfl rfl rfl (by kernel_rfl) Tryz.func3 (by kernel_rfl)
  (of_decide_eq_true (by kernel_rfl)) (by unfold Func.isWrapper; first | (rw [if_pos (by decide +kernel)]; kernel_rfl) | (rw [if_neg (by decide +kernel)]; exact ⟨rfl, rfl⟩))
  (fun os started H enc _ => policyPlays_lifted os started H enc)

theorem policyPlays_holds : Rows.PolicyPlaysSaid :=
 policyPlays_over

end Go.Proofs.YtncgfnocokippaaGreat.Policyy
