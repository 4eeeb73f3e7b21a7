/- Layer 9: one act done to the program's policy and to the document's: touching, removing, missing. The only condition: both are the same, and as chapters 7 and 8 have it. -/
import Derived.Test.YtncgfnocokippaaGreatPolicyDoing
import Derived.BigQuiet
import Derived.Test.YtncgfnocokippaaGreatSq
namespace Go.Proofs.YtncgfnocokippaaGreat.Policyy
open Go.ChangeShapes Go.WideShapes Go.ChangeAt Go.RowKit Go.Shelf
open Wirey (Blk Row str str_size str_list str_cat Kp)
open Ringy hiding fewL fewL_le
open Go.ChangeMaps Go.Maps
open Tinyy (fewL results_tmp_row_tmp row_cell)

section
variable {w0 w x y : World} {C C' : Nat} {p p' u u' : Pv} {H H' I I' K : Nat → Prop} {c c0 c' : Nat → Value} {k : Key} {i j : Nat}
set_option maxHeartbeats 8000000 in
set_option maxRecDepth 100000 in
theorem do_touch4 (T : List UInt8) (hT : T.length ≤ maxLen) (hK : ∀ q, K q → q < w.heap.size ∧ Side H I q) (h : Twin w0 C p H p c I w) :
  Calls Tryz.prog 8 #[.pointer (some ⟨C, 0, none⟩), .agg #[c 0, c 1, c 2, c 3, c 4, c 5, c 6, c 7, c 8, c 9, c 10, c 11, c 12], .agg #[.int .i64 4, .string (str T)]] w (DoP w0 K w (p.touch (fewL T))) := by
 have h1 := Ds.new (a := .int .i64 4) (b := .string (str T)) hK h
 have hg := h.g
 have hact := act_blk (a := .int .i64 4) (b := .string (str T)) (x := w.alloc (.cells #[c 0, c 1, c 2, c 3, c 4, c 5, c 6, c 7, c 8, c 9, c 10, c 11, c 12] 40))
 rw [show (w.alloc (.cells #[c 0, c 1, c 2, c 3, c 4, c 5, c 6, c 7, c 8, c 9, c 10, c 11, c 12] 40)).heap.size = w.heap.size + 1 by simp] at hact
 have hfl := fewP_le T
 have hfw := fun W => fewP_c T hT W
 have oc := h.d.one
 have hs := fun (i : Nat) (a : Addr) (m : Mode) (W : World) => run_store Tryz.prog W a (c i) m (oc i)
 clear h hK
 go_enter Tryz.func8, Tryz.ntmps8
 go_upto_region 1 with (fail)
 generalize ((w.alloc (.cells #[c 0, c 1, c 2, c 3, c 4, c 5, c 6, c 7, c 8, c 9, c 10, c 11, c 12] 40)).alloc (.cells #[.int .i64 4, .string (str T)] 46)).alloc (.cells #[.int .i64 0, .int .i64 0, .int .i64 0, .slice none 0 0, .int .i64 0, .int .i64 0, .int .i64 0, .int .u64 0, .slice none 0 0, .slice none 0 0, .int .i64 0, .slice none 0 0, .int .i64 0] 40) = w1 at *
 obtain ⟨k0, k1⟩ := hact
 generalize hkk : fewL T = k at *
 go_wp2_with fail
 refine (hfw _).mono ?_
 rintro e w' ⟨rfl, rfl⟩
 clear hkk hfw
 have x0 := h1.box.cell 0
 have x1 := h1.box.cell 1
 have x2 := h1.box.cell 2
 have x3 := h1.box.cell 3
 have x4 := h1.box.cell 4
 have x5 := h1.box.cell 5
 have x6 := h1.box.cell 6
 have x7 := h1.box.cell 7
 have x8 := h1.box.cell 8
 have x9 := h1.box.cell 9
 have x10 := h1.box.cell 10
 have x11 := h1.box.cell 11
 have x12 := h1.box.cell 12
 simp only [gA, gB, gC] at x0 x1 x2 x3 x4 x5 x6 x7 x8 x9 x10 x11 x12
 have HG := Lib.hid (hg.touch k)
 have fd := touchD (k := k) hg w1 h1.two.d
 go_wp2_with fail
 refine fd.mono ?_
 rintro e w4 ⟨d, J, rfl, hgo⟩
 have od := hgo.d.one
 have hd := fun (i : Nat) (a : Addr) (m : Mode) (W : World) => run_store Tryz.prog W a (d i) m (od i)
 have h3 := h1.goes hgo HG.out
 have h4 := h3.onto ((Below.refl _ w4).alloc (Nat.le_refl _) (.cells #[d 0, d 1, d 2, d 3, d 4, d 5, d 6, d 7, d 8, d 9, d 10, d 11, d 12] 40))
 have hb4 := Blk.new w4 40 #[d 0, d 1, d 2, d 3, d 4, d 5, d 6, d 7, d 8, d 9, d 10, d 11, d 12]
 have hs4 := h3.two.fresh (q := w4.heap.size) (Nat.le_refl _)
 have hq2 : w4.heap.size ≠ w.heap.size + 2 := by have := h3.hi; omega
 clear x0 x1 x2 x3 x4 x5 x6 x7 x8 x9 x10 x11 x12 k0 k1
 clear fd h1 hgo h3
 go_upto_region 6 with (fail)
 generalize w4.heap.size = z at *
 generalize w4.alloc (.cells #[d 0, d 1, d 2, d 3, d 4, d 5, d 6, d 7, d 8, d 9, d 10, d 11, d 12] 40) = w5 at *
 have h5 := h4.drewN 1
 have hb5 : Blk (w5.drewN 1) z 40 #[d 0, d 1, d 2, d 3, d 4, d 5, d 6, d 7, d 8, d 9, d 10, d 11, d 12] := hb4
 have hS5 : (w5.drewN 1).cell? ⟨z, 0, none⟩ = some (d 0) ∧ (w5.drewN 1).cell? ⟨z, 1, none⟩ = some (d 1) ∧ (w5.drewN 1).cell? ⟨z, 2, none⟩ = some (d 2) ∧ (w5.drewN 1).cell? ⟨z, 3, none⟩ = some (d 3) ∧ (w5.drewN 1).cell? ⟨z, 4, none⟩ = some (d 4) ∧ (w5.drewN 1).cell? ⟨z, 5, none⟩ = some (d 5) ∧ (w5.drewN 1).cell? ⟨z, 6, none⟩ = some (d 6) ∧ (w5.drewN 1).cell? ⟨z, 7, none⟩ = some (d 7) ∧ (w5.drewN 1).cell? ⟨z, 8, none⟩ = some (d 8) ∧ (w5.drewN 1).cell? ⟨z, 9, none⟩ = some (d 9) ∧ (w5.drewN 1).cell? ⟨z, 10, none⟩ = some (d 10) ∧ (w5.drewN 1).cell? ⟨z, 11, none⟩ = some (d 11) ∧ (w5.drewN 1).cell? ⟨z, 12, none⟩ = some (d 12) := ⟨hb5.cell 0, hb5.cell 1, hb5.cell 2, hb5.cell 3, hb5.cell 4, hb5.cell 5, hb5.cell 6, hb5.cell 7, hb5.cell 8, hb5.cell 9, hb5.cell 10, hb5.cell 11, hb5.cell 12⟩
 have fp := touchP_c (k := k) hfl h5.two.a
 clear h4 hb4
 refine region_only 10 #[false, false, false, false, false, false, false, false, false, false] (S := (fun W => W.cell? ⟨z, 0, none⟩ = some (d 0) ∧ W.cell? ⟨z, 1, none⟩ = some (d 1) ∧ W.cell? ⟨z, 2, none⟩ = some (d 2) ∧ W.cell? ⟨z, 3, none⟩ = some (d 3) ∧ W.cell? ⟨z, 4, none⟩ = some (d 4) ∧ W.cell? ⟨z, 5, none⟩ = some (d 5) ∧ W.cell? ⟨z, 6, none⟩ = some (d 6) ∧ W.cell? ⟨z, 7, none⟩ = some (d 7) ∧ W.cell? ⟨z, 8, none⟩ = some (d 8) ∧ W.cell? ⟨z, 9, none⟩ = some (d 9) ∧ W.cell? ⟨z, 10, none⟩ = some (d 10) ∧ W.cell? ⟨z, 11, none⟩ = some (d 11) ∧ W.cell? ⟨z, 12, none⟩ = some (d 12))) rfl rfl (by kernel_rfl) hS5 (fun hSw => ?_)
 refine tkA 0 37 9 ?_ rfl rfl ?_ hSw ?_
 rotate_left
 ·intro wx hSx; (try dsimp only at hSx); go_split_ands; go_simp; (try with_reducible rfl)
 simp only [sA, List.set_cons_zero, sC]
 refine tkA 1 38 8 ?_ rfl rfl ?_ hSw ?_
 rotate_left
 ·intro wx hSx; (try dsimp only at hSx); go_split_ands; go_simp; (try with_reducible rfl)
 simp only [sA, List.set_cons_zero, sC]
 refine tkA 2 39 7 ?_ rfl rfl ?_ hSw ?_
 rotate_left
 ·intro wx hSx; (try dsimp only at hSx); go_split_ands; go_simp; (try with_reducible rfl)
 simp only [sA, List.set_cons_zero, sC]
 refine tkA 3 40 6 ?_ rfl rfl ?_ hSw ?_
 rotate_left
 ·intro wx hSx; (try dsimp only at hSx); go_split_ands; go_simp; (try with_reducible rfl)
 simp only [sA, List.set_cons_zero, sC]
 refine tkA 5 42 5 ?_ rfl rfl ?_ hSw ?_
 rotate_left
 ·intro wx hSx; (try dsimp only at hSx); go_split_ands; go_simp; (try with_reducible rfl)
 simp only [sA, List.set_cons_zero, sC]
 refine rdA 4 4 rfl fun K hK => ?_
 go_simp
 refine Calls.mono (fp) ?_
 rintro e wv ⟨rfl, H2, hHv, hSt⟩
 have hb6 : Blk wv z 40 #[d 0, d 1, d 2, d 3, d 4, d 5, d 6, d 7, d 8, d 9, d 10, d 11, d 12] := (hs4.kp hSt hb5.lt).trans hb5
 have h6 := h5.step hHv hSt
 have hb7 : Blk (((((((((((((wv.setCell ⟨w.heap.size + 2, 0, none⟩ (d 0)).setCell ⟨w.heap.size + 2, 1, none⟩ (d 1)).setCell ⟨w.heap.size + 2, 2, none⟩ (d 2)).setCell ⟨w.heap.size + 2, 3, none⟩ (d 3)).setCell ⟨w.heap.size + 2, 4, none⟩ (d 4)).setCell ⟨w.heap.size + 2, 5, none⟩ (d 5)).setCell ⟨w.heap.size + 2, 6, none⟩ (d 6)).setCell ⟨w.heap.size + 2, 7, none⟩ (d 7)).setCell ⟨w.heap.size + 2, 8, none⟩ (d 8)).setCell ⟨w.heap.size + 2, 9, none⟩ (d 9)).setCell ⟨w.heap.size + 2, 10, none⟩ (d 10)).setCell ⟨w.heap.size + 2, 11, none⟩ (d 11)).setCell ⟨w.heap.size + 2, 12, none⟩ (d 12)) z 40 #[d 0, d 1, d 2, d 3, d 4, d 5, d 6, d 7, d 8, d 9, d 10, d 11, d 12] := far13 hb6 hq2 d
 clear h5 hb5 hS5 fp
 have z0 := h6.res.cell 0
 have z1 := h6.res.cell 1
 have z2 := h6.res.cell 2
 have z3 := h6.res.cell 3
 have z4 := h6.res.cell 4
 have z5 := h6.res.cell 5
 have z6 := h6.res.cell 6
 have z7 := h6.res.cell 7
 have z8 := h6.res.cell 8
 have z9 := h6.res.cell 9
 have z10 := h6.res.cell 10
 have z11 := h6.res.cell 11
 have z12 := h6.res.cell 12
 have zf0 := h6.res.free 0
 have zf1 := h6.res.free 1
 have zf2 := h6.res.free 2
 have zf3 := h6.res.free 3
 have zf4 := h6.res.free 4
 have zf5 := h6.res.free 5
 have zf6 := h6.res.free 6
 have zf7 := h6.res.free 7
 have zf8 := h6.res.free 8
 have zf9 := h6.res.free 9
 have zf10 := h6.res.free 10
 have zf11 := h6.res.free 11
 have zf12 := h6.res.free 12
 simp only [gA, gB, gC] at z0 z1 z2 z3 z4 z5 z6 z7 z8 z9 z10 z11 z12
 refine hK.out _ _ ⟨hb6.cell 0, hb6.cell 1, hb6.cell 2, hb6.cell 3, hb6.cell 4, hb6.cell 5, hb6.cell 6, hb6.cell 7, hb6.cell 8, hb6.cell 9, hb6.cell 10, hb6.cell 11, hb6.cell 12⟩ (fun hSw => ?_)
 clear hK K
 simp only [sA, List.set_cons_zero, sC]
 refine tkA 6 43 3 ?_ rfl rfl ?_ hSw ?_
 rotate_left
 ·intro wx hSx; (try dsimp only at hSx); go_split_ands; go_simp; (try with_reducible rfl)
 simp only [sA, List.set_cons_zero, sC]
 refine tkA 7 6 2 ?_ rfl rfl ?_ hSw ?_
 rotate_left
 ·intro wx hSx; (try dsimp only at hSx); go_split_ands; go_simp; (try with_reducible rfl)
 simp only [sA, List.set_cons_zero, sC]
 refine rdA 1 8 rfl fun K hK => ?_
 go_simp
 refine hK.out _ _ ⟨hb7.cell 0, hb7.cell 1, hb7.cell 2, hb7.cell 3, hb7.cell 4, hb7.cell 5, hb7.cell 6, hb7.cell 7, hb7.cell 8, hb7.cell 9, hb7.cell 10, hb7.cell 11, hb7.cell 12⟩ (fun hSw => ?_)
 clear hK K
 simp only [sA, List.set_cons_zero, sC]
 refine tkA 9 8 0 ?_ rfl rfl ?_ hSw ?_
 rotate_left
 ·intro wx hSx; (try dsimp only at hSx); go_split_ands; go_simp; (try with_reducible rfl)
 simp only [sA, List.set_cons_zero, sC]
 refine wpAnyH_done (by kernel_rfl) ⟨rfl, ?_⟩ 0
 clear hSw hb7 hb6 hHv hSt
 clear z0 zf0 z1 zf1 z2 zf2 z3 zf3 z4 zf4 z5 zf5 z6 zf6 z7 zf7 z8 zf8 z9 zf9 z10 zf10 z11 zf11 z12 zf12
 obtain ⟨hT9, hB, hKD⟩ := h6.fin
 generalize (((((((((((((wv.setCell ⟨w.heap.size + 2, 0, none⟩ (d 0)).setCell ⟨w.heap.size + 2, 1, none⟩ (d 1)).setCell ⟨w.heap.size + 2, 2, none⟩ (d 2)).setCell ⟨w.heap.size + 2, 3, none⟩ (d 3)).setCell ⟨w.heap.size + 2, 4, none⟩ (d 4)).setCell ⟨w.heap.size + 2, 5, none⟩ (d 5)).setCell ⟨w.heap.size + 2, 6, none⟩ (d 6)).setCell ⟨w.heap.size + 2, 7, none⟩ (d 7)).setCell ⟨w.heap.size + 2, 8, none⟩ (d 8)).setCell ⟨w.heap.size + 2, 9, none⟩ (d 9)).setCell ⟨w.heap.size + 2, 10, none⟩ (d 10)).setCell ⟨w.heap.size + 2, 11, none⟩ (d 11)).setCell ⟨w.heap.size + 2, 12, none⟩ (d 12)) = w9 at *
 clear h6
 go_wp2_with fail
 (try simp only [Exit.inBlock, Exit.then])
 refine bodyPost_ret (results_tmp_row_tmp rfl _ _ (w.heap.size + 2) rfl (run_loadVar_row _ _ _ _ _ _ _ hB Tryz.underlying40 rfl (by kernel_rfl))) rfl ?_
 exact ⟨C, _, _, _, rfl, hT9, hKD⟩
set_option maxHeartbeats 8000000 in
set_option maxRecDepth 100000 in
theorem do_touch5 (T : List UInt8) (hT : T.length ≤ maxLen) (hK : ∀ q, K q → q < w.heap.size ∧ Side H I q) (h : Twin w0 C p H p c I w) :
  Calls Tryz.prog 8 #[.pointer (some ⟨C, 0, none⟩), .agg #[c 0, c 1, c 2, c 3, c 4, c 5, c 6, c 7, c 8, c 9, c 10, c 11, c 12], .agg #[.int .i64 5, .string (str T)]] w (DoP w0 K w (p.touch (fewL T))) := by
 have h1 := Ds.new (a := .int .i64 5) (b := .string (str T)) hK h
 have hg := h.g
 have hact := act_blk (a := .int .i64 5) (b := .string (str T)) (x := w.alloc (.cells #[c 0, c 1, c 2, c 3, c 4, c 5, c 6, c 7, c 8, c 9, c 10, c 11, c 12] 40))
 rw [show (w.alloc (.cells #[c 0, c 1, c 2, c 3, c 4, c 5, c 6, c 7, c 8, c 9, c 10, c 11, c 12] 40)).heap.size = w.heap.size + 1 by simp] at hact
 have hfl := fewP_le T
 have hfw := fun W => fewP_c T hT W
 have oc := h.d.one
 have hs := fun (i : Nat) (a : Addr) (m : Mode) (W : World) => run_store Tryz.prog W a (c i) m (oc i)
 clear h hK
 go_enter Tryz.func8, Tryz.ntmps8
 go_upto_region 1 with (fail)
 generalize ((w.alloc (.cells #[c 0, c 1, c 2, c 3, c 4, c 5, c 6, c 7, c 8, c 9, c 10, c 11, c 12] 40)).alloc (.cells #[.int .i64 5, .string (str T)] 46)).alloc (.cells #[.int .i64 0, .int .i64 0, .int .i64 0, .slice none 0 0, .int .i64 0, .int .i64 0, .int .i64 0, .int .u64 0, .slice none 0 0, .slice none 0 0, .int .i64 0, .slice none 0 0, .int .i64 0] 40) = w1 at *
 obtain ⟨k0, k1⟩ := hact
 generalize hkk : fewL T = k at *
 go_wp2_with fail
 refine (hfw _).mono ?_
 rintro e w' ⟨rfl, rfl⟩
 clear hkk hfw
 have x0 := h1.box.cell 0
 have x1 := h1.box.cell 1
 have x2 := h1.box.cell 2
 have x3 := h1.box.cell 3
 have x4 := h1.box.cell 4
 have x5 := h1.box.cell 5
 have x6 := h1.box.cell 6
 have x7 := h1.box.cell 7
 have x8 := h1.box.cell 8
 have x9 := h1.box.cell 9
 have x10 := h1.box.cell 10
 have x11 := h1.box.cell 11
 have x12 := h1.box.cell 12
 simp only [gA, gB, gC] at x0 x1 x2 x3 x4 x5 x6 x7 x8 x9 x10 x11 x12
 have HG := Lib.hid (hg.touch k)
 have fd := touchD (k := k) hg w1 h1.two.d
 go_wp2_with fail
 refine fd.mono ?_
 rintro e w4 ⟨d, J, rfl, hgo⟩
 have od := hgo.d.one
 have hd := fun (i : Nat) (a : Addr) (m : Mode) (W : World) => run_store Tryz.prog W a (d i) m (od i)
 have h3 := h1.goes hgo HG.out
 have h4 := h3.onto ((Below.refl _ w4).alloc (Nat.le_refl _) (.cells #[d 0, d 1, d 2, d 3, d 4, d 5, d 6, d 7, d 8, d 9, d 10, d 11, d 12] 40))
 have hb4 := Blk.new w4 40 #[d 0, d 1, d 2, d 3, d 4, d 5, d 6, d 7, d 8, d 9, d 10, d 11, d 12]
 have hs4 := h3.two.fresh (q := w4.heap.size) (Nat.le_refl _)
 have hq2 : w4.heap.size ≠ w.heap.size + 2 := by have := h3.hi; omega
 clear x0 x1 x2 x3 x4 x5 x6 x7 x8 x9 x10 x11 x12 k0 k1
 clear fd h1 hgo h3
 go_upto_region 6 with (fail)
 generalize w4.heap.size = z at *
 generalize w4.alloc (.cells #[d 0, d 1, d 2, d 3, d 4, d 5, d 6, d 7, d 8, d 9, d 10, d 11, d 12] 40) = w5 at *
 have h5 := h4.drewN 1
 have hb5 : Blk (w5.drewN 1) z 40 #[d 0, d 1, d 2, d 3, d 4, d 5, d 6, d 7, d 8, d 9, d 10, d 11, d 12] := hb4
 have hS5 : (w5.drewN 1).cell? ⟨z, 0, none⟩ = some (d 0) ∧ (w5.drewN 1).cell? ⟨z, 1, none⟩ = some (d 1) ∧ (w5.drewN 1).cell? ⟨z, 2, none⟩ = some (d 2) ∧ (w5.drewN 1).cell? ⟨z, 3, none⟩ = some (d 3) ∧ (w5.drewN 1).cell? ⟨z, 4, none⟩ = some (d 4) ∧ (w5.drewN 1).cell? ⟨z, 5, none⟩ = some (d 5) ∧ (w5.drewN 1).cell? ⟨z, 6, none⟩ = some (d 6) ∧ (w5.drewN 1).cell? ⟨z, 7, none⟩ = some (d 7) ∧ (w5.drewN 1).cell? ⟨z, 8, none⟩ = some (d 8) ∧ (w5.drewN 1).cell? ⟨z, 9, none⟩ = some (d 9) ∧ (w5.drewN 1).cell? ⟨z, 10, none⟩ = some (d 10) ∧ (w5.drewN 1).cell? ⟨z, 11, none⟩ = some (d 11) ∧ (w5.drewN 1).cell? ⟨z, 12, none⟩ = some (d 12) := ⟨hb5.cell 0, hb5.cell 1, hb5.cell 2, hb5.cell 3, hb5.cell 4, hb5.cell 5, hb5.cell 6, hb5.cell 7, hb5.cell 8, hb5.cell 9, hb5.cell 10, hb5.cell 11, hb5.cell 12⟩
 have fp := touchP_c (k := k) hfl h5.two.a
 clear h4 hb4
 refine region_only 10 #[false, false, false, false, false, false, false, false, false, false] (S := (fun W => W.cell? ⟨z, 0, none⟩ = some (d 0) ∧ W.cell? ⟨z, 1, none⟩ = some (d 1) ∧ W.cell? ⟨z, 2, none⟩ = some (d 2) ∧ W.cell? ⟨z, 3, none⟩ = some (d 3) ∧ W.cell? ⟨z, 4, none⟩ = some (d 4) ∧ W.cell? ⟨z, 5, none⟩ = some (d 5) ∧ W.cell? ⟨z, 6, none⟩ = some (d 6) ∧ W.cell? ⟨z, 7, none⟩ = some (d 7) ∧ W.cell? ⟨z, 8, none⟩ = some (d 8) ∧ W.cell? ⟨z, 9, none⟩ = some (d 9) ∧ W.cell? ⟨z, 10, none⟩ = some (d 10) ∧ W.cell? ⟨z, 11, none⟩ = some (d 11) ∧ W.cell? ⟨z, 12, none⟩ = some (d 12))) rfl rfl (by kernel_rfl) hS5 (fun hSw => ?_)
 refine tkA 0 37 9 ?_ rfl rfl ?_ hSw ?_
 rotate_left
 ·intro wx hSx; (try dsimp only at hSx); go_split_ands; go_simp; (try with_reducible rfl)
 simp only [sA, List.set_cons_zero, sC]
 refine tkA 1 38 8 ?_ rfl rfl ?_ hSw ?_
 rotate_left
 ·intro wx hSx; (try dsimp only at hSx); go_split_ands; go_simp; (try with_reducible rfl)
 simp only [sA, List.set_cons_zero, sC]
 refine tkA 2 39 7 ?_ rfl rfl ?_ hSw ?_
 rotate_left
 ·intro wx hSx; (try dsimp only at hSx); go_split_ands; go_simp; (try with_reducible rfl)
 simp only [sA, List.set_cons_zero, sC]
 refine tkA 3 40 6 ?_ rfl rfl ?_ hSw ?_
 rotate_left
 ·intro wx hSx; (try dsimp only at hSx); go_split_ands; go_simp; (try with_reducible rfl)
 simp only [sA, List.set_cons_zero, sC]
 refine tkA 5 42 5 ?_ rfl rfl ?_ hSw ?_
 rotate_left
 ·intro wx hSx; (try dsimp only at hSx); go_split_ands; go_simp; (try with_reducible rfl)
 simp only [sA, List.set_cons_zero, sC]
 refine rdA 4 4 rfl fun K hK => ?_
 go_simp
 refine Calls.mono (fp) ?_
 rintro e wv ⟨rfl, H2, hHv, hSt⟩
 have hb6 : Blk wv z 40 #[d 0, d 1, d 2, d 3, d 4, d 5, d 6, d 7, d 8, d 9, d 10, d 11, d 12] := (hs4.kp hSt hb5.lt).trans hb5
 have h6 := h5.step hHv hSt
 have hb7 : Blk (((((((((((((wv.setCell ⟨w.heap.size + 2, 0, none⟩ (d 0)).setCell ⟨w.heap.size + 2, 1, none⟩ (d 1)).setCell ⟨w.heap.size + 2, 2, none⟩ (d 2)).setCell ⟨w.heap.size + 2, 3, none⟩ (d 3)).setCell ⟨w.heap.size + 2, 4, none⟩ (d 4)).setCell ⟨w.heap.size + 2, 5, none⟩ (d 5)).setCell ⟨w.heap.size + 2, 6, none⟩ (d 6)).setCell ⟨w.heap.size + 2, 7, none⟩ (d 7)).setCell ⟨w.heap.size + 2, 8, none⟩ (d 8)).setCell ⟨w.heap.size + 2, 9, none⟩ (d 9)).setCell ⟨w.heap.size + 2, 10, none⟩ (d 10)).setCell ⟨w.heap.size + 2, 11, none⟩ (d 11)).setCell ⟨w.heap.size + 2, 12, none⟩ (d 12)) z 40 #[d 0, d 1, d 2, d 3, d 4, d 5, d 6, d 7, d 8, d 9, d 10, d 11, d 12] := far13 hb6 hq2 d
 clear h5 hb5 hS5 fp
 have z0 := h6.res.cell 0
 have z1 := h6.res.cell 1
 have z2 := h6.res.cell 2
 have z3 := h6.res.cell 3
 have z4 := h6.res.cell 4
 have z5 := h6.res.cell 5
 have z6 := h6.res.cell 6
 have z7 := h6.res.cell 7
 have z8 := h6.res.cell 8
 have z9 := h6.res.cell 9
 have z10 := h6.res.cell 10
 have z11 := h6.res.cell 11
 have z12 := h6.res.cell 12
 have zf0 := h6.res.free 0
 have zf1 := h6.res.free 1
 have zf2 := h6.res.free 2
 have zf3 := h6.res.free 3
 have zf4 := h6.res.free 4
 have zf5 := h6.res.free 5
 have zf6 := h6.res.free 6
 have zf7 := h6.res.free 7
 have zf8 := h6.res.free 8
 have zf9 := h6.res.free 9
 have zf10 := h6.res.free 10
 have zf11 := h6.res.free 11
 have zf12 := h6.res.free 12
 simp only [gA, gB, gC] at z0 z1 z2 z3 z4 z5 z6 z7 z8 z9 z10 z11 z12
 refine hK.out _ _ ⟨hb6.cell 0, hb6.cell 1, hb6.cell 2, hb6.cell 3, hb6.cell 4, hb6.cell 5, hb6.cell 6, hb6.cell 7, hb6.cell 8, hb6.cell 9, hb6.cell 10, hb6.cell 11, hb6.cell 12⟩ (fun hSw => ?_)
 clear hK K
 simp only [sA, List.set_cons_zero, sC]
 refine tkA 6 43 3 ?_ rfl rfl ?_ hSw ?_
 rotate_left
 ·intro wx hSx; (try dsimp only at hSx); go_split_ands; go_simp; (try with_reducible rfl)
 simp only [sA, List.set_cons_zero, sC]
 refine tkA 7 6 2 ?_ rfl rfl ?_ hSw ?_
 rotate_left
 ·intro wx hSx; (try dsimp only at hSx); go_split_ands; go_simp; (try with_reducible rfl)
 simp only [sA, List.set_cons_zero, sC]
 refine rdA 1 8 rfl fun K hK => ?_
 go_simp
 refine hK.out _ _ ⟨hb7.cell 0, hb7.cell 1, hb7.cell 2, hb7.cell 3, hb7.cell 4, hb7.cell 5, hb7.cell 6, hb7.cell 7, hb7.cell 8, hb7.cell 9, hb7.cell 10, hb7.cell 11, hb7.cell 12⟩ (fun hSw => ?_)
 clear hK K
 simp only [sA, List.set_cons_zero, sC]
 refine tkA 9 8 0 ?_ rfl rfl ?_ hSw ?_
 rotate_left
 ·intro wx hSx; (try dsimp only at hSx); go_split_ands; go_simp; (try with_reducible rfl)
 simp only [sA, List.set_cons_zero, sC]
 refine wpAnyH_done (by kernel_rfl) ⟨rfl, ?_⟩ 0
 clear hSw hb7 hb6 hHv hSt
 clear z0 zf0 z1 zf1 z2 zf2 z3 zf3 z4 zf4 z5 zf5 z6 zf6 z7 zf7 z8 zf8 z9 zf9 z10 zf10 z11 zf11 z12 zf12
 obtain ⟨hT9, hB, hKD⟩ := h6.fin
 generalize (((((((((((((wv.setCell ⟨w.heap.size + 2, 0, none⟩ (d 0)).setCell ⟨w.heap.size + 2, 1, none⟩ (d 1)).setCell ⟨w.heap.size + 2, 2, none⟩ (d 2)).setCell ⟨w.heap.size + 2, 3, none⟩ (d 3)).setCell ⟨w.heap.size + 2, 4, none⟩ (d 4)).setCell ⟨w.heap.size + 2, 5, none⟩ (d 5)).setCell ⟨w.heap.size + 2, 6, none⟩ (d 6)).setCell ⟨w.heap.size + 2, 7, none⟩ (d 7)).setCell ⟨w.heap.size + 2, 8, none⟩ (d 8)).setCell ⟨w.heap.size + 2, 9, none⟩ (d 9)).setCell ⟨w.heap.size + 2, 10, none⟩ (d 10)).setCell ⟨w.heap.size + 2, 11, none⟩ (d 11)).setCell ⟨w.heap.size + 2, 12, none⟩ (d 12)) = w9 at *
 clear h6
 go_wp2_with fail
 (try simp only [Exit.inBlock, Exit.then])
 refine bodyPost_ret (results_tmp_row_tmp rfl _ _ (w.heap.size + 2) rfl (run_loadVar_row _ _ _ _ _ _ _ hB Tryz.underlying40 rfl (by kernel_rfl))) rfl ?_
 exact ⟨C, _, _, _, rfl, hT9, hKD⟩
set_option maxHeartbeats 8000000 in
set_option maxRecDepth 100000 in
theorem do_remove (T : List UInt8) (hT : T.length ≤ maxLen) (hK : ∀ q, K q → q < w.heap.size ∧ Side H I q) (h : Twin w0 C p H p c I w) :
  Calls Tryz.prog 8 #[.pointer (some ⟨C, 0, none⟩), .agg #[c 0, c 1, c 2, c 3, c 4, c 5, c 6, c 7, c 8, c 9, c 10, c 11, c 12], .agg #[.int .i64 6, .string (str T)]] w (DoP w0 K w (p.drop (fewL T))) := by
 have h1 := Ds.new (a := .int .i64 6) (b := .string (str T)) hK h
 have hg := h.g
 have hact := act_blk (a := .int .i64 6) (b := .string (str T)) (x := w.alloc (.cells #[c 0, c 1, c 2, c 3, c 4, c 5, c 6, c 7, c 8, c 9, c 10, c 11, c 12] 40))
 rw [show (w.alloc (.cells #[c 0, c 1, c 2, c 3, c 4, c 5, c 6, c 7, c 8, c 9, c 10, c 11, c 12] 40)).heap.size = w.heap.size + 1 by simp] at hact
 have hfl := fewP_le T
 have hfw := fun W => fewP_c T hT W
 have oc := h.d.one
 have hs := fun (i : Nat) (a : Addr) (m : Mode) (W : World) => run_store Tryz.prog W a (c i) m (oc i)
 clear h hK
 go_enter Tryz.func8, Tryz.ntmps8
 go_upto_region 1 with (fail)
 generalize ((w.alloc (.cells #[c 0, c 1, c 2, c 3, c 4, c 5, c 6, c 7, c 8, c 9, c 10, c 11, c 12] 40)).alloc (.cells #[.int .i64 6, .string (str T)] 46)).alloc (.cells #[.int .i64 0, .int .i64 0, .int .i64 0, .slice none 0 0, .int .i64 0, .int .i64 0, .int .i64 0, .int .u64 0, .slice none 0 0, .slice none 0 0, .int .i64 0, .slice none 0 0, .int .i64 0] 40) = w1 at *
 obtain ⟨k0, k1⟩ := hact
 generalize hkk : fewL T = k at *
 go_wp2_with fail
 refine (hfw _).mono ?_
 rintro e w' ⟨rfl, rfl⟩
 clear hkk hfw
 have x0 := h1.box.cell 0
 have x1 := h1.box.cell 1
 have x2 := h1.box.cell 2
 have x3 := h1.box.cell 3
 have x4 := h1.box.cell 4
 have x5 := h1.box.cell 5
 have x6 := h1.box.cell 6
 have x7 := h1.box.cell 7
 have x8 := h1.box.cell 8
 have x9 := h1.box.cell 9
 have x10 := h1.box.cell 10
 have x11 := h1.box.cell 11
 have x12 := h1.box.cell 12
 simp only [gA, gB, gC] at x0 x1 x2 x3 x4 x5 x6 x7 x8 x9 x10 x11 x12
 have HG := Lib.hid (hg.drop k)
 have fd := dropD (k := k) hg w1 h1.two.d
 go_wp2_with fail
 refine fd.mono ?_
 rintro e w4 ⟨d, J, rfl, hgo⟩
 have od := hgo.d.one
 have hd := fun (i : Nat) (a : Addr) (m : Mode) (W : World) => run_store Tryz.prog W a (d i) m (od i)
 have h3 := h1.goes hgo HG.out
 have h4 := h3.onto ((Below.refl _ w4).alloc (Nat.le_refl _) (.cells #[d 0, d 1, d 2, d 3, d 4, d 5, d 6, d 7, d 8, d 9, d 10, d 11, d 12] 40))
 have hb4 := Blk.new w4 40 #[d 0, d 1, d 2, d 3, d 4, d 5, d 6, d 7, d 8, d 9, d 10, d 11, d 12]
 have hs4 := h3.two.fresh (q := w4.heap.size) (Nat.le_refl _)
 have hq2 : w4.heap.size ≠ w.heap.size + 2 := by have := h3.hi; omega
 clear x0 x1 x2 x3 x4 x5 x6 x7 x8 x9 x10 x11 x12 k0 k1
 clear fd h1 hgo h3
 go_upto_region 9 with (fail)
 generalize w4.heap.size = z at *
 generalize w4.alloc (.cells #[d 0, d 1, d 2, d 3, d 4, d 5, d 6, d 7, d 8, d 9, d 10, d 11, d 12] 40) = w5 at *
 have h5 := h4.drewN 1
 have hb5 : Blk (w5.drewN 1) z 40 #[d 0, d 1, d 2, d 3, d 4, d 5, d 6, d 7, d 8, d 9, d 10, d 11, d 12] := hb4
 have hS5 : (w5.drewN 1).cell? ⟨z, 0, none⟩ = some (d 0) ∧ (w5.drewN 1).cell? ⟨z, 1, none⟩ = some (d 1) ∧ (w5.drewN 1).cell? ⟨z, 2, none⟩ = some (d 2) ∧ (w5.drewN 1).cell? ⟨z, 3, none⟩ = some (d 3) ∧ (w5.drewN 1).cell? ⟨z, 4, none⟩ = some (d 4) ∧ (w5.drewN 1).cell? ⟨z, 5, none⟩ = some (d 5) ∧ (w5.drewN 1).cell? ⟨z, 6, none⟩ = some (d 6) ∧ (w5.drewN 1).cell? ⟨z, 7, none⟩ = some (d 7) ∧ (w5.drewN 1).cell? ⟨z, 8, none⟩ = some (d 8) ∧ (w5.drewN 1).cell? ⟨z, 9, none⟩ = some (d 9) ∧ (w5.drewN 1).cell? ⟨z, 10, none⟩ = some (d 10) ∧ (w5.drewN 1).cell? ⟨z, 11, none⟩ = some (d 11) ∧ (w5.drewN 1).cell? ⟨z, 12, none⟩ = some (d 12) := ⟨hb5.cell 0, hb5.cell 1, hb5.cell 2, hb5.cell 3, hb5.cell 4, hb5.cell 5, hb5.cell 6, hb5.cell 7, hb5.cell 8, hb5.cell 9, hb5.cell 10, hb5.cell 11, hb5.cell 12⟩
 have fp := dropP_c (k := k) hfl h5.two.a
 clear h4 hb4
 refine region_only 10 #[false, false, false, false, false, false, false, false, false, false] (S := (fun W => W.cell? ⟨z, 0, none⟩ = some (d 0) ∧ W.cell? ⟨z, 1, none⟩ = some (d 1) ∧ W.cell? ⟨z, 2, none⟩ = some (d 2) ∧ W.cell? ⟨z, 3, none⟩ = some (d 3) ∧ W.cell? ⟨z, 4, none⟩ = some (d 4) ∧ W.cell? ⟨z, 5, none⟩ = some (d 5) ∧ W.cell? ⟨z, 6, none⟩ = some (d 6) ∧ W.cell? ⟨z, 7, none⟩ = some (d 7) ∧ W.cell? ⟨z, 8, none⟩ = some (d 8) ∧ W.cell? ⟨z, 9, none⟩ = some (d 9) ∧ W.cell? ⟨z, 10, none⟩ = some (d 10) ∧ W.cell? ⟨z, 11, none⟩ = some (d 11) ∧ W.cell? ⟨z, 12, none⟩ = some (d 12))) rfl rfl (by kernel_rfl) hS5 (fun hSw => ?_)
 refine tkA 0 52 9 ?_ rfl rfl ?_ hSw ?_
 rotate_left
 ·intro wx hSx; (try dsimp only at hSx); go_split_ands; go_simp; (try with_reducible rfl)
 simp only [sA, List.set_cons_zero, sC]
 refine tkA 1 53 8 ?_ rfl rfl ?_ hSw ?_
 rotate_left
 ·intro wx hSx; (try dsimp only at hSx); go_split_ands; go_simp; (try with_reducible rfl)
 simp only [sA, List.set_cons_zero, sC]
 refine tkA 2 54 7 ?_ rfl rfl ?_ hSw ?_
 rotate_left
 ·intro wx hSx; (try dsimp only at hSx); go_split_ands; go_simp; (try with_reducible rfl)
 simp only [sA, List.set_cons_zero, sC]
 refine tkA 3 55 6 ?_ rfl rfl ?_ hSw ?_
 rotate_left
 ·intro wx hSx; (try dsimp only at hSx); go_split_ands; go_simp; (try with_reducible rfl)
 simp only [sA, List.set_cons_zero, sC]
 refine tkA 5 57 5 ?_ rfl rfl ?_ hSw ?_
 rotate_left
 ·intro wx hSx; (try dsimp only at hSx); go_split_ands; go_simp; (try with_reducible rfl)
 simp only [sA, List.set_cons_zero, sC]
 refine rdA 4 4 rfl fun K hK => ?_
 go_simp
 refine Calls.mono (fp) ?_
 rintro e wv ⟨rfl, H2, hHv, hSt⟩
 have hb6 : Blk wv z 40 #[d 0, d 1, d 2, d 3, d 4, d 5, d 6, d 7, d 8, d 9, d 10, d 11, d 12] := (hs4.kp hSt hb5.lt).trans hb5
 have h6 := h5.step hHv hSt
 have hb7 : Blk (((((((((((((wv.setCell ⟨w.heap.size + 2, 0, none⟩ (d 0)).setCell ⟨w.heap.size + 2, 1, none⟩ (d 1)).setCell ⟨w.heap.size + 2, 2, none⟩ (d 2)).setCell ⟨w.heap.size + 2, 3, none⟩ (d 3)).setCell ⟨w.heap.size + 2, 4, none⟩ (d 4)).setCell ⟨w.heap.size + 2, 5, none⟩ (d 5)).setCell ⟨w.heap.size + 2, 6, none⟩ (d 6)).setCell ⟨w.heap.size + 2, 7, none⟩ (d 7)).setCell ⟨w.heap.size + 2, 8, none⟩ (d 8)).setCell ⟨w.heap.size + 2, 9, none⟩ (d 9)).setCell ⟨w.heap.size + 2, 10, none⟩ (d 10)).setCell ⟨w.heap.size + 2, 11, none⟩ (d 11)).setCell ⟨w.heap.size + 2, 12, none⟩ (d 12)) z 40 #[d 0, d 1, d 2, d 3, d 4, d 5, d 6, d 7, d 8, d 9, d 10, d 11, d 12] := far13 hb6 hq2 d
 clear h5 hb5 hS5 fp
 have z0 := h6.res.cell 0
 have z1 := h6.res.cell 1
 have z2 := h6.res.cell 2
 have z3 := h6.res.cell 3
 have z4 := h6.res.cell 4
 have z5 := h6.res.cell 5
 have z6 := h6.res.cell 6
 have z7 := h6.res.cell 7
 have z8 := h6.res.cell 8
 have z9 := h6.res.cell 9
 have z10 := h6.res.cell 10
 have z11 := h6.res.cell 11
 have z12 := h6.res.cell 12
 have zf0 := h6.res.free 0
 have zf1 := h6.res.free 1
 have zf2 := h6.res.free 2
 have zf3 := h6.res.free 3
 have zf4 := h6.res.free 4
 have zf5 := h6.res.free 5
 have zf6 := h6.res.free 6
 have zf7 := h6.res.free 7
 have zf8 := h6.res.free 8
 have zf9 := h6.res.free 9
 have zf10 := h6.res.free 10
 have zf11 := h6.res.free 11
 have zf12 := h6.res.free 12
 simp only [gA, gB, gC] at z0 z1 z2 z3 z4 z5 z6 z7 z8 z9 z10 z11 z12
 refine hK.out _ _ ⟨hb6.cell 0, hb6.cell 1, hb6.cell 2, hb6.cell 3, hb6.cell 4, hb6.cell 5, hb6.cell 6, hb6.cell 7, hb6.cell 8, hb6.cell 9, hb6.cell 10, hb6.cell 11, hb6.cell 12⟩ (fun hSw => ?_)
 clear hK K
 simp only [sA, List.set_cons_zero, sC]
 refine tkA 6 58 3 ?_ rfl rfl ?_ hSw ?_
 rotate_left
 ·intro wx hSx; (try dsimp only at hSx); go_split_ands; go_simp; (try with_reducible rfl)
 simp only [sA, List.set_cons_zero, sC]
 refine tkA 7 6 2 ?_ rfl rfl ?_ hSw ?_
 rotate_left
 ·intro wx hSx; (try dsimp only at hSx); go_split_ands; go_simp; (try with_reducible rfl)
 simp only [sA, List.set_cons_zero, sC]
 refine rdA 1 8 rfl fun K hK => ?_
 go_simp
 refine hK.out _ _ ⟨hb7.cell 0, hb7.cell 1, hb7.cell 2, hb7.cell 3, hb7.cell 4, hb7.cell 5, hb7.cell 6, hb7.cell 7, hb7.cell 8, hb7.cell 9, hb7.cell 10, hb7.cell 11, hb7.cell 12⟩ (fun hSw => ?_)
 clear hK K
 simp only [sA, List.set_cons_zero, sC]
 refine tkA 9 8 0 ?_ rfl rfl ?_ hSw ?_
 rotate_left
 ·intro wx hSx; (try dsimp only at hSx); go_split_ands; go_simp; (try with_reducible rfl)
 simp only [sA, List.set_cons_zero, sC]
 refine wpAnyH_done (by kernel_rfl) ⟨rfl, ?_⟩ 0
 clear hSw hb7 hb6 hHv hSt
 clear z0 zf0 z1 zf1 z2 zf2 z3 zf3 z4 zf4 z5 zf5 z6 zf6 z7 zf7 z8 zf8 z9 zf9 z10 zf10 z11 zf11 z12 zf12
 obtain ⟨hT9, hB, hKD⟩ := h6.fin
 generalize (((((((((((((wv.setCell ⟨w.heap.size + 2, 0, none⟩ (d 0)).setCell ⟨w.heap.size + 2, 1, none⟩ (d 1)).setCell ⟨w.heap.size + 2, 2, none⟩ (d 2)).setCell ⟨w.heap.size + 2, 3, none⟩ (d 3)).setCell ⟨w.heap.size + 2, 4, none⟩ (d 4)).setCell ⟨w.heap.size + 2, 5, none⟩ (d 5)).setCell ⟨w.heap.size + 2, 6, none⟩ (d 6)).setCell ⟨w.heap.size + 2, 7, none⟩ (d 7)).setCell ⟨w.heap.size + 2, 8, none⟩ (d 8)).setCell ⟨w.heap.size + 2, 9, none⟩ (d 9)).setCell ⟨w.heap.size + 2, 10, none⟩ (d 10)).setCell ⟨w.heap.size + 2, 11, none⟩ (d 11)).setCell ⟨w.heap.size + 2, 12, none⟩ (d 12)) = w9 at *
 clear h6
 go_wp2_with fail
 (try simp only [Exit.inBlock, Exit.then])
 refine bodyPost_ret (results_tmp_row_tmp rfl _ _ (w.heap.size + 2) rfl (run_loadVar_row _ _ _ _ _ _ _ hB Tryz.underlying40 rfl (by kernel_rfl))) rfl ?_
 exact ⟨C, _, _, _, rfl, hT9, hKD⟩
set_option maxHeartbeats 8000000 in
set_option maxRecDepth 100000 in
theorem do_miss (T : List UInt8) (hT : T.length ≤ maxLen) (hK : ∀ q, K q → q < w.heap.size ∧ Side H I q) (h : Twin w0 C p H p c I w) :
  Calls Tryz.prog 8 #[.pointer (some ⟨C, 0, none⟩), .agg #[c 0, c 1, c 2, c 3, c 4, c 5, c 6, c 7, c 8, c 9, c 10, c 11, c 12], .agg #[.int .i64 8, .string (str T)]] w (DoP w0 K w (p.miss (fewL T))) := by
 have h1 := Ds.new (a := .int .i64 8) (b := .string (str T)) hK h
 have hg := h.g
 have hact := act_blk (a := .int .i64 8) (b := .string (str T)) (x := w.alloc (.cells #[c 0, c 1, c 2, c 3, c 4, c 5, c 6, c 7, c 8, c 9, c 10, c 11, c 12] 40))
 rw [show (w.alloc (.cells #[c 0, c 1, c 2, c 3, c 4, c 5, c 6, c 7, c 8, c 9, c 10, c 11, c 12] 40)).heap.size = w.heap.size + 1 by simp] at hact
 have hfl := fewP_le T
 have hfw := fun W => fewP_c T hT W
 have oc := h.d.one
 have hs := fun (i : Nat) (a : Addr) (m : Mode) (W : World) => run_store Tryz.prog W a (c i) m (oc i)
 clear h hK
 go_enter Tryz.func8, Tryz.ntmps8
 go_upto_region 1 with (fail)
 generalize ((w.alloc (.cells #[c 0, c 1, c 2, c 3, c 4, c 5, c 6, c 7, c 8, c 9, c 10, c 11, c 12] 40)).alloc (.cells #[.int .i64 8, .string (str T)] 46)).alloc (.cells #[.int .i64 0, .int .i64 0, .int .i64 0, .slice none 0 0, .int .i64 0, .int .i64 0, .int .i64 0, .int .u64 0, .slice none 0 0, .slice none 0 0, .int .i64 0, .slice none 0 0, .int .i64 0] 40) = w1 at *
 obtain ⟨k0, k1⟩ := hact
 generalize hkk : fewL T = k at *
 go_wp2_with fail
 refine (hfw _).mono ?_
 rintro e w' ⟨rfl, rfl⟩
 clear hkk hfw
 have x0 := h1.box.cell 0
 have x1 := h1.box.cell 1
 have x2 := h1.box.cell 2
 have x3 := h1.box.cell 3
 have x4 := h1.box.cell 4
 have x5 := h1.box.cell 5
 have x6 := h1.box.cell 6
 have x7 := h1.box.cell 7
 have x8 := h1.box.cell 8
 have x9 := h1.box.cell 9
 have x10 := h1.box.cell 10
 have x11 := h1.box.cell 11
 have x12 := h1.box.cell 12
 simp only [gA, gB, gC] at x0 x1 x2 x3 x4 x5 x6 x7 x8 x9 x10 x11 x12
 have HG := Lib.hid (hg.miss k)
 have fp := missP_c (k := k) hfl h1.two.a
 have fd := fun W (h : DP W p c I) => missD (k := k) hfl hg W h
 go_wp2_with fail
 refine fp.mono ?_
 rintro e w4 ⟨rfl, H2, hHv, hSt⟩
 have h4 := h1.step hHv hSt
 clear fp h1 hHv hSt
 clear x0 x1 x2 x3 x4 x5 x6 x7 x8 x9 x10 x11 x12 k0 k1
 have x0 := h4.box.cell 0
 have x1 := h4.box.cell 1
 have x2 := h4.box.cell 2
 have x3 := h4.box.cell 3
 have x4 := h4.box.cell 4
 have x5 := h4.box.cell 5
 have x6 := h4.box.cell 6
 have x7 := h4.box.cell 7
 have x8 := h4.box.cell 8
 have x9 := h4.box.cell 9
 have x10 := h4.box.cell 10
 have x11 := h4.box.cell 11
 have x12 := h4.box.cell 12
 simp only [gA, gB, gC] at x0 x1 x2 x3 x4 x5 x6 x7 x8 x9 x10 x11 x12
 go_wp2_with fail
 refine (fd _ h4.two.d).mono ?_
 rintro e w5 ⟨d, J, rfl, hgo⟩
 have od := hgo.d.one
 have hd := fun (i : Nat) (a : Addr) (m : Mode) (W : World) => run_store Tryz.prog W a (d i) m (od i)
 have h6 := h4.goes hgo HG.out
 clear h4 hgo fd
 clear x0 x1 x2 x3 x4 x5 x6 x7 x8 x9 x10 x11 x12
 have z0 := h6.res.cell 0
 have z1 := h6.res.cell 1
 have z2 := h6.res.cell 2
 have z3 := h6.res.cell 3
 have z4 := h6.res.cell 4
 have z5 := h6.res.cell 5
 have z6 := h6.res.cell 6
 have z7 := h6.res.cell 7
 have z8 := h6.res.cell 8
 have z9 := h6.res.cell 9
 have z10 := h6.res.cell 10
 have z11 := h6.res.cell 11
 have z12 := h6.res.cell 12
 have zf0 := h6.res.free 0
 have zf1 := h6.res.free 1
 have zf2 := h6.res.free 2
 have zf3 := h6.res.free 3
 have zf4 := h6.res.free 4
 have zf5 := h6.res.free 5
 have zf6 := h6.res.free 6
 have zf7 := h6.res.free 7
 have zf8 := h6.res.free 8
 have zf9 := h6.res.free 9
 have zf10 := h6.res.free 10
 have zf11 := h6.res.free 11
 have zf12 := h6.res.free 12
 simp only [gA, gB, gC] at z0 z1 z2 z3 z4 z5 z6 z7 z8 z9 z10 z11 z12
 go_wp2_with fail
 obtain ⟨hT9, hB, hKD⟩ := h6.fin
 (try simp only [Exit.inBlock, Exit.then])
 refine bodyPost_ret (results_tmp_row_tmp rfl _ _ (w.heap.size + 2) rfl (run_loadVar_row _ _ _ _ _ _ _ hB Tryz.underlying40 rfl (by kernel_rfl))) rfl ?_
 exact ⟨C, _, _, _, rfl, hT9, hKD⟩
end
end Go.Proofs.YtncgfnocokippaaGreat.Policyy
