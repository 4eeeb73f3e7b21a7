/- Layer 9: one act done to the program's policy and to the document's: evicting, reading of bytes. The only condition: both are the same, and as chapters 7 and 8 have it. -/
import Derived.Test.YtncgfnocokippaaGreatPolicyDoing
import Derived.BigQuiet
import Derived.Test.YtncgfnocokippaaGreatSq
namespace Go.Proofs.YtncgfnocokippaaGreat.Policyy
open Go.ChangeShapes Go.WideShapes Go.ChangeAt Go.RowKit Go.Shelf
open Wirey (Blk Row str str_size str_list str_cat Kp)
open Ringy hiding fewL fewL_le
open Go.ChangeMaps Go.Maps
open Tinyy (fewL results_tmp_row_tmp row_cell)

section
variable {w0 w x y : World} {C C' : Nat} {p p' u u' : Pv} {H H' I I' K : Nat → Prop} {c c0 c' : Nat → Value} {k : Key} {i j : Nat}
theorem blk_drew {x : World} {b : Nat} {t : TypeId} {cs : Array Value} (h : Blk x b t cs) : Blk x.drew b t cs := h
set_option maxHeartbeats 8000000 in
set_option maxRecDepth 100000 in
theorem do_evict (T : List UInt8) (hT : T.length ≤ maxLen) (hK : ∀ q, K q → q < w.heap.size ∧ Side H I q) (h : Twin w0 C p H p c I w) :
  Calls Tryz.prog 8 #[.pointer (some ⟨C, 0, none⟩), .agg #[c 0, c 1, c 2, c 3, c 4, c 5, c 6, c 7, c 8, c 9, c 10, c 11, c 12], .agg #[.int .i64 7, .string (str T)]] w (DoP w0 K w p.evict) := by
 have h1 := Ds.new (a := .int .i64 7) (b := .string (str T)) hK h
 have hg := h.g
 have hact := act_blk (a := .int .i64 7) (b := .string (str T)) (x := w.alloc (.cells #[c 0, c 1, c 2, c 3, c 4, c 5, c 6, c 7, c 8, c 9, c 10, c 11, c 12] 40))
 rw [show (w.alloc (.cells #[c 0, c 1, c 2, c 3, c 4, c 5, c 6, c 7, c 8, c 9, c 10, c 11, c 12] 40)).heap.size = w.heap.size + 1 by simp] at hact
 have hfl := fewP_le T
 have hfw := fun W => fewP_c T hT W
 have oc := h.d.one
 have hs := fun (i : Nat) (a : Addr) (m : Mode) (W : World) => run_store Tryz.prog W a (c i) m (oc i)
 clear h hK
 go_enter Tryz.func8, Tryz.ntmps8
 go_upto_region 1 with (fail)
 generalize ((w.alloc (.cells #[c 0, c 1, c 2, c 3, c 4, c 5, c 6, c 7, c 8, c 9, c 10, c 11, c 12] 40)).alloc (.cells #[.int .i64 7, .string (str T)] 46)).alloc (.cells #[.int .i64 0, .int .i64 0, .int .i64 0, .slice none 0 0, .int .i64 0, .int .i64 0, .int .i64 0, .int .u64 0, .slice none 0 0, .slice none 0 0, .int .i64 0, .slice none 0 0, .int .i64 0] 40) = w1 at *
 obtain ⟨k0, k1⟩ := hact
 generalize hkk : fewL T = k at *
 go_wp2_with fail
 refine (hfw _).mono ?_
 rintro e w' ⟨rfl, rfl⟩
 clear hkk hfw
 have x0 := h1.box.cell 0
 have x1 := h1.box.cell 1
 have x2 := h1.box.cell 2
 have x3 := h1.box.cell 3
 have x4 := h1.box.cell 4
 have x5 := h1.box.cell 5
 have x6 := h1.box.cell 6
 have x7 := h1.box.cell 7
 have x8 := h1.box.cell 8
 have x9 := h1.box.cell 9
 have x10 := h1.box.cell 10
 have x11 := h1.box.cell 11
 have x12 := h1.box.cell 12
 simp only [gA, gB, gC] at x0 x1 x2 x3 x4 x5 x6 x7 x8 x9 x10 x11 x12
 have HG := Lib.hid hg.evict
 have fd := evictD hg w1 h1.two.d
 have fe := fun W (h : HeldP w0 C W p H) => evictP_c h
 generalize p.goes.getD [] = t at *
 generalize p.goes.isSome = bb at *
 go_wp2_with fail
 refine fd.mono ?_
 rintro e w4 ⟨d, J, rfl, hgo⟩
 have od := hgo.d.one
 have hd := fun (i : Nat) (a : Addr) (m : Mode) (W : World) => run_store Tryz.prog W a (d i) m (od i)
 have h3 := h1.goes hgo HG.out
 have h4 := h3.onto ((Below.refl _ w4).alloc (Nat.le_refl _) (.cells #[d 0, d 1, d 2, d 3, d 4, d 5, d 6, d 7, d 8, d 9, d 10, d 11, d 12] 40))
 have hb4 := Blk.new w4 40 #[d 0, d 1, d 2, d 3, d 4, d 5, d 6, d 7, d 8, d 9, d 10, d 11, d 12]
 have hs4 := h3.two.fresh (q := w4.heap.size) (Nat.le_refl _)
 have hq2 : w4.heap.size ≠ w.heap.size + 2 := by have := h3.hi; omega
 clear x0 x1 x2 x3 x4 x5 x6 x7 x8 x9 x10 x11 x12 k0 k1
 clear fd h1 hgo h3
 go_upto_region 12 with (fail)
 generalize w4.heap.size = z at *
 generalize w4.alloc (.cells #[d 0, d 1, d 2, d 3, d 4, d 5, d 6, d 7, d 8, d 9, d 10, d 11, d 12] 40) = w5 at *
 go_wp2_with fail
 refine (fe _ h4.two.a).mono ?_
 rintro e w6 ⟨rfl, H2, hHv, hSt⟩
 have hb6 : Blk w6 z 40 #[d 0, d 1, d 2, d 3, d 4, d 5, d 6, d 7, d 8, d 9, d 10, d 11, d 12] := (hs4.kp hSt hb4.lt).trans hb4
 have h6 := h4.step hHv hSt
 have htl := Wirey.toList_str
 clear h4 hb4 hHv hSt fe
 go_upto_region 13 with (fail)
 have hb7 : Blk (((((((((((((w6.setCell ⟨w.heap.size + 2, 0, none⟩ (d 0)).setCell ⟨w.heap.size + 2, 1, none⟩ (d 1)).setCell ⟨w.heap.size + 2, 2, none⟩ (d 2)).setCell ⟨w.heap.size + 2, 3, none⟩ (d 3)).setCell ⟨w.heap.size + 2, 4, none⟩ (d 4)).setCell ⟨w.heap.size + 2, 5, none⟩ (d 5)).setCell ⟨w.heap.size + 2, 6, none⟩ (d 6)).setCell ⟨w.heap.size + 2, 7, none⟩ (d 7)).setCell ⟨w.heap.size + 2, 8, none⟩ (d 8)).setCell ⟨w.heap.size + 2, 9, none⟩ (d 9)).setCell ⟨w.heap.size + 2, 10, none⟩ (d 10)).setCell ⟨w.heap.size + 2, 11, none⟩ (d 11)).setCell ⟨w.heap.size + 2, 12, none⟩ (d 12)) z 40 #[d 0, d 1, d 2, d 3, d 4, d 5, d 6, d 7, d 8, d 9, d 10, d 11, d 12] := far13 hb6 hq2 d
 have hb8 := blk_drew hb7
 have hr7 : Blk w6.drew (w.heap.size + 2) 40 #[.int .i64 0, .int .i64 0, .int .i64 0, .slice none 0 0, .int .i64 0, .int .i64 0, .int .i64 0, .int .u64 0, .slice none 0 0, .slice none 0 0, .int .i64 0, .slice none 0 0, .int .i64 0] := h6.res
 have hS5 : w6.drew.cell? ⟨z, 0, none⟩ = some (d 0) ∧ w6.drew.cell? ⟨z, 1, none⟩ = some (d 1) ∧ w6.drew.cell? ⟨z, 2, none⟩ = some (d 2) ∧ w6.drew.cell? ⟨z, 3, none⟩ = some (d 3) ∧ w6.drew.cell? ⟨z, 4, none⟩ = some (d 4) ∧ w6.drew.cell? ⟨z, 5, none⟩ = some (d 5) ∧ w6.drew.cell? ⟨z, 6, none⟩ = some (d 6) ∧ w6.drew.cell? ⟨z, 7, none⟩ = some (d 7) ∧ w6.drew.cell? ⟨z, 8, none⟩ = some (d 8) ∧ w6.drew.cell? ⟨z, 9, none⟩ = some (d 9) ∧ w6.drew.cell? ⟨z, 10, none⟩ = some (d 10) ∧ w6.drew.cell? ⟨z, 11, none⟩ = some (d 11) ∧ w6.drew.cell? ⟨z, 12, none⟩ = some (d 12) := ⟨hb6.cell 0, hb6.cell 1, hb6.cell 2, hb6.cell 3, hb6.cell 4, hb6.cell 5, hb6.cell 6, hb6.cell 7, hb6.cell 8, hb6.cell 9, hb6.cell 10, hb6.cell 11, hb6.cell 12⟩
 have z0 := hr7.cell 0
 have z1 := hr7.cell 1
 have z2 := hr7.cell 2
 have z3 := hr7.cell 3
 have z4 := hr7.cell 4
 have z5 := hr7.cell 5
 have z6 := hr7.cell 6
 have z7 := hr7.cell 7
 have z8 := hr7.cell 8
 have z9 := hr7.cell 9
 have z10 := hr7.cell 10
 have z11 := hr7.cell 11
 have z12 := hr7.cell 12
 have zf0 := hr7.free 0
 have zf1 := hr7.free 1
 have zf2 := hr7.free 2
 have zf3 := hr7.free 3
 have zf4 := hr7.free 4
 have zf5 := hr7.free 5
 have zf6 := hr7.free 6
 have zf7 := hr7.free 7
 have zf8 := hr7.free 8
 have zf9 := hr7.free 9
 have zf10 := hr7.free 10
 have zf11 := hr7.free 11
 have zf12 := hr7.free 12
 simp only [gA, gB, gC] at z0 z1 z2 z3 z4 z5 z6 z7 z8 z9 z10 z11 z12
 have r0 := h6.res.cell 0
 have r1 := h6.res.cell 1
 have r2 := h6.res.cell 2
 have r3 := h6.res.cell 3
 have r4 := h6.res.cell 4
 have r5 := h6.res.cell 5
 have r6 := h6.res.cell 6
 have r7 := h6.res.cell 7
 have r8 := h6.res.cell 8
 have r9 := h6.res.cell 9
 have r10 := h6.res.cell 10
 have r11 := h6.res.cell 11
 have r12 := h6.res.cell 12
 have rf0 := h6.res.free 0
 have rf1 := h6.res.free 1
 have rf2 := h6.res.free 2
 have rf3 := h6.res.free 3
 have rf4 := h6.res.free 4
 have rf5 := h6.res.free 5
 have rf6 := h6.res.free 6
 have rf7 := h6.res.free 7
 have rf8 := h6.res.free 8
 have rf9 := h6.res.free 9
 have rf10 := h6.res.free 10
 have rf11 := h6.res.free 11
 have rf12 := h6.res.free 12
 simp only [gA, gB, gC] at r0 r1 r2 r3 r4 r5 r6 r7 r8 r9 r10 r11 r12
 refine region_only 13 #[false, false, false, false, false, false, false, false, false, false, false, false, false] (S := (fun W => W.cell? ⟨z, 0, none⟩ = some (d 0) ∧ W.cell? ⟨z, 1, none⟩ = some (d 1) ∧ W.cell? ⟨z, 2, none⟩ = some (d 2) ∧ W.cell? ⟨z, 3, none⟩ = some (d 3) ∧ W.cell? ⟨z, 4, none⟩ = some (d 4) ∧ W.cell? ⟨z, 5, none⟩ = some (d 5) ∧ W.cell? ⟨z, 6, none⟩ = some (d 6) ∧ W.cell? ⟨z, 7, none⟩ = some (d 7) ∧ W.cell? ⟨z, 8, none⟩ = some (d 8) ∧ W.cell? ⟨z, 9, none⟩ = some (d 9) ∧ W.cell? ⟨z, 10, none⟩ = some (d 10) ∧ W.cell? ⟨z, 11, none⟩ = some (d 11) ∧ W.cell? ⟨z, 12, none⟩ = some (d 12))) rfl rfl (by kernel_rfl) hS5 (fun hSw => ?_)
 refine tkA 0 72 12 ?_ rfl rfl ?_ hSw ?_
 rotate_left
 ·intro wx hSx; (try dsimp only at hSx); go_split_ands; go_simp; (try with_reducible rfl)
 simp only [sA, List.set_cons_zero, sC]
 refine tkA 1 73 11 ?_ rfl rfl ?_ hSw ?_
 rotate_left
 ·intro wx hSx; (try dsimp only at hSx); go_split_ands; go_simp; (try with_reducible rfl)
 simp only [sA, List.set_cons_zero, sC]
 refine tkA 2 74 10 ?_ rfl rfl ?_ hSw ?_
 rotate_left
 ·intro wx hSx; (try dsimp only at hSx); go_split_ands; go_simp; (try with_reducible rfl)
 simp only [sA, List.set_cons_zero, sC]
 refine tkA 3 75 9 ?_ rfl rfl ?_ hSw ?_
 rotate_left
 ·intro wx hSx; (try dsimp only at hSx); go_split_ands; go_simp; (try with_reducible rfl)
 simp only [sA, List.set_cons_zero, sC]
 refine tkA 4 76 8 ?_ rfl rfl ?_ hSw ?_
 rotate_left
 ·intro wx hSx; (try dsimp only at hSx); go_split_ands; go_simp; (try with_reducible rfl)
 simp only [sA, List.set_cons_zero, sC]
 refine tkA 5 77 7 ?_ rfl rfl ?_ hSw ?_
 rotate_left
 ·intro wx hSx; (try dsimp only at hSx); go_split_ands; go_simp; (try with_reducible rfl)
 simp only [sA, List.set_cons_zero, sC]
 refine tkA 6 78 6 ?_ rfl rfl ?_ hSw ?_
 rotate_left
 ·intro wx hSx; (try dsimp only at hSx); go_split_ands; go_simp; (try with_reducible rfl)
 simp only [sA, List.set_cons_zero, sC]
 refine tkA 7 79 5 ?_ rfl rfl ?_ hSw ?_
 rotate_left
 ·intro wx hSx; (try dsimp only at hSx); go_split_ands; go_simp; (try with_reducible rfl)
 simp only [sA, List.set_cons_zero, sC]
 refine tkA 8 80 4 ?_ rfl rfl ?_ hSw ?_
 rotate_left
 ·intro wx hSx; (try dsimp only at hSx); go_split_ands; go_simp; (try with_reducible rfl)
 simp only [sA, List.set_cons_zero, sC]
 refine tkA 9 81 3 ?_ rfl rfl ?_ hSw ?_
 rotate_left
 ·intro wx hSx; (try dsimp only at hSx); go_split_ands; go_simp; (try with_reducible rfl)
 simp only [sA, List.set_cons_zero, sC]
 refine tkA 10 6 2 ?_ rfl rfl ?_ hSw ?_
 rotate_left
 ·intro wx hSx; (try dsimp only at hSx); go_split_ands; go_simp; (try with_reducible rfl)
 simp only [sA, List.set_cons_zero, sC]
 refine rdA 1 11 rfl fun K hK => ?_
 go_simp
 refine hK.out _ _ ⟨hb8.cell 0, hb8.cell 1, hb8.cell 2, hb8.cell 3, hb8.cell 4, hb8.cell 5, hb8.cell 6, hb8.cell 7, hb8.cell 8, hb8.cell 9, hb8.cell 10, hb8.cell 11, hb8.cell 12⟩ (fun hSw => ?_)
 clear hK K
 simp only [sA, List.set_cons_zero, sC]
 refine tkA 12 8 0 ?_ rfl rfl ?_ hSw ?_
 rotate_left
 ·intro wx hSx; (try dsimp only at hSx); go_split_ands; go_simp; (try with_reducible rfl)
 simp only [sA, List.set_cons_zero, sC]
 refine wpAnyH_done (by kernel_rfl) ⟨rfl, ?_⟩ 0
 clear hSw hS5 hb8 hb7 hb6 hr7
 clear z0 zf0 z1 zf1 z2 zf2 z3 zf3 z4 zf4 z5 zf5 z6 zf6 z7 zf7 z8 zf8 z9 zf9 z10 zf10 z11 zf11 z12 zf12
 clear r0 rf0 r1 rf1 r2 rf2 r3 rf3 r4 rf4 r5 rf5 r6 rf6 r7 rf7 r8 rf8 r9 rf9 r10 rf10 r11 rf11 r12 rf12
 obtain ⟨hT9, hB9, hKD9⟩ := h6.fin
 generalize (((((((((((((w6.setCell ⟨w.heap.size + 2, 0, none⟩ (d 0)).setCell ⟨w.heap.size + 2, 1, none⟩ (d 1)).setCell ⟨w.heap.size + 2, 2, none⟩ (d 2)).setCell ⟨w.heap.size + 2, 3, none⟩ (d 3)).setCell ⟨w.heap.size + 2, 4, none⟩ (d 4)).setCell ⟨w.heap.size + 2, 5, none⟩ (d 5)).setCell ⟨w.heap.size + 2, 6, none⟩ (d 6)).setCell ⟨w.heap.size + 2, 7, none⟩ (d 7)).setCell ⟨w.heap.size + 2, 8, none⟩ (d 8)).setCell ⟨w.heap.size + 2, 9, none⟩ (d 9)).setCell ⟨w.heap.size + 2, 10, none⟩ (d 10)).setCell ⟨w.heap.size + 2, 11, none⟩ (d 11)).setCell ⟨w.heap.size + 2, 12, none⟩ (d 12)) = w9 at *
 have hT : Twin w0 C p.evict H2 p.evict d J w9.drew := hT9.onto ⟨rfl, rfl, rfl, Nat.le_refl _, fun _ _ => rfl⟩
 have hB : Blk w9.drew (w.heap.size + 2) 40 #[d 0, d 1, d 2, d 3, d 4, d 5, d 6, d 7, d 8, d 9, d 10, d 11, d 12] := hB9
 have hKD : ∀ q, K q → w9.drew.heap[q]? = w.heap[q]? ∧ Side H2 J q := hKD9
 clear hT9 hB9 hKD9 h6
 generalize w9.drew = wz at *
 go_wp2_with fail
 (try simp only [Exit.inBlock, Exit.then])
 refine bodyPost_ret (results_tmp_row_tmp rfl _ _ (w.heap.size + 2) rfl (run_loadVar_row _ _ _ _ _ _ _ hB Tryz.underlying40 rfl (by kernel_rfl))) rfl ?_
 exact ⟨C, _, _, _, rfl, hT, hKD⟩
set_option maxHeartbeats 8000000 in
set_option maxRecDepth 100000 in
theorem do_read (T : List UInt8) (hT : T.length ≤ maxLen) (hK : ∀ q, K q → q < w.heap.size ∧ Side H I q) (h : Twin w0 C p H p c I w) :
  Calls Tryz.prog 8 #[.pointer (some ⟨C, 0, none⟩), .agg #[c 0, c 1, c 2, c 3, c 4, c 5, c 6, c 7, c 8, c 9, c 10, c 11, c 12], .agg #[.int .i64 9, .string (str T)]] w (DoP w0 K w p) := by
 have h1 := Ds.new (a := .int .i64 9) (b := .string (str T)) hK h
 have hg := h.g
 have hact := act_blk (a := .int .i64 9) (b := .string (str T)) (x := w.alloc (.cells #[c 0, c 1, c 2, c 3, c 4, c 5, c 6, c 7, c 8, c 9, c 10, c 11, c 12] 40))
 rw [show (w.alloc (.cells #[c 0, c 1, c 2, c 3, c 4, c 5, c 6, c 7, c 8, c 9, c 10, c 11, c 12] 40)).heap.size = w.heap.size + 1 by simp] at hact
 have hfl := fewP_le T
 have hfw := fun W => fewP_c T hT W
 have oc := h.d.one
 have hs := fun (i : Nat) (a : Addr) (m : Mode) (W : World) => run_store Tryz.prog W a (c i) m (oc i)
 clear h hK
 go_enter Tryz.func8, Tryz.ntmps8
 go_upto_region 1 with (fail)
 generalize ((w.alloc (.cells #[c 0, c 1, c 2, c 3, c 4, c 5, c 6, c 7, c 8, c 9, c 10, c 11, c 12] 40)).alloc (.cells #[.int .i64 9, .string (str T)] 46)).alloc (.cells #[.int .i64 0, .int .i64 0, .int .i64 0, .slice none 0 0, .int .i64 0, .int .i64 0, .int .i64 0, .int .u64 0, .slice none 0 0, .slice none 0 0, .int .i64 0, .slice none 0 0, .int .i64 0] 40) = w1 at *
 obtain ⟨k0, k1⟩ := hact
 generalize hkk : fewL T = k at *
 go_wp2_with fail
 refine (hfw _).mono ?_
 rintro e w' ⟨rfl, rfl⟩
 clear hkk hfw
 have x0 := h1.box.cell 0
 have x1 := h1.box.cell 1
 have x2 := h1.box.cell 2
 have x3 := h1.box.cell 3
 have x4 := h1.box.cell 4
 have x5 := h1.box.cell 5
 have x6 := h1.box.cell 6
 have x7 := h1.box.cell 7
 have x8 := h1.box.cell 8
 have x9 := h1.box.cell 9
 have x10 := h1.box.cell 10
 have x11 := h1.box.cell 11
 have x12 := h1.box.cell 12
 simp only [gA, gB, gC] at x0 x1 x2 x3 x4 x5 x6 x7 x8 x9 x10 x11 x12
 have fe := fun W (h : HeldP w0 C W p H) => exportP_c hg h
 have fi := fun W => importP_c hg W
 have fp := fun W (h : DP W p c I) => putD hg W h
 clear hfl fp
 go_wp2_with fail
 refine (fe _ h1.two.a).mono ?_
 rintro e w3 ⟨rfl, hB⟩
 have h3 := h1.onto hB.b
 clear hB h1
 clear x0 x1 x2 x3 x4 x5 x6 x7 x8 x9 x10 x11 x12 k0 k1
 go_wp2_with fail
 refine (fi _).mono ?_
 rintro e w4 ⟨C', H', rfl, hN, hbl⟩
 have h4n := h3.turn hbl hN
 clear h3 hN hbl fi fe
 go_upto_region 19 with (fail)
 have hq2 : w.heap.size ≠ w.heap.size + 2 := by omega
 have hb7 : Blk (((((((((((((w4.setCell ⟨w.heap.size + 2, 0, none⟩ (c 0)).setCell ⟨w.heap.size + 2, 1, none⟩ (c 1)).setCell ⟨w.heap.size + 2, 2, none⟩ (c 2)).setCell ⟨w.heap.size + 2, 3, none⟩ (c 3)).setCell ⟨w.heap.size + 2, 4, none⟩ (c 4)).setCell ⟨w.heap.size + 2, 5, none⟩ (c 5)).setCell ⟨w.heap.size + 2, 6, none⟩ (c 6)).setCell ⟨w.heap.size + 2, 7, none⟩ (c 7)).setCell ⟨w.heap.size + 2, 8, none⟩ (c 8)).setCell ⟨w.heap.size + 2, 9, none⟩ (c 9)).setCell ⟨w.heap.size + 2, 10, none⟩ (c 10)).setCell ⟨w.heap.size + 2, 11, none⟩ (c 11)).setCell ⟨w.heap.size + 2, 12, none⟩ (c 12)) w.heap.size 40 #[c 0, c 1, c 2, c 3, c 4, c 5, c 6, c 7, c 8, c 9, c 10, c 11, c 12] := far13 h4n.box hq2 c
 have hb8 := blk_drew hb7
 have hr7 : Blk w4.drew (w.heap.size + 2) 40 #[.int .i64 0, .int .i64 0, .int .i64 0, .slice none 0 0, .int .i64 0, .int .i64 0, .int .i64 0, .int .u64 0, .slice none 0 0, .slice none 0 0, .int .i64 0, .slice none 0 0, .int .i64 0] := h4n.res
 have hS5 : w4.drew.cell? ⟨w.heap.size, 0, none⟩ = some (c 0) ∧ w4.drew.cell? ⟨w.heap.size, 1, none⟩ = some (c 1) ∧ w4.drew.cell? ⟨w.heap.size, 2, none⟩ = some (c 2) ∧ w4.drew.cell? ⟨w.heap.size, 3, none⟩ = some (c 3) ∧ w4.drew.cell? ⟨w.heap.size, 4, none⟩ = some (c 4) ∧ w4.drew.cell? ⟨w.heap.size, 5, none⟩ = some (c 5) ∧ w4.drew.cell? ⟨w.heap.size, 6, none⟩ = some (c 6) ∧ w4.drew.cell? ⟨w.heap.size, 7, none⟩ = some (c 7) ∧ w4.drew.cell? ⟨w.heap.size, 8, none⟩ = some (c 8) ∧ w4.drew.cell? ⟨w.heap.size, 9, none⟩ = some (c 9) ∧ w4.drew.cell? ⟨w.heap.size, 10, none⟩ = some (c 10) ∧ w4.drew.cell? ⟨w.heap.size, 11, none⟩ = some (c 11) ∧ w4.drew.cell? ⟨w.heap.size, 12, none⟩ = some (c 12) := ⟨h4n.box.cell 0, h4n.box.cell 1, h4n.box.cell 2, h4n.box.cell 3, h4n.box.cell 4, h4n.box.cell 5, h4n.box.cell 6, h4n.box.cell 7, h4n.box.cell 8, h4n.box.cell 9, h4n.box.cell 10, h4n.box.cell 11, h4n.box.cell 12⟩
 have z0 := hr7.cell 0
 have z1 := hr7.cell 1
 have z2 := hr7.cell 2
 have z3 := hr7.cell 3
 have z4 := hr7.cell 4
 have z5 := hr7.cell 5
 have z6 := hr7.cell 6
 have z7 := hr7.cell 7
 have z8 := hr7.cell 8
 have z9 := hr7.cell 9
 have z10 := hr7.cell 10
 have z11 := hr7.cell 11
 have z12 := hr7.cell 12
 have zf0 := hr7.free 0
 have zf1 := hr7.free 1
 have zf2 := hr7.free 2
 have zf3 := hr7.free 3
 have zf4 := hr7.free 4
 have zf5 := hr7.free 5
 have zf6 := hr7.free 6
 have zf7 := hr7.free 7
 have zf8 := hr7.free 8
 have zf9 := hr7.free 9
 have zf10 := hr7.free 10
 have zf11 := hr7.free 11
 have zf12 := hr7.free 12
 simp only [gA, gB, gC] at z0 z1 z2 z3 z4 z5 z6 z7 z8 z9 z10 z11 z12
 have r0 := h4n.res.cell 0
 have r1 := h4n.res.cell 1
 have r2 := h4n.res.cell 2
 have r3 := h4n.res.cell 3
 have r4 := h4n.res.cell 4
 have r5 := h4n.res.cell 5
 have r6 := h4n.res.cell 6
 have r7 := h4n.res.cell 7
 have r8 := h4n.res.cell 8
 have r9 := h4n.res.cell 9
 have r10 := h4n.res.cell 10
 have r11 := h4n.res.cell 11
 have r12 := h4n.res.cell 12
 have rf0 := h4n.res.free 0
 have rf1 := h4n.res.free 1
 have rf2 := h4n.res.free 2
 have rf3 := h4n.res.free 3
 have rf4 := h4n.res.free 4
 have rf5 := h4n.res.free 5
 have rf6 := h4n.res.free 6
 have rf7 := h4n.res.free 7
 have rf8 := h4n.res.free 8
 have rf9 := h4n.res.free 9
 have rf10 := h4n.res.free 10
 have rf11 := h4n.res.free 11
 have rf12 := h4n.res.free 12
 simp only [gA, gB, gC] at r0 r1 r2 r3 r4 r5 r6 r7 r8 r9 r10 r11 r12
 refine region_only 7 #[false, false, false, false, false, false, false] (S := (fun W => W.cell? ⟨w.heap.size, 0, none⟩ = some (c 0) ∧ W.cell? ⟨w.heap.size, 1, none⟩ = some (c 1) ∧ W.cell? ⟨w.heap.size, 2, none⟩ = some (c 2) ∧ W.cell? ⟨w.heap.size, 3, none⟩ = some (c 3) ∧ W.cell? ⟨w.heap.size, 4, none⟩ = some (c 4) ∧ W.cell? ⟨w.heap.size, 5, none⟩ = some (c 5) ∧ W.cell? ⟨w.heap.size, 6, none⟩ = some (c 6) ∧ W.cell? ⟨w.heap.size, 7, none⟩ = some (c 7) ∧ W.cell? ⟨w.heap.size, 8, none⟩ = some (c 8) ∧ W.cell? ⟨w.heap.size, 9, none⟩ = some (c 9) ∧ W.cell? ⟨w.heap.size, 10, none⟩ = some (c 10) ∧ W.cell? ⟨w.heap.size, 11, none⟩ = some (c 11) ∧ W.cell? ⟨w.heap.size, 12, none⟩ = some (c 12))) rfl rfl (by kernel_rfl) hS5 (fun hSw => ?_)
 refine tkA 0 99 6 ?_ rfl rfl ?_ hSw ?_
 rotate_left
 ·intro wx hSx; (try dsimp only at hSx); go_split_ands; go_simp; (try with_reducible rfl)
 simp only [sA, List.set_cons_zero, sC]
 refine tkA 1 100 5 ?_ rfl rfl ?_ hSw ?_
 rotate_left
 ·intro wx hSx; (try dsimp only at hSx); go_split_ands; go_simp; (try with_reducible rfl)
 simp only [sA, List.set_cons_zero, sC]
 refine tkA 2 101 4 ?_ rfl rfl ?_ hSw ?_
 rotate_left
 ·intro wx hSx; (try dsimp only at hSx); go_split_ands; go_simp; (try with_reducible rfl)
 simp only [sA, List.set_cons_zero, sC]
 refine tkA 3 102 3 ?_ rfl rfl ?_ hSw ?_
 rotate_left
 ·intro wx hSx; (try dsimp only at hSx); go_split_ands; go_simp; (try with_reducible rfl)
 simp only [sA, List.set_cons_zero, sC]
 refine tkA 4 6 2 ?_ rfl rfl ?_ hSw ?_
 rotate_left
 ·intro wx hSx; (try dsimp only at hSx); go_split_ands; go_simp; (try with_reducible rfl)
 simp only [sA, List.set_cons_zero, sC]
 refine rdA 1 5 rfl fun K hK => ?_
 go_simp
 refine hK.out _ _ ⟨hb8.cell 0, hb8.cell 1, hb8.cell 2, hb8.cell 3, hb8.cell 4, hb8.cell 5, hb8.cell 6, hb8.cell 7, hb8.cell 8, hb8.cell 9, hb8.cell 10, hb8.cell 11, hb8.cell 12⟩ (fun hSw => ?_)
 clear hK K
 simp only [sA, List.set_cons_zero, sC]
 refine tkA 6 8 0 ?_ rfl rfl ?_ hSw ?_
 rotate_left
 ·intro wx hSx; (try dsimp only at hSx); go_split_ands; go_simp; (try with_reducible rfl)
 simp only [sA, List.set_cons_zero, sC]
 refine wpAnyH_done (by kernel_rfl) ⟨rfl, ?_⟩ 0
 clear hSw hS5 hb8 hb7 hr7
 clear z0 zf0 z1 zf1 z2 zf2 z3 zf3 z4 zf4 z5 zf5 z6 zf6 z7 zf7 z8 zf8 z9 zf9 z10 zf10 z11 zf11 z12 zf12
 clear r0 rf0 r1 rf1 r2 rf2 r3 rf3 r4 rf4 r5 rf5 r6 rf6 r7 rf7 r8 rf8 r9 rf9 r10 rf10 r11 rf11 r12 rf12
 obtain ⟨hT9, hB9, hKD9⟩ := h4n.fin
 generalize (((((((((((((w4.setCell ⟨w.heap.size + 2, 0, none⟩ (c 0)).setCell ⟨w.heap.size + 2, 1, none⟩ (c 1)).setCell ⟨w.heap.size + 2, 2, none⟩ (c 2)).setCell ⟨w.heap.size + 2, 3, none⟩ (c 3)).setCell ⟨w.heap.size + 2, 4, none⟩ (c 4)).setCell ⟨w.heap.size + 2, 5, none⟩ (c 5)).setCell ⟨w.heap.size + 2, 6, none⟩ (c 6)).setCell ⟨w.heap.size + 2, 7, none⟩ (c 7)).setCell ⟨w.heap.size + 2, 8, none⟩ (c 8)).setCell ⟨w.heap.size + 2, 9, none⟩ (c 9)).setCell ⟨w.heap.size + 2, 10, none⟩ (c 10)).setCell ⟨w.heap.size + 2, 11, none⟩ (c 11)).setCell ⟨w.heap.size + 2, 12, none⟩ (c 12)) = w9 at *
 have hT : Twin w0 C' p H' p c I w9.drew := hT9.onto ⟨rfl, rfl, rfl, Nat.le_refl _, fun _ _ => rfl⟩
 have hB : Blk w9.drew (w.heap.size + 2) 40 #[c 0, c 1, c 2, c 3, c 4, c 5, c 6, c 7, c 8, c 9, c 10, c 11, c 12] := hB9
 have hKD : ∀ q, K q → w9.drew.heap[q]? = w.heap[q]? ∧ Side H' I q := hKD9
 clear hT9 hB9 hKD9 h4n
 generalize w9.drew = wz at *
 go_wp2_with fail
 (try simp only [Exit.inBlock, Exit.then])
 refine bodyPost_ret (results_tmp_row_tmp rfl _ _ (w.heap.size + 2) rfl (run_loadVar_row _ _ _ _ _ _ _ hB Tryz.underlying40 rfl (by kernel_rfl))) rfl ?_
 exact ⟨C', _, _, _, rfl, hT, hKD⟩
end
end Go.Proofs.YtncgfnocokippaaGreat.Policyy
