/- Layer 9: one act done to the program's policy and to the document's: inserting. The only condition: both are the same, and as chapters 7 and 8 have it. Layer 9 (policy): what the laws of acts stand on: a list of acts, each act, and what a round begins with. The only condition: both policies are the same, and as chapters 7 and 8 have it. -/
import Derived.Test.YtncgfnocokippaaGreatPolicyDoing
import Derived.BigQuiet
import Derived.Test.YtncgfnocokippaaGreatKit
import Derived.Test.YtncgfnocokippaaGreatPolicyDoingA
import Derived.Test.YtncgfnocokippaaGreatPolicyDoingB
import Derived.Test.YtncgfnocokippaaGreatTinyMathAll
import Derived.Deep.CutBlock
import Derived.Deep.CutRange
import Derived.Deep.RegionHeld3
import Derived.Deep.QuietTactic
import Derived.Test.YtncgfnocokippaaGreatSq
namespace Go.Proofs.YtncgfnocokippaaGreat.Policyy
open Go.ChangeShapes Go.WideShapes Go.ChangeAt Go.RowKit Go.Shelf
open Wirey (Blk Row str str_size str_list str_cat Kp)
open Ringy hiding fewL fewL_le
open Go.ChangeMaps Go.Maps
open Tinyy (fewL results_tmp_row_tmp row_cell)

section
variable {w0 w x y : World} {C C' : Nat} {p p' u u' : Pv} {H H' I I' K : Nat → Prop} {c c0 c' : Nat → Value} {k : Key} {i j : Nat}
set_option maxHeartbeats 8000000 in
set_option maxRecDepth 100000 in
theorem do_insert (T : List UInt8) (hT : T.length ≤ maxLen) (q : Int) (b4 : (q == 4) = false) (b5 : (q == 5) = false) (b6 : (q == 6) = false) (b7 : (q == 7) = false) (b8 : (q == 8) = false) (b9 : (q == 9) = false) (hK : ∀ q, K q → q < w.heap.size ∧ Side H I q) (h : Twin w0 C p H p c I w) :
  Calls Tryz.prog 8 #[.pointer (some ⟨C, 0, none⟩), .agg #[c 0, c 1, c 2, c 3, c 4, c 5, c 6, c 7, c 8, c 9, c 10, c 11, c 12], .agg #[.int .i64 q, .string (str T)]] w (DoP w0 K w (p.insert (fewL T))) := by
 have h1 := Ds.new (a := .int .i64 q) (b := .string (str T)) hK h
 have hg := h.g
 have hact := act_blk (a := .int .i64 q) (b := .string (str T)) (x := w.alloc (.cells #[c 0, c 1, c 2, c 3, c 4, c 5, c 6, c 7, c 8, c 9, c 10, c 11, c 12] 40))
 rw [show (w.alloc (.cells #[c 0, c 1, c 2, c 3, c 4, c 5, c 6, c 7, c 8, c 9, c 10, c 11, c 12] 40)).heap.size = w.heap.size + 1 by simp] at hact
 have hfl := fewP_le T
 have hfw := fun W => fewP_c T hT W
 have oc := h.d.one
 have hs := fun (i : Nat) (a : Addr) (m : Mode) (W : World) => run_store Tryz.prog W a (c i) m (oc i)
 clear h hK
 go_enter Tryz.func8, Tryz.ntmps8
 go_upto_region 1 with (fail)
 generalize ((w.alloc (.cells #[c 0, c 1, c 2, c 3, c 4, c 5, c 6, c 7, c 8, c 9, c 10, c 11, c 12] 40)).alloc (.cells #[.int .i64 q, .string (str T)] 46)).alloc (.cells #[.int .i64 0, .int .i64 0, .int .i64 0, .slice none 0 0, .int .i64 0, .int .i64 0, .int .i64 0, .int .u64 0, .slice none 0 0, .slice none 0 0, .int .i64 0, .slice none 0 0, .int .i64 0] 40) = w1 at *
 obtain ⟨k0, k1⟩ := hact
 generalize hkk : fewL T = k at *
 go_wp2_with fail
 refine (hfw _).mono ?_
 rintro e w' ⟨rfl, rfl⟩
 clear hkk hfw
 have x0 := h1.box.cell 0
 have x1 := h1.box.cell 1
 have x2 := h1.box.cell 2
 have x3 := h1.box.cell 3
 have x4 := h1.box.cell 4
 have x5 := h1.box.cell 5
 have x6 := h1.box.cell 6
 have x7 := h1.box.cell 7
 have x8 := h1.box.cell 8
 have x9 := h1.box.cell 9
 have x10 := h1.box.cell 10
 have x11 := h1.box.cell 11
 have x12 := h1.box.cell 12
 simp only [gA, gB, gC] at x0 x1 x2 x3 x4 x5 x6 x7 x8 x9 x10 x11 x12
 have HG := Lib.hid (hg.insert k)
 have HL := Lib.hid (hg.lens k)
 have fd := insertD (k := k) hfl hg w1 h1.two.d
 have fi := fun W (h : HeldP w0 C W p H) => insertP_c (k := k) hfl h
 generalize p.insertK k = LK at *
 go_wp2_with fail
 refine fd.mono ?_
 rintro e w4 ⟨d, J, val, rfl, hgo, hrow⟩
 have od := hgo.d.one
 have hd := fun (i : Nat) (a : Addr) (m : Mode) (W : World) => run_store Tryz.prog W a (d i) m (od i)
 have h3 := h1.goes hgo HG.out
 have hrn : ∀ b, val.ownBlock = some b → ¬ H b := fun b hb ho => by
  have h9 := (hrow.lt b hb).1
  have := (h1.two.a.own b ho).2
  omega
 have h4 := h3.onto ((Below.refl _ w4).alloc (Nat.le_refl _) (.cells #[d 0, d 1, d 2, d 3, d 4, d 5, d 6, d 7, d 8, d 9, d 10, d 11, d 12] 40))
 have hrow4 := ownsRow_stay (w' := (w4.alloc (.cells #[d 0, d 1, d 2, d 3, d 4, d 5, d 6, d 7, d 8, d 9, d 10, d 11, d 12] 40)).drewN 1) hrow fun b hb => Below.heap_alloc w4 _ b (hrow.lt b hb).2
 have hb4 := Blk.new w4 40 #[d 0, d 1, d 2, d 3, d 4, d 5, d 6, d 7, d 8, d 9, d 10, d 11, d 12]
 have hs4 := h3.two.fresh (q := w4.heap.size) (Nat.le_refl _)
 have hq2 : w4.heap.size ≠ w.heap.size + 2 := by have := h3.hi; omega
 obtain ⟨va, vc, hval⟩ := own_form hrow
 subst hval
 clear hrow
 clear x0 x1 x2 x3 x4 x5 x6 x7 x8 x9 x10 x11 x12 k0 k1
 clear fd h1 hgo h3
 go_upto_region 21 with (fail)
 generalize w4.heap.size = z at *
 generalize w4.alloc (.cells #[d 0, d 1, d 2, d 3, d 4, d 5, d 6, d 7, d 8, d 9, d 10, d 11, d 12] 40) = w5 at *
 have h5 := h4.drewN 1
 have hb5 : Blk (w5.drewN 1) z 40 #[d 0, d 1, d 2, d 3, d 4, d 5, d 6, d 7, d 8, d 9, d 10, d 11, d 12] := hb4
 have hS5 : (w5.drewN 1).cell? ⟨z, 0, none⟩ = some (d 0) ∧ (w5.drewN 1).cell? ⟨z, 1, none⟩ = some (d 1) ∧ (w5.drewN 1).cell? ⟨z, 2, none⟩ = some (d 2) ∧ (w5.drewN 1).cell? ⟨z, 3, none⟩ = some (d 3) ∧ (w5.drewN 1).cell? ⟨z, 4, none⟩ = some (d 4) ∧ (w5.drewN 1).cell? ⟨z, 5, none⟩ = some (d 5) ∧ (w5.drewN 1).cell? ⟨z, 6, none⟩ = some (d 6) ∧ (w5.drewN 1).cell? ⟨z, 7, none⟩ = some (d 7) ∧ (w5.drewN 1).cell? ⟨z, 8, none⟩ = some (d 8) ∧ (w5.drewN 1).cell? ⟨z, 9, none⟩ = some (d 9) ∧ (w5.drewN 1).cell? ⟨z, 10, none⟩ = some (d 10) ∧ (w5.drewN 1).cell? ⟨z, 11, none⟩ = some (d 11) ∧ (w5.drewN 1).cell? ⟨z, 12, none⟩ = some (d 12) := ⟨hb5.cell 0, hb5.cell 1, hb5.cell 2, hb5.cell 3, hb5.cell 4, hb5.cell 5, hb5.cell 6, hb5.cell 7, hb5.cell 8, hb5.cell 9, hb5.cell 10, hb5.cell 11, hb5.cell 12⟩
 have fp := fi _ h5.two.a
 clear h4 hb4 fi
 refine region_only 10 #[false, false, false, false, false, false, false, false, false, false] (S := (fun W => W.cell? ⟨z, 0, none⟩ = some (d 0) ∧ W.cell? ⟨z, 1, none⟩ = some (d 1) ∧ W.cell? ⟨z, 2, none⟩ = some (d 2) ∧ W.cell? ⟨z, 3, none⟩ = some (d 3) ∧ W.cell? ⟨z, 4, none⟩ = some (d 4) ∧ W.cell? ⟨z, 5, none⟩ = some (d 5) ∧ W.cell? ⟨z, 6, none⟩ = some (d 6) ∧ W.cell? ⟨z, 7, none⟩ = some (d 7) ∧ W.cell? ⟨z, 8, none⟩ = some (d 8) ∧ W.cell? ⟨z, 9, none⟩ = some (d 9) ∧ W.cell? ⟨z, 10, none⟩ = some (d 10) ∧ W.cell? ⟨z, 11, none⟩ = some (d 11) ∧ W.cell? ⟨z, 12, none⟩ = some (d 12))) rfl rfl (by kernel_rfl) hS5 (fun hSw => ?_)
 refine tkA 0 109 9 ?_ rfl rfl ?_ hSw ?_
 rotate_left
 ·intro wx hSx; (try dsimp only at hSx); go_split_ands; go_simp; (try with_reducible rfl)
 simp only [sA, List.set_cons_zero, sC]
 refine tkA 1 110 8 ?_ rfl rfl ?_ hSw ?_
 rotate_left
 ·intro wx hSx; (try dsimp only at hSx); go_split_ands; go_simp; (try with_reducible rfl)
 simp only [sA, List.set_cons_zero, sC]
 refine tkA 2 111 7 ?_ rfl rfl ?_ hSw ?_
 rotate_left
 ·intro wx hSx; (try dsimp only at hSx); go_split_ands; go_simp; (try with_reducible rfl)
 simp only [sA, List.set_cons_zero, sC]
 refine tkA 3 112 6 ?_ rfl rfl ?_ hSw ?_
 rotate_left
 ·intro wx hSx; (try dsimp only at hSx); go_split_ands; go_simp; (try with_reducible rfl)
 simp only [sA, List.set_cons_zero, sC]
 refine tkA 5 114 5 ?_ rfl rfl ?_ hSw ?_
 rotate_left
 ·intro wx hSx; (try dsimp only at hSx); go_split_ands; go_simp; (try with_reducible rfl)
 simp only [sA, List.set_cons_zero, sC]
 refine rdA 4 4 rfl fun K hK => ?_
 go_simp
 refine Calls.mono (fp) ?_
 rintro e wv ⟨pv, H2, rfl, hHv, hSt, hTl⟩
 have hb6 : Blk wv z 40 #[d 0, d 1, d 2, d 3, d 4, d 5, d 6, d 7, d 8, d 9, d 10, d 11, d 12] := (hs4.kp hSt hb5.lt).trans hb5
 have h6 := h5.step hHv hSt
 have hrow6 := ownsRow_stay (w' := wv) hrow4 fun b hb => hSt.kp.block b (hrow4.lt b hb).2 (hrn b hb)
 have ft := texts_c (l := LK) HL.out wv hTl.row hrow6
 clear h5 hb5 hS5 fp
 refine hK.out _ _ ⟨hb6.cell 0, hb6.cell 1, hb6.cell 2, hb6.cell 3, hb6.cell 4, hb6.cell 5, hb6.cell 6, hb6.cell 7, hb6.cell 8, hb6.cell 9, hb6.cell 10, hb6.cell 11, hb6.cell 12⟩ (fun hSw => ?_)
 clear hK K
 simp only [sA, List.set_cons_zero, sC]
 refine rdA 3 6 rfl fun K hK => ?_
 go_simp
 refine Calls.mono (ft) ?_
 rintro e wy ⟨rfl, hbt⟩
 have hb7 := hb6.below hbt hb6.lt
 have h7 := h6.onto hbt
 have hb8 : Blk (((((((((((((wy.setCell ⟨w.heap.size + 2, 0, none⟩ (d 0)).setCell ⟨w.heap.size + 2, 1, none⟩ (d 1)).setCell ⟨w.heap.size + 2, 2, none⟩ (d 2)).setCell ⟨w.heap.size + 2, 3, none⟩ (d 3)).setCell ⟨w.heap.size + 2, 4, none⟩ (d 4)).setCell ⟨w.heap.size + 2, 5, none⟩ (d 5)).setCell ⟨w.heap.size + 2, 6, none⟩ (d 6)).setCell ⟨w.heap.size + 2, 7, none⟩ (d 7)).setCell ⟨w.heap.size + 2, 8, none⟩ (d 8)).setCell ⟨w.heap.size + 2, 9, none⟩ (d 9)).setCell ⟨w.heap.size + 2, 10, none⟩ (d 10)).setCell ⟨w.heap.size + 2, 11, none⟩ (d 11)).setCell ⟨w.heap.size + 2, 12, none⟩ (d 12)) z 40 #[d 0, d 1, d 2, d 3, d 4, d 5, d 6, d 7, d 8, d 9, d 10, d 11, d 12] := far13 hb7 hq2 d
 clear h6 hb6 ft
 have z0 := h7.res.cell 0
 have z1 := h7.res.cell 1
 have z2 := h7.res.cell 2
 have z3 := h7.res.cell 3
 have z4 := h7.res.cell 4
 have z5 := h7.res.cell 5
 have z6 := h7.res.cell 6
 have z7 := h7.res.cell 7
 have z8 := h7.res.cell 8
 have z9 := h7.res.cell 9
 have z10 := h7.res.cell 10
 have z11 := h7.res.cell 11
 have z12 := h7.res.cell 12
 have zf0 := h7.res.free 0
 have zf1 := h7.res.free 1
 have zf2 := h7.res.free 2
 have zf3 := h7.res.free 3
 have zf4 := h7.res.free 4
 have zf5 := h7.res.free 5
 have zf6 := h7.res.free 6
 have zf7 := h7.res.free 7
 have zf8 := h7.res.free 8
 have zf9 := h7.res.free 9
 have zf10 := h7.res.free 10
 have zf11 := h7.res.free 11
 have zf12 := h7.res.free 12
 simp only [gA, gB, gC] at z0 z1 z2 z3 z4 z5 z6 z7 z8 z9 z10 z11 z12
 refine hK.out _ _ ⟨hb7.cell 0, hb7.cell 1, hb7.cell 2, hb7.cell 3, hb7.cell 4, hb7.cell 5, hb7.cell 6, hb7.cell 7, hb7.cell 8, hb7.cell 9, hb7.cell 10, hb7.cell 11, hb7.cell 12⟩ (fun hSw => ?_)
 clear hK K
 simp only [sA, List.set_cons_zero, sC]
 refine tkA 7 6 2 ?_ rfl rfl ?_ hSw ?_
 rotate_left
 ·intro wx hSx; (try dsimp only at hSx); go_split_ands; go_simp; (try with_reducible rfl)
 simp only [sA, List.set_cons_zero, sC]
 refine rdA 1 8 rfl fun K hK => ?_
 go_simp
 refine hK.out _ _ ⟨hb8.cell 0, hb8.cell 1, hb8.cell 2, hb8.cell 3, hb8.cell 4, hb8.cell 5, hb8.cell 6, hb8.cell 7, hb8.cell 8, hb8.cell 9, hb8.cell 10, hb8.cell 11, hb8.cell 12⟩ (fun hSw => ?_)
 clear hK K
 simp only [sA, List.set_cons_zero, sC]
 refine tkA 9 8 0 ?_ rfl rfl ?_ hSw ?_
 rotate_left
 ·intro wx hSx; (try dsimp only at hSx); go_split_ands; go_simp; (try with_reducible rfl)
 simp only [sA, List.set_cons_zero, sC]
 refine wpAnyH_done (by kernel_rfl) ⟨rfl, ?_⟩ 0
 clear hSw hb8 hb7 hHv hSt hTl hrow6 hrow4 hbt
 clear z0 zf0 z1 zf1 z2 zf2 z3 zf3 z4 zf4 z5 zf5 z6 zf6 z7 zf7 z8 zf8 z9 zf9 z10 zf10 z11 zf11 z12 zf12
 obtain ⟨hT9, hB, hKD⟩ := h7.fin
 generalize (((((((((((((wy.setCell ⟨w.heap.size + 2, 0, none⟩ (d 0)).setCell ⟨w.heap.size + 2, 1, none⟩ (d 1)).setCell ⟨w.heap.size + 2, 2, none⟩ (d 2)).setCell ⟨w.heap.size + 2, 3, none⟩ (d 3)).setCell ⟨w.heap.size + 2, 4, none⟩ (d 4)).setCell ⟨w.heap.size + 2, 5, none⟩ (d 5)).setCell ⟨w.heap.size + 2, 6, none⟩ (d 6)).setCell ⟨w.heap.size + 2, 7, none⟩ (d 7)).setCell ⟨w.heap.size + 2, 8, none⟩ (d 8)).setCell ⟨w.heap.size + 2, 9, none⟩ (d 9)).setCell ⟨w.heap.size + 2, 10, none⟩ (d 10)).setCell ⟨w.heap.size + 2, 11, none⟩ (d 11)).setCell ⟨w.heap.size + 2, 12, none⟩ (d 12)) = w9 at *
 clear h7
 go_wp2_with fail
 (try simp only [Exit.inBlock, Exit.then])
 refine bodyPost_ret (results_tmp_row_tmp rfl _ _ (w.heap.size + 2) rfl (run_loadVar_row _ _ _ _ _ _ _ hB Tryz.underlying40 rfl (by kernel_rfl))) rfl ?_
 exact ⟨C, _, _, _, rfl, hT9, hKD⟩
end
end Go.Proofs.YtncgfnocokippaaGreat.Policyy
namespace Go.Proofs.YtncgfnocokippaaGreat.Policyy
open Go.ChangeShapes Go.WideShapes Go.ChangeAt Go.RowKit Go.Shelf Go.Deep
open Wirey (Blk Row str str_size str_list str_of str_take Kp)
open Ringy hiding fewL fewL_le
open Go.ChangeMaps Go.Maps
open Tinyy (fewL Acts)

theorem act_cells : Tryz.prog.cellsOf 46 = 2 := by kernel_rfl
set_option maxRecDepth 100000 in
theorem open_acts {H : Type} {enc : TypeId × Value → H} {w : World} {base : Nat} {spare : Nat → Bool} {held : Bool} {fuel : Nat} {v : Value} {x : DataW H × List MemPlace}
  (h : DataW.trod enc Tryz.prog w base spare held fuel 22 [v] = some x) :
  ∃ (ao : Option Addr) (len cap sb off : Nat) (K : Nat → Int) (T : Nat → List UInt8), v = .slice ao len cap ∧ Acts w ao len sb off K T := by
 rcases open_slice Tryz.underlying22 h with ⟨h0, _⟩ | ⟨a, len, cap, m, n, D, Pl, h0, _, hl, hm, hmm, _, hi⟩
 ·obtain rfl : v = .slice none 0 0 := by simpa using h0
  exact ⟨none, 0, 0, 0, 0, fun _ => 0, fun _ => [], rfl, ⟨by omega, fun h => by omega, fun i hi => by omega, fun i hi => by omega, fun i hi => by omega, fun i hi => by omega, fun h => by omega⟩⟩
 ·obtain rfl : v = .slice (some a) len cap := by simpa using h0
  have hlm : len ≤ m := by
   rw [hmm]; split
   ·exact hl
   ·exact Nat.le_refl _
  have each : ∀ i, ∃ (k : Int) (t : List UInt8), i < len → w.cell? ((a.add (i * 2)).add 0) = some (.int .i64 k) ∧ w.cell? ((a.add (i * 2)).add 1) = some (.string (str t)) ∧
    (-9223372036854775808 ≤ k ∧ k ≤ 9223372036854775807) ∧ t.length ≤ maxLen := by
   intro i
   by_cases hil : i < len
   ·obtain ⟨cs, hc, ht⟩ := hi i (by omega)
    rw [act_cells] at hc
    obtain ⟨_, hcl, hat⟩ := World.cells?_some hc
    obtain ⟨y0, y1, n', _, _, t0, t1⟩ := trod_struct2 Tryz.underlying46 ht
    match cs, hcl with
    | [d0, d1], _ =>
     dsimp only at t0 t1
     rw [Tinyy.int_cells] at t0
     rw [Wirey.str_cells] at t1
     obtain ⟨k, e0, _, w0⟩ := DataW.trod_int Tryz.underlying3 t0
     obtain ⟨b, e2, _, w2⟩ := DataW.trod_string Tryz.underlying9 t1
     obtain rfl : d0 = .int .i64 k := by simpa using e0
     obtain rfl : d1 = .string b := by simpa using e2
     exact ⟨k, b.data.toList, fun _ => ⟨hat 0 (by omega), (hat 1 (by omega)).trans (congrArg (fun z => some (Value.string z)) (str_of b)), bounds_i64 w0, w2⟩⟩
   ·exact ⟨0, [], fun h => absurd h hil⟩
  obtain ⟨K, T, hK⟩ : ∃ (K : Nat → Int) (T : Nat → List UInt8), ∀ i, i < len → w.cell? ((a.add (i * 2)).add 0) = some (.int .i64 (K i)) ∧ w.cell? ((a.add (i * 2)).add 1) = some (.string (str (T i))) ∧
    (-9223372036854775808 ≤ K i ∧ K i ≤ 9223372036854775807) ∧ (T i).length ≤ maxLen :=
   ⟨fun i => (each i).choose, fun i => (each i).choose_spec.choose, fun i => (each i).choose_spec.choose_spec⟩
  clear each
  by_cases hz : len = 0
  ·subst hz
   exact ⟨some a, 0, cap, 0, 0, fun _ => 0, fun _ => [], rfl, ⟨by omega, fun h => by omega, fun i hi => by omega, fun i hi => by omega, fun i hi => by omega, fun i hi => by omega, fun h => by omega⟩⟩
  ·obtain ⟨g0, _⟩ := hK 0 (by omega)
   have ha : a = ⟨a.block, a.off, none⟩ := Tinyy.spot_none' (show w.cell? a = some _ from g0)
   have hsb := World.block_lt_of_cell? w _ (show w.cell? a = some _ from g0)
   have hq : ∀ i, i < len → w.cell? ⟨a.block, a.off + i * 2, none⟩ = some (.int .i64 (K i)) ∧ w.cell? ⟨a.block, a.off + i * 2 + 1, none⟩ = some (.string (str (T i))) := fun i hil => by
    obtain ⟨q0, q1, _⟩ := hK i hil
    rw [ha, Tinyy.addr_add', Tinyy.addr_add'] at q0 q1
    exact ⟨q0, q1⟩
   exact ⟨some a, len, cap, a.block, a.off, K, T, rfl, ⟨Nat.le_trans hl hm, fun _ => congrArg some ha, fun i hil => (hq i hil).1, fun i hil => (hq i hil).2, fun i hil => (hK i hil).2.2.1, fun i hil => (hK i hil).2.2.2, fun _ => hsb⟩⟩

theorem i64_andP (n : Int) (m k : Nat) (hk : (BitVec.ofInt 64 (m : Int)).toNat = 2 ^ k - 1) (hs : k ≤ 20) : bits .and .i64 n (m : Int) = ((n % ((2 ^ 64 : Nat) : Int)).toNat % 2 ^ k : Nat) := by
 have key : (BitVec.ofInt 64 n &&& BitVec.ofInt 64 (m : Int)).toNat = (n % ((2 ^ 64 : Nat) : Int)).toNat % 2 ^ k := by
  rw [BitVec.toNat_and, BitVec.toNat_ofInt, hk, Nat.and_two_pow_sub_one_eq_mod]
 show IntKind.i64.wrap ((BitVec.ofInt 64 n &&& BitVec.ofInt 64 (m : Int)).toNat : Nat) = _
 rw [key, IntKind.wrap_i64]
 have h1 : (n % ((2 ^ 64 : Nat) : Int)).toNat % 2 ^ k < 2 ^ k := Nat.mod_lt _ (Nat.two_pow_pos k)
 have h2 : 2 ^ k ≤ 2 ^ 20 := Nat.pow_le_pow_right (by omega) hs
 generalize (n % ((2 ^ 64 : Nat) : Int)).toNat % 2 ^ k = q at *
 omega
theorem and_natP (n : Int) (m k : Nat) (hk : (BitVec.ofInt 64 (m : Int)).toNat = 2 ^ k - 1) (hs : k ≤ 20) : ∃ q : Nat, bits .and .i64 n (m : Int) = (q : Int) ∧ q < 2 ^ k :=
 ⟨_, i64_andP n m k hk hs, Nat.mod_lt _ (Nat.two_pow_pos k)⟩
section
variable {w0 w x y : World} {C mb : Nat} {p u : Pv} {H I K : Nat → Prop} {c d : Nat → Value} {k : Key} {i j : Nat}
theorem do_c (T : List UInt8) (hT : T.length ≤ maxLen) (q : Int) (hK : ∀ q, K q → q < w.heap.size ∧ Side H I q) (h : Twin w0 C p H p c I w) :
  Calls Tryz.prog 8 #[.pointer (some ⟨C, 0, none⟩), .agg #[c 0, c 1, c 2, c 3, c 4, c 5, c 6, c 7, c 8, c 9, c 10, c 11, c 12], .agg #[.int .i64 q, .string (str T)]] w (DoP w0 K w (p.act q (fewL T))) := by
 unfold Pv.act
 by_cases h4 : q = 4
 ·subst h4
  rw [if_pos (.inl rfl)]
  exact do_touch4 T hT hK h
 by_cases h5 : q = 5
 ·subst h5
  rw [if_pos (.inr rfl)]
  exact do_touch5 T hT hK h
 rw [if_neg (by rintro (e | e); exact h4 e; exact h5 e)]
 by_cases h6 : q = 6
 ·subst h6
  rw [if_pos rfl]
  exact do_remove T hT hK h
 rw [if_neg h6]
 by_cases h7 : q = 7
 ·subst h7
  rw [if_pos rfl]
  exact do_evict T hT hK h
 rw [if_neg h7]
 by_cases h8 : q = 8
 ·subst h8
  rw [if_pos rfl]
  exact do_miss T hT hK h
 rw [if_neg h8]
 by_cases h9 : q = 9
 ·subst h9
  rw [if_pos rfl]
  exact do_read T hT hK h
 rw [if_neg h9]
 exact do_insert T hT q (beq_eq_false_iff_ne.2 h4) (beq_eq_false_iff_ne.2 h5) (beq_eq_false_iff_ne.2 h6) (beq_eq_false_iff_ne.2 h7) (beq_eq_false_iff_ne.2 h8) (beq_eq_false_iff_ne.2 h9) hK h
theorem Pv.act_kind (p : Pv) (q : Int) (k : Key) : (p.act q k).kind = p.kind := by
 unfold Pv.act
 cases p with
 | a v => split <;> first | rfl | (split <;> first | rfl | (split <;> first | rfl | (split <;> first | rfl | (split <;> rfl))))
 | t v =>
  have hm : (Pv.miss (.t v) k).kind = 2 := by
   show Pv.kind (if v.has k = true then .t v else .t (v.miss k)) = 2
   split <;> rfl
  split
  ·rfl
  ·split
   ·rfl
   ·split
    ·rfl
    ·split
     ·exact hm
     ·split <;> rfl
structure Lp (w : World) (mb C : Nat) (p : Pv) (H : Nat → Prop) (c : Nat → Value) (I : Nat → Prop) (x : World) : Prop where
 two : Twin w C p H p c I x
 box : Blk x mb 40 #[c 0, c 1, c 2, c 3, c 4, c 5, c 6, c 7, c 8, c 9, c 10, c 11, c 12]
 sd : Side H I mb
 mbl : w.heap.size ≤ mb
theorem Lp.onto (h : Lp w mb C p H c I x) (hb : Below x.heap.size x y) : Lp w mb C p H c I y := ⟨h.two.onto hb, h.box.below hb h.box.lt, h.sd, h.mbl⟩
theorem Lp.drewN (h : Lp w mb C p H c I x) (n : Nat) : Lp w mb C p H c I (x.drewN n) := h.onto ⟨rfl, rfl, rfl, Nat.le_refl _, fun _ _ => rfl⟩
theorem Lp.low (h : Lp w mb C p H c I x) : Below w.heap.size w x := h.two.a.below
theorem Lp.all (h : Lp w mb C p H c I x) : (x.cell? ⟨mb, 0, none⟩ = some (c 0) ∧ x.cell? ⟨mb, 1, none⟩ = some (c 1) ∧ x.cell? ⟨mb, 2, none⟩ = some (c 2) ∧ x.cell? ⟨mb, 3, none⟩ = some (c 3) ∧ x.cell? ⟨mb, 4, none⟩ = some (c 4) ∧ x.cell? ⟨mb, 5, none⟩ = some (c 5) ∧ x.cell? ⟨mb, 6, none⟩ = some (c 6) ∧ x.cell? ⟨mb, 7, none⟩ = some (c 7) ∧ x.cell? ⟨mb, 8, none⟩ = some (c 8) ∧ x.cell? ⟨mb, 9, none⟩ = some (c 9) ∧ x.cell? ⟨mb, 10, none⟩ = some (c 10) ∧ x.cell? ⟨mb, 11, none⟩ = some (c 11) ∧ x.cell? ⟨mb, 12, none⟩ = some (c 12)) ∧ Lp w mb C p H c I x := ⟨⟨h.box.cell 0, h.box.cell 1, h.box.cell 2, h.box.cell 3, h.box.cell 4, h.box.cell 5, h.box.cell 6, h.box.cell 7, h.box.cell 8, h.box.cell 9, h.box.cell 10, h.box.cell 11, h.box.cell 12⟩, h⟩
theorem Lp.alls {sb o : Nat} {v : Value} (h : Lp w mb C p H c I x) (hsb : sb < w.heap.size) (hw : w.cell? ⟨sb, o, none⟩ = some v) : (x.cell? ⟨mb, 0, none⟩ = some (c 0) ∧ x.cell? ⟨mb, 1, none⟩ = some (c 1) ∧ x.cell? ⟨mb, 2, none⟩ = some (c 2) ∧ x.cell? ⟨mb, 3, none⟩ = some (c 3) ∧ x.cell? ⟨mb, 4, none⟩ = some (c 4) ∧ x.cell? ⟨mb, 5, none⟩ = some (c 5) ∧ x.cell? ⟨mb, 6, none⟩ = some (c 6) ∧ x.cell? ⟨mb, 7, none⟩ = some (c 7) ∧ x.cell? ⟨mb, 8, none⟩ = some (c 8) ∧ x.cell? ⟨mb, 9, none⟩ = some (c 9) ∧ x.cell? ⟨mb, 10, none⟩ = some (c 10) ∧ x.cell? ⟨mb, 11, none⟩ = some (c 11) ∧ x.cell? ⟨mb, 12, none⟩ = some (c 12)) ∧ x.cell? ⟨sb, o, none⟩ = some v ∧ Lp w mb C p H c I x := ⟨⟨h.box.cell 0, h.box.cell 1, h.box.cell 2, h.box.cell 3, h.box.cell 4, h.box.cell 5, h.box.cell 6, h.box.cell 7, h.box.cell 8, h.box.cell 9, h.box.cell 10, h.box.cell 11, h.box.cell 12⟩, (World.cell?_of_block (h.low.block sb hsb)).trans hw, h⟩
theorem lp_has (hk : k.length ≤ maxLen) (h : Lp w mb C p H c I x) :
  Calls Tryz.prog 11 #[.pointer (some ⟨C, 0, none⟩), .string (str k)] x fun e y => e = .returned (.bool (p.has k)) ∧ Lp w mb C p H c I y := by
 refine (hasP_c hk h.two.a).mono ?_
 rintro e y ⟨rfl, rfl⟩
 exact ⟨rfl, h⟩
theorem lp_rhas (h : Lp w mb C p H c I x) :
  Calls Tryz.prog 13 #[.agg #[c 0, c 1, c 2, c 3, c 4, c 5, c 6, c 7, c 8, c 9, c 10, c 11, c 12], .string (str k)] x fun e y => e = .returned (.bool (p.has k)) ∧ Lp w mb C p H c I y := by
 refine (hasD h.two.g x h.two.d).mono ?_
 rintro e y ⟨rfl, hb⟩
 exact ⟨rfl, h.onto hb⟩
theorem lp_len (h : Lp w mb C p H c I x) :
  Calls Tryz.prog 9 #[.pointer (some ⟨C, 0, none⟩)] x fun e y => e = .returned (.int .i64 p.kept) ∧ Lp w mb C p H c I y := by
 refine (lenP_c h.two.a).mono ?_
 rintro e y ⟨rfl, hb⟩
 exact ⟨rfl, h.onto hb⟩
theorem lp_rlen (h : Lp w mb C p H c I x) :
  Calls Tryz.prog 10 #[.agg #[c 0, c 1, c 2, c 3, c 4, c 5, c 6, c 7, c 8, c 9, c 10, c 11, c 12]] x fun e y => e = .returned (.int .i64 p.kept) ∧ Lp w mb C p H c I y := by
 refine (lenD h.two.g x h.two.d).mono ?_
 rintro e y ⟨rfl, hb⟩
 exact ⟨rfl, h.onto hb⟩
theorem lp_few (l : List UInt8) (hl : l.length ≤ maxLen) (h : Lp w mb C p H c I x) :
  Calls Tryz.prog 12 #[.string (str l)] x fun e y => e = .returned (.string (str (fewL l))) ∧ Lp w mb C p H c I y := by
 refine (fewP_c l hl x).mono ?_
 rintro e y ⟨rfl, rfl⟩
 exact ⟨rfl, h⟩
theorem lp_exp (h : Lp w mb C p H c I x) :
  Calls Tryz.prog 14 #[.pointer (some ⟨C, 0, none⟩)] x fun e y => e = .returned (.string (str p.put)) ∧ Lp w mb C p H c I y := by
 refine (exportP_c h.two.g h.two.a).mono ?_
 rintro e y ⟨rfl, hB⟩
 exact ⟨rfl, h.onto hB.b⟩
theorem lp_put (h : Lp w mb C p H c I x) :
  Calls Tryz.prog 15 #[.agg #[c 0, c 1, c 2, c 3, c 4, c 5, c 6, c 7, c 8, c 9, c 10, c 11, c 12]] x fun e y => e = .returned (.string (str p.put)) ∧ Lp w mb C p H c I y := by
 refine (putD h.two.g x h.two.d).mono ?_
 rintro e y ⟨rfl, hb⟩
 exact ⟨rfl, h.onto hb⟩
theorem lp_kind {n : Nat} (hn : p.kind = n) (h : Lp w mb C p H c I x) :
  Calls Tryz.prog 16 #[.pointer (some ⟨C, 0, none⟩)] x fun e y => e = .returned (.int .i64 n) ∧ Lp w mb C p H c I y := by
 subst hn
 refine (kindP_c h.two.a).mono ?_
 rintro e y ⟨rfl, rfl⟩
 exact ⟨rfl, h⟩
theorem lp_lay (h : Twin w C p H p d I x) (hb : Blk x mb 40 #[c 0, c 1, c 2, c 3, c 4, c 5, c 6, c 7, c 8, c 9, c 10, c 11, c 12]) (hs : Side H I mb) (hl : w.heap.size ≤ mb) : Lp w mb C p H d I (((((((((((((x.setCell ⟨mb, 0, none⟩ (d 0)).setCell ⟨mb, 1, none⟩ (d 1)).setCell ⟨mb, 2, none⟩ (d 2)).setCell ⟨mb, 3, none⟩ (d 3)).setCell ⟨mb, 4, none⟩ (d 4)).setCell ⟨mb, 5, none⟩ (d 5)).setCell ⟨mb, 6, none⟩ (d 6)).setCell ⟨mb, 7, none⟩ (d 7)).setCell ⟨mb, 8, none⟩ (d 8)).setCell ⟨mb, 9, none⟩ (d 9)).setCell ⟨mb, 10, none⟩ (d 10)).setCell ⟨mb, 11, none⟩ (d 11)).setCell ⟨mb, 12, none⟩ (d 12)) :=
 ⟨h.beside (kp13 x mb (d 0) (d 1) (d 2) (d 3) (d 4) (d 5) (d 6) (d 7) (d 8) (d 9) (d 10) (d 11) (d 12)) (fun q hq => by subst hq; exact ⟨hl, hs⟩), blk13 hb (d 0) (d 1) (d 2) (d 3) (d 4) (d 5) (d 6) (d 7) (d 8) (d 9) (d 10) (d 11) (d 12), hs, hl⟩
theorem far13c (x : World) {b : Nat} {a : Addr} (hp : a.block ≠ b) (c : Nat → Value) : ((((((((((((((x.setCell ⟨b, 0, none⟩ (c 0)).setCell ⟨b, 1, none⟩ (c 1)).setCell ⟨b, 2, none⟩ (c 2)).setCell ⟨b, 3, none⟩ (c 3)).setCell ⟨b, 4, none⟩ (c 4)).setCell ⟨b, 5, none⟩ (c 5)).setCell ⟨b, 6, none⟩ (c 6)).setCell ⟨b, 7, none⟩ (c 7)).setCell ⟨b, 8, none⟩ (c 8)).setCell ⟨b, 9, none⟩ (c 9)).setCell ⟨b, 10, none⟩ (c 10)).setCell ⟨b, 11, none⟩ (c 11)).setCell ⟨b, 12, none⟩ (c 12))).cell? a = x.cell? a :=
 World.cell?_of_block (by
   have hs : ∀ (y : World) (i : Nat) (v : Value), (y.setCell ⟨b, i, none⟩ v).heap[a.block]? = y.heap[a.block]? := fun y i v => Below.heap_setCell y ⟨b, i, none⟩ v a.block hp
   simp only [hs])
theorem blk_drewP {x : World} {b : Nat} {t : TypeId} {cs : Array Value} (h : Blk x b t cs) : Blk x.drew b t cs := h
end
end Go.Proofs.YtncgfnocokippaaGreat.Policyy
