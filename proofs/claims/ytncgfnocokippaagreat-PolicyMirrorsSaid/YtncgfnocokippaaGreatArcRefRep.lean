/- The document's own ARC: the last one of a list is forgotten; one that is kept goes. The only condition: it is as chapter 7 has it. -/
import Derived.Test.YtncgfnocokippaaGreatArcRefToAll
import Derived.Deep.CutRange
import Derived.Test.YtncgfnocokippaaGreatSq
namespace Go.Proofs.YtncgfnocokippaaGreat.Arcy
open Go.ChangeShapes Go.WideShapes Go.ChangeAt Go.RowKit Go.Shelf
open Wirey (Blk Row str str_size str_list Kp)
open Ringy Go.ChangeMaps Go.Maps

section
variable {w x y : World} {v v' v'' : Av} {G G' G'' : Nat} {vs vs' vs'' : Nat → Value} {k : Key}
theorem rfront_a {a : Int} {j : Nat} (ha : a = (j : Int)) (hj : j < 4) (hk : k.length ≤ 64) (hf : v.Fine) (hv : (v.fr j k).Ok) (w : World) (h : Dat w v G vs) :
  Calls Tryz.prog 79 #[.agg #[.int .i64 v.most, .int .i64 v.tgt, .slice (some ⟨G, 0, none⟩) 4 4, .int .i64 v.pl], .int .i64 a, .string (str k)] w fun e w' => ∃ G' vs', e = .returned (.agg #[.int .i64 v.most, .int .i64 v.tgt, .slice (some ⟨G', 0, none⟩) 4 4, .int .i64 v.pl]) ∧ Goes w G vs (v.fr j k) G' vs' w' := by
 subst ha
 exact rfront_c hj hk hf hv w h
theorem ring_backA {a : Int} {i : Nat} (ha : a = (i : Int)) (hi : i < 4) (hok : v.Ok) (x : World) (h : Dat x v G vs) :
  Calls Tryz.prog 83 #[.agg #[.slice (some ⟨G, 0, none⟩) 4 4, .int .i64 v.pl], .int .i64 a] x fun e y => e = .returned (.tuple #[.string (str ((v.last i).getD [])), .bool (v.last i).isSome]) ∧ Below x.heap.size x y := by
 subst ha
 exact ring_back hi hok x h
set_option maxHeartbeats 2000000 in
set_option maxRecDepth 100000 in
theorem rforget_c {a : Int} {i : Nat} (ha : a = (i : Int)) (hi : i < 4) (hok : v.Ok) (w : World) (h : Dat w v G vs) :
  Calls Tryz.prog 86 #[.agg #[.int .i64 v.most, .int .i64 v.tgt, .slice (some ⟨G, 0, none⟩) 4 4, .int .i64 v.pl], .int .i64 a] w fun e w' => ∃ G' vs', e = .returned (.agg #[.int .i64 v.most, .int .i64 v.tgt, .slice (some ⟨G', 0, none⟩) 4 4, .int .i64 v.pl]) ∧ Goes w G vs (v.forget i) G' vs' w' := by
 subst ha
 have h2 := Wr.new hok h
 go_enter Tryz.func86, Tryz.ntmps86
 go_upto_region 1 with (fail)
 generalize (w.alloc (.cells #[.int .i64 v.most, .int .i64 v.tgt, .slice (some ⟨G, 0, none⟩) 4 4, .int .i64 v.pl] 32)).alloc (.cells #[.int .i64 0, .int .i64 0, .slice none 0 0, .int .i64 0] 32) = w2 at *
 obtain ⟨x0, x1, x2, x3, -⟩ := h2.cells
 have hbk := ring_back hi hok w2 h2.go.rf
 cases e : v.last i with
 | none =>
  rw [e] at hbk
  have hfo : v.forget i = v := by unfold Av.forget; rw [e]
  simp only [Option.getD_none, Option.isSome_none] at hbk
  clear e
  go_wp2_with fail
  refine hbk.mono ?_
  rintro e w3 ⟨rfl, hb3⟩
  have h3 := h2.onto hb3
  clear x0 x1 x2 x3 h2 hbk hb3
  obtain ⟨x0, x1, x2, x3, -⟩ := h3.cells
  obtain ⟨z0, z1, z2, z3, z4, z5, z6, z7⟩ := h3.zero
  obtain ⟨hG, p0, p1, p2, p3⟩ := (show Goes w G vs v G vs (putA w w3 v.most v.tgt G v.pl) ∧ (putA w w3 v.most v.tgt G v.pl).cell? ⟨w.heap.size + 1, 0, none⟩ = some (.int .i64 v.most) ∧ (putA w w3 v.most v.tgt G v.pl).cell? ⟨w.heap.size + 1, 1, none⟩ = some (.int .i64 v.tgt) ∧ (putA w w3 v.most v.tgt G v.pl).cell? ⟨w.heap.size + 1, 2, none⟩ = some (.slice (some ⟨G, 0, none⟩) 4 4) ∧ (putA w w3 v.most v.tgt G v.pl).cell? ⟨w.heap.size + 1, 3, none⟩ = some (.int .i64 v.pl) from h3.done hok)
  unfold putA at hG p0 p1 p2 p3
  have HG := Lib.hid hG
  have HP0 := Lib.hid p0
  have HP1 := Lib.hid p1
  have HP2 := Lib.hid p2
  have HP3 := Lib.hid p3
  clear hG p0 p1 p2 p3
  go_wp2_with fail
  have p0 := HP0.out
  have p1 := HP1.out
  have p2 := HP2.out
  have p3 := HP3.out
  have hG := HG.out
  clear HP0 HP1 HP2 HP3 HG
  generalize ((((w3.setCell ⟨w.heap.size + 1, 0, none⟩ (.int .i64 v.most)).setCell ⟨w.heap.size + 1, 1, none⟩ (.int .i64 v.tgt)).setCell ⟨w.heap.size + 1, 2, none⟩ (.slice (some ⟨G, 0, none⟩) 4 4)).setCell ⟨w.heap.size + 1, 3, none⟩ (.int .i64 v.pl)) = w9 at *
  (try simp only [Exit.inBlock, Exit.then])
  refine bodyPost_ret (v := .agg #[.int .i64 v.most, .int .i64 v.tgt, .slice (some ⟨G, 0, none⟩) 4 4, .int .i64 v.pl]) (by simp [results, Tryz.results86, go_sem, p0, p1, p2, p3]) rfl ?_
  exact ⟨G, vs, rfl, by rw [hfo]; exact hG⟩
 | some k =>
  rw [e] at hbk
  have hfo : v.forget i = v.dr k := by unfold Av.forget; rw [e]
  simp only [Option.getD_some, Option.isSome_some] at hbk
  have hdr := fun W (h : Dat W v G vs) => ring_drop (k := k) hok W h
  have hokd := hok.dr k
  clear e
  go_wp2_with fail
  refine hbk.mono ?_
  rintro e w3 ⟨rfl, hb3⟩
  have h3 := h2.onto hb3
  clear x0 x1 x2 x3 h2 hbk hb3
  obtain ⟨x0, x1, x2, x3, -⟩ := h3.cells
  go_wp2_with fail
  refine (hdr _ h3.go.rf).mono ?_
  rintro e w4 ⟨G', vs', rfl, hg⟩
  have hR := h3.take2 (v' := v.dr k) hokd rfl rfl hg
  have h4 := h3.onto hg.below
  clear x0 x1 x2 x3 h3 hdr hg
  obtain ⟨x0, x1, x2, x3, y0, y1, y2, y3⟩ := h4.cells
  go_upto_region 4 with (fail)
  clear x0 x1 x2 x3 y0 y1 y2 y3 h4
  generalize (w4.setCell ⟨w.heap.size, 2, none⟩ (.slice (some ⟨G', 0, none⟩) 4 4)).setCell ⟨w.heap.size, 3, none⟩ (.int .i64 v.pl) = w5 at *
  obtain ⟨x0, x1, x2, x3, -⟩ := (show w5.cell? ⟨w.heap.size, 0, none⟩ = some (.int .i64 v.most) ∧ w5.cell? ⟨w.heap.size, 1, none⟩ = some (.int .i64 v.tgt) ∧ w5.cell? ⟨w.heap.size, 2, none⟩ = some (.slice (some ⟨G', 0, none⟩) 4 4) ∧ w5.cell? ⟨w.heap.size, 3, none⟩ = some (.int .i64 v.pl) ∧ _ from hR.cells)
  obtain ⟨z0, z1, z2, z3, z4, z5, z6, z7⟩ := hR.zero
  obtain ⟨hG, p0, p1, p2, p3⟩ := (show Goes w G vs (v.dr k) G' vs' (putA w w5 v.most v.tgt G' v.pl) ∧ (putA w w5 v.most v.tgt G' v.pl).cell? ⟨w.heap.size + 1, 0, none⟩ = some (.int .i64 v.most) ∧ (putA w w5 v.most v.tgt G' v.pl).cell? ⟨w.heap.size + 1, 1, none⟩ = some (.int .i64 v.tgt) ∧ (putA w w5 v.most v.tgt G' v.pl).cell? ⟨w.heap.size + 1, 2, none⟩ = some (.slice (some ⟨G', 0, none⟩) 4 4) ∧ (putA w w5 v.most v.tgt G' v.pl).cell? ⟨w.heap.size + 1, 3, none⟩ = some (.int .i64 v.pl) from hR.done hokd)
  unfold putA at hG p0 p1 p2 p3
  have HG := Lib.hid hG
  have HP0 := Lib.hid p0
  have HP1 := Lib.hid p1
  have HP2 := Lib.hid p2
  have HP3 := Lib.hid p3
  clear hG p0 p1 p2 p3
  go_wp2_with fail
  have p0 := HP0.out
  have p1 := HP1.out
  have p2 := HP2.out
  have p3 := HP3.out
  have hG := HG.out
  clear HP0 HP1 HP2 HP3 HG
  generalize ((((w5.setCell ⟨w.heap.size + 1, 0, none⟩ (.int .i64 v.most)).setCell ⟨w.heap.size + 1, 1, none⟩ (.int .i64 v.tgt)).setCell ⟨w.heap.size + 1, 2, none⟩ (.slice (some ⟨G', 0, none⟩) 4 4)).setCell ⟨w.heap.size + 1, 3, none⟩ (.int .i64 v.pl)) = w9 at *
  (try simp only [Exit.inBlock, Exit.then])
  refine bodyPost_ret (v := .agg #[.int .i64 v.most, .int .i64 v.tgt, .slice (some ⟨G', 0, none⟩) 4 4, .int .i64 v.pl]) (by simp [results, Tryz.results86, go_sem, p0, p1, p2, p3]) rfl ?_
  exact ⟨G', vs', rfl, by rw [hfo]; exact hG⟩
theorem Wr.all (h : Wr w G vs v' G' vs' x) : x.cell? ⟨w.heap.size, 0, none⟩ = some (.int .i64 v'.most) ∧ x.cell? ⟨w.heap.size, 1, none⟩ = some (.int .i64 v'.tgt) ∧ x.cell? ⟨w.heap.size, 2, none⟩ = some (.slice (some ⟨G', 0, none⟩) 4 4) ∧ x.cell? ⟨w.heap.size, 3, none⟩ = some (.int .i64 v'.pl) ∧ Wr w G vs v' G' vs' x := ⟨h.box.cell 0, h.box.cell 1, h.box.cell 2, h.box.cell 3, h⟩
theorem wr_len {a : Int} {i : Nat} (ha : a = (i : Int)) (hi : i < 4) (hok : v'.Ok) (h : Wr w G vs v' G' vs' x) :
  Calls Tryz.prog 63 #[.agg #[.int .i64 v'.most, .int .i64 v'.tgt, .slice (some ⟨G', 0, none⟩) 4 4, .int .i64 v'.pl], .int .i64 a] x fun e y => e = .returned (.int .i64 (v'.len i : Int)) ∧ Wr w G vs v' G' vs' y := by
 subst ha
 refine (rlen_c hi hok x h.go.rf).mono ?_
 rintro e y ⟨rfl, hb⟩
 exact ⟨rfl, h.onto hb⟩
theorem row_lit {B : Nat} (w : World) (hB : B ≤ w.heap.size) (k : Key) : (w.alloc (.cells #[.string (str k)] 9)).ownsRow B 9 1 (.slice (some ⟨w.heap.size, 0, none⟩) 1 1) 1 (strsV [k]) :=
 World.ownsRow_lit (size := 1) (e := 9) (base := B) w #[.string (str k)] 1 hB (by unfold maxLen; omega) rfl
theorem row_put {w x : World} {B m t G p n : Nat} {val : Value} {xs : List Value} (h : x.ownsRow B 9 1 val n xs) (hB : w.heap.size + 2 ≤ B) : (putA w x m t G p).ownsRow B 9 1 val n xs := by
 refine ownsRow_stay h fun b hb => ?_
 have hne : b ≠ w.heap.size + 1 := by have := (h.lt b hb).1; omega
 exact (((Below.heap_setCell _ ⟨w.heap.size + 1, 3, none⟩ _ b hne).trans (Below.heap_setCell _ ⟨w.heap.size + 1, 2, none⟩ _ b hne)).trans (Below.heap_setCell _ ⟨w.heap.size + 1, 1, none⟩ _ b hne)).trans (Below.heap_setCell x ⟨w.heap.size + 1, 0, none⟩ _ b hne)
set_option maxHeartbeats 8000000 in
set_option maxRecDepth 100000 in
theorem rreplace_c (b : Bool) (hf : v.Fine) (w : World) (h : Dat w v G vs) :
  Calls Tryz.prog 85 #[.agg #[.int .i64 v.most, .int .i64 v.tgt, .slice (some ⟨G, 0, none⟩) 4 4, .int .i64 v.pl], .bool b] w fun e w' => ∃ G' vs' val, e = .returned (.tuple #[.agg #[.int .i64 v.most, .int .i64 v.tgt, .slice (some ⟨G', 0, none⟩) 4 4, .int .i64 v.pl], val]) ∧ Goes w G vs (v.repl b) G' vs' w' ∧ w'.ownsRow w.heap.size 9 1 val (v.last (v.src b)).toList.length (strsV (v.last (v.src b)).toList) := by
 have hok := hf.ok
 have h2 := Wr.new hok h
 have f0 := fun W (h : Wr w G vs v G vs W) => wr_len (a := 0) (i := 0) rfl (by omega) hok h
 have f1 := fun W (h : Wr w G vs v G vs W) => wr_len (a := 1) (i := 1) rfl (by omega) hok h
 go_enter Tryz.func85, Tryz.ntmps85
 go_upto_region 2 with (fail)
 generalize (w.alloc (.cells #[.int .i64 v.most, .int .i64 v.tgt, .slice (some ⟨G, 0, none⟩) 4 4, .int .i64 v.pl] 32)).alloc (.cells #[.int .i64 0, .int .i64 0, .slice none 0 0, .int .i64 0] 32) = w2 at *
 go_cut [33] from 9 to 32 (fun c wx => c = .bool (v.once b) ∧ Wr w G vs v G vs wx)
 case first =>
  by_cases n0 : 0 < v.len 0
  ·have d0 : decide ((0 : Int) < (v.len 0 : Int)) = true := decide_eq_true (by omega)
   by_cases n1 : v.tgt < v.len 0
   ·have d1 : decide ((v.tgt : Int) < (v.len 0 : Int)) = true := decide_eq_true (by omega)
    have ho : v.once b = true := by simp [Av.once, n0, n1]
    refine region_only 25 #[false, false, false, false, false, false, false, false, false, false, false, false, false, false, false, false, false, false, false, false, false, false, false, false, false] (S := (fun W => W.cell? ⟨w.heap.size, 0, none⟩ = some (.int .i64 v.most) ∧ W.cell? ⟨w.heap.size, 1, none⟩ = some (.int .i64 v.tgt) ∧ W.cell? ⟨w.heap.size, 2, none⟩ = some (.slice (some ⟨G, 0, none⟩) 4 4) ∧ W.cell? ⟨w.heap.size, 3, none⟩ = some (.int .i64 v.pl) ∧ Wr w G vs v G vs W)) rfl rfl (by kernel_rfl) (Wr.all (h2.drewN 1)) (fun hSw => ?_)
    refine tkA 0 9 24 ?_ rfl rfl ?_ hSw ?_
    rotate_left
    ·intro wx hSx; (try dsimp only at hSx); go_split_ands; go_simp; (try with_reducible rfl)
    simp only [sA, List.set_cons_zero, sC]
    refine rdA 23 1 rfl fun K hK => ?_
    go_simp
    refine Calls.mono (f0 _ hSw.2.2.2.2) ?_
    rintro e wv ⟨rfl, hwv⟩
    refine hK.out _ _ (Wr.all hwv) (fun hSw => ?_)
    clear hK K
    simp only [sA, List.set_cons_zero, sC]
    refine tkA 2 11 22 ?_ rfl rfl ?_ hSw ?_
    rotate_left
    ·intro wx hSx; (try dsimp only at hSx); go_split_ands; go_simp; (try with_reducible rfl)
    simp only [sA, List.set_cons_zero, sC]
    refine tkA 3 12 21 ?_ rfl rfl ?_ hSw ?_
    rotate_left
    ·intro wx hSx; (try dsimp only at hSx); go_split_ands; go_simp; (try with_reducible rfl)
    simp only [sA, List.set_cons_zero, sC]
    refine tkA 4 13 20 ?_ rfl rfl ?_ hSw ?_
    rotate_left
    ·intro wx hSx; (try dsimp only at hSx); go_split_ands; go_simp; (try with_reducible rfl)
    simp only [sA, List.set_cons_zero, sC]
    refine tkA 6 15 19 ?_ rfl rfl ?_ hSw ?_
    rotate_left
    ·intro wx hSx; (try dsimp only at hSx); go_split_ands; go_simp; (try with_reducible rfl)
    simp only [sA, List.set_cons_zero, sC]
    refine tkA 7 16 18 ?_ rfl rfl ?_ hSw ?_
    rotate_left
    ·intro wx hSx; (try dsimp only at hSx); go_split_ands; go_simp; (try with_reducible rfl)
    simp only [sA, List.set_cons_zero, sC]
    refine rdA 17 5 rfl fun K hK => ?_
    go_simp
    refine Calls.mono (f0 _ hSw.2.2.2.2) ?_
    rintro e wv ⟨rfl, hwv⟩
    refine hK.out _ _ (Wr.all hwv) (fun hSw => ?_)
    clear hK K
    simp only [sA, List.set_cons_zero, sC]
    refine tkA 8 17 16 ?_ rfl rfl ?_ hSw ?_
    rotate_left
    ·intro wx hSx; (try dsimp only at hSx); go_split_ands; go_simp; (try with_reducible rfl)
    simp only [sA, List.set_cons_zero, sC]
    refine tkA 9 18 15 ?_ rfl rfl ?_ hSw ?_
    rotate_left
    ·intro wx hSx; (try dsimp only at hSx); go_split_ands; go_simp; (try with_reducible rfl)
    simp only [sA, List.set_cons_zero, sC]
    refine take_at 10 19 undef (fuel := 14) rfl rfl (by kernel_rfl) (by kernel_rfl) (by kernel_rfl) (Or.inr ⟨by rfl, rfl⟩) hSw ?_
    simp only [sA, List.set_cons_zero, sC]
    refine take_at 11 20 undef (fuel := 13) rfl rfl (by kernel_rfl) (by kernel_rfl) (by kernel_rfl) (Or.inr ⟨by rfl, rfl⟩) hSw ?_
    simp only [sA, List.set_cons_zero, sC]
    refine take_at 12 21 undef (fuel := 12) rfl rfl (by kernel_rfl) (by kernel_rfl) (by kernel_rfl) (Or.inr ⟨by rfl, rfl⟩) hSw ?_
    simp only [sA, List.set_cons_zero, sC]
    refine take_at 13 22 undef (fuel := 11) rfl rfl (by kernel_rfl) (by kernel_rfl) (by kernel_rfl) (Or.inr ⟨by rfl, rfl⟩) hSw ?_
    simp only [sA, List.set_cons_zero, sC]
    refine take_at 14 23 undef (fuel := 10) rfl rfl (by kernel_rfl) (by kernel_rfl) (by kernel_rfl) (Or.inr ⟨by rfl, rfl⟩) hSw ?_
    simp only [sA, List.set_cons_zero, sC]
    refine take_at 15 24 undef (fuel := 9) rfl rfl (by kernel_rfl) (by kernel_rfl) (by kernel_rfl) (Or.inr ⟨by rfl, rfl⟩) hSw ?_
    simp only [sA, List.set_cons_zero, sC]
    refine take_at 16 25 undef (fuel := 8) rfl rfl (by kernel_rfl) (by kernel_rfl) (by kernel_rfl) (Or.inr ⟨by rfl, rfl⟩) hSw ?_
    simp only [sA, List.set_cons_zero, sC]
    refine take_at 17 26 undef (fuel := 7) rfl rfl (by kernel_rfl) (by kernel_rfl) (by kernel_rfl) (Or.inr ⟨by rfl, rfl⟩) hSw ?_
    simp only [sA, List.set_cons_zero, sC]
    refine tkA 18 27 6 ?_ rfl rfl ?_ hSw ?_
    rotate_left
    ·intro wx hSx; (try dsimp only at hSx); go_split_ands; go_simp; (try with_reducible rfl)
    simp only [sA, List.set_cons_zero, sC]
    refine tkA 19 28 5 ?_ rfl rfl ?_ hSw ?_
    rotate_left
    ·intro wx hSx; (try dsimp only at hSx); go_split_ands; go_simp; (try with_reducible rfl)
    simp only [sA, List.set_cons_zero, sC]
    refine take_at 20 29 undef (fuel := 4) rfl rfl (by kernel_rfl) (by kernel_rfl) (by kernel_rfl) (Or.inr ⟨by rfl, rfl⟩) hSw ?_
    simp only [sA, List.set_cons_zero, sC]
    refine take_at 21 30 undef (fuel := 3) rfl rfl (by kernel_rfl) (by kernel_rfl) (by kernel_rfl) (Or.inr ⟨by rfl, rfl⟩) hSw ?_
    simp only [sA, List.set_cons_zero, sC]
    refine take_at 22 31 undef (fuel := 2) rfl rfl (by kernel_rfl) (by kernel_rfl) (by kernel_rfl) (Or.inr ⟨by rfl, rfl⟩) hSw ?_
    simp only [sA, List.set_cons_zero, sC]
    refine tkA 23 32 1 ?_ rfl rfl ?_ hSw ?_
    rotate_left
    ·intro wx hSx; (try dsimp only at hSx); go_split_ands; go_simp; (try with_reducible rfl)
    simp only [sA, List.set_cons_zero, sC]
    refine tkA 24 33 0 ?_ rfl rfl ?_ hSw ?_
    rotate_left
    ·intro wx hSx; (try dsimp only at hSx); go_split_ands; go_simp; (try with_reducible rfl)
    simp only [sA, List.set_cons_zero, sC]
    refine wpAnyH_done (by kernel_rfl) ⟨rfl, ?_⟩ 0
    have hZ := hSw.2.2.2.2
    clear hSw
    go_wp2_with fail
    go_meet
    exact ⟨by rw [ho], hZ⟩
   ·have d1 : decide ((v.tgt : Int) < (v.len 0 : Int)) = false := decide_eq_false (by omega)
    by_cases n3 : v.len 1 = 0
    ·have d3 : ((v.len 1 : Int) == 0) = true := beq_iff_eq.2 (by omega)
     cases b with
     | false =>
      have ho : v.once false = true := by simp [Av.once, n0, n3]
      refine region_only 25 #[false, false, false, false, false, false, false, false, false, false, false, false, false, false, false, false, false, false, false, false, false, false, false, false, false] (S := (fun W => W.cell? ⟨w.heap.size, 0, none⟩ = some (.int .i64 v.most) ∧ W.cell? ⟨w.heap.size, 1, none⟩ = some (.int .i64 v.tgt) ∧ W.cell? ⟨w.heap.size, 2, none⟩ = some (.slice (some ⟨G, 0, none⟩) 4 4) ∧ W.cell? ⟨w.heap.size, 3, none⟩ = some (.int .i64 v.pl) ∧ Wr w G vs v G vs W)) rfl rfl (by kernel_rfl) (Wr.all (h2.drewN 1)) (fun hSw => ?_)
      refine tkA 0 9 24 ?_ rfl rfl ?_ hSw ?_
      rotate_left
      ·intro wx hSx; (try dsimp only at hSx); go_split_ands; go_simp; (try with_reducible rfl)
      simp only [sA, List.set_cons_zero, sC]
      refine rdA 23 1 rfl fun K hK => ?_
      go_simp
      refine Calls.mono (f0 _ hSw.2.2.2.2) ?_
      rintro e wv ⟨rfl, hwv⟩
      refine hK.out _ _ (Wr.all hwv) (fun hSw => ?_)
      clear hK K
      simp only [sA, List.set_cons_zero, sC]
      refine tkA 2 11 22 ?_ rfl rfl ?_ hSw ?_
      rotate_left
      ·intro wx hSx; (try dsimp only at hSx); go_split_ands; go_simp; (try with_reducible rfl)
      simp only [sA, List.set_cons_zero, sC]
      refine tkA 3 12 21 ?_ rfl rfl ?_ hSw ?_
      rotate_left
      ·intro wx hSx; (try dsimp only at hSx); go_split_ands; go_simp; (try with_reducible rfl)
      simp only [sA, List.set_cons_zero, sC]
      refine tkA 4 13 20 ?_ rfl rfl ?_ hSw ?_
      rotate_left
      ·intro wx hSx; (try dsimp only at hSx); go_split_ands; go_simp; (try with_reducible rfl)
      simp only [sA, List.set_cons_zero, sC]
      refine tkA 6 15 19 ?_ rfl rfl ?_ hSw ?_
      rotate_left
      ·intro wx hSx; (try dsimp only at hSx); go_split_ands; go_simp; (try with_reducible rfl)
      simp only [sA, List.set_cons_zero, sC]
      refine tkA 7 16 18 ?_ rfl rfl ?_ hSw ?_
      rotate_left
      ·intro wx hSx; (try dsimp only at hSx); go_split_ands; go_simp; (try with_reducible rfl)
      simp only [sA, List.set_cons_zero, sC]
      refine rdA 17 5 rfl fun K hK => ?_
      go_simp
      refine Calls.mono (f0 _ hSw.2.2.2.2) ?_
      rintro e wv ⟨rfl, hwv⟩
      refine hK.out _ _ (Wr.all hwv) (fun hSw => ?_)
      clear hK K
      simp only [sA, List.set_cons_zero, sC]
      refine tkA 8 17 16 ?_ rfl rfl ?_ hSw ?_
      rotate_left
      ·intro wx hSx; (try dsimp only at hSx); go_split_ands; go_simp; (try with_reducible rfl)
      simp only [sA, List.set_cons_zero, sC]
      refine tkA 9 18 15 ?_ rfl rfl ?_ hSw ?_
      rotate_left
      ·intro wx hSx; (try dsimp only at hSx); go_split_ands; go_simp; (try with_reducible rfl)
      simp only [sA, List.set_cons_zero, sC]
      refine tkA 10 19 14 ?_ rfl rfl ?_ hSw ?_
      rotate_left
      ·intro wx hSx; (try dsimp only at hSx); go_split_ands; go_simp; (try with_reducible rfl)
      simp only [sA, List.set_cons_zero, sC]
      refine tkA 11 20 13 ?_ rfl rfl ?_ hSw ?_
      rotate_left
      ·intro wx hSx; (try dsimp only at hSx); go_split_ands; go_simp; (try with_reducible rfl)
      simp only [sA, List.set_cons_zero, sC]
      refine take_at 12 21 undef (fuel := 12) rfl rfl (by kernel_rfl) (by kernel_rfl) (by kernel_rfl) (Or.inr ⟨by rfl, rfl⟩) hSw ?_
      simp only [sA, List.set_cons_zero, sC]
      refine take_at 13 22 undef (fuel := 11) rfl rfl (by kernel_rfl) (by kernel_rfl) (by kernel_rfl) (Or.inr ⟨by rfl, rfl⟩) hSw ?_
      simp only [sA, List.set_cons_zero, sC]
      refine take_at 14 23 undef (fuel := 10) rfl rfl (by kernel_rfl) (by kernel_rfl) (by kernel_rfl) (Or.inr ⟨by rfl, rfl⟩) hSw ?_
      simp only [sA, List.set_cons_zero, sC]
      refine take_at 15 24 undef (fuel := 9) rfl rfl (by kernel_rfl) (by kernel_rfl) (by kernel_rfl) (Or.inr ⟨by rfl, rfl⟩) hSw ?_
      simp only [sA, List.set_cons_zero, sC]
      refine take_at 16 25 undef (fuel := 8) rfl rfl (by kernel_rfl) (by kernel_rfl) (by kernel_rfl) (Or.inr ⟨by rfl, rfl⟩) hSw ?_
      simp only [sA, List.set_cons_zero, sC]
      refine tkA 17 26 7 ?_ rfl rfl ?_ hSw ?_
      rotate_left
      ·intro wx hSx; (try dsimp only at hSx); go_split_ands; go_simp; (try with_reducible rfl)
      simp only [sA, List.set_cons_zero, sC]
      refine tkA 18 27 6 ?_ rfl rfl ?_ hSw ?_
      rotate_left
      ·intro wx hSx; (try dsimp only at hSx); go_split_ands; go_simp; (try with_reducible rfl)
      simp only [sA, List.set_cons_zero, sC]
      refine tkA 19 28 5 ?_ rfl rfl ?_ hSw ?_
      rotate_left
      ·intro wx hSx; (try dsimp only at hSx); go_split_ands; go_simp; (try with_reducible rfl)
      simp only [sA, List.set_cons_zero, sC]
      refine tkA 20 29 4 ?_ rfl rfl ?_ hSw ?_
      rotate_left
      ·intro wx hSx; (try dsimp only at hSx); go_split_ands; go_simp; (try with_reducible rfl)
      simp only [sA, List.set_cons_zero, sC]
      refine rdA 3 21 rfl fun K hK => ?_
      go_simp
      refine Calls.mono (f1 _ hSw.2.2.2.2) ?_
      rintro e wv ⟨rfl, hwv⟩
      refine hK.out _ _ (Wr.all hwv) (fun hSw => ?_)
      clear hK K
      simp only [sA, List.set_cons_zero, sC]
      refine tkA 22 31 2 ?_ rfl rfl ?_ hSw ?_
      rotate_left
      ·intro wx hSx; (try dsimp only at hSx); go_split_ands; go_simp; (try with_reducible rfl)
      simp only [sA, List.set_cons_zero, sC]
      refine tkA 23 32 1 ?_ rfl rfl ?_ hSw ?_
      rotate_left
      ·intro wx hSx; (try dsimp only at hSx); go_split_ands; go_simp; (try with_reducible rfl)
      simp only [sA, List.set_cons_zero, sC]
      refine tkA 24 33 0 ?_ rfl rfl ?_ hSw ?_
      rotate_left
      ·intro wx hSx; (try dsimp only at hSx); go_split_ands; go_simp; (try with_reducible rfl)
      simp only [sA, List.set_cons_zero, sC]
      refine wpAnyH_done (by kernel_rfl) ⟨rfl, ?_⟩ 0
      have hZ := hSw.2.2.2.2
      clear hSw
      go_wp2_with fail
      go_meet
      exact ⟨by rw [ho], hZ⟩
     | true =>
      by_cases n2 : v.len 0 = v.tgt
      ·have d2 : ((v.len 0 : Int) == (v.tgt : Int)) = true := beq_iff_eq.2 (by omega)
       have ho : v.once true = true := by simp [Av.once, n0, n3]
       clear n2
       refine region_only 25 #[false, false, false, false, false, false, false, false, false, false, false, false, false, false, false, false, false, false, false, false, false, false, false, false, false] (S := (fun W => W.cell? ⟨w.heap.size, 0, none⟩ = some (.int .i64 v.most) ∧ W.cell? ⟨w.heap.size, 1, none⟩ = some (.int .i64 v.tgt) ∧ W.cell? ⟨w.heap.size, 2, none⟩ = some (.slice (some ⟨G, 0, none⟩) 4 4) ∧ W.cell? ⟨w.heap.size, 3, none⟩ = some (.int .i64 v.pl) ∧ Wr w G vs v G vs W)) rfl rfl (by kernel_rfl) (Wr.all (h2.drewN 1)) (fun hSw => ?_)
       refine tkA 0 9 24 ?_ rfl rfl ?_ hSw ?_
       rotate_left
       ·intro wx hSx; (try dsimp only at hSx); go_split_ands; go_simp; (try with_reducible rfl)
       simp only [sA, List.set_cons_zero, sC]
       refine rdA 23 1 rfl fun K hK => ?_
       go_simp
       refine Calls.mono (f0 _ hSw.2.2.2.2) ?_
       rintro e wv ⟨rfl, hwv⟩
       refine hK.out _ _ (Wr.all hwv) (fun hSw => ?_)
       clear hK K
       simp only [sA, List.set_cons_zero, sC]
       refine tkA 2 11 22 ?_ rfl rfl ?_ hSw ?_
       rotate_left
       ·intro wx hSx; (try dsimp only at hSx); go_split_ands; go_simp; (try with_reducible rfl)
       simp only [sA, List.set_cons_zero, sC]
       refine tkA 3 12 21 ?_ rfl rfl ?_ hSw ?_
       rotate_left
       ·intro wx hSx; (try dsimp only at hSx); go_split_ands; go_simp; (try with_reducible rfl)
       simp only [sA, List.set_cons_zero, sC]
       refine tkA 4 13 20 ?_ rfl rfl ?_ hSw ?_
       rotate_left
       ·intro wx hSx; (try dsimp only at hSx); go_split_ands; go_simp; (try with_reducible rfl)
       simp only [sA, List.set_cons_zero, sC]
       refine tkA 6 15 19 ?_ rfl rfl ?_ hSw ?_
       rotate_left
       ·intro wx hSx; (try dsimp only at hSx); go_split_ands; go_simp; (try with_reducible rfl)
       simp only [sA, List.set_cons_zero, sC]
       refine tkA 7 16 18 ?_ rfl rfl ?_ hSw ?_
       rotate_left
       ·intro wx hSx; (try dsimp only at hSx); go_split_ands; go_simp; (try with_reducible rfl)
       simp only [sA, List.set_cons_zero, sC]
       refine rdA 17 5 rfl fun K hK => ?_
       go_simp
       refine Calls.mono (f0 _ hSw.2.2.2.2) ?_
       rintro e wv ⟨rfl, hwv⟩
       refine hK.out _ _ (Wr.all hwv) (fun hSw => ?_)
       clear hK K
       simp only [sA, List.set_cons_zero, sC]
       refine tkA 8 17 16 ?_ rfl rfl ?_ hSw ?_
       rotate_left
       ·intro wx hSx; (try dsimp only at hSx); go_split_ands; go_simp; (try with_reducible rfl)
       simp only [sA, List.set_cons_zero, sC]
       refine tkA 9 18 15 ?_ rfl rfl ?_ hSw ?_
       rotate_left
       ·intro wx hSx; (try dsimp only at hSx); go_split_ands; go_simp; (try with_reducible rfl)
       simp only [sA, List.set_cons_zero, sC]
       refine tkA 10 19 14 ?_ rfl rfl ?_ hSw ?_
       rotate_left
       ·intro wx hSx; (try dsimp only at hSx); go_split_ands; go_simp; (try with_reducible rfl)
       simp only [sA, List.set_cons_zero, sC]
       refine tkA 11 20 13 ?_ rfl rfl ?_ hSw ?_
       rotate_left
       ·intro wx hSx; (try dsimp only at hSx); go_split_ands; go_simp; (try with_reducible rfl)
       simp only [sA, List.set_cons_zero, sC]
       refine tkA 12 21 12 ?_ rfl rfl ?_ hSw ?_
       rotate_left
       ·intro wx hSx; (try dsimp only at hSx); go_split_ands; go_simp; (try with_reducible rfl)
       simp only [sA, List.set_cons_zero, sC]
       refine tkA 14 23 11 ?_ rfl rfl ?_ hSw ?_
       rotate_left
       ·intro wx hSx; (try dsimp only at hSx); go_split_ands; go_simp; (try with_reducible rfl)
       simp only [sA, List.set_cons_zero, sC]
       refine tkA 15 24 10 ?_ rfl rfl ?_ hSw ?_
       rotate_left
       ·intro wx hSx; (try dsimp only at hSx); go_split_ands; go_simp; (try with_reducible rfl)
       simp only [sA, List.set_cons_zero, sC]
       refine rdA 9 13 rfl fun K hK => ?_
       go_simp
       refine Calls.mono (f0 _ hSw.2.2.2.2) ?_
       rintro e wv ⟨rfl, hwv⟩
       refine hK.out _ _ (Wr.all hwv) (fun hSw => ?_)
       clear hK K
       simp only [sA, List.set_cons_zero, sC]
       refine tkA 16 25 8 ?_ rfl rfl ?_ hSw ?_
       rotate_left
       ·intro wx hSx; (try dsimp only at hSx); go_split_ands; go_simp; (try with_reducible rfl)
       simp only [sA, List.set_cons_zero, sC]
       refine tkA 17 26 7 ?_ rfl rfl ?_ hSw ?_
       rotate_left
       ·intro wx hSx; (try dsimp only at hSx); go_split_ands; go_simp; (try with_reducible rfl)
       simp only [sA, List.set_cons_zero, sC]
       refine tkA 18 27 6 ?_ rfl rfl ?_ hSw ?_
       rotate_left
       ·intro wx hSx; (try dsimp only at hSx); go_split_ands; go_simp; (try with_reducible rfl)
       simp only [sA, List.set_cons_zero, sC]
       refine tkA 19 28 5 ?_ rfl rfl ?_ hSw ?_
       rotate_left
       ·intro wx hSx; (try dsimp only at hSx); go_split_ands; go_simp; (try with_reducible rfl)
       simp only [sA, List.set_cons_zero, sC]
       refine take_at 20 29 undef (fuel := 4) rfl rfl (by kernel_rfl) (by kernel_rfl) (by kernel_rfl) (Or.inr ⟨by rfl, rfl⟩) hSw ?_
       simp only [sA, List.set_cons_zero, sC]
       refine take_at 21 30 undef (fuel := 3) rfl rfl (by kernel_rfl) (by kernel_rfl) (by kernel_rfl) (Or.inr ⟨by rfl, rfl⟩) hSw ?_
       simp only [sA, List.set_cons_zero, sC]
       refine take_at 22 31 undef (fuel := 2) rfl rfl (by kernel_rfl) (by kernel_rfl) (by kernel_rfl) (Or.inr ⟨by rfl, rfl⟩) hSw ?_
       simp only [sA, List.set_cons_zero, sC]
       refine tkA 23 32 1 ?_ rfl rfl ?_ hSw ?_
       rotate_left
       ·intro wx hSx; (try dsimp only at hSx); go_split_ands; go_simp; (try with_reducible rfl)
       simp only [sA, List.set_cons_zero, sC]
       refine tkA 24 33 0 ?_ rfl rfl ?_ hSw ?_
       rotate_left
       ·intro wx hSx; (try dsimp only at hSx); go_split_ands; go_simp; (try with_reducible rfl)
       simp only [sA, List.set_cons_zero, sC]
       refine wpAnyH_done (by kernel_rfl) ⟨rfl, ?_⟩ 0
       have hZ := hSw.2.2.2.2
       clear hSw
       go_wp2_with fail
       go_meet
       exact ⟨by rw [ho], hZ⟩
      ·have d2 : ((v.len 0 : Int) == (v.tgt : Int)) = false := beq_eq_false_iff_ne.2 (by omega)
       have ho : v.once true = true := by simp [Av.once, n0, n3]
       refine region_only 25 #[false, false, false, false, false, false, false, false, false, false, false, false, false, false, false, false, false, false, false, false, false, false, false, false, false] (S := (fun W => W.cell? ⟨w.heap.size, 0, none⟩ = some (.int .i64 v.most) ∧ W.cell? ⟨w.heap.size, 1, none⟩ = some (.int .i64 v.tgt) ∧ W.cell? ⟨w.heap.size, 2, none⟩ = some (.slice (some ⟨G, 0, none⟩) 4 4) ∧ W.cell? ⟨w.heap.size, 3, none⟩ = some (.int .i64 v.pl) ∧ Wr w G vs v G vs W)) rfl rfl (by kernel_rfl) (Wr.all (h2.drewN 1)) (fun hSw => ?_)
       refine tkA 0 9 24 ?_ rfl rfl ?_ hSw ?_
       rotate_left
       ·intro wx hSx; (try dsimp only at hSx); go_split_ands; go_simp; (try with_reducible rfl)
       simp only [sA, List.set_cons_zero, sC]
       refine rdA 23 1 rfl fun K hK => ?_
       go_simp
       refine Calls.mono (f0 _ hSw.2.2.2.2) ?_
       rintro e wv ⟨rfl, hwv⟩
       refine hK.out _ _ (Wr.all hwv) (fun hSw => ?_)
       clear hK K
       simp only [sA, List.set_cons_zero, sC]
       refine tkA 2 11 22 ?_ rfl rfl ?_ hSw ?_
       rotate_left
       ·intro wx hSx; (try dsimp only at hSx); go_split_ands; go_simp; (try with_reducible rfl)
       simp only [sA, List.set_cons_zero, sC]
       refine tkA 3 12 21 ?_ rfl rfl ?_ hSw ?_
       rotate_left
       ·intro wx hSx; (try dsimp only at hSx); go_split_ands; go_simp; (try with_reducible rfl)
       simp only [sA, List.set_cons_zero, sC]
       refine tkA 4 13 20 ?_ rfl rfl ?_ hSw ?_
       rotate_left
       ·intro wx hSx; (try dsimp only at hSx); go_split_ands; go_simp; (try with_reducible rfl)
       simp only [sA, List.set_cons_zero, sC]
       refine tkA 6 15 19 ?_ rfl rfl ?_ hSw ?_
       rotate_left
       ·intro wx hSx; (try dsimp only at hSx); go_split_ands; go_simp; (try with_reducible rfl)
       simp only [sA, List.set_cons_zero, sC]
       refine tkA 7 16 18 ?_ rfl rfl ?_ hSw ?_
       rotate_left
       ·intro wx hSx; (try dsimp only at hSx); go_split_ands; go_simp; (try with_reducible rfl)
       simp only [sA, List.set_cons_zero, sC]
       refine rdA 17 5 rfl fun K hK => ?_
       go_simp
       refine Calls.mono (f0 _ hSw.2.2.2.2) ?_
       rintro e wv ⟨rfl, hwv⟩
       refine hK.out _ _ (Wr.all hwv) (fun hSw => ?_)
       clear hK K
       simp only [sA, List.set_cons_zero, sC]
       refine tkA 8 17 16 ?_ rfl rfl ?_ hSw ?_
       rotate_left
       ·intro wx hSx; (try dsimp only at hSx); go_split_ands; go_simp; (try with_reducible rfl)
       simp only [sA, List.set_cons_zero, sC]
       refine tkA 9 18 15 ?_ rfl rfl ?_ hSw ?_
       rotate_left
       ·intro wx hSx; (try dsimp only at hSx); go_split_ands; go_simp; (try with_reducible rfl)
       simp only [sA, List.set_cons_zero, sC]
       refine tkA 10 19 14 ?_ rfl rfl ?_ hSw ?_
       rotate_left
       ·intro wx hSx; (try dsimp only at hSx); go_split_ands; go_simp; (try with_reducible rfl)
       simp only [sA, List.set_cons_zero, sC]
       refine tkA 11 20 13 ?_ rfl rfl ?_ hSw ?_
       rotate_left
       ·intro wx hSx; (try dsimp only at hSx); go_split_ands; go_simp; (try with_reducible rfl)
       simp only [sA, List.set_cons_zero, sC]
       refine tkA 12 21 12 ?_ rfl rfl ?_ hSw ?_
       rotate_left
       ·intro wx hSx; (try dsimp only at hSx); go_split_ands; go_simp; (try with_reducible rfl)
       simp only [sA, List.set_cons_zero, sC]
       refine tkA 14 23 11 ?_ rfl rfl ?_ hSw ?_
       rotate_left
       ·intro wx hSx; (try dsimp only at hSx); go_split_ands; go_simp; (try with_reducible rfl)
       simp only [sA, List.set_cons_zero, sC]
       refine tkA 15 24 10 ?_ rfl rfl ?_ hSw ?_
       rotate_left
       ·intro wx hSx; (try dsimp only at hSx); go_split_ands; go_simp; (try with_reducible rfl)
       simp only [sA, List.set_cons_zero, sC]
       refine rdA 9 13 rfl fun K hK => ?_
       go_simp
       refine Calls.mono (f0 _ hSw.2.2.2.2) ?_
       rintro e wv ⟨rfl, hwv⟩
       refine hK.out _ _ (Wr.all hwv) (fun hSw => ?_)
       clear hK K
       simp only [sA, List.set_cons_zero, sC]
       refine tkA 16 25 8 ?_ rfl rfl ?_ hSw ?_
       rotate_left
       ·intro wx hSx; (try dsimp only at hSx); go_split_ands; go_simp; (try with_reducible rfl)
       simp only [sA, List.set_cons_zero, sC]
       refine tkA 17 26 7 ?_ rfl rfl ?_ hSw ?_
       rotate_left
       ·intro wx hSx; (try dsimp only at hSx); go_split_ands; go_simp; (try with_reducible rfl)
       simp only [sA, List.set_cons_zero, sC]
       refine tkA 18 27 6 ?_ rfl rfl ?_ hSw ?_
       rotate_left
       ·intro wx hSx; (try dsimp only at hSx); go_split_ands; go_simp; (try with_reducible rfl)
       simp only [sA, List.set_cons_zero, sC]
       refine tkA 19 28 5 ?_ rfl rfl ?_ hSw ?_
       rotate_left
       ·intro wx hSx; (try dsimp only at hSx); go_split_ands; go_simp; (try with_reducible rfl)
       simp only [sA, List.set_cons_zero, sC]
       refine tkA 20 29 4 ?_ rfl rfl ?_ hSw ?_
       rotate_left
       ·intro wx hSx; (try dsimp only at hSx); go_split_ands; go_simp; (try with_reducible rfl)
       simp only [sA, List.set_cons_zero, sC]
       refine rdA 3 21 rfl fun K hK => ?_
       go_simp
       refine Calls.mono (f1 _ hSw.2.2.2.2) ?_
       rintro e wv ⟨rfl, hwv⟩
       refine hK.out _ _ (Wr.all hwv) (fun hSw => ?_)
       clear hK K
       simp only [sA, List.set_cons_zero, sC]
       refine tkA 22 31 2 ?_ rfl rfl ?_ hSw ?_
       rotate_left
       ·intro wx hSx; (try dsimp only at hSx); go_split_ands; go_simp; (try with_reducible rfl)
       simp only [sA, List.set_cons_zero, sC]
       refine tkA 23 32 1 ?_ rfl rfl ?_ hSw ?_
       rotate_left
       ·intro wx hSx; (try dsimp only at hSx); go_split_ands; go_simp; (try with_reducible rfl)
       simp only [sA, List.set_cons_zero, sC]
       refine tkA 24 33 0 ?_ rfl rfl ?_ hSw ?_
       rotate_left
       ·intro wx hSx; (try dsimp only at hSx); go_split_ands; go_simp; (try with_reducible rfl)
       simp only [sA, List.set_cons_zero, sC]
       refine wpAnyH_done (by kernel_rfl) ⟨rfl, ?_⟩ 0
       have hZ := hSw.2.2.2.2
       clear hSw
       go_wp2_with fail
       go_meet
       exact ⟨by rw [ho], hZ⟩
    ·have d3 : ((v.len 1 : Int) == 0) = false := beq_eq_false_iff_ne.2 (by omega)
     cases b with
     | false =>
      have ho : v.once false = false := by simp [Av.once, n1, n3]
      refine region_only 25 #[false, false, false, false, false, false, false, false, false, false, false, false, false, false, false, false, false, false, false, false, false, false, false, false, false] (S := (fun W => W.cell? ⟨w.heap.size, 0, none⟩ = some (.int .i64 v.most) ∧ W.cell? ⟨w.heap.size, 1, none⟩ = some (.int .i64 v.tgt) ∧ W.cell? ⟨w.heap.size, 2, none⟩ = some (.slice (some ⟨G, 0, none⟩) 4 4) ∧ W.cell? ⟨w.heap.size, 3, none⟩ = some (.int .i64 v.pl) ∧ Wr w G vs v G vs W)) rfl rfl (by kernel_rfl) (Wr.all (h2.drewN 1)) (fun hSw => ?_)
      refine tkA 0 9 24 ?_ rfl rfl ?_ hSw ?_
      rotate_left
      ·intro wx hSx; (try dsimp only at hSx); go_split_ands; go_simp; (try with_reducible rfl)
      simp only [sA, List.set_cons_zero, sC]
      refine rdA 23 1 rfl fun K hK => ?_
      go_simp
      refine Calls.mono (f0 _ hSw.2.2.2.2) ?_
      rintro e wv ⟨rfl, hwv⟩
      refine hK.out _ _ (Wr.all hwv) (fun hSw => ?_)
      clear hK K
      simp only [sA, List.set_cons_zero, sC]
      refine tkA 2 11 22 ?_ rfl rfl ?_ hSw ?_
      rotate_left
      ·intro wx hSx; (try dsimp only at hSx); go_split_ands; go_simp; (try with_reducible rfl)
      simp only [sA, List.set_cons_zero, sC]
      refine tkA 3 12 21 ?_ rfl rfl ?_ hSw ?_
      rotate_left
      ·intro wx hSx; (try dsimp only at hSx); go_split_ands; go_simp; (try with_reducible rfl)
      simp only [sA, List.set_cons_zero, sC]
      refine tkA 4 13 20 ?_ rfl rfl ?_ hSw ?_
      rotate_left
      ·intro wx hSx; (try dsimp only at hSx); go_split_ands; go_simp; (try with_reducible rfl)
      simp only [sA, List.set_cons_zero, sC]
      refine tkA 6 15 19 ?_ rfl rfl ?_ hSw ?_
      rotate_left
      ·intro wx hSx; (try dsimp only at hSx); go_split_ands; go_simp; (try with_reducible rfl)
      simp only [sA, List.set_cons_zero, sC]
      refine tkA 7 16 18 ?_ rfl rfl ?_ hSw ?_
      rotate_left
      ·intro wx hSx; (try dsimp only at hSx); go_split_ands; go_simp; (try with_reducible rfl)
      simp only [sA, List.set_cons_zero, sC]
      refine rdA 17 5 rfl fun K hK => ?_
      go_simp
      refine Calls.mono (f0 _ hSw.2.2.2.2) ?_
      rintro e wv ⟨rfl, hwv⟩
      refine hK.out _ _ (Wr.all hwv) (fun hSw => ?_)
      clear hK K
      simp only [sA, List.set_cons_zero, sC]
      refine tkA 8 17 16 ?_ rfl rfl ?_ hSw ?_
      rotate_left
      ·intro wx hSx; (try dsimp only at hSx); go_split_ands; go_simp; (try with_reducible rfl)
      simp only [sA, List.set_cons_zero, sC]
      refine tkA 9 18 15 ?_ rfl rfl ?_ hSw ?_
      rotate_left
      ·intro wx hSx; (try dsimp only at hSx); go_split_ands; go_simp; (try with_reducible rfl)
      simp only [sA, List.set_cons_zero, sC]
      refine tkA 10 19 14 ?_ rfl rfl ?_ hSw ?_
      rotate_left
      ·intro wx hSx; (try dsimp only at hSx); go_split_ands; go_simp; (try with_reducible rfl)
      simp only [sA, List.set_cons_zero, sC]
      refine tkA 11 20 13 ?_ rfl rfl ?_ hSw ?_
      rotate_left
      ·intro wx hSx; (try dsimp only at hSx); go_split_ands; go_simp; (try with_reducible rfl)
      simp only [sA, List.set_cons_zero, sC]
      refine take_at 12 21 undef (fuel := 12) rfl rfl (by kernel_rfl) (by kernel_rfl) (by kernel_rfl) (Or.inr ⟨by rfl, rfl⟩) hSw ?_
      simp only [sA, List.set_cons_zero, sC]
      refine take_at 13 22 undef (fuel := 11) rfl rfl (by kernel_rfl) (by kernel_rfl) (by kernel_rfl) (Or.inr ⟨by rfl, rfl⟩) hSw ?_
      simp only [sA, List.set_cons_zero, sC]
      refine take_at 14 23 undef (fuel := 10) rfl rfl (by kernel_rfl) (by kernel_rfl) (by kernel_rfl) (Or.inr ⟨by rfl, rfl⟩) hSw ?_
      simp only [sA, List.set_cons_zero, sC]
      refine take_at 15 24 undef (fuel := 9) rfl rfl (by kernel_rfl) (by kernel_rfl) (by kernel_rfl) (Or.inr ⟨by rfl, rfl⟩) hSw ?_
      simp only [sA, List.set_cons_zero, sC]
      refine take_at 16 25 undef (fuel := 8) rfl rfl (by kernel_rfl) (by kernel_rfl) (by kernel_rfl) (Or.inr ⟨by rfl, rfl⟩) hSw ?_
      simp only [sA, List.set_cons_zero, sC]
      refine tkA 17 26 7 ?_ rfl rfl ?_ hSw ?_
      rotate_left
      ·intro wx hSx; (try dsimp only at hSx); go_split_ands; go_simp; (try with_reducible rfl)
      simp only [sA, List.set_cons_zero, sC]
      refine tkA 18 27 6 ?_ rfl rfl ?_ hSw ?_
      rotate_left
      ·intro wx hSx; (try dsimp only at hSx); go_split_ands; go_simp; (try with_reducible rfl)
      simp only [sA, List.set_cons_zero, sC]
      refine tkA 19 28 5 ?_ rfl rfl ?_ hSw ?_
      rotate_left
      ·intro wx hSx; (try dsimp only at hSx); go_split_ands; go_simp; (try with_reducible rfl)
      simp only [sA, List.set_cons_zero, sC]
      refine tkA 20 29 4 ?_ rfl rfl ?_ hSw ?_
      rotate_left
      ·intro wx hSx; (try dsimp only at hSx); go_split_ands; go_simp; (try with_reducible rfl)
      simp only [sA, List.set_cons_zero, sC]
      refine rdA 3 21 rfl fun K hK => ?_
      go_simp
      refine Calls.mono (f1 _ hSw.2.2.2.2) ?_
      rintro e wv ⟨rfl, hwv⟩
      refine hK.out _ _ (Wr.all hwv) (fun hSw => ?_)
      clear hK K
      simp only [sA, List.set_cons_zero, sC]
      refine tkA 22 31 2 ?_ rfl rfl ?_ hSw ?_
      rotate_left
      ·intro wx hSx; (try dsimp only at hSx); go_split_ands; go_simp; (try with_reducible rfl)
      simp only [sA, List.set_cons_zero, sC]
      refine tkA 23 32 1 ?_ rfl rfl ?_ hSw ?_
      rotate_left
      ·intro wx hSx; (try dsimp only at hSx); go_split_ands; go_simp; (try with_reducible rfl)
      simp only [sA, List.set_cons_zero, sC]
      refine tkA 24 33 0 ?_ rfl rfl ?_ hSw ?_
      rotate_left
      ·intro wx hSx; (try dsimp only at hSx); go_split_ands; go_simp; (try with_reducible rfl)
      simp only [sA, List.set_cons_zero, sC]
      refine wpAnyH_done (by kernel_rfl) ⟨rfl, ?_⟩ 0
      have hZ := hSw.2.2.2.2
      clear hSw
      go_wp2_with fail
      go_meet
      exact ⟨by rw [ho], hZ⟩
     | true =>
      by_cases n2 : v.len 0 = v.tgt
      ·have d2 : ((v.len 0 : Int) == (v.tgt : Int)) = true := beq_iff_eq.2 (by omega)
       have ho : v.once true = true := by rw [n2] at n0; simp [Av.once, n2, n0]
       clear n2
       refine region_only 25 #[false, false, false, false, false, false, false, false, false, false, false, false, false, false, false, false, false, false, false, false, false, false, false, false, false] (S := (fun W => W.cell? ⟨w.heap.size, 0, none⟩ = some (.int .i64 v.most) ∧ W.cell? ⟨w.heap.size, 1, none⟩ = some (.int .i64 v.tgt) ∧ W.cell? ⟨w.heap.size, 2, none⟩ = some (.slice (some ⟨G, 0, none⟩) 4 4) ∧ W.cell? ⟨w.heap.size, 3, none⟩ = some (.int .i64 v.pl) ∧ Wr w G vs v G vs W)) rfl rfl (by kernel_rfl) (Wr.all (h2.drewN 1)) (fun hSw => ?_)
       refine tkA 0 9 24 ?_ rfl rfl ?_ hSw ?_
       rotate_left
       ·intro wx hSx; (try dsimp only at hSx); go_split_ands; go_simp; (try with_reducible rfl)
       simp only [sA, List.set_cons_zero, sC]
       refine rdA 23 1 rfl fun K hK => ?_
       go_simp
       refine Calls.mono (f0 _ hSw.2.2.2.2) ?_
       rintro e wv ⟨rfl, hwv⟩
       refine hK.out _ _ (Wr.all hwv) (fun hSw => ?_)
       clear hK K
       simp only [sA, List.set_cons_zero, sC]
       refine tkA 2 11 22 ?_ rfl rfl ?_ hSw ?_
       rotate_left
       ·intro wx hSx; (try dsimp only at hSx); go_split_ands; go_simp; (try with_reducible rfl)
       simp only [sA, List.set_cons_zero, sC]
       refine tkA 3 12 21 ?_ rfl rfl ?_ hSw ?_
       rotate_left
       ·intro wx hSx; (try dsimp only at hSx); go_split_ands; go_simp; (try with_reducible rfl)
       simp only [sA, List.set_cons_zero, sC]
       refine tkA 4 13 20 ?_ rfl rfl ?_ hSw ?_
       rotate_left
       ·intro wx hSx; (try dsimp only at hSx); go_split_ands; go_simp; (try with_reducible rfl)
       simp only [sA, List.set_cons_zero, sC]
       refine tkA 6 15 19 ?_ rfl rfl ?_ hSw ?_
       rotate_left
       ·intro wx hSx; (try dsimp only at hSx); go_split_ands; go_simp; (try with_reducible rfl)
       simp only [sA, List.set_cons_zero, sC]
       refine tkA 7 16 18 ?_ rfl rfl ?_ hSw ?_
       rotate_left
       ·intro wx hSx; (try dsimp only at hSx); go_split_ands; go_simp; (try with_reducible rfl)
       simp only [sA, List.set_cons_zero, sC]
       refine rdA 17 5 rfl fun K hK => ?_
       go_simp
       refine Calls.mono (f0 _ hSw.2.2.2.2) ?_
       rintro e wv ⟨rfl, hwv⟩
       refine hK.out _ _ (Wr.all hwv) (fun hSw => ?_)
       clear hK K
       simp only [sA, List.set_cons_zero, sC]
       refine tkA 8 17 16 ?_ rfl rfl ?_ hSw ?_
       rotate_left
       ·intro wx hSx; (try dsimp only at hSx); go_split_ands; go_simp; (try with_reducible rfl)
       simp only [sA, List.set_cons_zero, sC]
       refine tkA 9 18 15 ?_ rfl rfl ?_ hSw ?_
       rotate_left
       ·intro wx hSx; (try dsimp only at hSx); go_split_ands; go_simp; (try with_reducible rfl)
       simp only [sA, List.set_cons_zero, sC]
       refine tkA 10 19 14 ?_ rfl rfl ?_ hSw ?_
       rotate_left
       ·intro wx hSx; (try dsimp only at hSx); go_split_ands; go_simp; (try with_reducible rfl)
       simp only [sA, List.set_cons_zero, sC]
       refine tkA 11 20 13 ?_ rfl rfl ?_ hSw ?_
       rotate_left
       ·intro wx hSx; (try dsimp only at hSx); go_split_ands; go_simp; (try with_reducible rfl)
       simp only [sA, List.set_cons_zero, sC]
       refine tkA 12 21 12 ?_ rfl rfl ?_ hSw ?_
       rotate_left
       ·intro wx hSx; (try dsimp only at hSx); go_split_ands; go_simp; (try with_reducible rfl)
       simp only [sA, List.set_cons_zero, sC]
       refine tkA 14 23 11 ?_ rfl rfl ?_ hSw ?_
       rotate_left
       ·intro wx hSx; (try dsimp only at hSx); go_split_ands; go_simp; (try with_reducible rfl)
       simp only [sA, List.set_cons_zero, sC]
       refine tkA 15 24 10 ?_ rfl rfl ?_ hSw ?_
       rotate_left
       ·intro wx hSx; (try dsimp only at hSx); go_split_ands; go_simp; (try with_reducible rfl)
       simp only [sA, List.set_cons_zero, sC]
       refine rdA 9 13 rfl fun K hK => ?_
       go_simp
       refine Calls.mono (f0 _ hSw.2.2.2.2) ?_
       rintro e wv ⟨rfl, hwv⟩
       refine hK.out _ _ (Wr.all hwv) (fun hSw => ?_)
       clear hK K
       simp only [sA, List.set_cons_zero, sC]
       refine tkA 16 25 8 ?_ rfl rfl ?_ hSw ?_
       rotate_left
       ·intro wx hSx; (try dsimp only at hSx); go_split_ands; go_simp; (try with_reducible rfl)
       simp only [sA, List.set_cons_zero, sC]
       refine tkA 17 26 7 ?_ rfl rfl ?_ hSw ?_
       rotate_left
       ·intro wx hSx; (try dsimp only at hSx); go_split_ands; go_simp; (try with_reducible rfl)
       simp only [sA, List.set_cons_zero, sC]
       refine tkA 18 27 6 ?_ rfl rfl ?_ hSw ?_
       rotate_left
       ·intro wx hSx; (try dsimp only at hSx); go_split_ands; go_simp; (try with_reducible rfl)
       simp only [sA, List.set_cons_zero, sC]
       refine tkA 19 28 5 ?_ rfl rfl ?_ hSw ?_
       rotate_left
       ·intro wx hSx; (try dsimp only at hSx); go_split_ands; go_simp; (try with_reducible rfl)
       simp only [sA, List.set_cons_zero, sC]
       refine take_at 20 29 undef (fuel := 4) rfl rfl (by kernel_rfl) (by kernel_rfl) (by kernel_rfl) (Or.inr ⟨by rfl, rfl⟩) hSw ?_
       simp only [sA, List.set_cons_zero, sC]
       refine take_at 21 30 undef (fuel := 3) rfl rfl (by kernel_rfl) (by kernel_rfl) (by kernel_rfl) (Or.inr ⟨by rfl, rfl⟩) hSw ?_
       simp only [sA, List.set_cons_zero, sC]
       refine take_at 22 31 undef (fuel := 2) rfl rfl (by kernel_rfl) (by kernel_rfl) (by kernel_rfl) (Or.inr ⟨by rfl, rfl⟩) hSw ?_
       simp only [sA, List.set_cons_zero, sC]
       refine tkA 23 32 1 ?_ rfl rfl ?_ hSw ?_
       rotate_left
       ·intro wx hSx; (try dsimp only at hSx); go_split_ands; go_simp; (try with_reducible rfl)
       simp only [sA, List.set_cons_zero, sC]
       refine tkA 24 33 0 ?_ rfl rfl ?_ hSw ?_
       rotate_left
       ·intro wx hSx; (try dsimp only at hSx); go_split_ands; go_simp; (try with_reducible rfl)
       simp only [sA, List.set_cons_zero, sC]
       refine wpAnyH_done (by kernel_rfl) ⟨rfl, ?_⟩ 0
       have hZ := hSw.2.2.2.2
       clear hSw
       go_wp2_with fail
       go_meet
       exact ⟨by rw [ho], hZ⟩
      ·have d2 : ((v.len 0 : Int) == (v.tgt : Int)) = false := beq_eq_false_iff_ne.2 (by omega)
       have ho : v.once true = false := by simp [Av.once, n1, n2, n3]
       clear n2
       refine region_only 25 #[false, false, false, false, false, false, false, false, false, false, false, false, false, false, false, false, false, false, false, false, false, false, false, false, false] (S := (fun W => W.cell? ⟨w.heap.size, 0, none⟩ = some (.int .i64 v.most) ∧ W.cell? ⟨w.heap.size, 1, none⟩ = some (.int .i64 v.tgt) ∧ W.cell? ⟨w.heap.size, 2, none⟩ = some (.slice (some ⟨G, 0, none⟩) 4 4) ∧ W.cell? ⟨w.heap.size, 3, none⟩ = some (.int .i64 v.pl) ∧ Wr w G vs v G vs W)) rfl rfl (by kernel_rfl) (Wr.all (h2.drewN 1)) (fun hSw => ?_)
       refine tkA 0 9 24 ?_ rfl rfl ?_ hSw ?_
       rotate_left
       ·intro wx hSx; (try dsimp only at hSx); go_split_ands; go_simp; (try with_reducible rfl)
       simp only [sA, List.set_cons_zero, sC]
       refine rdA 23 1 rfl fun K hK => ?_
       go_simp
       refine Calls.mono (f0 _ hSw.2.2.2.2) ?_
       rintro e wv ⟨rfl, hwv⟩
       refine hK.out _ _ (Wr.all hwv) (fun hSw => ?_)
       clear hK K
       simp only [sA, List.set_cons_zero, sC]
       refine tkA 2 11 22 ?_ rfl rfl ?_ hSw ?_
       rotate_left
       ·intro wx hSx; (try dsimp only at hSx); go_split_ands; go_simp; (try with_reducible rfl)
       simp only [sA, List.set_cons_zero, sC]
       refine tkA 3 12 21 ?_ rfl rfl ?_ hSw ?_
       rotate_left
       ·intro wx hSx; (try dsimp only at hSx); go_split_ands; go_simp; (try with_reducible rfl)
       simp only [sA, List.set_cons_zero, sC]
       refine tkA 4 13 20 ?_ rfl rfl ?_ hSw ?_
       rotate_left
       ·intro wx hSx; (try dsimp only at hSx); go_split_ands; go_simp; (try with_reducible rfl)
       simp only [sA, List.set_cons_zero, sC]
       refine tkA 6 15 19 ?_ rfl rfl ?_ hSw ?_
       rotate_left
       ·intro wx hSx; (try dsimp only at hSx); go_split_ands; go_simp; (try with_reducible rfl)
       simp only [sA, List.set_cons_zero, sC]
       refine tkA 7 16 18 ?_ rfl rfl ?_ hSw ?_
       rotate_left
       ·intro wx hSx; (try dsimp only at hSx); go_split_ands; go_simp; (try with_reducible rfl)
       simp only [sA, List.set_cons_zero, sC]
       refine rdA 17 5 rfl fun K hK => ?_
       go_simp
       refine Calls.mono (f0 _ hSw.2.2.2.2) ?_
       rintro e wv ⟨rfl, hwv⟩
       refine hK.out _ _ (Wr.all hwv) (fun hSw => ?_)
       clear hK K
       simp only [sA, List.set_cons_zero, sC]
       refine tkA 8 17 16 ?_ rfl rfl ?_ hSw ?_
       rotate_left
       ·intro wx hSx; (try dsimp only at hSx); go_split_ands; go_simp; (try with_reducible rfl)
       simp only [sA, List.set_cons_zero, sC]
       refine tkA 9 18 15 ?_ rfl rfl ?_ hSw ?_
       rotate_left
       ·intro wx hSx; (try dsimp only at hSx); go_split_ands; go_simp; (try with_reducible rfl)
       simp only [sA, List.set_cons_zero, sC]
       refine tkA 10 19 14 ?_ rfl rfl ?_ hSw ?_
       rotate_left
       ·intro wx hSx; (try dsimp only at hSx); go_split_ands; go_simp; (try with_reducible rfl)
       simp only [sA, List.set_cons_zero, sC]
       refine tkA 11 20 13 ?_ rfl rfl ?_ hSw ?_
       rotate_left
       ·intro wx hSx; (try dsimp only at hSx); go_split_ands; go_simp; (try with_reducible rfl)
       simp only [sA, List.set_cons_zero, sC]
       refine tkA 12 21 12 ?_ rfl rfl ?_ hSw ?_
       rotate_left
       ·intro wx hSx; (try dsimp only at hSx); go_split_ands; go_simp; (try with_reducible rfl)
       simp only [sA, List.set_cons_zero, sC]
       refine tkA 14 23 11 ?_ rfl rfl ?_ hSw ?_
       rotate_left
       ·intro wx hSx; (try dsimp only at hSx); go_split_ands; go_simp; (try with_reducible rfl)
       simp only [sA, List.set_cons_zero, sC]
       refine tkA 15 24 10 ?_ rfl rfl ?_ hSw ?_
       rotate_left
       ·intro wx hSx; (try dsimp only at hSx); go_split_ands; go_simp; (try with_reducible rfl)
       simp only [sA, List.set_cons_zero, sC]
       refine rdA 9 13 rfl fun K hK => ?_
       go_simp
       refine Calls.mono (f0 _ hSw.2.2.2.2) ?_
       rintro e wv ⟨rfl, hwv⟩
       refine hK.out _ _ (Wr.all hwv) (fun hSw => ?_)
       clear hK K
       simp only [sA, List.set_cons_zero, sC]
       refine tkA 16 25 8 ?_ rfl rfl ?_ hSw ?_
       rotate_left
       ·intro wx hSx; (try dsimp only at hSx); go_split_ands; go_simp; (try with_reducible rfl)
       simp only [sA, List.set_cons_zero, sC]
       refine tkA 17 26 7 ?_ rfl rfl ?_ hSw ?_
       rotate_left
       ·intro wx hSx; (try dsimp only at hSx); go_split_ands; go_simp; (try with_reducible rfl)
       simp only [sA, List.set_cons_zero, sC]
       refine tkA 18 27 6 ?_ rfl rfl ?_ hSw ?_
       rotate_left
       ·intro wx hSx; (try dsimp only at hSx); go_split_ands; go_simp; (try with_reducible rfl)
       simp only [sA, List.set_cons_zero, sC]
       refine tkA 19 28 5 ?_ rfl rfl ?_ hSw ?_
       rotate_left
       ·intro wx hSx; (try dsimp only at hSx); go_split_ands; go_simp; (try with_reducible rfl)
       simp only [sA, List.set_cons_zero, sC]
       refine tkA 20 29 4 ?_ rfl rfl ?_ hSw ?_
       rotate_left
       ·intro wx hSx; (try dsimp only at hSx); go_split_ands; go_simp; (try with_reducible rfl)
       simp only [sA, List.set_cons_zero, sC]
       refine rdA 3 21 rfl fun K hK => ?_
       go_simp
       refine Calls.mono (f1 _ hSw.2.2.2.2) ?_
       rintro e wv ⟨rfl, hwv⟩
       refine hK.out _ _ (Wr.all hwv) (fun hSw => ?_)
       clear hK K
       simp only [sA, List.set_cons_zero, sC]
       refine tkA 22 31 2 ?_ rfl rfl ?_ hSw ?_
       rotate_left
       ·intro wx hSx; (try dsimp only at hSx); go_split_ands; go_simp; (try with_reducible rfl)
       simp only [sA, List.set_cons_zero, sC]
       refine tkA 23 32 1 ?_ rfl rfl ?_ hSw ?_
       rotate_left
       ·intro wx hSx; (try dsimp only at hSx); go_split_ands; go_simp; (try with_reducible rfl)
       simp only [sA, List.set_cons_zero, sC]
       refine tkA 24 33 0 ?_ rfl rfl ?_ hSw ?_
       rotate_left
       ·intro wx hSx; (try dsimp only at hSx); go_split_ands; go_simp; (try with_reducible rfl)
       simp only [sA, List.set_cons_zero, sC]
       refine wpAnyH_done (by kernel_rfl) ⟨rfl, ?_⟩ 0
       have hZ := hSw.2.2.2.2
       clear hSw
       go_wp2_with fail
       go_meet
       exact ⟨by rw [ho], hZ⟩
  ·have d0 : decide ((0 : Int) < (v.len 0 : Int)) = false := decide_eq_false (by omega)
   have ho : v.once b = false := by simp [Av.once, n0]
   refine region_only 25 #[false, false, false, false, false, false, false, false, false, false, false, false, false, false, false, false, false, false, false, false, false, false, false, false, false] (S := (fun W => W.cell? ⟨w.heap.size, 0, none⟩ = some (.int .i64 v.most) ∧ W.cell? ⟨w.heap.size, 1, none⟩ = some (.int .i64 v.tgt) ∧ W.cell? ⟨w.heap.size, 2, none⟩ = some (.slice (some ⟨G, 0, none⟩) 4 4) ∧ W.cell? ⟨w.heap.size, 3, none⟩ = some (.int .i64 v.pl) ∧ Wr w G vs v G vs W)) rfl rfl (by kernel_rfl) (Wr.all (h2.drewN 1)) (fun hSw => ?_)
   refine tkA 0 9 24 ?_ rfl rfl ?_ hSw ?_
   rotate_left
   ·intro wx hSx; (try dsimp only at hSx); go_split_ands; go_simp; (try with_reducible rfl)
   simp only [sA, List.set_cons_zero, sC]
   refine rdA 23 1 rfl fun K hK => ?_
   go_simp
   refine Calls.mono (f0 _ hSw.2.2.2.2) ?_
   rintro e wv ⟨rfl, hwv⟩
   refine hK.out _ _ (Wr.all hwv) (fun hSw => ?_)
   clear hK K
   simp only [sA, List.set_cons_zero, sC]
   refine tkA 2 11 22 ?_ rfl rfl ?_ hSw ?_
   rotate_left
   ·intro wx hSx; (try dsimp only at hSx); go_split_ands; go_simp; (try with_reducible rfl)
   simp only [sA, List.set_cons_zero, sC]
   refine tkA 3 12 21 ?_ rfl rfl ?_ hSw ?_
   rotate_left
   ·intro wx hSx; (try dsimp only at hSx); go_split_ands; go_simp; (try with_reducible rfl)
   simp only [sA, List.set_cons_zero, sC]
   refine take_at 4 13 undef (fuel := 20) rfl rfl (by kernel_rfl) (by kernel_rfl) (by kernel_rfl) (Or.inr ⟨by rfl, rfl⟩) hSw ?_
   simp only [sA, List.set_cons_zero, sC]
   refine take_at 5 14 undef (fuel := 19) rfl rfl (by kernel_rfl) (by kernel_rfl) (by kernel_rfl) (Or.inr ⟨by rfl, rfl⟩) hSw ?_
   simp only [sA, List.set_cons_zero, sC]
   refine take_at 6 15 undef (fuel := 18) rfl rfl (by kernel_rfl) (by kernel_rfl) (by kernel_rfl) (Or.inr ⟨by rfl, rfl⟩) hSw ?_
   simp only [sA, List.set_cons_zero, sC]
   refine take_at 7 16 undef (fuel := 17) rfl rfl (by kernel_rfl) (by kernel_rfl) (by kernel_rfl) (Or.inr ⟨by rfl, rfl⟩) hSw ?_
   simp only [sA, List.set_cons_zero, sC]
   refine take_at 8 17 undef (fuel := 16) rfl rfl (by kernel_rfl) (by kernel_rfl) (by kernel_rfl) (Or.inr ⟨by rfl, rfl⟩) hSw ?_
   simp only [sA, List.set_cons_zero, sC]
   refine take_at 9 18 undef (fuel := 15) rfl rfl (by kernel_rfl) (by kernel_rfl) (by kernel_rfl) (Or.inr ⟨by rfl, rfl⟩) hSw ?_
   simp only [sA, List.set_cons_zero, sC]
   refine take_at 10 19 undef (fuel := 14) rfl rfl (by kernel_rfl) (by kernel_rfl) (by kernel_rfl) (Or.inr ⟨by rfl, rfl⟩) hSw ?_
   simp only [sA, List.set_cons_zero, sC]
   refine take_at 11 20 undef (fuel := 13) rfl rfl (by kernel_rfl) (by kernel_rfl) (by kernel_rfl) (Or.inr ⟨by rfl, rfl⟩) hSw ?_
   simp only [sA, List.set_cons_zero, sC]
   refine take_at 12 21 undef (fuel := 12) rfl rfl (by kernel_rfl) (by kernel_rfl) (by kernel_rfl) (Or.inr ⟨by rfl, rfl⟩) hSw ?_
   simp only [sA, List.set_cons_zero, sC]
   refine take_at 13 22 undef (fuel := 11) rfl rfl (by kernel_rfl) (by kernel_rfl) (by kernel_rfl) (Or.inr ⟨by rfl, rfl⟩) hSw ?_
   simp only [sA, List.set_cons_zero, sC]
   refine take_at 14 23 undef (fuel := 10) rfl rfl (by kernel_rfl) (by kernel_rfl) (by kernel_rfl) (Or.inr ⟨by rfl, rfl⟩) hSw ?_
   simp only [sA, List.set_cons_zero, sC]
   refine take_at 15 24 undef (fuel := 9) rfl rfl (by kernel_rfl) (by kernel_rfl) (by kernel_rfl) (Or.inr ⟨by rfl, rfl⟩) hSw ?_
   simp only [sA, List.set_cons_zero, sC]
   refine take_at 16 25 undef (fuel := 8) rfl rfl (by kernel_rfl) (by kernel_rfl) (by kernel_rfl) (Or.inr ⟨by rfl, rfl⟩) hSw ?_
   simp only [sA, List.set_cons_zero, sC]
   refine take_at 17 26 undef (fuel := 7) rfl rfl (by kernel_rfl) (by kernel_rfl) (by kernel_rfl) (Or.inr ⟨by rfl, rfl⟩) hSw ?_
   simp only [sA, List.set_cons_zero, sC]
   refine take_at 18 27 undef (fuel := 6) rfl rfl (by kernel_rfl) (by kernel_rfl) (by kernel_rfl) (Or.inr ⟨by rfl, rfl⟩) hSw ?_
   simp only [sA, List.set_cons_zero, sC]
   refine take_at 19 28 undef (fuel := 5) rfl rfl (by kernel_rfl) (by kernel_rfl) (by kernel_rfl) (Or.inr ⟨by rfl, rfl⟩) hSw ?_
   simp only [sA, List.set_cons_zero, sC]
   refine take_at 20 29 undef (fuel := 4) rfl rfl (by kernel_rfl) (by kernel_rfl) (by kernel_rfl) (Or.inr ⟨by rfl, rfl⟩) hSw ?_
   simp only [sA, List.set_cons_zero, sC]
   refine take_at 21 30 undef (fuel := 3) rfl rfl (by kernel_rfl) (by kernel_rfl) (by kernel_rfl) (Or.inr ⟨by rfl, rfl⟩) hSw ?_
   simp only [sA, List.set_cons_zero, sC]
   refine take_at 22 31 undef (fuel := 2) rfl rfl (by kernel_rfl) (by kernel_rfl) (by kernel_rfl) (Or.inr ⟨by rfl, rfl⟩) hSw ?_
   simp only [sA, List.set_cons_zero, sC]
   refine take_at 23 32 undef (fuel := 1) rfl rfl (by kernel_rfl) (by kernel_rfl) (by kernel_rfl) (Or.inr ⟨by rfl, rfl⟩) hSw ?_
   simp only [sA, List.set_cons_zero, sC]
   refine tkA 24 33 0 ?_ rfl rfl ?_ hSw ?_
   rotate_left
   ·intro wx hSx; (try dsimp only at hSx); go_split_ands; go_simp; (try with_reducible rfl)
   simp only [sA, List.set_cons_zero, sC]
   refine wpAnyH_done (by kernel_rfl) ⟨rfl, ?_⟩ 0
   have hZ := hSw.2.2.2.2
   clear hSw
   go_wp2_with fail
   go_meet
   exact ⟨by rw [ho], hZ⟩
 case rest =>
  obtain ⟨rfl, h3⟩ := hcut
  clear f0 f1 h2
  obtain ⟨x0, x1, x2, x3, -⟩ := h3.cells
  cases ho : v.once b with
  | true =>
   have hs : v.src b = 0 := by unfold Av.src; rw [if_pos ho]
   have hbk := ring_backA (a := 0) (i := 0) rfl (by omega) hok wc h3.go.rf
   cases el : v.last 0 with
   | none =>
    rw [el] at hbk
    simp only [Option.getD_none, Option.isSome_none] at hbk
    have hrp : v.repl b = v := by unfold Av.repl; rw [hs, el]
    go_wp2_with fail
    refine hbk.mono ?_
    rintro e w4 ⟨rfl, hb4⟩
    have h4 := h3.onto hb4
    clear x0 x1 x2 x3 h3 hbk hb4
    obtain ⟨x0, x1, x2, x3, -⟩ := h4.cells
    obtain ⟨z0, z1, z2, z3, z4, z5, z6, z7⟩ := h4.zero
    obtain ⟨hG, p0, p1, p2, p3⟩ := (show Goes w G vs v G vs (putA w w4 v.most v.tgt G v.pl) ∧ (putA w w4 v.most v.tgt G v.pl).cell? ⟨w.heap.size + 1, 0, none⟩ = some (.int .i64 v.most) ∧ (putA w w4 v.most v.tgt G v.pl).cell? ⟨w.heap.size + 1, 1, none⟩ = some (.int .i64 v.tgt) ∧ (putA w w4 v.most v.tgt G v.pl).cell? ⟨w.heap.size + 1, 2, none⟩ = some (.slice (some ⟨G, 0, none⟩) 4 4) ∧ (putA w w4 v.most v.tgt G v.pl).cell? ⟨w.heap.size + 1, 3, none⟩ = some (.int .i64 v.pl) from h4.done hok)
    unfold putA at hG p0 p1 p2 p3
    have HG := Lib.hid hG
    have HP0 := Lib.hid p0
    have HP1 := Lib.hid p1
    have HP2 := Lib.hid p2
    have HP3 := Lib.hid p3
    clear hG p0 p1 p2 p3
    go_wp2_with fail
    have p0 := HP0.out
    have p1 := HP1.out
    have p2 := HP2.out
    have p3 := HP3.out
    have hG := HG.out
    clear HP0 HP1 HP2 HP3 HG
    generalize ((((w4.setCell ⟨w.heap.size + 1, 0, none⟩ (.int .i64 v.most)).setCell ⟨w.heap.size + 1, 1, none⟩ (.int .i64 v.tgt)).setCell ⟨w.heap.size + 1, 2, none⟩ (.slice (some ⟨G, 0, none⟩) 4 4)).setCell ⟨w.heap.size + 1, 3, none⟩ (.int .i64 v.pl)) = w9 at *
    (try simp only [Exit.inBlock, Exit.then])
    refine bodyPost_ret (v := .tuple #[.agg #[.int .i64 v.most, .int .i64 v.tgt, .slice (some ⟨G, 0, none⟩) 4 4, .int .i64 v.pl], .slice none 0 0]) (by simp [results, Tryz.results85, go_sem, p0, p1, p2, p3]) rfl ?_
    exact ⟨G, vs, .slice none 0 0, rfl, by rw [hrp]; exact hG, by rw [hs, el]; exact World.ownsRow_nil _ _ _ _⟩
   | some k =>
    rw [el] at hbk
    simp only [Option.getD_some, Option.isSome_some] at hbk
    have hrp : v.repl b = v.fr 2 k := by unfold Av.repl; rw [hs, el]
    have hm := Av.last_mem el
    have hv : (v.fr 2 k).Ok := (Av.move_went hok (by omega) hm).ok
    have hfc := fun W (h : Dat W v G vs) => rfront_a (a := 2) (j := 2) rfl (by omega) (hok.klen (by omega) hm) hf hv W h
    go_wp2_with fail
    refine hbk.mono ?_
    rintro e w4 ⟨rfl, hb4⟩
    have h4 := h3.onto hb4
    clear x0 x1 x2 x3 h3 hbk hb4
    obtain ⟨x0, x1, x2, x3, -⟩ := h4.cells
    go_wp2_with fail
    refine (hfc _ h4.go.rf).mono ?_
    rintro e w5 ⟨G', vs', rfl, hg⟩
    have hg6 := hg.onto ((Below.refl _ w5).alloc (Nat.le_refl _) (.cells #[.string (str k)] 9))
    have h6 := h4.onto hg6.below
    have hrow := row_put (w := w) (m := v.most) (t := v.tgt) (G := G') (p := v.pl) (row_lit (B := w.heap.size + 2) w5 (by have := h4.res.lt; have := hg.below.size; omega) k) (Nat.le_refl _)
    unfold putA at hrow
    have HROW := Lib.hid hrow
    have hR := h4.fin (v' := v.fr 2 k) hv hg6
    clear x0 x1 x2 x3 hfc hg hrow hg6 h4
    obtain ⟨z0, z1, z2, z3, z4, z5, z6, z7⟩ := h6.zero
    clear h6
    obtain ⟨hG, p0, p1, p2, p3⟩ := (show Goes w G vs (v.fr 2 k) G' vs' (putA w (w5.alloc (.cells #[.string (str k)] 9)) v.most v.tgt G' v.pl) ∧ (putA w (w5.alloc (.cells #[.string (str k)] 9)) v.most v.tgt G' v.pl).cell? ⟨w.heap.size + 1, 0, none⟩ = some (.int .i64 v.most) ∧ (putA w (w5.alloc (.cells #[.string (str k)] 9)) v.most v.tgt G' v.pl).cell? ⟨w.heap.size + 1, 1, none⟩ = some (.int .i64 v.tgt) ∧ (putA w (w5.alloc (.cells #[.string (str k)] 9)) v.most v.tgt G' v.pl).cell? ⟨w.heap.size + 1, 2, none⟩ = some (.slice (some ⟨G', 0, none⟩) 4 4) ∧ (putA w (w5.alloc (.cells #[.string (str k)] 9)) v.most v.tgt G' v.pl).cell? ⟨w.heap.size + 1, 3, none⟩ = some (.int .i64 v.pl) from hR)
    unfold putA at hG p0 p1 p2 p3
    have HG := Lib.hid hG
    have HP0 := Lib.hid p0
    have HP1 := Lib.hid p1
    have HP2 := Lib.hid p2
    have HP3 := Lib.hid p3
    clear hG p0 p1 p2 p3
    go_wp2_with fail
    have p0 := HP0.out
    have p1 := HP1.out
    have p2 := HP2.out
    have p3 := HP3.out
    have hG := HG.out
    clear HP0 HP1 HP2 HP3 HG
    generalize (((((w5.alloc (.cells #[.string (str k)] 9)).setCell ⟨w.heap.size + 1, 0, none⟩ (.int .i64 v.most)).setCell ⟨w.heap.size + 1, 1, none⟩ (.int .i64 v.tgt)).setCell ⟨w.heap.size + 1, 2, none⟩ (.slice (some ⟨G', 0, none⟩) 4 4)).setCell ⟨w.heap.size + 1, 3, none⟩ (.int .i64 v.pl)) = w9 at *
    (try simp only [Exit.inBlock, Exit.then])
    refine bodyPost_ret (v := .tuple #[.agg #[.int .i64 v.most, .int .i64 v.tgt, .slice (some ⟨G', 0, none⟩) 4 4, .int .i64 v.pl], .slice (some ⟨w5.heap.size, 0, none⟩) 1 1]) (by simp [results, Tryz.results85, go_sem, p0, p1, p2, p3]) rfl ?_
    exact ⟨G', vs', _, rfl, by rw [hrp]; exact hG, by rw [hs, el]; exact Ringy.own_mono HROW.out (by omega)⟩
  | false =>
   have hs : v.src b = 1 := by unfold Av.src; rw [if_neg (by rw [ho]; decide)]
   have hbk := ring_backA (a := 1) (i := 1) rfl (by omega) hok wc h3.go.rf
   cases el : v.last 1 with
   | none =>
    rw [el] at hbk
    simp only [Option.getD_none, Option.isSome_none] at hbk
    have hrp : v.repl b = v := by unfold Av.repl; rw [hs, el]
    go_wp2_with fail
    refine hbk.mono ?_
    rintro e w4 ⟨rfl, hb4⟩
    have h4 := h3.onto hb4
    clear x0 x1 x2 x3 h3 hbk hb4
    obtain ⟨x0, x1, x2, x3, -⟩ := h4.cells
    obtain ⟨z0, z1, z2, z3, z4, z5, z6, z7⟩ := h4.zero
    obtain ⟨hG, p0, p1, p2, p3⟩ := (show Goes w G vs v G vs (putA w w4 v.most v.tgt G v.pl) ∧ (putA w w4 v.most v.tgt G v.pl).cell? ⟨w.heap.size + 1, 0, none⟩ = some (.int .i64 v.most) ∧ (putA w w4 v.most v.tgt G v.pl).cell? ⟨w.heap.size + 1, 1, none⟩ = some (.int .i64 v.tgt) ∧ (putA w w4 v.most v.tgt G v.pl).cell? ⟨w.heap.size + 1, 2, none⟩ = some (.slice (some ⟨G, 0, none⟩) 4 4) ∧ (putA w w4 v.most v.tgt G v.pl).cell? ⟨w.heap.size + 1, 3, none⟩ = some (.int .i64 v.pl) from h4.done hok)
    unfold putA at hG p0 p1 p2 p3
    have HG := Lib.hid hG
    have HP0 := Lib.hid p0
    have HP1 := Lib.hid p1
    have HP2 := Lib.hid p2
    have HP3 := Lib.hid p3
    clear hG p0 p1 p2 p3
    go_wp2_with fail
    have p0 := HP0.out
    have p1 := HP1.out
    have p2 := HP2.out
    have p3 := HP3.out
    have hG := HG.out
    clear HP0 HP1 HP2 HP3 HG
    generalize ((((w4.setCell ⟨w.heap.size + 1, 0, none⟩ (.int .i64 v.most)).setCell ⟨w.heap.size + 1, 1, none⟩ (.int .i64 v.tgt)).setCell ⟨w.heap.size + 1, 2, none⟩ (.slice (some ⟨G, 0, none⟩) 4 4)).setCell ⟨w.heap.size + 1, 3, none⟩ (.int .i64 v.pl)) = w9 at *
    (try simp only [Exit.inBlock, Exit.then])
    refine bodyPost_ret (v := .tuple #[.agg #[.int .i64 v.most, .int .i64 v.tgt, .slice (some ⟨G, 0, none⟩) 4 4, .int .i64 v.pl], .slice none 0 0]) (by simp [results, Tryz.results85, go_sem, p0, p1, p2, p3]) rfl ?_
    exact ⟨G, vs, .slice none 0 0, rfl, by rw [hrp]; exact hG, by rw [hs, el]; exact World.ownsRow_nil _ _ _ _⟩
   | some k =>
    rw [el] at hbk
    simp only [Option.getD_some, Option.isSome_some] at hbk
    have hrp : v.repl b = v.fr 3 k := by unfold Av.repl; rw [hs, el]
    have hm := Av.last_mem el
    have hv : (v.fr 3 k).Ok := (Av.move_went hok (by omega) hm).ok
    have hfc := fun W (h : Dat W v G vs) => rfront_a (a := 3) (j := 3) rfl (by omega) (hok.klen (by omega) hm) hf hv W h
    go_wp2_with fail
    refine hbk.mono ?_
    rintro e w4 ⟨rfl, hb4⟩
    have h4 := h3.onto hb4
    clear x0 x1 x2 x3 h3 hbk hb4
    obtain ⟨x0, x1, x2, x3, -⟩ := h4.cells
    go_wp2_with fail
    refine (hfc _ h4.go.rf).mono ?_
    rintro e w5 ⟨G', vs', rfl, hg⟩
    have hg6 := hg.onto ((Below.refl _ w5).alloc (Nat.le_refl _) (.cells #[.string (str k)] 9))
    have h6 := h4.onto hg6.below
    have hrow := row_put (w := w) (m := v.most) (t := v.tgt) (G := G') (p := v.pl) (row_lit (B := w.heap.size + 2) w5 (by have := h4.res.lt; have := hg.below.size; omega) k) (Nat.le_refl _)
    unfold putA at hrow
    have HROW := Lib.hid hrow
    have hR := h4.fin (v' := v.fr 3 k) hv hg6
    clear x0 x1 x2 x3 hfc hg hrow hg6 h4
    obtain ⟨z0, z1, z2, z3, z4, z5, z6, z7⟩ := h6.zero
    clear h6
    obtain ⟨hG, p0, p1, p2, p3⟩ := (show Goes w G vs (v.fr 3 k) G' vs' (putA w (w5.alloc (.cells #[.string (str k)] 9)) v.most v.tgt G' v.pl) ∧ (putA w (w5.alloc (.cells #[.string (str k)] 9)) v.most v.tgt G' v.pl).cell? ⟨w.heap.size + 1, 0, none⟩ = some (.int .i64 v.most) ∧ (putA w (w5.alloc (.cells #[.string (str k)] 9)) v.most v.tgt G' v.pl).cell? ⟨w.heap.size + 1, 1, none⟩ = some (.int .i64 v.tgt) ∧ (putA w (w5.alloc (.cells #[.string (str k)] 9)) v.most v.tgt G' v.pl).cell? ⟨w.heap.size + 1, 2, none⟩ = some (.slice (some ⟨G', 0, none⟩) 4 4) ∧ (putA w (w5.alloc (.cells #[.string (str k)] 9)) v.most v.tgt G' v.pl).cell? ⟨w.heap.size + 1, 3, none⟩ = some (.int .i64 v.pl) from hR)
    unfold putA at hG p0 p1 p2 p3
    have HG := Lib.hid hG
    have HP0 := Lib.hid p0
    have HP1 := Lib.hid p1
    have HP2 := Lib.hid p2
    have HP3 := Lib.hid p3
    clear hG p0 p1 p2 p3
    go_wp2_with fail
    have p0 := HP0.out
    have p1 := HP1.out
    have p2 := HP2.out
    have p3 := HP3.out
    have hG := HG.out
    clear HP0 HP1 HP2 HP3 HG
    generalize (((((w5.alloc (.cells #[.string (str k)] 9)).setCell ⟨w.heap.size + 1, 0, none⟩ (.int .i64 v.most)).setCell ⟨w.heap.size + 1, 1, none⟩ (.int .i64 v.tgt)).setCell ⟨w.heap.size + 1, 2, none⟩ (.slice (some ⟨G', 0, none⟩) 4 4)).setCell ⟨w.heap.size + 1, 3, none⟩ (.int .i64 v.pl)) = w9 at *
    (try simp only [Exit.inBlock, Exit.then])
    refine bodyPost_ret (v := .tuple #[.agg #[.int .i64 v.most, .int .i64 v.tgt, .slice (some ⟨G', 0, none⟩) 4 4, .int .i64 v.pl], .slice (some ⟨w5.heap.size, 0, none⟩) 1 1]) (by simp [results, Tryz.results85, go_sem, p0, p1, p2, p3]) rfl ?_
    exact ⟨G', vs', _, rfl, by rw [hrp]; exact hG, by rw [hs, el]; exact Ringy.own_mono HROW.out (by omega)⟩
end
end Go.Proofs.YtncgfnocokippaaGreat.Arcy
