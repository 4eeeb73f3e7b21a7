/- The document's own Tiny: what asks it, missing, removing, evicting, making one, its bytes. The only condition: it is as chapter 8 has it. -/
import Derived.Test.YtncgfnocokippaaGreatTinyRefDo
import Derived.Test.YtncgfnocokippaaGreatRingRoundAll
import Derived.Test.YtncgfnocokippaaGreatSq
namespace Go.Proofs.YtncgfnocokippaaGreat.Tinyy
open Go.ChangeShapes Go.WideShapes Go.ChangeAt Go.RowKit Go.Shelf
open Wirey (Blk Row str str_size str_list str_cat Kp enc)
open Ringy Go.ChangeMaps Go.Maps
open Sketchy (Sk ksOf ksOf_lt Six)

section
variable {w x y : World} {v v' v'' : Tv} {a a' a'' : Ad} {k : Key} {j K : Nat}
set_option maxHeartbeats 4000000 in
set_option maxRecDepth 100000 in
theorem rhas_c (hok : v.Fine) (w : World) (h : Dt w v a) :
  Calls Tryz.prog 37 #[.agg #[.int .i64 v.most, .int .i64 v.sk.wide, .int .u64 v.sk.seed, .slice (some ⟨a.R, 0, none⟩) 4 a.c, .slice (some ⟨a.D, 0, none⟩) v.sk.wide v.sk.wide, .int .i64 v.sk.added, .slice (some ⟨a.G, 0, none⟩) 3 3, .int .i64 v.pl], .string (str k)] w fun e w' => e = .returned (.bool (v.has k)) ∧ Below w.heap.size w w' := by
 have h1 := Wk.new1 h hok.fit.n
 have hin := fun (W : World) (hW : Dt W v a) => d_in hok k W hW
 have HV := Lib.hid (show (v.at_ k).isSome = v.has k from rfl)
 generalize (v.at_ k).isSome = b at *
 generalize (v.at_ k).getD 0 = i at *
 clear hok h
 go_enter Tryz.func37, Tryz.ntmps37
 go_upto_region 1 with (fail)
 generalize w.alloc (.cells #[.int .i64 v.most, .int .i64 v.sk.wide, .int .u64 v.sk.seed, .slice (some ⟨a.R, 0, none⟩) 4 a.c, .slice (some ⟨a.D, 0, none⟩) v.sk.wide v.sk.wide, .int .i64 v.sk.added, .slice (some ⟨a.G, 0, none⟩) 3 3, .int .i64 v.pl] 38) = w1 at *
 obtain ⟨x0, x1, x2, x3, x4, x5, x6, x7⟩ := h1.all
 go_wp2_with fail
 refine (hin _ h1.d).mono ?_
 rintro e w2 ⟨rfl, hb⟩
 clear x0 x1 x2 x3 x4 x5 x6 x7
 have h2 := h1.onto hb
 clear h1 hb
 obtain ⟨x0, x1, x2, x3, x4, x5, x6, x7⟩ := h2.all
 go_wp2_with fail
 go_ret
 exact ⟨by rw [← HV.out]; rfl, h2.below⟩
set_option maxHeartbeats 4000000 in
set_option maxRecDepth 100000 in
theorem rlen_c (hok : v.Fine) (w : World) (h : Dt w v a) :
  Calls Tryz.prog 35 #[.agg #[.int .i64 v.most, .int .i64 v.sk.wide, .int .u64 v.sk.seed, .slice (some ⟨a.R, 0, none⟩) 4 a.c, .slice (some ⟨a.D, 0, none⟩) v.sk.wide v.sk.wide, .int .i64 v.sk.added, .slice (some ⟨a.G, 0, none⟩) 3 3, .int .i64 v.pl]] w fun e w' => e = .returned (.int .i64 v.kept) ∧ Below w.heap.size w w' := by
 have h1 := Wk.new1 h hok.fit.n
 have hin := fun (W : World) (hW : Dt W v a) => d_many hok W hW
 clear hok h
 go_enter Tryz.func35, Tryz.ntmps35
 go_upto_region 1 with (fail)
 generalize w.alloc (.cells #[.int .i64 v.most, .int .i64 v.sk.wide, .int .u64 v.sk.seed, .slice (some ⟨a.R, 0, none⟩) 4 a.c, .slice (some ⟨a.D, 0, none⟩) v.sk.wide v.sk.wide, .int .i64 v.sk.added, .slice (some ⟨a.G, 0, none⟩) 3 3, .int .i64 v.pl] 38) = w1 at *
 obtain ⟨x0, x1, x2, x3, x4, x5, x6, x7⟩ := h1.all
 go_wp2_with fail
 refine (hin _ h1.d).mono ?_
 rintro e w2 ⟨rfl, hb⟩
 clear x0 x1 x2 x3 x4 x5 x6 x7
 have h2 := h1.onto hb
 clear h1 hb
 obtain ⟨x0, x1, x2, x3, x4, x5, x6, x7⟩ := h2.all
 go_wp2_with fail
 go_ret
 exact ⟨rfl, h2.below⟩
set_option maxHeartbeats 4000000 in
set_option maxRecDepth 100000 in
theorem rremove_c (hok : v.Fine) (w : World) (h : Dt w v a) :
  Calls Tryz.prog 57 #[.agg #[.int .i64 v.most, .int .i64 v.sk.wide, .int .u64 v.sk.seed, .slice (some ⟨a.R, 0, none⟩) 4 a.c, .slice (some ⟨a.D, 0, none⟩) v.sk.wide v.sk.wide, .int .i64 v.sk.added, .slice (some ⟨a.G, 0, none⟩) 3 3, .int .i64 v.pl], .string (str k)] w fun e w' => ∃ a', e = .returned (.tuple #[.agg #[.int .i64 ((v.dr k).most : Int), .int .i64 ((v.dr k).sk.wide : Int), .int .u64 ((v.dr k).sk.seed : Int), .slice (some ⟨a'.R, 0, none⟩) 4 a'.c, .slice (some ⟨a'.D, 0, none⟩) (v.dr k).sk.wide (v.dr k).sk.wide, .int .i64 ((v.dr k).sk.added : Int), .slice (some ⟨a'.G, 0, none⟩) 3 3, .int .i64 ((v.dr k).pl : Int)], .bool (v.has k)]) ∧ Goes w a (v.dr k) a' w' := by
 have h1 := Wk.new2 h hok.fit.n
 have hr1 := Blk.new (w.alloc (.cells #[.int .i64 v.most, .int .i64 v.sk.wide, .int .u64 v.sk.seed, .slice (some ⟨a.R, 0, none⟩) 4 a.c, .slice (some ⟨a.D, 0, none⟩) v.sk.wide v.sk.wide, .int .i64 v.sk.added, .slice (some ⟨a.G, 0, none⟩) 3 3, .int .i64 v.pl] 38)) 38 #[.int .i64 0, .int .i64 0, .int .u64 0, .slice none 0 0, .slice none 0 0, .int .i64 0, .slice none 0 0, .int .i64 0]
 rw [show (w.alloc (.cells #[.int .i64 v.most, .int .i64 v.sk.wide, .int .u64 v.sk.seed, .slice (some ⟨a.R, 0, none⟩) 4 a.c, .slice (some ⟨a.D, 0, none⟩) v.sk.wide v.sk.wide, .int .i64 v.sk.added, .slice (some ⟨a.G, 0, none⟩) 3 3, .int .i64 v.pl] 38)).heap.size = w.heap.size + 1 by simp] at hr1
 have hha := fun (W : World) (hW : Dt W v a) => rhas_c (k := k) hok W hW
 have hdr := fun (W : World) (hW : Dt W v a) => d_drop hok k W hW
 have HN2 := Lib.hid (show (v.dr k).rg.n = 3 from hok.fit.n)
 have HM2 := Lib.hid (show (v.dr k).most = v.most from rfl)
 have HS2 := Lib.hid (show (v.dr k).sk = v.sk from rfl)
 generalize v.dr k = v2 at *
 generalize v.has k = b at *
 clear hok h
 go_enter Tryz.func57, Tryz.ntmps57
 go_upto_region 1 with (fail)
 generalize (w.alloc (.cells #[.int .i64 v.most, .int .i64 v.sk.wide, .int .u64 v.sk.seed, .slice (some ⟨a.R, 0, none⟩) 4 a.c, .slice (some ⟨a.D, 0, none⟩) v.sk.wide v.sk.wide, .int .i64 v.sk.added, .slice (some ⟨a.G, 0, none⟩) 3 3, .int .i64 v.pl] 38)).alloc (.cells #[.int .i64 0, .int .i64 0, .int .u64 0, .slice none 0 0, .slice none 0 0, .int .i64 0, .slice none 0 0, .int .i64 0] 38) = w1 at *
 obtain ⟨x0, x1, x2, x3, x4, x5, x6, x7⟩ := h1.all
 go_wp2_with fail
 refine (hha _ h1.d).mono ?_
 rintro e w2 ⟨rfl, hb⟩
 clear x0 x1 x2 x3 x4 x5 x6 x7
 have h2 := h1.onto hb
 have hr2 := hr1.below hb hr1.lt
 clear hr1
 clear h1 hb
 obtain ⟨x0, x1, x2, x3, x4, x5, x6, x7⟩ := h2.all
 go_wp2_with fail
 refine (hdr _ h2.d).mono ?_
 rintro e w3 ⟨a2, rfl, e1, e2, e3, hg⟩
 clear x0 x1 x2 x3 x4 x5 x6 x7
 have hbx := h2.box.below hg.below h2.box.lt
 have y6 := hbx.cell 6
 have f6 := hbx.free 6
 have y7 := hbx.cell 7
 have f7 := hbx.free 7
 simp only [gA, gB, gC] at y6 y7
 go_upto_region 3 with (fail)
 clear y6 f6 y7 f7
 have h4 := h2.lists hg HN2.out HM2.out HS2.out ⟨e1, e2, e3⟩
 rw [pl_of HM2.out] at h4
 have hr4 : Blk ((w3.setCell ⟨w.heap.size, 6, none⟩ (.slice (some ⟨a2.G, 0, none⟩) 3 3)).setCell ⟨w.heap.size, 7, none⟩ (.int .i64 v.pl)) (w.heap.size + 1) 38 #[.int .i64 0, .int .i64 0, .int .u64 0, .slice none 0 0, .slice none 0 0, .int .i64 0, .slice none 0 0, .int .i64 0] := (far2 _ (by omega) _ _).trans (hr2.below hg.below hr2.lt)
 clear hr2
 generalize ((w3.setCell ⟨w.heap.size, 6, none⟩ (.slice (some ⟨a2.G, 0, none⟩) 3 3)).setCell ⟨w.heap.size, 7, none⟩ (.int .i64 v.pl)) = w4 at *
 clear h2 hbx hg e1 e2 e3
 obtain ⟨x0, x1, x2, x3, x4, x5, x6, x7⟩ := h4.all
 have z0 := hr4.cell 0
 have f0 := hr4.free 0
 have z1 := hr4.cell 1
 have f1 := hr4.free 1
 have z2 := hr4.cell 2
 have f2 := hr4.free 2
 have z3 := hr4.cell 3
 have f3 := hr4.free 3
 have z4 := hr4.cell 4
 have f4 := hr4.free 4
 have z5 := hr4.cell 5
 have f5 := hr4.free 5
 have z6 := hr4.cell 6
 have f6 := hr4.free 6
 have z7 := hr4.cell 7
 have f7 := hr4.free 7
 simp only [gA, gB, gC] at z0 z1 z2 z3 z4 z5 z6 z7
 go_wp2_with fail
 obtain ⟨hG, hB⟩ := res_goes h4 (Goes.refl h4.d) HN2.out (b := w.heap.size + 1) (by omega) (by omega) hr4
 refine bodyPost_ret (results_row_tmp rfl _ _ (w.heap.size + 1) rfl (run_loadVar_row _ _ _ _ _ _ _ hB Tryz.underlying38 rfl (by kernel_rfl))) rfl ⟨a2, rfl, hG⟩
set_option maxHeartbeats 4000000 in
set_option maxRecDepth 100000 in
theorem rmiss_c (hok : v.Fine) (hk : k.length ≤ maxLen) (w : World) (h : Dt w v a) :
  Calls Tryz.prog 60 #[.agg #[.int .i64 v.most, .int .i64 v.sk.wide, .int .u64 v.sk.seed, .slice (some ⟨a.R, 0, none⟩) 4 a.c, .slice (some ⟨a.D, 0, none⟩) v.sk.wide v.sk.wide, .int .i64 v.sk.added, .slice (some ⟨a.G, 0, none⟩) 3 3, .int .i64 v.pl], .string (str k)] w fun e w' => ∃ a', e = .returned (.agg #[.int .i64 ((v.miss k).most : Int), .int .i64 ((v.miss k).sk.wide : Int), .int .u64 ((v.miss k).sk.seed : Int), .slice (some ⟨a'.R, 0, none⟩) 4 a'.c, .slice (some ⟨a'.D, 0, none⟩) (v.miss k).sk.wide (v.miss k).sk.wide, .int .i64 ((v.miss k).sk.added : Int), .slice (some ⟨a'.G, 0, none⟩) 3 3, .int .i64 ((v.miss k).pl : Int)]) ∧ Goes w a (v.miss k) a' w' := by
 have h1 := Wk.new2 h hok.fit.n
 have hr1 := Blk.new (w.alloc (.cells #[.int .i64 v.most, .int .i64 v.sk.wide, .int .u64 v.sk.seed, .slice (some ⟨a.R, 0, none⟩) 4 a.c, .slice (some ⟨a.D, 0, none⟩) v.sk.wide v.sk.wide, .int .i64 v.sk.added, .slice (some ⟨a.G, 0, none⟩) 3 3, .int .i64 v.pl] 38)) 38 #[.int .i64 0, .int .i64 0, .int .u64 0, .slice none 0 0, .slice none 0 0, .int .i64 0, .slice none 0 0, .int .i64 0]
 rw [show (w.alloc (.cells #[.int .i64 v.most, .int .i64 v.sk.wide, .int .u64 v.sk.seed, .slice (some ⟨a.R, 0, none⟩) 4 a.c, .slice (some ⟨a.D, 0, none⟩) v.sk.wide v.sk.wide, .int .i64 v.sk.added, .slice (some ⟨a.G, 0, none⟩) 3 3, .int .i64 v.pl] 38)).heap.size = w.heap.size + 1 by simp] at hr1
 have hsz := str_size k
 unfold maxLen at hk
 by_cases hl : 64 < k.length
 ·have hv : v.miss k = v := if_pos hl
  rw [hv]
  have d1 : decide ((k.length : Int) ≤ 64) = false := decide_eq_false (by omega)
  have HN := Lib.hid hok.fit.n
  clear hok h hv
  go_enter Tryz.func60, Tryz.ntmps60
  go_upto_region 1 with (fail)
  generalize (w.alloc (.cells #[.int .i64 v.most, .int .i64 v.sk.wide, .int .u64 v.sk.seed, .slice (some ⟨a.R, 0, none⟩) 4 a.c, .slice (some ⟨a.D, 0, none⟩) v.sk.wide v.sk.wide, .int .i64 v.sk.added, .slice (some ⟨a.G, 0, none⟩) 3 3, .int .i64 v.pl] 38)).alloc (.cells #[.int .i64 0, .int .i64 0, .int .u64 0, .slice none 0 0, .slice none 0 0, .int .i64 0, .slice none 0 0, .int .i64 0] 38) = w1 at *
  obtain ⟨x0, x1, x2, x3, x4, x5, x6, x7⟩ := h1.all
  clear x0 x1 x2 x3 x4 x5 x6 x7
  go_upto_region 3 with (fail)
  obtain ⟨x0, x1, x2, x3, x4, x5, x6, x7⟩ := h1.all
  have z0 := hr1.cell 0
  have f0 := hr1.free 0
  have z1 := hr1.cell 1
  have f1 := hr1.free 1
  have z2 := hr1.cell 2
  have f2 := hr1.free 2
  have z3 := hr1.cell 3
  have f3 := hr1.free 3
  have z4 := hr1.cell 4
  have f4 := hr1.free 4
  have z5 := hr1.cell 5
  have f5 := hr1.free 5
  have z6 := hr1.cell 6
  have f6 := hr1.free 6
  have z7 := hr1.cell 7
  have f7 := hr1.free 7
  simp only [gA, gB, gC] at z0 z1 z2 z3 z4 z5 z6 z7
  go_wp2_with fail
  obtain ⟨hG, hB⟩ := res_goes h1 (Goes.refl h1.d) HN.out (b := w.heap.size + 1) (by omega) (by omega) hr1
  refine bodyPost_ret (results_cell_row rfl _ _ (w.heap.size + 1) 38 _ _ _ rfl hB Tryz.underlying38 rfl (by kernel_rfl)) rfl ⟨a, rfl, hG⟩
 ·have hv : v.miss k = v.note k := if_neg hl
  rw [hv]
  have d1 : decide ((k.length : Int) ≤ 64) = true := decide_eq_true (by omega)
  have hadd := fun (W : World) (hW : Dt W v a) => d_add (k := k) hok (by omega) W hW
  have HN1 := Lib.hid (hok.note k).fit.n
  have HM1 := Lib.hid (show (v.note k).most = v.most from rfl)
  generalize v.note k = v1 at *
  clear hok h hv
  go_enter Tryz.func60, Tryz.ntmps60
  go_upto_region 1 with (fail)
  generalize (w.alloc (.cells #[.int .i64 v.most, .int .i64 v.sk.wide, .int .u64 v.sk.seed, .slice (some ⟨a.R, 0, none⟩) 4 a.c, .slice (some ⟨a.D, 0, none⟩) v.sk.wide v.sk.wide, .int .i64 v.sk.added, .slice (some ⟨a.G, 0, none⟩) 3 3, .int .i64 v.pl] 38)).alloc (.cells #[.int .i64 0, .int .i64 0, .int .u64 0, .slice none 0 0, .slice none 0 0, .int .i64 0, .slice none 0 0, .int .i64 0] 38) = w1 at *
  obtain ⟨x0, x1, x2, x3, x4, x5, x6, x7⟩ := h1.all
  go_wp2_with fail
  refine (hadd _ h1.d).mono ?_
  rintro e w2 ⟨a1, rfl, eG, hg⟩
  clear x0 x1 x2 x3 x4 x5 x6 x7
  have hbx := h1.box.below hg.below h1.box.lt
  have y1 := hbx.cell 1
  have f1 := hbx.free 1
  have y2 := hbx.cell 2
  have f2 := hbx.free 2
  have y3 := hbx.cell 3
  have f3 := hbx.free 3
  have y4 := hbx.cell 4
  have f4 := hbx.free 4
  have y5 := hbx.cell 5
  have f5 := hbx.free 5
  simp only [gA, gB, gC] at y1 y2 y3 y4 y5
  go_upto_region 3 with (fail)
  clear y1 f1 y2 f2 y3 f3 y4 f4 y5 f5
  have h3 := h1.sketch hg HN1.out HM1.out eG
  have hr3 : Blk (((((w2.setCell ⟨w.heap.size, 1, none⟩ (.int .i64 v1.sk.wide)).setCell ⟨w.heap.size, 2, none⟩ (.int .u64 v1.sk.seed)).setCell ⟨w.heap.size, 3, none⟩ (.slice (some ⟨a1.R, 0, none⟩) 4 a1.c)).setCell ⟨w.heap.size, 4, none⟩ (.slice (some ⟨a1.D, 0, none⟩) v1.sk.wide v1.sk.wide)).setCell ⟨w.heap.size, 5, none⟩ (.int .i64 v1.sk.added)) (w.heap.size + 1) 38 #[.int .i64 0, .int .i64 0, .int .u64 0, .slice none 0 0, .slice none 0 0, .int .i64 0, .slice none 0 0, .int .i64 0] := (far5 _ (by omega) _ _ _ _ _).trans (hr1.below hg.below hr1.lt)
  clear hr1
  generalize (((((w2.setCell ⟨w.heap.size, 1, none⟩ (.int .i64 v1.sk.wide)).setCell ⟨w.heap.size, 2, none⟩ (.int .u64 v1.sk.seed)).setCell ⟨w.heap.size, 3, none⟩ (.slice (some ⟨a1.R, 0, none⟩) 4 a1.c)).setCell ⟨w.heap.size, 4, none⟩ (.slice (some ⟨a1.D, 0, none⟩) v1.sk.wide v1.sk.wide)).setCell ⟨w.heap.size, 5, none⟩ (.int .i64 v1.sk.added)) = w3 at *
  clear h1 hbx hg eG
  obtain ⟨x0, x1, x2, x3, x4, x5, x6, x7⟩ := h3.all
  have z0 := hr3.cell 0
  have f0 := hr3.free 0
  have z1 := hr3.cell 1
  have f1 := hr3.free 1
  have z2 := hr3.cell 2
  have f2 := hr3.free 2
  have z3 := hr3.cell 3
  have f3 := hr3.free 3
  have z4 := hr3.cell 4
  have f4 := hr3.free 4
  have z5 := hr3.cell 5
  have f5 := hr3.free 5
  have z6 := hr3.cell 6
  have f6 := hr3.free 6
  have z7 := hr3.cell 7
  have f7 := hr3.free 7
  simp only [gA, gB, gC] at z0 z1 z2 z3 z4 z5 z6 z7
  go_wp2_with fail
  obtain ⟨hG, hB⟩ := res_goes h3 (Goes.refl h3.d) HN1.out (b := w.heap.size + 1) (by omega) (by omega) hr3
  refine bodyPost_ret (results_cell_row rfl _ _ (w.heap.size + 1) 38 _ _ _ rfl hB Tryz.underlying38 rfl (by kernel_rfl)) rfl ⟨a1, rfl, hG⟩
theorem rwide_c {n : Nat} (hn : n ≤ 1000) (W : World) :
  Calls Tryz.prog 53 #[.int .i64 n] W fun e w' => e = .returned (.int .i64 (wideOf n : Int)) ∧ W = w' := by
 have hw : wideOf n = min (8 * n) 4096 := rfl
 have HW := Lib.hid hw
 clear hw
 generalize wideOf n = z at *
 by_cases hl : 512 < n
 ·have d1 : decide ((512 : Int) < (n : Int)) = true := decide_eq_true (by omega)
  have q : (z : Int) = 4096 := by have := HW.out; omega
  have HQ := Lib.hid q
  clear q
  go_enter Tryz.func53, Tryz.ntmps53
  go_wp2_with fail
  go_ret
  exact ⟨by rw [HQ.out]; rfl, rfl⟩
 ·have d1 : decide ((512 : Int) < (n : Int)) = false := decide_eq_false (by omega)
  have q : (z : Int) = 8 * (n : Int) := by have := HW.out; omega
  have HQ := Lib.hid q
  clear q
  go_enter Tryz.func53, Tryz.ntmps53
  go_wp2_with fail
  go_ret
  exact ⟨by rw [HQ.out]; rfl, rfl⟩
theorem Tv.new_fine {n seed : Nat} (h1 : 1 ≤ n) (h2 : n ≤ 1000) (h3 : seed < 18446744073709551616) : (Tv.new n seed).Fine := ⟨(Tv.new_ok h1 h2 h3).fit, fun _ _ => rfl⟩
set_option maxHeartbeats 4000000 in
set_option maxRecDepth 100000 in
theorem rnewT_c {n seed : Nat} (h1 : 1 ≤ n) (h2 : n ≤ 1000) (h3 : seed < 18446744073709551616) (w : World) :
  Calls Tryz.prog 27 #[.int .i64 n, .int .u64 seed] w fun e w' => ∃ a, e = .returned (.agg #[.int .i64 ((Tv.new n seed).most : Int), .int .i64 ((Tv.new n seed).sk.wide : Int), .int .u64 ((Tv.new n seed).sk.seed : Int), .slice (some ⟨a.R, 0, none⟩) 4 a.c, .slice (some ⟨a.D, 0, none⟩) (Tv.new n seed).sk.wide (Tv.new n seed).sk.wide, .int .i64 ((Tv.new n seed).sk.added : Int), .slice (some ⟨a.G, 0, none⟩) 3 3, .int .i64 ((Tv.new n seed).pl : Int)]) ∧ Dt w' (Tv.new n seed) a ∧ (∀ q, a.has q → w.heap.size < q) ∧ Below w.heap.size w w' := by
 have hwd := wideOf_le h1
 have hok := Tv.new_fine h1 h2 h3
 have hb1 := (Below.refl _ w).alloc (Nat.le_refl _) (.cells #[.int .i64 0, .int .i64 0, .int .u64 0, .slice none 0 0, .slice none 0 0, .int .i64 0, .slice none 0 0, .int .i64 0] 38)
 have hr1 := Blk.new w 38 #[.int .i64 0, .int .i64 0, .int .u64 0, .slice none 0 0, .slice none 0 0, .int .i64 0, .slice none 0 0, .int .i64 0]
 have hz1 : (w.alloc (.cells #[.int .i64 0, .int .i64 0, .int .u64 0, .slice none 0 0, .slice none 0 0, .int .i64 0, .slice none 0 0, .int .i64 0] 38)).heap.size = w.heap.size + 1 := by simp
 have hwi := fun W => rwide_c (n := n) h2 W
 have hs := fun W => Sketchy.rnew_c (n := wideOf n) (seed := seed) hwd.2 W
 have hN := fun W => Ringy.rnew_c (n := 3) (places := n + 1) (by omega) W
 go_enter Tryz.func27, Tryz.ntmps27
 go_upto_region 1 with (fail)
 generalize w.alloc (.cells #[.int .i64 0, .int .i64 0, .int .u64 0, .slice none 0 0, .slice none 0 0, .int .i64 0, .slice none 0 0, .int .i64 0] 38) = w1 at *
 go_wp2_with fail
 refine (hwi _).mono ?_
 rintro e w' ⟨rfl, rfl⟩
 go_wp2_with fail
 refine (hs _).mono ?_
 rintro e w2 ⟨R, c, D, Gs, rfl, hS, hA, hb2⟩
 have HZ := Lib.hid hz1
 clear hz1
 unfold Sketchy.refV
 go_wp2_with fail
 refine (hN _).mono ?_
 rintro e w3 ⟨G, vs, rfl, hR, hb3⟩
 unfold Ringy.refV
 have hb23 := hb2.trans (hb3.mono hb2.size)
 have hr3 := hr1.below hb23 hr1.lt
 have hd3 : Dt w3 (Tv.new n seed) ⟨R, c, D, Gs, G, vs⟩ := ⟨hS.below hb3 (Nat.le_refl _), ⟨hR.blk, hR.row, fun h => h, fun _ _ _ _ h => h⟩⟩
 have hnew : ∀ q, (⟨R, c, D, Gs, G, vs⟩ : Ad).has q → w.heap.size < q := fun q hq => by
  have hz := HZ.out
  have hz2 := hb2.size
  rcases hq with (e | e | ⟨i, hi, e⟩) | (e | ⟨i, hi, hg⟩)
  ·have e : q = R := e; have := hA.hR; omega
  ·have e : q = D := e; have := hA.hD; omega
  ·have e : q = Gs i := e; have := hA.hG i hi; omega
  ·have e : q = G := e; have := Nat.le_of_not_lt hR.noG; omega
  ·have := Nat.le_of_not_lt (hR.noR i q hi hg); omega
 have HB := Lib.hid (hb1.trans (hb23.mono hb1.size))
 clear hb1 hb2 hb3 hb23 hr1 hS hA hR hwi hs hN
 have z0 := hr3.cell 0
 have f0 := hr3.free 0
 have z1 := hr3.cell 1
 have f1 := hr3.free 1
 have z2 := hr3.cell 2
 have f2 := hr3.free 2
 have z3 := hr3.cell 3
 have f3 := hr3.free 3
 have z4 := hr3.cell 4
 have f4 := hr3.free 4
 have z5 := hr3.cell 5
 have f5 := hr3.free 5
 have z6 := hr3.cell 6
 have f6 := hr3.free 6
 have z7 := hr3.cell 7
 have f7 := hr3.free 7
 simp only [gA, gB, gC] at z0 z1 z2 z3 z4 z5 z6 z7
 go_wp2_with fail
 have hB := blk8 hr3 (.int .i64 n) (.int .i64 (wideOf n : Int)) (.int .u64 seed) (.slice (some ⟨R, 0, none⟩) 4 c) (.slice (some ⟨D, 0, none⟩) (wideOf n) (wideOf n)) (.int .i64 0) (.slice (some ⟨G, 0, none⟩) 3 3) (.int .i64 ((n : Int) + 1))
 refine bodyPost_ret (results_cell_row rfl _ _ w.heap.size 38 _ _ _ rfl hB Tryz.underlying38 rfl (by kernel_rfl)) rfl ⟨⟨R, c, D, Gs, G, vs⟩, rfl, hd3.stay rfl (by simp only [set_size]; exact Nat.le_refl _) (fun q hq => far8 _ (by have := hnew q hq; omega) _ _ _ _ _ _ _ _), hnew, ⟨by simp only [set_os]; exact HB.out.os, by simp only [set_tape]; exact HB.out.tape, by simp only [set_out]; exact HB.out.output, by simp only [set_size]; exact HB.out.size, fun q hq => (far8 _ (by omega) _ _ _ _ _ _ _ _).trans (HB.out.block q hq)⟩⟩
end
end Go.Proofs.YtncgfnocokippaaGreat.Tinyy
