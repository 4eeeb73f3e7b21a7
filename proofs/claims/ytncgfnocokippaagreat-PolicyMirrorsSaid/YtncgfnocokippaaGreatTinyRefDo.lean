/- The document's own Tiny: what its methods make of it: a key to a list's front, touching, missing, removing, evicting. The only condition: it is as chapter 8 has it. -/
import Derived.Test.YtncgfnocokippaaGreatTinyRef
import Derived.Test.YtncgfnocokippaaGreatSq
namespace Go.Proofs.YtncgfnocokippaaGreat.Tinyy
open Go.ChangeShapes Go.WideShapes Go.ChangeAt Go.RowKit Go.Shelf
open Wirey (Blk Row str str_size str_list Kp)
open Ringy Go.ChangeMaps Go.Maps
open Sketchy (Sk ksOf ksOf_lt Six)

section
variable {w x y : World} {v v' v'' : Tv} {a a' a'' : Ad} {k : Key} {j K : Nat}
theorem pl_of (h : v'.most = v.most) : v'.pl = v.pl := by unfold Tv.pl; rw [h]
set_option maxHeartbeats 2000000 in
set_option maxRecDepth 100000 in
theorem rfr_c {jj : Int} (hjj : jj = (j : Int)) (hok : v.Fine) (hj : j < 3) (hk : k.length ≤ 64) (hc : v.can k) (w : World) (h : Dt w v a) :
  Calls Tryz.prog 81 #[.agg #[.int .i64 v.most, .int .i64 v.sk.wide, .int .u64 v.sk.seed, .slice (some ⟨a.R, 0, none⟩) 4 a.c, .slice (some ⟨a.D, 0, none⟩) v.sk.wide v.sk.wide, .int .i64 v.sk.added, .slice (some ⟨a.G, 0, none⟩) 3 3, .int .i64 v.pl], .int .i64 jj, .string (str k)] w fun e w' => ∃ a', e = .returned (.agg #[.int .i64 ((v.fr j k).most : Int), .int .i64 ((v.fr j k).sk.wide : Int), .int .u64 ((v.fr j k).sk.seed : Int), .slice (some ⟨a'.R, 0, none⟩) 4 a'.c, .slice (some ⟨a'.D, 0, none⟩) (v.fr j k).sk.wide (v.fr j k).sk.wide, .int .i64 ((v.fr j k).sk.added : Int), .slice (some ⟨a'.G, 0, none⟩) 3 3, .int .i64 ((v.fr j k).pl : Int)]) ∧ Goes w a (v.fr j k) a' w' := by
 subst hjj
 have h1 := Wk.new2 h hok.fit.n
 have hr := Blk.new (w.alloc (.cells #[.int .i64 v.most, .int .i64 v.sk.wide, .int .u64 v.sk.seed, .slice (some ⟨a.R, 0, none⟩) 4 a.c, .slice (some ⟨a.D, 0, none⟩) v.sk.wide v.sk.wide, .int .i64 v.sk.added, .slice (some ⟨a.G, 0, none⟩) 3 3, .int .i64 v.pl] 38)) 38 #[.int .i64 0, .int .i64 0, .int .u64 0, .slice none 0 0, .slice none 0 0, .int .i64 0, .slice none 0 0, .int .i64 0]
 rw [show (w.alloc (.cells #[.int .i64 v.most, .int .i64 v.sk.wide, .int .u64 v.sk.seed, .slice (some ⟨a.R, 0, none⟩) 4 a.c, .slice (some ⟨a.D, 0, none⟩) v.sk.wide v.sk.wide, .int .i64 v.sk.added, .slice (some ⟨a.G, 0, none⟩) 3 3, .int .i64 v.pl] 38)).heap.size = w.heap.size + 1 by simp] at hr
 have hfr := fun (W : World) (hW : Dt W v a) => d_front hok hj hk hc W hW
 have HN := Lib.hid (show (v.fr j k).rg.n = 3 from hok.fit.n)
 have HM := Lib.hid (show (v.fr j k).most = v.most from rfl)
 have HS := Lib.hid (show (v.fr j k).sk = v.sk from rfl)
 generalize v.fr j k = v2 at *
 clear hok hc h
 go_enter Tryz.func81, Tryz.ntmps81
 go_upto_region 1 with (fail)
 generalize (w.alloc (.cells #[.int .i64 v.most, .int .i64 v.sk.wide, .int .u64 v.sk.seed, .slice (some ⟨a.R, 0, none⟩) 4 a.c, .slice (some ⟨a.D, 0, none⟩) v.sk.wide v.sk.wide, .int .i64 v.sk.added, .slice (some ⟨a.G, 0, none⟩) 3 3, .int .i64 v.pl] 38)).alloc (.cells #[.int .i64 0, .int .i64 0, .int .u64 0, .slice none 0 0, .slice none 0 0, .int .i64 0, .slice none 0 0, .int .i64 0] 38) = w1 at *
 obtain ⟨x0, x1, x2, x3, x4, x5, x6, x7⟩ := h1.all
 go_wp2_with fail
 refine (hfr _ h1.d).mono ?_
 rintro e w2 ⟨a', rfl, e1, e2, e3, hg⟩
 have hb2 := h1.box.below hg.below h1.box.lt
 have y6 := hb2.cell 6
 have y7 := hb2.cell 7
 have f6 := hb2.free 6
 have f7 := hb2.free 7
 simp only [gA, gB, gC] at y6 y7
 go_upto_region 2 with (fail)
 have hr2 := hr.below hg.below hr.lt
 have h3 := h1.lists hg HN.out HM.out HS.out ⟨e1, e2, e3⟩
 rw [pl_of HM.out] at h3
 have hr3 : Blk ((w2.setCell ⟨w.heap.size, 6, none⟩ (.slice (some ⟨a'.G, 0, none⟩) 3 3)).setCell ⟨w.heap.size, 7, none⟩ (.int .i64 v.pl)) (w.heap.size + 1) 38 #[.int .i64 0, .int .i64 0, .int .u64 0, .slice none 0 0, .slice none 0 0, .int .i64 0, .slice none 0 0, .int .i64 0] := (far2 _ (by omega) _ _).trans hr2
 generalize (w2.setCell ⟨w.heap.size, 6, none⟩ (.slice (some ⟨a'.G, 0, none⟩) 3 3)).setCell ⟨w.heap.size, 7, none⟩ (.int .i64 v.pl) = w3 at *
 clear x0 x1 x2 x3 x4 x5 x6 x7 y6 y7 f6 f7 hb2 hr2 hg h1 hr e1 e2 e3 hfr
 obtain ⟨x0, x1, x2, x3, x4, x5, x6, x7⟩ := h3.all
 have z0 := hr3.cell 0
 have z1 := hr3.cell 1
 have z2 := hr3.cell 2
 have z3 := hr3.cell 3
 have z4 := hr3.cell 4
 have z5 := hr3.cell 5
 have z6 := hr3.cell 6
 have z7 := hr3.cell 7
 have f0 := hr3.free 0
 have f1 := hr3.free 1
 have f2 := hr3.free 2
 have f3 := hr3.free 3
 have f4 := hr3.free 4
 have f5 := hr3.free 5
 have f6 := hr3.free 6
 have f7 := hr3.free 7
 simp only [gA, gB, gC] at z0 z1 z2 z3 z4 z5 z6 z7
 go_wp2_with fail
 obtain ⟨hG, hB⟩ := res_goes h3 (Goes.refl h3.d) HN.out (b := w.heap.size + 1) (by omega) (by omega) hr3
 refine bodyPost_ret (results_cell_row rfl _ _ (w.heap.size + 1) 38 _ _ _ rfl hB Tryz.underlying38 rfl (by kernel_rfl)) rfl ⟨a', rfl, hG⟩
theorem results_row_tmp {fn : Func} {p t : Tmp} {ty : TypeId} {P : Program} (h : fn.results = #[.cell p ty, .tmp t]) (tmps : Array Value) (w : World) (g : Nat) {cs : Array Value}
  (hp : tmps.getD p undef = .pointer (some ⟨g, 0, none⟩)) (hl : (loadVar ty ⟨g, 0, none⟩).run P w = .ok (.agg cs) w) :
  (results fn tmps).run P w = .ok (.tuple #[.agg cs, tmps.getD t undef]) w := by
 have hp' : tmps[p]?.getD undef = .pointer (some ⟨g, 0, none⟩) := by simpa using hp
 simp [results, h, hp', asAddr, Result.andThen, hl]
theorem results_row_tmp2 {fn : Func} {p t u : Tmp} {ty : TypeId} {P : Program} (h : fn.results = #[.cell p ty, .tmp t, .tmp u]) (tmps : Array Value) (w : World) (g : Nat) {cs : Array Value}
  (hp : tmps.getD p undef = .pointer (some ⟨g, 0, none⟩)) (hl : (loadVar ty ⟨g, 0, none⟩).run P w = .ok (.agg cs) w) :
  (results fn tmps).run P w = .ok (.tuple #[.agg cs, tmps.getD t undef, tmps.getD u undef]) w := by
 have hp' : tmps[p]?.getD undef = .pointer (some ⟨g, 0, none⟩) := by simpa using hp
 simp [results, h, hp', asAddr, Result.andThen, hl]
set_option maxHeartbeats 4000000 in
set_option maxRecDepth 100000 in
theorem rtouch_none (hok : v.Fine) (e : v.at_ k = none) (w : World) (h : Dt w v a) :
  Calls Tryz.prog 55 #[.agg #[.int .i64 v.most, .int .i64 v.sk.wide, .int .u64 v.sk.seed, .slice (some ⟨a.R, 0, none⟩) 4 a.c, .slice (some ⟨a.D, 0, none⟩) v.sk.wide v.sk.wide, .int .i64 v.sk.added, .slice (some ⟨a.G, 0, none⟩) 3 3, .int .i64 v.pl], .string (str k)] w fun e w' => ∃ a', e = .returned (.tuple #[.agg #[.int .i64 v.most, .int .i64 v.sk.wide, .int .u64 v.sk.seed, .slice (some ⟨a'.R, 0, none⟩) 4 a'.c, .slice (some ⟨a'.D, 0, none⟩) v.sk.wide v.sk.wide, .int .i64 v.sk.added, .slice (some ⟨a'.G, 0, none⟩) 3 3, .int .i64 v.pl], .bool false]) ∧ Goes w a v a' w' := by
 have h1 := Wk.new2 h hok.fit.n
 have hr1 := Blk.new (w.alloc (.cells #[.int .i64 v.most, .int .i64 v.sk.wide, .int .u64 v.sk.seed, .slice (some ⟨a.R, 0, none⟩) 4 a.c, .slice (some ⟨a.D, 0, none⟩) v.sk.wide v.sk.wide, .int .i64 v.sk.added, .slice (some ⟨a.G, 0, none⟩) 3 3, .int .i64 v.pl] 38)) 38 #[.int .i64 0, .int .i64 0, .int .u64 0, .slice none 0 0, .slice none 0 0, .int .i64 0, .slice none 0 0, .int .i64 0]
 rw [show (w.alloc (.cells #[.int .i64 v.most, .int .i64 v.sk.wide, .int .u64 v.sk.seed, .slice (some ⟨a.R, 0, none⟩) 4 a.c, .slice (some ⟨a.D, 0, none⟩) v.sk.wide v.sk.wide, .int .i64 v.sk.added, .slice (some ⟨a.G, 0, none⟩) 3 3, .int .i64 v.pl] 38)).heap.size = w.heap.size + 1 by simp] at hr1
 have hin := fun (W : World) (hW : Dt W v a) => d_in hok k W hW
 simp only [e, Option.getD_none, Option.isSome_none] at hin
 have HN := Lib.hid hok.fit.n
 clear hok h e
 go_enter Tryz.func55, Tryz.ntmps55
 go_upto_region 1 with (fail)
 generalize (w.alloc (.cells #[.int .i64 v.most, .int .i64 v.sk.wide, .int .u64 v.sk.seed, .slice (some ⟨a.R, 0, none⟩) 4 a.c, .slice (some ⟨a.D, 0, none⟩) v.sk.wide v.sk.wide, .int .i64 v.sk.added, .slice (some ⟨a.G, 0, none⟩) 3 3, .int .i64 v.pl] 38)).alloc (.cells #[.int .i64 0, .int .i64 0, .int .u64 0, .slice none 0 0, .slice none 0 0, .int .i64 0, .slice none 0 0, .int .i64 0] 38) = w1 at *
 obtain ⟨x0, x1, x2, x3, x4, x5, x6, x7⟩ := h1.all
 go_wp2_with fail
 refine (hin _ h1.d).mono ?_
 rintro e w2 ⟨rfl, hb⟩
 clear x0 x1 x2 x3 x4 x5 x6 x7
 have h2 := h1.onto hb
 have hr2 := hr1.below hb hr1.lt
 clear hr1
 clear h1 hb
 obtain ⟨x0, x1, x2, x3, x4, x5, x6, x7⟩ := h2.all
 have z0 := hr2.cell 0
 have f0 := hr2.free 0
 have z1 := hr2.cell 1
 have f1 := hr2.free 1
 have z2 := hr2.cell 2
 have f2 := hr2.free 2
 have z3 := hr2.cell 3
 have f3 := hr2.free 3
 have z4 := hr2.cell 4
 have f4 := hr2.free 4
 have z5 := hr2.cell 5
 have f5 := hr2.free 5
 have z6 := hr2.cell 6
 have f6 := hr2.free 6
 have z7 := hr2.cell 7
 have f7 := hr2.free 7
 simp only [gA, gB, gC] at z0 z1 z2 z3 z4 z5 z6 z7
 go_wp2_with fail
 obtain ⟨hG, hB⟩ := res_goes h2 (Goes.refl h2.d) HN.out (b := w.heap.size + 1) (by omega) (by omega) hr2
 refine bodyPost_ret (results_row_tmp rfl _ _ (w.heap.size + 1) rfl (run_loadVar_row _ _ _ _ _ _ _ hB Tryz.underlying38 rfl (by kernel_rfl))) rfl ⟨a, rfl, hG⟩
set_option maxHeartbeats 4000000 in
set_option maxRecDepth 100000 in
theorem rtouch_win (hok : v.Fine) (e : v.at_ k = some 0) (w : World) (h : Dt w v a) :
  Calls Tryz.prog 55 #[.agg #[.int .i64 v.most, .int .i64 v.sk.wide, .int .u64 v.sk.seed, .slice (some ⟨a.R, 0, none⟩) 4 a.c, .slice (some ⟨a.D, 0, none⟩) v.sk.wide v.sk.wide, .int .i64 v.sk.added, .slice (some ⟨a.G, 0, none⟩) 3 3, .int .i64 v.pl], .string (str k)] w fun e w' => ∃ a', e = .returned (.tuple #[.agg #[.int .i64 (((v.note k).fr 0 k).most : Int), .int .i64 (((v.note k).fr 0 k).sk.wide : Int), .int .u64 (((v.note k).fr 0 k).sk.seed : Int), .slice (some ⟨a'.R, 0, none⟩) 4 a'.c, .slice (some ⟨a'.D, 0, none⟩) ((v.note k).fr 0 k).sk.wide ((v.note k).fr 0 k).sk.wide, .int .i64 (((v.note k).fr 0 k).sk.added : Int), .slice (some ⟨a'.G, 0, none⟩) 3 3, .int .i64 (((v.note k).fr 0 k).pl : Int)], .bool true]) ∧ Goes w a ((v.note k).fr 0 k) a' w' := by
 have h1 := Wk.new2 h hok.fit.n
 have hr1 := Blk.new (w.alloc (.cells #[.int .i64 v.most, .int .i64 v.sk.wide, .int .u64 v.sk.seed, .slice (some ⟨a.R, 0, none⟩) 4 a.c, .slice (some ⟨a.D, 0, none⟩) v.sk.wide v.sk.wide, .int .i64 v.sk.added, .slice (some ⟨a.G, 0, none⟩) 3 3, .int .i64 v.pl] 38)) 38 #[.int .i64 0, .int .i64 0, .int .u64 0, .slice none 0 0, .slice none 0 0, .int .i64 0, .slice none 0 0, .int .i64 0]
 rw [show (w.alloc (.cells #[.int .i64 v.most, .int .i64 v.sk.wide, .int .u64 v.sk.seed, .slice (some ⟨a.R, 0, none⟩) 4 a.c, .slice (some ⟨a.D, 0, none⟩) v.sk.wide v.sk.wide, .int .i64 v.sk.added, .slice (some ⟨a.G, 0, none⟩) 3 3, .int .i64 v.pl] 38)).heap.size = w.heap.size + 1 by simp] at hr1
 obtain ⟨hi, hm⟩ := Tv.at_some e
 have hkl := hok.fit.klen hi hm
 have hin := fun (W : World) (hW : Dt W v a) => d_in hok k W hW
 simp only [e, Option.getD_some, Option.isSome_some] at hin
 have hok1 := hok.note k
 have hadd := fun (W : World) (hW : Dt W v a) => d_add (k := k) hok (by omega) W hW
 have hfr := fun (a1 : Ad) (W : World) (hW : Dt W (v.note k) a1) => rfr_c (jj := 0) (j := 0) rfl hok1 (by omega) hkl (hok1.fit.in_ hok1.fit.n (i := 0) (by omega) hm) W hW
 have HN1 := Lib.hid hok1.fit.n
 have HM1 := Lib.hid (show (v.note k).most = v.most from rfl)
 have HN2 := Lib.hid (show ((v.note k).fr 0 k).rg.n = 3 from hok.fit.n)
 generalize (v.note k).fr 0 k = v2 at *
 generalize v.note k = v1 at *
 clear hok hok1 hi hm e hkl h
 go_enter Tryz.func55, Tryz.ntmps55
 go_upto_region 1 with (fail)
 generalize (w.alloc (.cells #[.int .i64 v.most, .int .i64 v.sk.wide, .int .u64 v.sk.seed, .slice (some ⟨a.R, 0, none⟩) 4 a.c, .slice (some ⟨a.D, 0, none⟩) v.sk.wide v.sk.wide, .int .i64 v.sk.added, .slice (some ⟨a.G, 0, none⟩) 3 3, .int .i64 v.pl] 38)).alloc (.cells #[.int .i64 0, .int .i64 0, .int .u64 0, .slice none 0 0, .slice none 0 0, .int .i64 0, .slice none 0 0, .int .i64 0] 38) = w1 at *
 obtain ⟨x0, x1, x2, x3, x4, x5, x6, x7⟩ := h1.all
 go_wp2_with fail
 refine (hin _ h1.d).mono ?_
 rintro e w2 ⟨rfl, hb⟩
 clear x0 x1 x2 x3 x4 x5 x6 x7
 have h2 := h1.onto hb
 have hr2 := hr1.below hb hr1.lt
 clear hr1
 clear h1 hb
 obtain ⟨x0, x1, x2, x3, x4, x5, x6, x7⟩ := h2.all
 go_wp2_with fail
 refine (hadd _ h2.d).mono ?_
 rintro e w3 ⟨a1, rfl, eG, hg⟩
 clear x0 x1 x2 x3 x4 x5 x6 x7
 have hbx := h2.box.below hg.below h2.box.lt
 have y1 := hbx.cell 1
 have f1 := hbx.free 1
 have y2 := hbx.cell 2
 have f2 := hbx.free 2
 have y3 := hbx.cell 3
 have f3 := hbx.free 3
 have y4 := hbx.cell 4
 have f4 := hbx.free 4
 have y5 := hbx.cell 5
 have f5 := hbx.free 5
 simp only [gA, gB, gC] at y1 y2 y3 y4 y5
 go_upto_region 5 with (fail)
 clear y1 f1 y2 f2 y3 f3 y4 f4 y5 f5
 have h4 := h2.sketch hg HN1.out HM1.out eG
 have hr4 : Blk (((((w3.setCell ⟨w.heap.size, 1, none⟩ (.int .i64 v1.sk.wide)).setCell ⟨w.heap.size, 2, none⟩ (.int .u64 v1.sk.seed)).setCell ⟨w.heap.size, 3, none⟩ (.slice (some ⟨a1.R, 0, none⟩) 4 a1.c)).setCell ⟨w.heap.size, 4, none⟩ (.slice (some ⟨a1.D, 0, none⟩) v1.sk.wide v1.sk.wide)).setCell ⟨w.heap.size, 5, none⟩ (.int .i64 v1.sk.added)) (w.heap.size + 1) 38 #[.int .i64 0, .int .i64 0, .int .u64 0, .slice none 0 0, .slice none 0 0, .int .i64 0, .slice none 0 0, .int .i64 0] := (far5 _ (by omega) _ _ _ _ _).trans (hr2.below hg.below hr2.lt)
 clear hr2
 generalize (((((w3.setCell ⟨w.heap.size, 1, none⟩ (.int .i64 v1.sk.wide)).setCell ⟨w.heap.size, 2, none⟩ (.int .u64 v1.sk.seed)).setCell ⟨w.heap.size, 3, none⟩ (.slice (some ⟨a1.R, 0, none⟩) 4 a1.c)).setCell ⟨w.heap.size, 4, none⟩ (.slice (some ⟨a1.D, 0, none⟩) v1.sk.wide v1.sk.wide)).setCell ⟨w.heap.size, 5, none⟩ (.int .i64 v1.sk.added)) = w4 at *
 clear h2 hbx hg eG
 obtain ⟨x0, x1, x2, x3, x4, x5, x6, x7⟩ := h4.all
 go_wp2_with fail
 refine (hfr a1 _ h4.d).mono ?_
 rintro e w5 ⟨a2, rfl, hg⟩
 clear x0 x1 x2 x3 x4 x5 x6 x7
 have hrx := hr4.below hg.below hr4.lt
 have y0 := hrx.cell 0
 have f0 := hrx.free 0
 have y1 := hrx.cell 1
 have f1 := hrx.free 1
 have y2 := hrx.cell 2
 have f2 := hrx.free 2
 have y3 := hrx.cell 3
 have f3 := hrx.free 3
 have y4 := hrx.cell 4
 have f4 := hrx.free 4
 have y5 := hrx.cell 5
 have f5 := hrx.free 5
 have y6 := hrx.cell 6
 have f6 := hrx.free 6
 have y7 := hrx.cell 7
 have f7 := hrx.free 7
 simp only [gA, gB, gC] at y0 y1 y2 y3 y4 y5 y6 y7
 go_wp2_with fail
 obtain ⟨hG, hB⟩ := res_goes h4 hg HN2.out (b := w.heap.size + 1) (by omega) (by omega) hrx
 refine bodyPost_ret (results_row_tmp rfl _ _ (w.heap.size + 1) rfl (run_loadVar_row _ _ _ _ _ _ _ hB Tryz.underlying38 rfl (by kernel_rfl))) rfl ⟨a2, rfl, hG⟩
theorem rparts_c {c : Nat} (h1 : 1 ≤ c) (h2 : c ≤ 1000) (w : World) :
  Calls Tryz.prog 82 #[.int .i64 c] w fun e w' => e = .returned (.tuple #[.int .i64 (wMost c : Int), .int .i64 (sMost c : Int)]) ∧ w = w' := by
 have hw : wMost c = max 1 (c / 8) := rfl
 have hs : sMost c = (c - wMost c) * 4 / 5 := rfl
 have HW := Lib.hid hw
 have HS := Lib.hid hs
 clear hw hs
 generalize wMost c = W at *
 generalize sMost c = Z at *
 by_cases hlt : c / 8 < 1
 ·have d1 : decide ((c : Int) / 8 < 1) = true := decide_eq_true (by omega)
  have q : (.tuple #[.int .i64 W, .int .i64 Z] : Value) = .tuple #[.int .i64 1, .int .i64 (((c : Int) - 1) * 4 / 5)] := by
   have h3 := HW.out
   have h4 := HS.out
   have e1 : (W : Int) = 1 := by omega
   have e2 : (Z : Int) = ((c : Int) - 1) * 4 / 5 := by omega
   rw [e1, e2]
  have HQ := Lib.hid q
  clear q
  go_enter Tryz.func82, Tryz.ntmps82
  go_wp2_with fail
  go_ret2
  exact ⟨by rw [HQ.out]; rfl, rfl⟩
 ·have d1 : decide ((c : Int) / 8 < 1) = false := decide_eq_false (by omega)
  have q : (.tuple #[.int .i64 W, .int .i64 Z] : Value) = .tuple #[.int .i64 ((c : Int) / 8), .int .i64 (((c : Int) - (c : Int) / 8) * 4 / 5)] := by
   have h3 := HW.out
   have h4 := HS.out
   have e1 : (W : Int) = (c : Int) / 8 := by omega
   have e2 : (Z : Int) = ((c : Int) - (c : Int) / 8) * 4 / 5 := by omega
   rw [e1, e2]
  have HQ := Lib.hid q
  clear q
  go_enter Tryz.func82, Tryz.ntmps82
  go_wp2_with fail
  go_ret2
  exact ⟨by rw [HQ.out]; rfl, rfl⟩
theorem d_parts (hok : v.Fine) (W : World) (_ : Dt W v a) :
  Calls Tryz.prog 82 #[.int .i64 v.most] W fun e w' => e = .returned (.tuple #[.int .i64 (wMost v.most : Int), .int .i64 (sMost v.most : Int)]) ∧ Below W.heap.size W w' :=
 (rparts_c hok.fit.m1 hok.fit.m2 W).mono fun _ _ ⟨p, q⟩ => ⟨p, q ▸ Below.refl _ _⟩
theorem Dt.list (h : Dt x v a) (hn : v.rg.n = 3) {i : Nat} (hi : i < 3) : ∃ ga gc, x.cell? ⟨a.G, i, none⟩ = some (.slice ga (v.len i) gc) := by
 obtain ⟨q, ga, gc, hv⟩ := h.r.at_ (i := i) (by rw [hn]; exact hi)
 rw [hv] at q
 exact ⟨ga, gc, q⟩
set_option maxHeartbeats 4000000 in
set_option maxRecDepth 100000 in
theorem rtouch_safe {i : Nat} (hi12 : i = 1 ∨ i = 2) (hok : v.Fine) (hOk : v.Ok) (e : v.at_ k = some i) (w : World) (h : Dt w v a) :
  Calls Tryz.prog 55 #[.agg #[.int .i64 v.most, .int .i64 v.sk.wide, .int .u64 v.sk.seed, .slice (some ⟨a.R, 0, none⟩) 4 a.c, .slice (some ⟨a.D, 0, none⟩) v.sk.wide v.sk.wide, .int .i64 v.sk.added, .slice (some ⟨a.G, 0, none⟩) 3 3, .int .i64 v.pl], .string (str k)] w fun e w' => ∃ a', e = .returned (.tuple #[.agg #[.int .i64 (((v.note k).safe k).most : Int), .int .i64 (((v.note k).safe k).sk.wide : Int), .int .u64 (((v.note k).safe k).sk.seed : Int), .slice (some ⟨a'.R, 0, none⟩) 4 a'.c, .slice (some ⟨a'.D, 0, none⟩) ((v.note k).safe k).sk.wide ((v.note k).safe k).sk.wide, .int .i64 (((v.note k).safe k).sk.added : Int), .slice (some ⟨a'.G, 0, none⟩) 3 3, .int .i64 (((v.note k).safe k).pl : Int)], .bool true]) ∧ Goes w a ((v.note k).safe k) a' w' := by
 have h1 := Wk.new2 h hok.fit.n
 have hr1 := Blk.new (w.alloc (.cells #[.int .i64 v.most, .int .i64 v.sk.wide, .int .u64 v.sk.seed, .slice (some ⟨a.R, 0, none⟩) 4 a.c, .slice (some ⟨a.D, 0, none⟩) v.sk.wide v.sk.wide, .int .i64 v.sk.added, .slice (some ⟨a.G, 0, none⟩) 3 3, .int .i64 v.pl] 38)) 38 #[.int .i64 0, .int .i64 0, .int .u64 0, .slice none 0 0, .slice none 0 0, .int .i64 0, .slice none 0 0, .int .i64 0]
 rw [show (w.alloc (.cells #[.int .i64 v.most, .int .i64 v.sk.wide, .int .u64 v.sk.seed, .slice (some ⟨a.R, 0, none⟩) 4 a.c, .slice (some ⟨a.D, 0, none⟩) v.sk.wide v.sk.wide, .int .i64 v.sk.added, .slice (some ⟨a.G, 0, none⟩) 3 3, .int .i64 v.pl] 38)).heap.size = w.heap.size + 1 by simp] at hr1
 obtain ⟨hi, hm⟩ := Tv.at_some e
 have hkl := hok.fit.klen hi hm
 have hin := fun (W : World) (hW : Dt W v a) => d_in hok k W hW
 simp only [e, Option.getD_some, Option.isSome_some] at hin
 have hok1 := hok.note k
 have hadd := fun (W : World) (hW : Dt W v a) => d_add (k := k) hok (by omega) W hW
 have hc1 := hok1.fit.in_ hok1.fit.n (i := i) hi hm
 have hfr := fun (a1 : Ad) (W : World) (hW : Dt W (v.note k) a1) => rfr_c (jj := 2) (j := 2) rfl hok1 (by omega) hkl hc1 W hW
 have hok2 := hok1.fr (j := 2) (by omega) hkl hc1
 obtain ⟨-, -, -, hy⟩ := Tv.safe_spec (hOk.note k) hi12 hm
 have hu : (v.note k).safe k = if sMost (v.note k).most < ((v.note k).fr 2 k).len 2 then ((v.note k).fr 2 k).fr 1 ((((v.note k).fr 2 k).last 2).getD []) else (v.note k).fr 2 k := rfl
 have HN1 := Lib.hid hok1.fit.n
 have HM1 := Lib.hid (show (v.note k).most = v.most from rfl)
 have HM2 := Lib.hid (show ((v.note k).fr 2 k).most = (v.note k).most from rfl)
 have e0 : ((i : Int) == 0) = false := by rw [beq_eq_false_iff_ne]; omega
 generalize (v.note k).safe k = vs at *
 generalize (v.note k).fr 2 k = v2 at *
 generalize v.note k = v1 at *
 have HN2 := Lib.hid hok2.fit.n
 rw [← HM2.out] at hy hu
 have hpa := fun (a2 : Ad) (W : World) (hW : Dt W v2 a2) => d_parts hok2 W hW
 have hl2 := hok2.fit.len_le (i := 2) (by omega)
 have hs2 := sMost_le v2.most
 have hm2 := hok2.fit.m2
 clear hOk hok hok1 hi12 hm e hkl h hc1
 by_cases hb : sMost v2.most < v2.len 2
 ·have d1 : decide ((sMost v2.most : Int) < (v2.len 2 : Int)) = true := decide_eq_true (by omega)
  have d2 : decide (sMost v2.most < v2.len 2) = true := decide_eq_true hb
  obtain ⟨y, hy1, hy2⟩ := hy hb
  rw [if_pos hb, hy1] at hu
  replace hu : vs = v2.fr 1 y := hu
  subst hu
  have hyl := hok2.fit.klen (by omega) hy2
  have hbk := fun (a2 : Ad) (W : World) (hW : Dt W v2 a2) => d_back hok2 (i := 2) (by omega) W hW
  simp only [hy1, Option.getD_some, Option.isSome_some] at hbk
  have hc2 := hok2.fit.in_ hok2.fit.n (i := 2) (by omega) hy2
  have hfr1 := fun (a2 : Ad) (W : World) (hW : Dt W v2 a2) => rfr_c (jj := 1) (j := 1) rfl hok2 (by omega) hyl hc2 W hW
  have HN3 := Lib.hid (show (v2.fr 1 y).rg.n = 3 from hok2.fit.n)
  generalize v2.fr 1 y = v3 at *
  clear hok2 hy hy1 hy2 hyl hc2
  go_enter Tryz.func55, Tryz.ntmps55
  go_upto_region 1 with (fail)
  generalize (w.alloc (.cells #[.int .i64 v.most, .int .i64 v.sk.wide, .int .u64 v.sk.seed, .slice (some ⟨a.R, 0, none⟩) 4 a.c, .slice (some ⟨a.D, 0, none⟩) v.sk.wide v.sk.wide, .int .i64 v.sk.added, .slice (some ⟨a.G, 0, none⟩) 3 3, .int .i64 v.pl] 38)).alloc (.cells #[.int .i64 0, .int .i64 0, .int .u64 0, .slice none 0 0, .slice none 0 0, .int .i64 0, .slice none 0 0, .int .i64 0] 38) = w1 at *
  obtain ⟨x0, x1, x2, x3, x4, x5, x6, x7⟩ := h1.all
  go_wp2_with fail
  refine (hin _ h1.d).mono ?_
  rintro e w2 ⟨rfl, hb⟩
  clear x0 x1 x2 x3 x4 x5 x6 x7
  have h2 := h1.onto hb
  have hr2 := hr1.below hb hr1.lt
  clear hr1
  clear h1 hb
  obtain ⟨x0, x1, x2, x3, x4, x5, x6, x7⟩ := h2.all
  go_wp2_with fail
  refine (hadd _ h2.d).mono ?_
  rintro e w3 ⟨a1, rfl, eG, hg⟩
  clear x0 x1 x2 x3 x4 x5 x6 x7
  have hbx := h2.box.below hg.below h2.box.lt
  have y1 := hbx.cell 1
  have f1 := hbx.free 1
  have y2 := hbx.cell 2
  have f2 := hbx.free 2
  have y3 := hbx.cell 3
  have f3 := hbx.free 3
  have y4 := hbx.cell 4
  have f4 := hbx.free 4
  have y5 := hbx.cell 5
  have f5 := hbx.free 5
  simp only [gA, gB, gC] at y1 y2 y3 y4 y5
  go_upto_region 5 with (fail)
  clear y1 f1 y2 f2 y3 f3 y4 f4 y5 f5
  have h4 := h2.sketch hg HN1.out HM1.out eG
  have hr4 : Blk (((((w3.setCell ⟨w.heap.size, 1, none⟩ (.int .i64 v1.sk.wide)).setCell ⟨w.heap.size, 2, none⟩ (.int .u64 v1.sk.seed)).setCell ⟨w.heap.size, 3, none⟩ (.slice (some ⟨a1.R, 0, none⟩) 4 a1.c)).setCell ⟨w.heap.size, 4, none⟩ (.slice (some ⟨a1.D, 0, none⟩) v1.sk.wide v1.sk.wide)).setCell ⟨w.heap.size, 5, none⟩ (.int .i64 v1.sk.added)) (w.heap.size + 1) 38 #[.int .i64 0, .int .i64 0, .int .u64 0, .slice none 0 0, .slice none 0 0, .int .i64 0, .slice none 0 0, .int .i64 0] := (far5 _ (by omega) _ _ _ _ _).trans (hr2.below hg.below hr2.lt)
  clear hr2
  generalize (((((w3.setCell ⟨w.heap.size, 1, none⟩ (.int .i64 v1.sk.wide)).setCell ⟨w.heap.size, 2, none⟩ (.int .u64 v1.sk.seed)).setCell ⟨w.heap.size, 3, none⟩ (.slice (some ⟨a1.R, 0, none⟩) 4 a1.c)).setCell ⟨w.heap.size, 4, none⟩ (.slice (some ⟨a1.D, 0, none⟩) v1.sk.wide v1.sk.wide)).setCell ⟨w.heap.size, 5, none⟩ (.int .i64 v1.sk.added)) = w4 at *
  clear h2 hbx hg eG
  obtain ⟨x0, x1, x2, x3, x4, x5, x6, x7⟩ := h4.all
  go_wp2_with fail
  refine (hfr a1 _ h4.d).mono ?_
  rintro e w5 ⟨a2, rfl, hg⟩
  clear x0 x1 x2 x3 x4 x5 x6 x7
  have hbx := h4.box.below hg.below h4.box.lt
  have y0 := hbx.cell 0
  have f0 := hbx.free 0
  have y1 := hbx.cell 1
  have f1 := hbx.free 1
  have y2 := hbx.cell 2
  have f2 := hbx.free 2
  have y3 := hbx.cell 3
  have f3 := hbx.free 3
  have y4 := hbx.cell 4
  have f4 := hbx.free 4
  have y5 := hbx.cell 5
  have f5 := hbx.free 5
  have y6 := hbx.cell 6
  have f6 := hbx.free 6
  have y7 := hbx.cell 7
  have f7 := hbx.free 7
  simp only [gA, gB, gC] at y0 y1 y2 y3 y4 y5 y6 y7
  go_upto_region 8 with (fail)
  clear y0 f0 y1 f1 y2 f2 y3 f3 y4 f4 y5 f5 y6 f6 y7 f7
  have h6 := h4.whole hg HN2.out
  have hr6 : Blk ((((((((w5.setCell ⟨w.heap.size, 0, none⟩ (.int .i64 v2.most)).setCell ⟨w.heap.size, 1, none⟩ (.int .i64 v2.sk.wide)).setCell ⟨w.heap.size, 2, none⟩ (.int .u64 v2.sk.seed)).setCell ⟨w.heap.size, 3, none⟩ (.slice (some ⟨a2.R, 0, none⟩) 4 a2.c)).setCell ⟨w.heap.size, 4, none⟩ (.slice (some ⟨a2.D, 0, none⟩) v2.sk.wide v2.sk.wide)).setCell ⟨w.heap.size, 5, none⟩ (.int .i64 v2.sk.added)).setCell ⟨w.heap.size, 6, none⟩ (.slice (some ⟨a2.G, 0, none⟩) 3 3)).setCell ⟨w.heap.size, 7, none⟩ (.int .i64 v2.pl)) (w.heap.size + 1) 38 #[.int .i64 0, .int .i64 0, .int .u64 0, .slice none 0 0, .slice none 0 0, .int .i64 0, .slice none 0 0, .int .i64 0] := (far8 _ (by omega) _ _ _ _ _ _ _ _).trans (hr4.below hg.below hr4.lt)
  clear hr4
  generalize ((((((((w5.setCell ⟨w.heap.size, 0, none⟩ (.int .i64 v2.most)).setCell ⟨w.heap.size, 1, none⟩ (.int .i64 v2.sk.wide)).setCell ⟨w.heap.size, 2, none⟩ (.int .u64 v2.sk.seed)).setCell ⟨w.heap.size, 3, none⟩ (.slice (some ⟨a2.R, 0, none⟩) 4 a2.c)).setCell ⟨w.heap.size, 4, none⟩ (.slice (some ⟨a2.D, 0, none⟩) v2.sk.wide v2.sk.wide)).setCell ⟨w.heap.size, 5, none⟩ (.int .i64 v2.sk.added)).setCell ⟨w.heap.size, 6, none⟩ (.slice (some ⟨a2.G, 0, none⟩) 3 3)).setCell ⟨w.heap.size, 7, none⟩ (.int .i64 v2.pl)) = w6 at *
  clear h4 hbx hg
  obtain ⟨x0, x1, x2, x3, x4, x5, x6, x7⟩ := h6.all
  go_wp2_with fail
  refine (hpa a2 _ h6.d).mono ?_
  rintro e w7 ⟨rfl, hb⟩
  clear x0 x1 x2 x3 x4 x5 x6 x7
  have h7 := h6.onto hb
  have hr7 := hr6.below hb hr6.lt
  clear hr6
  clear h6 hb
  obtain ⟨x0, x1, x2, x3, x4, x5, x6, x7⟩ := h7.all
  obtain ⟨ga, gc, q1⟩ := h7.d.list HN2.out (i := 2) (by omega)
  go_upto_region 10 with (fail)
  clear q1
  go_wp2_with fail
  refine (hbk a2 _ h7.d).mono ?_
  rintro e w8 ⟨rfl, hb⟩
  clear x0 x1 x2 x3 x4 x5 x6 x7
  have h8 := h7.onto hb
  have hr8 := hr7.below hb hr7.lt
  clear hr7
  clear h7 hb
  obtain ⟨x0, x1, x2, x3, x4, x5, x6, x7⟩ := h8.all
  go_wp2_with fail
  refine (hfr1 a2 _ h8.d).mono ?_
  rintro e w9 ⟨a3, rfl, hg⟩
  clear x0 x1 x2 x3 x4 x5 x6 x7
  have hbx := h8.box.below hg.below h8.box.lt
  have y0 := hbx.cell 0
  have f0 := hbx.free 0
  have y1 := hbx.cell 1
  have f1 := hbx.free 1
  have y2 := hbx.cell 2
  have f2 := hbx.free 2
  have y3 := hbx.cell 3
  have f3 := hbx.free 3
  have y4 := hbx.cell 4
  have f4 := hbx.free 4
  have y5 := hbx.cell 5
  have f5 := hbx.free 5
  have y6 := hbx.cell 6
  have f6 := hbx.free 6
  have y7 := hbx.cell 7
  have f7 := hbx.free 7
  simp only [gA, gB, gC] at y0 y1 y2 y3 y4 y5 y6 y7
  go_upto_region 12 with (fail)
  clear y0 f0 y1 f1 y2 f2 y3 f3 y4 f4 y5 f5 y6 f6 y7 f7
  have h10 := h8.whole hg HN3.out
  have hr10 : Blk ((((((((w9.setCell ⟨w.heap.size, 0, none⟩ (.int .i64 v3.most)).setCell ⟨w.heap.size, 1, none⟩ (.int .i64 v3.sk.wide)).setCell ⟨w.heap.size, 2, none⟩ (.int .u64 v3.sk.seed)).setCell ⟨w.heap.size, 3, none⟩ (.slice (some ⟨a3.R, 0, none⟩) 4 a3.c)).setCell ⟨w.heap.size, 4, none⟩ (.slice (some ⟨a3.D, 0, none⟩) v3.sk.wide v3.sk.wide)).setCell ⟨w.heap.size, 5, none⟩ (.int .i64 v3.sk.added)).setCell ⟨w.heap.size, 6, none⟩ (.slice (some ⟨a3.G, 0, none⟩) 3 3)).setCell ⟨w.heap.size, 7, none⟩ (.int .i64 v3.pl)) (w.heap.size + 1) 38 #[.int .i64 0, .int .i64 0, .int .u64 0, .slice none 0 0, .slice none 0 0, .int .i64 0, .slice none 0 0, .int .i64 0] := (far8 _ (by omega) _ _ _ _ _ _ _ _).trans (hr8.below hg.below hr8.lt)
  clear hr8
  generalize ((((((((w9.setCell ⟨w.heap.size, 0, none⟩ (.int .i64 v3.most)).setCell ⟨w.heap.size, 1, none⟩ (.int .i64 v3.sk.wide)).setCell ⟨w.heap.size, 2, none⟩ (.int .u64 v3.sk.seed)).setCell ⟨w.heap.size, 3, none⟩ (.slice (some ⟨a3.R, 0, none⟩) 4 a3.c)).setCell ⟨w.heap.size, 4, none⟩ (.slice (some ⟨a3.D, 0, none⟩) v3.sk.wide v3.sk.wide)).setCell ⟨w.heap.size, 5, none⟩ (.int .i64 v3.sk.added)).setCell ⟨w.heap.size, 6, none⟩ (.slice (some ⟨a3.G, 0, none⟩) 3 3)).setCell ⟨w.heap.size, 7, none⟩ (.int .i64 v3.pl)) = w10 at *
  clear h8 hbx hg
  obtain ⟨x0, x1, x2, x3, x4, x5, x6, x7⟩ := h10.all
  have z0 := hr10.cell 0
  have f0 := hr10.free 0
  have z1 := hr10.cell 1
  have f1 := hr10.free 1
  have z2 := hr10.cell 2
  have f2 := hr10.free 2
  have z3 := hr10.cell 3
  have f3 := hr10.free 3
  have z4 := hr10.cell 4
  have f4 := hr10.free 4
  have z5 := hr10.cell 5
  have f5 := hr10.free 5
  have z6 := hr10.cell 6
  have f6 := hr10.free 6
  have z7 := hr10.cell 7
  have f7 := hr10.free 7
  simp only [gA, gB, gC] at z0 z1 z2 z3 z4 z5 z6 z7
  go_wp2_with fail
  obtain ⟨hG, hB⟩ := res_goes h10 (Goes.refl h10.d) HN3.out (b := w.heap.size + 1) (by omega) (by omega) hr10
  refine bodyPost_ret (results_row_tmp rfl _ _ (w.heap.size + 1) rfl (run_loadVar_row _ _ _ _ _ _ _ hB Tryz.underlying38 rfl (by kernel_rfl))) rfl ⟨a3, rfl, hG⟩
 ·have d1 : decide ((sMost v2.most : Int) < (v2.len 2 : Int)) = false := decide_eq_false (by omega)
  have d2 : decide (sMost v2.most < v2.len 2) = false := decide_eq_false hb
  rw [if_neg hb] at hu
  subst hu
  clear hy
  go_enter Tryz.func55, Tryz.ntmps55
  go_upto_region 1 with (fail)
  generalize (w.alloc (.cells #[.int .i64 v.most, .int .i64 v.sk.wide, .int .u64 v.sk.seed, .slice (some ⟨a.R, 0, none⟩) 4 a.c, .slice (some ⟨a.D, 0, none⟩) v.sk.wide v.sk.wide, .int .i64 v.sk.added, .slice (some ⟨a.G, 0, none⟩) 3 3, .int .i64 v.pl] 38)).alloc (.cells #[.int .i64 0, .int .i64 0, .int .u64 0, .slice none 0 0, .slice none 0 0, .int .i64 0, .slice none 0 0, .int .i64 0] 38) = w1 at *
  obtain ⟨x0, x1, x2, x3, x4, x5, x6, x7⟩ := h1.all
  go_wp2_with fail
  refine (hin _ h1.d).mono ?_
  rintro e w2 ⟨rfl, hb⟩
  clear x0 x1 x2 x3 x4 x5 x6 x7
  have h2 := h1.onto hb
  have hr2 := hr1.below hb hr1.lt
  clear hr1
  clear h1 hb
  obtain ⟨x0, x1, x2, x3, x4, x5, x6, x7⟩ := h2.all
  go_wp2_with fail
  refine (hadd _ h2.d).mono ?_
  rintro e w3 ⟨a1, rfl, eG, hg⟩
  clear x0 x1 x2 x3 x4 x5 x6 x7
  have hbx := h2.box.below hg.below h2.box.lt
  have y1 := hbx.cell 1
  have f1 := hbx.free 1
  have y2 := hbx.cell 2
  have f2 := hbx.free 2
  have y3 := hbx.cell 3
  have f3 := hbx.free 3
  have y4 := hbx.cell 4
  have f4 := hbx.free 4
  have y5 := hbx.cell 5
  have f5 := hbx.free 5
  simp only [gA, gB, gC] at y1 y2 y3 y4 y5
  go_upto_region 5 with (fail)
  clear y1 f1 y2 f2 y3 f3 y4 f4 y5 f5
  have h4 := h2.sketch hg HN1.out HM1.out eG
  have hr4 : Blk (((((w3.setCell ⟨w.heap.size, 1, none⟩ (.int .i64 v1.sk.wide)).setCell ⟨w.heap.size, 2, none⟩ (.int .u64 v1.sk.seed)).setCell ⟨w.heap.size, 3, none⟩ (.slice (some ⟨a1.R, 0, none⟩) 4 a1.c)).setCell ⟨w.heap.size, 4, none⟩ (.slice (some ⟨a1.D, 0, none⟩) v1.sk.wide v1.sk.wide)).setCell ⟨w.heap.size, 5, none⟩ (.int .i64 v1.sk.added)) (w.heap.size + 1) 38 #[.int .i64 0, .int .i64 0, .int .u64 0, .slice none 0 0, .slice none 0 0, .int .i64 0, .slice none 0 0, .int .i64 0] := (far5 _ (by omega) _ _ _ _ _).trans (hr2.below hg.below hr2.lt)
  clear hr2
  generalize (((((w3.setCell ⟨w.heap.size, 1, none⟩ (.int .i64 v1.sk.wide)).setCell ⟨w.heap.size, 2, none⟩ (.int .u64 v1.sk.seed)).setCell ⟨w.heap.size, 3, none⟩ (.slice (some ⟨a1.R, 0, none⟩) 4 a1.c)).setCell ⟨w.heap.size, 4, none⟩ (.slice (some ⟨a1.D, 0, none⟩) v1.sk.wide v1.sk.wide)).setCell ⟨w.heap.size, 5, none⟩ (.int .i64 v1.sk.added)) = w4 at *
  clear h2 hbx hg eG
  obtain ⟨x0, x1, x2, x3, x4, x5, x6, x7⟩ := h4.all
  go_wp2_with fail
  refine (hfr a1 _ h4.d).mono ?_
  rintro e w5 ⟨a2, rfl, hg⟩
  clear x0 x1 x2 x3 x4 x5 x6 x7
  have hbx := h4.box.below hg.below h4.box.lt
  have y0 := hbx.cell 0
  have f0 := hbx.free 0
  have y1 := hbx.cell 1
  have f1 := hbx.free 1
  have y2 := hbx.cell 2
  have f2 := hbx.free 2
  have y3 := hbx.cell 3
  have f3 := hbx.free 3
  have y4 := hbx.cell 4
  have f4 := hbx.free 4
  have y5 := hbx.cell 5
  have f5 := hbx.free 5
  have y6 := hbx.cell 6
  have f6 := hbx.free 6
  have y7 := hbx.cell 7
  have f7 := hbx.free 7
  simp only [gA, gB, gC] at y0 y1 y2 y3 y4 y5 y6 y7
  go_upto_region 8 with (fail)
  clear y0 f0 y1 f1 y2 f2 y3 f3 y4 f4 y5 f5 y6 f6 y7 f7
  have h6 := h4.whole hg HN2.out
  have hr6 : Blk ((((((((w5.setCell ⟨w.heap.size, 0, none⟩ (.int .i64 vs.most)).setCell ⟨w.heap.size, 1, none⟩ (.int .i64 vs.sk.wide)).setCell ⟨w.heap.size, 2, none⟩ (.int .u64 vs.sk.seed)).setCell ⟨w.heap.size, 3, none⟩ (.slice (some ⟨a2.R, 0, none⟩) 4 a2.c)).setCell ⟨w.heap.size, 4, none⟩ (.slice (some ⟨a2.D, 0, none⟩) vs.sk.wide vs.sk.wide)).setCell ⟨w.heap.size, 5, none⟩ (.int .i64 vs.sk.added)).setCell ⟨w.heap.size, 6, none⟩ (.slice (some ⟨a2.G, 0, none⟩) 3 3)).setCell ⟨w.heap.size, 7, none⟩ (.int .i64 vs.pl)) (w.heap.size + 1) 38 #[.int .i64 0, .int .i64 0, .int .u64 0, .slice none 0 0, .slice none 0 0, .int .i64 0, .slice none 0 0, .int .i64 0] := (far8 _ (by omega) _ _ _ _ _ _ _ _).trans (hr4.below hg.below hr4.lt)
  clear hr4
  generalize ((((((((w5.setCell ⟨w.heap.size, 0, none⟩ (.int .i64 vs.most)).setCell ⟨w.heap.size, 1, none⟩ (.int .i64 vs.sk.wide)).setCell ⟨w.heap.size, 2, none⟩ (.int .u64 vs.sk.seed)).setCell ⟨w.heap.size, 3, none⟩ (.slice (some ⟨a2.R, 0, none⟩) 4 a2.c)).setCell ⟨w.heap.size, 4, none⟩ (.slice (some ⟨a2.D, 0, none⟩) vs.sk.wide vs.sk.wide)).setCell ⟨w.heap.size, 5, none⟩ (.int .i64 vs.sk.added)).setCell ⟨w.heap.size, 6, none⟩ (.slice (some ⟨a2.G, 0, none⟩) 3 3)).setCell ⟨w.heap.size, 7, none⟩ (.int .i64 vs.pl)) = w6 at *
  clear h4 hbx hg
  obtain ⟨x0, x1, x2, x3, x4, x5, x6, x7⟩ := h6.all
  go_wp2_with fail
  refine (hpa a2 _ h6.d).mono ?_
  rintro e w7 ⟨rfl, hb⟩
  clear x0 x1 x2 x3 x4 x5 x6 x7
  have h7 := h6.onto hb
  have hr7 := hr6.below hb hr6.lt
  clear hr6
  clear h6 hb
  obtain ⟨x0, x1, x2, x3, x4, x5, x6, x7⟩ := h7.all
  obtain ⟨ga, gc, q1⟩ := h7.d.list HN2.out (i := 2) (by omega)
  have z0 := hr7.cell 0
  have f0 := hr7.free 0
  have z1 := hr7.cell 1
  have f1 := hr7.free 1
  have z2 := hr7.cell 2
  have f2 := hr7.free 2
  have z3 := hr7.cell 3
  have f3 := hr7.free 3
  have z4 := hr7.cell 4
  have f4 := hr7.free 4
  have z5 := hr7.cell 5
  have f5 := hr7.free 5
  have z6 := hr7.cell 6
  have f6 := hr7.free 6
  have z7 := hr7.cell 7
  have f7 := hr7.free 7
  simp only [gA, gB, gC] at z0 z1 z2 z3 z4 z5 z6 z7
  go_wp2_with fail
  obtain ⟨hG, hB⟩ := res_goes h7 (Goes.refl h7.d) HN2.out (b := w.heap.size + 1) (by omega) (by omega) hr7
  refine bodyPost_ret (results_row_tmp rfl _ _ (w.heap.size + 1) rfl (run_loadVar_row _ _ _ _ _ _ _ hB Tryz.underlying38 rfl (by kernel_rfl))) rfl ⟨a2, rfl, hG⟩
theorem rtouch_c (hok : v.Fine) (hOk : v.Ok) (w : World) (h : Dt w v a) :
  Calls Tryz.prog 55 #[.agg #[.int .i64 v.most, .int .i64 v.sk.wide, .int .u64 v.sk.seed, .slice (some ⟨a.R, 0, none⟩) 4 a.c, .slice (some ⟨a.D, 0, none⟩) v.sk.wide v.sk.wide, .int .i64 v.sk.added, .slice (some ⟨a.G, 0, none⟩) 3 3, .int .i64 v.pl], .string (str k)] w fun e w' => ∃ a', e = .returned (.tuple #[.agg #[.int .i64 ((v.touch k).most : Int), .int .i64 ((v.touch k).sk.wide : Int), .int .u64 ((v.touch k).sk.seed : Int), .slice (some ⟨a'.R, 0, none⟩) 4 a'.c, .slice (some ⟨a'.D, 0, none⟩) (v.touch k).sk.wide (v.touch k).sk.wide, .int .i64 ((v.touch k).sk.added : Int), .slice (some ⟨a'.G, 0, none⟩) 3 3, .int .i64 ((v.touch k).pl : Int)], .bool (v.has k)]) ∧ Goes w a (v.touch k) a' w' := by
 cases e : v.at_ k with
 | none =>
  have h1 : v.touch k = v := by unfold Tv.touch; rw [e]
  have h2 : v.has k = false := by unfold Tv.has; rw [e]; rfl
  rw [h1, h2]
  exact rtouch_none hok e w h
 | some i =>
  obtain ⟨hi, -⟩ := Tv.at_some e
  have h2 : v.has k = true := by unfold Tv.has; rw [e]; rfl
  rcases (by omega : i = 0 ∨ i = 1 ∨ i = 2) with rfl | rfl | rfl
  ·have h1 : v.touch k = (v.note k).fr 0 k := by unfold Tv.touch; rw [e]; rfl
   rw [h1, h2]
   exact rtouch_win hok e w h
  ·have h1 : v.touch k = (v.note k).safe k := by unfold Tv.touch; rw [e]; rfl
   rw [h1, h2]
   exact rtouch_safe (.inl rfl) hok hOk e w h
  ·have h1 : v.touch k = (v.note k).safe k := by unfold Tv.touch; rw [e]; rfl
   rw [h1, h2]
   exact rtouch_safe (.inr rfl) hok hOk e w h
end
end Go.Proofs.YtncgfnocokippaaGreat.Tinyy
