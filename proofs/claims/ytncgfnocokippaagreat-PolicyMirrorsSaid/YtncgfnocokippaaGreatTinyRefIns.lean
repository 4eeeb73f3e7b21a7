/- The document's own Tiny: inserting. The only condition: it is as chapter 8 has it. -/
import Derived.Test.YtncgfnocokippaaGreatTinyRefEvict
import Derived.Test.YtncgfnocokippaaGreatSq
namespace Go.Proofs.YtncgfnocokippaaGreat.Tinyy
open Go.ChangeShapes Go.WideShapes Go.ChangeAt Go.RowKit Go.Shelf
open Wirey (Blk Row str str_size str_list str_cat Kp enc)
open Ringy Go.ChangeMaps Go.Maps
open Sketchy (Sk ksOf ksOf_lt Six)

section
variable {w x y : World} {v v' v'' : Tv} {a a' a'' : Ad} {k one : Key} {j K g : Nat}
structure Wr (w : World) (a : Ad) (v' : Tv) (a' : Ad) (x : World) : Prop where
 k : Wk w 2 a v' a' x
 r : Blk x (w.heap.size + 1) 38 #[.int .i64 0, .int .i64 0, .int .u64 0, .slice none 0 0, .slice none 0 0, .int .i64 0, .slice none 0 0, .int .i64 0]
theorem Wr.onto (h : Wr w a v' a' x) (hb : Below x.heap.size x y) : Wr w a v' a' y := ⟨h.k.onto hb, h.r.below hb h.r.lt⟩
theorem Wr.drewN (h : Wr w a v' a' x) (n : Nat) : Wr w a v' a' (x.drewN n) := h.onto ⟨rfl, rfl, rfl, Nat.le_refl _, fun _ _ => rfl⟩
theorem Wr.all (h : Wr w a v' a' x) : (x.cell? ⟨w.heap.size, 0, none⟩ = some (.int .i64 v'.most) ∧ x.cell? ⟨w.heap.size, 1, none⟩ = some (.int .i64 v'.sk.wide) ∧ x.cell? ⟨w.heap.size, 2, none⟩ = some (.int .u64 v'.sk.seed) ∧ x.cell? ⟨w.heap.size, 3, none⟩ = some (.slice (some ⟨a'.R, 0, none⟩) 4 a'.c) ∧ x.cell? ⟨w.heap.size, 4, none⟩ = some (.slice (some ⟨a'.D, 0, none⟩) v'.sk.wide v'.sk.wide) ∧ x.cell? ⟨w.heap.size, 5, none⟩ = some (.int .i64 v'.sk.added) ∧ x.cell? ⟨w.heap.size, 6, none⟩ = some (.slice (some ⟨a'.G, 0, none⟩) 3 3) ∧ x.cell? ⟨w.heap.size, 7, none⟩ = some (.int .i64 v'.pl)) ∧ Wr w a v' a' x := ⟨h.k.all, h⟩
theorem wr_len (hok : v'.Fine) (h : Wr w a v' a' x) :
  Calls Tryz.prog 35 #[.agg #[.int .i64 v'.most, .int .i64 v'.sk.wide, .int .u64 v'.sk.seed, .slice (some ⟨a'.R, 0, none⟩) 4 a'.c, .slice (some ⟨a'.D, 0, none⟩) v'.sk.wide v'.sk.wide, .int .i64 v'.sk.added, .slice (some ⟨a'.G, 0, none⟩) 3 3, .int .i64 v'.pl]] x fun e y => e = .returned (.int .i64 v'.kept) ∧ Wr w a v' a' y := (rlen_c hok x h.k.d).mono fun _ _ ⟨p, q⟩ => ⟨p, h.onto q⟩
theorem wr_seen (hok : v'.Fine) (hk : one.length ≤ 64) (h : Wr w a v' a' x) :
  Calls Tryz.prog 87 #[.agg #[.int .i64 v'.sk.wide, .int .u64 v'.sk.seed, .slice (some ⟨a'.R, 0, none⟩) 4 a'.c, .slice (some ⟨a'.D, 0, none⟩) v'.sk.wide v'.sk.wide, .int .i64 v'.sk.added], .string (str one)] x fun e y => e = .returned (.int .i64 (v'.seen one : Int)) ∧ Wr w a v' a' y := (d_seen hok (by omega) x h.k.d).mono fun _ _ ⟨p, q⟩ => ⟨p, h.onto q⟩
def Told (w : World) (val : Value) (l : List Key) (x : World) : Prop := x.ownsRow w.heap.size 9 1 val l.length (strsV l)
theorem Told.nil (w x : World) : Told w (.slice none 0 0) [] x := World.ownsRow_nil _ _ _ _
theorem Told.lit (hB : w.heap.size ≤ x.heap.size) (k : Key) : Told w (.slice (some ⟨x.heap.size, 0, none⟩) 1 1) [k] (x.alloc (.cells #[.string (str k)] 9)) :=
 World.ownsRow_lit (size := 1) (e := 9) (base := w.heap.size) x #[.string (str k)] 1 hB (by unfold maxLen; omega) rfl
theorem Told.far {val : Value} {l : List Key} (h : Told w val l x) (hb : ∀ q, w.heap.size + 2 ≤ q → y.heap[q]? = x.heap[q]?) (hq : ∀ q, val.ownBlock = some q → w.heap.size + 2 ≤ q) : Told w val l y :=
 ownsRow_stay h fun b e => hb b (hq b e)
set_option maxHeartbeats 8000000 in
set_option maxRecDepth 100000 in
theorem rins_long (hok : v.Fine) (hl : 64 < k.length) (hk : k.length ≤ maxLen) (w : World) (h : Dt w v a) :
  Calls Tryz.prog 62 #[.agg #[.int .i64 v.most, .int .i64 v.sk.wide, .int .u64 v.sk.seed, .slice (some ⟨a.R, 0, none⟩) 4 a.c, .slice (some ⟨a.D, 0, none⟩) v.sk.wide v.sk.wide, .int .i64 v.sk.added, .slice (some ⟨a.G, 0, none⟩) 3 3, .int .i64 v.pl], .string (str k)] w fun e w' => ∃ a' val, e = .returned (.tuple #[.agg #[.int .i64 v.most, .int .i64 v.sk.wide, .int .u64 v.sk.seed, .slice (some ⟨a'.R, 0, none⟩) 4 a'.c, .slice (some ⟨a'.D, 0, none⟩) v.sk.wide v.sk.wide, .int .i64 v.sk.added, .slice (some ⟨a'.G, 0, none⟩) 3 3, .int .i64 v.pl], val]) ∧ Goes w a v a' w' ∧ Told w val [] w' := by
 have h1 := Wk.new2 h hok.fit.n
 have hr1 := Blk.new (w.alloc (.cells #[.int .i64 v.most, .int .i64 v.sk.wide, .int .u64 v.sk.seed, .slice (some ⟨a.R, 0, none⟩) 4 a.c, .slice (some ⟨a.D, 0, none⟩) v.sk.wide v.sk.wide, .int .i64 v.sk.added, .slice (some ⟨a.G, 0, none⟩) 3 3, .int .i64 v.pl] 38)) 38 #[.int .i64 0, .int .i64 0, .int .u64 0, .slice none 0 0, .slice none 0 0, .int .i64 0, .slice none 0 0, .int .i64 0]
 rw [show (w.alloc (.cells #[.int .i64 v.most, .int .i64 v.sk.wide, .int .u64 v.sk.seed, .slice (some ⟨a.R, 0, none⟩) 4 a.c, .slice (some ⟨a.D, 0, none⟩) v.sk.wide v.sk.wide, .int .i64 v.sk.added, .slice (some ⟨a.G, 0, none⟩) 3 3, .int .i64 v.pl] 38)).heap.size = w.heap.size + 1 by simp] at hr1
 have hsz := str_size k
 unfold maxLen at hk
 have d1 : decide ((64 : Int) < (k.length : Int)) = true := decide_eq_true (by omega)
 have HN := Lib.hid hok.fit.n
 clear hok h
 go_enter Tryz.func62, Tryz.ntmps62
 go_upto_region 1 with (fail)
 generalize (w.alloc (.cells #[.int .i64 v.most, .int .i64 v.sk.wide, .int .u64 v.sk.seed, .slice (some ⟨a.R, 0, none⟩) 4 a.c, .slice (some ⟨a.D, 0, none⟩) v.sk.wide v.sk.wide, .int .i64 v.sk.added, .slice (some ⟨a.G, 0, none⟩) 3 3, .int .i64 v.pl] 38)).alloc (.cells #[.int .i64 0, .int .i64 0, .int .u64 0, .slice none 0 0, .slice none 0 0, .int .i64 0, .slice none 0 0, .int .i64 0] 38) = w1 at *
 obtain ⟨x0, x1, x2, x3, x4, x5, x6, x7⟩ := h1.all
 have z0 := hr1.cell 0
 have f0 := hr1.free 0
 have z1 := hr1.cell 1
 have f1 := hr1.free 1
 have z2 := hr1.cell 2
 have f2 := hr1.free 2
 have z3 := hr1.cell 3
 have f3 := hr1.free 3
 have z4 := hr1.cell 4
 have f4 := hr1.free 4
 have z5 := hr1.cell 5
 have f5 := hr1.free 5
 have z6 := hr1.cell 6
 have f6 := hr1.free 6
 have z7 := hr1.cell 7
 have f7 := hr1.free 7
 simp only [gA, gB, gC] at z0 z1 z2 z3 z4 z5 z6 z7
 go_wp2_with fail
 obtain ⟨hG, hB⟩ := res_goes h1 (Goes.refl h1.d) HN.out (b := w.heap.size + 1) (by omega) (by omega) hr1
 refine bodyPost_ret (results_row_tmp rfl _ _ (w.heap.size + 1) rfl (run_loadVar_row _ _ _ _ _ _ _ hB Tryz.underlying38 rfl (by kernel_rfl))) rfl ⟨a, _, rfl, hG, Told.nil _ _⟩
set_option maxHeartbeats 8000000 in
set_option maxRecDepth 100000 in
theorem rins_has (hok : v.Fine) (hOk : v.Ok) (hk : k.length ≤ 64) (hh : v.has k = true) (w : World) (h : Dt w v a) :
  Calls Tryz.prog 62 #[.agg #[.int .i64 v.most, .int .i64 v.sk.wide, .int .u64 v.sk.seed, .slice (some ⟨a.R, 0, none⟩) 4 a.c, .slice (some ⟨a.D, 0, none⟩) v.sk.wide v.sk.wide, .int .i64 v.sk.added, .slice (some ⟨a.G, 0, none⟩) 3 3, .int .i64 v.pl], .string (str k)] w fun e w' => ∃ a' val, e = .returned (.tuple #[.agg #[.int .i64 ((v.touch k).most : Int), .int .i64 ((v.touch k).sk.wide : Int), .int .u64 ((v.touch k).sk.seed : Int), .slice (some ⟨a'.R, 0, none⟩) 4 a'.c, .slice (some ⟨a'.D, 0, none⟩) (v.touch k).sk.wide (v.touch k).sk.wide, .int .i64 ((v.touch k).sk.added : Int), .slice (some ⟨a'.G, 0, none⟩) 3 3, .int .i64 ((v.touch k).pl : Int)], val]) ∧ Goes w a (v.touch k) a' w' ∧ Told w val [] w' := by
 have h1 := Wk.new2 h hok.fit.n
 have hr1 := Blk.new (w.alloc (.cells #[.int .i64 v.most, .int .i64 v.sk.wide, .int .u64 v.sk.seed, .slice (some ⟨a.R, 0, none⟩) 4 a.c, .slice (some ⟨a.D, 0, none⟩) v.sk.wide v.sk.wide, .int .i64 v.sk.added, .slice (some ⟨a.G, 0, none⟩) 3 3, .int .i64 v.pl] 38)) 38 #[.int .i64 0, .int .i64 0, .int .u64 0, .slice none 0 0, .slice none 0 0, .int .i64 0, .slice none 0 0, .int .i64 0]
 rw [show (w.alloc (.cells #[.int .i64 v.most, .int .i64 v.sk.wide, .int .u64 v.sk.seed, .slice (some ⟨a.R, 0, none⟩) 4 a.c, .slice (some ⟨a.D, 0, none⟩) v.sk.wide v.sk.wide, .int .i64 v.sk.added, .slice (some ⟨a.G, 0, none⟩) 3 3, .int .i64 v.pl] 38)).heap.size = w.heap.size + 1 by simp] at hr1
 have hsz := str_size k
 have d1 : decide ((64 : Int) < (k.length : Int)) = false := decide_eq_false (by omega)
 have htc := fun (W : World) (hW : Dt W v a) => rtouch_c (k := k) hok hOk W hW
 rw [hh] at htc
 have HN2 := Lib.hid (Tv.touch_spec hOk k).1.fit.n
 generalize v.touch k = v2 at *
 clear hok hOk h hh
 go_enter Tryz.func62, Tryz.ntmps62
 go_upto_region 1 with (fail)
 generalize (w.alloc (.cells #[.int .i64 v.most, .int .i64 v.sk.wide, .int .u64 v.sk.seed, .slice (some ⟨a.R, 0, none⟩) 4 a.c, .slice (some ⟨a.D, 0, none⟩) v.sk.wide v.sk.wide, .int .i64 v.sk.added, .slice (some ⟨a.G, 0, none⟩) 3 3, .int .i64 v.pl] 38)).alloc (.cells #[.int .i64 0, .int .i64 0, .int .u64 0, .slice none 0 0, .slice none 0 0, .int .i64 0, .slice none 0 0, .int .i64 0] 38) = w1 at *
 obtain ⟨x0, x1, x2, x3, x4, x5, x6, x7⟩ := h1.all
 go_wp2_with fail
 refine (htc _ h1.d).mono ?_
 rintro e w2 ⟨a2, rfl, hg⟩
 clear x0 x1 x2 x3 x4 x5 x6 x7
 have hb2 := (Below.refl _ w2).alloc (Nat.le_refl _) (.cells #[.int .i64 v2.most, .int .i64 v2.sk.wide, .int .u64 v2.sk.seed, .slice (some ⟨a2.R, 0, none⟩) 4 a2.c, .slice (some ⟨a2.D, 0, none⟩) v2.sk.wide v2.sk.wide, .int .i64 v2.sk.added, .slice (some ⟨a2.G, 0, none⟩) 3 3, .int .i64 v2.pl] 38)
 have hg3 := hg.onto hb2
 have hr3 := (hr1.below hg.below hr1.lt).below hb2 (hr1.below hg.below hr1.lt).lt
 have hbx := Blk.new w2 38 #[.int .i64 v2.most, .int .i64 v2.sk.wide, .int .u64 v2.sk.seed, .slice (some ⟨a2.R, 0, none⟩) 4 a2.c, .slice (some ⟨a2.D, 0, none⟩) v2.sk.wide v2.sk.wide, .int .i64 v2.sk.added, .slice (some ⟨a2.G, 0, none⟩) 3 3, .int .i64 v2.pl]
 clear hr1
 have z0 := hr3.cell 0
 have f0 := hr3.free 0
 have z1 := hr3.cell 1
 have f1 := hr3.free 1
 have z2 := hr3.cell 2
 have f2 := hr3.free 2
 have z3 := hr3.cell 3
 have f3 := hr3.free 3
 have z4 := hr3.cell 4
 have f4 := hr3.free 4
 have z5 := hr3.cell 5
 have f5 := hr3.free 5
 have z6 := hr3.cell 6
 have f6 := hr3.free 6
 have z7 := hr3.cell 7
 have f7 := hr3.free 7
 simp only [gA, gB, gC] at z0 z1 z2 z3 z4 z5 z6 z7
 have y0 := hbx.cell 0
 have y1 := hbx.cell 1
 have y2 := hbx.cell 2
 have y3 := hbx.cell 3
 have y4 := hbx.cell 4
 have y5 := hbx.cell 5
 have y6 := hbx.cell 6
 have y7 := hbx.cell 7
 simp only [gA, gB, gC] at y0 y1 y2 y3 y4 y5 y6 y7
 go_wp2_with fail
 obtain ⟨hG, hB⟩ := res_goes h1 hg3 HN2.out (b := w.heap.size + 1) (by omega) (by omega) hr3
 refine bodyPost_ret (results_row_tmp rfl _ _ (w.heap.size + 1) rfl (run_loadVar_row _ _ _ _ _ _ _ hB Tryz.underlying38 rfl (by kernel_rfl))) rfl ⟨a2, _, rfl, hG, Told.nil _ _⟩
set_option maxHeartbeats 8000000 in
set_option maxRecDepth 100000 in
theorem rins_new (hok : v.Fine) (hOk : v.Ok) (hk : k.length ≤ 64) (hno : v.has k = false) (w : World) (h : Dt w v a) :
  Calls Tryz.prog 62 #[.agg #[.int .i64 v.most, .int .i64 v.sk.wide, .int .u64 v.sk.seed, .slice (some ⟨a.R, 0, none⟩) 4 a.c, .slice (some ⟨a.D, 0, none⟩) v.sk.wide v.sk.wide, .int .i64 v.sk.added, .slice (some ⟨a.G, 0, none⟩) 3 3, .int .i64 v.pl], .string (str k)] w fun e w' => ∃ a' val, e = .returned (.tuple #[.agg #[.int .i64 ((v.fresh k).most : Int), .int .i64 ((v.fresh k).sk.wide : Int), .int .u64 ((v.fresh k).sk.seed : Int), .slice (some ⟨a'.R, 0, none⟩) 4 a'.c, .slice (some ⟨a'.D, 0, none⟩) (v.fresh k).sk.wide (v.fresh k).sk.wide, .int .i64 ((v.fresh k).sk.added : Int), .slice (some ⟨a'.G, 0, none⟩) 3 3, .int .i64 ((v.fresh k).pl : Int)], val]) ∧ Goes w a (v.fresh k) a' w' ∧ Told w val (v.freshK k) w' := by
 have h1 := Wk.new2 h hok.fit.n
 have hr1 := Blk.new (w.alloc (.cells #[.int .i64 v.most, .int .i64 v.sk.wide, .int .u64 v.sk.seed, .slice (some ⟨a.R, 0, none⟩) 4 a.c, .slice (some ⟨a.D, 0, none⟩) v.sk.wide v.sk.wide, .int .i64 v.sk.added, .slice (some ⟨a.G, 0, none⟩) 3 3, .int .i64 v.pl] 38)) 38 #[.int .i64 0, .int .i64 0, .int .u64 0, .slice none 0 0, .slice none 0 0, .int .i64 0, .slice none 0 0, .int .i64 0]
 rw [show (w.alloc (.cells #[.int .i64 v.most, .int .i64 v.sk.wide, .int .u64 v.sk.seed, .slice (some ⟨a.R, 0, none⟩) 4 a.c, .slice (some ⟨a.D, 0, none⟩) v.sk.wide v.sk.wide, .int .i64 v.sk.added, .slice (some ⟨a.G, 0, none⟩) 3 3, .int .i64 v.pl] 38)).heap.size = w.heap.size + 1 by simp] at hr1
 have hsz := str_size k
 have d64 : decide ((64 : Int) < (k.length : Int)) = false := decide_eq_false (by omega)
 have hat : v.at_ k = none := by unfold Tv.has at hno; cases e : v.at_ k with | none => rfl | some i => rw [e] at hno; cases hno
 have htc := fun (W : World) (hW : Dt W v a) => rtouch_none (k := k) hok hat W hW
 have hok1 := hok.note k
 have hadd := fun (W : World) (hW : Dt W v a) => d_add (k := k) hok (by omega) W hW
 have hc1 : (v.note k).can k := (hOk.note k).fit.room (hOk.note k).kept
 have hfr := fun (a1 : Ad) (W : World) (hW : Dt W (v.note k) a1) => rfr_c (jj := 0) (j := 0) rfl hok1 (by omega) hk hc1 W hW
 have hok2 := hok1.fr (j := 0) (by omega) hk hc1
 have hF := fun hw => Tv.full_of hOk hk hno hw
 have hq1 : (v.came k).len 0 ≤ wMost v.most → v.fresh k = v.came k ∧ v.freshK k = [] := fun hw => ⟨if_pos hw, if_pos hw⟩
 have hq2 : ¬ (v.came k).len 0 ≤ wMost v.most → v.fresh k = (v.came k).leave ∧ v.freshK k = (v.came k).leaveK := fun hw => ⟨if_neg hw, if_neg hw⟩
 have HN1 := Lib.hid hok1.fit.n
 have HM1 := Lib.hid (show (v.note k).most = v.most from rfl)
 have hm2 : (v.came k).most = v.most := rfl
 have hc : (v.note k).fr 0 k = v.came k := rfl
 rw [hc] at hfr hok2
 generalize v.fresh k = s at *
 generalize v.freshK k = sk at *
 generalize v.came k = v2 at *
 generalize v.note k = v1 at *
 rw [← hm2] at hq1 hq2 hF
 have hpa := fun (a2 : Ad) (W : World) (hW : Dt W v2 a2) => d_parts hok2 W hW
 have hl0 := hok2.fit.len_le (i := 0) (by omega)
 have hkp := hok2.fit.kept
 have hws := wMost_le hok2.fit.m1
 have hms := hok2.fit.m2
 have HN2 := Lib.hid hok2.fit.n
 clear hat hok1 hc1 hc hm2 hok hno h
 by_cases hw : v2.len 0 ≤ wMost v2.most
 ·have e1 : decide ((v2.len 0 : Int) ≤ (wMost v2.most : Int)) = true := decide_eq_true (by omega)
  have e2 : decide (v2.len 0 ≤ wMost v2.most) = true := decide_eq_true hw
  have HQ := Lib.hid (hq1 hw)
  clear hq1 hq2 hF hOk hok2 hkp
  go_enter Tryz.func62, Tryz.ntmps62
  go_upto_region 1 with (fail)
  generalize (w.alloc (.cells #[.int .i64 v.most, .int .i64 v.sk.wide, .int .u64 v.sk.seed, .slice (some ⟨a.R, 0, none⟩) 4 a.c, .slice (some ⟨a.D, 0, none⟩) v.sk.wide v.sk.wide, .int .i64 v.sk.added, .slice (some ⟨a.G, 0, none⟩) 3 3, .int .i64 v.pl] 38)).alloc (.cells #[.int .i64 0, .int .i64 0, .int .u64 0, .slice none 0 0, .slice none 0 0, .int .i64 0, .slice none 0 0, .int .i64 0] 38) = w1 at *
  obtain ⟨x0, x1, x2, x3, x4, x5, x6, x7⟩ := h1.all
  go_wp2_with fail
  refine (htc _ h1.d).mono ?_
  rintro e w2 ⟨a9, rfl, hg⟩
  clear x0 x1 x2 x3 x4 x5 x6 x7
  have hb2 := (Below.refl _ w2).alloc (Nat.le_refl _) (.cells #[.int .i64 v.most, .int .i64 v.sk.wide, .int .u64 v.sk.seed, .slice (some ⟨a9.R, 0, none⟩) 4 a9.c, .slice (some ⟨a9.D, 0, none⟩) v.sk.wide v.sk.wide, .int .i64 v.sk.added, .slice (some ⟨a9.G, 0, none⟩) 3 3, .int .i64 v.pl] 38)
  have h2 := (h1.onto hg.below).onto hb2
  have hr2 := (hr1.below hg.below hr1.lt).below hb2 (hr1.below hg.below hr1.lt).lt
  clear hr1 h1 hb2 hg
  go_upto_region 6 with (fail)
  generalize w2.alloc (.cells #[.int .i64 v.most, .int .i64 v.sk.wide, .int .u64 v.sk.seed, .slice (some ⟨a9.R, 0, none⟩) 4 a9.c, .slice (some ⟨a9.D, 0, none⟩) v.sk.wide v.sk.wide, .int .i64 v.sk.added, .slice (some ⟨a9.G, 0, none⟩) 3 3, .int .i64 v.pl] 38) = w3 at *
  obtain ⟨x0, x1, x2, x3, x4, x5, x6, x7⟩ := h2.all
  go_wp2_with fail
  refine (hadd _ h2.d).mono ?_
  rintro e w3 ⟨a1, rfl, eG, hg⟩
  clear x0 x1 x2 x3 x4 x5 x6 x7
  have hbx := h2.box.below hg.below h2.box.lt
  have y1 := hbx.cell 1
  have f1 := hbx.free 1
  have y2 := hbx.cell 2
  have f2 := hbx.free 2
  have y3 := hbx.cell 3
  have f3 := hbx.free 3
  have y4 := hbx.cell 4
  have f4 := hbx.free 4
  have y5 := hbx.cell 5
  have f5 := hbx.free 5
  simp only [gA, gB, gC] at y1 y2 y3 y4 y5
  go_upto_region 7 with (fail)
  clear y1 f1 y2 f2 y3 f3 y4 f4 y5 f5
  have h4 := h2.sketch hg HN1.out HM1.out eG
  have hr4 : Blk (((((w3.setCell ⟨w.heap.size, 1, none⟩ (.int .i64 v1.sk.wide)).setCell ⟨w.heap.size, 2, none⟩ (.int .u64 v1.sk.seed)).setCell ⟨w.heap.size, 3, none⟩ (.slice (some ⟨a1.R, 0, none⟩) 4 a1.c)).setCell ⟨w.heap.size, 4, none⟩ (.slice (some ⟨a1.D, 0, none⟩) v1.sk.wide v1.sk.wide)).setCell ⟨w.heap.size, 5, none⟩ (.int .i64 v1.sk.added)) (w.heap.size + 1) 38 #[.int .i64 0, .int .i64 0, .int .u64 0, .slice none 0 0, .slice none 0 0, .int .i64 0, .slice none 0 0, .int .i64 0] := (far5 _ (by omega) _ _ _ _ _).trans (hr2.below hg.below hr2.lt)
  clear hr2
  generalize (((((w3.setCell ⟨w.heap.size, 1, none⟩ (.int .i64 v1.sk.wide)).setCell ⟨w.heap.size, 2, none⟩ (.int .u64 v1.sk.seed)).setCell ⟨w.heap.size, 3, none⟩ (.slice (some ⟨a1.R, 0, none⟩) 4 a1.c)).setCell ⟨w.heap.size, 4, none⟩ (.slice (some ⟨a1.D, 0, none⟩) v1.sk.wide v1.sk.wide)).setCell ⟨w.heap.size, 5, none⟩ (.int .i64 v1.sk.added)) = w4 at *
  clear h2 hbx hg eG
  obtain ⟨x0, x1, x2, x3, x4, x5, x6, x7⟩ := h4.all
  go_wp2_with fail
  refine (hfr a1 _ h4.d).mono ?_
  rintro e w5 ⟨a2, rfl, hg⟩
  clear x0 x1 x2 x3 x4 x5 x6 x7
  have hbx := h4.box.below hg.below h4.box.lt
  have y0 := hbx.cell 0
  have f0 := hbx.free 0
  have y1 := hbx.cell 1
  have f1 := hbx.free 1
  have y2 := hbx.cell 2
  have f2 := hbx.free 2
  have y3 := hbx.cell 3
  have f3 := hbx.free 3
  have y4 := hbx.cell 4
  have f4 := hbx.free 4
  have y5 := hbx.cell 5
  have f5 := hbx.free 5
  have y6 := hbx.cell 6
  have f6 := hbx.free 6
  have y7 := hbx.cell 7
  have f7 := hbx.free 7
  simp only [gA, gB, gC] at y0 y1 y2 y3 y4 y5 y6 y7
  go_upto_region 8 with (fail)
  clear y0 f0 y1 f1 y2 f2 y3 f3 y4 f4 y5 f5 y6 f6 y7 f7
  have h6 := h4.whole hg HN2.out
  have hr6 : Blk ((((((((w5.setCell ⟨w.heap.size, 0, none⟩ (.int .i64 v2.most)).setCell ⟨w.heap.size, 1, none⟩ (.int .i64 v2.sk.wide)).setCell ⟨w.heap.size, 2, none⟩ (.int .u64 v2.sk.seed)).setCell ⟨w.heap.size, 3, none⟩ (.slice (some ⟨a2.R, 0, none⟩) 4 a2.c)).setCell ⟨w.heap.size, 4, none⟩ (.slice (some ⟨a2.D, 0, none⟩) v2.sk.wide v2.sk.wide)).setCell ⟨w.heap.size, 5, none⟩ (.int .i64 v2.sk.added)).setCell ⟨w.heap.size, 6, none⟩ (.slice (some ⟨a2.G, 0, none⟩) 3 3)).setCell ⟨w.heap.size, 7, none⟩ (.int .i64 v2.pl)) (w.heap.size + 1) 38 #[.int .i64 0, .int .i64 0, .int .u64 0, .slice none 0 0, .slice none 0 0, .int .i64 0, .slice none 0 0, .int .i64 0] := (far8 _ (by omega) _ _ _ _ _ _ _ _).trans (hr4.below hg.below hr4.lt)
  clear hr4
  generalize ((((((((w5.setCell ⟨w.heap.size, 0, none⟩ (.int .i64 v2.most)).setCell ⟨w.heap.size, 1, none⟩ (.int .i64 v2.sk.wide)).setCell ⟨w.heap.size, 2, none⟩ (.int .u64 v2.sk.seed)).setCell ⟨w.heap.size, 3, none⟩ (.slice (some ⟨a2.R, 0, none⟩) 4 a2.c)).setCell ⟨w.heap.size, 4, none⟩ (.slice (some ⟨a2.D, 0, none⟩) v2.sk.wide v2.sk.wide)).setCell ⟨w.heap.size, 5, none⟩ (.int .i64 v2.sk.added)).setCell ⟨w.heap.size, 6, none⟩ (.slice (some ⟨a2.G, 0, none⟩) 3 3)).setCell ⟨w.heap.size, 7, none⟩ (.int .i64 v2.pl)) = w6 at *
  clear h4 hbx hg
  obtain ⟨x0, x1, x2, x3, x4, x5, x6, x7⟩ := h6.all
  go_wp2_with fail
  refine (hpa a2 _ h6.d).mono ?_
  rintro e w7 ⟨rfl, hb⟩
  clear x0 x1 x2 x3 x4 x5 x6 x7
  have h7 := h6.onto hb
  have hr7 := hr6.below hb hr6.lt
  clear hr6
  clear h6 hb
  obtain ⟨x0, x1, x2, x3, x4, x5, x6, x7⟩ := h7.all
  obtain ⟨ga, gc, q1⟩ := h7.d.list HN2.out (i := 0) (by omega)
  have z0 := hr7.cell 0
  have f0 := hr7.free 0
  have z1 := hr7.cell 1
  have f1 := hr7.free 1
  have z2 := hr7.cell 2
  have f2 := hr7.free 2
  have z3 := hr7.cell 3
  have f3 := hr7.free 3
  have z4 := hr7.cell 4
  have f4 := hr7.free 4
  have z5 := hr7.cell 5
  have f5 := hr7.free 5
  have z6 := hr7.cell 6
  have f6 := hr7.free 6
  have z7 := hr7.cell 7
  have f7 := hr7.free 7
  simp only [gA, gB, gC] at z0 z1 z2 z3 z4 z5 z6 z7
  go_wp2_with fail
  obtain ⟨hG, hB⟩ := res_goes h7 (Goes.refl h7.d) HN2.out (b := w.heap.size + 1) (by omega) (by omega) hr7
  refine bodyPost_ret (results_row_tmp rfl _ _ (w.heap.size + 1) rfl (run_loadVar_row _ _ _ _ _ _ _ hB Tryz.underlying38 rfl (by kernel_rfl))) rfl ⟨a2, _, by rw [HQ.out.1] <;> rfl, by rw [HQ.out.1]; exact hG, by rw [HQ.out.2]; exact Told.nil _ _⟩
 ·have e1 : decide ((v2.len 0 : Int) ≤ (wMost v2.most : Int)) = false := decide_eq_false (by omega)
  have e2 : decide (v2.len 0 ≤ wMost v2.most) = false := decide_eq_false hw
  obtain ⟨one, hF⟩ := hF hw
  have hq := hq2 hw
  have hol : one.length ≤ 64 := hF.fit.klen (by omega) hF.mem
  have hs : v2.leave = v2.leaveOf one := by unfold Tv.leave; rw [hF.last]; rfl
  have hsk : v2.leaveK = v2.leaveOfK one := by unfold Tv.leaveK; rw [hF.last]; rfl
  rw [hs, hsk] at hq
  have hbk0 := fun (a2 : Ad) (W : World) (hW : Dt W v2 a2) => d_back hok2 (i := 0) (by omega) W hW
  rw [hF.last] at hbk0
  simp only [Option.getD_some, Option.isSome_some] at hbk0
  have fL := fun (a2 : Ad) (W : World) (hW : Wr w a v2 a2 W) => wr_len hok2 hW
  clear hq1 hq2 hs hsk hOk
  by_cases hkm : v2.kept ≤ v2.most
  ·have e3 : decide ((v2.kept : Int) ≤ (v2.most : Int)) = true := decide_eq_true (by omega)
   have e4 : decide (v2.kept ≤ v2.most) = true := decide_eq_true hkm
   have hx1 : v2.leaveOf one = v2.fr 1 one := if_pos hkm
   have hx2 : v2.leaveOfK one = [] := if_pos hkm
   rw [hx1, hx2] at hq
   have hc2 := hF.fit.in_ hF.fit.n (by omega) hF.mem
   have hfr1 := fun (a2 : Ad) (W : World) (hW : Dt W v2 a2) => rfr_c (jj := 1) (j := 1) rfl hok2 (by omega) hol hc2 W hW
   have HN3 := Lib.hid (show (v2.fr 1 one).rg.n = 3 from hok2.fit.n)
   generalize v2.fr 1 one = v3 at *
   have HQ := Lib.hid hq
   clear hq hx1 hx2 hF hok2 hc2
   go_enter Tryz.func62, Tryz.ntmps62
   go_upto_region 1 with (fail)
   generalize (w.alloc (.cells #[.int .i64 v.most, .int .i64 v.sk.wide, .int .u64 v.sk.seed, .slice (some ⟨a.R, 0, none⟩) 4 a.c, .slice (some ⟨a.D, 0, none⟩) v.sk.wide v.sk.wide, .int .i64 v.sk.added, .slice (some ⟨a.G, 0, none⟩) 3 3, .int .i64 v.pl] 38)).alloc (.cells #[.int .i64 0, .int .i64 0, .int .u64 0, .slice none 0 0, .slice none 0 0, .int .i64 0, .slice none 0 0, .int .i64 0] 38) = w1 at *
   obtain ⟨x0, x1, x2, x3, x4, x5, x6, x7⟩ := h1.all
   go_wp2_with fail
   refine (htc _ h1.d).mono ?_
   rintro e w2 ⟨a9, rfl, hg⟩
   clear x0 x1 x2 x3 x4 x5 x6 x7
   have hb2 := (Below.refl _ w2).alloc (Nat.le_refl _) (.cells #[.int .i64 v.most, .int .i64 v.sk.wide, .int .u64 v.sk.seed, .slice (some ⟨a9.R, 0, none⟩) 4 a9.c, .slice (some ⟨a9.D, 0, none⟩) v.sk.wide v.sk.wide, .int .i64 v.sk.added, .slice (some ⟨a9.G, 0, none⟩) 3 3, .int .i64 v.pl] 38)
   have h2 := (h1.onto hg.below).onto hb2
   have hr2 := (hr1.below hg.below hr1.lt).below hb2 (hr1.below hg.below hr1.lt).lt
   clear hr1 h1 hb2 hg
   go_upto_region 6 with (fail)
   generalize w2.alloc (.cells #[.int .i64 v.most, .int .i64 v.sk.wide, .int .u64 v.sk.seed, .slice (some ⟨a9.R, 0, none⟩) 4 a9.c, .slice (some ⟨a9.D, 0, none⟩) v.sk.wide v.sk.wide, .int .i64 v.sk.added, .slice (some ⟨a9.G, 0, none⟩) 3 3, .int .i64 v.pl] 38) = w3 at *
   obtain ⟨x0, x1, x2, x3, x4, x5, x6, x7⟩ := h2.all
   go_wp2_with fail
   refine (hadd _ h2.d).mono ?_
   rintro e w3 ⟨a1, rfl, eG, hg⟩
   clear x0 x1 x2 x3 x4 x5 x6 x7
   have hbx := h2.box.below hg.below h2.box.lt
   have y1 := hbx.cell 1
   have f1 := hbx.free 1
   have y2 := hbx.cell 2
   have f2 := hbx.free 2
   have y3 := hbx.cell 3
   have f3 := hbx.free 3
   have y4 := hbx.cell 4
   have f4 := hbx.free 4
   have y5 := hbx.cell 5
   have f5 := hbx.free 5
   simp only [gA, gB, gC] at y1 y2 y3 y4 y5
   go_upto_region 7 with (fail)
   clear y1 f1 y2 f2 y3 f3 y4 f4 y5 f5
   have h4 := h2.sketch hg HN1.out HM1.out eG
   have hr4 : Blk (((((w3.setCell ⟨w.heap.size, 1, none⟩ (.int .i64 v1.sk.wide)).setCell ⟨w.heap.size, 2, none⟩ (.int .u64 v1.sk.seed)).setCell ⟨w.heap.size, 3, none⟩ (.slice (some ⟨a1.R, 0, none⟩) 4 a1.c)).setCell ⟨w.heap.size, 4, none⟩ (.slice (some ⟨a1.D, 0, none⟩) v1.sk.wide v1.sk.wide)).setCell ⟨w.heap.size, 5, none⟩ (.int .i64 v1.sk.added)) (w.heap.size + 1) 38 #[.int .i64 0, .int .i64 0, .int .u64 0, .slice none 0 0, .slice none 0 0, .int .i64 0, .slice none 0 0, .int .i64 0] := (far5 _ (by omega) _ _ _ _ _).trans (hr2.below hg.below hr2.lt)
   clear hr2
   generalize (((((w3.setCell ⟨w.heap.size, 1, none⟩ (.int .i64 v1.sk.wide)).setCell ⟨w.heap.size, 2, none⟩ (.int .u64 v1.sk.seed)).setCell ⟨w.heap.size, 3, none⟩ (.slice (some ⟨a1.R, 0, none⟩) 4 a1.c)).setCell ⟨w.heap.size, 4, none⟩ (.slice (some ⟨a1.D, 0, none⟩) v1.sk.wide v1.sk.wide)).setCell ⟨w.heap.size, 5, none⟩ (.int .i64 v1.sk.added)) = w4 at *
   clear h2 hbx hg eG
   obtain ⟨x0, x1, x2, x3, x4, x5, x6, x7⟩ := h4.all
   go_wp2_with fail
   refine (hfr a1 _ h4.d).mono ?_
   rintro e w5 ⟨a2, rfl, hg⟩
   clear x0 x1 x2 x3 x4 x5 x6 x7
   have hbx := h4.box.below hg.below h4.box.lt
   have y0 := hbx.cell 0
   have f0 := hbx.free 0
   have y1 := hbx.cell 1
   have f1 := hbx.free 1
   have y2 := hbx.cell 2
   have f2 := hbx.free 2
   have y3 := hbx.cell 3
   have f3 := hbx.free 3
   have y4 := hbx.cell 4
   have f4 := hbx.free 4
   have y5 := hbx.cell 5
   have f5 := hbx.free 5
   have y6 := hbx.cell 6
   have f6 := hbx.free 6
   have y7 := hbx.cell 7
   have f7 := hbx.free 7
   simp only [gA, gB, gC] at y0 y1 y2 y3 y4 y5 y6 y7
   go_upto_region 8 with (fail)
   clear y0 f0 y1 f1 y2 f2 y3 f3 y4 f4 y5 f5 y6 f6 y7 f7
   have h6 := h4.whole hg HN2.out
   have hr6 : Blk ((((((((w5.setCell ⟨w.heap.size, 0, none⟩ (.int .i64 v2.most)).setCell ⟨w.heap.size, 1, none⟩ (.int .i64 v2.sk.wide)).setCell ⟨w.heap.size, 2, none⟩ (.int .u64 v2.sk.seed)).setCell ⟨w.heap.size, 3, none⟩ (.slice (some ⟨a2.R, 0, none⟩) 4 a2.c)).setCell ⟨w.heap.size, 4, none⟩ (.slice (some ⟨a2.D, 0, none⟩) v2.sk.wide v2.sk.wide)).setCell ⟨w.heap.size, 5, none⟩ (.int .i64 v2.sk.added)).setCell ⟨w.heap.size, 6, none⟩ (.slice (some ⟨a2.G, 0, none⟩) 3 3)).setCell ⟨w.heap.size, 7, none⟩ (.int .i64 v2.pl)) (w.heap.size + 1) 38 #[.int .i64 0, .int .i64 0, .int .u64 0, .slice none 0 0, .slice none 0 0, .int .i64 0, .slice none 0 0, .int .i64 0] := (far8 _ (by omega) _ _ _ _ _ _ _ _).trans (hr4.below hg.below hr4.lt)
   clear hr4
   generalize ((((((((w5.setCell ⟨w.heap.size, 0, none⟩ (.int .i64 v2.most)).setCell ⟨w.heap.size, 1, none⟩ (.int .i64 v2.sk.wide)).setCell ⟨w.heap.size, 2, none⟩ (.int .u64 v2.sk.seed)).setCell ⟨w.heap.size, 3, none⟩ (.slice (some ⟨a2.R, 0, none⟩) 4 a2.c)).setCell ⟨w.heap.size, 4, none⟩ (.slice (some ⟨a2.D, 0, none⟩) v2.sk.wide v2.sk.wide)).setCell ⟨w.heap.size, 5, none⟩ (.int .i64 v2.sk.added)).setCell ⟨w.heap.size, 6, none⟩ (.slice (some ⟨a2.G, 0, none⟩) 3 3)).setCell ⟨w.heap.size, 7, none⟩ (.int .i64 v2.pl)) = w6 at *
   clear h4 hbx hg
   obtain ⟨x0, x1, x2, x3, x4, x5, x6, x7⟩ := h6.all
   go_wp2_with fail
   refine (hpa a2 _ h6.d).mono ?_
   rintro e w7 ⟨rfl, hb⟩
   clear x0 x1 x2 x3 x4 x5 x6 x7
   have h7 := h6.onto hb
   have hr7 := hr6.below hb hr6.lt
   clear hr6
   clear h6 hb
   obtain ⟨x0, x1, x2, x3, x4, x5, x6, x7⟩ := h7.all
   obtain ⟨ga, gc, q1⟩ := h7.d.list HN2.out (i := 0) (by omega)
   go_upto_region 11 with (fail)
   clear q1
   go_wp2_with fail
   refine (hbk0 a2 _ h7.d).mono ?_
   rintro e w8 ⟨rfl, hb⟩
   clear x0 x1 x2 x3 x4 x5 x6 x7
   have h8 := h7.onto hb
   have hr8 := hr7.below hb hr7.lt
   clear hr7
   clear h7 hb
   obtain ⟨x0, x1, x2, x3, x4, x5, x6, x7⟩ := h8.all
   go_upto_region 12 with (fail)
   clear x0 x1 x2 x3 x4 x5 x6 x7
   have hd := ((⟨h8, hr8⟩ : Wr w a v2 a2 w8).drewN 1).all
   go_region_held3 (fun W => (W.cell? ⟨w.heap.size, 0, none⟩ = some (.int .i64 v2.most) ∧ W.cell? ⟨w.heap.size, 1, none⟩ = some (.int .i64 v2.sk.wide) ∧ W.cell? ⟨w.heap.size, 2, none⟩ = some (.int .u64 v2.sk.seed) ∧ W.cell? ⟨w.heap.size, 3, none⟩ = some (.slice (some ⟨a2.R, 0, none⟩) 4 a2.c) ∧ W.cell? ⟨w.heap.size, 4, none⟩ = some (.slice (some ⟨a2.D, 0, none⟩) v2.sk.wide v2.sk.wide) ∧ W.cell? ⟨w.heap.size, 5, none⟩ = some (.int .i64 v2.sk.added) ∧ W.cell? ⟨w.heap.size, 6, none⟩ = some (.slice (some ⟨a2.G, 0, none⟩) 3 3) ∧ W.cell? ⟨w.heap.size, 7, none⟩ = some (.int .i64 v2.pl)) ∧ Wr w a v2 a2 W)
    (first | assumption | exact hd | exact Wr.all (by assumption))
    (first | (go_at_call 35; (with_reducible refine Calls.mono (fL a2 _ (by assumption : (_ ∧ _ ∧ _ ∧ _ ∧ _ ∧ _ ∧ _ ∧ _) ∧ _).2) ?_); rintro e wv ⟨rfl, hwv⟩) | fail)
   have hZ := (by assumption : (_ ∧ _ ∧ _ ∧ _ ∧ _ ∧ _ ∧ _ ∧ _) ∧ Wr w a v2 a2 _).2
   have h9 := hZ.k
   have hr9 := hZ.r
   clear hd hZ h8 hr8
   obtain ⟨x0, x1, x2, x3, x4, x5, x6, x7⟩ := h9.all
   go_upto_region 13 with (fail)
   go_wp2_with fail
   refine (hfr1 a2 _ h9.d).mono ?_
   rintro e w10 ⟨a3, rfl, hg⟩
   clear x0 x1 x2 x3 x4 x5 x6 x7
   have hrx := hr9.below hg.below hr9.lt
   have y0 := hrx.cell 0
   have f0 := hrx.free 0
   have y1 := hrx.cell 1
   have f1 := hrx.free 1
   have y2 := hrx.cell 2
   have f2 := hrx.free 2
   have y3 := hrx.cell 3
   have f3 := hrx.free 3
   have y4 := hrx.cell 4
   have f4 := hrx.free 4
   have y5 := hrx.cell 5
   have f5 := hrx.free 5
   have y6 := hrx.cell 6
   have f6 := hrx.free 6
   have y7 := hrx.cell 7
   have f7 := hrx.free 7
   simp only [gA, gB, gC] at y0 y1 y2 y3 y4 y5 y6 y7
   go_wp2_with fail
   obtain ⟨hG, hB⟩ := res_goes h9 hg HN3.out (b := w.heap.size + 1) (by omega) (by omega) hrx
   refine bodyPost_ret (results_row_tmp rfl _ _ (w.heap.size + 1) rfl (run_loadVar_row _ _ _ _ _ _ _ hB Tryz.underlying38 rfl (by kernel_rfl))) rfl ⟨a3, _, by rw [HQ.out.1] <;> rfl, by rw [HQ.out.1]; exact hG, by rw [HQ.out.2]; exact Told.nil _ _⟩
  ·have e3 : decide ((v2.kept : Int) ≤ (v2.most : Int)) = false := decide_eq_false (by omega)
   have e4 : decide (v2.kept ≤ v2.most) = false := decide_eq_false hkm
   have hx1 : v2.leaveOf one = match v2.stays one with | none => v2.dr one | some o => (v2.dr o).fr 1 one := if_neg hkm
   have hx2 : v2.leaveOfK one = match v2.stays one with | none => [one] | some o => [o] := if_neg hkm
   rw [hx1, hx2] at hq
   have hbk1 := fun (a2 : Ad) (W : World) (hW : Dt W v2 a2) => d_back hok2 (i := 1) (by omega) W hW
   have hbk2 := fun (a2 : Ad) (W : World) (hW : Dt W v2 a2) => d_back hok2 (i := 2) (by omega) W hW
   clear hx1 hx2
   cases e1b : v2.last 1 with
   | some o =>
    have e5 : v2.first [1, 2] = some o := by unfold Tv.first; rw [e1b]
    obtain ⟨hol2, hne, io, hio, hmo⟩ := hF.stays_in e5
    simp only [e1b, Option.getD_some, Option.isSome_some] at hbk1
    have fs1 := fun (a2 : Ad) (W : World) (hW : Wr w a v2 a2 W) => wr_seen (one := one) hok2 hol hW
    have fs2 := fun (a2 : Ad) (W : World) (hW : Wr w a v2 a2 W) => wr_seen (one := o) hok2 hol2 hW
    clear e1b hmo
    by_cases hse : v2.seen one ≤ v2.seen o
    ·have hst : v2.stays one = none := by unfold Tv.stays; rw [e5]; exact if_pos hse
     have e6 : decide ((v2.seen o : Int) < (v2.seen one : Int)) = false := decide_eq_false (by omega)
     have e7 : decide (v2.seen o < v2.seen one) = false := decide_eq_false (by omega)
     have e8 : ¬ v2.seen o < v2.seen one := by omega
     clear e5
     have hq3 : s = v2.dr one ∧ sk = [one] := by rw [hst] at hq; exact hq
     have hdr := fun (a2 : Ad) (W : World) (hW : Dt W v2 a2) => d_drop hok2 one W hW
     have HN3 := Lib.hid (show (v2.dr one).rg.n = 3 from hok2.fit.n)
     have HM3 := Lib.hid (show (v2.dr one).most = v2.most from rfl)
     have HS3 := Lib.hid (show (v2.dr one).sk = v2.sk from rfl)
     generalize v2.dr one = v3 at *
     have HQ := Lib.hid hq3
     clear hq hq3 hst hF hok2
     go_enter Tryz.func62, Tryz.ntmps62
     go_upto_region 1 with (fail)
     generalize (w.alloc (.cells #[.int .i64 v.most, .int .i64 v.sk.wide, .int .u64 v.sk.seed, .slice (some ⟨a.R, 0, none⟩) 4 a.c, .slice (some ⟨a.D, 0, none⟩) v.sk.wide v.sk.wide, .int .i64 v.sk.added, .slice (some ⟨a.G, 0, none⟩) 3 3, .int .i64 v.pl] 38)).alloc (.cells #[.int .i64 0, .int .i64 0, .int .u64 0, .slice none 0 0, .slice none 0 0, .int .i64 0, .slice none 0 0, .int .i64 0] 38) = w1 at *
     obtain ⟨x0, x1, x2, x3, x4, x5, x6, x7⟩ := h1.all
     go_wp2_with fail
     refine (htc _ h1.d).mono ?_
     rintro e w2 ⟨a9, rfl, hg⟩
     clear x0 x1 x2 x3 x4 x5 x6 x7
     have hb2 := (Below.refl _ w2).alloc (Nat.le_refl _) (.cells #[.int .i64 v.most, .int .i64 v.sk.wide, .int .u64 v.sk.seed, .slice (some ⟨a9.R, 0, none⟩) 4 a9.c, .slice (some ⟨a9.D, 0, none⟩) v.sk.wide v.sk.wide, .int .i64 v.sk.added, .slice (some ⟨a9.G, 0, none⟩) 3 3, .int .i64 v.pl] 38)
     have h2 := (h1.onto hg.below).onto hb2
     have hr2 := (hr1.below hg.below hr1.lt).below hb2 (hr1.below hg.below hr1.lt).lt
     clear hr1 h1 hb2 hg
     go_upto_region 6 with (fail)
     generalize w2.alloc (.cells #[.int .i64 v.most, .int .i64 v.sk.wide, .int .u64 v.sk.seed, .slice (some ⟨a9.R, 0, none⟩) 4 a9.c, .slice (some ⟨a9.D, 0, none⟩) v.sk.wide v.sk.wide, .int .i64 v.sk.added, .slice (some ⟨a9.G, 0, none⟩) 3 3, .int .i64 v.pl] 38) = w3 at *
     obtain ⟨x0, x1, x2, x3, x4, x5, x6, x7⟩ := h2.all
     go_wp2_with fail
     refine (hadd _ h2.d).mono ?_
     rintro e w3 ⟨a1, rfl, eG, hg⟩
     clear x0 x1 x2 x3 x4 x5 x6 x7
     have hbx := h2.box.below hg.below h2.box.lt
     have y1 := hbx.cell 1
     have f1 := hbx.free 1
     have y2 := hbx.cell 2
     have f2 := hbx.free 2
     have y3 := hbx.cell 3
     have f3 := hbx.free 3
     have y4 := hbx.cell 4
     have f4 := hbx.free 4
     have y5 := hbx.cell 5
     have f5 := hbx.free 5
     simp only [gA, gB, gC] at y1 y2 y3 y4 y5
     go_upto_region 7 with (fail)
     clear y1 f1 y2 f2 y3 f3 y4 f4 y5 f5
     have h4 := h2.sketch hg HN1.out HM1.out eG
     have hr4 : Blk (((((w3.setCell ⟨w.heap.size, 1, none⟩ (.int .i64 v1.sk.wide)).setCell ⟨w.heap.size, 2, none⟩ (.int .u64 v1.sk.seed)).setCell ⟨w.heap.size, 3, none⟩ (.slice (some ⟨a1.R, 0, none⟩) 4 a1.c)).setCell ⟨w.heap.size, 4, none⟩ (.slice (some ⟨a1.D, 0, none⟩) v1.sk.wide v1.sk.wide)).setCell ⟨w.heap.size, 5, none⟩ (.int .i64 v1.sk.added)) (w.heap.size + 1) 38 #[.int .i64 0, .int .i64 0, .int .u64 0, .slice none 0 0, .slice none 0 0, .int .i64 0, .slice none 0 0, .int .i64 0] := (far5 _ (by omega) _ _ _ _ _).trans (hr2.below hg.below hr2.lt)
     clear hr2
     generalize (((((w3.setCell ⟨w.heap.size, 1, none⟩ (.int .i64 v1.sk.wide)).setCell ⟨w.heap.size, 2, none⟩ (.int .u64 v1.sk.seed)).setCell ⟨w.heap.size, 3, none⟩ (.slice (some ⟨a1.R, 0, none⟩) 4 a1.c)).setCell ⟨w.heap.size, 4, none⟩ (.slice (some ⟨a1.D, 0, none⟩) v1.sk.wide v1.sk.wide)).setCell ⟨w.heap.size, 5, none⟩ (.int .i64 v1.sk.added)) = w4 at *
     clear h2 hbx hg eG
     obtain ⟨x0, x1, x2, x3, x4, x5, x6, x7⟩ := h4.all
     go_wp2_with fail
     refine (hfr a1 _ h4.d).mono ?_
     rintro e w5 ⟨a2, rfl, hg⟩
     clear x0 x1 x2 x3 x4 x5 x6 x7
     have hbx := h4.box.below hg.below h4.box.lt
     have y0 := hbx.cell 0
     have f0 := hbx.free 0
     have y1 := hbx.cell 1
     have f1 := hbx.free 1
     have y2 := hbx.cell 2
     have f2 := hbx.free 2
     have y3 := hbx.cell 3
     have f3 := hbx.free 3
     have y4 := hbx.cell 4
     have f4 := hbx.free 4
     have y5 := hbx.cell 5
     have f5 := hbx.free 5
     have y6 := hbx.cell 6
     have f6 := hbx.free 6
     have y7 := hbx.cell 7
     have f7 := hbx.free 7
     simp only [gA, gB, gC] at y0 y1 y2 y3 y4 y5 y6 y7
     go_upto_region 8 with (fail)
     clear y0 f0 y1 f1 y2 f2 y3 f3 y4 f4 y5 f5 y6 f6 y7 f7
     have h6 := h4.whole hg HN2.out
     have hr6 : Blk ((((((((w5.setCell ⟨w.heap.size, 0, none⟩ (.int .i64 v2.most)).setCell ⟨w.heap.size, 1, none⟩ (.int .i64 v2.sk.wide)).setCell ⟨w.heap.size, 2, none⟩ (.int .u64 v2.sk.seed)).setCell ⟨w.heap.size, 3, none⟩ (.slice (some ⟨a2.R, 0, none⟩) 4 a2.c)).setCell ⟨w.heap.size, 4, none⟩ (.slice (some ⟨a2.D, 0, none⟩) v2.sk.wide v2.sk.wide)).setCell ⟨w.heap.size, 5, none⟩ (.int .i64 v2.sk.added)).setCell ⟨w.heap.size, 6, none⟩ (.slice (some ⟨a2.G, 0, none⟩) 3 3)).setCell ⟨w.heap.size, 7, none⟩ (.int .i64 v2.pl)) (w.heap.size + 1) 38 #[.int .i64 0, .int .i64 0, .int .u64 0, .slice none 0 0, .slice none 0 0, .int .i64 0, .slice none 0 0, .int .i64 0] := (far8 _ (by omega) _ _ _ _ _ _ _ _).trans (hr4.below hg.below hr4.lt)
     clear hr4
     generalize ((((((((w5.setCell ⟨w.heap.size, 0, none⟩ (.int .i64 v2.most)).setCell ⟨w.heap.size, 1, none⟩ (.int .i64 v2.sk.wide)).setCell ⟨w.heap.size, 2, none⟩ (.int .u64 v2.sk.seed)).setCell ⟨w.heap.size, 3, none⟩ (.slice (some ⟨a2.R, 0, none⟩) 4 a2.c)).setCell ⟨w.heap.size, 4, none⟩ (.slice (some ⟨a2.D, 0, none⟩) v2.sk.wide v2.sk.wide)).setCell ⟨w.heap.size, 5, none⟩ (.int .i64 v2.sk.added)).setCell ⟨w.heap.size, 6, none⟩ (.slice (some ⟨a2.G, 0, none⟩) 3 3)).setCell ⟨w.heap.size, 7, none⟩ (.int .i64 v2.pl)) = w6 at *
     clear h4 hbx hg
     obtain ⟨x0, x1, x2, x3, x4, x5, x6, x7⟩ := h6.all
     go_wp2_with fail
     refine (hpa a2 _ h6.d).mono ?_
     rintro e w7 ⟨rfl, hb⟩
     clear x0 x1 x2 x3 x4 x5 x6 x7
     have h7 := h6.onto hb
     have hr7 := hr6.below hb hr6.lt
     clear hr6
     clear h6 hb
     obtain ⟨x0, x1, x2, x3, x4, x5, x6, x7⟩ := h7.all
     obtain ⟨ga, gc, q1⟩ := h7.d.list HN2.out (i := 0) (by omega)
     go_upto_region 11 with (fail)
     clear q1
     go_wp2_with fail
     refine (hbk0 a2 _ h7.d).mono ?_
     rintro e w8 ⟨rfl, hb⟩
     clear x0 x1 x2 x3 x4 x5 x6 x7
     have h8 := h7.onto hb
     have hr8 := hr7.below hb hr7.lt
     clear hr7
     clear h7 hb
     obtain ⟨x0, x1, x2, x3, x4, x5, x6, x7⟩ := h8.all
     go_upto_region 12 with (fail)
     clear x0 x1 x2 x3 x4 x5 x6 x7
     have hd := ((⟨h8, hr8⟩ : Wr w a v2 a2 w8).drewN 1).all
     go_region_held3 (fun W => (W.cell? ⟨w.heap.size, 0, none⟩ = some (.int .i64 v2.most) ∧ W.cell? ⟨w.heap.size, 1, none⟩ = some (.int .i64 v2.sk.wide) ∧ W.cell? ⟨w.heap.size, 2, none⟩ = some (.int .u64 v2.sk.seed) ∧ W.cell? ⟨w.heap.size, 3, none⟩ = some (.slice (some ⟨a2.R, 0, none⟩) 4 a2.c) ∧ W.cell? ⟨w.heap.size, 4, none⟩ = some (.slice (some ⟨a2.D, 0, none⟩) v2.sk.wide v2.sk.wide) ∧ W.cell? ⟨w.heap.size, 5, none⟩ = some (.int .i64 v2.sk.added) ∧ W.cell? ⟨w.heap.size, 6, none⟩ = some (.slice (some ⟨a2.G, 0, none⟩) 3 3) ∧ W.cell? ⟨w.heap.size, 7, none⟩ = some (.int .i64 v2.pl)) ∧ Wr w a v2 a2 W)
      (first | assumption | exact hd | exact Wr.all (by assumption))
      (first | (go_at_call 35; (with_reducible refine Calls.mono (fL a2 _ (by assumption : (_ ∧ _ ∧ _ ∧ _ ∧ _ ∧ _ ∧ _ ∧ _) ∧ _).2) ?_); rintro e wv ⟨rfl, hwv⟩) | fail)
     have hZ := (by assumption : (_ ∧ _ ∧ _ ∧ _ ∧ _ ∧ _ ∧ _ ∧ _) ∧ Wr w a v2 a2 _).2
     have h9 := hZ.k
     have hr9 := hZ.r
     clear hd hZ h8 hr8
     obtain ⟨x0, x1, x2, x3, x4, x5, x6, x7⟩ := h9.all
     go_upto_region 14 with (fail)
     go_wp2_with fail
     refine (hbk1 a2 _ h9.d).mono ?_
     rintro e w10 ⟨rfl, hb⟩
     clear x0 x1 x2 x3 x4 x5 x6 x7
     have h10 := h9.onto hb
     have hr10 := hr9.below hb hr9.lt
     clear hr9
     clear h9 hb
     obtain ⟨x0, x1, x2, x3, x4, x5, x6, x7⟩ := h10.all
     go_upto_region 17 with (fail)
     clear x0 x1 x2 x3 x4 x5 x6 x7
     have hd := ((⟨h10, hr10⟩ : Wr w a v2 a2 w10).drewN 1).all
     go_region_held3 (fun W => (W.cell? ⟨w.heap.size, 0, none⟩ = some (.int .i64 v2.most) ∧ W.cell? ⟨w.heap.size, 1, none⟩ = some (.int .i64 v2.sk.wide) ∧ W.cell? ⟨w.heap.size, 2, none⟩ = some (.int .u64 v2.sk.seed) ∧ W.cell? ⟨w.heap.size, 3, none⟩ = some (.slice (some ⟨a2.R, 0, none⟩) 4 a2.c) ∧ W.cell? ⟨w.heap.size, 4, none⟩ = some (.slice (some ⟨a2.D, 0, none⟩) v2.sk.wide v2.sk.wide) ∧ W.cell? ⟨w.heap.size, 5, none⟩ = some (.int .i64 v2.sk.added) ∧ W.cell? ⟨w.heap.size, 6, none⟩ = some (.slice (some ⟨a2.G, 0, none⟩) 3 3) ∧ W.cell? ⟨w.heap.size, 7, none⟩ = some (.int .i64 v2.pl)) ∧ Wr w a v2 a2 W)
      (first | assumption | exact hd | exact Wr.all (by assumption))
      (first | (go_at_call 87; (with_reducible refine Calls.mono (fs1 a2 _ (by assumption : (_ ∧ _ ∧ _ ∧ _ ∧ _ ∧ _ ∧ _ ∧ _) ∧ _).2) ?_); rintro e wv ⟨rfl, hwv⟩) | (go_at_call 87; (with_reducible refine Calls.mono (fs2 a2 _ (by assumption : (_ ∧ _ ∧ _ ∧ _ ∧ _ ∧ _ ∧ _ ∧ _) ∧ _).2) ?_); rintro e wv ⟨rfl, hwv⟩) | fail)
     have hZ := (by assumption : (_ ∧ _ ∧ _ ∧ _ ∧ _ ∧ _ ∧ _ ∧ _) ∧ Wr w a v2 a2 _).2
     have h11 := hZ.k
     have hr11 := hZ.r
     clear hd hZ h10 hr10
     obtain ⟨x0, x1, x2, x3, x4, x5, x6, x7⟩ := h11.all
     go_wp2_with fail
     refine (hdr a2 _ h11.d).mono ?_
     rintro e w12 ⟨a3, rfl, e1, e2, e3, hg⟩
     clear x0 x1 x2 x3 x4 x5 x6 x7
     have hbx := h11.box.below hg.below h11.box.lt
     have y6 := hbx.cell 6
     have f6 := hbx.free 6
     have y7 := hbx.cell 7
     have f7 := hbx.free 7
     simp only [gA, gB, gC] at y6 y7
     go_upto_region 21 with (fail)
     clear y6 f6 y7 f7
     have h13 := h11.lists hg HN3.out HM3.out HS3.out ⟨e1, e2, e3⟩
     rw [pl_of HM3.out] at h13
     have hr13 : Blk ((w12.setCell ⟨w.heap.size, 6, none⟩ (.slice (some ⟨a3.G, 0, none⟩) 3 3)).setCell ⟨w.heap.size, 7, none⟩ (.int .i64 v2.pl)) (w.heap.size + 1) 38 #[.int .i64 0, .int .i64 0, .int .u64 0, .slice none 0 0, .slice none 0 0, .int .i64 0, .slice none 0 0, .int .i64 0] := (far2 _ (by omega) _ _).trans (hr11.below hg.below hr11.lt)
     clear hr11
     generalize ((w12.setCell ⟨w.heap.size, 6, none⟩ (.slice (some ⟨a3.G, 0, none⟩) 3 3)).setCell ⟨w.heap.size, 7, none⟩ (.int .i64 v2.pl)) = w13 at *
     clear h11 hbx hg e1 e2 e3
     obtain ⟨x0, x1, x2, x3, x4, x5, x6, x7⟩ := h13.all
     have hbl := (Below.refl _ w13).alloc (Nat.le_refl _) (.cells #[.string (str one)] 9)
     have hT := Told.lit (w := w) (x := w13) h13.below.size one
     have hq9 : ∀ q, (Value.slice (some ⟨w13.heap.size, 0, none⟩) 1 1).ownBlock = some q → w.heap.size + 2 ≤ q := fun q e => by
      have e2 : w13.heap.size = q := by injection e
      have := h13.sz
      omega
     have HT := Lib.hid hT
     have HQ9 := Lib.hid hq9
     clear hT hq9
     have h14 := h13.onto hbl
     have hr14 := hr13.below hbl hr13.lt
     clear hr13 hbl
     have z0 := hr14.cell 0
     have f0 := hr14.free 0
     have z1 := hr14.cell 1
     have f1 := hr14.free 1
     have z2 := hr14.cell 2
     have f2 := hr14.free 2
     have z3 := hr14.cell 3
     have f3 := hr14.free 3
     have z4 := hr14.cell 4
     have f4 := hr14.free 4
     have z5 := hr14.cell 5
     have f5 := hr14.free 5
     have z6 := hr14.cell 6
     have f6 := hr14.free 6
     have z7 := hr14.cell 7
     have f7 := hr14.free 7
     simp only [gA, gB, gC] at z0 z1 z2 z3 z4 z5 z6 z7
     go_wp2_with fail
     obtain ⟨hG, hB⟩ := res_goes h14 (Goes.refl h14.d) HN3.out (b := w.heap.size + 1) (by omega) (by omega) hr14
     refine bodyPost_ret (results_row_tmp rfl _ _ (w.heap.size + 1) rfl (run_loadVar_row _ _ _ _ _ _ _ hB Tryz.underlying38 rfl (by kernel_rfl))) rfl ⟨a3, _, by rw [HQ.out.1] <;> rfl, by rw [HQ.out.1]; exact hG, by rw [HQ.out.2]; exact HT.out.far (fun q hq => far8 _ (by omega) _ _ _ _ _ _ _ _) HQ9.out⟩
    ·have hst : v2.stays one = some o := by unfold Tv.stays; rw [e5]; exact if_neg hse
     have e6 : decide ((v2.seen o : Int) < (v2.seen one : Int)) = true := decide_eq_true (by omega)
     have e7 : decide (v2.seen o < v2.seen one) = true := decide_eq_true (by omega)
     have e8 : v2.seen o < v2.seen one := by omega
     clear e5
     have hq3 : s = (v2.dr o).fr 1 one ∧ sk = [o] := by rw [hst] at hq; exact hq
     have hdr := fun (a2 : Ad) (W : World) (hW : Dt W v2 a2) => d_drop hok2 o W hW
     have HN3 := Lib.hid (show (v2.dr o).rg.n = 3 from hok2.fit.n)
     have HM3 := Lib.hid (show (v2.dr o).most = v2.most from rfl)
     have HS3 := Lib.hid (show (v2.dr o).sk = v2.sk from rfl)
     have hok3 := hok2.dr o
     have hc3 : (v2.dr o).can one := hok3.fit.in_ hok3.fit.n (i := 0) (by omega) (Tv.mem_dr.2 ⟨hF.mem, fun e => hne e.symm⟩)
     have hfr1 := fun (a3 : Ad) (W : World) (hW : Dt W (v2.dr o) a3) => rfr_c (jj := 1) (j := 1) rfl hok3 (by omega) hol hc3 W hW
     have HN4 := Lib.hid (show ((v2.dr o).fr 1 one).rg.n = 3 from hok2.fit.n)
     generalize (v2.dr o).fr 1 one = v4 at *
     generalize v2.dr o = v3 at *
     have HQ := Lib.hid hq3
     clear hq hq3 hst hF hok2 hok3 hc3
     go_enter Tryz.func62, Tryz.ntmps62
     go_upto_region 1 with (fail)
     generalize (w.alloc (.cells #[.int .i64 v.most, .int .i64 v.sk.wide, .int .u64 v.sk.seed, .slice (some ⟨a.R, 0, none⟩) 4 a.c, .slice (some ⟨a.D, 0, none⟩) v.sk.wide v.sk.wide, .int .i64 v.sk.added, .slice (some ⟨a.G, 0, none⟩) 3 3, .int .i64 v.pl] 38)).alloc (.cells #[.int .i64 0, .int .i64 0, .int .u64 0, .slice none 0 0, .slice none 0 0, .int .i64 0, .slice none 0 0, .int .i64 0] 38) = w1 at *
     obtain ⟨x0, x1, x2, x3, x4, x5, x6, x7⟩ := h1.all
     go_wp2_with fail
     refine (htc _ h1.d).mono ?_
     rintro e w2 ⟨a9, rfl, hg⟩
     clear x0 x1 x2 x3 x4 x5 x6 x7
     have hb2 := (Below.refl _ w2).alloc (Nat.le_refl _) (.cells #[.int .i64 v.most, .int .i64 v.sk.wide, .int .u64 v.sk.seed, .slice (some ⟨a9.R, 0, none⟩) 4 a9.c, .slice (some ⟨a9.D, 0, none⟩) v.sk.wide v.sk.wide, .int .i64 v.sk.added, .slice (some ⟨a9.G, 0, none⟩) 3 3, .int .i64 v.pl] 38)
     have h2 := (h1.onto hg.below).onto hb2
     have hr2 := (hr1.below hg.below hr1.lt).below hb2 (hr1.below hg.below hr1.lt).lt
     clear hr1 h1 hb2 hg
     go_upto_region 6 with (fail)
     generalize w2.alloc (.cells #[.int .i64 v.most, .int .i64 v.sk.wide, .int .u64 v.sk.seed, .slice (some ⟨a9.R, 0, none⟩) 4 a9.c, .slice (some ⟨a9.D, 0, none⟩) v.sk.wide v.sk.wide, .int .i64 v.sk.added, .slice (some ⟨a9.G, 0, none⟩) 3 3, .int .i64 v.pl] 38) = w3 at *
     obtain ⟨x0, x1, x2, x3, x4, x5, x6, x7⟩ := h2.all
     go_wp2_with fail
     refine (hadd _ h2.d).mono ?_
     rintro e w3 ⟨a1, rfl, eG, hg⟩
     clear x0 x1 x2 x3 x4 x5 x6 x7
     have hbx := h2.box.below hg.below h2.box.lt
     have y1 := hbx.cell 1
     have f1 := hbx.free 1
     have y2 := hbx.cell 2
     have f2 := hbx.free 2
     have y3 := hbx.cell 3
     have f3 := hbx.free 3
     have y4 := hbx.cell 4
     have f4 := hbx.free 4
     have y5 := hbx.cell 5
     have f5 := hbx.free 5
     simp only [gA, gB, gC] at y1 y2 y3 y4 y5
     go_upto_region 7 with (fail)
     clear y1 f1 y2 f2 y3 f3 y4 f4 y5 f5
     have h4 := h2.sketch hg HN1.out HM1.out eG
     have hr4 : Blk (((((w3.setCell ⟨w.heap.size, 1, none⟩ (.int .i64 v1.sk.wide)).setCell ⟨w.heap.size, 2, none⟩ (.int .u64 v1.sk.seed)).setCell ⟨w.heap.size, 3, none⟩ (.slice (some ⟨a1.R, 0, none⟩) 4 a1.c)).setCell ⟨w.heap.size, 4, none⟩ (.slice (some ⟨a1.D, 0, none⟩) v1.sk.wide v1.sk.wide)).setCell ⟨w.heap.size, 5, none⟩ (.int .i64 v1.sk.added)) (w.heap.size + 1) 38 #[.int .i64 0, .int .i64 0, .int .u64 0, .slice none 0 0, .slice none 0 0, .int .i64 0, .slice none 0 0, .int .i64 0] := (far5 _ (by omega) _ _ _ _ _).trans (hr2.below hg.below hr2.lt)
     clear hr2
     generalize (((((w3.setCell ⟨w.heap.size, 1, none⟩ (.int .i64 v1.sk.wide)).setCell ⟨w.heap.size, 2, none⟩ (.int .u64 v1.sk.seed)).setCell ⟨w.heap.size, 3, none⟩ (.slice (some ⟨a1.R, 0, none⟩) 4 a1.c)).setCell ⟨w.heap.size, 4, none⟩ (.slice (some ⟨a1.D, 0, none⟩) v1.sk.wide v1.sk.wide)).setCell ⟨w.heap.size, 5, none⟩ (.int .i64 v1.sk.added)) = w4 at *
     clear h2 hbx hg eG
     obtain ⟨x0, x1, x2, x3, x4, x5, x6, x7⟩ := h4.all
     go_wp2_with fail
     refine (hfr a1 _ h4.d).mono ?_
     rintro e w5 ⟨a2, rfl, hg⟩
     clear x0 x1 x2 x3 x4 x5 x6 x7
     have hbx := h4.box.below hg.below h4.box.lt
     have y0 := hbx.cell 0
     have f0 := hbx.free 0
     have y1 := hbx.cell 1
     have f1 := hbx.free 1
     have y2 := hbx.cell 2
     have f2 := hbx.free 2
     have y3 := hbx.cell 3
     have f3 := hbx.free 3
     have y4 := hbx.cell 4
     have f4 := hbx.free 4
     have y5 := hbx.cell 5
     have f5 := hbx.free 5
     have y6 := hbx.cell 6
     have f6 := hbx.free 6
     have y7 := hbx.cell 7
     have f7 := hbx.free 7
     simp only [gA, gB, gC] at y0 y1 y2 y3 y4 y5 y6 y7
     go_upto_region 8 with (fail)
     clear y0 f0 y1 f1 y2 f2 y3 f3 y4 f4 y5 f5 y6 f6 y7 f7
     have h6 := h4.whole hg HN2.out
     have hr6 : Blk ((((((((w5.setCell ⟨w.heap.size, 0, none⟩ (.int .i64 v2.most)).setCell ⟨w.heap.size, 1, none⟩ (.int .i64 v2.sk.wide)).setCell ⟨w.heap.size, 2, none⟩ (.int .u64 v2.sk.seed)).setCell ⟨w.heap.size, 3, none⟩ (.slice (some ⟨a2.R, 0, none⟩) 4 a2.c)).setCell ⟨w.heap.size, 4, none⟩ (.slice (some ⟨a2.D, 0, none⟩) v2.sk.wide v2.sk.wide)).setCell ⟨w.heap.size, 5, none⟩ (.int .i64 v2.sk.added)).setCell ⟨w.heap.size, 6, none⟩ (.slice (some ⟨a2.G, 0, none⟩) 3 3)).setCell ⟨w.heap.size, 7, none⟩ (.int .i64 v2.pl)) (w.heap.size + 1) 38 #[.int .i64 0, .int .i64 0, .int .u64 0, .slice none 0 0, .slice none 0 0, .int .i64 0, .slice none 0 0, .int .i64 0] := (far8 _ (by omega) _ _ _ _ _ _ _ _).trans (hr4.below hg.below hr4.lt)
     clear hr4
     generalize ((((((((w5.setCell ⟨w.heap.size, 0, none⟩ (.int .i64 v2.most)).setCell ⟨w.heap.size, 1, none⟩ (.int .i64 v2.sk.wide)).setCell ⟨w.heap.size, 2, none⟩ (.int .u64 v2.sk.seed)).setCell ⟨w.heap.size, 3, none⟩ (.slice (some ⟨a2.R, 0, none⟩) 4 a2.c)).setCell ⟨w.heap.size, 4, none⟩ (.slice (some ⟨a2.D, 0, none⟩) v2.sk.wide v2.sk.wide)).setCell ⟨w.heap.size, 5, none⟩ (.int .i64 v2.sk.added)).setCell ⟨w.heap.size, 6, none⟩ (.slice (some ⟨a2.G, 0, none⟩) 3 3)).setCell ⟨w.heap.size, 7, none⟩ (.int .i64 v2.pl)) = w6 at *
     clear h4 hbx hg
     obtain ⟨x0, x1, x2, x3, x4, x5, x6, x7⟩ := h6.all
     go_wp2_with fail
     refine (hpa a2 _ h6.d).mono ?_
     rintro e w7 ⟨rfl, hb⟩
     clear x0 x1 x2 x3 x4 x5 x6 x7
     have h7 := h6.onto hb
     have hr7 := hr6.below hb hr6.lt
     clear hr6
     clear h6 hb
     obtain ⟨x0, x1, x2, x3, x4, x5, x6, x7⟩ := h7.all
     obtain ⟨ga, gc, q1⟩ := h7.d.list HN2.out (i := 0) (by omega)
     go_upto_region 11 with (fail)
     clear q1
     go_wp2_with fail
     refine (hbk0 a2 _ h7.d).mono ?_
     rintro e w8 ⟨rfl, hb⟩
     clear x0 x1 x2 x3 x4 x5 x6 x7
     have h8 := h7.onto hb
     have hr8 := hr7.below hb hr7.lt
     clear hr7
     clear h7 hb
     obtain ⟨x0, x1, x2, x3, x4, x5, x6, x7⟩ := h8.all
     go_upto_region 12 with (fail)
     clear x0 x1 x2 x3 x4 x5 x6 x7
     have hd := ((⟨h8, hr8⟩ : Wr w a v2 a2 w8).drewN 1).all
     go_region_held3 (fun W => (W.cell? ⟨w.heap.size, 0, none⟩ = some (.int .i64 v2.most) ∧ W.cell? ⟨w.heap.size, 1, none⟩ = some (.int .i64 v2.sk.wide) ∧ W.cell? ⟨w.heap.size, 2, none⟩ = some (.int .u64 v2.sk.seed) ∧ W.cell? ⟨w.heap.size, 3, none⟩ = some (.slice (some ⟨a2.R, 0, none⟩) 4 a2.c) ∧ W.cell? ⟨w.heap.size, 4, none⟩ = some (.slice (some ⟨a2.D, 0, none⟩) v2.sk.wide v2.sk.wide) ∧ W.cell? ⟨w.heap.size, 5, none⟩ = some (.int .i64 v2.sk.added) ∧ W.cell? ⟨w.heap.size, 6, none⟩ = some (.slice (some ⟨a2.G, 0, none⟩) 3 3) ∧ W.cell? ⟨w.heap.size, 7, none⟩ = some (.int .i64 v2.pl)) ∧ Wr w a v2 a2 W)
      (first | assumption | exact hd | exact Wr.all (by assumption))
      (first | (go_at_call 35; (with_reducible refine Calls.mono (fL a2 _ (by assumption : (_ ∧ _ ∧ _ ∧ _ ∧ _ ∧ _ ∧ _ ∧ _) ∧ _).2) ?_); rintro e wv ⟨rfl, hwv⟩) | fail)
     have hZ := (by assumption : (_ ∧ _ ∧ _ ∧ _ ∧ _ ∧ _ ∧ _ ∧ _) ∧ Wr w a v2 a2 _).2
     have h9 := hZ.k
     have hr9 := hZ.r
     clear hd hZ h8 hr8
     obtain ⟨x0, x1, x2, x3, x4, x5, x6, x7⟩ := h9.all
     go_upto_region 14 with (fail)
     go_wp2_with fail
     refine (hbk1 a2 _ h9.d).mono ?_
     rintro e w10 ⟨rfl, hb⟩
     clear x0 x1 x2 x3 x4 x5 x6 x7
     have h10 := h9.onto hb
     have hr10 := hr9.below hb hr9.lt
     clear hr9
     clear h9 hb
     obtain ⟨x0, x1, x2, x3, x4, x5, x6, x7⟩ := h10.all
     go_upto_region 17 with (fail)
     clear x0 x1 x2 x3 x4 x5 x6 x7
     have hd := ((⟨h10, hr10⟩ : Wr w a v2 a2 w10).drewN 1).all
     go_region_held3 (fun W => (W.cell? ⟨w.heap.size, 0, none⟩ = some (.int .i64 v2.most) ∧ W.cell? ⟨w.heap.size, 1, none⟩ = some (.int .i64 v2.sk.wide) ∧ W.cell? ⟨w.heap.size, 2, none⟩ = some (.int .u64 v2.sk.seed) ∧ W.cell? ⟨w.heap.size, 3, none⟩ = some (.slice (some ⟨a2.R, 0, none⟩) 4 a2.c) ∧ W.cell? ⟨w.heap.size, 4, none⟩ = some (.slice (some ⟨a2.D, 0, none⟩) v2.sk.wide v2.sk.wide) ∧ W.cell? ⟨w.heap.size, 5, none⟩ = some (.int .i64 v2.sk.added) ∧ W.cell? ⟨w.heap.size, 6, none⟩ = some (.slice (some ⟨a2.G, 0, none⟩) 3 3) ∧ W.cell? ⟨w.heap.size, 7, none⟩ = some (.int .i64 v2.pl)) ∧ Wr w a v2 a2 W)
      (first | assumption | exact hd | exact Wr.all (by assumption))
      (first | (go_at_call 87; (with_reducible refine Calls.mono (fs1 a2 _ (by assumption : (_ ∧ _ ∧ _ ∧ _ ∧ _ ∧ _ ∧ _ ∧ _) ∧ _).2) ?_); rintro e wv ⟨rfl, hwv⟩) | (go_at_call 87; (with_reducible refine Calls.mono (fs2 a2 _ (by assumption : (_ ∧ _ ∧ _ ∧ _ ∧ _ ∧ _ ∧ _ ∧ _) ∧ _).2) ?_); rintro e wv ⟨rfl, hwv⟩) | fail)
     have hZ := (by assumption : (_ ∧ _ ∧ _ ∧ _ ∧ _ ∧ _ ∧ _ ∧ _) ∧ Wr w a v2 a2 _).2
     have h11 := hZ.k
     have hr11 := hZ.r
     clear hd hZ h10 hr10
     obtain ⟨x0, x1, x2, x3, x4, x5, x6, x7⟩ := h11.all
     go_wp2_with fail
     refine (hdr a2 _ h11.d).mono ?_
     rintro e w12 ⟨a3, rfl, e1, e2, e3, hg⟩
     clear x0 x1 x2 x3 x4 x5 x6 x7
     have hbx := h11.box.below hg.below h11.box.lt
     have y6 := hbx.cell 6
     have f6 := hbx.free 6
     have y7 := hbx.cell 7
     have f7 := hbx.free 7
     simp only [gA, gB, gC] at y6 y7
     go_upto_region 19 with (fail)
     clear y6 f6 y7 f7
     have h13 := h11.lists hg HN3.out HM3.out HS3.out ⟨e1, e2, e3⟩
     rw [pl_of HM3.out] at h13
     have hr13 : Blk ((w12.setCell ⟨w.heap.size, 6, none⟩ (.slice (some ⟨a3.G, 0, none⟩) 3 3)).setCell ⟨w.heap.size, 7, none⟩ (.int .i64 v2.pl)) (w.heap.size + 1) 38 #[.int .i64 0, .int .i64 0, .int .u64 0, .slice none 0 0, .slice none 0 0, .int .i64 0, .slice none 0 0, .int .i64 0] := (far2 _ (by omega) _ _).trans (hr11.below hg.below hr11.lt)
     clear hr11
     generalize ((w12.setCell ⟨w.heap.size, 6, none⟩ (.slice (some ⟨a3.G, 0, none⟩) 3 3)).setCell ⟨w.heap.size, 7, none⟩ (.int .i64 v2.pl)) = w13 at *
     clear h11 hbx hg e1 e2 e3
     obtain ⟨x0, x1, x2, x3, x4, x5, x6, x7⟩ := h13.all
     go_wp2_with fail
     refine (hfr1 a3 _ h13.d).mono ?_
     rintro e w14 ⟨a4, rfl, hg⟩
     clear x0 x1 x2 x3 x4 x5 x6 x7
     have hbl := (Below.refl _ w14).alloc (Nat.le_refl _) (.cells #[.string (str o)] 9)
     have hsz9 := Nat.le_trans h13.sz hg.below.size
     have hT := Told.lit (w := w) (x := w14) (by omega) o
     have hq9 : ∀ q, (Value.slice (some ⟨w14.heap.size, 0, none⟩) 1 1).ownBlock = some q → w.heap.size + 2 ≤ q := fun q e => by
      have e2 : w14.heap.size = q := by injection e
      omega
     have HT := Lib.hid hT
     have HQ9 := Lib.hid hq9
     clear hT hq9 hsz9
     have hg2 := hg.onto hbl
     have hrx := (hr13.below hg.below hr13.lt).below hbl (hr13.below hg.below hr13.lt).lt
     clear hr13 hbl hg
     have y0 := hrx.cell 0
     have f0 := hrx.free 0
     have y1 := hrx.cell 1
     have f1 := hrx.free 1
     have y2 := hrx.cell 2
     have f2 := hrx.free 2
     have y3 := hrx.cell 3
     have f3 := hrx.free 3
     have y4 := hrx.cell 4
     have f4 := hrx.free 4
     have y5 := hrx.cell 5
     have f5 := hrx.free 5
     have y6 := hrx.cell 6
     have f6 := hrx.free 6
     have y7 := hrx.cell 7
     have f7 := hrx.free 7
     simp only [gA, gB, gC] at y0 y1 y2 y3 y4 y5 y6 y7
     go_wp2_with fail
     obtain ⟨hG, hB⟩ := res_goes h13 hg2 HN4.out (b := w.heap.size + 1) (by omega) (by omega) hrx
     refine bodyPost_ret (results_row_tmp rfl _ _ (w.heap.size + 1) rfl (run_loadVar_row _ _ _ _ _ _ _ hB Tryz.underlying38 rfl (by kernel_rfl))) rfl ⟨a4, _, by rw [HQ.out.1] <;> rfl, by rw [HQ.out.1]; exact hG, by rw [HQ.out.2]; exact HT.out.far (fun q hq => far8 _ (by omega) _ _ _ _ _ _ _ _) HQ9.out⟩
   | none =>
    simp only [e1b, Option.getD_none, Option.isSome_none] at hbk1
    cases e2b : v2.last 2 with
    | some o =>
     have e5 : v2.first [1, 2] = some o := by unfold Tv.first; rw [e1b]; unfold Tv.first; rw [e2b]
     obtain ⟨hol2, hne, io, hio, hmo⟩ := hF.stays_in e5
     simp only [e2b, Option.getD_some, Option.isSome_some] at hbk2
     have fs1 := fun (a2 : Ad) (W : World) (hW : Wr w a v2 a2 W) => wr_seen (one := one) hok2 hol hW
     have fs2 := fun (a2 : Ad) (W : World) (hW : Wr w a v2 a2 W) => wr_seen (one := o) hok2 hol2 hW
     clear e1b e2b hmo
     by_cases hse : v2.seen one ≤ v2.seen o
     ·have hst : v2.stays one = none := by unfold Tv.stays; rw [e5]; exact if_pos hse
      have e6 : decide ((v2.seen o : Int) < (v2.seen one : Int)) = false := decide_eq_false (by omega)
      have e7 : decide (v2.seen o < v2.seen one) = false := decide_eq_false (by omega)
      have e8 : ¬ v2.seen o < v2.seen one := by omega
      clear e5
      have hq3 : s = v2.dr one ∧ sk = [one] := by rw [hst] at hq; exact hq
      have hdr := fun (a2 : Ad) (W : World) (hW : Dt W v2 a2) => d_drop hok2 one W hW
      have HN3 := Lib.hid (show (v2.dr one).rg.n = 3 from hok2.fit.n)
      have HM3 := Lib.hid (show (v2.dr one).most = v2.most from rfl)
      have HS3 := Lib.hid (show (v2.dr one).sk = v2.sk from rfl)
      generalize v2.dr one = v3 at *
      have HQ := Lib.hid hq3
      clear hq hq3 hst hF hok2
      go_enter Tryz.func62, Tryz.ntmps62
      go_upto_region 1 with (fail)
      generalize (w.alloc (.cells #[.int .i64 v.most, .int .i64 v.sk.wide, .int .u64 v.sk.seed, .slice (some ⟨a.R, 0, none⟩) 4 a.c, .slice (some ⟨a.D, 0, none⟩) v.sk.wide v.sk.wide, .int .i64 v.sk.added, .slice (some ⟨a.G, 0, none⟩) 3 3, .int .i64 v.pl] 38)).alloc (.cells #[.int .i64 0, .int .i64 0, .int .u64 0, .slice none 0 0, .slice none 0 0, .int .i64 0, .slice none 0 0, .int .i64 0] 38) = w1 at *
      obtain ⟨x0, x1, x2, x3, x4, x5, x6, x7⟩ := h1.all
      go_wp2_with fail
      refine (htc _ h1.d).mono ?_
      rintro e w2 ⟨a9, rfl, hg⟩
      clear x0 x1 x2 x3 x4 x5 x6 x7
      have hb2 := (Below.refl _ w2).alloc (Nat.le_refl _) (.cells #[.int .i64 v.most, .int .i64 v.sk.wide, .int .u64 v.sk.seed, .slice (some ⟨a9.R, 0, none⟩) 4 a9.c, .slice (some ⟨a9.D, 0, none⟩) v.sk.wide v.sk.wide, .int .i64 v.sk.added, .slice (some ⟨a9.G, 0, none⟩) 3 3, .int .i64 v.pl] 38)
      have h2 := (h1.onto hg.below).onto hb2
      have hr2 := (hr1.below hg.below hr1.lt).below hb2 (hr1.below hg.below hr1.lt).lt
      clear hr1 h1 hb2 hg
      go_upto_region 6 with (fail)
      generalize w2.alloc (.cells #[.int .i64 v.most, .int .i64 v.sk.wide, .int .u64 v.sk.seed, .slice (some ⟨a9.R, 0, none⟩) 4 a9.c, .slice (some ⟨a9.D, 0, none⟩) v.sk.wide v.sk.wide, .int .i64 v.sk.added, .slice (some ⟨a9.G, 0, none⟩) 3 3, .int .i64 v.pl] 38) = w3 at *
      obtain ⟨x0, x1, x2, x3, x4, x5, x6, x7⟩ := h2.all
      go_wp2_with fail
      refine (hadd _ h2.d).mono ?_
      rintro e w3 ⟨a1, rfl, eG, hg⟩
      clear x0 x1 x2 x3 x4 x5 x6 x7
      have hbx := h2.box.below hg.below h2.box.lt
      have y1 := hbx.cell 1
      have f1 := hbx.free 1
      have y2 := hbx.cell 2
      have f2 := hbx.free 2
      have y3 := hbx.cell 3
      have f3 := hbx.free 3
      have y4 := hbx.cell 4
      have f4 := hbx.free 4
      have y5 := hbx.cell 5
      have f5 := hbx.free 5
      simp only [gA, gB, gC] at y1 y2 y3 y4 y5
      go_upto_region 7 with (fail)
      clear y1 f1 y2 f2 y3 f3 y4 f4 y5 f5
      have h4 := h2.sketch hg HN1.out HM1.out eG
      have hr4 : Blk (((((w3.setCell ⟨w.heap.size, 1, none⟩ (.int .i64 v1.sk.wide)).setCell ⟨w.heap.size, 2, none⟩ (.int .u64 v1.sk.seed)).setCell ⟨w.heap.size, 3, none⟩ (.slice (some ⟨a1.R, 0, none⟩) 4 a1.c)).setCell ⟨w.heap.size, 4, none⟩ (.slice (some ⟨a1.D, 0, none⟩) v1.sk.wide v1.sk.wide)).setCell ⟨w.heap.size, 5, none⟩ (.int .i64 v1.sk.added)) (w.heap.size + 1) 38 #[.int .i64 0, .int .i64 0, .int .u64 0, .slice none 0 0, .slice none 0 0, .int .i64 0, .slice none 0 0, .int .i64 0] := (far5 _ (by omega) _ _ _ _ _).trans (hr2.below hg.below hr2.lt)
      clear hr2
      generalize (((((w3.setCell ⟨w.heap.size, 1, none⟩ (.int .i64 v1.sk.wide)).setCell ⟨w.heap.size, 2, none⟩ (.int .u64 v1.sk.seed)).setCell ⟨w.heap.size, 3, none⟩ (.slice (some ⟨a1.R, 0, none⟩) 4 a1.c)).setCell ⟨w.heap.size, 4, none⟩ (.slice (some ⟨a1.D, 0, none⟩) v1.sk.wide v1.sk.wide)).setCell ⟨w.heap.size, 5, none⟩ (.int .i64 v1.sk.added)) = w4 at *
      clear h2 hbx hg eG
      obtain ⟨x0, x1, x2, x3, x4, x5, x6, x7⟩ := h4.all
      go_wp2_with fail
      refine (hfr a1 _ h4.d).mono ?_
      rintro e w5 ⟨a2, rfl, hg⟩
      clear x0 x1 x2 x3 x4 x5 x6 x7
      have hbx := h4.box.below hg.below h4.box.lt
      have y0 := hbx.cell 0
      have f0 := hbx.free 0
      have y1 := hbx.cell 1
      have f1 := hbx.free 1
      have y2 := hbx.cell 2
      have f2 := hbx.free 2
      have y3 := hbx.cell 3
      have f3 := hbx.free 3
      have y4 := hbx.cell 4
      have f4 := hbx.free 4
      have y5 := hbx.cell 5
      have f5 := hbx.free 5
      have y6 := hbx.cell 6
      have f6 := hbx.free 6
      have y7 := hbx.cell 7
      have f7 := hbx.free 7
      simp only [gA, gB, gC] at y0 y1 y2 y3 y4 y5 y6 y7
      go_upto_region 8 with (fail)
      clear y0 f0 y1 f1 y2 f2 y3 f3 y4 f4 y5 f5 y6 f6 y7 f7
      have h6 := h4.whole hg HN2.out
      have hr6 : Blk ((((((((w5.setCell ⟨w.heap.size, 0, none⟩ (.int .i64 v2.most)).setCell ⟨w.heap.size, 1, none⟩ (.int .i64 v2.sk.wide)).setCell ⟨w.heap.size, 2, none⟩ (.int .u64 v2.sk.seed)).setCell ⟨w.heap.size, 3, none⟩ (.slice (some ⟨a2.R, 0, none⟩) 4 a2.c)).setCell ⟨w.heap.size, 4, none⟩ (.slice (some ⟨a2.D, 0, none⟩) v2.sk.wide v2.sk.wide)).setCell ⟨w.heap.size, 5, none⟩ (.int .i64 v2.sk.added)).setCell ⟨w.heap.size, 6, none⟩ (.slice (some ⟨a2.G, 0, none⟩) 3 3)).setCell ⟨w.heap.size, 7, none⟩ (.int .i64 v2.pl)) (w.heap.size + 1) 38 #[.int .i64 0, .int .i64 0, .int .u64 0, .slice none 0 0, .slice none 0 0, .int .i64 0, .slice none 0 0, .int .i64 0] := (far8 _ (by omega) _ _ _ _ _ _ _ _).trans (hr4.below hg.below hr4.lt)
      clear hr4
      generalize ((((((((w5.setCell ⟨w.heap.size, 0, none⟩ (.int .i64 v2.most)).setCell ⟨w.heap.size, 1, none⟩ (.int .i64 v2.sk.wide)).setCell ⟨w.heap.size, 2, none⟩ (.int .u64 v2.sk.seed)).setCell ⟨w.heap.size, 3, none⟩ (.slice (some ⟨a2.R, 0, none⟩) 4 a2.c)).setCell ⟨w.heap.size, 4, none⟩ (.slice (some ⟨a2.D, 0, none⟩) v2.sk.wide v2.sk.wide)).setCell ⟨w.heap.size, 5, none⟩ (.int .i64 v2.sk.added)).setCell ⟨w.heap.size, 6, none⟩ (.slice (some ⟨a2.G, 0, none⟩) 3 3)).setCell ⟨w.heap.size, 7, none⟩ (.int .i64 v2.pl)) = w6 at *
      clear h4 hbx hg
      obtain ⟨x0, x1, x2, x3, x4, x5, x6, x7⟩ := h6.all
      go_wp2_with fail
      refine (hpa a2 _ h6.d).mono ?_
      rintro e w7 ⟨rfl, hb⟩
      clear x0 x1 x2 x3 x4 x5 x6 x7
      have h7 := h6.onto hb
      have hr7 := hr6.below hb hr6.lt
      clear hr6
      clear h6 hb
      obtain ⟨x0, x1, x2, x3, x4, x5, x6, x7⟩ := h7.all
      obtain ⟨ga, gc, q1⟩ := h7.d.list HN2.out (i := 0) (by omega)
      go_upto_region 11 with (fail)
      clear q1
      go_wp2_with fail
      refine (hbk0 a2 _ h7.d).mono ?_
      rintro e w8 ⟨rfl, hb⟩
      clear x0 x1 x2 x3 x4 x5 x6 x7
      have h8 := h7.onto hb
      have hr8 := hr7.below hb hr7.lt
      clear hr7
      clear h7 hb
      obtain ⟨x0, x1, x2, x3, x4, x5, x6, x7⟩ := h8.all
      go_upto_region 12 with (fail)
      clear x0 x1 x2 x3 x4 x5 x6 x7
      have hd := ((⟨h8, hr8⟩ : Wr w a v2 a2 w8).drewN 1).all
      go_region_held3 (fun W => (W.cell? ⟨w.heap.size, 0, none⟩ = some (.int .i64 v2.most) ∧ W.cell? ⟨w.heap.size, 1, none⟩ = some (.int .i64 v2.sk.wide) ∧ W.cell? ⟨w.heap.size, 2, none⟩ = some (.int .u64 v2.sk.seed) ∧ W.cell? ⟨w.heap.size, 3, none⟩ = some (.slice (some ⟨a2.R, 0, none⟩) 4 a2.c) ∧ W.cell? ⟨w.heap.size, 4, none⟩ = some (.slice (some ⟨a2.D, 0, none⟩) v2.sk.wide v2.sk.wide) ∧ W.cell? ⟨w.heap.size, 5, none⟩ = some (.int .i64 v2.sk.added) ∧ W.cell? ⟨w.heap.size, 6, none⟩ = some (.slice (some ⟨a2.G, 0, none⟩) 3 3) ∧ W.cell? ⟨w.heap.size, 7, none⟩ = some (.int .i64 v2.pl)) ∧ Wr w a v2 a2 W)
       (first | assumption | exact hd | exact Wr.all (by assumption))
       (first | (go_at_call 35; (with_reducible refine Calls.mono (fL a2 _ (by assumption : (_ ∧ _ ∧ _ ∧ _ ∧ _ ∧ _ ∧ _ ∧ _) ∧ _).2) ?_); rintro e wv ⟨rfl, hwv⟩) | fail)
      have hZ := (by assumption : (_ ∧ _ ∧ _ ∧ _ ∧ _ ∧ _ ∧ _ ∧ _) ∧ Wr w a v2 a2 _).2
      have h9 := hZ.k
      have hr9 := hZ.r
      clear hd hZ h8 hr8
      obtain ⟨x0, x1, x2, x3, x4, x5, x6, x7⟩ := h9.all
      go_upto_region 14 with (fail)
      go_wp2_with fail
      refine (hbk1 a2 _ h9.d).mono ?_
      rintro e w10 ⟨rfl, hb⟩
      clear x0 x1 x2 x3 x4 x5 x6 x7
      have h10 := h9.onto hb
      have hr10 := hr9.below hb hr9.lt
      clear hr9
      clear h9 hb
      obtain ⟨x0, x1, x2, x3, x4, x5, x6, x7⟩ := h10.all
      go_upto_region 16 with (fail)
      go_wp2_with fail
      refine (hbk2 a2 _ h10.d).mono ?_
      rintro e w11 ⟨rfl, hb⟩
      clear x0 x1 x2 x3 x4 x5 x6 x7
      have h11 := h10.onto hb
      have hr11 := hr10.below hb hr10.lt
      clear hr10
      clear h10 hb
      obtain ⟨x0, x1, x2, x3, x4, x5, x6, x7⟩ := h11.all
      go_upto_region 17 with (fail)
      clear x0 x1 x2 x3 x4 x5 x6 x7
      have hd := ((⟨h11, hr11⟩ : Wr w a v2 a2 w11).drewN 1).all
      go_region_held3 (fun W => (W.cell? ⟨w.heap.size, 0, none⟩ = some (.int .i64 v2.most) ∧ W.cell? ⟨w.heap.size, 1, none⟩ = some (.int .i64 v2.sk.wide) ∧ W.cell? ⟨w.heap.size, 2, none⟩ = some (.int .u64 v2.sk.seed) ∧ W.cell? ⟨w.heap.size, 3, none⟩ = some (.slice (some ⟨a2.R, 0, none⟩) 4 a2.c) ∧ W.cell? ⟨w.heap.size, 4, none⟩ = some (.slice (some ⟨a2.D, 0, none⟩) v2.sk.wide v2.sk.wide) ∧ W.cell? ⟨w.heap.size, 5, none⟩ = some (.int .i64 v2.sk.added) ∧ W.cell? ⟨w.heap.size, 6, none⟩ = some (.slice (some ⟨a2.G, 0, none⟩) 3 3) ∧ W.cell? ⟨w.heap.size, 7, none⟩ = some (.int .i64 v2.pl)) ∧ Wr w a v2 a2 W)
       (first | assumption | exact hd | exact Wr.all (by assumption))
       (first | (go_at_call 87; (with_reducible refine Calls.mono (fs1 a2 _ (by assumption : (_ ∧ _ ∧ _ ∧ _ ∧ _ ∧ _ ∧ _ ∧ _) ∧ _).2) ?_); rintro e wv ⟨rfl, hwv⟩) | (go_at_call 87; (with_reducible refine Calls.mono (fs2 a2 _ (by assumption : (_ ∧ _ ∧ _ ∧ _ ∧ _ ∧ _ ∧ _ ∧ _) ∧ _).2) ?_); rintro e wv ⟨rfl, hwv⟩) | fail)
      have hZ := (by assumption : (_ ∧ _ ∧ _ ∧ _ ∧ _ ∧ _ ∧ _ ∧ _) ∧ Wr w a v2 a2 _).2
      have h12 := hZ.k
      have hr12 := hZ.r
      clear hd hZ h11 hr11
      obtain ⟨x0, x1, x2, x3, x4, x5, x6, x7⟩ := h12.all
      go_wp2_with fail
      refine (hdr a2 _ h12.d).mono ?_
      rintro e w13 ⟨a3, rfl, e1, e2, e3, hg⟩
      clear x0 x1 x2 x3 x4 x5 x6 x7
      have hbx := h12.box.below hg.below h12.box.lt
      have y6 := hbx.cell 6
      have f6 := hbx.free 6
      have y7 := hbx.cell 7
      have f7 := hbx.free 7
      simp only [gA, gB, gC] at y6 y7
      go_upto_region 21 with (fail)
      clear y6 f6 y7 f7
      have h14 := h12.lists hg HN3.out HM3.out HS3.out ⟨e1, e2, e3⟩
      rw [pl_of HM3.out] at h14
      have hr14 : Blk ((w13.setCell ⟨w.heap.size, 6, none⟩ (.slice (some ⟨a3.G, 0, none⟩) 3 3)).setCell ⟨w.heap.size, 7, none⟩ (.int .i64 v2.pl)) (w.heap.size + 1) 38 #[.int .i64 0, .int .i64 0, .int .u64 0, .slice none 0 0, .slice none 0 0, .int .i64 0, .slice none 0 0, .int .i64 0] := (far2 _ (by omega) _ _).trans (hr12.below hg.below hr12.lt)
      clear hr12
      generalize ((w13.setCell ⟨w.heap.size, 6, none⟩ (.slice (some ⟨a3.G, 0, none⟩) 3 3)).setCell ⟨w.heap.size, 7, none⟩ (.int .i64 v2.pl)) = w14 at *
      clear h12 hbx hg e1 e2 e3
      obtain ⟨x0, x1, x2, x3, x4, x5, x6, x7⟩ := h14.all
      have hbl := (Below.refl _ w14).alloc (Nat.le_refl _) (.cells #[.string (str one)] 9)
      have hT := Told.lit (w := w) (x := w14) h14.below.size one
      have hq9 : ∀ q, (Value.slice (some ⟨w14.heap.size, 0, none⟩) 1 1).ownBlock = some q → w.heap.size + 2 ≤ q := fun q e => by
       have e2 : w14.heap.size = q := by injection e
       have := h14.sz
       omega
      have HT := Lib.hid hT
      have HQ9 := Lib.hid hq9
      clear hT hq9
      have h15 := h14.onto hbl
      have hr15 := hr14.below hbl hr14.lt
      clear hr14 hbl
      have z0 := hr15.cell 0
      have f0 := hr15.free 0
      have z1 := hr15.cell 1
      have f1 := hr15.free 1
      have z2 := hr15.cell 2
      have f2 := hr15.free 2
      have z3 := hr15.cell 3
      have f3 := hr15.free 3
      have z4 := hr15.cell 4
      have f4 := hr15.free 4
      have z5 := hr15.cell 5
      have f5 := hr15.free 5
      have z6 := hr15.cell 6
      have f6 := hr15.free 6
      have z7 := hr15.cell 7
      have f7 := hr15.free 7
      simp only [gA, gB, gC] at z0 z1 z2 z3 z4 z5 z6 z7
      go_wp2_with fail
      obtain ⟨hG, hB⟩ := res_goes h15 (Goes.refl h15.d) HN3.out (b := w.heap.size + 1) (by omega) (by omega) hr15
      refine bodyPost_ret (results_row_tmp rfl _ _ (w.heap.size + 1) rfl (run_loadVar_row _ _ _ _ _ _ _ hB Tryz.underlying38 rfl (by kernel_rfl))) rfl ⟨a3, _, by rw [HQ.out.1] <;> rfl, by rw [HQ.out.1]; exact hG, by rw [HQ.out.2]; exact HT.out.far (fun q hq => far8 _ (by omega) _ _ _ _ _ _ _ _) HQ9.out⟩
     ·have hst : v2.stays one = some o := by unfold Tv.stays; rw [e5]; exact if_neg hse
      have e6 : decide ((v2.seen o : Int) < (v2.seen one : Int)) = true := decide_eq_true (by omega)
      have e7 : decide (v2.seen o < v2.seen one) = true := decide_eq_true (by omega)
      have e8 : v2.seen o < v2.seen one := by omega
      clear e5
      have hq3 : s = (v2.dr o).fr 1 one ∧ sk = [o] := by rw [hst] at hq; exact hq
      have hdr := fun (a2 : Ad) (W : World) (hW : Dt W v2 a2) => d_drop hok2 o W hW
      have HN3 := Lib.hid (show (v2.dr o).rg.n = 3 from hok2.fit.n)
      have HM3 := Lib.hid (show (v2.dr o).most = v2.most from rfl)
      have HS3 := Lib.hid (show (v2.dr o).sk = v2.sk from rfl)
      have hok3 := hok2.dr o
      have hc3 : (v2.dr o).can one := hok3.fit.in_ hok3.fit.n (i := 0) (by omega) (Tv.mem_dr.2 ⟨hF.mem, fun e => hne e.symm⟩)
      have hfr1 := fun (a3 : Ad) (W : World) (hW : Dt W (v2.dr o) a3) => rfr_c (jj := 1) (j := 1) rfl hok3 (by omega) hol hc3 W hW
      have HN4 := Lib.hid (show ((v2.dr o).fr 1 one).rg.n = 3 from hok2.fit.n)
      generalize (v2.dr o).fr 1 one = v4 at *
      generalize v2.dr o = v3 at *
      have HQ := Lib.hid hq3
      clear hq hq3 hst hF hok2 hok3 hc3
      go_enter Tryz.func62, Tryz.ntmps62
      go_upto_region 1 with (fail)
      generalize (w.alloc (.cells #[.int .i64 v.most, .int .i64 v.sk.wide, .int .u64 v.sk.seed, .slice (some ⟨a.R, 0, none⟩) 4 a.c, .slice (some ⟨a.D, 0, none⟩) v.sk.wide v.sk.wide, .int .i64 v.sk.added, .slice (some ⟨a.G, 0, none⟩) 3 3, .int .i64 v.pl] 38)).alloc (.cells #[.int .i64 0, .int .i64 0, .int .u64 0, .slice none 0 0, .slice none 0 0, .int .i64 0, .slice none 0 0, .int .i64 0] 38) = w1 at *
      obtain ⟨x0, x1, x2, x3, x4, x5, x6, x7⟩ := h1.all
      go_wp2_with fail
      refine (htc _ h1.d).mono ?_
      rintro e w2 ⟨a9, rfl, hg⟩
      clear x0 x1 x2 x3 x4 x5 x6 x7
      have hb2 := (Below.refl _ w2).alloc (Nat.le_refl _) (.cells #[.int .i64 v.most, .int .i64 v.sk.wide, .int .u64 v.sk.seed, .slice (some ⟨a9.R, 0, none⟩) 4 a9.c, .slice (some ⟨a9.D, 0, none⟩) v.sk.wide v.sk.wide, .int .i64 v.sk.added, .slice (some ⟨a9.G, 0, none⟩) 3 3, .int .i64 v.pl] 38)
      have h2 := (h1.onto hg.below).onto hb2
      have hr2 := (hr1.below hg.below hr1.lt).below hb2 (hr1.below hg.below hr1.lt).lt
      clear hr1 h1 hb2 hg
      go_upto_region 6 with (fail)
      generalize w2.alloc (.cells #[.int .i64 v.most, .int .i64 v.sk.wide, .int .u64 v.sk.seed, .slice (some ⟨a9.R, 0, none⟩) 4 a9.c, .slice (some ⟨a9.D, 0, none⟩) v.sk.wide v.sk.wide, .int .i64 v.sk.added, .slice (some ⟨a9.G, 0, none⟩) 3 3, .int .i64 v.pl] 38) = w3 at *
      obtain ⟨x0, x1, x2, x3, x4, x5, x6, x7⟩ := h2.all
      go_wp2_with fail
      refine (hadd _ h2.d).mono ?_
      rintro e w3 ⟨a1, rfl, eG, hg⟩
      clear x0 x1 x2 x3 x4 x5 x6 x7
      have hbx := h2.box.below hg.below h2.box.lt
      have y1 := hbx.cell 1
      have f1 := hbx.free 1
      have y2 := hbx.cell 2
      have f2 := hbx.free 2
      have y3 := hbx.cell 3
      have f3 := hbx.free 3
      have y4 := hbx.cell 4
      have f4 := hbx.free 4
      have y5 := hbx.cell 5
      have f5 := hbx.free 5
      simp only [gA, gB, gC] at y1 y2 y3 y4 y5
      go_upto_region 7 with (fail)
      clear y1 f1 y2 f2 y3 f3 y4 f4 y5 f5
      have h4 := h2.sketch hg HN1.out HM1.out eG
      have hr4 : Blk (((((w3.setCell ⟨w.heap.size, 1, none⟩ (.int .i64 v1.sk.wide)).setCell ⟨w.heap.size, 2, none⟩ (.int .u64 v1.sk.seed)).setCell ⟨w.heap.size, 3, none⟩ (.slice (some ⟨a1.R, 0, none⟩) 4 a1.c)).setCell ⟨w.heap.size, 4, none⟩ (.slice (some ⟨a1.D, 0, none⟩) v1.sk.wide v1.sk.wide)).setCell ⟨w.heap.size, 5, none⟩ (.int .i64 v1.sk.added)) (w.heap.size + 1) 38 #[.int .i64 0, .int .i64 0, .int .u64 0, .slice none 0 0, .slice none 0 0, .int .i64 0, .slice none 0 0, .int .i64 0] := (far5 _ (by omega) _ _ _ _ _).trans (hr2.below hg.below hr2.lt)
      clear hr2
      generalize (((((w3.setCell ⟨w.heap.size, 1, none⟩ (.int .i64 v1.sk.wide)).setCell ⟨w.heap.size, 2, none⟩ (.int .u64 v1.sk.seed)).setCell ⟨w.heap.size, 3, none⟩ (.slice (some ⟨a1.R, 0, none⟩) 4 a1.c)).setCell ⟨w.heap.size, 4, none⟩ (.slice (some ⟨a1.D, 0, none⟩) v1.sk.wide v1.sk.wide)).setCell ⟨w.heap.size, 5, none⟩ (.int .i64 v1.sk.added)) = w4 at *
      clear h2 hbx hg eG
      obtain ⟨x0, x1, x2, x3, x4, x5, x6, x7⟩ := h4.all
      go_wp2_with fail
      refine (hfr a1 _ h4.d).mono ?_
      rintro e w5 ⟨a2, rfl, hg⟩
      clear x0 x1 x2 x3 x4 x5 x6 x7
      have hbx := h4.box.below hg.below h4.box.lt
      have y0 := hbx.cell 0
      have f0 := hbx.free 0
      have y1 := hbx.cell 1
      have f1 := hbx.free 1
      have y2 := hbx.cell 2
      have f2 := hbx.free 2
      have y3 := hbx.cell 3
      have f3 := hbx.free 3
      have y4 := hbx.cell 4
      have f4 := hbx.free 4
      have y5 := hbx.cell 5
      have f5 := hbx.free 5
      have y6 := hbx.cell 6
      have f6 := hbx.free 6
      have y7 := hbx.cell 7
      have f7 := hbx.free 7
      simp only [gA, gB, gC] at y0 y1 y2 y3 y4 y5 y6 y7
      go_upto_region 8 with (fail)
      clear y0 f0 y1 f1 y2 f2 y3 f3 y4 f4 y5 f5 y6 f6 y7 f7
      have h6 := h4.whole hg HN2.out
      have hr6 : Blk ((((((((w5.setCell ⟨w.heap.size, 0, none⟩ (.int .i64 v2.most)).setCell ⟨w.heap.size, 1, none⟩ (.int .i64 v2.sk.wide)).setCell ⟨w.heap.size, 2, none⟩ (.int .u64 v2.sk.seed)).setCell ⟨w.heap.size, 3, none⟩ (.slice (some ⟨a2.R, 0, none⟩) 4 a2.c)).setCell ⟨w.heap.size, 4, none⟩ (.slice (some ⟨a2.D, 0, none⟩) v2.sk.wide v2.sk.wide)).setCell ⟨w.heap.size, 5, none⟩ (.int .i64 v2.sk.added)).setCell ⟨w.heap.size, 6, none⟩ (.slice (some ⟨a2.G, 0, none⟩) 3 3)).setCell ⟨w.heap.size, 7, none⟩ (.int .i64 v2.pl)) (w.heap.size + 1) 38 #[.int .i64 0, .int .i64 0, .int .u64 0, .slice none 0 0, .slice none 0 0, .int .i64 0, .slice none 0 0, .int .i64 0] := (far8 _ (by omega) _ _ _ _ _ _ _ _).trans (hr4.below hg.below hr4.lt)
      clear hr4
      generalize ((((((((w5.setCell ⟨w.heap.size, 0, none⟩ (.int .i64 v2.most)).setCell ⟨w.heap.size, 1, none⟩ (.int .i64 v2.sk.wide)).setCell ⟨w.heap.size, 2, none⟩ (.int .u64 v2.sk.seed)).setCell ⟨w.heap.size, 3, none⟩ (.slice (some ⟨a2.R, 0, none⟩) 4 a2.c)).setCell ⟨w.heap.size, 4, none⟩ (.slice (some ⟨a2.D, 0, none⟩) v2.sk.wide v2.sk.wide)).setCell ⟨w.heap.size, 5, none⟩ (.int .i64 v2.sk.added)).setCell ⟨w.heap.size, 6, none⟩ (.slice (some ⟨a2.G, 0, none⟩) 3 3)).setCell ⟨w.heap.size, 7, none⟩ (.int .i64 v2.pl)) = w6 at *
      clear h4 hbx hg
      obtain ⟨x0, x1, x2, x3, x4, x5, x6, x7⟩ := h6.all
      go_wp2_with fail
      refine (hpa a2 _ h6.d).mono ?_
      rintro e w7 ⟨rfl, hb⟩
      clear x0 x1 x2 x3 x4 x5 x6 x7
      have h7 := h6.onto hb
      have hr7 := hr6.below hb hr6.lt
      clear hr6
      clear h6 hb
      obtain ⟨x0, x1, x2, x3, x4, x5, x6, x7⟩ := h7.all
      obtain ⟨ga, gc, q1⟩ := h7.d.list HN2.out (i := 0) (by omega)
      go_upto_region 11 with (fail)
      clear q1
      go_wp2_with fail
      refine (hbk0 a2 _ h7.d).mono ?_
      rintro e w8 ⟨rfl, hb⟩
      clear x0 x1 x2 x3 x4 x5 x6 x7
      have h8 := h7.onto hb
      have hr8 := hr7.below hb hr7.lt
      clear hr7
      clear h7 hb
      obtain ⟨x0, x1, x2, x3, x4, x5, x6, x7⟩ := h8.all
      go_upto_region 12 with (fail)
      clear x0 x1 x2 x3 x4 x5 x6 x7
      have hd := ((⟨h8, hr8⟩ : Wr w a v2 a2 w8).drewN 1).all
      go_region_held3 (fun W => (W.cell? ⟨w.heap.size, 0, none⟩ = some (.int .i64 v2.most) ∧ W.cell? ⟨w.heap.size, 1, none⟩ = some (.int .i64 v2.sk.wide) ∧ W.cell? ⟨w.heap.size, 2, none⟩ = some (.int .u64 v2.sk.seed) ∧ W.cell? ⟨w.heap.size, 3, none⟩ = some (.slice (some ⟨a2.R, 0, none⟩) 4 a2.c) ∧ W.cell? ⟨w.heap.size, 4, none⟩ = some (.slice (some ⟨a2.D, 0, none⟩) v2.sk.wide v2.sk.wide) ∧ W.cell? ⟨w.heap.size, 5, none⟩ = some (.int .i64 v2.sk.added) ∧ W.cell? ⟨w.heap.size, 6, none⟩ = some (.slice (some ⟨a2.G, 0, none⟩) 3 3) ∧ W.cell? ⟨w.heap.size, 7, none⟩ = some (.int .i64 v2.pl)) ∧ Wr w a v2 a2 W)
       (first | assumption | exact hd | exact Wr.all (by assumption))
       (first | (go_at_call 35; (with_reducible refine Calls.mono (fL a2 _ (by assumption : (_ ∧ _ ∧ _ ∧ _ ∧ _ ∧ _ ∧ _ ∧ _) ∧ _).2) ?_); rintro e wv ⟨rfl, hwv⟩) | fail)
      have hZ := (by assumption : (_ ∧ _ ∧ _ ∧ _ ∧ _ ∧ _ ∧ _ ∧ _) ∧ Wr w a v2 a2 _).2
      have h9 := hZ.k
      have hr9 := hZ.r
      clear hd hZ h8 hr8
      obtain ⟨x0, x1, x2, x3, x4, x5, x6, x7⟩ := h9.all
      go_upto_region 14 with (fail)
      go_wp2_with fail
      refine (hbk1 a2 _ h9.d).mono ?_
      rintro e w10 ⟨rfl, hb⟩
      clear x0 x1 x2 x3 x4 x5 x6 x7
      have h10 := h9.onto hb
      have hr10 := hr9.below hb hr9.lt
      clear hr9
      clear h9 hb
      obtain ⟨x0, x1, x2, x3, x4, x5, x6, x7⟩ := h10.all
      go_upto_region 16 with (fail)
      go_wp2_with fail
      refine (hbk2 a2 _ h10.d).mono ?_
      rintro e w11 ⟨rfl, hb⟩
      clear x0 x1 x2 x3 x4 x5 x6 x7
      have h11 := h10.onto hb
      have hr11 := hr10.below hb hr10.lt
      clear hr10
      clear h10 hb
      obtain ⟨x0, x1, x2, x3, x4, x5, x6, x7⟩ := h11.all
      go_upto_region 17 with (fail)
      clear x0 x1 x2 x3 x4 x5 x6 x7
      have hd := ((⟨h11, hr11⟩ : Wr w a v2 a2 w11).drewN 1).all
      go_region_held3 (fun W => (W.cell? ⟨w.heap.size, 0, none⟩ = some (.int .i64 v2.most) ∧ W.cell? ⟨w.heap.size, 1, none⟩ = some (.int .i64 v2.sk.wide) ∧ W.cell? ⟨w.heap.size, 2, none⟩ = some (.int .u64 v2.sk.seed) ∧ W.cell? ⟨w.heap.size, 3, none⟩ = some (.slice (some ⟨a2.R, 0, none⟩) 4 a2.c) ∧ W.cell? ⟨w.heap.size, 4, none⟩ = some (.slice (some ⟨a2.D, 0, none⟩) v2.sk.wide v2.sk.wide) ∧ W.cell? ⟨w.heap.size, 5, none⟩ = some (.int .i64 v2.sk.added) ∧ W.cell? ⟨w.heap.size, 6, none⟩ = some (.slice (some ⟨a2.G, 0, none⟩) 3 3) ∧ W.cell? ⟨w.heap.size, 7, none⟩ = some (.int .i64 v2.pl)) ∧ Wr w a v2 a2 W)
       (first | assumption | exact hd | exact Wr.all (by assumption))
       (first | (go_at_call 87; (with_reducible refine Calls.mono (fs1 a2 _ (by assumption : (_ ∧ _ ∧ _ ∧ _ ∧ _ ∧ _ ∧ _ ∧ _) ∧ _).2) ?_); rintro e wv ⟨rfl, hwv⟩) | (go_at_call 87; (with_reducible refine Calls.mono (fs2 a2 _ (by assumption : (_ ∧ _ ∧ _ ∧ _ ∧ _ ∧ _ ∧ _ ∧ _) ∧ _).2) ?_); rintro e wv ⟨rfl, hwv⟩) | fail)
      have hZ := (by assumption : (_ ∧ _ ∧ _ ∧ _ ∧ _ ∧ _ ∧ _ ∧ _) ∧ Wr w a v2 a2 _).2
      have h12 := hZ.k
      have hr12 := hZ.r
      clear hd hZ h11 hr11
      obtain ⟨x0, x1, x2, x3, x4, x5, x6, x7⟩ := h12.all
      go_wp2_with fail
      refine (hdr a2 _ h12.d).mono ?_
      rintro e w13 ⟨a3, rfl, e1, e2, e3, hg⟩
      clear x0 x1 x2 x3 x4 x5 x6 x7
      have hbx := h12.box.below hg.below h12.box.lt
      have y6 := hbx.cell 6
      have f6 := hbx.free 6
      have y7 := hbx.cell 7
      have f7 := hbx.free 7
      simp only [gA, gB, gC] at y6 y7
      go_upto_region 19 with (fail)
      clear y6 f6 y7 f7
      have h14 := h12.lists hg HN3.out HM3.out HS3.out ⟨e1, e2, e3⟩
      rw [pl_of HM3.out] at h14
      have hr14 : Blk ((w13.setCell ⟨w.heap.size, 6, none⟩ (.slice (some ⟨a3.G, 0, none⟩) 3 3)).setCell ⟨w.heap.size, 7, none⟩ (.int .i64 v2.pl)) (w.heap.size + 1) 38 #[.int .i64 0, .int .i64 0, .int .u64 0, .slice none 0 0, .slice none 0 0, .int .i64 0, .slice none 0 0, .int .i64 0] := (far2 _ (by omega) _ _).trans (hr12.below hg.below hr12.lt)
      clear hr12
      generalize ((w13.setCell ⟨w.heap.size, 6, none⟩ (.slice (some ⟨a3.G, 0, none⟩) 3 3)).setCell ⟨w.heap.size, 7, none⟩ (.int .i64 v2.pl)) = w14 at *
      clear h12 hbx hg e1 e2 e3
      obtain ⟨x0, x1, x2, x3, x4, x5, x6, x7⟩ := h14.all
      go_wp2_with fail
      refine (hfr1 a3 _ h14.d).mono ?_
      rintro e w15 ⟨a4, rfl, hg⟩
      clear x0 x1 x2 x3 x4 x5 x6 x7
      have hbl := (Below.refl _ w15).alloc (Nat.le_refl _) (.cells #[.string (str o)] 9)
      have hsz9 := Nat.le_trans h14.sz hg.below.size
      have hT := Told.lit (w := w) (x := w15) (by omega) o
      have hq9 : ∀ q, (Value.slice (some ⟨w15.heap.size, 0, none⟩) 1 1).ownBlock = some q → w.heap.size + 2 ≤ q := fun q e => by
       have e2 : w15.heap.size = q := by injection e
       omega
      have HT := Lib.hid hT
      have HQ9 := Lib.hid hq9
      clear hT hq9 hsz9
      have hg2 := hg.onto hbl
      have hrx := (hr14.below hg.below hr14.lt).below hbl (hr14.below hg.below hr14.lt).lt
      clear hr14 hbl hg
      have y0 := hrx.cell 0
      have f0 := hrx.free 0
      have y1 := hrx.cell 1
      have f1 := hrx.free 1
      have y2 := hrx.cell 2
      have f2 := hrx.free 2
      have y3 := hrx.cell 3
      have f3 := hrx.free 3
      have y4 := hrx.cell 4
      have f4 := hrx.free 4
      have y5 := hrx.cell 5
      have f5 := hrx.free 5
      have y6 := hrx.cell 6
      have f6 := hrx.free 6
      have y7 := hrx.cell 7
      have f7 := hrx.free 7
      simp only [gA, gB, gC] at y0 y1 y2 y3 y4 y5 y6 y7
      go_wp2_with fail
      obtain ⟨hG, hB⟩ := res_goes h14 hg2 HN4.out (b := w.heap.size + 1) (by omega) (by omega) hrx
      refine bodyPost_ret (results_row_tmp rfl _ _ (w.heap.size + 1) rfl (run_loadVar_row _ _ _ _ _ _ _ hB Tryz.underlying38 rfl (by kernel_rfl))) rfl ⟨a4, _, by rw [HQ.out.1] <;> rfl, by rw [HQ.out.1]; exact hG, by rw [HQ.out.2]; exact HT.out.far (fun q hq => far8 _ (by omega) _ _ _ _ _ _ _ _) HQ9.out⟩
    | none =>
     have e5 : v2.first [1, 2] = none := by unfold Tv.first; rw [e1b]; unfold Tv.first; rw [e2b]; rfl
     simp only [e2b, Option.getD_none, Option.isSome_none] at hbk2
     have hst : v2.stays one = none := by unfold Tv.stays; rw [e5]
     clear e1b e2b e5
     have hq3 : s = v2.dr one ∧ sk = [one] := by rw [hst] at hq; exact hq
     have hdr := fun (a2 : Ad) (W : World) (hW : Dt W v2 a2) => d_drop hok2 one W hW
     have HN3 := Lib.hid (show (v2.dr one).rg.n = 3 from hok2.fit.n)
     have HM3 := Lib.hid (show (v2.dr one).most = v2.most from rfl)
     have HS3 := Lib.hid (show (v2.dr one).sk = v2.sk from rfl)
     generalize v2.dr one = v3 at *
     have HQ := Lib.hid hq3
     clear hq hq3 hst hF hok2
     go_enter Tryz.func62, Tryz.ntmps62
     go_upto_region 1 with (fail)
     generalize (w.alloc (.cells #[.int .i64 v.most, .int .i64 v.sk.wide, .int .u64 v.sk.seed, .slice (some ⟨a.R, 0, none⟩) 4 a.c, .slice (some ⟨a.D, 0, none⟩) v.sk.wide v.sk.wide, .int .i64 v.sk.added, .slice (some ⟨a.G, 0, none⟩) 3 3, .int .i64 v.pl] 38)).alloc (.cells #[.int .i64 0, .int .i64 0, .int .u64 0, .slice none 0 0, .slice none 0 0, .int .i64 0, .slice none 0 0, .int .i64 0] 38) = w1 at *
     obtain ⟨x0, x1, x2, x3, x4, x5, x6, x7⟩ := h1.all
     go_wp2_with fail
     refine (htc _ h1.d).mono ?_
     rintro e w2 ⟨a9, rfl, hg⟩
     clear x0 x1 x2 x3 x4 x5 x6 x7
     have hb2 := (Below.refl _ w2).alloc (Nat.le_refl _) (.cells #[.int .i64 v.most, .int .i64 v.sk.wide, .int .u64 v.sk.seed, .slice (some ⟨a9.R, 0, none⟩) 4 a9.c, .slice (some ⟨a9.D, 0, none⟩) v.sk.wide v.sk.wide, .int .i64 v.sk.added, .slice (some ⟨a9.G, 0, none⟩) 3 3, .int .i64 v.pl] 38)
     have h2 := (h1.onto hg.below).onto hb2
     have hr2 := (hr1.below hg.below hr1.lt).below hb2 (hr1.below hg.below hr1.lt).lt
     clear hr1 h1 hb2 hg
     go_upto_region 6 with (fail)
     generalize w2.alloc (.cells #[.int .i64 v.most, .int .i64 v.sk.wide, .int .u64 v.sk.seed, .slice (some ⟨a9.R, 0, none⟩) 4 a9.c, .slice (some ⟨a9.D, 0, none⟩) v.sk.wide v.sk.wide, .int .i64 v.sk.added, .slice (some ⟨a9.G, 0, none⟩) 3 3, .int .i64 v.pl] 38) = w3 at *
     obtain ⟨x0, x1, x2, x3, x4, x5, x6, x7⟩ := h2.all
     go_wp2_with fail
     refine (hadd _ h2.d).mono ?_
     rintro e w3 ⟨a1, rfl, eG, hg⟩
     clear x0 x1 x2 x3 x4 x5 x6 x7
     have hbx := h2.box.below hg.below h2.box.lt
     have y1 := hbx.cell 1
     have f1 := hbx.free 1
     have y2 := hbx.cell 2
     have f2 := hbx.free 2
     have y3 := hbx.cell 3
     have f3 := hbx.free 3
     have y4 := hbx.cell 4
     have f4 := hbx.free 4
     have y5 := hbx.cell 5
     have f5 := hbx.free 5
     simp only [gA, gB, gC] at y1 y2 y3 y4 y5
     go_upto_region 7 with (fail)
     clear y1 f1 y2 f2 y3 f3 y4 f4 y5 f5
     have h4 := h2.sketch hg HN1.out HM1.out eG
     have hr4 : Blk (((((w3.setCell ⟨w.heap.size, 1, none⟩ (.int .i64 v1.sk.wide)).setCell ⟨w.heap.size, 2, none⟩ (.int .u64 v1.sk.seed)).setCell ⟨w.heap.size, 3, none⟩ (.slice (some ⟨a1.R, 0, none⟩) 4 a1.c)).setCell ⟨w.heap.size, 4, none⟩ (.slice (some ⟨a1.D, 0, none⟩) v1.sk.wide v1.sk.wide)).setCell ⟨w.heap.size, 5, none⟩ (.int .i64 v1.sk.added)) (w.heap.size + 1) 38 #[.int .i64 0, .int .i64 0, .int .u64 0, .slice none 0 0, .slice none 0 0, .int .i64 0, .slice none 0 0, .int .i64 0] := (far5 _ (by omega) _ _ _ _ _).trans (hr2.below hg.below hr2.lt)
     clear hr2
     generalize (((((w3.setCell ⟨w.heap.size, 1, none⟩ (.int .i64 v1.sk.wide)).setCell ⟨w.heap.size, 2, none⟩ (.int .u64 v1.sk.seed)).setCell ⟨w.heap.size, 3, none⟩ (.slice (some ⟨a1.R, 0, none⟩) 4 a1.c)).setCell ⟨w.heap.size, 4, none⟩ (.slice (some ⟨a1.D, 0, none⟩) v1.sk.wide v1.sk.wide)).setCell ⟨w.heap.size, 5, none⟩ (.int .i64 v1.sk.added)) = w4 at *
     clear h2 hbx hg eG
     obtain ⟨x0, x1, x2, x3, x4, x5, x6, x7⟩ := h4.all
     go_wp2_with fail
     refine (hfr a1 _ h4.d).mono ?_
     rintro e w5 ⟨a2, rfl, hg⟩
     clear x0 x1 x2 x3 x4 x5 x6 x7
     have hbx := h4.box.below hg.below h4.box.lt
     have y0 := hbx.cell 0
     have f0 := hbx.free 0
     have y1 := hbx.cell 1
     have f1 := hbx.free 1
     have y2 := hbx.cell 2
     have f2 := hbx.free 2
     have y3 := hbx.cell 3
     have f3 := hbx.free 3
     have y4 := hbx.cell 4
     have f4 := hbx.free 4
     have y5 := hbx.cell 5
     have f5 := hbx.free 5
     have y6 := hbx.cell 6
     have f6 := hbx.free 6
     have y7 := hbx.cell 7
     have f7 := hbx.free 7
     simp only [gA, gB, gC] at y0 y1 y2 y3 y4 y5 y6 y7
     go_upto_region 8 with (fail)
     clear y0 f0 y1 f1 y2 f2 y3 f3 y4 f4 y5 f5 y6 f6 y7 f7
     have h6 := h4.whole hg HN2.out
     have hr6 : Blk ((((((((w5.setCell ⟨w.heap.size, 0, none⟩ (.int .i64 v2.most)).setCell ⟨w.heap.size, 1, none⟩ (.int .i64 v2.sk.wide)).setCell ⟨w.heap.size, 2, none⟩ (.int .u64 v2.sk.seed)).setCell ⟨w.heap.size, 3, none⟩ (.slice (some ⟨a2.R, 0, none⟩) 4 a2.c)).setCell ⟨w.heap.size, 4, none⟩ (.slice (some ⟨a2.D, 0, none⟩) v2.sk.wide v2.sk.wide)).setCell ⟨w.heap.size, 5, none⟩ (.int .i64 v2.sk.added)).setCell ⟨w.heap.size, 6, none⟩ (.slice (some ⟨a2.G, 0, none⟩) 3 3)).setCell ⟨w.heap.size, 7, none⟩ (.int .i64 v2.pl)) (w.heap.size + 1) 38 #[.int .i64 0, .int .i64 0, .int .u64 0, .slice none 0 0, .slice none 0 0, .int .i64 0, .slice none 0 0, .int .i64 0] := (far8 _ (by omega) _ _ _ _ _ _ _ _).trans (hr4.below hg.below hr4.lt)
     clear hr4
     generalize ((((((((w5.setCell ⟨w.heap.size, 0, none⟩ (.int .i64 v2.most)).setCell ⟨w.heap.size, 1, none⟩ (.int .i64 v2.sk.wide)).setCell ⟨w.heap.size, 2, none⟩ (.int .u64 v2.sk.seed)).setCell ⟨w.heap.size, 3, none⟩ (.slice (some ⟨a2.R, 0, none⟩) 4 a2.c)).setCell ⟨w.heap.size, 4, none⟩ (.slice (some ⟨a2.D, 0, none⟩) v2.sk.wide v2.sk.wide)).setCell ⟨w.heap.size, 5, none⟩ (.int .i64 v2.sk.added)).setCell ⟨w.heap.size, 6, none⟩ (.slice (some ⟨a2.G, 0, none⟩) 3 3)).setCell ⟨w.heap.size, 7, none⟩ (.int .i64 v2.pl)) = w6 at *
     clear h4 hbx hg
     obtain ⟨x0, x1, x2, x3, x4, x5, x6, x7⟩ := h6.all
     go_wp2_with fail
     refine (hpa a2 _ h6.d).mono ?_
     rintro e w7 ⟨rfl, hb⟩
     clear x0 x1 x2 x3 x4 x5 x6 x7
     have h7 := h6.onto hb
     have hr7 := hr6.below hb hr6.lt
     clear hr6
     clear h6 hb
     obtain ⟨x0, x1, x2, x3, x4, x5, x6, x7⟩ := h7.all
     obtain ⟨ga, gc, q1⟩ := h7.d.list HN2.out (i := 0) (by omega)
     go_upto_region 11 with (fail)
     clear q1
     go_wp2_with fail
     refine (hbk0 a2 _ h7.d).mono ?_
     rintro e w8 ⟨rfl, hb⟩
     clear x0 x1 x2 x3 x4 x5 x6 x7
     have h8 := h7.onto hb
     have hr8 := hr7.below hb hr7.lt
     clear hr7
     clear h7 hb
     obtain ⟨x0, x1, x2, x3, x4, x5, x6, x7⟩ := h8.all
     go_upto_region 12 with (fail)
     clear x0 x1 x2 x3 x4 x5 x6 x7
     have hd := ((⟨h8, hr8⟩ : Wr w a v2 a2 w8).drewN 1).all
     go_region_held3 (fun W => (W.cell? ⟨w.heap.size, 0, none⟩ = some (.int .i64 v2.most) ∧ W.cell? ⟨w.heap.size, 1, none⟩ = some (.int .i64 v2.sk.wide) ∧ W.cell? ⟨w.heap.size, 2, none⟩ = some (.int .u64 v2.sk.seed) ∧ W.cell? ⟨w.heap.size, 3, none⟩ = some (.slice (some ⟨a2.R, 0, none⟩) 4 a2.c) ∧ W.cell? ⟨w.heap.size, 4, none⟩ = some (.slice (some ⟨a2.D, 0, none⟩) v2.sk.wide v2.sk.wide) ∧ W.cell? ⟨w.heap.size, 5, none⟩ = some (.int .i64 v2.sk.added) ∧ W.cell? ⟨w.heap.size, 6, none⟩ = some (.slice (some ⟨a2.G, 0, none⟩) 3 3) ∧ W.cell? ⟨w.heap.size, 7, none⟩ = some (.int .i64 v2.pl)) ∧ Wr w a v2 a2 W)
      (first | assumption | exact hd | exact Wr.all (by assumption))
      (first | (go_at_call 35; (with_reducible refine Calls.mono (fL a2 _ (by assumption : (_ ∧ _ ∧ _ ∧ _ ∧ _ ∧ _ ∧ _ ∧ _) ∧ _).2) ?_); rintro e wv ⟨rfl, hwv⟩) | fail)
     have hZ := (by assumption : (_ ∧ _ ∧ _ ∧ _ ∧ _ ∧ _ ∧ _ ∧ _) ∧ Wr w a v2 a2 _).2
     have h9 := hZ.k
     have hr9 := hZ.r
     clear hd hZ h8 hr8
     obtain ⟨x0, x1, x2, x3, x4, x5, x6, x7⟩ := h9.all
     go_upto_region 14 with (fail)
     go_wp2_with fail
     refine (hbk1 a2 _ h9.d).mono ?_
     rintro e w10 ⟨rfl, hb⟩
     clear x0 x1 x2 x3 x4 x5 x6 x7
     have h10 := h9.onto hb
     have hr10 := hr9.below hb hr9.lt
     clear hr9
     clear h9 hb
     obtain ⟨x0, x1, x2, x3, x4, x5, x6, x7⟩ := h10.all
     go_upto_region 16 with (fail)
     go_wp2_with fail
     refine (hbk2 a2 _ h10.d).mono ?_
     rintro e w11 ⟨rfl, hb⟩
     clear x0 x1 x2 x3 x4 x5 x6 x7
     have h11 := h10.onto hb
     have hr11 := hr10.below hb hr10.lt
     clear hr10
     clear h10 hb
     obtain ⟨x0, x1, x2, x3, x4, x5, x6, x7⟩ := h11.all
     go_upto_region 17 with (fail)
     clear x0 x1 x2 x3 x4 x5 x6 x7
     have hWr : Wr w a v2 a2 w11 := ⟨h11, hr11⟩
     refine region_only 12 #[false, false, false, false, false, false, false, false, false, false, false, false] (S := (fun W => (W.cell? ⟨w.heap.size, 0, none⟩ = some (.int .i64 v2.most) ∧ W.cell? ⟨w.heap.size, 1, none⟩ = some (.int .i64 v2.sk.wide) ∧ W.cell? ⟨w.heap.size, 2, none⟩ = some (.int .u64 v2.sk.seed) ∧ W.cell? ⟨w.heap.size, 3, none⟩ = some (.slice (some ⟨a2.R, 0, none⟩) 4 a2.c) ∧ W.cell? ⟨w.heap.size, 4, none⟩ = some (.slice (some ⟨a2.D, 0, none⟩) v2.sk.wide v2.sk.wide) ∧ W.cell? ⟨w.heap.size, 5, none⟩ = some (.int .i64 v2.sk.added) ∧ W.cell? ⟨w.heap.size, 6, none⟩ = some (.slice (some ⟨a2.G, 0, none⟩) 3 3) ∧ W.cell? ⟨w.heap.size, 7, none⟩ = some (.int .i64 v2.pl)) ∧ Wr w a v2 a2 W)) rfl rfl (by kernel_rfl) (hWr.drewN 1).all (fun hSw => ?_)
     refine tkA 0 77 11 ?_ rfl rfl ?_ hSw ?_
     rotate_left
     ·intro wx hSx; (try dsimp only at hSx); go_split_ands; go_simp; (try with_reducible rfl)
     simp only [sA, List.set_cons_zero, sC]
     refine tkA 1 78 10 ?_ rfl rfl ?_ hSw ?_
     rotate_left
     ·intro wx hSx; (try dsimp only at hSx); go_split_ands; go_simp; (try with_reducible rfl)
     simp only [sA, List.set_cons_zero, sC]
     refine take_at 2 79 undef (fuel := 9) rfl rfl (by kernel_rfl) (by kernel_rfl) (by kernel_rfl) (Or.inr ⟨by rfl, rfl⟩) hSw ?_
     simp only [sA, List.set_cons_zero, sC]
     refine take_at 3 80 undef (fuel := 8) rfl rfl (by kernel_rfl) (by kernel_rfl) (by kernel_rfl) (Or.inr ⟨by rfl, rfl⟩) hSw ?_
     simp only [sA, List.set_cons_zero, sC]
     refine take_at 4 81 undef (fuel := 7) rfl rfl (by kernel_rfl) (by kernel_rfl) (by kernel_rfl) (Or.inr ⟨by rfl, rfl⟩) hSw ?_
     simp only [sA, List.set_cons_zero, sC]
     refine take_at 5 82 undef (fuel := 6) rfl rfl (by kernel_rfl) (by kernel_rfl) (by kernel_rfl) (Or.inr ⟨by rfl, rfl⟩) hSw ?_
     simp only [sA, List.set_cons_zero, sC]
     refine take_at 6 83 undef (fuel := 5) rfl rfl (by kernel_rfl) (by kernel_rfl) (by kernel_rfl) (Or.inr ⟨by rfl, rfl⟩) hSw ?_
     simp only [sA, List.set_cons_zero, sC]
     refine take_at 7 84 undef (fuel := 4) rfl rfl (by kernel_rfl) (by kernel_rfl) (by kernel_rfl) (Or.inr ⟨by rfl, rfl⟩) hSw ?_
     simp only [sA, List.set_cons_zero, sC]
     refine take_at 8 85 undef (fuel := 3) rfl rfl (by kernel_rfl) (by kernel_rfl) (by kernel_rfl) (Or.inr ⟨by rfl, rfl⟩) hSw ?_
     simp only [sA, List.set_cons_zero, sC]
     refine take_at 9 86 undef (fuel := 2) rfl rfl (by kernel_rfl) (by kernel_rfl) (by kernel_rfl) (Or.inr ⟨by rfl, rfl⟩) hSw ?_
     simp only [sA, List.set_cons_zero, sC]
     refine take_at 10 87 undef (fuel := 1) rfl rfl (by kernel_rfl) (by kernel_rfl) (by kernel_rfl) (Or.inr ⟨by rfl, rfl⟩) hSw ?_
     simp only [sA, List.set_cons_zero, sC]
     refine tkA 11 88 0 ?_ rfl rfl ?_ hSw ?_
     rotate_left
     ·intro wx hSx; (try dsimp only at hSx); go_split_ands; go_simp; (try with_reducible rfl)
     simp only [sA, List.set_cons_zero, sC]
     refine wpAnyH_done (by kernel_rfl) ⟨rfl, ?_⟩ 0
     have h12 := hSw.2.k
     have hr12 := hSw.2.r
     clear hSw hWr h11 hr11
     obtain ⟨x0, x1, x2, x3, x4, x5, x6, x7⟩ := h12.all
     go_wp2_with fail
     refine (hdr a2 _ h12.d).mono ?_
     rintro e w13 ⟨a3, rfl, e1, e2, e3, hg⟩
     clear x0 x1 x2 x3 x4 x5 x6 x7
     have hbx := h12.box.below hg.below h12.box.lt
     have y6 := hbx.cell 6
     have f6 := hbx.free 6
     have y7 := hbx.cell 7
     have f7 := hbx.free 7
     simp only [gA, gB, gC] at y6 y7
     go_upto_region 21 with (fail)
     clear y6 f6 y7 f7
     have h14 := h12.lists hg HN3.out HM3.out HS3.out ⟨e1, e2, e3⟩
     rw [pl_of HM3.out] at h14
     have hr14 : Blk ((w13.setCell ⟨w.heap.size, 6, none⟩ (.slice (some ⟨a3.G, 0, none⟩) 3 3)).setCell ⟨w.heap.size, 7, none⟩ (.int .i64 v2.pl)) (w.heap.size + 1) 38 #[.int .i64 0, .int .i64 0, .int .u64 0, .slice none 0 0, .slice none 0 0, .int .i64 0, .slice none 0 0, .int .i64 0] := (far2 _ (by omega) _ _).trans (hr12.below hg.below hr12.lt)
     clear hr12
     generalize ((w13.setCell ⟨w.heap.size, 6, none⟩ (.slice (some ⟨a3.G, 0, none⟩) 3 3)).setCell ⟨w.heap.size, 7, none⟩ (.int .i64 v2.pl)) = w14 at *
     clear h12 hbx hg e1 e2 e3
     obtain ⟨x0, x1, x2, x3, x4, x5, x6, x7⟩ := h14.all
     have hbl := (Below.refl _ w14).alloc (Nat.le_refl _) (.cells #[.string (str one)] 9)
     have hT := Told.lit (w := w) (x := w14) h14.below.size one
     have hq9 : ∀ q, (Value.slice (some ⟨w14.heap.size, 0, none⟩) 1 1).ownBlock = some q → w.heap.size + 2 ≤ q := fun q e => by
      have e2 : w14.heap.size = q := by injection e
      have := h14.sz
      omega
     have HT := Lib.hid hT
     have HQ9 := Lib.hid hq9
     clear hT hq9
     have h15 := h14.onto hbl
     have hr15 := hr14.below hbl hr14.lt
     clear hr14 hbl
     have z0 := hr15.cell 0
     have f0 := hr15.free 0
     have z1 := hr15.cell 1
     have f1 := hr15.free 1
     have z2 := hr15.cell 2
     have f2 := hr15.free 2
     have z3 := hr15.cell 3
     have f3 := hr15.free 3
     have z4 := hr15.cell 4
     have f4 := hr15.free 4
     have z5 := hr15.cell 5
     have f5 := hr15.free 5
     have z6 := hr15.cell 6
     have f6 := hr15.free 6
     have z7 := hr15.cell 7
     have f7 := hr15.free 7
     simp only [gA, gB, gC] at z0 z1 z2 z3 z4 z5 z6 z7
     go_wp2_with fail
     obtain ⟨hG, hB⟩ := res_goes h15 (Goes.refl h15.d) HN3.out (b := w.heap.size + 1) (by omega) (by omega) hr15
     refine bodyPost_ret (results_row_tmp rfl _ _ (w.heap.size + 1) rfl (run_loadVar_row _ _ _ _ _ _ _ hB Tryz.underlying38 rfl (by kernel_rfl))) rfl ⟨a3, _, by rw [HQ.out.1] <;> rfl, by rw [HQ.out.1]; exact hG, by rw [HQ.out.2]; exact HT.out.far (fun q hq => far8 _ (by omega) _ _ _ _ _ _ _ _) HQ9.out⟩
end
end Go.Proofs.YtncgfnocokippaaGreat.Tinyy
