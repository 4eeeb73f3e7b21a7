/- The document's own Tiny: evicting, and its bytes. The only condition: it is as chapter 8 has it. -/
import Derived.Test.YtncgfnocokippaaGreatTinyRefMore
import Derived.Test.YtncgfnocokippaaGreatRingRoundAll
import Derived.Test.YtncgfnocokippaaGreatSq
namespace Go.Proofs.YtncgfnocokippaaGreat.Tinyy
open Go.ChangeShapes Go.WideShapes Go.ChangeAt Go.RowKit Go.Shelf
open Wirey (Blk Row str str_size str_list str_cat Kp enc)
open Ringy Go.ChangeMaps Go.Maps
open Sketchy (Sk ksOf ksOf_lt Six)

section
variable {w x y : World} {v v' v'' : Tv} {a a' a'' : Ad} {k : Key} {j K g : Nat}
def ord (t : Nat) : Nat := if t = 0 then 1 else if t = 1 then 0 else 2
theorem ord_lt (t : Nat) : ord t < 3 := by unfold ord; split; omega; split <;> omega
theorem goes_some (h : ∀ t, t < j → v.last (ord t) = none) (hj : j < 3) (e : v.last (ord j) = some k) : v.goes = some k := by
 unfold Tv.goes Tv.first
 rcases (by omega : j = 0 ∨ j = 1 ∨ j = 2) with rfl | rfl | rfl
 ·have e : v.last 1 = some k := e
  rw [e]
 ·have h0 : v.last 1 = none := h 0 (by omega)
  have e : v.last 0 = some k := e
  rw [h0]
  unfold Tv.first
  rw [e]
 ·have h0 : v.last 1 = none := h 0 (by omega)
  have h1 : v.last 0 = none := h 1 (by omega)
  have e : v.last 2 = some k := e
  rw [h0]
  unfold Tv.first
  rw [h1]
  unfold Tv.first
  rw [e]
theorem goes_none (h : ∀ t, t < 3 → v.last (ord t) = none) : v.goes = none := by
 have h0 : v.last 1 = none := h 0 (by omega)
 have h1 : v.last 0 = none := h 1 (by omega)
 have h2 : v.last 2 = none := h 2 (by omega)
 unfold Tv.goes Tv.first
 rw [h0]
 unfold Tv.first
 rw [h1]
 unfold Tv.first
 rw [h2]
 rfl
theorem Tv.evict_some (h : v.goes = some k) : v.evict = v.dr k := by unfold Tv.evict; rw [h]
theorem Tv.evict_none (h : v.goes = none) : v.evict = v := by unfold Tv.evict; rw [h]
structure Ev (w : World) (a : Ad) (v : Tv) (g : Nat) (x : World) : Prop where
 wk : Wk w 2 a v a x
 r : Blk x (w.heap.size + 1) 38 #[.int .i64 0, .int .i64 0, .int .u64 0, .slice none 0 0, .slice none 0 0, .int .i64 0, .slice none 0 0, .int .i64 0]
 o : Blk x g 3 #[.int .i64 1, .int .i64 0, .int .i64 2]
theorem Ev.onto (h : Ev w a v g x) (hb : Below x.heap.size x y) : Ev w a v g y := ⟨h.wk.onto hb, h.r.below hb h.r.lt, h.o.below hb h.o.lt⟩
theorem Ev.drewN (h : Ev w a v g x) (n : Nat) : Ev w a v g (x.drewN n) := h.onto ⟨rfl, rfl, rfl, Nat.le_refl _, fun _ _ => rfl⟩
theorem Ev.all (h : Ev w a v g x) (hj : j < 3) : x.cell? ⟨w.heap.size, 6, none⟩ = some (.slice (some ⟨a.G, 0, none⟩) 3 3) ∧ x.cell? ⟨w.heap.size, 7, none⟩ = some (.int .i64 v.pl) ∧ x.cell? ⟨g, j, none⟩ = some (.int .i64 (ord j : Int)) ∧ Ev w a v g x := by
 refine ⟨h.wk.box.cell 6, h.wk.box.cell 7, ?_, h⟩
 rcases (by omega : j = 0 ∨ j = 1 ∨ j = 2) with rfl | rfl | rfl
 ·exact h.o.cell 0
 ·exact h.o.cell 1
 ·exact h.o.cell 2
theorem Ev.all3 {o : Nat} (ho : ord j = o) (hj : j < 3) (h : Ev w a v g x) : x.cell? ⟨w.heap.size, 6, none⟩ = some (.slice (some ⟨a.G, 0, none⟩) 3 3) ∧ x.cell? ⟨w.heap.size, 7, none⟩ = some (.int .i64 v.pl) ∧ x.cell? ⟨g, j, none⟩ = some (.int .i64 o) ∧ Ev w a v g x := by subst ho; exact h.all hj
theorem ev_back (hok : v.Fine) (i : Nat) (hi : i < 3) (h : Ev w a v g x) :
  Calls Tryz.prog 83 #[.agg #[.slice (some ⟨a.G, 0, none⟩) 3 3, .int .i64 v.pl], .int .i64 i] x fun e y => e = .returned (.tuple #[.string (str ((v.last i).getD [])), .bool (v.last i).isSome]) ∧ Ev w a v g y :=
 (d_back hok hi x h.wk.d).mono fun _ _ ⟨p, q⟩ => ⟨p, h.onto q⟩
set_option maxHeartbeats 4000000 in
set_option maxRecDepth 100000 in
theorem revict_c (hok : v.Fine) (w : World) (h : Dt w v a) :
  Calls Tryz.prog 59 #[.agg #[.int .i64 v.most, .int .i64 v.sk.wide, .int .u64 v.sk.seed, .slice (some ⟨a.R, 0, none⟩) 4 a.c, .slice (some ⟨a.D, 0, none⟩) v.sk.wide v.sk.wide, .int .i64 v.sk.added, .slice (some ⟨a.G, 0, none⟩) 3 3, .int .i64 v.pl]] w fun e w' => ∃ a', e = .returned (.tuple #[.agg #[.int .i64 v.evict.most, .int .i64 v.evict.sk.wide, .int .u64 v.evict.sk.seed, .slice (some ⟨a'.R, 0, none⟩) 4 a'.c, .slice (some ⟨a'.D, 0, none⟩) v.evict.sk.wide v.evict.sk.wide, .int .i64 v.evict.sk.added, .slice (some ⟨a'.G, 0, none⟩) 3 3, .int .i64 v.evict.pl], .string (str (v.goes.getD [])), .bool v.goes.isSome]) ∧ Goes w a v.evict a' w' := by
 have h1 := Wk.new2 h hok.fit.n
 have hr1 := Blk.new (w.alloc (.cells #[.int .i64 v.most, .int .i64 v.sk.wide, .int .u64 v.sk.seed, .slice (some ⟨a.R, 0, none⟩) 4 a.c, .slice (some ⟨a.D, 0, none⟩) v.sk.wide v.sk.wide, .int .i64 v.sk.added, .slice (some ⟨a.G, 0, none⟩) 3 3, .int .i64 v.pl] 38)) 38 #[.int .i64 0, .int .i64 0, .int .u64 0, .slice none 0 0, .slice none 0 0, .int .i64 0, .slice none 0 0, .int .i64 0]
 rw [show (w.alloc (.cells #[.int .i64 v.most, .int .i64 v.sk.wide, .int .u64 v.sk.seed, .slice (some ⟨a.R, 0, none⟩) 4 a.c, .slice (some ⟨a.D, 0, none⟩) v.sk.wide v.sk.wide, .int .i64 v.sk.added, .slice (some ⟨a.G, 0, none⟩) 3 3, .int .i64 v.pl] 38)).heap.size = w.heap.size + 1 by simp] at hr1
 have hn3 := Lib.hid hok.fit.n
 clear h
 go_enter Tryz.func59, Tryz.ntmps59
 go_upto_region 1 with (fail)
 generalize (w.alloc (.cells #[.int .i64 v.most, .int .i64 v.sk.wide, .int .u64 v.sk.seed, .slice (some ⟨a.R, 0, none⟩) 4 a.c, .slice (some ⟨a.D, 0, none⟩) v.sk.wide v.sk.wide, .int .i64 v.sk.added, .slice (some ⟨a.G, 0, none⟩) 3 3, .int .i64 v.pl] 38)).alloc (.cells #[.int .i64 0, .int .i64 0, .int .u64 0, .slice none 0 0, .slice none 0 0, .int .i64 0, .slice none 0 0, .int .i64 0] 38) = w1 at *
 have hE : Ev w a v w1.heap.size (w1.alloc (.cells #[.int .i64 1, .int .i64 0, .int .i64 2] 3)) := ⟨h1.onto ((Below.refl _ w1).alloc (Nat.le_refl _) _), hr1.alloc _, Blk.new w1 _ _⟩
 clear h1 hr1
 go_upto_region 2 with (fail)
 generalize w1.alloc (.cells #[.int .i64 1, .int .i64 0, .int .i64 2] 3) = w2 at *
 generalize w1.heap.size = g at *
 go_wp2_with fail
 go_loopw [6] (fun i wr => ∃ j : Nat, j ≤ 3 ∧ i = .int .i64 j ∧ Ev w a v g wr ∧ ∀ t, t < j → v.last (ord t) = none) (fun i _ => 3 - (intOf i).toNat)
 case atStart => exact ⟨0, by omega, rfl, hE, fun t ht => by omega⟩
 case round =>
  obtain ⟨j, hj, rfl, hS, hno⟩ := hrel
  clear hE
  by_cases hlt : j < 3
  ·have d1 : decide ((j : Int) < 3) = true := decide_eq_true (by omega)
   have q1 : (0 : Int) ≤ (j : Int) := by omega
   have q2 : (j : Int) < 3 := by omega
   have hbk := fun (W : World) (hW : Ev w a v g W) => ev_back hok (ord j) (ord_lt j) hW
   have hd := (hS.drewN 1).all hlt
   have hol := ord_lt j
   have HL := Lib.hid hlt
   cases e : v.last (ord j) with
   | none =>
    simp only [e, Option.getD_none, Option.isSome_none] at hbk
    have hno2 : ∀ t, t < j + 1 → v.last (ord t) = none := fun t ht => by
     by_cases ht2 : t = j
     ·rw [ht2]; exact e
     ·exact hno t (by omega)
    have HNO := Lib.hid hno2
    clear e hno hno2
    have HO := Lib.hid (show ord j = ord j from rfl)
    generalize hoo : ord j = o at hd hbk hol HO
    replace HO := Lib.hid hoo
    clear hoo
    go_upto_region 5 with (fail)
    go_region_held3 (fun W => W.cell? ⟨w.heap.size, 6, none⟩ = some (.slice (some ⟨a.G, 0, none⟩) 3 3) ∧ W.cell? ⟨w.heap.size, 7, none⟩ = some (.int .i64 v.pl) ∧ W.cell? ⟨g, j, none⟩ = some (.int .i64 o) ∧ Ev w a v g W)
     (first | assumption | exact hd | exact Ev.all3 HO.out HL.out (by assumption))
     (first | (go_at_call 83; (with_reducible refine Calls.mono (hbk _ (by assumption : _ ∧ _ ∧ _ ∧ _).2.2.2) ?_); rintro e wv ⟨rfl, hwv⟩) | fail)
    have hZ := (by assumption : _ ∧ _ ∧ _ ∧ Ev w a v g _).2.2.2
    clear hd hS hbk
    go_wp2_with fail
    go_roundw
    case rel => exact ⟨j + 1, by omega, by simp, hZ, HNO.out⟩
    case measure => simp [intOf]; omega
   | some y =>
    simp only [e, Option.getD_some, Option.isSome_some] at hbk
    have hgo := goes_some hno hlt e
    have hev := Tv.evict_some hgo
    have hdr := fun (W : World) (hW : Dt W v a) => d_drop hok y W hW
    have HN2 := Lib.hid (show (v.dr y).rg.n = 3 from hok.fit.n)
    have HM2 := Lib.hid (show (v.dr y).most = v.most from rfl)
    have HS2 := Lib.hid (show (v.dr y).sk = v.sk from rfl)
    generalize v.dr y = v2 at *
    have HGO := Lib.hid hgo
    have HEV := Lib.hid hev
    clear e hno hgo hev
    have HO := Lib.hid (show ord j = ord j from rfl)
    generalize hoo : ord j = o at hd hbk hol HO
    replace HO := Lib.hid hoo
    clear hoo
    go_upto_region 5 with (fail)
    go_region_held3 (fun W => W.cell? ⟨w.heap.size, 6, none⟩ = some (.slice (some ⟨a.G, 0, none⟩) 3 3) ∧ W.cell? ⟨w.heap.size, 7, none⟩ = some (.int .i64 v.pl) ∧ W.cell? ⟨g, j, none⟩ = some (.int .i64 o) ∧ Ev w a v g W)
     (first | assumption | exact hd | exact Ev.all3 HO.out HL.out (by assumption))
     (first | (go_at_call 83; (with_reducible refine Calls.mono (hbk _ (by assumption : _ ∧ _ ∧ _ ∧ _).2.2.2) ?_); rintro e wv ⟨rfl, hwv⟩) | fail)
    have hZ := (by assumption : _ ∧ _ ∧ _ ∧ Ev w a v g _).2.2.2
    clear hd hS hbk
    have h5 := hZ.wk
    have hr5 := hZ.r
    clear hZ
    obtain ⟨x0, x1, x2, x3, x4, x5, x6, x7⟩ := h5.all
    go_wp2_with fail
    refine (hdr _ h5.d).mono ?_
    rintro e w6 ⟨a2, rfl, e1, e2, e3, hg⟩
    clear x0 x1 x2 x3 x4 x5 x6 x7
    have hbx := h5.box.below hg.below h5.box.lt
    have y6 := hbx.cell 6
    have f6 := hbx.free 6
    have y7 := hbx.cell 7
    have f7 := hbx.free 7
    simp only [gA, gB, gC] at y6 y7
    go_upto_region 8 with (fail)
    clear y6 f6 y7 f7
    have h7 := h5.lists hg HN2.out HM2.out HS2.out ⟨e1, e2, e3⟩
    rw [pl_of HM2.out] at h7
    have hr7 : Blk ((w6.setCell ⟨w.heap.size, 6, none⟩ (.slice (some ⟨a2.G, 0, none⟩) 3 3)).setCell ⟨w.heap.size, 7, none⟩ (.int .i64 v.pl)) (w.heap.size + 1) 38 #[.int .i64 0, .int .i64 0, .int .u64 0, .slice none 0 0, .slice none 0 0, .int .i64 0, .slice none 0 0, .int .i64 0] := (far2 _ (by omega) _ _).trans (hr5.below hg.below hr5.lt)
    clear hr5
    generalize ((w6.setCell ⟨w.heap.size, 6, none⟩ (.slice (some ⟨a2.G, 0, none⟩) 3 3)).setCell ⟨w.heap.size, 7, none⟩ (.int .i64 v.pl)) = w7 at *
    clear h5 hbx hg e1 e2 e3
    obtain ⟨x0, x1, x2, x3, x4, x5, x6, x7⟩ := h7.all
    have z0 := hr7.cell 0
    have f0 := hr7.free 0
    have z1 := hr7.cell 1
    have f1 := hr7.free 1
    have z2 := hr7.cell 2
    have f2 := hr7.free 2
    have z3 := hr7.cell 3
    have f3 := hr7.free 3
    have z4 := hr7.cell 4
    have f4 := hr7.free 4
    have z5 := hr7.cell 5
    have f5 := hr7.free 5
    have z6 := hr7.cell 6
    have f6 := hr7.free 6
    have z7 := hr7.cell 7
    have f7 := hr7.free 7
    simp only [gA, gB, gC] at z0 z1 z2 z3 z4 z5 z6 z7
    go_wp2_with fail
    obtain ⟨hG, hB⟩ := res_goes h7 (Goes.refl h7.d) HN2.out (b := w.heap.size + 1) (by omega) (by omega) hr7
    refine bodyPost_ret (results_row_tmp2 rfl _ _ (w.heap.size + 1) rfl (run_loadVar_row _ _ _ _ _ _ _ hB Tryz.underlying38 rfl (by kernel_rfl))) rfl ⟨a2, by rw [HEV.out, HGO.out]; rfl, by rw [HEV.out]; exact hG⟩
  ·obtain rfl : j = 3 := by omega
   have hgo := goes_none hno
   have hev := Tv.evict_none hgo
   have HGO := Lib.hid hgo
   have HEV := Lib.hid hev
   have d1 : decide ((3 : Int) < 3) = false := by decide
   have h5 := hS.wk
   have hr5 := hS.r
   clear hS hno hgo hev
   obtain ⟨x0, x1, x2, x3, x4, x5, x6, x7⟩ := h5.all
   have z0 := hr5.cell 0
   have f0 := hr5.free 0
   have z1 := hr5.cell 1
   have f1 := hr5.free 1
   have z2 := hr5.cell 2
   have f2 := hr5.free 2
   have z3 := hr5.cell 3
   have f3 := hr5.free 3
   have z4 := hr5.cell 4
   have f4 := hr5.free 4
   have z5 := hr5.cell 5
   have f5 := hr5.free 5
   have z6 := hr5.cell 6
   have f6 := hr5.free 6
   have z7 := hr5.cell 7
   have f7 := hr5.free 7
   simp only [gA, gB, gC] at z0 z1 z2 z3 z4 z5 z6 z7
   go_wp2_with fail
   obtain ⟨hG, hB⟩ := res_goes h5 (Goes.refl h5.d) hn3.out (b := w.heap.size + 1) (by omega) (by omega) hr5
   refine bodyPost_ret (results_row_tmp2 rfl _ _ (w.heap.size + 1) rfl (run_loadVar_row _ _ _ _ _ _ _ hB Tryz.underlying38 rfl (by kernel_rfl))) rfl ⟨a, by rw [HEV.out, HGO.out]; rfl, by rw [HEV.out]; exact hG⟩
def Tv.put (v : Tv) : List UInt8 := enc v.most ++ (v.sk.put ++ v.rg.put)
theorem skput_len {s : Sk} (h : s.Pre) : s.put.length ≤ 30000 := by
 have h1 := (Wirey.enc_len (n := s.wide) (by have := h.w2; omega)).2
 have h2 := (Wirey.enc_len (n := s.seed) h.seed).2
 have h3 := (Wirey.enc_len (n := s.added) (by have := h.w2; have := h.added; omega)).2
 have h4 := Sketchy.rowsTo_len h 4 (by omega)
 have h5 := h.w2
 rw [Sketchy.put_eq]
 show (enc s.wide ++ enc s.seed ++ enc s.added ++ Sketchy.rowsTo s 4 ++ s.door.map Sketchy.flagB).length ≤ _
 simp only [List.length_append, List.length_map, h4, h.dlen]
 omega
set_option maxHeartbeats 4000000 in
set_option maxRecDepth 100000 in
theorem rput_t (hok : v.Fine) (w : World) (h : Dt w v a) :
  Calls Tryz.prog 40 #[.agg #[.int .i64 v.most, .int .i64 v.sk.wide, .int .u64 v.sk.seed, .slice (some ⟨a.R, 0, none⟩) 4 a.c, .slice (some ⟨a.D, 0, none⟩) v.sk.wide v.sk.wide, .int .i64 v.sk.added, .slice (some ⟨a.G, 0, none⟩) 3 3, .int .i64 v.pl]] w fun e w' => e = .returned (.string (str v.put)) ∧ Below w.heap.size w w' := by
 have h1 := Wk.new1 h hok.fit.n
 have hm2 := hok.fit.m2
 have hcat := str_cat
 have hsz := str_size
 have hs := hok.fit.wf.small
 have l1 := enc_ten (n := v.most) (by omega)
 have l2 := skput_len hok.fit.sw.pre
 have l3 := hs.putTo v.rg.n (Nat.le_refl _)
 rw [hok.fit.n] at l3
 have l3' : v.rg.put.length ≤ 20 + 400000 * 3 := by unfold Rg.put; rw [hok.fit.n]; exact l3
 have hv1 : ¬ (9223372036854775807 < (enc v.most).length + v.sk.put.length) := by omega
 have hv2 : ¬ (9223372036854775807 < (enc v.most ++ v.sk.put).length + v.rg.put.length) := by rw [List.length_append]; omega
 have hv3 : ¬ (9223372036854775807 < (enc v.most).length + v.sk.put.length + v.rg.put.length) := by omega
 have hpu : v.put = enc v.most ++ (v.sk.put ++ v.rg.put) := rfl
 have HPU := Lib.hid hpu
 clear l1 l2 l3 l3' hpu
 have fm : ∀ W, Wk w 1 a v a W → Calls Tryz.prog 66 #[.int .u64 (IntKind.u64.wrap (v.most : Int))] W fun e W' => e = .returned (.string (str (enc v.most))) ∧ Wk w 1 a v a W' := fun W hW => (Ringy.refnumW (n := v.most) (by omega) W).mono fun _ _ ⟨p, q⟩ => ⟨p, hW.onto q⟩
 have fs : ∀ W, Wk w 1 a v a W → Calls Tryz.prog 68 #[.agg #[.int .i64 v.sk.wide, .int .u64 v.sk.seed, .slice (some ⟨a.R, 0, none⟩) 4 a.c, .slice (some ⟨a.D, 0, none⟩) v.sk.wide v.sk.wide, .int .i64 v.sk.added]] W fun e W' => e = .returned (.string (str v.sk.put)) ∧ Wk w 1 a v a W' := fun W hW => (Sketchy.rput_c (cap := a.c) hok.fit.sw.pre W hW.d.s).mono fun _ _ ⟨p, q⟩ => ⟨p, hW.onto q⟩
 have fp : ∀ W, Wk w 1 a v a W → Calls Tryz.prog 67 #[.agg #[.slice (some ⟨a.G, 0, none⟩) 3 3, .int .i64 v.pl]] W fun e W' => e = .returned (.string (str v.rg.put)) ∧ Wk w 1 a v a W' := fun W hW => by
  have hc := Ringy.rput_c hs W hW.d.r
  rw [hok.val] at hc
  exact hc.mono fun _ _ ⟨p, q⟩ => ⟨p, hW.onto q⟩
 clear hok h
 go_enter Tryz.func40, Tryz.ntmps40
 go_upto_region 1 with (fail)
 generalize w.alloc (.cells #[.int .i64 v.most, .int .i64 v.sk.wide, .int .u64 v.sk.seed, .slice (some ⟨a.R, 0, none⟩) 4 a.c, .slice (some ⟨a.D, 0, none⟩) v.sk.wide v.sk.wide, .int .i64 v.sk.added, .slice (some ⟨a.G, 0, none⟩) 3 3, .int .i64 v.pl] 38) = w1 at *
 have hd : (w1.drew.cell? ⟨w.heap.size, 0, none⟩ = some (.int .i64 v.most) ∧ w1.drew.cell? ⟨w.heap.size, 1, none⟩ = some (.int .i64 v.sk.wide) ∧ w1.drew.cell? ⟨w.heap.size, 2, none⟩ = some (.int .u64 v.sk.seed) ∧ w1.drew.cell? ⟨w.heap.size, 3, none⟩ = some (.slice (some ⟨a.R, 0, none⟩) 4 a.c) ∧ w1.drew.cell? ⟨w.heap.size, 4, none⟩ = some (.slice (some ⟨a.D, 0, none⟩) v.sk.wide v.sk.wide) ∧ w1.drew.cell? ⟨w.heap.size, 5, none⟩ = some (.int .i64 v.sk.added) ∧ w1.drew.cell? ⟨w.heap.size, 6, none⟩ = some (.slice (some ⟨a.G, 0, none⟩) 3 3) ∧ w1.drew.cell? ⟨w.heap.size, 7, none⟩ = some (.int .i64 v.pl)) ∧ Wk w 1 a v a w1.drew := ⟨(h1.drewN 1).all, h1.drewN 1⟩
 go_region_held3 (fun W => (W.cell? ⟨w.heap.size, 0, none⟩ = some (.int .i64 v.most) ∧ W.cell? ⟨w.heap.size, 1, none⟩ = some (.int .i64 v.sk.wide) ∧ W.cell? ⟨w.heap.size, 2, none⟩ = some (.int .u64 v.sk.seed) ∧ W.cell? ⟨w.heap.size, 3, none⟩ = some (.slice (some ⟨a.R, 0, none⟩) 4 a.c) ∧ W.cell? ⟨w.heap.size, 4, none⟩ = some (.slice (some ⟨a.D, 0, none⟩) v.sk.wide v.sk.wide) ∧ W.cell? ⟨w.heap.size, 5, none⟩ = some (.int .i64 v.sk.added) ∧ W.cell? ⟨w.heap.size, 6, none⟩ = some (.slice (some ⟨a.G, 0, none⟩) 3 3) ∧ W.cell? ⟨w.heap.size, 7, none⟩ = some (.int .i64 v.pl)) ∧ Wk w 1 a v a W)
  (first | assumption | exact hd | exact ⟨Wk.all (by assumption), by assumption⟩)
  (first | (go_at_call 66; (with_reducible refine Calls.mono (fm _ (by assumption : (_ ∧ _ ∧ _ ∧ _ ∧ _ ∧ _ ∧ _ ∧ _) ∧ _).2) ?_); rintro e wv ⟨rfl, hwv⟩) | (go_at_call 68; (with_reducible refine Calls.mono (fs _ (by assumption : (_ ∧ _ ∧ _ ∧ _ ∧ _ ∧ _ ∧ _ ∧ _) ∧ _).2) ?_); rintro e wv ⟨rfl, hwv⟩) | (go_at_call 67; (with_reducible refine Calls.mono (fp _ (by assumption : (_ ∧ _ ∧ _ ∧ _ ∧ _ ∧ _ ∧ _ ∧ _) ∧ _).2) ?_); rintro e wv ⟨rfl, hwv⟩) | fail)
 have hZ := (by assumption : (_ ∧ _ ∧ _ ∧ _ ∧ _ ∧ _ ∧ _ ∧ _) ∧ Wk w 1 a v a _).2
 clear hd
 go_wp2_with fail
 go_ret
 exact ⟨by rw [HPU.out]; rfl, hZ.below⟩
end
end Go.Proofs.YtncgfnocokippaaGreat.Tinyy
