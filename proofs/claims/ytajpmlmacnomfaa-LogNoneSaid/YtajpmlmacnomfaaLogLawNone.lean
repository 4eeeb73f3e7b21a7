/- Layer 13 (log): for every input the call returns true and leaves what it was given as it was: no log takes nothing; one for none, or too many, may not be (LogNone). No condition. -/
import Derived.Test.YtajpmlmacnomfaaLogCalls
import Derived.Test.YtajpmlmacnomfaaBits
import Derived.Test.YtajpmlmacnomfaaKit
import Derived.Test.YtajpmlmacnomfaaLogAwake
import Derived.Test.YtajpmlmacnomfaaLogOpen
import Derived.Test.YtajpmlmacnomfaaRows
import Derived.Test.YtajpmlmacnomfaaRegion
import Derived.Lib.Hide
import Derived.BigQuiet
namespace Go.Proofs.Ytajpmlmacnomfaa.Logy
open Go.ChangeShapes Go.WideShapes Go.ChangeAt Go.RowKit
open Wirey (Blk Row str str_size str_list str_cat Kp)
open Regy Slsy

set_option maxHeartbeats 2000000 in
set_option maxRecDepth 100000 in
theorem logNone_walk (most : Int) (_hm : (Lit.int .i64 most).wf = true) (x : Rc) (hx : x.Big) (w : World) :
    Calls Try.prog 6 #[.int .i64 most, .agg x.cs] w fun e w' => e = .returned (.bool true) ∧ Below w.heap.size w w' := by
  obtain ⟨q, hq, hqe⟩ := Bity.i64_cut 511 9 rfl (by omega) most
  have hqe2 : bits .and .i64 most 511 = (q : Int) := hqe
  clear hqe
  have hbox := Blk.new w 43 x.cs
  have hb := (Below.refl _ w).alloc (Nat.le_refl _) (.cells x.cs 43)
  go_enter Try.func6, Try.ntmps6
  go_upto_region 1 with (fail)
  generalize hw1 : w.alloc (.cells _ 43) = w1 at *
  clear hw1
  have x0 := hbox.cell 0
  have x1 := hbox.cell 1
  have x2 := hbox.cell 2
  have x3 := hbox.cell 3
  have x4 := hbox.cell 4
  have x5 := hbox.cell 5
  have x6 := hbox.cell 6
  have x7 := hbox.cell 7
  have x8 := hbox.cell 8
  simp only [List.getElem?_toArray, List.getElem?_cons_zero, List.getElem?_cons_succ] at x0 x1 x2 x3 x4 x5 x6 x7 x8
  go_wp2_with fail
  refine (cut_nil x.seq _).mono ?_
  rintro e u1 ⟨rfl, hbn⟩
  have hbox2 := hbox.below hbn hbox.lt
  have hb2 := hb.trans (hbn.mono hb.size)
  clear hbox hb hbn x0 x1 x2 x3 x4 x5 x6 x7 x8
  have hbox := hbox2
  have hb := hb2
  clear hbox2 hb2
  have x0 := hbox.cell 0
  have x1 := hbox.cell 1
  have x2 := hbox.cell 2
  have x3 := hbox.cell 3
  have x4 := hbox.cell 4
  have x5 := hbox.cell 5
  have x6 := hbox.cell 6
  have x7 := hbox.cell 7
  have x8 := hbox.cell 8
  simp only [List.getElem?_toArray, List.getElem?_cons_zero, List.getElem?_cons_succ] at x0 x1 x2 x3 x4 x5 x6 x7 x8
  go_wp2_with fail
  refine (from_nil 0 1 _).mono ?_
  rintro e u2 ⟨v, rfl, hO, hbn⟩
  obtain ⟨va, vc, rfl⟩ := hO.form
  clear hO
  simp only [List.length_nil]
  have hbox2 := hbox.below hbn hbox.lt
  have hb2 := hb.trans (hbn.mono hb.size)
  clear hbox hb hbn x0 x1 x2 x3 x4 x5 x6 x7 x8
  have hbox := hbox2
  have hb := hb2
  clear hbox2 hb2
  have x0 := hbox.cell 0
  have x1 := hbox.cell 1
  have x2 := hbox.cell 2
  have x3 := hbox.cell 3
  have x4 := hbox.cell 4
  have x5 := hbox.cell 5
  have x6 := hbox.cell 6
  have x7 := hbox.cell 7
  have x8 := hbox.cell 8
  simp only [List.getElem?_toArray, List.getElem?_cons_zero, List.getElem?_cons_succ] at x0 x1 x2 x3 x4 x5 x6 x7 x8
  by_cases h1 : 1 ≤ q
  · have e1 : decide ((1 : Int) ≤ (q : Int)) = true := decide_eq_true (by omega)
    by_cases h2 : q ≤ 256
    · have e2 : decide ((q : Int) ≤ 256) = true := decide_eq_true (by omega)
      go_wp2_with fail
      refine (new_ok x.seq q hx.seq (by omega) _).mono ?_
      rintro e u3 ⟨P, b, rfl, hH, hbn⟩
      clear hH
      have hbox2 := hbox.below hbn hbox.lt
      have hb2 := hb.trans (hbn.mono hb.size)
      clear hbox hb hbn x0 x1 x2 x3 x4 x5 x6 x7 x8
      have hbox := hbox2
      have hb := hb2
      clear hbox2 hb2
      have x0 := hbox.cell 0
      have x1 := hbox.cell 1
      have x2 := hbox.cell 2
      have x3 := hbox.cell 3
      have x4 := hbox.cell 4
      have x5 := hbox.cell 5
      have x6 := hbox.cell 6
      have x7 := hbox.cell 7
      have x8 := hbox.cell 8
      simp only [List.getElem?_toArray, List.getElem?_cons_zero, List.getElem?_cons_succ] at x0 x1 x2 x3 x4 x5 x6 x7 x8
      go_wp2_with fail
      refine (awake_c _).mono ?_
      rintro e u4 ⟨rfl, hbn⟩
      have hbox2 := hbox.below hbn hbox.lt
      have hb2 := hb.trans (hbn.mono hb.size)
      clear hbox hb hbn x0 x1 x2 x3 x4 x5 x6 x7 x8
      have hbox := hbox2
      have hb := hb2
      clear hbox2 hb2
      have x0 := hbox.cell 0
      have x1 := hbox.cell 1
      have x2 := hbox.cell 2
      have x3 := hbox.cell 3
      have x4 := hbox.cell 4
      have x5 := hbox.cell 5
      have x6 := hbox.cell 6
      have x7 := hbox.cell 7
      have x8 := hbox.cell 8
      simp only [List.getElem?_toArray, List.getElem?_cons_zero, List.getElem?_cons_succ] at x0 x1 x2 x3 x4 x5 x6 x7 x8
      go_wp2_with fail
      refine (add_nil x _).mono ?_
      rintro e u5 ⟨rfl, hbn⟩
      have hbox2 := hbox.below hbn hbox.lt
      have hb2 := hb.trans (hbn.mono hb.size)
      clear hbox hb hbn x0 x1 x2 x3 x4 x5 x6 x7 x8
      have hbox := hbox2
      have hb := hb2
      clear hbox2 hb2
      have x0 := hbox.cell 0
      have x1 := hbox.cell 1
      have x2 := hbox.cell 2
      have x3 := hbox.cell 3
      have x4 := hbox.cell 4
      have x5 := hbox.cell 5
      have x6 := hbox.cell 6
      have x7 := hbox.cell 7
      have x8 := hbox.cell 8
      simp only [List.getElem?_toArray, List.getElem?_cons_zero, List.getElem?_cons_succ] at x0 x1 x2 x3 x4 x5 x6 x7 x8
      go_wp2_with fail
      refine (slide_nil x _).mono ?_
      rintro e u6 ⟨rfl, hbn⟩
      have hbox2 := hbox.below hbn hbox.lt
      have hb2 := hb.trans (hbn.mono hb.size)
      clear hbox hb hbn x0 x1 x2 x3 x4 x5 x6 x7 x8
      have hbox := hbox2
      have hb := hb2
      clear hbox2 hb2
      have x0 := hbox.cell 0
      have x1 := hbox.cell 1
      have x2 := hbox.cell 2
      have x3 := hbox.cell 3
      have x4 := hbox.cell 4
      have x5 := hbox.cell 5
      have x6 := hbox.cell 6
      have x7 := hbox.cell 7
      have x8 := hbox.cell 8
      simp only [List.getElem?_toArray, List.getElem?_cons_zero, List.getElem?_cons_succ] at x0 x1 x2 x3 x4 x5 x6 x7 x8
      go_wp2_with fail
      refine (base_nil _).mono ?_
      rintro e u7 ⟨rfl, hbn⟩
      have hbox2 := hbox.below hbn hbox.lt
      have hb2 := hb.trans (hbn.mono hb.size)
      clear hbox hb hbn x0 x1 x2 x3 x4 x5 x6 x7 x8
      have hbox := hbox2
      have hb := hb2
      clear hbox2 hb2
      have x0 := hbox.cell 0
      have x1 := hbox.cell 1
      have x2 := hbox.cell 2
      have x3 := hbox.cell 3
      have x4 := hbox.cell 4
      have x5 := hbox.cell 5
      have x6 := hbox.cell 6
      have x7 := hbox.cell 7
      have x8 := hbox.cell 8
      simp only [List.getElem?_toArray, List.getElem?_cons_zero, List.getElem?_cons_succ] at x0 x1 x2 x3 x4 x5 x6 x7 x8
      go_wp2_with fail
      refine (last_nil _).mono ?_
      rintro e u8 ⟨rfl, hbn⟩
      have hbox2 := hbox.below hbn hbox.lt
      have hb2 := hb.trans (hbn.mono hb.size)
      clear hbox hb hbn x0 x1 x2 x3 x4 x5 x6 x7 x8
      have hbox := hbox2
      have hb := hb2
      clear hbox2 hb2
      have x0 := hbox.cell 0
      have x1 := hbox.cell 1
      have x2 := hbox.cell 2
      have x3 := hbox.cell 3
      have x4 := hbox.cell 4
      have x5 := hbox.cell 5
      have x6 := hbox.cell 6
      have x7 := hbox.cell 7
      have x8 := hbox.cell 8
      simp only [List.getElem?_toArray, List.getElem?_cons_zero, List.getElem?_cons_succ] at x0 x1 x2 x3 x4 x5 x6 x7 x8
      go_wp2_with fail
      refine (room_nil _).mono ?_
      rintro e u9 ⟨rfl, hbn⟩
      have hbox2 := hbox.below hbn hbox.lt
      have hb2 := hb.trans (hbn.mono hb.size)
      clear hbox hb hbn x0 x1 x2 x3 x4 x5 x6 x7 x8
      have hbox := hbox2
      have hb := hb2
      clear hbox2 hb2
      have x0 := hbox.cell 0
      have x1 := hbox.cell 1
      have x2 := hbox.cell 2
      have x3 := hbox.cell 3
      have x4 := hbox.cell 4
      have x5 := hbox.cell 5
      have x6 := hbox.cell 6
      have x7 := hbox.cell 7
      have x8 := hbox.cell 8
      simp only [List.getElem?_toArray, List.getElem?_cons_zero, List.getElem?_cons_succ] at x0 x1 x2 x3 x4 x5 x6 x7 x8
      go_wp2_with fail
      go_ret
      exact ⟨rfl, hb⟩
    · have e2 : decide ((q : Int) ≤ 256) = false := decide_eq_false (by omega)
      go_wp2_with fail
      refine (new_no x.seq hx.seq (q : Int) (by omega) _).mono ?_
      rintro e u3 ⟨rfl, hbn⟩
      have hbox2 := hbox.below hbn hbox.lt
      have hb2 := hb.trans (hbn.mono hb.size)
      clear hbox hb hbn x0 x1 x2 x3 x4 x5 x6 x7 x8
      have hbox := hbox2
      have hb := hb2
      clear hbox2 hb2
      have x0 := hbox.cell 0
      have x1 := hbox.cell 1
      have x2 := hbox.cell 2
      have x3 := hbox.cell 3
      have x4 := hbox.cell 4
      have x5 := hbox.cell 5
      have x6 := hbox.cell 6
      have x7 := hbox.cell 7
      have x8 := hbox.cell 8
      simp only [List.getElem?_toArray, List.getElem?_cons_zero, List.getElem?_cons_succ] at x0 x1 x2 x3 x4 x5 x6 x7 x8
      go_wp2_with fail
      refine (awake_c _).mono ?_
      rintro e u4 ⟨rfl, hbn⟩
      have hbox2 := hbox.below hbn hbox.lt
      have hb2 := hb.trans (hbn.mono hb.size)
      clear hbox hb hbn x0 x1 x2 x3 x4 x5 x6 x7 x8
      have hbox := hbox2
      have hb := hb2
      clear hbox2 hb2
      have x0 := hbox.cell 0
      have x1 := hbox.cell 1
      have x2 := hbox.cell 2
      have x3 := hbox.cell 3
      have x4 := hbox.cell 4
      have x5 := hbox.cell 5
      have x6 := hbox.cell 6
      have x7 := hbox.cell 7
      have x8 := hbox.cell 8
      simp only [List.getElem?_toArray, List.getElem?_cons_zero, List.getElem?_cons_succ] at x0 x1 x2 x3 x4 x5 x6 x7 x8
      go_wp2_with fail
      refine (add_nil x _).mono ?_
      rintro e u5 ⟨rfl, hbn⟩
      have hbox2 := hbox.below hbn hbox.lt
      have hb2 := hb.trans (hbn.mono hb.size)
      clear hbox hb hbn x0 x1 x2 x3 x4 x5 x6 x7 x8
      have hbox := hbox2
      have hb := hb2
      clear hbox2 hb2
      have x0 := hbox.cell 0
      have x1 := hbox.cell 1
      have x2 := hbox.cell 2
      have x3 := hbox.cell 3
      have x4 := hbox.cell 4
      have x5 := hbox.cell 5
      have x6 := hbox.cell 6
      have x7 := hbox.cell 7
      have x8 := hbox.cell 8
      simp only [List.getElem?_toArray, List.getElem?_cons_zero, List.getElem?_cons_succ] at x0 x1 x2 x3 x4 x5 x6 x7 x8
      go_wp2_with fail
      refine (slide_nil x _).mono ?_
      rintro e u6 ⟨rfl, hbn⟩
      have hbox2 := hbox.below hbn hbox.lt
      have hb2 := hb.trans (hbn.mono hb.size)
      clear hbox hb hbn x0 x1 x2 x3 x4 x5 x6 x7 x8
      have hbox := hbox2
      have hb := hb2
      clear hbox2 hb2
      have x0 := hbox.cell 0
      have x1 := hbox.cell 1
      have x2 := hbox.cell 2
      have x3 := hbox.cell 3
      have x4 := hbox.cell 4
      have x5 := hbox.cell 5
      have x6 := hbox.cell 6
      have x7 := hbox.cell 7
      have x8 := hbox.cell 8
      simp only [List.getElem?_toArray, List.getElem?_cons_zero, List.getElem?_cons_succ] at x0 x1 x2 x3 x4 x5 x6 x7 x8
      go_wp2_with fail
      refine (base_nil _).mono ?_
      rintro e u7 ⟨rfl, hbn⟩
      have hbox2 := hbox.below hbn hbox.lt
      have hb2 := hb.trans (hbn.mono hb.size)
      clear hbox hb hbn x0 x1 x2 x3 x4 x5 x6 x7 x8
      have hbox := hbox2
      have hb := hb2
      clear hbox2 hb2
      have x0 := hbox.cell 0
      have x1 := hbox.cell 1
      have x2 := hbox.cell 2
      have x3 := hbox.cell 3
      have x4 := hbox.cell 4
      have x5 := hbox.cell 5
      have x6 := hbox.cell 6
      have x7 := hbox.cell 7
      have x8 := hbox.cell 8
      simp only [List.getElem?_toArray, List.getElem?_cons_zero, List.getElem?_cons_succ] at x0 x1 x2 x3 x4 x5 x6 x7 x8
      go_wp2_with fail
      refine (last_nil _).mono ?_
      rintro e u8 ⟨rfl, hbn⟩
      have hbox2 := hbox.below hbn hbox.lt
      have hb2 := hb.trans (hbn.mono hb.size)
      clear hbox hb hbn x0 x1 x2 x3 x4 x5 x6 x7 x8
      have hbox := hbox2
      have hb := hb2
      clear hbox2 hb2
      have x0 := hbox.cell 0
      have x1 := hbox.cell 1
      have x2 := hbox.cell 2
      have x3 := hbox.cell 3
      have x4 := hbox.cell 4
      have x5 := hbox.cell 5
      have x6 := hbox.cell 6
      have x7 := hbox.cell 7
      have x8 := hbox.cell 8
      simp only [List.getElem?_toArray, List.getElem?_cons_zero, List.getElem?_cons_succ] at x0 x1 x2 x3 x4 x5 x6 x7 x8
      go_wp2_with fail
      refine (room_nil _).mono ?_
      rintro e u9 ⟨rfl, hbn⟩
      have hbox2 := hbox.below hbn hbox.lt
      have hb2 := hb.trans (hbn.mono hb.size)
      clear hbox hb hbn x0 x1 x2 x3 x4 x5 x6 x7 x8
      have hbox := hbox2
      have hb := hb2
      clear hbox2 hb2
      have x0 := hbox.cell 0
      have x1 := hbox.cell 1
      have x2 := hbox.cell 2
      have x3 := hbox.cell 3
      have x4 := hbox.cell 4
      have x5 := hbox.cell 5
      have x6 := hbox.cell 6
      have x7 := hbox.cell 7
      have x8 := hbox.cell 8
      simp only [List.getElem?_toArray, List.getElem?_cons_zero, List.getElem?_cons_succ] at x0 x1 x2 x3 x4 x5 x6 x7 x8
      go_wp2_with fail
      go_ret
      exact ⟨rfl, hb⟩
  · have e1 : decide ((1 : Int) ≤ (q : Int)) = false := decide_eq_false (by omega)
    go_wp2_with fail
    refine (new_no x.seq hx.seq (q : Int) (by omega) _).mono ?_
    rintro e u3 ⟨rfl, hbn⟩
    have hbox2 := hbox.below hbn hbox.lt
    have hb2 := hb.trans (hbn.mono hb.size)
    clear hbox hb hbn x0 x1 x2 x3 x4 x5 x6 x7 x8
    have hbox := hbox2
    have hb := hb2
    clear hbox2 hb2
    have x0 := hbox.cell 0
    have x1 := hbox.cell 1
    have x2 := hbox.cell 2
    have x3 := hbox.cell 3
    have x4 := hbox.cell 4
    have x5 := hbox.cell 5
    have x6 := hbox.cell 6
    have x7 := hbox.cell 7
    have x8 := hbox.cell 8
    simp only [List.getElem?_toArray, List.getElem?_cons_zero, List.getElem?_cons_succ] at x0 x1 x2 x3 x4 x5 x6 x7 x8
    go_wp2_with fail
    refine (awake_c _).mono ?_
    rintro e u4 ⟨rfl, hbn⟩
    have hbox2 := hbox.below hbn hbox.lt
    have hb2 := hb.trans (hbn.mono hb.size)
    clear hbox hb hbn x0 x1 x2 x3 x4 x5 x6 x7 x8
    have hbox := hbox2
    have hb := hb2
    clear hbox2 hb2
    have x0 := hbox.cell 0
    have x1 := hbox.cell 1
    have x2 := hbox.cell 2
    have x3 := hbox.cell 3
    have x4 := hbox.cell 4
    have x5 := hbox.cell 5
    have x6 := hbox.cell 6
    have x7 := hbox.cell 7
    have x8 := hbox.cell 8
    simp only [List.getElem?_toArray, List.getElem?_cons_zero, List.getElem?_cons_succ] at x0 x1 x2 x3 x4 x5 x6 x7 x8
    go_wp2_with fail
    refine (add_nil x _).mono ?_
    rintro e u5 ⟨rfl, hbn⟩
    have hbox2 := hbox.below hbn hbox.lt
    have hb2 := hb.trans (hbn.mono hb.size)
    clear hbox hb hbn x0 x1 x2 x3 x4 x5 x6 x7 x8
    have hbox := hbox2
    have hb := hb2
    clear hbox2 hb2
    have x0 := hbox.cell 0
    have x1 := hbox.cell 1
    have x2 := hbox.cell 2
    have x3 := hbox.cell 3
    have x4 := hbox.cell 4
    have x5 := hbox.cell 5
    have x6 := hbox.cell 6
    have x7 := hbox.cell 7
    have x8 := hbox.cell 8
    simp only [List.getElem?_toArray, List.getElem?_cons_zero, List.getElem?_cons_succ] at x0 x1 x2 x3 x4 x5 x6 x7 x8
    go_wp2_with fail
    refine (slide_nil x _).mono ?_
    rintro e u6 ⟨rfl, hbn⟩
    have hbox2 := hbox.below hbn hbox.lt
    have hb2 := hb.trans (hbn.mono hb.size)
    clear hbox hb hbn x0 x1 x2 x3 x4 x5 x6 x7 x8
    have hbox := hbox2
    have hb := hb2
    clear hbox2 hb2
    have x0 := hbox.cell 0
    have x1 := hbox.cell 1
    have x2 := hbox.cell 2
    have x3 := hbox.cell 3
    have x4 := hbox.cell 4
    have x5 := hbox.cell 5
    have x6 := hbox.cell 6
    have x7 := hbox.cell 7
    have x8 := hbox.cell 8
    simp only [List.getElem?_toArray, List.getElem?_cons_zero, List.getElem?_cons_succ] at x0 x1 x2 x3 x4 x5 x6 x7 x8
    go_wp2_with fail
    refine (base_nil _).mono ?_
    rintro e u7 ⟨rfl, hbn⟩
    have hbox2 := hbox.below hbn hbox.lt
    have hb2 := hb.trans (hbn.mono hb.size)
    clear hbox hb hbn x0 x1 x2 x3 x4 x5 x6 x7 x8
    have hbox := hbox2
    have hb := hb2
    clear hbox2 hb2
    have x0 := hbox.cell 0
    have x1 := hbox.cell 1
    have x2 := hbox.cell 2
    have x3 := hbox.cell 3
    have x4 := hbox.cell 4
    have x5 := hbox.cell 5
    have x6 := hbox.cell 6
    have x7 := hbox.cell 7
    have x8 := hbox.cell 8
    simp only [List.getElem?_toArray, List.getElem?_cons_zero, List.getElem?_cons_succ] at x0 x1 x2 x3 x4 x5 x6 x7 x8
    go_wp2_with fail
    refine (last_nil _).mono ?_
    rintro e u8 ⟨rfl, hbn⟩
    have hbox2 := hbox.below hbn hbox.lt
    have hb2 := hb.trans (hbn.mono hb.size)
    clear hbox hb hbn x0 x1 x2 x3 x4 x5 x6 x7 x8
    have hbox := hbox2
    have hb := hb2
    clear hbox2 hb2
    have x0 := hbox.cell 0
    have x1 := hbox.cell 1
    have x2 := hbox.cell 2
    have x3 := hbox.cell 3
    have x4 := hbox.cell 4
    have x5 := hbox.cell 5
    have x6 := hbox.cell 6
    have x7 := hbox.cell 7
    have x8 := hbox.cell 8
    simp only [List.getElem?_toArray, List.getElem?_cons_zero, List.getElem?_cons_succ] at x0 x1 x2 x3 x4 x5 x6 x7 x8
    go_wp2_with fail
    refine (room_nil _).mono ?_
    rintro e u9 ⟨rfl, hbn⟩
    have hbox2 := hbox.below hbn hbox.lt
    have hb2 := hb.trans (hbn.mono hb.size)
    clear hbox hb hbn x0 x1 x2 x3 x4 x5 x6 x7 x8
    have hbox := hbox2
    have hb := hb2
    clear hbox2 hb2
    have x0 := hbox.cell 0
    have x1 := hbox.cell 1
    have x2 := hbox.cell 2
    have x3 := hbox.cell 3
    have x4 := hbox.cell 4
    have x5 := hbox.cell 5
    have x6 := hbox.cell 6
    have x7 := hbox.cell 7
    have x8 := hbox.cell 8
    simp only [List.getElem?_toArray, List.getElem?_cons_zero, List.getElem?_cons_succ] at x0 x1 x2 x3 x4 x5 x6 x7 x8
    go_wp2_with fail
    go_ret
    exact ⟨rfl, hb⟩
set_option linter.unusedVariables false in
set_option maxRecDepth 100000 in
theorem logNone_lifted (os : Os) (started : os.Started) (H : Type) (enc : TypeId × Value → H) :
    ReturnsInHanded {} Try.checked os 6 .any (Rows.logNoneSpec.pre6 enc Try.prog Try.f6 Rows.logNoneRow.domain false) (Rows.logNoneSpec.post enc Try.prog Try.f6 false true false false) := by
  refine returnsInHanded_of_change (C := Try.checked) Kit.own started (by kernel_rfl) Try.func6
    (ChangeSpec.witness6 (enc := enc) (C := Try.checked) false ⟨#[], #[.int .i64 0, .agg #[.int .u64 0, .int .u64 0, .int .u64 0, .int .u64 0, .int .i64 0, .string ⟨#[]⟩, .string ⟨#[]⟩, .int .u64 0, .int .u64 0]], []⟩ 8 (by kernel_rfl) (by kernel_rfl) (by kernel_rfl) (by kernel_rfl)) ?_
  intro W base args ds gs before hval0 hW hcnd _
  have hval : ∀ (j : Nat) t v, Try.f6.params[j]? = some t → args[j]? = some v → Value.okWide Try.prog W .any base t v := hval0
  have hW' := hW
  obtain ⟨p, q, hA0, hV, rfl, hfz, hnd⟩ := hW
  have hA : DataW.TrodAll enc Try.prog W 0 (fun _ => true) true Try.f6.params.toList args.toList ds p := hA0
  rw [Try.params6] at hA hval
  obtain ⟨v0, vs0, d0, ds0, p0, q0, hargs, rfl, rfl, h0, r0⟩ := trodAll_cons hA
  obtain ⟨v1, vs1, d1, ds1, p1, q1, rfl, rfl, rfl, h1, r1⟩ := trodAll_cons r0
  obtain ⟨rfl, rfl, rfl⟩ := trodAll_nil r1
  obtain ⟨rfl, rfl⟩ := trodVars_none hV
  obtain rfl : args = #[v0, v1] := by cases args; simp_all
  obtain ⟨most, rfl, rfl, rfl, w0⟩ := open_int Try.underlying3 (hval 0 3 v0 rfl rfl) h0
  obtain ⟨cs1, rfl, -⟩ := okWide_struct Try.underlying43 (hval 1 43 v1 rfl rfl)
  obtain ⟨fuel1, hf1⟩ := h1
  obtain ⟨x, e, hx⟩ := open_rc hf1
  obtain rfl : cs1 = x.cs := by cases cs1; simpa [Value.cells] using e
  clear hA0 hval0
  refine (logNone_walk most w0 x hx W).mono fun e W' ⟨he, hg⟩ => ?_
  subst he
  exact ⟨_, rfl, Kit.law_post hW' rfl (by kernel_rfl) rfl (by kernel_rfl) hg⟩

theorem logNone_over : Rows.logNoneRow.holds Try.pinned (OpenSpec.ofChange Rows.logNoneSpec) :=
  OpenClaim.holds_of_wide 6 Try.f6 rfl rfl rfl rfl rfl rfl rfl ⟨rfl, rfl, rfl, rfl, rfl⟩ rfl rfl rfl rfl rfl (by kernel_rfl) Try.func6 (by kernel_rfl)
    (of_decide_eq_true (by kernel_rfl)) (by unfold Func.isWrapper; first | (rw [if_pos (by decide +kernel)]; kernel_rfl) | (rw [if_neg (by decide +kernel)]; exact ⟨rfl, rfl⟩))
    (fun os started H enc _ => logNone_lifted os started H enc)

theorem logNone_holds : Rows.LogNoneSaid :=
  logNone_over
end Go.Proofs.Ytajpmlmacnomfaa.Logy
