/- Layer 10 (op): for every input the call returns true and leaves what it was given as it was: records and replies have the document's bytes, and are read again (OpRecords). No condition. -/
import Derived.Test.YtpjmkgomilnhnaaKit
import Derived.Test.YtpjmkgomilnhnaaOpPut
import Derived.Test.YtpjmkgomilnhnaaOpRefPut
import Derived.Test.YtpjmkgomilnhnaaOpRefCheck
import Derived.Test.YtpjmkgomilnhnaaOpLawCut
import Derived.Test.YtpjmkgomilnhnaaOpRead
import Derived.Test.YtpjmkgomilnhnaaOpAwake
import Derived.Test.YtpjmkgomilnhnaaOpClos
import Derived.Test.YtpjmkgomilnhnaaOpOpen
import Derived.Test.YtpjmkgomilnhnaaRows
import Derived.Deep.DeepCutAuto
import Derived.BigQuiet
import Derived.Lib.Hide
namespace Go.Proofs.Ytpjmkgomilnhnaa.Opy
open Go.ChangeShapes Go.WideShapes Go.ChangeAt Go.RowKit
open Wirey (Blk Row str str_size str_list str_cat str_take enc enc_len txt RS Kp)
open Regy

set_option maxHeartbeats 4000000 in
set_option maxRecDepth 100000 in
theorem opRecords_walk (q n s m : Nat) (k : Int) (_wk : (Lit.int .i64 k).wf = true) (key0 val0 : List UInt8) (t v : Nat) (e0 : Int) (_we : (Lit.int .i64 e0).wf = true) (l0 : List UInt8) (y : Nat) (hk0 : key0.length ≤ maxLen) (hv0 : val0.length ≤ maxLen) (hl0 : l0.length ≤ maxLen) (hq : q < 18446744073709551616) (hn : n < 18446744073709551616) (hs : s < 18446744073709551616) (hm : m < 18446744073709551616) (ht : t < 18446744073709551616) (hv : v < 18446744073709551616) (hy : y < 18446744073709551616) (w : World) :
    Calls Try.prog 4 #[.agg #[.int .u64 (q : Int), .int .u64 (n : Int), .int .u64 (s : Int), .int .u64 (m : Int), .int .i64 k, .string (str key0), .string (str val0), .int .u64 (t : Int), .int .u64 (v : Int)], .agg #[.int .i64 e0, .string (str l0), .int .u64 (y : Int)]] w fun e w' => e = .returned (.bool true) ∧ Below w.heap.size w w' := by
  have hcut := fun W => cut_c k key0 val0 (t : Int) (v : Int) hk0 hv0 W
  have hk := cutTo_le 70 key0
  have hl := cutTo_le 4100 val0
  generalize cutTo 70 key0 = key at *
  generalize cutTo 4100 val0 = val at *
  have hk5 : key.length ≤ maxLen := by unfold maxLen; omega
  have hl5 : val.length ≤ maxLen := by unfold maxLen; omega
  unfold maxLen at hl0
  have hb0 := ((Below.refl _ w).alloc (Nat.le_refl _) (.cells #[.int .u64 (q : Int), .int .u64 (n : Int), .int .u64 (s : Int), .int .u64 (m : Int), .int .i64 k, .string (str key0), .string (str val0), .int .u64 (t : Int), .int .u64 (v : Int)] 35)).alloc (by simp) (.cells #[.int .i64 e0, .string (str l0), .int .u64 (y : Int)] 37)
  have hr0 := (Blk.new w 35 #[.int .u64 (q : Int), .int .u64 (n : Int), .int .u64 (s : Int), .int .u64 (m : Int), .int .i64 k, .string (str key0), .string (str val0), .int .u64 (t : Int), .int .u64 (v : Int)]).alloc (.cells #[.int .i64 e0, .string (str l0), .int .u64 (y : Int)] 37)
  have hy0 := Blk.new (w.alloc (.cells #[.int .u64 (q : Int), .int .u64 (n : Int), .int .u64 (s : Int), .int .u64 (m : Int), .int .i64 k, .string (str key0), .string (str val0), .int .u64 (t : Int), .int .u64 (v : Int)] 35)) 37 #[.int .i64 e0, .string (str l0), .int .u64 (y : Int)]
  have s1 : (w.alloc (.cells #[.int .u64 (q : Int), .int .u64 (n : Int), .int .u64 (s : Int), .int .u64 (m : Int), .int .i64 k, .string (str key0), .string (str val0), .int .u64 (t : Int), .int .u64 (v : Int)] 35)).heap.size = w.heap.size + 1 := by simp
  rw [s1] at hy0
  have hgw : w.heap.size ≤ w.heap.size := Nat.le_refl _
  go_enter Try.func4, Try.ntmps4
  go_upto_region 1 with (fail)
  generalize (w.alloc (.cells #[.int .u64 (q : Int), .int .u64 (n : Int), .int .u64 (s : Int), .int .u64 (m : Int), .int .i64 k, .string (str key0), .string (str val0), .int .u64 (t : Int), .int .u64 (v : Int)] 35)).alloc (.cells #[.int .i64 e0, .string (str l0), .int .u64 (y : Int)] 37) = w1 at *
  clear s1
  have hF : ∀ W, Blk W w.heap.size 35 #[.int .u64 (q : Int), .int .u64 (n : Int), .int .u64 (s : Int), .int .u64 (m : Int), .int .i64 k, .string (str key0), .string (str val0), .int .u64 (t : Int), .int .u64 (v : Int)] → True := fun _ _ => trivial
  clear hF
  have x0 := hr0.cell 0
  have x1 := hr0.cell 1
  have x2 := hr0.cell 2
  have x3 := hr0.cell 3
  have x4 := hr0.cell 4
  have x5 := hr0.cell 5
  have x6 := hr0.cell 6
  have x7 := hr0.cell 7
  have x8 := hr0.cell 8
  simp only [List.getElem?_toArray, List.getElem?_cons_zero, List.getElem?_cons_succ] at x0 x1 x2 x3 x4 x5 x6 x7 x8
  go_wp2_with fail
  refine (hcut _).mono ?_
  rintro e w2 ⟨rfl, hb2⟩
  have hr2 := hr0.below hb2 hr0.lt
  have hy2 := hy0.below hb2 hy0.lt
  have hb3 : Below w.heap.size w w2 := hb0.trans (hb2.mono hb0.size)
  clear hb0 hr0 hy0 hb2 hcut x0 x1 x2 x3 x4 x5 x6 x7 x8
  have f4 := hr2.free 4
  have x4 := hr2.cell 4
  have f5 := hr2.free 5
  have x5 := hr2.cell 5
  have f6 := hr2.free 6
  have x6 := hr2.cell 6
  have f7 := hr2.free 7
  have x7 := hr2.cell 7
  have f8 := hr2.free 8
  have x8 := hr2.cell 8
  simp only [List.getElem?_toArray, List.getElem?_cons_zero, List.getElem?_cons_succ] at x4 x5 x6 x7 x8
  have HR := Lib.hid hr2
  have HY := Lib.hid hy2
  have HB := Lib.hid hb3
  clear hr2 hy2 hb3
  go_upto_region 2 with (fail)
  have hr2 := HR.out
  have hy2 := HY.out
  have hb3 := HB.out
  clear HR HY HB
  have hr3 := (((((hr2.put 4 (.int .i64 k)).put 5 (.string (str key))).put 6 (.string (str val))).put 7 (.int .u64 (t : Int))).put 8 (.int .u64 (v : Int)))
  have hK3 := ((((((Kp.refl (fun j => j = w.heap.size) w2).set (p := ⟨w.heap.size, 4, none⟩) rfl (.int .i64 k)).set (p := ⟨w.heap.size, 5, none⟩) rfl (.string (str key))).set (p := ⟨w.heap.size, 6, none⟩) rfl (.string (str val))).set (p := ⟨w.heap.size, 7, none⟩) rfl (.int .u64 (t : Int))).set (p := ⟨w.heap.size, 8, none⟩) rfl (.int .u64 (v : Int)))
  simp only [List.setIfInBounds_toArray, List.set_cons_zero, List.set_cons_succ] at hr3
  have hy3 := hK3.blk hy2 (by omega)
  have hb4 : Below w.heap.size w _ := ⟨hK3.os.trans hb3.os, hK3.tape.trans hb3.tape, hK3.output.trans hb3.output, Nat.le_trans hb3.size hK3.size, fun i hi => (hK3.block i (Nat.lt_of_lt_of_le hi hb3.size) (by omega)).trans (hb3.block i hi)⟩
  clear hr2 hy2 hb3 hK3
  generalize (((((w2.setCell ⟨w.heap.size, 4, none⟩ (.int .i64 k)).setCell ⟨w.heap.size, 5, none⟩ (.string (str key))).setCell ⟨w.heap.size, 6, none⟩ (.string (str val))).setCell ⟨w.heap.size, 7, none⟩ (.int .u64 (t : Int))).setCell ⟨w.heap.size, 8, none⟩ (.int .u64 (v : Int))) = w3 at *
  clear f4 f5 f6 f7 f8 x4 x5 x6 x7 x8
  have y1 := hy3.cell 1
  have g1 := hy3.free 1
  have htk := str_take l0 4096
  have hsz := str_size
  simp only [List.getElem?_toArray, List.getElem?_cons_zero, List.getElem?_cons_succ] at y1
  go_upto_if 18 with (fail)
  go_cut [] from 11 (fun wx => ∃ l : List UInt8, l.length ≤ 4096 ∧ Below w.heap.size w wx ∧ Blk wx w.heap.size 35 #[.int .u64 (q : Int), .int .u64 (n : Int), .int .u64 (s : Int), .int .u64 (m : Int), .int .i64 k, .string (str key), .string (str val), .int .u64 (t : Int), .int .u64 (v : Int)] ∧ Blk wx (w.heap.size + 1) 37 #[.int .i64 e0, .string (str l), .int .u64 (y : Int)])
  case first =>
    by_cases a1 : 4096 < l0.length
    · have d1 : decide ((4096 : Int) < (l0.length : Int)) = true := decide_eq_true (by omega)
      go_wp2_with fail
      go_meet
      exact ⟨l0.take 4096, by rw [List.length_take]; omega, hb4.setCell (p := ⟨w.heap.size + 1, 1, none⟩) (by simp) _, hr3.far (by simp) _, hy3.put 1 _⟩
    · have d1 : decide ((4096 : Int) < (l0.length : Int)) = false := decide_eq_false (by omega)
      go_wp2_with fail
      go_meet
      exact ⟨l0, by omega, hb4, hr3, hy3⟩
  case rest =>
    clear hb4 hr3 hy3 y1 g1 htk hsz hl0
    obtain ⟨l, hl4, hb4, hr3, hy3⟩ := hcut
    have y0 := hy3.cell 0
    have g0 := hy3.free 0
    simp only [List.getElem?_toArray, List.getElem?_cons_zero, List.getElem?_cons_succ] at y0
    go_upto_region 4 with (fail)
    go_cut [30] from 11 (fun s30 wx => s30 = .bool (decide (e0 < (0 : Int)) || decide ((65535 : Int) < e0)) ∧ Below w.heap.size w wx ∧ Blk wx w.heap.size 35 #[.int .u64 (q : Int), .int .u64 (n : Int), .int .u64 (s : Int), .int .u64 (m : Int), .int .i64 k, .string (str key), .string (str val), .int .u64 (t : Int), .int .u64 (v : Int)] ∧ Blk wx (w.heap.size + 1) 37 #[.int .i64 e0, .string (str l), .int .u64 (y : Int)])
    case first =>
      by_cases a1 : e0 < 0
      · have d1 : decide (e0 < (0 : Int)) = true := decide_eq_true a1
        go_wp2_with fail
        all_goals
          go_meet
          exact ⟨by (simp_all) <;> omega, hb4, hr3, hy3⟩
      · have d1 : decide (e0 < (0 : Int)) = false := decide_eq_false a1
        go_wp2_with fail
        all_goals
          go_meet
          exact ⟨by (simp_all) <;> omega, hb4, hr3, hy3⟩
    case rest =>
    clear hb4 hr3 hy3 y0 g0
    obtain ⟨rfl, hb4, hr3, hy3⟩ := hcut
    have g0 := hy3.free 0
    have y0 := hy3.cell 0
    simp only [List.getElem?_toArray, List.getElem?_cons_zero, List.getElem?_cons_succ] at y0
    go_upto_if 30 with (fail)
    go_cut [] from 11 (fun wx => ∃ e : Nat, e < 65536 ∧ Below w.heap.size w wx ∧ Blk wx w.heap.size 35 #[.int .u64 (q : Int), .int .u64 (n : Int), .int .u64 (s : Int), .int .u64 (m : Int), .int .i64 k, .string (str key), .string (str val), .int .u64 (t : Int), .int .u64 (v : Int)] ∧ Blk wx (w.heap.size + 1) 37 #[.int .i64 (e : Int), .string (str l), .int .u64 (y : Int)])
    case first =>
      by_cases a1 : e0 < 0 ∨ 65535 < e0
      · have d1 : (decide (e0 < (0 : Int)) || decide ((65535 : Int) < e0)) = true := by simpa using a1
        rw [d1]
        clear d1 a1
        go_wp2_with fail
        go_meet
        exact ⟨5, by omega, hb4.setCell (p := ⟨w.heap.size + 1, 0, none⟩) (by simp) _, hr3.far (by simp) _, hy3.put 0 _⟩
      · obtain ⟨e, rfl⟩ : ∃ e : Nat, e0 = (e : Int) := ⟨e0.toNat, by omega⟩
        have d1 : (decide ((e : Int) < (0 : Int)) || decide ((65535 : Int) < (e : Int))) = false := by simp; omega
        rw [d1]
        clear d1
        go_wp2_with fail
        go_meet
        exact ⟨e, by omega, hb4, hr3, hy3⟩
    case rest =>
      clear hb4 hr3 hy3 g0 y0
      obtain ⟨e, he, hb4, hr3, hy3⟩ := hcut
      have y0 := hy3.cell 0
      have y1 := hy3.cell 1
      have y2 := hy3.cell 2
      simp only [List.getElem?_toArray, List.getElem?_cons_zero, List.getElem?_cons_succ] at y0 y1 y2
      go_wp2_with fail
      refine (pputReply_c he (Nat.le_trans hl4 (by decide)) hy _).mono ?_
      rintro ex w6 ⟨rfl, hb6⟩
      have hr6 := hr3.below hb6 hr3.lt
      have hy6 := hy3.below hb6 hy3.lt
      have hb7 := hb4.trans (hb6.mono hb4.size)
      clear hb4 hr3 hy3 hb6 y0 y1 y2
      go_wp2_with fail
      refine (reply_c he hl4 hy _).mono ?_
      rintro ex w7 ⟨rfl, hb8⟩
      have hr7 := hr6.below hb8 hr6.lt
      have hy7 := hy6.below hb8 hy6.lt
      have hb9 := hb7.trans (hb8.mono hb7.size)
      clear hb7 hr6 hy6 hb8
      have hz8 := Blk.new w7 37 #[.int .i64 (e : Int), .string (str l), .int .u64 (y : Int)]
      have hr8 := hr7.alloc (.cells #[.int .i64 (e : Int), .string (str l), .int .u64 (y : Int)] 37)
      have hy8 := hy7.alloc (.cells #[.int .i64 (e : Int), .string (str l), .int .u64 (y : Int)] 37)
      have hb10 := hb9.alloc hb9.size (.cells #[.int .i64 (e : Int), .string (str l), .int .u64 (y : Int)] 37)
      have hzl : w.heap.size + 1 < w7.heap.size := hy7.lt
      clear hb9 hr7 hy7
      go_upto_region 7 with (fail)
      generalize w7.heap.size = p at *
      generalize w7.alloc (.cells #[.int .i64 (e : Int), .string (str l), .int .u64 (y : Int)] 37) = w8 at *
      have step : ∀ {W W' : World}, (Below w.heap.size w W ∧ Blk W w.heap.size 35 #[.int .u64 (q : Int), .int .u64 (n : Int), .int .u64 (s : Int), .int .u64 (m : Int), .int .i64 k, .string (str key), .string (str val), .int .u64 (t : Int), .int .u64 (v : Int)] ∧ Blk W (w.heap.size + 1) 37 #[.int .i64 (e : Int), .string (str l), .int .u64 (y : Int)] ∧ Blk W p 37 #[.int .i64 (e : Int), .string (str l), .int .u64 (y : Int)]) → Below W.heap.size W W' → (Below w.heap.size w W' ∧ Blk W' w.heap.size 35 #[.int .u64 (q : Int), .int .u64 (n : Int), .int .u64 (s : Int), .int .u64 (m : Int), .int .i64 k, .string (str key), .string (str val), .int .u64 (t : Int), .int .u64 (v : Int)] ∧ Blk W' (w.heap.size + 1) 37 #[.int .i64 (e : Int), .string (str l), .int .u64 (y : Int)] ∧ Blk W' p 37 #[.int .i64 (e : Int), .string (str l), .int .u64 (y : Int)]) := fun {W W'} hW hb => ⟨hW.1.trans (hb.mono hW.1.size), hW.2.1.below hb hW.2.1.lt, hW.2.2.1.below hb hW.2.2.1.lt, hW.2.2.2.below hb hW.2.2.2.lt⟩
      have cs : ∀ {W : World}, (Below w.heap.size w W ∧ Blk W w.heap.size 35 #[.int .u64 (q : Int), .int .u64 (n : Int), .int .u64 (s : Int), .int .u64 (m : Int), .int .i64 k, .string (str key), .string (str val), .int .u64 (t : Int), .int .u64 (v : Int)] ∧ Blk W (w.heap.size + 1) 37 #[.int .i64 (e : Int), .string (str l), .int .u64 (y : Int)] ∧ Blk W p 37 #[.int .i64 (e : Int), .string (str l), .int .u64 (y : Int)]) → (fun W => W.cell? ⟨w.heap.size + 1, 0, none⟩ = some (.int .i64 (e : Int)) ∧ W.cell? ⟨w.heap.size + 1, 1, none⟩ = some (.string (str l)) ∧ W.cell? ⟨w.heap.size + 1, 2, none⟩ = some (.int .u64 (y : Int)) ∧ W.cell? ⟨p, 0, none⟩ = some (.int .i64 (e : Int)) ∧ W.cell? ⟨p, 1, none⟩ = some (.string (str l)) ∧ W.cell? ⟨p, 2, none⟩ = some (.int .u64 (y : Int)) ∧ (Below w.heap.size w W ∧ Blk W w.heap.size 35 #[.int .u64 (q : Int), .int .u64 (n : Int), .int .u64 (s : Int), .int .u64 (m : Int), .int .i64 k, .string (str key), .string (str val), .int .u64 (t : Int), .int .u64 (v : Int)] ∧ Blk W (w.heap.size + 1) 37 #[.int .i64 (e : Int), .string (str l), .int .u64 (y : Int)] ∧ Blk W p 37 #[.int .i64 (e : Int), .string (str l), .int .u64 (y : Int)])) W := fun {W} hW => ⟨hW.2.2.1.cell 0, hW.2.2.1.cell 1, hW.2.2.1.cell 2, hW.2.2.2.cell 0, hW.2.2.2.cell 1, hW.2.2.2.cell 2, hW⟩
      have fa : ∀ W, (Below w.heap.size w W ∧ Blk W w.heap.size 35 #[.int .u64 (q : Int), .int .u64 (n : Int), .int .u64 (s : Int), .int .u64 (m : Int), .int .i64 k, .string (str key), .string (str val), .int .u64 (t : Int), .int .u64 (v : Int)] ∧ Blk W (w.heap.size + 1) 37 #[.int .i64 (e : Int), .string (str l), .int .u64 (y : Int)] ∧ Blk W p 37 #[.int .i64 (e : Int), .string (str l), .int .u64 (y : Int)]) → Calls Try.prog 6 #[] W fun ex W' => ex = .returned (.bool true) ∧ (Below w.heap.size w W' ∧ Blk W' w.heap.size 35 #[.int .u64 (q : Int), .int .u64 (n : Int), .int .u64 (s : Int), .int .u64 (m : Int), .int .i64 k, .string (str key), .string (str val), .int .u64 (t : Int), .int .u64 (v : Int)] ∧ Blk W' (w.heap.size + 1) 37 #[.int .i64 (e : Int), .string (str l), .int .u64 (y : Int)] ∧ Blk W' p 37 #[.int .i64 (e : Int), .string (str l), .int .u64 (y : Int)]) := fun W hW => (awake_c W).mono fun _ _ ⟨a, b⟩ => ⟨a, step hW b⟩
      have fp : ∀ W, (Below w.heap.size w W ∧ Blk W w.heap.size 35 #[.int .u64 (q : Int), .int .u64 (n : Int), .int .u64 (s : Int), .int .u64 (m : Int), .int .i64 k, .string (str key), .string (str val), .int .u64 (t : Int), .int .u64 (v : Int)] ∧ Blk W (w.heap.size + 1) 37 #[.int .i64 (e : Int), .string (str l), .int .u64 (y : Int)] ∧ Blk W p 37 #[.int .i64 (e : Int), .string (str l), .int .u64 (y : Int)]) → Calls Try.prog 15 #[.agg #[.int .i64 (e : Int), .string (str l), .int .u64 (y : Int)]] W fun ex W' => ex = .returned (.string (str (replyB e l y))) ∧ (Below w.heap.size w W' ∧ Blk W' w.heap.size 35 #[.int .u64 (q : Int), .int .u64 (n : Int), .int .u64 (s : Int), .int .u64 (m : Int), .int .i64 k, .string (str key), .string (str val), .int .u64 (t : Int), .int .u64 (v : Int)] ∧ Blk W' (w.heap.size + 1) 37 #[.int .i64 (e : Int), .string (str l), .int .u64 (y : Int)] ∧ Blk W' p 37 #[.int .i64 (e : Int), .string (str l), .int .u64 (y : Int)]) := fun W hW => (pputReply_c he (Nat.le_trans hl4 (by decide)) hy W).mono fun _ _ ⟨a, b⟩ => ⟨a, step hW b⟩
      have fr : ∀ W, (Below w.heap.size w W ∧ Blk W w.heap.size 35 #[.int .u64 (q : Int), .int .u64 (n : Int), .int .u64 (s : Int), .int .u64 (m : Int), .int .i64 k, .string (str key), .string (str val), .int .u64 (t : Int), .int .u64 (v : Int)] ∧ Blk W (w.heap.size + 1) 37 #[.int .i64 (e : Int), .string (str l), .int .u64 (y : Int)] ∧ Blk W p 37 #[.int .i64 (e : Int), .string (str l), .int .u64 (y : Int)]) → Calls Try.prog 16 #[.agg #[.int .i64 (e : Int), .string (str l), .int .u64 (y : Int)]] W fun ex W' => ex = .returned (.string (str (replyB e l y))) ∧ (Below w.heap.size w W' ∧ Blk W' w.heap.size 35 #[.int .u64 (q : Int), .int .u64 (n : Int), .int .u64 (s : Int), .int .u64 (m : Int), .int .i64 k, .string (str key), .string (str val), .int .u64 (t : Int), .int .u64 (v : Int)] ∧ Blk W' (w.heap.size + 1) 37 #[.int .i64 (e : Int), .string (str l), .int .u64 (y : Int)] ∧ Blk W' p 37 #[.int .i64 (e : Int), .string (str l), .int .u64 (y : Int)]) := fun W hW => (rputReply_c he (Nat.le_trans hl4 (by decide)) hy W).mono fun _ _ ⟨a, b⟩ => ⟨a, step hW b⟩
      have htl := Wirey.toList_str
      have h9 := cs (step ⟨hb10, hr8, hy8, hz8⟩ (W' := w8.drew) ⟨rfl, rfl, rfl, Nat.le_refl _, fun _ _ => rfl⟩)
      clear hb10 hr8 hy8 hz8
      dsimp only at h9
      refine region_only 18 #[false, false, false, false, false, false, false, false, false, false, false, false, false, false, false, false, false, false] (S := (fun W => W.cell? ⟨w.heap.size + 1, 0, none⟩ = some (.int .i64 (e : Int)) ∧ W.cell? ⟨w.heap.size + 1, 1, none⟩ = some (.string (str l)) ∧ W.cell? ⟨w.heap.size + 1, 2, none⟩ = some (.int .u64 (y : Int)) ∧ W.cell? ⟨p, 0, none⟩ = some (.int .i64 (e : Int)) ∧ W.cell? ⟨p, 1, none⟩ = some (.string (str l)) ∧ W.cell? ⟨p, 2, none⟩ = some (.int .u64 (y : Int)) ∧ (Below w.heap.size w W ∧ Blk W w.heap.size 35 #[.int .u64 (q : Int), .int .u64 (n : Int), .int .u64 (s : Int), .int .u64 (m : Int), .int .i64 k, .string (str key), .string (str val), .int .u64 (t : Int), .int .u64 (v : Int)] ∧ Blk W (w.heap.size + 1) 37 #[.int .i64 (e : Int), .string (str l), .int .u64 (y : Int)] ∧ Blk W p 37 #[.int .i64 (e : Int), .string (str l), .int .u64 (y : Int)]))) rfl rfl (by kernel_rfl) h9 (fun hSw => ?_)
      refine wpAnyH_ready (fuel := 17) (rs := [0]) (by kernel_rfl) (by simp) (AllReadyH.cons rfl (fun K hK => ?_) AllReadyH.nil)
      go_simp
      refine Calls.mono (fa _ hSw.2.2.2.2.2.2) ?_
      rintro e wv ⟨rfl, hwv⟩
      refine hK.out _ _ (cs hwv) (fun hSw => ?_)
      clear hK K
      simp only [List.setIfInBounds_toArray, List.set_cons_zero, List.set_cons_succ]
      refine take_at 1 39 (fuel := 16) ?_ rfl rfl (by kernel_rfl) (by kernel_rfl) (by kernel_rfl) (Or.inl ⟨by rfl, ?_⟩) hSw ?_
      rotate_left
      · intro wx hSx
        (try dsimp only at hSx)
        go_split_ands
        go_simp
        (try with_reducible rfl)
      simp only [List.setIfInBounds_toArray, List.set_cons_zero, List.set_cons_succ]
      refine take_at 2 40 (fuel := 15) ?_ rfl rfl (by kernel_rfl) (by kernel_rfl) (by kernel_rfl) (Or.inl ⟨by rfl, ?_⟩) hSw ?_
      rotate_left
      · intro wx hSx
        (try dsimp only at hSx)
        go_split_ands
        go_simp
        (try with_reducible rfl)
      simp only [List.setIfInBounds_toArray, List.set_cons_zero, List.set_cons_succ]
      refine take_at 3 41 (fuel := 14) ?_ rfl rfl (by kernel_rfl) (by kernel_rfl) (by kernel_rfl) (Or.inl ⟨by rfl, ?_⟩) hSw ?_
      rotate_left
      · intro wx hSx
        (try dsimp only at hSx)
        go_split_ands
        go_simp
        (try with_reducible rfl)
      simp only [List.setIfInBounds_toArray, List.set_cons_zero, List.set_cons_succ]
      refine take_at 5 43 (fuel := 13) ?_ rfl rfl (by kernel_rfl) (by kernel_rfl) (by kernel_rfl) (Or.inl ⟨by rfl, ?_⟩) hSw ?_
      rotate_left
      · intro wx hSx
        (try dsimp only at hSx)
        go_split_ands
        go_simp
        (try with_reducible rfl)
      simp only [List.setIfInBounds_toArray, List.set_cons_zero, List.set_cons_succ]
      refine wpAnyH_ready (fuel := 12) (rs := [4]) (by kernel_rfl) (by simp) (AllReadyH.cons rfl (fun K hK => ?_) AllReadyH.nil)
      go_simp
      refine Calls.mono (fp _ hSw.2.2.2.2.2.2) ?_
      rintro e wv ⟨rfl, hwv⟩
      refine hK.out _ _ (cs hwv) (fun hSw => ?_)
      clear hK K
      simp only [List.setIfInBounds_toArray, List.set_cons_zero, List.set_cons_succ]
      refine wpAnyH_ready (fuel := 11) (rs := [6]) (by kernel_rfl) (by simp) (AllReadyH.cons rfl (fun K hK => ?_) AllReadyH.nil)
      go_simp
      refine Calls.mono (fr _ hSw.2.2.2.2.2.2) ?_
      rintro e wv ⟨rfl, hwv⟩
      refine hK.out _ _ (cs hwv) (fun hSw => ?_)
      clear hK K
      simp only [List.setIfInBounds_toArray, List.set_cons_zero, List.set_cons_succ]
      refine take_at 7 45 (fuel := 10) ?_ rfl rfl (by kernel_rfl) (by kernel_rfl) (by kernel_rfl) (Or.inl ⟨by rfl, ?_⟩) hSw ?_
      rotate_left
      · intro wx hSx
        (try dsimp only at hSx)
        go_split_ands
        go_simp
        (try with_reducible rfl)
      simp only [List.setIfInBounds_toArray, List.set_cons_zero, List.set_cons_succ]
      refine take_at 8 46 (fuel := 9) ?_ rfl rfl (by kernel_rfl) (by kernel_rfl) (by kernel_rfl) (Or.inl ⟨by rfl, ?_⟩) hSw ?_
      rotate_left
      · intro wx hSx
        (try dsimp only at hSx)
        go_split_ands
        go_simp
        (try with_reducible rfl)
      simp only [List.setIfInBounds_toArray, List.set_cons_zero, List.set_cons_succ]
      refine take_at 9 47 (fuel := 8) ?_ rfl rfl (by kernel_rfl) (by kernel_rfl) (by kernel_rfl) (Or.inl ⟨by rfl, ?_⟩) hSw ?_
      rotate_left
      · intro wx hSx
        (try dsimp only at hSx)
        go_split_ands
        go_simp
        (try with_reducible rfl)
      simp only [List.setIfInBounds_toArray, List.set_cons_zero, List.set_cons_succ]
      refine take_at 10 48 (fuel := 7) ?_ rfl rfl (by kernel_rfl) (by kernel_rfl) (by kernel_rfl) (Or.inl ⟨by rfl, ?_⟩) hSw ?_
      rotate_left
      · intro wx hSx
        (try dsimp only at hSx)
        go_split_ands
        go_simp
        (try with_reducible rfl)
      simp only [List.setIfInBounds_toArray, List.set_cons_zero, List.set_cons_succ]
      refine take_at 11 49 (fuel := 6) ?_ rfl rfl (by kernel_rfl) (by kernel_rfl) (by kernel_rfl) (Or.inl ⟨by rfl, ?_⟩) hSw ?_
      rotate_left
      · intro wx hSx
        (try dsimp only at hSx)
        go_split_ands
        go_simp
        (try with_reducible rfl)
      simp only [List.setIfInBounds_toArray, List.set_cons_zero, List.set_cons_succ]
      refine take_at 12 50 (fuel := 5) ?_ rfl rfl (by kernel_rfl) (by kernel_rfl) (by kernel_rfl) (Or.inl ⟨by rfl, ?_⟩) hSw ?_
      rotate_left
      · intro wx hSx
        (try dsimp only at hSx)
        go_split_ands
        go_simp
        (try with_reducible rfl)
      simp only [List.setIfInBounds_toArray, List.set_cons_zero, List.set_cons_succ]
      refine take_at 13 51 (fuel := 4) ?_ rfl rfl (by kernel_rfl) (by kernel_rfl) (by kernel_rfl) (Or.inl ⟨by rfl, ?_⟩) hSw ?_
      rotate_left
      · intro wx hSx
        (try dsimp only at hSx)
        go_split_ands
        go_simp
        (try with_reducible rfl)
      simp only [List.setIfInBounds_toArray, List.set_cons_zero, List.set_cons_succ]
      refine take_at 14 52 (fuel := 3) ?_ rfl rfl (by kernel_rfl) (by kernel_rfl) (by kernel_rfl) (Or.inl ⟨by rfl, ?_⟩) hSw ?_
      rotate_left
      · intro wx hSx
        (try dsimp only at hSx)
        go_split_ands
        go_simp
        (try with_reducible rfl)
      simp only [List.setIfInBounds_toArray, List.set_cons_zero, List.set_cons_succ]
      refine take_at 15 53 (fuel := 2) ?_ rfl rfl (by kernel_rfl) (by kernel_rfl) (by kernel_rfl) (Or.inl ⟨by rfl, ?_⟩) hSw ?_
      rotate_left
      · intro wx hSx
        (try dsimp only at hSx)
        go_split_ands
        go_simp
        (try with_reducible rfl)
      simp only [List.setIfInBounds_toArray, List.set_cons_zero, List.set_cons_succ]
      refine take_at 16 54 (fuel := 1) ?_ rfl rfl (by kernel_rfl) (by kernel_rfl) (by kernel_rfl) (Or.inl ⟨by rfl, ?_⟩) hSw ?_
      rotate_left
      · intro wx hSx
        (try dsimp only at hSx)
        go_split_ands
        go_simp
        (try with_reducible rfl)
      simp only [List.setIfInBounds_toArray, List.set_cons_zero, List.set_cons_succ]
      refine take_at 17 55 (fuel := 0) ?_ rfl rfl (by kernel_rfl) (by kernel_rfl) (by kernel_rfl) (Or.inl ⟨by rfl, ?_⟩) hSw ?_
      rotate_left
      · intro wx hSx
        (try dsimp only at hSx)
        go_split_ands
        go_simp
        (try with_reducible rfl)
      simp only [List.setIfInBounds_toArray, List.set_cons_zero, List.set_cons_succ]
      refine wpAnyH_done (by kernel_rfl) ⟨rfl, ?_⟩ 0
      have h10 := hSw.2.2.2.2.2.2
      clear hSw h9 fa fp fr cs
      go_upto_region 9 with (fail)
      obtain ⟨hb11, hr11, hy11, hz11⟩ := h10
      clear step hy11 hz11
      have x0 := hr11.cell 0
      have x1 := hr11.cell 1
      have x2 := hr11.cell 2
      have x3 := hr11.cell 3
      have x4 := hr11.cell 4
      have x5 := hr11.cell 5
      have x6 := hr11.cell 6
      have x7 := hr11.cell 7
      have x8 := hr11.cell 8
      simp only [List.getElem?_toArray, List.getElem?_cons_zero, List.getElem?_cons_succ] at x0 x1 x2 x3 x4 x5 x6 x7 x8
      go_wp2_with fail
      refine (rcheck_c k key val t v hk5 hl5 _).mono ?_
      rintro ex w10 ⟨rfl, hb12⟩
      have hr12 := hr11.below hb12 hr11.lt
      have hb13 := hb11.trans (hb12.mono hb11.size)
      clear hb11 hr11 hb12 x0 x1 x2 x3 x4 x5 x6 x7 x8
      rcases Bool.eq_false_or_eq_true (chk k key val t v) with hc | hc
      rotate_left
      · rw [hc]
        go_wp2_with fail
        go_ret
        exact ⟨rfl, hb13⟩
      rw [hc]
      have hkd := chk_kind hc
      have x0 := hr12.cell 0
      have x1 := hr12.cell 1
      have x2 := hr12.cell 2
      have x3 := hr12.cell 3
      have x4 := hr12.cell 4
      have x5 := hr12.cell 5
      have x6 := hr12.cell 6
      have x7 := hr12.cell 7
      have x8 := hr12.cell 8
      simp only [List.getElem?_toArray, List.getElem?_cons_zero, List.getElem?_cons_succ] at x0 x1 x2 x3 x4 x5 x6 x7 x8
      go_upto_region 11 with (fail)
      go_wp2_with fail
      refine (pputRec_c hkd (by omega) (by omega) hq hn hs hm ht hv _).mono ?_
      rintro ex w12 ⟨rfl, hb14⟩
      have hr13 := hr12.below hb14 hr12.lt
      have hb15 := hb13.trans (hb14.mono hb13.size)
      clear hb13 hr12 hb14 x0 x1 x2 x3 x4 x5 x6 x7 x8
      go_wp2_with fail
      refine (get_c hc hq hn hs hm hv _).mono ?_
      rintro ex w13 ⟨rfl, hb16⟩
      have hr14 := hr13.below hb16 hr13.lt
      have hb17 := hb15.trans (hb16.mono hb15.size)
      clear hb15 hr13 hb16
      have hw15 := (Blk.new w13 35 #[.int .u64 (q : Int), .int .u64 (n : Int), .int .u64 (s : Int), .int .u64 (m : Int), .int .i64 k, .string (str key), .string (str val), .int .u64 (t : Int), .int .u64 (v : Int)]).alloc (.cells #[.int .u64 0, .int .u64 0, .int .u64 0, .int .u64 0, .int .i64 0, .string ⟨#[]⟩, .string ⟨#[]⟩, .int .u64 0, .int .u64 0] 35)
      have hv15 := Blk.new (w13.alloc (.cells #[.int .u64 (q : Int), .int .u64 (n : Int), .int .u64 (s : Int), .int .u64 (m : Int), .int .i64 k, .string (str key), .string (str val), .int .u64 (t : Int), .int .u64 (v : Int)] 35)) 35 #[.int .u64 0, .int .u64 0, .int .u64 0, .int .u64 0, .int .i64 0, .string ⟨#[]⟩, .string ⟨#[]⟩, .int .u64 0, .int .u64 0]
      have s1 : (w13.alloc (.cells #[.int .u64 (q : Int), .int .u64 (n : Int), .int .u64 (s : Int), .int .u64 (m : Int), .int .i64 k, .string (str key), .string (str val), .int .u64 (t : Int), .int .u64 (v : Int)] 35)).heap.size = w13.heap.size + 1 := by simp
      have hb18 := (hb17.alloc hb17.size (.cells #[.int .u64 (q : Int), .int .u64 (n : Int), .int .u64 (s : Int), .int .u64 (m : Int), .int .i64 k, .string (str key), .string (str val), .int .u64 (t : Int), .int .u64 (v : Int)] 35)).alloc (by rw [s1]; have := hb17.size; omega) (.cells #[.int .u64 0, .int .u64 0, .int .u64 0, .int .u64 0, .int .i64 0, .string ⟨#[]⟩, .string ⟨#[]⟩, .int .u64 0, .int .u64 0] 35)
      have hr15 := (hr14.alloc (.cells #[.int .u64 (q : Int), .int .u64 (n : Int), .int .u64 (s : Int), .int .u64 (m : Int), .int .i64 k, .string (str key), .string (str val), .int .u64 (t : Int), .int .u64 (v : Int)] 35)).alloc (.cells #[.int .u64 0, .int .u64 0, .int .u64 0, .int .u64 0, .int .i64 0, .string ⟨#[]⟩, .string ⟨#[]⟩, .int .u64 0, .int .u64 0] 35)
      rw [s1] at hv15
      have hrl := hr14.lt
      have s2 : ((w13.alloc (.cells #[.int .u64 (q : Int), .int .u64 (n : Int), .int .u64 (s : Int), .int .u64 (m : Int), .int .i64 k, .string (str key), .string (str val), .int .u64 (t : Int), .int .u64 (v : Int)] 35)).alloc (.cells #[.int .u64 0, .int .u64 0, .int .u64 0, .int .u64 0, .int .i64 0, .string ⟨#[]⟩, .string ⟨#[]⟩, .int .u64 0, .int .u64 0] 35)).heap.size = w13.heap.size + 2 := by simp [s1]
      clear hr14 hb17
      go_upto_region 13 with (fail)
      generalize (w13.alloc (.cells #[.int .u64 (q : Int), .int .u64 (n : Int), .int .u64 (s : Int), .int .u64 (m : Int), .int .i64 k, .string (str key), .string (str val), .int .u64 (t : Int), .int .u64 (v : Int)] 35)).alloc (.cells #[.int .u64 0, .int .u64 0, .int .u64 0, .int .u64 0, .int .i64 0, .string ⟨#[]⟩, .string ⟨#[]⟩, .int .u64 0, .int .u64 0] 35) = w15 at *
      generalize w13.heap.size = p1 at *
      clear s1
      have x0 := hr15.cell 0
      have x1 := hr15.cell 1
      have x2 := hr15.cell 2
      have x3 := hr15.cell 3
      have x4 := hr15.cell 4
      have x5 := hr15.cell 5
      have x6 := hr15.cell 6
      have x7 := hr15.cell 7
      have x8 := hr15.cell 8
      simp only [List.getElem?_toArray, List.getElem?_cons_zero, List.getElem?_cons_succ] at x0 x1 x2 x3 x4 x5 x6 x7 x8
      go_wp2_with fail
      refine (pputRec_c hkd (by omega) (by omega) hq hn hs hm ht hv _).mono ?_
      rintro ex w16 ⟨rfl, hb19⟩
      have hr16 := hr15.below hb19 hr15.lt
      have hw16 := hw15.below hb19 hw15.lt
      have hv16 := hv15.below hb19 hv15.lt
      have hb20 := hb18.trans (hb19.mono hb18.size)
      clear hb18 hr15 hw15 hv15 hb19 x0 x1 x2 x3 x4 x5 x6 x7 x8 s2
      go_wp2_with fail
      have hvl := hv16.lt
      refine (Wirey.read_ok2 _ enters_records1_c #[.pointer (some ⟨p1 + 1, 0, none⟩)] (recB q n s m (opB k key val t v)) [] w16 (fun j => j = p1 + 1)
        (fun x => Blk x (p1 + 1) 35 #[.int .u64 (q : Int), .int .u64 (n : Int), .int .u64 (s : Int), .int .u64 (m : Int), .int .i64 k, .string (str key), .string (str val), .int .u64 (t : Int), .int .u64 (v : Int)]) (fun j hj => by omega) ?_ ?_).mono ?_
      · rintro x y hs h1 hk9
        exact (hk9.block (p1 + 1) (by omega) (by omega)).trans h1
      · intro R O x hr hb hR hO
        refine (records1_c hc hq hn hs hm hv x hr (hv16.below hb (by omega)) (by omega) (by omega)).mono ?_
        rintro e y ⟨rfl, h1, h2, h3⟩
        exact ⟨rfl, h1, h2, h3⟩
      rintro ex w17 ⟨rfl, hk3, hv17⟩
      have hr17 := hk3.blk hr16 (by omega)
      have hw17 := hk3.blk hw16 (by omega)
      have hb21 : Below w.heap.size w w17 := ⟨hk3.os.trans hb20.os, hk3.tape.trans hb20.tape, hk3.output.trans hb20.output, Nat.le_trans hb20.size hk3.size, fun i hi => (hk3.block i (by have := hb20.size; omega) (by omega)).trans (hb20.block i hi)⟩
      rw [Wirey.endE_nil]
      clear hb20 hr16 hw16 hv16 hk3 hvl
      have x0 := hr17.cell 0
      have x1 := hr17.cell 1
      have x2 := hr17.cell 2
      have x3 := hr17.cell 3
      have x4 := hr17.cell 4
      have x5 := hr17.cell 5
      have x6 := hr17.cell 6
      have x7 := hr17.cell 7
      have x8 := hr17.cell 8
      simp only [List.getElem?_toArray, List.getElem?_cons_zero, List.getElem?_cons_succ] at x0 x1 x2 x3 x4 x5 x6 x7 x8
      have y0 := hv17.cell 0
      have y1 := hv17.cell 1
      have y2 := hv17.cell 2
      have y3 := hv17.cell 3
      have y4 := hv17.cell 4
      have y5 := hv17.cell 5
      have y6 := hv17.cell 6
      have y7 := hv17.cell 7
      have y8 := hv17.cell 8
      simp only [List.getElem?_toArray, List.getElem?_cons_zero, List.getElem?_cons_succ] at y0 y1 y2 y3 y4 y5 y6 y7 y8
      go_upto_region 16 with (fail)
      clear x0 x1 x2 x3 x4 x5 x6 x7 x8 y0 y1 y2 y3 y4 y5 y6 y7 y8 hv17
      have step : ∀ {W W' : World}, (Below w.heap.size w W ∧ Blk W w.heap.size 35 #[.int .u64 (q : Int), .int .u64 (n : Int), .int .u64 (s : Int), .int .u64 (m : Int), .int .i64 k, .string (str key), .string (str val), .int .u64 (t : Int), .int .u64 (v : Int)] ∧ Blk W p1 35 #[.int .u64 (q : Int), .int .u64 (n : Int), .int .u64 (s : Int), .int .u64 (m : Int), .int .i64 k, .string (str key), .string (str val), .int .u64 (t : Int), .int .u64 (v : Int)]) → Below W.heap.size W W' → (Below w.heap.size w W' ∧ Blk W' w.heap.size 35 #[.int .u64 (q : Int), .int .u64 (n : Int), .int .u64 (s : Int), .int .u64 (m : Int), .int .i64 k, .string (str key), .string (str val), .int .u64 (t : Int), .int .u64 (v : Int)] ∧ Blk W' p1 35 #[.int .u64 (q : Int), .int .u64 (n : Int), .int .u64 (s : Int), .int .u64 (m : Int), .int .i64 k, .string (str key), .string (str val), .int .u64 (t : Int), .int .u64 (v : Int)]) := fun {W W'} hW hb => ⟨hW.1.trans (hb.mono hW.1.size), hW.2.1.below hb hW.2.1.lt, hW.2.2.below hb hW.2.2.lt⟩
      have cs : ∀ {W : World}, (Below w.heap.size w W ∧ Blk W w.heap.size 35 #[.int .u64 (q : Int), .int .u64 (n : Int), .int .u64 (s : Int), .int .u64 (m : Int), .int .i64 k, .string (str key), .string (str val), .int .u64 (t : Int), .int .u64 (v : Int)] ∧ Blk W p1 35 #[.int .u64 (q : Int), .int .u64 (n : Int), .int .u64 (s : Int), .int .u64 (m : Int), .int .i64 k, .string (str key), .string (str val), .int .u64 (t : Int), .int .u64 (v : Int)]) → (fun W => W.cell? ⟨w.heap.size, 0, none⟩ = some (.int .u64 (q : Int)) ∧ W.cell? ⟨w.heap.size, 1, none⟩ = some (.int .u64 (n : Int)) ∧ W.cell? ⟨w.heap.size, 2, none⟩ = some (.int .u64 (s : Int)) ∧ W.cell? ⟨w.heap.size, 3, none⟩ = some (.int .u64 (m : Int)) ∧ W.cell? ⟨w.heap.size, 4, none⟩ = some (.int .i64 k) ∧ W.cell? ⟨w.heap.size, 5, none⟩ = some (.string (str key)) ∧ W.cell? ⟨w.heap.size, 6, none⟩ = some (.string (str val)) ∧ W.cell? ⟨w.heap.size, 7, none⟩ = some (.int .u64 (t : Int)) ∧ W.cell? ⟨w.heap.size, 8, none⟩ = some (.int .u64 (v : Int)) ∧ W.cell? ⟨p1, 0, none⟩ = some (.int .u64 (q : Int)) ∧ W.cell? ⟨p1, 1, none⟩ = some (.int .u64 (n : Int)) ∧ W.cell? ⟨p1, 2, none⟩ = some (.int .u64 (s : Int)) ∧ W.cell? ⟨p1, 3, none⟩ = some (.int .u64 (m : Int)) ∧ W.cell? ⟨p1, 4, none⟩ = some (.int .i64 k) ∧ W.cell? ⟨p1, 5, none⟩ = some (.string (str key)) ∧ W.cell? ⟨p1, 6, none⟩ = some (.string (str val)) ∧ W.cell? ⟨p1, 7, none⟩ = some (.int .u64 (t : Int)) ∧ W.cell? ⟨p1, 8, none⟩ = some (.int .u64 (v : Int)) ∧ (Below w.heap.size w W ∧ Blk W w.heap.size 35 #[.int .u64 (q : Int), .int .u64 (n : Int), .int .u64 (s : Int), .int .u64 (m : Int), .int .i64 k, .string (str key), .string (str val), .int .u64 (t : Int), .int .u64 (v : Int)] ∧ Blk W p1 35 #[.int .u64 (q : Int), .int .u64 (n : Int), .int .u64 (s : Int), .int .u64 (m : Int), .int .i64 k, .string (str key), .string (str val), .int .u64 (t : Int), .int .u64 (v : Int)])) W := fun {W} hW => ⟨hW.2.1.cell 0, hW.2.1.cell 1, hW.2.1.cell 2, hW.2.1.cell 3, hW.2.1.cell 4, hW.2.1.cell 5, hW.2.1.cell 6, hW.2.1.cell 7, hW.2.1.cell 8, hW.2.2.cell 0, hW.2.2.cell 1, hW.2.2.cell 2, hW.2.2.cell 3, hW.2.2.cell 4, hW.2.2.cell 5, hW.2.2.cell 6, hW.2.2.cell 7, hW.2.2.cell 8, hW⟩
      have fp : ∀ W, (Below w.heap.size w W ∧ Blk W w.heap.size 35 #[.int .u64 (q : Int), .int .u64 (n : Int), .int .u64 (s : Int), .int .u64 (m : Int), .int .i64 k, .string (str key), .string (str val), .int .u64 (t : Int), .int .u64 (v : Int)] ∧ Blk W p1 35 #[.int .u64 (q : Int), .int .u64 (n : Int), .int .u64 (s : Int), .int .u64 (m : Int), .int .i64 k, .string (str key), .string (str val), .int .u64 (t : Int), .int .u64 (v : Int)]) → Calls Try.prog 18 #[.agg #[.int .u64 (q : Int), .int .u64 (n : Int), .int .u64 (s : Int), .int .u64 (m : Int), .int .i64 k, .string (str key), .string (str val), .int .u64 (t : Int), .int .u64 (v : Int)]] W fun ex W' => ex = .returned (.string (str (recB q n s m (opB k key val t v)))) ∧ (Below w.heap.size w W' ∧ Blk W' w.heap.size 35 #[.int .u64 (q : Int), .int .u64 (n : Int), .int .u64 (s : Int), .int .u64 (m : Int), .int .i64 k, .string (str key), .string (str val), .int .u64 (t : Int), .int .u64 (v : Int)] ∧ Blk W' p1 35 #[.int .u64 (q : Int), .int .u64 (n : Int), .int .u64 (s : Int), .int .u64 (m : Int), .int .i64 k, .string (str key), .string (str val), .int .u64 (t : Int), .int .u64 (v : Int)]) := fun W hW => (pputRec_c hkd (by omega) (by omega) hq hn hs hm ht hv W).mono fun _ _ ⟨a, b⟩ => ⟨a, step hW b⟩
      have fr : ∀ W, (Below w.heap.size w W ∧ Blk W w.heap.size 35 #[.int .u64 (q : Int), .int .u64 (n : Int), .int .u64 (s : Int), .int .u64 (m : Int), .int .i64 k, .string (str key), .string (str val), .int .u64 (t : Int), .int .u64 (v : Int)] ∧ Blk W p1 35 #[.int .u64 (q : Int), .int .u64 (n : Int), .int .u64 (s : Int), .int .u64 (m : Int), .int .i64 k, .string (str key), .string (str val), .int .u64 (t : Int), .int .u64 (v : Int)]) → Calls Try.prog 21 #[.agg #[.int .u64 (q : Int), .int .u64 (n : Int), .int .u64 (s : Int), .int .u64 (m : Int), .int .i64 k, .string (str key), .string (str val), .int .u64 (t : Int), .int .u64 (v : Int)]] W fun ex W' => ex = .returned (.string (str (recB q n s m (opB k key val t v)))) ∧ (Below w.heap.size w W' ∧ Blk W' w.heap.size 35 #[.int .u64 (q : Int), .int .u64 (n : Int), .int .u64 (s : Int), .int .u64 (m : Int), .int .i64 k, .string (str key), .string (str val), .int .u64 (t : Int), .int .u64 (v : Int)] ∧ Blk W' p1 35 #[.int .u64 (q : Int), .int .u64 (n : Int), .int .u64 (s : Int), .int .u64 (m : Int), .int .i64 k, .string (str key), .string (str val), .int .u64 (t : Int), .int .u64 (v : Int)]) := fun W hW => (rputRec_c hkd (by omega) (by omega) hq hn hs hm ht hv W).mono fun _ _ ⟨a, b⟩ => ⟨a, step hW b⟩
      have htl := Wirey.toList_str
      have h19 := cs (step ⟨hb21, hr17, hw17⟩ (W' := w17.drew) ⟨rfl, rfl, rfl, Nat.le_refl _, fun _ _ => rfl⟩)
      clear hb21 hr17 hw17
      dsimp only at h19
      refine region_only 15 #[false, false, false, false, false, false, false, false, false, false, false, false, false, false, false] (S := (fun W => W.cell? ⟨w.heap.size, 0, none⟩ = some (.int .u64 (q : Int)) ∧ W.cell? ⟨w.heap.size, 1, none⟩ = some (.int .u64 (n : Int)) ∧ W.cell? ⟨w.heap.size, 2, none⟩ = some (.int .u64 (s : Int)) ∧ W.cell? ⟨w.heap.size, 3, none⟩ = some (.int .u64 (m : Int)) ∧ W.cell? ⟨w.heap.size, 4, none⟩ = some (.int .i64 k) ∧ W.cell? ⟨w.heap.size, 5, none⟩ = some (.string (str key)) ∧ W.cell? ⟨w.heap.size, 6, none⟩ = some (.string (str val)) ∧ W.cell? ⟨w.heap.size, 7, none⟩ = some (.int .u64 (t : Int)) ∧ W.cell? ⟨w.heap.size, 8, none⟩ = some (.int .u64 (v : Int)) ∧ W.cell? ⟨p1, 0, none⟩ = some (.int .u64 (q : Int)) ∧ W.cell? ⟨p1, 1, none⟩ = some (.int .u64 (n : Int)) ∧ W.cell? ⟨p1, 2, none⟩ = some (.int .u64 (s : Int)) ∧ W.cell? ⟨p1, 3, none⟩ = some (.int .u64 (m : Int)) ∧ W.cell? ⟨p1, 4, none⟩ = some (.int .i64 k) ∧ W.cell? ⟨p1, 5, none⟩ = some (.string (str key)) ∧ W.cell? ⟨p1, 6, none⟩ = some (.string (str val)) ∧ W.cell? ⟨p1, 7, none⟩ = some (.int .u64 (t : Int)) ∧ W.cell? ⟨p1, 8, none⟩ = some (.int .u64 (v : Int)) ∧ (Below w.heap.size w W ∧ Blk W w.heap.size 35 #[.int .u64 (q : Int), .int .u64 (n : Int), .int .u64 (s : Int), .int .u64 (m : Int), .int .i64 k, .string (str key), .string (str val), .int .u64 (t : Int), .int .u64 (v : Int)] ∧ Blk W p1 35 #[.int .u64 (q : Int), .int .u64 (n : Int), .int .u64 (s : Int), .int .u64 (m : Int), .int .i64 k, .string (str key), .string (str val), .int .u64 (t : Int), .int .u64 (v : Int)]))) rfl rfl (by kernel_rfl) h19 (fun hSw => ?_)
      refine take_at 0 78 (fuel := 14) ?_ rfl rfl (by kernel_rfl) (by kernel_rfl) (by kernel_rfl) (Or.inl ⟨by rfl, ?_⟩) hSw ?_
      rotate_left
      · intro wx hSx
        (try dsimp only at hSx)
        go_split_ands
        go_simp
        (try with_reducible rfl)
      simp only [List.setIfInBounds_toArray, List.set_cons_zero, List.set_cons_succ]
      refine take_at 2 80 (fuel := 13) ?_ rfl rfl (by kernel_rfl) (by kernel_rfl) (by kernel_rfl) (Or.inl ⟨by rfl, ?_⟩) hSw ?_
      rotate_left
      · intro wx hSx
        (try dsimp only at hSx)
        go_split_ands
        go_simp
        (try with_reducible rfl)
      simp only [List.setIfInBounds_toArray, List.set_cons_zero, List.set_cons_succ]
      refine wpAnyH_ready (fuel := 12) (rs := [1]) (by kernel_rfl) (by simp) (AllReadyH.cons rfl (fun K hK => ?_) AllReadyH.nil)
      go_simp
      refine Calls.mono (fp _ hSw.2.2.2.2.2.2.2.2.2.2.2.2.2.2.2.2.2.2) ?_
      rintro e wv ⟨rfl, hwv⟩
      refine hK.out _ _ (cs hwv) (fun hSw => ?_)
      clear hK K
      simp only [List.setIfInBounds_toArray, List.set_cons_zero, List.set_cons_succ]
      refine wpAnyH_ready (fuel := 11) (rs := [3]) (by kernel_rfl) (by simp) (AllReadyH.cons rfl (fun K hK => ?_) AllReadyH.nil)
      go_simp
      refine Calls.mono (fr _ hSw.2.2.2.2.2.2.2.2.2.2.2.2.2.2.2.2.2.2) ?_
      rintro e wv ⟨rfl, hwv⟩
      refine hK.out _ _ (cs hwv) (fun hSw => ?_)
      clear hK K
      simp only [List.setIfInBounds_toArray, List.set_cons_zero, List.set_cons_succ]
      refine take_at 4 82 (fuel := 10) ?_ rfl rfl (by kernel_rfl) (by kernel_rfl) (by kernel_rfl) (Or.inl ⟨by rfl, ?_⟩) hSw ?_
      rotate_left
      · intro wx hSx
        (try dsimp only at hSx)
        go_split_ands
        go_simp
        (try with_reducible rfl)
      simp only [List.setIfInBounds_toArray, List.set_cons_zero, List.set_cons_succ]
      refine take_at 5 83 (fuel := 9) ?_ rfl rfl (by kernel_rfl) (by kernel_rfl) (by kernel_rfl) (Or.inl ⟨by rfl, ?_⟩) hSw ?_
      rotate_left
      · intro wx hSx
        (try dsimp only at hSx)
        go_split_ands
        go_simp
        (try with_reducible rfl)
      simp only [List.setIfInBounds_toArray, List.set_cons_zero, List.set_cons_succ]
      refine take_at 6 84 (fuel := 8) ?_ rfl rfl (by kernel_rfl) (by kernel_rfl) (by kernel_rfl) (Or.inl ⟨by rfl, ?_⟩) hSw ?_
      rotate_left
      · intro wx hSx
        (try dsimp only at hSx)
        go_split_ands
        go_simp
        (try with_reducible rfl)
      simp only [List.setIfInBounds_toArray, List.set_cons_zero, List.set_cons_succ]
      refine take_at 7 85 (fuel := 7) ?_ rfl rfl (by kernel_rfl) (by kernel_rfl) (by kernel_rfl) (Or.inl ⟨by rfl, ?_⟩) hSw ?_
      rotate_left
      · intro wx hSx
        (try dsimp only at hSx)
        go_split_ands
        go_simp
        (try with_reducible rfl)
      simp only [List.setIfInBounds_toArray, List.set_cons_zero, List.set_cons_succ]
      refine take_at 8 86 (fuel := 6) ?_ rfl rfl (by kernel_rfl) (by kernel_rfl) (by kernel_rfl) (Or.inl ⟨by rfl, ?_⟩) hSw ?_
      rotate_left
      · intro wx hSx
        (try dsimp only at hSx)
        go_split_ands
        go_simp
        (try with_reducible rfl)
      simp only [List.setIfInBounds_toArray, List.set_cons_zero, List.set_cons_succ]
      refine take_at 9 87 (fuel := 5) ?_ rfl rfl (by kernel_rfl) (by kernel_rfl) (by kernel_rfl) (Or.inl ⟨by rfl, ?_⟩) hSw ?_
      rotate_left
      · intro wx hSx
        (try dsimp only at hSx)
        go_split_ands
        go_simp
        (try with_reducible rfl)
      simp only [List.setIfInBounds_toArray, List.set_cons_zero, List.set_cons_succ]
      refine take_at 10 88 (fuel := 4) ?_ rfl rfl (by kernel_rfl) (by kernel_rfl) (by kernel_rfl) (Or.inl ⟨by rfl, ?_⟩) hSw ?_
      rotate_left
      · intro wx hSx
        (try dsimp only at hSx)
        go_split_ands
        go_simp
        (try with_reducible rfl)
      simp only [List.setIfInBounds_toArray, List.set_cons_zero, List.set_cons_succ]
      refine take_at 11 89 (fuel := 3) ?_ rfl rfl (by kernel_rfl) (by kernel_rfl) (by kernel_rfl) (Or.inl ⟨by rfl, ?_⟩) hSw ?_
      rotate_left
      · intro wx hSx
        (try dsimp only at hSx)
        go_split_ands
        go_simp
        (try with_reducible rfl)
      simp only [List.setIfInBounds_toArray, List.set_cons_zero, List.set_cons_succ]
      refine take_at 12 90 (fuel := 2) ?_ rfl rfl (by kernel_rfl) (by kernel_rfl) (by kernel_rfl) (Or.inl ⟨by rfl, ?_⟩) hSw ?_
      rotate_left
      · intro wx hSx
        (try dsimp only at hSx)
        go_split_ands
        go_simp
        (try with_reducible rfl)
      simp only [List.setIfInBounds_toArray, List.set_cons_zero, List.set_cons_succ]
      refine take_at 13 91 (fuel := 1) ?_ rfl rfl (by kernel_rfl) (by kernel_rfl) (by kernel_rfl) (Or.inl ⟨by rfl, ?_⟩) hSw ?_
      rotate_left
      · intro wx hSx
        (try dsimp only at hSx)
        go_split_ands
        go_simp
        (try with_reducible rfl)
      simp only [List.setIfInBounds_toArray, List.set_cons_zero, List.set_cons_succ]
      refine take_at 14 4 (fuel := 0) ?_ rfl rfl (by kernel_rfl) (by kernel_rfl) (by kernel_rfl) (Or.inl ⟨by rfl, ?_⟩) hSw ?_
      rotate_left
      · intro wx hSx
        (try dsimp only at hSx)
        go_split_ands
        go_simp
        (try with_reducible rfl)
      simp only [List.setIfInBounds_toArray, List.set_cons_zero, List.set_cons_succ]
      refine wpAnyH_done (by kernel_rfl) ⟨rfl, ?_⟩ 0
      have hZ := hSw.2.2.2.2.2.2.2.2.2.2.2.2.2.2.2.2.2.2.1
      go_wp2_with fail
      go_ret
      exact ⟨rfl, hZ⟩
set_option linter.unusedVariables false in
set_option maxRecDepth 100000 in
theorem opRecords_lifted (os : Os) (started : os.Started) (H : Type) (enc : TypeId × Value → H) :
    ReturnsInHanded {} Try.checked os 4 .any (Rows.opRecordsSpec.pre6 enc Try.prog Try.f4 Rows.opRecordsRow.domain false) (Rows.opRecordsSpec.post enc Try.prog Try.f4 false true false false) := by
  refine returnsInHanded_of_change (C := Try.checked) Kit.own started (by kernel_rfl) Try.func4
    (ChangeSpec.witness6 (enc := enc) (C := Try.checked) false ⟨#[], #[.agg #[.int .u64 0, .int .u64 0, .int .u64 0, .int .u64 0, .int .i64 0, .string ⟨#[]⟩, .string ⟨#[]⟩, .int .u64 0, .int .u64 0], .agg #[.int .i64 0, .string ⟨#[]⟩, .int .u64 0]], []⟩ 8 (by kernel_rfl) (by kernel_rfl) (by kernel_rfl) (by kernel_rfl)) ?_
  intro W base args ds gs before hval0 hW hcnd _
  have hval : ∀ (j : Nat) t v, Try.f4.params[j]? = some t → args[j]? = some v → Value.okWide Try.prog W .any base t v := hval0
  have hW' := hW
  obtain ⟨p, q, hA0, hV, rfl, hfz, hnd⟩ := hW
  have hA : DataW.TrodAll enc Try.prog W 0 (fun _ => true) true Try.f4.params.toList args.toList ds p := hA0
  rw [Try.params4] at hA hval
  obtain ⟨v0, vs0, d0, ds0, p0, q0, hargs, rfl, rfl, h0, r0⟩ := trodAll_cons hA
  obtain ⟨v1, vs1, d1, ds1, p1, q1, rfl, rfl, rfl, h1, r1⟩ := trodAll_cons r0
  obtain ⟨rfl, rfl, rfl⟩ := trodAll_nil r1
  obtain ⟨rfl, rfl⟩ := trodVars_none hV
  obtain rfl : args = #[v0, v1] := by cases args; simp_all
  obtain ⟨cs0, rfl, -⟩ := okWide_struct Try.underlying35 (hval 0 35 v0 rfl rfl)
  obtain ⟨fuel0, hf0⟩ := h0
  obtain ⟨q, n, s, m, k, key, val, t, v, e0, hq, hn, hs, hm, wk, hk, hv, ht, hv2⟩ := open_record hf0
  obtain rfl : cs0 = #[.int .u64 (q : Int), .int .u64 (n : Int), .int .u64 (s : Int), .int .u64 (m : Int), .int .i64 k, .string (str key), .string (str val), .int .u64 (t : Int), .int .u64 (v : Int)] := by cases cs0; simpa [Value.cells] using e0
  obtain ⟨cs1, rfl, -⟩ := okWide_struct Try.underlying37 (hval 1 37 v1 rfl rfl)
  obtain ⟨fuel1, hf1⟩ := h1
  obtain ⟨k1, l1, v1, e1, wk1, hl1, hv1⟩ := open_reply hf1
  obtain rfl : cs1 = #[.int .i64 k1, .string (str l1), .int .u64 (v1 : Int)] := by cases cs1; simpa [Value.cells] using e1
  clear hA0 hval0
  refine (opRecords_walk q n s m k wk key val t v k1 wk1 l1 v1 hk hv hl1 hq hn hs hm ht hv2 hv1 W).mono fun e W' ⟨he, hg⟩ => ?_
  subst he
  exact ⟨_, rfl, Kit.law_post hW' rfl (by kernel_rfl) rfl (by kernel_rfl) hg⟩

theorem opRecords_over : Rows.opRecordsRow.holds Try.pinned (OpenSpec.ofChange Rows.opRecordsSpec) :=
  OpenClaim.holds_of_wide 4 Try.f4 rfl rfl rfl rfl rfl rfl rfl ⟨rfl, rfl, rfl, rfl, rfl⟩ rfl rfl rfl rfl rfl (by kernel_rfl) Try.func4 (by kernel_rfl)
    (of_decide_eq_true (by kernel_rfl)) (by unfold Func.isWrapper; first | (rw [if_pos (by decide +kernel)]; kernel_rfl) | (rw [if_neg (by decide +kernel)]; exact ⟨rfl, rfl⟩))
    (fun os started H enc _ => opRecords_lifted os started H enc)

theorem opRecords_holds : Rows.OpRecordsSaid :=
  opRecords_over
end Go.Proofs.Ytpjmkgomilnhnaa.Opy
