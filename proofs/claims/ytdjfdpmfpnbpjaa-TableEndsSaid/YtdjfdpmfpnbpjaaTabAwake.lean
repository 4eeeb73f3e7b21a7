/- Layer 11: what its laws begin with. No condition. -/
import Derived.Test.YtdjfdpmfpnbpjaaTabCalls
import Derived.Lib.Hide
import Derived.Laws.Cover1
import Derived.BigQuiet
namespace Go.Proofs.Ytdjfdpmfpnbpjaa.Taby
open Go.ChangeShapes Go.WideShapes Go.ChangeAt Go.RowKit
open Wirey (Blk Row str str_size str_list str_cat str_take enc enc_len txt Kp)
open Regy

/-- From one world of the law to the next: what was there when it began stands. -/
theorem Mv.below {P P' : Nat → Prop} {w0 w w' : World} (h : Mv P P' w w') (hb : Below w0.heap.size w0 w) (hl : ∀ k, P k → w0.heap.size ≤ k) : Below w0.heap.size w0 w' :=
  ⟨h.kp.os.trans hb.os, h.kp.tape.trans hb.tape, h.kp.output.trans hb.output, Nat.le_trans hb.size h.kp.size, fun k hk => (h.kp.block k (Nat.lt_of_lt_of_le hk hb.size) (fun hp => by have := hl k hp; omega)).trans (hb.block k hk)⟩
theorem Mv.sl {P P' : Nat → Prop} {w w' : World} {B : Nat} {v : Value} {l : List En} (h : Mv P P' w w') (hs : Sl w B v l) (hn : ∀ g, v.ownBlock = some g → ¬ P g) : Sl w' B v l :=
  hs.stay fun g hg => h.kp.block g (hs.lt g hg).2 (hn g hg)
theorem Mv.no {P P' : Nat → Prop} {w w' : World} {B : Nat} {v : Value} {l : List En} (h : Mv P P' w w') (hs : Sl w B v l) (hn : ∀ g, v.ownBlock = some g → ¬ P g) : ∀ g, v.ownBlock = some g → ¬ P' g := fun g hg hp => by
  rcases h.new g hp with h1 | h1
  · exact hn g hg h1
  · have := (hs.lt g hg).2; omega
set_option maxHeartbeats 2000000 in
set_option maxRecDepth 100000 in
theorem awake_c (w : World) : Calls Try.prog 12 #[] w fun e w' => e = .returned (.bool true) ∧ Below w.heap.size w w' := by
  have htl := Wirey.toList_str
  let x : En := ⟨[97], [120, 121], 1, 5⟩
  have hx : En.Ok x := ⟨by decide, by decide, by decide, by decide⟩
  have hi : ins x [] = [x] := rfl
  have hf : find [97] [x] = some x := rfl
  have he : ended 5 [x] = [[97]] := by decide
  have he4 : ended 4 [x] = [] := by decide
  have hsz : size [x] = 3 := by decide
  have hlen : [x].length = 1 := rfl
  go_enter Try.func12, Try.ntmps12
  go_wp2_with fail
  refine (new_c _).mono ?_
  rintro e w1 ⟨P, b, rfl, hA, hb⟩
  go_wp2_with fail
  refine (put_c hx (by simp) hA).mono ?_
  rintro e w2 ⟨rfl, P2, hA2, hM⟩
  rw [hi] at hA2
  have hb2 := hM.below hb fun k hk => (hA.low k hk).1
  clear hA hM hb
  go_wp2_with fail
  refine (get_c [97] (by decide) (by simp) hA2).mono ?_
  rintro e w3 ⟨rfl, hb3⟩
  rw [hf]
  have hA3 := hA2.below hb3
  have hb4 := hb2.trans (hb3.mono hb2.size)
  clear hA2 hb3 hb2
  go_upto_region 4 with (fail)
  have hz := Blk.new w3 32 (En.cs x)
  have hA4 := hA3.below ((Below.refl _ w3).alloc (Nat.le_refl _) (.cells (En.cs x) 32))
  have hb5 := hb4.alloc hb4.size (.cells (En.cs x) 32)
  skip
  generalize hw4 : w3.alloc (.cells _ 32) = w4 at *
  clear hw4
  generalize w3.heap.size = g at *
  clear hA3 hb4
  go_wp2_with fail
  refine (ended_c 5 (by decide) (by simp) hA4).mono ?_
  rintro e w5 ⟨v5, rfl, hs5, hb6⟩
  rw [he] at hs5
  obtain ⟨a5, c5, rfl⟩ := hs5.form
  have hA5 := hA4.below hb6
  have hz5 := hz.below hb6 hz.lt
  have hb7 := hb5.trans (hb6.mono hb5.size)
  clear hA4 hz hb5 hb6 hs5
  have x1 := hz5.cell 1
  simp only [List.getElem?_toArray, List.getElem?_cons_zero, List.getElem?_cons_succ] at x1
  have x1' : w5.cell? ⟨g, 1, none⟩ = some (.string ⟨#[120, 121]⟩) := x1
  clear x1 hz5
  go_wp2_with fail
  refine (len_c (by simp) hA5).mono ?_
  rintro e w6 ⟨rfl, hb8⟩
  have hA6 := hA5.below hb8
  have hb9 := hb7.trans (hb8.mono hb7.size)
  clear hA5 hb7 hb8 x1'
  go_wp2_with fail
  refine (bytes_c (by simp) hA6).mono ?_
  rintro e w7 ⟨rfl, hb10⟩
  rw [hsz]
  have hA7 := hA6.below hb10
  have hb11 := hb9.trans (hb10.mono hb9.size)
  clear hA6 hb9 hb10
  go_wp2_with fail
  refine (ended_c 4 (by decide) (by simp) hA7).mono ?_
  rintro e w8 ⟨v8, rfl, hs8, hb12⟩
  rw [he4] at hs8
  obtain ⟨a8, c8, rfl⟩ := hs8.form
  have hb13 := hb11.trans (hb12.mono hb11.size)
  go_wp2_with fail
  go_ret
  exact ⟨rfl, hb13⟩
def En.cut (x : En) : En := ⟨if 64 < x.key.length then x.key.take 64 else x.key, if 100 < x.val.length then x.val.take 100 else x.val, x.ver, x.fin⟩
theorem En.cut_ok (x : En) (hv : x.ver < 18446744073709551616) (hf : x.fin < 18446744073709551616) : x.cut.Ok := by
  refine ⟨?_, ?_, hv, hf⟩
  · unfold En.cut; dsimp only; split
    · rw [List.length_take]; omega
    · omega
  · unfold En.cut; dsimp only; split
    · rw [List.length_take]; omega
    · omega
set_option maxHeartbeats 2000000 in
set_option maxRecDepth 100000 in
theorem cut_c (x : En) (hk : x.key.length ≤ maxLen) (hv : x.val.length ≤ maxLen) (w : World) :
    Calls Try.prog 13 #[.agg x.cs] w fun e w' => e = .returned (.agg x.cut.cs) ∧ Below w.heap.size w w' := by
  obtain ⟨k, v, n, f⟩ := x
  dsimp only at hk hv
  unfold maxLen at hk hv
  have hsz := str_size
  have htk := str_take k 64
  have htv := str_take v 100
  unfold En.cut
  dsimp only [En.cs]
  have s1 : (w.alloc (.cells #[.string (str k), .string (str v), .int .u64 (n : Int), .int .u64 (f : Int)] 32)).heap.size = w.heap.size + 1 := by simp
  have hx := (Blk.new w 32 #[.string (str k), .string (str v), .int .u64 (n : Int), .int .u64 (f : Int)]).alloc (.cells #[.string ⟨#[]⟩, .string ⟨#[]⟩, .int .u64 0, .int .u64 0] 32)
  have hz := Blk.new (w.alloc (.cells #[.string (str k), .string (str v), .int .u64 (n : Int), .int .u64 (f : Int)] 32)) 32 #[.string ⟨#[]⟩, .string ⟨#[]⟩, .int .u64 0, .int .u64 0]
  rw [s1] at hz
  have hb := ((Below.refl _ w).alloc (Nat.le_refl _) (.cells #[.string (str k), .string (str v), .int .u64 (n : Int), .int .u64 (f : Int)] 32)).alloc (by simp) (.cells #[.string ⟨#[]⟩, .string ⟨#[]⟩, .int .u64 0, .int .u64 0] 32)
  go_enter Try.func13, Try.ntmps13
  go_upto_region 1 with (fail)
  generalize (w.alloc (.cells #[.string (str k), .string (str v), .int .u64 (n : Int), .int .u64 (f : Int)] 32)).alloc (.cells #[.string ⟨#[]⟩, .string ⟨#[]⟩, .int .u64 0, .int .u64 0] 32) = w1 at *
  clear s1
  by_cases a1 : 64 < k.length
  · have d1 : decide ((64 : Int) < (k.length : Int)) = true := decide_eq_true (by omega)
    by_cases a2 : 100 < v.length
    · have d2 : decide ((100 : Int) < (v.length : Int)) = true := decide_eq_true (by omega)
      obtain ⟨wa, hwa⟩ : ∃ W, W = w1 := ⟨_, rfl⟩
      have x0 := hx.cell 0
      have x1 := hx.cell 1
      have x2 := hx.cell 2
      have x3 := hx.cell 3
      have f0 := hx.free 0
      have f1 := hx.free 1
      simp only [List.getElem?_toArray, List.getElem?_cons_zero, List.getElem?_cons_succ] at x0 x1 x2 x3
      clear hwa
      have hx2 := (hx.put 0 (.string (str (k.take 64))))
      have hb2 := (hb.setCell (p := ⟨w.heap.size, 0, none⟩) (Nat.le_refl _) (.string (str (k.take 64))))
      have hz2 := (hz.far (p := ⟨w.heap.size, 0, none⟩) (by show w.heap.size + 1 ≠ w.heap.size; omega) (.string (str (k.take 64))))
      simp only [List.setIfInBounds_toArray, List.set_cons_zero] at hx2
      go_upto_region 3 with (fail)
      generalize w1.setCell ⟨w.heap.size, 0, none⟩ (.string (str (k.take 64))) = w2 at *
      clear x0 x1 x2 x3 f0 f1
      have x0 := hx2.cell 0
      have x1 := hx2.cell 1
      have x2 := hx2.cell 2
      have x3 := hx2.cell 3
      have f1 := hx2.free 1
      simp only [List.getElem?_toArray, List.getElem?_cons_zero, List.getElem?_cons_succ] at x0 x1 x2 x3
      have hx3 := (hx2.put 1 (.string (str (v.take 100))))
      have hb3 := (hb2.setCell (p := ⟨w.heap.size, 1, none⟩) (Nat.le_refl _) (.string (str (v.take 100))))
      have hz3 := (hz2.far (p := ⟨w.heap.size, 1, none⟩) (by show w.heap.size + 1 ≠ w.heap.size; omega) (.string (str (v.take 100))))
      simp only [List.setIfInBounds_toArray, List.set_cons_zero, List.set_cons_succ] at hx3
      go_upto_region 5 with (fail)
      generalize w2.setCell ⟨w.heap.size, 1, none⟩ (.string (str (v.take 100))) = w3 at *
      clear x0 x1 x2 x3 f1
      have x0 := hx3.cell 0
      have x1 := hx3.cell 1
      have x2 := hx3.cell 2
      have x3 := hx3.cell 3
      have f0 := hz3.free 0
      have f1 := hz3.free 1
      have f2 := hz3.free 2
      have f3 := hz3.free 3
      have y0 := hz3.cell 0
      have y1 := hz3.cell 1
      have y2 := hz3.cell 2
      have y3 := hz3.cell 3
      simp only [List.getElem?_toArray, List.getElem?_cons_zero, List.getElem?_cons_succ] at x0 x1 x2 x3 y0 y1 y2 y3
      have hT := ((((hz3.put 0 (.string (str (k.take 64)))).put 1 (.string (str (v.take 100)))).put 2 (.int .u64 (n : Int))).put 3 (.int .u64 (f : Int)))
      simp only [List.setIfInBounds_toArray, List.set_cons_zero, List.set_cons_succ] at hT
      have hB := ((((hb3.setCell (p := ⟨w.heap.size + 1, 0, none⟩) (by show w.heap.size ≤ w.heap.size + 1; omega) (.string (str (k.take 64)))).setCell (p := ⟨w.heap.size + 1, 1, none⟩) (by show w.heap.size ≤ w.heap.size + 1; omega) (.string (str (v.take 100)))).setCell (p := ⟨w.heap.size + 1, 2, none⟩) (by show w.heap.size ≤ w.heap.size + 1; omega) (.int .u64 (n : Int))).setCell (p := ⟨w.heap.size + 1, 3, none⟩) (by show w.heap.size ≤ w.heap.size + 1; omega) (.int .u64 (f : Int)))
      have HT := Lib.hid hT
      have HB := Lib.hid hB
      clear hT hB hx hx2 hx3 hz hz2 hz3 hb hb2 hb3
      go_wp2_with fail
      refine bodyPost_ret (results_cell_row rfl _ _ (w.heap.size + 1) 32 #[.string (str (k.take 64)), .string (str (v.take 100)), .int .u64 (n : Int), .int .u64 (f : Int)] (0, 0) _ rfl HT.out Try.underlying32 rfl (by kernel_rfl)) rfl ⟨?_, HB.out⟩
      first | rfl | (rw [if_pos a1, if_pos a2])
    · have d2 : decide ((100 : Int) < (v.length : Int)) = false := decide_eq_false (by omega)
      obtain ⟨wa, hwa⟩ : ∃ W, W = w1 := ⟨_, rfl⟩
      have x0 := hx.cell 0
      have x1 := hx.cell 1
      have x2 := hx.cell 2
      have x3 := hx.cell 3
      have f0 := hx.free 0
      have f1 := hx.free 1
      simp only [List.getElem?_toArray, List.getElem?_cons_zero, List.getElem?_cons_succ] at x0 x1 x2 x3
      clear hwa
      have hx2 := (hx.put 0 (.string (str (k.take 64))))
      have hb2 := (hb.setCell (p := ⟨w.heap.size, 0, none⟩) (Nat.le_refl _) (.string (str (k.take 64))))
      have hz2 := (hz.far (p := ⟨w.heap.size, 0, none⟩) (by show w.heap.size + 1 ≠ w.heap.size; omega) (.string (str (k.take 64))))
      simp only [List.setIfInBounds_toArray, List.set_cons_zero] at hx2
      go_upto_region 3 with (fail)
      generalize w1.setCell ⟨w.heap.size, 0, none⟩ (.string (str (k.take 64))) = w2 at *
      clear x0 x1 x2 x3 f0 f1
      have x0 := hx2.cell 0
      have x1 := hx2.cell 1
      have x2 := hx2.cell 2
      have x3 := hx2.cell 3
      have f1 := hx2.free 1
      simp only [List.getElem?_toArray, List.getElem?_cons_zero, List.getElem?_cons_succ] at x0 x1 x2 x3
      have hx3 := hx2
      have hb3 := hb2
      have hz3 := hz2
      go_upto_region 5 with (fail)
      clear x0 x1 x2 x3 f1
      have x0 := hx3.cell 0
      have x1 := hx3.cell 1
      have x2 := hx3.cell 2
      have x3 := hx3.cell 3
      have f0 := hz3.free 0
      have f1 := hz3.free 1
      have f2 := hz3.free 2
      have f3 := hz3.free 3
      have y0 := hz3.cell 0
      have y1 := hz3.cell 1
      have y2 := hz3.cell 2
      have y3 := hz3.cell 3
      simp only [List.getElem?_toArray, List.getElem?_cons_zero, List.getElem?_cons_succ] at x0 x1 x2 x3 y0 y1 y2 y3
      have hT := ((((hz3.put 0 (.string (str (k.take 64)))).put 1 (.string (str v))).put 2 (.int .u64 (n : Int))).put 3 (.int .u64 (f : Int)))
      simp only [List.setIfInBounds_toArray, List.set_cons_zero, List.set_cons_succ] at hT
      have hB := ((((hb3.setCell (p := ⟨w.heap.size + 1, 0, none⟩) (by show w.heap.size ≤ w.heap.size + 1; omega) (.string (str (k.take 64)))).setCell (p := ⟨w.heap.size + 1, 1, none⟩) (by show w.heap.size ≤ w.heap.size + 1; omega) (.string (str v))).setCell (p := ⟨w.heap.size + 1, 2, none⟩) (by show w.heap.size ≤ w.heap.size + 1; omega) (.int .u64 (n : Int))).setCell (p := ⟨w.heap.size + 1, 3, none⟩) (by show w.heap.size ≤ w.heap.size + 1; omega) (.int .u64 (f : Int)))
      have HT := Lib.hid hT
      have HB := Lib.hid hB
      clear hT hB hx hx2 hx3 hz hz2 hz3 hb hb2 hb3
      go_wp2_with fail
      refine bodyPost_ret (results_cell_row rfl _ _ (w.heap.size + 1) 32 #[.string (str (k.take 64)), .string (str v), .int .u64 (n : Int), .int .u64 (f : Int)] (0, 0) _ rfl HT.out Try.underlying32 rfl (by kernel_rfl)) rfl ⟨?_, HB.out⟩
      first | rfl | (rw [if_pos a1, if_neg a2])
  · have d1 : decide ((64 : Int) < (k.length : Int)) = false := decide_eq_false (by omega)
    by_cases a2 : 100 < v.length
    · have d2 : decide ((100 : Int) < (v.length : Int)) = true := decide_eq_true (by omega)
      obtain ⟨wa, hwa⟩ : ∃ W, W = w1 := ⟨_, rfl⟩
      have x0 := hx.cell 0
      have x1 := hx.cell 1
      have x2 := hx.cell 2
      have x3 := hx.cell 3
      have f0 := hx.free 0
      have f1 := hx.free 1
      simp only [List.getElem?_toArray, List.getElem?_cons_zero, List.getElem?_cons_succ] at x0 x1 x2 x3
      clear hwa
      have hx2 := hx
      have hb2 := hb
      have hz2 := hz
      go_upto_region 3 with (fail)
      clear x0 x1 x2 x3 f0 f1
      have x0 := hx2.cell 0
      have x1 := hx2.cell 1
      have x2 := hx2.cell 2
      have x3 := hx2.cell 3
      have f1 := hx2.free 1
      simp only [List.getElem?_toArray, List.getElem?_cons_zero, List.getElem?_cons_succ] at x0 x1 x2 x3
      have hx3 := (hx2.put 1 (.string (str (v.take 100))))
      have hb3 := (hb2.setCell (p := ⟨w.heap.size, 1, none⟩) (Nat.le_refl _) (.string (str (v.take 100))))
      have hz3 := (hz2.far (p := ⟨w.heap.size, 1, none⟩) (by show w.heap.size + 1 ≠ w.heap.size; omega) (.string (str (v.take 100))))
      simp only [List.setIfInBounds_toArray, List.set_cons_zero, List.set_cons_succ] at hx3
      go_upto_region 5 with (fail)
      generalize w1.setCell ⟨w.heap.size, 1, none⟩ (.string (str (v.take 100))) = w3 at *
      clear x0 x1 x2 x3 f1
      have x0 := hx3.cell 0
      have x1 := hx3.cell 1
      have x2 := hx3.cell 2
      have x3 := hx3.cell 3
      have f0 := hz3.free 0
      have f1 := hz3.free 1
      have f2 := hz3.free 2
      have f3 := hz3.free 3
      have y0 := hz3.cell 0
      have y1 := hz3.cell 1
      have y2 := hz3.cell 2
      have y3 := hz3.cell 3
      simp only [List.getElem?_toArray, List.getElem?_cons_zero, List.getElem?_cons_succ] at x0 x1 x2 x3 y0 y1 y2 y3
      have hT := ((((hz3.put 0 (.string (str k))).put 1 (.string (str (v.take 100)))).put 2 (.int .u64 (n : Int))).put 3 (.int .u64 (f : Int)))
      simp only [List.setIfInBounds_toArray, List.set_cons_zero, List.set_cons_succ] at hT
      have hB := ((((hb3.setCell (p := ⟨w.heap.size + 1, 0, none⟩) (by show w.heap.size ≤ w.heap.size + 1; omega) (.string (str k))).setCell (p := ⟨w.heap.size + 1, 1, none⟩) (by show w.heap.size ≤ w.heap.size + 1; omega) (.string (str (v.take 100)))).setCell (p := ⟨w.heap.size + 1, 2, none⟩) (by show w.heap.size ≤ w.heap.size + 1; omega) (.int .u64 (n : Int))).setCell (p := ⟨w.heap.size + 1, 3, none⟩) (by show w.heap.size ≤ w.heap.size + 1; omega) (.int .u64 (f : Int)))
      have HT := Lib.hid hT
      have HB := Lib.hid hB
      clear hT hB hx hx2 hx3 hz hz2 hz3 hb hb2 hb3
      go_wp2_with fail
      refine bodyPost_ret (results_cell_row rfl _ _ (w.heap.size + 1) 32 #[.string (str k), .string (str (v.take 100)), .int .u64 (n : Int), .int .u64 (f : Int)] (0, 0) _ rfl HT.out Try.underlying32 rfl (by kernel_rfl)) rfl ⟨?_, HB.out⟩
      first | rfl | (rw [if_neg a1, if_pos a2])
    · have d2 : decide ((100 : Int) < (v.length : Int)) = false := decide_eq_false (by omega)
      obtain ⟨wa, hwa⟩ : ∃ W, W = w1 := ⟨_, rfl⟩
      have x0 := hx.cell 0
      have x1 := hx.cell 1
      have x2 := hx.cell 2
      have x3 := hx.cell 3
      have f0 := hx.free 0
      have f1 := hx.free 1
      simp only [List.getElem?_toArray, List.getElem?_cons_zero, List.getElem?_cons_succ] at x0 x1 x2 x3
      clear hwa
      have hx2 := hx
      have hb2 := hb
      have hz2 := hz
      go_upto_region 3 with (fail)
      clear x0 x1 x2 x3 f0 f1
      have x0 := hx2.cell 0
      have x1 := hx2.cell 1
      have x2 := hx2.cell 2
      have x3 := hx2.cell 3
      have f1 := hx2.free 1
      simp only [List.getElem?_toArray, List.getElem?_cons_zero, List.getElem?_cons_succ] at x0 x1 x2 x3
      have hx3 := hx2
      have hb3 := hb2
      have hz3 := hz2
      go_upto_region 5 with (fail)
      clear x0 x1 x2 x3 f1
      have x0 := hx3.cell 0
      have x1 := hx3.cell 1
      have x2 := hx3.cell 2
      have x3 := hx3.cell 3
      have f0 := hz3.free 0
      have f1 := hz3.free 1
      have f2 := hz3.free 2
      have f3 := hz3.free 3
      have y0 := hz3.cell 0
      have y1 := hz3.cell 1
      have y2 := hz3.cell 2
      have y3 := hz3.cell 3
      simp only [List.getElem?_toArray, List.getElem?_cons_zero, List.getElem?_cons_succ] at x0 x1 x2 x3 y0 y1 y2 y3
      have hT := ((((hz3.put 0 (.string (str k))).put 1 (.string (str v))).put 2 (.int .u64 (n : Int))).put 3 (.int .u64 (f : Int)))
      simp only [List.setIfInBounds_toArray, List.set_cons_zero, List.set_cons_succ] at hT
      have hB := ((((hb3.setCell (p := ⟨w.heap.size + 1, 0, none⟩) (by show w.heap.size ≤ w.heap.size + 1; omega) (.string (str k))).setCell (p := ⟨w.heap.size + 1, 1, none⟩) (by show w.heap.size ≤ w.heap.size + 1; omega) (.string (str v))).setCell (p := ⟨w.heap.size + 1, 2, none⟩) (by show w.heap.size ≤ w.heap.size + 1; omega) (.int .u64 (n : Int))).setCell (p := ⟨w.heap.size + 1, 3, none⟩) (by show w.heap.size ≤ w.heap.size + 1; omega) (.int .u64 (f : Int)))
      have HT := Lib.hid hT
      have HB := Lib.hid hB
      clear hT hB hx hx2 hx3 hz hz2 hz3 hb hb2 hb3
      go_wp2_with fail
      refine bodyPost_ret (results_cell_row rfl _ _ (w.heap.size + 1) 32 #[.string (str k), .string (str v), .int .u64 (n : Int), .int .u64 (f : Int)] (0, 0) _ rfl HT.out Try.underlying32 rfl (by kernel_rfl)) rfl ⟨?_, HB.out⟩
      first | rfl | (rw [if_neg a1, if_neg a2])
end Go.Proofs.Ytdjfdpmfpnbpjaa.Taby
