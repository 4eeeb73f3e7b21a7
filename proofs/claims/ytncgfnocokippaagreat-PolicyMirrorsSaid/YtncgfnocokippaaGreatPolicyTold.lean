/- The document's policy: what it tells of itself, a new one, what it makes of a miss that it does not note. No condition. -/
import Derived.Test.YtncgfnocokippaaGreatPolicyDoc
import Derived.Test.YtncgfnocokippaaGreatSq
namespace Go.Proofs.YtncgfnocokippaaGreat.Policyy
open Go.ChangeShapes Go.WideShapes Go.ChangeAt Go.RowKit
open Wirey (Blk Row str str_size str_list str_take str_cat Kp)
open Ringy hiding fewL fewL_le
open Arcy (Av Dat)
open Tinyy (Tv Dt Ad)

theorem cat1 (l : List UInt8) : (⟨#[1]⟩ : ByteArray) ++ str l = str (1 :: l) := str_cat [1] l
theorem cat2 (l : List UInt8) : (⟨#[2]⟩ : ByteArray) ++ str l = str (2 :: l) := str_cat [2] l
set_option maxHeartbeats 4000000 in
set_option maxRecDepth 100000 in
theorem dHasA {c : Nat → Value} {k : Key} (w : World) {b : Bool}
  (hc : ∀ W, Below w.heap.size w W → Calls Tryz.prog 36 #[.agg #[c 1, c 2, c 3, c 4], .string (str k)] W fun e W' => e = .returned (.bool b) ∧ Below W.heap.size W W') :
  Calls Tryz.prog 13 #[.agg #[.int .i64 1, c 1, c 2, c 3, c 4, c 5, c 6, c 7, c 8, c 9, c 10, c 11, c 12], .string (str k)] w fun e w' => e = .returned (.bool b) ∧ Below w.heap.size w w' := by
 have hb1 := (Below.refl _ w).alloc (Nat.le_refl _) (.cells #[.int .i64 1, c 1, c 2, c 3, c 4, c 5, c 6, c 7, c 8, c 9, c 10, c 11, c 12] 40)
 have hx1 := Blk.new w 40 #[.int .i64 1, c 1, c 2, c 3, c 4, c 5, c 6, c 7, c 8, c 9, c 10, c 11, c 12]
 go_enter Tryz.func13, Tryz.ntmps13
 go_upto_region 1 with (fail)
 generalize w.alloc (.cells #[.int .i64 1, c 1, c 2, c 3, c 4, c 5, c 6, c 7, c 8, c 9, c 10, c 11, c 12] 40) = w1 at *
 have x0 := hx1.cell 0
 have x1 := hx1.cell 1
 have x2 := hx1.cell 2
 have x3 := hx1.cell 3
 have x4 := hx1.cell 4
 have x5 := hx1.cell 5
 have x6 := hx1.cell 6
 have x7 := hx1.cell 7
 have x8 := hx1.cell 8
 have x9 := hx1.cell 9
 have x10 := hx1.cell 10
 have x11 := hx1.cell 11
 have x12 := hx1.cell 12
 simp only [gA, gB, gC] at x0 x1 x2 x3 x4 x5 x6 x7 x8 x9 x10 x11 x12
 have hcc := hc _ hb1
 clear hc
 go_wp2_with fail
 refine hcc.mono ?_
 rintro e w4 ⟨rfl, hb4⟩
 have hx4 := hx1.below hb4 hx1.lt
 clear x0 x1 x2 x3 x4 x5 x6 x7 x8 x9 x10 x11 x12
 have x0 := hx4.cell 0
 have x1 := hx4.cell 1
 have x2 := hx4.cell 2
 have x3 := hx4.cell 3
 have x4 := hx4.cell 4
 have x5 := hx4.cell 5
 have x6 := hx4.cell 6
 have x7 := hx4.cell 7
 have x8 := hx4.cell 8
 have x9 := hx4.cell 9
 have x10 := hx4.cell 10
 have x11 := hx4.cell 11
 have x12 := hx4.cell 12
 simp only [gA, gB, gC] at x0 x1 x2 x3 x4 x5 x6 x7 x8 x9 x10 x11 x12
 cases b
 all_goals
  go_wp2_with fail
  go_ret
  exact ⟨rfl, hb1.trans (hb4.mono hb1.size)⟩
set_option maxHeartbeats 4000000 in
set_option maxRecDepth 100000 in
theorem dLenA {c : Nat → Value} (w : World) {n : Int}
  (hc : ∀ W, Below w.heap.size w W → Calls Tryz.prog 34 #[.agg #[c 1, c 2, c 3, c 4]] W fun e W' => e = .returned (.int .i64 n) ∧ Below W.heap.size W W') :
  Calls Tryz.prog 10 #[.agg #[.int .i64 1, c 1, c 2, c 3, c 4, c 5, c 6, c 7, c 8, c 9, c 10, c 11, c 12]] w fun e w' => e = .returned (.int .i64 n) ∧ Below w.heap.size w w' := by
 have hb1 := (Below.refl _ w).alloc (Nat.le_refl _) (.cells #[.int .i64 1, c 1, c 2, c 3, c 4, c 5, c 6, c 7, c 8, c 9, c 10, c 11, c 12] 40)
 have hx1 := Blk.new w 40 #[.int .i64 1, c 1, c 2, c 3, c 4, c 5, c 6, c 7, c 8, c 9, c 10, c 11, c 12]
 go_enter Tryz.func10, Tryz.ntmps10
 go_upto_region 1 with (fail)
 generalize w.alloc (.cells #[.int .i64 1, c 1, c 2, c 3, c 4, c 5, c 6, c 7, c 8, c 9, c 10, c 11, c 12] 40) = w1 at *
 have x0 := hx1.cell 0
 have x1 := hx1.cell 1
 have x2 := hx1.cell 2
 have x3 := hx1.cell 3
 have x4 := hx1.cell 4
 have x5 := hx1.cell 5
 have x6 := hx1.cell 6
 have x7 := hx1.cell 7
 have x8 := hx1.cell 8
 have x9 := hx1.cell 9
 have x10 := hx1.cell 10
 have x11 := hx1.cell 11
 have x12 := hx1.cell 12
 simp only [gA, gB, gC] at x0 x1 x2 x3 x4 x5 x6 x7 x8 x9 x10 x11 x12
 have hcc := hc _ hb1
 clear hc
 go_wp2_with fail
 refine hcc.mono ?_
 rintro e w4 ⟨rfl, hb4⟩
 go_wp2_with fail
 go_ret
 exact ⟨rfl, hb1.trans (hb4.mono hb1.size)⟩
set_option maxHeartbeats 4000000 in
set_option maxRecDepth 100000 in
theorem dPutA {c : Nat → Value} (w : World) {l : List UInt8} (hn : l.length < 1000000000)
  (hc : ∀ W, Below w.heap.size w W → Calls Tryz.prog 39 #[.agg #[c 1, c 2, c 3, c 4]] W fun e W' => e = .returned (.string (str l)) ∧ Below W.heap.size W W') :
  Calls Tryz.prog 15 #[.agg #[.int .i64 1, c 1, c 2, c 3, c 4, c 5, c 6, c 7, c 8, c 9, c 10, c 11, c 12]] w fun e w' => e = .returned (.string (str (1 :: l))) ∧ Below w.heap.size w w' := by
 have hb1 := (Below.refl _ w).alloc (Nat.le_refl _) (.cells #[.int .i64 1, c 1, c 2, c 3, c 4, c 5, c 6, c 7, c 8, c 9, c 10, c 11, c 12] 40)
 have hx1 := Blk.new w 40 #[.int .i64 1, c 1, c 2, c 3, c 4, c 5, c 6, c 7, c 8, c 9, c 10, c 11, c 12]
 have hcat := cat1 l
 have hsz := str_size
 have hlen : ¬ (9223372036854775807 < 1 + l.length) := by omega
 go_enter Tryz.func15, Tryz.ntmps15
 go_upto_region 1 with (fail)
 generalize w.alloc (.cells #[.int .i64 1, c 1, c 2, c 3, c 4, c 5, c 6, c 7, c 8, c 9, c 10, c 11, c 12] 40) = w1 at *
 have x0 := hx1.cell 0
 have x1 := hx1.cell 1
 have x2 := hx1.cell 2
 have x3 := hx1.cell 3
 have x4 := hx1.cell 4
 have x5 := hx1.cell 5
 have x6 := hx1.cell 6
 have x7 := hx1.cell 7
 have x8 := hx1.cell 8
 have x9 := hx1.cell 9
 have x10 := hx1.cell 10
 have x11 := hx1.cell 11
 have x12 := hx1.cell 12
 simp only [gA, gB, gC] at x0 x1 x2 x3 x4 x5 x6 x7 x8 x9 x10 x11 x12
 have hcc := hc _ hb1
 clear hc
 go_wp2_with fail
 refine hcc.mono ?_
 rintro e w4 ⟨rfl, hb4⟩
 go_wp2_with fail
 go_ret
 exact ⟨rfl, hb1.trans (hb4.mono hb1.size)⟩
set_option maxHeartbeats 4000000 in
set_option maxRecDepth 100000 in
theorem dMissNoA {c : Nat → Value} {k : Key} (ho : One c) (w : World) :
  Calls Tryz.prog 31 #[.agg #[.int .i64 1, c 1, c 2, c 3, c 4, c 5, c 6, c 7, c 8, c 9, c 10, c 11, c 12], .string (str k)] w fun e w' => e = .returned (.agg #[.int .i64 1, c 1, c 2, c 3, c 4, c 5, c 6, c 7, c 8, c 9, c 10, c 11, c 12]) ∧ Below w.heap.size w w' := by
 have hb1 := (Below.refl _ w).alloc (Nat.le_refl _) (.cells #[.int .i64 1, c 1, c 2, c 3, c 4, c 5, c 6, c 7, c 8, c 9, c 10, c 11, c 12] 40)
 have hx1 := Blk.new w 40 #[.int .i64 1, c 1, c 2, c 3, c 4, c 5, c 6, c 7, c 8, c 9, c 10, c 11, c 12]
 have s1 : (w.alloc (.cells #[.int .i64 1, c 1, c 2, c 3, c 4, c 5, c 6, c 7, c 8, c 9, c 10, c 11, c 12] 40)).heap.size = w.heap.size + 1 := by simp
 have hs := fun (i : Nat) (a : Addr) (m : Mode) (W : World) => run_store Tryz.prog W a (c i) m (ho i)
 go_enter Tryz.func31, Tryz.ntmps31
 go_upto_region 1 with (fail)
 generalize w.alloc (.cells #[.int .i64 1, c 1, c 2, c 3, c 4, c 5, c 6, c 7, c 8, c 9, c 10, c 11, c 12] 40) = w1 at *
 have hb2 := hb1.alloc (by omega) (.cells #[.int .i64 0, .int .i64 0, .int .i64 0, .slice none 0 0, .int .i64 0, .int .i64 0, .int .i64 0, .int .u64 0, .slice none 0 0, .slice none 0 0, .int .i64 0, .slice none 0 0, .int .i64 0] 40)
 have hx2 := hx1.alloc (.cells #[.int .i64 0, .int .i64 0, .int .i64 0, .slice none 0 0, .int .i64 0, .int .i64 0, .int .i64 0, .int .u64 0, .slice none 0 0, .slice none 0 0, .int .i64 0, .slice none 0 0, .int .i64 0] 40)
 have hr := Blk.new w1 40 #[.int .i64 0, .int .i64 0, .int .i64 0, .slice none 0 0, .int .i64 0, .int .i64 0, .int .i64 0, .int .u64 0, .slice none 0 0, .slice none 0 0, .int .i64 0, .slice none 0 0, .int .i64 0]
 have s2 : (w1.alloc (.cells #[.int .i64 0, .int .i64 0, .int .i64 0, .slice none 0 0, .int .i64 0, .int .i64 0, .int .i64 0, .int .u64 0, .slice none 0 0, .slice none 0 0, .int .i64 0, .slice none 0 0, .int .i64 0] 40)).heap.size = w.heap.size + 2 := by simp [s1]
 rw [s1] at hr
 generalize w1.alloc (.cells #[.int .i64 0, .int .i64 0, .int .i64 0, .slice none 0 0, .int .i64 0, .int .i64 0, .int .i64 0, .int .u64 0, .slice none 0 0, .slice none 0 0, .int .i64 0, .slice none 0 0, .int .i64 0] 40) = w2 at *
 clear hx1 hb1 s1
 have x0 := hx2.cell 0
 have x1 := hx2.cell 1
 have x2 := hx2.cell 2
 have x3 := hx2.cell 3
 have x4 := hx2.cell 4
 have x5 := hx2.cell 5
 have x6 := hx2.cell 6
 have x7 := hx2.cell 7
 have x8 := hx2.cell 8
 have x9 := hx2.cell 9
 have x10 := hx2.cell 10
 have x11 := hx2.cell 11
 have x12 := hx2.cell 12
 simp only [gA, gB, gC] at x0 x1 x2 x3 x4 x5 x6 x7 x8 x9 x10 x11 x12
 have z0 := hr.cell 0
 have z1 := hr.cell 1
 have z2 := hr.cell 2
 have z3 := hr.cell 3
 have z4 := hr.cell 4
 have z5 := hr.cell 5
 have z6 := hr.cell 6
 have z7 := hr.cell 7
 have z8 := hr.cell 8
 have z9 := hr.cell 9
 have z10 := hr.cell 10
 have z11 := hr.cell 11
 have z12 := hr.cell 12
 have zf0 := hr.free 0
 have zf1 := hr.free 1
 have zf2 := hr.free 2
 have zf3 := hr.free 3
 have zf4 := hr.free 4
 have zf5 := hr.free 5
 have zf6 := hr.free 6
 have zf7 := hr.free 7
 have zf8 := hr.free 8
 have zf9 := hr.free 9
 have zf10 := hr.free 10
 have zf11 := hr.free 11
 have zf12 := hr.free 12
 simp only [gA, gB, gC] at z0 z1 z2 z3 z4 z5 z6 z7 z8 z9 z10 z11 z12
 have hr6 := blk13 hr (.int .i64 1) (c 1) (c 2) (c 3) (c 4) (c 5) (c 6) (c 7) (c 8) (c 9) (c 10) (c 11) (c 12)
 have hk6 := kp13 w2 (w.heap.size + 1) (.int .i64 1) (c 1) (c 2) (c 3) (c 4) (c 5) (c 6) (c 7) (c 8) (c 9) (c 10) (c 11) (c 12)
 go_wp2_with fail
 refine bodyPost_ret (results_cell_row rfl _ _ (w.heap.size + 1) 40 _ _ _ rfl hr6 Tryz.underlying40 rfl (by kernel_rfl)) rfl ⟨rfl, ?_⟩
 exact ⟨hk6.os.trans hb2.os, hk6.tape.trans hb2.tape, hk6.output.trans hb2.output, Nat.le_trans hb2.size hk6.size, fun q hq => (hk6.block q (Nat.lt_of_lt_of_le hq hb2.size) (by omega)).trans (hb2.block q hq)⟩
set_option maxHeartbeats 4000000 in
set_option maxRecDepth 100000 in
theorem dNewA {n s : Int} (w : World) {Q : (Nat → Value) → World → Prop}
  (hc : ∀ W, Below w.heap.size w W → w.heap.size + 1 ≤ W.heap.size → Calls Tryz.prog 26 #[.int .i64 n] W fun e W' => ∃ (d : Nat → Value), e = .returned (.agg #[d 1, d 2, d 3, d 4]) ∧ One d ∧ Below W.heap.size W W' ∧ Q d W') :
  Calls Tryz.prog 6 #[.int .i64 1, .int .i64 n, .int .u64 s] w fun e w' => ∃ (d : Nat → Value) (W' : World), e = .returned (.agg #[.int .i64 1, d 1, d 2, d 3, d 4, .int .i64 0, .int .i64 0, .int .u64 0, .slice none 0 0, .slice none 0 0, .int .i64 0, .slice none 0 0, .int .i64 0]) ∧ Q d W' ∧ Kp (fun q => q = w.heap.size) W' w' ∧ Below w.heap.size w W' := by
 have hb1 := (Below.refl _ w).alloc (Nat.le_refl _) (.cells #[.int .i64 0, .int .i64 0, .int .i64 0, .slice none 0 0, .int .i64 0, .int .i64 0, .int .i64 0, .int .u64 0, .slice none 0 0, .slice none 0 0, .int .i64 0, .slice none 0 0, .int .i64 0] 40)
 have hr := Blk.new w 40 #[.int .i64 0, .int .i64 0, .int .i64 0, .slice none 0 0, .int .i64 0, .int .i64 0, .int .i64 0, .int .u64 0, .slice none 0 0, .slice none 0 0, .int .i64 0, .slice none 0 0, .int .i64 0]
 have s1 : (w.alloc (.cells #[.int .i64 0, .int .i64 0, .int .i64 0, .slice none 0 0, .int .i64 0, .int .i64 0, .int .i64 0, .int .u64 0, .slice none 0 0, .slice none 0 0, .int .i64 0, .slice none 0 0, .int .i64 0] 40)).heap.size = w.heap.size + 1 := by simp
 go_enter Tryz.func6, Tryz.ntmps6
 go_upto_region 1 with (fail)
 generalize w.alloc (.cells #[.int .i64 0, .int .i64 0, .int .i64 0, .slice none 0 0, .int .i64 0, .int .i64 0, .int .i64 0, .int .u64 0, .slice none 0 0, .slice none 0 0, .int .i64 0, .slice none 0 0, .int .i64 0] 40) = w1 at *
 have hcc := hc _ hb1 (by omega)
 clear hc
 go_wp2_with fail
 refine hcc.mono ?_
 rintro e w4 ⟨d, rfl, od, hb4, hQ⟩
 have hr4 := hr.below hb4 hr.lt
 have hB4 := hb1.trans (hb4.mono hb1.size)
 have hd := fun (i : Nat) (a : Addr) (m : Mode) (W : World) => run_store Tryz.prog W a (d i) m (od i)
 clear hr hb1 hb4 hcc
 have z0 := hr4.cell 0
 have z1 := hr4.cell 1
 have z2 := hr4.cell 2
 have z3 := hr4.cell 3
 have z4 := hr4.cell 4
 have z5 := hr4.cell 5
 have z6 := hr4.cell 6
 have z7 := hr4.cell 7
 have z8 := hr4.cell 8
 have z9 := hr4.cell 9
 have z10 := hr4.cell 10
 have z11 := hr4.cell 11
 have z12 := hr4.cell 12
 have zf0 := hr4.free 0
 have zf1 := hr4.free 1
 have zf2 := hr4.free 2
 have zf3 := hr4.free 3
 have zf4 := hr4.free 4
 have zf5 := hr4.free 5
 have zf6 := hr4.free 6
 have zf7 := hr4.free 7
 have zf8 := hr4.free 8
 have zf9 := hr4.free 9
 have zf10 := hr4.free 10
 have zf11 := hr4.free 11
 have zf12 := hr4.free 12
 simp only [gA, gB, gC] at z0 z1 z2 z3 z4 z5 z6 z7 z8 z9 z10 z11 z12
 have hr6 := blk13 hr4 (.int .i64 1) (d 1) (d 2) (d 3) (d 4) (.int .i64 0) (.int .i64 0) (.int .u64 0) (.slice none 0 0) (.slice none 0 0) (.int .i64 0) (.slice none 0 0) (.int .i64 0)
 have hk6 := kp13 w4 w.heap.size (.int .i64 1) (d 1) (d 2) (d 3) (d 4) (.int .i64 0) (.int .i64 0) (.int .u64 0) (.slice none 0 0) (.slice none 0 0) (.int .i64 0) (.slice none 0 0) (.int .i64 0)
 go_wp2_with fail
 refine bodyPost_ret (results_cell_row rfl _ _ w.heap.size 40 _ _ _ rfl hr6 Tryz.underlying40 rfl (by kernel_rfl)) rfl ⟨d, w4, rfl, hQ, hk6, hB4⟩
set_option maxHeartbeats 4000000 in
set_option maxRecDepth 100000 in
theorem dHasT {c : Nat → Value} {k : Key} (w : World) {b : Bool}
  (hc : ∀ W, Below w.heap.size w W → Calls Tryz.prog 37 #[.agg #[c 5, c 6, c 7, c 8, c 9, c 10, c 11, c 12], .string (str k)] W fun e W' => e = .returned (.bool b) ∧ Below W.heap.size W W') :
  Calls Tryz.prog 13 #[.agg #[.int .i64 2, c 1, c 2, c 3, c 4, c 5, c 6, c 7, c 8, c 9, c 10, c 11, c 12], .string (str k)] w fun e w' => e = .returned (.bool b) ∧ Below w.heap.size w w' := by
 have hb1 := (Below.refl _ w).alloc (Nat.le_refl _) (.cells #[.int .i64 2, c 1, c 2, c 3, c 4, c 5, c 6, c 7, c 8, c 9, c 10, c 11, c 12] 40)
 have hx1 := Blk.new w 40 #[.int .i64 2, c 1, c 2, c 3, c 4, c 5, c 6, c 7, c 8, c 9, c 10, c 11, c 12]
 go_enter Tryz.func13, Tryz.ntmps13
 go_upto_region 1 with (fail)
 generalize w.alloc (.cells #[.int .i64 2, c 1, c 2, c 3, c 4, c 5, c 6, c 7, c 8, c 9, c 10, c 11, c 12] 40) = w1 at *
 have x0 := hx1.cell 0
 have x1 := hx1.cell 1
 have x2 := hx1.cell 2
 have x3 := hx1.cell 3
 have x4 := hx1.cell 4
 have x5 := hx1.cell 5
 have x6 := hx1.cell 6
 have x7 := hx1.cell 7
 have x8 := hx1.cell 8
 have x9 := hx1.cell 9
 have x10 := hx1.cell 10
 have x11 := hx1.cell 11
 have x12 := hx1.cell 12
 simp only [gA, gB, gC] at x0 x1 x2 x3 x4 x5 x6 x7 x8 x9 x10 x11 x12
 have hcc := hc _ hb1
 clear hc
 go_wp2_with fail
 refine hcc.mono ?_
 rintro e w4 ⟨rfl, hb4⟩
 have hx4 := hx1.below hb4 hx1.lt
 clear x0 x1 x2 x3 x4 x5 x6 x7 x8 x9 x10 x11 x12
 have x0 := hx4.cell 0
 have x1 := hx4.cell 1
 have x2 := hx4.cell 2
 have x3 := hx4.cell 3
 have x4 := hx4.cell 4
 have x5 := hx4.cell 5
 have x6 := hx4.cell 6
 have x7 := hx4.cell 7
 have x8 := hx4.cell 8
 have x9 := hx4.cell 9
 have x10 := hx4.cell 10
 have x11 := hx4.cell 11
 have x12 := hx4.cell 12
 simp only [gA, gB, gC] at x0 x1 x2 x3 x4 x5 x6 x7 x8 x9 x10 x11 x12
 cases b
 all_goals
  go_wp2_with fail
  go_ret
  exact ⟨rfl, hb1.trans (hb4.mono hb1.size)⟩
set_option maxHeartbeats 4000000 in
set_option maxRecDepth 100000 in
theorem dLenT {c : Nat → Value} (w : World) {n : Int}
  (hc : ∀ W, Below w.heap.size w W → Calls Tryz.prog 35 #[.agg #[c 5, c 6, c 7, c 8, c 9, c 10, c 11, c 12]] W fun e W' => e = .returned (.int .i64 n) ∧ Below W.heap.size W W') :
  Calls Tryz.prog 10 #[.agg #[.int .i64 2, c 1, c 2, c 3, c 4, c 5, c 6, c 7, c 8, c 9, c 10, c 11, c 12]] w fun e w' => e = .returned (.int .i64 n) ∧ Below w.heap.size w w' := by
 have hb1 := (Below.refl _ w).alloc (Nat.le_refl _) (.cells #[.int .i64 2, c 1, c 2, c 3, c 4, c 5, c 6, c 7, c 8, c 9, c 10, c 11, c 12] 40)
 have hx1 := Blk.new w 40 #[.int .i64 2, c 1, c 2, c 3, c 4, c 5, c 6, c 7, c 8, c 9, c 10, c 11, c 12]
 go_enter Tryz.func10, Tryz.ntmps10
 go_upto_region 1 with (fail)
 generalize w.alloc (.cells #[.int .i64 2, c 1, c 2, c 3, c 4, c 5, c 6, c 7, c 8, c 9, c 10, c 11, c 12] 40) = w1 at *
 have x0 := hx1.cell 0
 have x1 := hx1.cell 1
 have x2 := hx1.cell 2
 have x3 := hx1.cell 3
 have x4 := hx1.cell 4
 have x5 := hx1.cell 5
 have x6 := hx1.cell 6
 have x7 := hx1.cell 7
 have x8 := hx1.cell 8
 have x9 := hx1.cell 9
 have x10 := hx1.cell 10
 have x11 := hx1.cell 11
 have x12 := hx1.cell 12
 simp only [gA, gB, gC] at x0 x1 x2 x3 x4 x5 x6 x7 x8 x9 x10 x11 x12
 have hcc := hc _ hb1
 clear hc
 go_wp2_with fail
 refine hcc.mono ?_
 rintro e w4 ⟨rfl, hb4⟩
 go_wp2_with fail
 go_ret
 exact ⟨rfl, hb1.trans (hb4.mono hb1.size)⟩
set_option maxHeartbeats 4000000 in
set_option maxRecDepth 100000 in
theorem dPutT {c : Nat → Value} (w : World) {l : List UInt8} (hn : l.length < 1000000000)
  (hc : ∀ W, Below w.heap.size w W → Calls Tryz.prog 40 #[.agg #[c 5, c 6, c 7, c 8, c 9, c 10, c 11, c 12]] W fun e W' => e = .returned (.string (str l)) ∧ Below W.heap.size W W') :
  Calls Tryz.prog 15 #[.agg #[.int .i64 2, c 1, c 2, c 3, c 4, c 5, c 6, c 7, c 8, c 9, c 10, c 11, c 12]] w fun e w' => e = .returned (.string (str (2 :: l))) ∧ Below w.heap.size w w' := by
 have hb1 := (Below.refl _ w).alloc (Nat.le_refl _) (.cells #[.int .i64 2, c 1, c 2, c 3, c 4, c 5, c 6, c 7, c 8, c 9, c 10, c 11, c 12] 40)
 have hx1 := Blk.new w 40 #[.int .i64 2, c 1, c 2, c 3, c 4, c 5, c 6, c 7, c 8, c 9, c 10, c 11, c 12]
 have hcat := cat2 l
 have hsz := str_size
 have hlen : ¬ (9223372036854775807 < 1 + l.length) := by omega
 go_enter Tryz.func15, Tryz.ntmps15
 go_upto_region 1 with (fail)
 generalize w.alloc (.cells #[.int .i64 2, c 1, c 2, c 3, c 4, c 5, c 6, c 7, c 8, c 9, c 10, c 11, c 12] 40) = w1 at *
 have x0 := hx1.cell 0
 have x1 := hx1.cell 1
 have x2 := hx1.cell 2
 have x3 := hx1.cell 3
 have x4 := hx1.cell 4
 have x5 := hx1.cell 5
 have x6 := hx1.cell 6
 have x7 := hx1.cell 7
 have x8 := hx1.cell 8
 have x9 := hx1.cell 9
 have x10 := hx1.cell 10
 have x11 := hx1.cell 11
 have x12 := hx1.cell 12
 simp only [gA, gB, gC] at x0 x1 x2 x3 x4 x5 x6 x7 x8 x9 x10 x11 x12
 have hcc := hc _ hb1
 clear hc
 go_wp2_with fail
 refine hcc.mono ?_
 rintro e w4 ⟨rfl, hb4⟩
 go_wp2_with fail
 go_ret
 exact ⟨rfl, hb1.trans (hb4.mono hb1.size)⟩
set_option maxHeartbeats 4000000 in
set_option maxRecDepth 100000 in
theorem dMissNoT {c : Nat → Value} {k : Key} (ho : One c) (w : World)
  (hh : ∀ W, Below w.heap.size w W → Calls Tryz.prog 37 #[.agg #[c 5, c 6, c 7, c 8, c 9, c 10, c 11, c 12], .string (str k)] W fun e W' => e = .returned (.bool true) ∧ Below W.heap.size W W') :
  Calls Tryz.prog 31 #[.agg #[.int .i64 2, c 1, c 2, c 3, c 4, c 5, c 6, c 7, c 8, c 9, c 10, c 11, c 12], .string (str k)] w fun e w' => e = .returned (.agg #[.int .i64 2, c 1, c 2, c 3, c 4, c 5, c 6, c 7, c 8, c 9, c 10, c 11, c 12]) ∧ Below w.heap.size w w' := by
 have hb1 := (Below.refl _ w).alloc (Nat.le_refl _) (.cells #[.int .i64 2, c 1, c 2, c 3, c 4, c 5, c 6, c 7, c 8, c 9, c 10, c 11, c 12] 40)
 have hx1 := Blk.new w 40 #[.int .i64 2, c 1, c 2, c 3, c 4, c 5, c 6, c 7, c 8, c 9, c 10, c 11, c 12]
 have s1 : (w.alloc (.cells #[.int .i64 2, c 1, c 2, c 3, c 4, c 5, c 6, c 7, c 8, c 9, c 10, c 11, c 12] 40)).heap.size = w.heap.size + 1 := by simp
 have hs := fun (i : Nat) (a : Addr) (m : Mode) (W : World) => run_store Tryz.prog W a (c i) m (ho i)
 go_enter Tryz.func31, Tryz.ntmps31
 go_upto_region 1 with (fail)
 generalize w.alloc (.cells #[.int .i64 2, c 1, c 2, c 3, c 4, c 5, c 6, c 7, c 8, c 9, c 10, c 11, c 12] 40) = w1 at *
 have hb2 := hb1.alloc (by omega) (.cells #[.int .i64 0, .int .i64 0, .int .i64 0, .slice none 0 0, .int .i64 0, .int .i64 0, .int .i64 0, .int .u64 0, .slice none 0 0, .slice none 0 0, .int .i64 0, .slice none 0 0, .int .i64 0] 40)
 have hx2 := hx1.alloc (.cells #[.int .i64 0, .int .i64 0, .int .i64 0, .slice none 0 0, .int .i64 0, .int .i64 0, .int .i64 0, .int .u64 0, .slice none 0 0, .slice none 0 0, .int .i64 0, .slice none 0 0, .int .i64 0] 40)
 have hr := Blk.new w1 40 #[.int .i64 0, .int .i64 0, .int .i64 0, .slice none 0 0, .int .i64 0, .int .i64 0, .int .i64 0, .int .u64 0, .slice none 0 0, .slice none 0 0, .int .i64 0, .slice none 0 0, .int .i64 0]
 have s2 : (w1.alloc (.cells #[.int .i64 0, .int .i64 0, .int .i64 0, .slice none 0 0, .int .i64 0, .int .i64 0, .int .i64 0, .int .u64 0, .slice none 0 0, .slice none 0 0, .int .i64 0, .slice none 0 0, .int .i64 0] 40)).heap.size = w.heap.size + 2 := by simp [s1]
 rw [s1] at hr
 generalize w1.alloc (.cells #[.int .i64 0, .int .i64 0, .int .i64 0, .slice none 0 0, .int .i64 0, .int .i64 0, .int .i64 0, .int .u64 0, .slice none 0 0, .slice none 0 0, .int .i64 0, .slice none 0 0, .int .i64 0] 40) = w2 at *
 clear hx1 hb1 s1
 have x0 := hx2.cell 0
 have x1 := hx2.cell 1
 have x2 := hx2.cell 2
 have x3 := hx2.cell 3
 have x4 := hx2.cell 4
 have x5 := hx2.cell 5
 have x6 := hx2.cell 6
 have x7 := hx2.cell 7
 have x8 := hx2.cell 8
 have x9 := hx2.cell 9
 have x10 := hx2.cell 10
 have x11 := hx2.cell 11
 have x12 := hx2.cell 12
 simp only [gA, gB, gC] at x0 x1 x2 x3 x4 x5 x6 x7 x8 x9 x10 x11 x12
 have hhc := hh _ hb2
 clear hh
 go_wp2_with fail
 refine hhc.mono ?_
 rintro e w3 ⟨rfl, hbh⟩
 have hx3 := hx2.below hbh hx2.lt
 have hr3 := hr.below hbh hr.lt
 have hb3 := hb2.trans (hbh.mono hb2.size)
 clear hx2 hr hb2 hbh hhc x0 x1 x2 x3 x4 x5 x6 x7 x8 x9 x10 x11 x12
 have x0 := hx3.cell 0
 have x1 := hx3.cell 1
 have x2 := hx3.cell 2
 have x3 := hx3.cell 3
 have x4 := hx3.cell 4
 have x5 := hx3.cell 5
 have x6 := hx3.cell 6
 have x7 := hx3.cell 7
 have x8 := hx3.cell 8
 have x9 := hx3.cell 9
 have x10 := hx3.cell 10
 have x11 := hx3.cell 11
 have x12 := hx3.cell 12
 simp only [gA, gB, gC] at x0 x1 x2 x3 x4 x5 x6 x7 x8 x9 x10 x11 x12
 have z0 := hr3.cell 0
 have z1 := hr3.cell 1
 have z2 := hr3.cell 2
 have z3 := hr3.cell 3
 have z4 := hr3.cell 4
 have z5 := hr3.cell 5
 have z6 := hr3.cell 6
 have z7 := hr3.cell 7
 have z8 := hr3.cell 8
 have z9 := hr3.cell 9
 have z10 := hr3.cell 10
 have z11 := hr3.cell 11
 have z12 := hr3.cell 12
 have zf0 := hr3.free 0
 have zf1 := hr3.free 1
 have zf2 := hr3.free 2
 have zf3 := hr3.free 3
 have zf4 := hr3.free 4
 have zf5 := hr3.free 5
 have zf6 := hr3.free 6
 have zf7 := hr3.free 7
 have zf8 := hr3.free 8
 have zf9 := hr3.free 9
 have zf10 := hr3.free 10
 have zf11 := hr3.free 11
 have zf12 := hr3.free 12
 simp only [gA, gB, gC] at z0 z1 z2 z3 z4 z5 z6 z7 z8 z9 z10 z11 z12
 have hr6 := blk13 hr3 (.int .i64 2) (c 1) (c 2) (c 3) (c 4) (c 5) (c 6) (c 7) (c 8) (c 9) (c 10) (c 11) (c 12)
 have hk6 := kp13 w3 (w.heap.size + 1) (.int .i64 2) (c 1) (c 2) (c 3) (c 4) (c 5) (c 6) (c 7) (c 8) (c 9) (c 10) (c 11) (c 12)
 go_wp2_with fail
 refine bodyPost_ret (results_cell_row rfl _ _ (w.heap.size + 1) 40 _ _ _ rfl hr6 Tryz.underlying40 rfl (by kernel_rfl)) rfl ⟨rfl, ?_⟩
 exact ⟨hk6.os.trans hb3.os, hk6.tape.trans hb3.tape, hk6.output.trans hb3.output, Nat.le_trans hb3.size hk6.size, fun q hq => (hk6.block q (Nat.lt_of_lt_of_le hq hb3.size) (by omega)).trans (hb3.block q hq)⟩
set_option maxHeartbeats 4000000 in
set_option maxRecDepth 100000 in
theorem dNewT {n s : Int} (w : World) {Q : (Nat → Value) → World → Prop}
  (hc : ∀ W, Below w.heap.size w W → w.heap.size + 1 ≤ W.heap.size → Calls Tryz.prog 27 #[.int .i64 n, .int .u64 s] W fun e W' => ∃ (d : Nat → Value), e = .returned (.agg #[d 5, d 6, d 7, d 8, d 9, d 10, d 11, d 12]) ∧ One d ∧ Below W.heap.size W W' ∧ Q d W') :
  Calls Tryz.prog 6 #[.int .i64 2, .int .i64 n, .int .u64 s] w fun e w' => ∃ (d : Nat → Value) (W' : World), e = .returned (.agg #[.int .i64 2, .int .i64 0, .int .i64 0, .slice none 0 0, .int .i64 0, d 5, d 6, d 7, d 8, d 9, d 10, d 11, d 12]) ∧ Q d W' ∧ Kp (fun q => q = w.heap.size) W' w' ∧ Below w.heap.size w W' := by
 have hb1 := (Below.refl _ w).alloc (Nat.le_refl _) (.cells #[.int .i64 0, .int .i64 0, .int .i64 0, .slice none 0 0, .int .i64 0, .int .i64 0, .int .i64 0, .int .u64 0, .slice none 0 0, .slice none 0 0, .int .i64 0, .slice none 0 0, .int .i64 0] 40)
 have hr := Blk.new w 40 #[.int .i64 0, .int .i64 0, .int .i64 0, .slice none 0 0, .int .i64 0, .int .i64 0, .int .i64 0, .int .u64 0, .slice none 0 0, .slice none 0 0, .int .i64 0, .slice none 0 0, .int .i64 0]
 have s1 : (w.alloc (.cells #[.int .i64 0, .int .i64 0, .int .i64 0, .slice none 0 0, .int .i64 0, .int .i64 0, .int .i64 0, .int .u64 0, .slice none 0 0, .slice none 0 0, .int .i64 0, .slice none 0 0, .int .i64 0] 40)).heap.size = w.heap.size + 1 := by simp
 go_enter Tryz.func6, Tryz.ntmps6
 go_upto_region 1 with (fail)
 generalize w.alloc (.cells #[.int .i64 0, .int .i64 0, .int .i64 0, .slice none 0 0, .int .i64 0, .int .i64 0, .int .i64 0, .int .u64 0, .slice none 0 0, .slice none 0 0, .int .i64 0, .slice none 0 0, .int .i64 0] 40) = w1 at *
 have hcc := hc _ hb1 (by omega)
 clear hc
 go_wp2_with fail
 refine hcc.mono ?_
 rintro e w4 ⟨d, rfl, od, hb4, hQ⟩
 have hr4 := hr.below hb4 hr.lt
 have hB4 := hb1.trans (hb4.mono hb1.size)
 have hd := fun (i : Nat) (a : Addr) (m : Mode) (W : World) => run_store Tryz.prog W a (d i) m (od i)
 clear hr hb1 hb4 hcc
 have z0 := hr4.cell 0
 have z1 := hr4.cell 1
 have z2 := hr4.cell 2
 have z3 := hr4.cell 3
 have z4 := hr4.cell 4
 have z5 := hr4.cell 5
 have z6 := hr4.cell 6
 have z7 := hr4.cell 7
 have z8 := hr4.cell 8
 have z9 := hr4.cell 9
 have z10 := hr4.cell 10
 have z11 := hr4.cell 11
 have z12 := hr4.cell 12
 have zf0 := hr4.free 0
 have zf1 := hr4.free 1
 have zf2 := hr4.free 2
 have zf3 := hr4.free 3
 have zf4 := hr4.free 4
 have zf5 := hr4.free 5
 have zf6 := hr4.free 6
 have zf7 := hr4.free 7
 have zf8 := hr4.free 8
 have zf9 := hr4.free 9
 have zf10 := hr4.free 10
 have zf11 := hr4.free 11
 have zf12 := hr4.free 12
 simp only [gA, gB, gC] at z0 z1 z2 z3 z4 z5 z6 z7 z8 z9 z10 z11 z12
 have hr6 := blk13 hr4 (.int .i64 2) (.int .i64 0) (.int .i64 0) (.slice none 0 0) (.int .i64 0) (d 5) (d 6) (d 7) (d 8) (d 9) (d 10) (d 11) (d 12)
 have hk6 := kp13 w4 w.heap.size (.int .i64 2) (.int .i64 0) (.int .i64 0) (.slice none 0 0) (.int .i64 0) (d 5) (d 6) (d 7) (d 8) (d 9) (d 10) (d 11) (d 12)
 go_wp2_with fail
 refine bodyPost_ret (results_cell_row rfl _ _ w.heap.size 40 _ _ _ rfl hr6 Tryz.underlying40 rfl (by kernel_rfl)) rfl ⟨d, w4, rfl, hQ, hk6, hB4⟩
end Go.Proofs.YtncgfnocokippaaGreat.Policyy
