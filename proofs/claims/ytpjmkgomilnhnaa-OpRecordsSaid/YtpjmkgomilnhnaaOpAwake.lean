/- Layer 10: what its laws begin with: a record there and back. No condition. -/
import Derived.Test.YtpjmkgomilnhnaaOpPut
import Derived.Test.YtpjmkgomilnhnaaOpRefCheck
import Derived.Test.YtpjmkgomilnhnaaOpRead
import Derived.Test.YtpjmkgomilnhnaaOpClos
import Derived.BigQuiet
namespace Go.Proofs.Ytpjmkgomilnhnaa.Opy
open Go.ChangeShapes Go.WideShapes Go.ChangeAt Go.RowKit
open Wirey (Blk Row str str_size str_list str_cat enc enc_len txt RS Kp)
open Regy

set_option maxHeartbeats 4000000 in
set_option maxRecDepth 100000 in
theorem awake_c (w : World) : Calls Try.prog 6 #[] w fun e w' => e = .returned (.bool true) ∧ Below w.heap.size w w' := by
  have x1 : ([97] : List UInt8).length ≤ 100000 := by decide
  have x2 : ([118] : List UInt8).length ≤ 100000 := by decide
  have hc1 : chk 2 [97] [118] 3 0 = true := by decide
  have hc0 : chk 0 [] [] 0 0 = false := by decide
  have l1 : ([97] : List UInt8).length ≤ maxLen := by unfold maxLen; decide
  have l2 : ([118] : List UInt8).length ≤ maxLen := by unfold maxLen; decide
  have l0 : ([] : List UInt8).length ≤ maxLen := Nat.zero_le _
  have fput : ∀ W, Calls Try.prog 18 #[.agg #[.int .u64 5, .int .u64 0, .int .u64 7, .int .u64 1, .int .i64 2, .string ⟨#[97]⟩, .string ⟨#[118]⟩, .int .u64 3, .int .u64 0]] W fun e W' => e = .returned (.string (str (recB 5 0 7 1 (opB 2 [97] [118] 3 0)))) ∧ Below W.heap.size W W' := fun W => pputRec_c (k := 2) (q := 5) (n := 0) (s := 7) (m := 1) (t := 3) (v := 0) (key := [97]) (val := [118]) (by omega) x1 x2 (by omega) (by omega) (by omega) (by omega) (by omega) (by omega) W
  have fget : ∀ W, Calls Try.prog 17 #[.string (str (recB 5 0 7 1 (opB 2 [97] [118] 3 0)))] W fun e W' => e = .returned (.tuple #[.agg #[.int .u64 5, .int .u64 0, .int .u64 7, .int .u64 1, .int .i64 2, .string ⟨#[97]⟩, .string ⟨#[118]⟩, .int .u64 3, .int .u64 0], .int .i64 0]) ∧ Below W.heap.size W W' := fun W => get_c (k := 2) (q := 5) (n := 0) (s := 7) (m := 1) (t := 3) (v := 0) (key := [97]) (val := [118]) hc1 (by omega) (by omega) (by omega) (by omega) (by omega) W
  have fc1 : ∀ W, Calls Try.prog 7 #[.agg #[.int .i64 2, .string ⟨#[97]⟩, .string ⟨#[118]⟩, .int .u64 3, .int .u64 0]] W fun e W' => e = .returned (.bool true) ∧ Below W.heap.size W W' := fun W => by
    have h := pcheck_c 2 [97] [118] 3 0 l1 l2 W
    rw [hc1] at h
    exact h
  have fc0 : ∀ W, Calls Try.prog 7 #[.agg #[.int .i64 0, .string ⟨#[]⟩, .string ⟨#[]⟩, .int .u64 0, .int .u64 0]] W fun e W' => e = .returned (.bool false) ∧ Below W.heap.size W W' := fun W => by
    have h := pcheck_c 0 [] [] 0 0 l0 l0 W
    rw [hc0] at h
    exact h
  generalize recB 5 0 7 1 (opB 2 [97] [118] 3 0) = rb at *
  have hb0 := (Below.refl _ w).alloc (Nat.le_refl _) (.cells #[.int .u64 5, .int .u64 0, .int .u64 7, .int .u64 1, .int .i64 2, .string ⟨#[97]⟩, .string ⟨#[118]⟩, .int .u64 3, .int .u64 0] 35)
  have hx0 := Blk.new w 35 #[.int .u64 5, .int .u64 0, .int .u64 7, .int .u64 1, .int .i64 2, .string ⟨#[97]⟩, .string ⟨#[118]⟩, .int .u64 3, .int .u64 0]
  clear x1 x2 hc1 hc0 l1 l2 l0
  go_enter Try.func6, Try.ntmps6
  go_wp2_with fail
  generalize w.alloc (.cells #[.int .u64 5, .int .u64 0, .int .u64 7, .int .u64 1, .int .i64 2, .string ⟨#[97]⟩, .string ⟨#[118]⟩, .int .u64 3, .int .u64 0] 35) = w1 at *
  refine (fput _).mono ?_
  rintro e w2 ⟨rfl, hb2⟩
  go_wp2_with fail
  refine (fget _).mono ?_
  rintro e w3 ⟨rfl, hb3⟩
  have hB := (hb0.trans (hb2.mono hb0.size)).trans (hb3.mono (Nat.le_trans hb0.size hb2.size))
  have hX := (hx0.below hb2 hx0.lt).below hb3 (Nat.lt_of_lt_of_le hx0.lt hb2.size)
  have hX4 := hX.alloc (.cells #[.int .u64 5, .int .u64 0, .int .u64 7, .int .u64 1, .int .i64 2, .string ⟨#[97]⟩, .string ⟨#[118]⟩, .int .u64 3, .int .u64 0] 35)
  have hY4 := Blk.new w3 35 #[.int .u64 5, .int .u64 0, .int .u64 7, .int .u64 1, .int .i64 2, .string ⟨#[97]⟩, .string ⟨#[118]⟩, .int .u64 3, .int .u64 0]
  have hB4 := hB.alloc (by have := hB.size; omega) (.cells #[.int .u64 5, .int .u64 0, .int .u64 7, .int .u64 1, .int .i64 2, .string ⟨#[97]⟩, .string ⟨#[118]⟩, .int .u64 3, .int .u64 0] 35)
  clear hb0 hx0 hb2 hb3 hB hX
  go_upto_region 3 with (fail)
  generalize w3.heap.size = g at *
  generalize w3.alloc (.cells #[.int .u64 5, .int .u64 0, .int .u64 7, .int .u64 1, .int .i64 2, .string ⟨#[97]⟩, .string ⟨#[118]⟩, .int .u64 3, .int .u64 0] 35) = w4 at *
  have x0 := hX4.cell 0
  have y0 := hY4.cell 0
  have x1 := hX4.cell 1
  have y1 := hY4.cell 1
  have x2 := hX4.cell 2
  have y2 := hY4.cell 2
  have x3 := hX4.cell 3
  have y3 := hY4.cell 3
  have x4 := hX4.cell 4
  have y4 := hY4.cell 4
  have x5 := hX4.cell 5
  have y5 := hY4.cell 5
  have x6 := hX4.cell 6
  have y6 := hY4.cell 6
  have x7 := hX4.cell 7
  have y7 := hY4.cell 7
  have x8 := hX4.cell 8
  have y8 := hY4.cell 8
  simp only [List.getElem?_toArray, List.getElem?_cons_zero, List.getElem?_cons_succ] at x0 x1 x2 x3 x4 x5 x6 x7 x8 y0 y1 y2 y3 y4 y5 y6 y7 y8
  go_wp2_with fail
  refine (fc1 _).mono ?_
  rintro e w6 ⟨rfl, hb4⟩
  go_wp2_with fail
  refine (fc0 _).mono ?_
  rintro e w5 ⟨rfl, hb5⟩
  go_wp2_with fail
  go_ret
  have hB5 := hB4.trans (hb4.mono hB4.size)
  exact ⟨rfl, hB5.trans (hb5.mono hB5.size)⟩
end Go.Proofs.Ytpjmkgomilnhnaa.Opy
