/- Contracts of what reads and grows a sketch: a key's counters and its bit, the least of them, how often it was seen; an addition, an ageing: all numbers of the document's sketch, nothing else turns but its six blocks. No condition but that a key is of at most 2^40 bytes. -/
import Derived.Test.YtncgfnocokippaaSketchMem
import Derived.Test.YtncgfnocokippaaWireFly
import Derived.Lib.SliceRun
import Derived.Deep.DeepCutAuto
import Derived.StillTailTactics
namespace Go.Proofs.Ytncgfnocokippaa.Sketchy
open Go.ChangeShapes Go.WideShapes Go.ChangeAt Go.RowKit
open Wirey (Blk Row str str_size str_list Kp)

/-- A key's place in a row; the door is row 4. -/
def ksOf (h n : Nat) (i : Nat) : Nat := Mixy.mix (Mixy.spot h (i : Int)) * n / 18446744073709551616
theorem ksOf_lt {h n : Nat} (hn : 1 ≤ n) (i : Nat) : ksOf h n i < n := Mixy.place_lt _ _ (Mixy.mix_lt _) hn
theorem place_c {h n : Nat} (hn : 1 ≤ n) (hn2 : n ≤ 4096) (i : Nat) (w : World) :
    Calls Try.prog 38 #[.int .u64 (h : Int), .int .i64 (i : Int), .int .i64 (n : Int)] w fun e w' => e = .returned (.int .i64 (ksOf h n i : Int)) ∧ w' = w :=
  (Mixy.place_yes h (i : Int) n hn (by omega) w).mono fun _ _ ⟨a, b⟩ => ⟨a, b.symm⟩
theorem place_4 {h n : Nat} (hn : 1 ≤ n) (hn2 : n ≤ 4096) (w : World) :
    Calls Try.prog 38 #[.int .u64 (h : Int), .int .i64 4, .int .i64 (n : Int)] w fun e w' => e = .returned (.int .i64 (ksOf h n 4 : Int)) ∧ w' = w :=
  place_c hn hn2 4 w
theorem wide_q {B : Nat} {s : Sk} (w : World) (h : At w B s) :
    Calls Try.prog 29 #[.pointer (some ⟨B + 1, 0, none⟩)] w fun e w' => e = .returned (.int .i64 (s.wide : Int)) ∧ w' = w :=
  (wide_c w h).mono fun _ _ ⟨a, b⟩ => ⟨a, b.symm⟩

set_option maxHeartbeats 4000000 in
theorem counter_c {B : Nat} {s : Sk} (h : Nat) {i : Nat} (hi : i < 4) (w : World) (hA : At w B s) (hf : s.Pre) :
    Calls Try.prog 40 #[.pointer (some ⟨B + 1, 0, none⟩), .int .i64 (i : Int), .int .u64 (h : Int)] w fun e w' => e = .returned (.pointer (some ⟨B + 2 + i, ksOf h s.wide i, none⟩)) ∧ ∃ m, w' = w.drewN m := by
  have hrow := hA.rowAt hi
  have hk := ksOf_lt (h := h) hf.w1 i
  have w1 := hf.w1
  have w2 := hf.w2
  obtain ⟨k, hke⟩ : ∃ k, k = ksOf h s.wide i := ⟨_, rfl⟩
  have hp := fun W : World => place_c (h := h) w1 w2 i W
  rw [← hke] at hk hp ⊢
  clear hke
  go_enter Try.func40, Try.ntmps40
  go_wp2_with fail
  go_quiet (first | (go_at_call 29; exact Calls.quiet_of_same (wide_q _ (At.drewN hA _))) | (go_at_call 38; exact Calls.quiet_of_same (hp _)))
  go_wp2_with fail
  go_ret
  exact ⟨rfl, _, rfl⟩
set_option maxHeartbeats 4000000 in
theorem door_c {B : Nat} {s : Sk} (h : Nat) (w : World) (hA : At w B s) (hf : s.Pre) :
    Calls Try.prog 31 #[.pointer (some ⟨B + 1, 0, none⟩), .int .u64 (h : Int)] w fun e w' => e = .returned (.pointer (some ⟨B, ksOf h s.wide 4, none⟩)) ∧ ∃ m, w' = w.drewN m := by
  obtain ⟨_, _, c6⟩ := hA.cells
  have hk := ksOf_lt (h := h) hf.w1 4
  have w1 := hf.w1
  have w2 := hf.w2
  have hp := fun W : World => place_4 (h := h) w1 w2 W
  obtain ⟨k, hke⟩ : ∃ k, k = ksOf h s.wide 4 := ⟨_, rfl⟩
  rw [← hke] at hk hp ⊢
  clear hke
  go_enter Try.func31, Try.ntmps31
  go_wp2_with fail
  go_quiet (first | (go_at_call 29; exact Calls.quiet_of_same (wide_q _ (At.drewN hA _))) | (go_at_call 38; exact Calls.quiet_of_same (hp _)))
  go_wp2_with fail
  go_ret
  exact ⟨rfl, _, rfl⟩

theorem At.cntP {w : World} {B : Nat} {s : Sk} (h : At w B s) (hf : s.Pre) {ks : Nat → Nat} {i : Nat} (hi : i < 4) (hk : ks i < s.wide) : w.cell? ⟨B + 2 + i, ks i, none⟩ = some (.int .u8 (s.cnt ks i : Int)) :=
  ((h.row i hi).cell _).trans (bytesV_at (by rw [hf.len i hi]; exact hk))
theorem At.bitP {w : World} {B : Nat} {s : Sk} (h : At w B s) (hf : s.Pre) {ks : Nat → Nat} (hk : ks 4 < s.wide) : w.cell? ⟨B, ks 4, none⟩ = some (.bool (s.bit ks)) :=
  (h.door.cell _).trans (boolsV_at (by rw [hf.dlen]; exact hk))

set_option maxHeartbeats 4000000 in
theorem least_c {B : Nat} {s : Sk} (h : Nat) (w : World) (hA : At w B s) (hf : s.Pre) :
    Calls Try.prog 39 #[.pointer (some ⟨B + 1, 0, none⟩), .int .u64 (h : Int)] w fun e w' => e = .returned (.int .u8 (s.lst (ksOf h s.wide) 4 : Int)) ∧ ∃ m, w' = w.drewN m := by
  go_enter Try.func39, Try.ntmps39
  go_wp2_with fail
  go_loopw [5, 7] (fun l i wr => ∃ j m : Nat, j ≤ 4 ∧ i = .int .i64 j ∧ l = .int .u8 (s.lst (ksOf h s.wide) j : Int) ∧ wr = w.drewN m) (fun _ i _ => 4 - (intOf i).toNat)
  case atStart => exact ⟨0, 0, by omega, rfl, rfl, rfl⟩
  case round =>
    obtain ⟨j, m, hj, rfl, rfl, rfl⟩ := hrel
    have hlst : (s.lst (ksOf h s.wide) j : Int) ≤ 15 := by have := Sk.lst_le (s := s) (ks := ksOf h s.wide) j; omega
    by_cases h4 : j < 4
    · have hc := hA.cntP hf (ks := ksOf h s.wide) h4 (ksOf_lt hf.w1 j)
      have hcl := hf.cnt_le (ks := ksOf h s.wide) h4
      have hmin : s.lst (ksOf h s.wide) (j + 1) = min (s.lst (ksOf h s.wide) j) (s.cnt (ksOf h s.wide) j) := rfl
      go_wp2_with fail
      refine (counter_c h h4 _ (hA.drewN m) hf).mono ?_
      rintro e w' ⟨rfl, m2, rfl⟩
      go_wp2_with fail
      go_roundw
      case rel => exact ⟨j + 1, m + m2, by omega, rfl, by rw [hmin]; congr 1; split <;> omega, rfl⟩
      case measure => simp [intOf]; omega
    · obtain rfl : j = 4 := by omega
      go_wp2_with fail
      go_ret
      exact ⟨rfl, _, rfl⟩

end Go.Proofs.Ytncgfnocokippaa.Sketchy
