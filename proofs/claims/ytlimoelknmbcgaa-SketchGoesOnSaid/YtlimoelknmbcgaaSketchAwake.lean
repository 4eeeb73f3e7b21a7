/- What the laws of layer 5 begin with: a key that was added three times; a text that is not too long. No condition. -/
import Derived.Test.YtlimoelknmbcgaaSketchAdd
namespace Go.Proofs.Ytlimoelknmbcgaa.Sketchy
open Go.ChangeShapes Go.WideShapes Go.ChangeAt Go.RowKit
open Wirey (Blk Row str str_size str_list str_take Kp)

/-- At most 80 bytes of a text. -/
def fewL (l : List UInt8) : List UInt8 := if 80 < l.length then l.take 80 else l
theorem fewL_le (l : List UInt8) : (fewL l).length ≤ 80 := by
  unfold fewL
  split
  · rw [List.length_take]; omega
  · omega
set_option maxHeartbeats 1000000 in
theorem few_c (l : List UInt8) (hl : l.length ≤ maxLen) (w : World) :
    Calls Try.prog 10 #[.string (str l)] w fun e w' => e = .returned (.string (str (fewL l))) ∧ w = w' := by
  have hsz := str_size
  have ht := str_take l 80
  unfold maxLen at hl
  by_cases h : 80 < l.length
  · have hf : fewL l = l.take 80 := if_pos h
    rw [hf]
    clear hf
    go_enter Try.func10, Try.ntmps10
    go_wp2_with fail
    go_ret
    exact ⟨rfl, rfl⟩
  · have hf : fewL l = l := if_neg h
    rw [hf]
    clear hf
    go_enter Try.func10, Try.ntmps10
    go_wp2_with fail
    go_ret
    exact ⟨rfl, rfl⟩

/-! The key, added three times -/
def keyK : Nat → Nat := ksOf (Mixy.text 1 [107, 101, 121]) 64
def nthK : Nat → Sk
  | 0 => Sk.new 64 1
  | n + 1 => (nthK n).add keyK
theorem nthK_wf : ∀ n, (nthK n).Wf
  | 0 => Sk.new_wf (by omega) (by omega) (by omega)
  | n + 1 => (nthK_wf n).add
theorem nthK_wide : ∀ n, (nthK n).wide = 64 ∧ (nthK n).seed = 1
  | 0 => ⟨rfl, rfl⟩
  | n + 1 => by
    have h := Sk.add_fix (s := nthK n) (ks := keyK)
    have ih := nthK_wide n
    exact ⟨h.1.trans ih.1, h.2.trans ih.2⟩
theorem nthK_3 : (nthK 3).seen keyK = 3 ∧ (nthK 3).added = 3 := by decide +kernel
theorem six_below {B : Nat} {w w' : World} {C : Nat} (h : Kp (Six B) w w') (hC : C ≤ B) (hs : C ≤ w.heap.size) : Below C w w' :=
  ⟨h.os, h.tape, h.output, h.size, fun k hk => h.block k (by omega) (fun e => by have := e.1; omega)⟩

set_option maxHeartbeats 4000000 in
set_option maxRecDepth 100000 in
theorem awake_c (w : World) :
    Calls Try.prog 9 #[] w fun e w' => e = .returned (.bool true) ∧ Below w.heap.size w w' := by
  have hkey : ByteArray.mk #[107, 101, 121] = str [107, 101, 121] := rfl
  have hadd : ∀ (n : Nat) (W : World), At W w.heap.size (nthK n) → Calls Try.prog 13 #[.pointer (some ⟨w.heap.size + 1, 0, none⟩), .string ⟨#[107, 101, 121]⟩] W fun e w' => e = .returned (.tuple #[]) ∧ At w' w.heap.size (nthK (n + 1)) ∧ Kp (Six w.heap.size) W w' := fun n W hA => by
    have := add_c [107, 101, 121] (by decide) W hA (nthK_wf n)
    rw [(nthK_wide n).1, (nthK_wide n).2] at this
    exact this
  have hseen : ∀ (W : World), At W w.heap.size (nthK 3) → Calls Try.prog 11 #[.pointer (some ⟨w.heap.size + 1, 0, none⟩), .string ⟨#[107, 101, 121]⟩] W fun e w' => e = .returned (.int .i64 3) ∧ ∃ m, w' = W.drewN m := fun W hA => by
    have := seen_c [107, 101, 121] (by decide) W hA (nthK_wf 3).pre
    rw [(nthK_wide 3).1, (nthK_wide 3).2] at this
    rw [show (nthK 3).seen (ksOf (Mixy.text 1 [107, 101, 121]) 64) = 3 from nthK_3.1] at this
    exact this
  clear hkey
  have hnew := new_c (n := 64) (seed := 1) (by omega) (by omega) w
  go_enter Try.func9, Try.ntmps9
  go_wp2_with fail
  refine Calls.mono hnew ?_
  rintro e w1 ⟨rfl, hA, hb, hs⟩
  go_wp2_with fail
  go_loopw [3] (fun i wr => ∃ j : Nat, j ≤ 3 ∧ i = .int .i64 j ∧ At wr w.heap.size (nthK j) ∧ Below w.heap.size w wr) (fun i _ => 3 - (intOf i).toNat)
  case atStart => exact ⟨0, by omega, rfl, hA, hb⟩
  case round =>
    obtain ⟨j, hj, rfl, hU, hW⟩ := hrel
    by_cases h3 : j < 3
    · go_wp2_with fail
      refine (hadd j _ hU).mono ?_
      rintro e w2 ⟨rfl, hU2, hK2⟩
      have hB2 := hW.trans (six_below hK2 (Nat.le_refl _) hW.size)
      go_wp2_with fail
      go_roundw
      case rel => exact ⟨j + 1, by omega, rfl, hU2, hB2⟩
      case measure => simp [intOf]; omega
    · obtain rfl : j = 3 := by omega
      go_wp2_with fail
      refine (hseen _ hU).mono ?_
      rintro e w2 ⟨rfl, m, rfl⟩
      have hU3 := hU.drewN m
      have hW3 : Below w.heap.size w (wr.drewN m) := ⟨hW.os, hW.tape, hW.output, hW.size, hW.block⟩
      go_wp2_with fail
      refine (added_c _ hU3).mono ?_
      rintro e w3 ⟨rfl, rfl⟩
      rw [nthK_3.2]
      go_wp2_with fail
      refine (wide_c _ hU3).mono ?_
      rintro e w3 ⟨rfl, rfl⟩
      rw [(nthK_wide 3).1]
      go_wp2_with fail
      go_ret
      exact ⟨rfl, hW3⟩
end Go.Proofs.Ytlimoelknmbcgaa.Sketchy
