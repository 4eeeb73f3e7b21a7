/- Seen's contract. -/
import Derived.Test.YtncgfnocokippaaSketchOps
namespace Go.Proofs.Ytncgfnocokippaa.Sketchy
open Go.ChangeShapes Go.WideShapes Go.ChangeAt Go.RowKit
open Wirey (Blk Row str str_size str_list Kp)

set_option maxHeartbeats 1000000 in
theorem seen_c {B : Nat} {s : Sk} (l : List UInt8) (hl : l.length ≤ 1099511627776) (w : World) (hA : At w B s) (hf : s.Pre) :
    Calls Try.prog 94 #[.pointer (some ⟨B + 1, 0, none⟩), .string (str l)] w fun e w' => e = .returned (.int .i64 (s.seen (ksOf (Mixy.text s.seed l) s.wide) : Int)) ∧ ∃ m, w' = w.drewN m := by
  obtain ⟨c0, c1, c6⟩ := hA.cells
  obtain ⟨h, hh⟩ : ∃ h, h = Mixy.text s.seed l := ⟨_, rfl⟩
  have hof := fun W : World => Mixy.of_c s.seed hf.seed (str l) (by rw [str_size]; unfold maxLen; omega) W
  simp only [str_list] at hof
  rw [← hh] at hof ⊢
  clear hh
  have w1 := hf.w1
  have hlst := Sk.lst_le (s := s) (ks := ksOf h s.wide) 4
  have hbit := hA.bitP hf (ks := ksOf h s.wide) (ksOf_lt hf.w1 4)
  have hw0 : ((s.wide : Int) == 0) = false := by rw [beq_eq_false_iff_ne]; omega
  go_enter Try.func94, Try.ntmps94
  go_wp2_with fail
  refine (wide_c w hA).mono ?_
  rintro e w' ⟨rfl, rfl⟩
  go_wp2_with fail
  refine (hof _).mono ?_
  rintro e w' ⟨rfl, rfl⟩
  go_wp2_with fail
  refine (least_c h _ hA hf).mono ?_
  rintro e w' ⟨rfl, m, rfl⟩
  go_wp2_with fail
  refine (door_c h _ (hA.drewN m) hf).mono ?_
  rintro e w' ⟨rfl, m2, rfl⟩
  have hs0 : s.bit (ksOf h s.wide) = false → s.seen (ksOf h s.wide) = s.lst (ksOf h s.wide) 4 := fun hb => by rw [Sk.seen, hb]; rfl
  have hs1 : s.bit (ksOf h s.wide) = true → s.seen (ksOf h s.wide) = s.lst (ksOf h s.wide) 4 + 1 := fun hb => by rw [Sk.seen, hb]; rfl
  rcases Bool.eq_false_or_eq_true (s.bit (ksOf h s.wide)) with hb | hb
  · have HS := Lib.hid (hs1 hb)
    rw [hb] at hbit
    clear hs0 hs1 hb
    go_wp2_with fail
    go_ret
    exact ⟨by rw [HS.out]; rfl, m + m2, rfl⟩
  · have HS := Lib.hid (hs0 hb)
    rw [hb] at hbit
    clear hs0 hs1 hb
    go_wp2_with fail
    go_ret
    exact ⟨by rw [HS.out]; rfl, m + m2, rfl⟩
theorem seen_nil (l : List UInt8) (w : World) :
    Calls Try.prog 94 #[.pointer none, .string (str l)] w fun e w' => e = .returned (.int .i64 0) ∧ w = w' := by
  go_enter Try.func94, Try.ntmps94
  go_wp2_with fail
  refine (wide_nil w).mono ?_
  rintro e w' ⟨rfl, rfl⟩
  go_wp2_with fail
  go_ret
  exact ⟨rfl, rfl⟩

end Go.Proofs.Ytncgfnocokippaa.Sketchy
