/- Layer 10: a number, and a text, taken off the bytes with which it is written. The only condition: it is no more than may be. -/
import Derived.Test.YtdjfdpmfpnbpjaaOpMath
import Derived.Test.YtdjfdpmfpnbpjaaWireFly
namespace Go.Proofs.Ytdjfdpmfpnbpjaa.Opy
open Go.ChangeShapes Go.WideShapes Go.ChangeAt Go.RowKit
open Wirey (Blk Row str str_size str_list str_cat enc enc_len txt RS Kp num_ok rtext_ok numR_enc)

theorem num_off {R O n : Nat} {rest : List UInt8} (top : Nat) (ht : n ≤ top) (h64 : top < 18446744073709551616) (hl : (enc n ++ rest).length < 1099511627776) (w : World) (h : RS w R O (enc n ++ rest)) :
    Calls Try.prog 49 #[.pointer (some ⟨R, 0, none⟩), .int .u64 (top : Int)] w fun e w' => e = .returned (.int .u64 (n : Int)) ∧ RS w' R O rest ∧ Kp (fun k => k = R ∨ k = O) w w' := by
  have hm := num_ok top (numR_enc (n := n) (by omega) rest) ht hl w h
  rw [List.drop_left] at hm
  refine hm.mono ?_
  rintro e w' ⟨rfl, hk, hr⟩
  exact ⟨rfl, hr, Kp.of_kept (S := fun k => k = R ∨ k = O) hk (.inl rfl) (.inr rfl)⟩
theorem text_off {R O : Nat} {l rest : List UInt8} (top : Nat) (ht : l.length ≤ top) (h40 : top < 1099511627776) (hl : (txt l ++ rest).length < 1099511627776) (w : World) (h : RS w R O (txt l ++ rest)) :
    Calls Try.prog 61 #[.pointer (some ⟨R, 0, none⟩), .int .i64 (top : Int)] w fun e w' => e = .returned (.string (str l)) ∧ RS w' R O rest ∧ Kp (fun k => k = R ∨ k = O) w w' := by
  have ea : txt l ++ rest = enc l.length ++ (l ++ rest) := by unfold txt; rw [List.append_assoc]
  rw [ea] at h hl
  have hm := rtext_ok top h40 (numR_enc (n := l.length) (by omega) (l ++ rest)) ht (by simp only [List.length_append]; omega) hl w h
  rw [List.drop_left, List.take_left, show (enc l.length ++ (l ++ rest)).drop ((enc l.length).length + l.length) = rest by rw [← List.append_assoc, ← List.length_append, List.drop_left]] at hm
  refine hm.mono ?_
  rintro e w' ⟨rfl, hk, hr⟩
  exact ⟨rfl, hr, Kp.of_kept (S := fun k => k = R ∨ k = O) hk (.inl rfl) (.inr rfl)⟩
end Go.Proofs.Ytdjfdpmfpnbpjaa.Opy
