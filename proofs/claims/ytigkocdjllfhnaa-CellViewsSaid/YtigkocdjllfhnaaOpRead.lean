/- Layer 10: a number, and a text, taken off the bytes with which it is written. The only condition: it is no more than may be. -/
import Derived.Test.YtigkocdjllfhnaaOpMath
import Derived.Test.YtigkocdjllfhnaaWireFly
namespace Go.Proofs.Ytigkocdjllfhnaa.Opy
open Go.ChangeShapes Go.WideShapes Go.ChangeAt Go.RowKit
open Wirey (Blk Row str str_size str_list str_cat enc enc_len txt RS Kp num_ok numR_enc)

theorem num_off {R O n : Nat} {rest : List UInt8} (top : Nat) (ht : n ≤ top) (h64 : top < 18446744073709551616) (hl : (enc n ++ rest).length < 1099511627776) (w : World) (h : RS w R O (enc n ++ rest)) :
    Calls Try.prog 29 #[.pointer (some ⟨R, 0, none⟩), .int .u64 (top : Int)] w fun e w' => e = .returned (.int .u64 (n : Int)) ∧ RS w' R O rest ∧ Kp (fun k => k = R ∨ k = O) w w' := by
  have hm := num_ok top (numR_enc (n := n) (by omega) rest) ht hl w h
  rw [List.drop_left] at hm
  refine hm.mono ?_
  rintro e w' ⟨rfl, hk, hr⟩
  exact ⟨rfl, hr, Kp.of_kept (S := fun k => k = R ∨ k = O) hk (.inl rfl) (.inr rfl)⟩
end Go.Proofs.Ytigkocdjllfhnaa.Opy
