/- Layer 15: the bucket of a key, by the program and by the document; what an entry gives to its bucket's sum. No condition but that keys and values have fewer than 2^40 bytes. -/
import Derived.Test.YteopkdmlcjndcaaDoorMixWalks
import Derived.Test.YteopkdmlcjndcaaDoorWireEnc
import Derived.Test.YteopkdmlcjndcaaDoorRegion
import Derived.Lib.Hide
import Derived.BigQuiet
namespace Go.Proofs.YteopkdmlcjndcaaDoor.Bucky
open Go.ChangeShapes Go.WideShapes Go.ChangeAt Go.RowKit
open Wirey Regy

abbrev Bs := List UInt8
abbrev ET : TypeId := 32
/-- A key's bucket. -/
def bkt (s : Bs) : Nat := Mixy.mix (Mixy.spot (Mixy.text 0 s) 0) * 16 / 18446744073709551616
theorem bkt_lt (s : Bs) : bkt s < 16 := Mixy.place_lt _ 16 (Mixy.mix_lt _) (by decide)
theorem bkt_k : bkt [107] = 5 := by decide +kernel

theorem bof_c (s : Bs) (hl : s.length ≤ maxLen) (w : World) :
    Calls Tryd.prog 6 #[.string (str s)] w fun e w' => e = .returned (.int .i64 (bkt s : Int)) ∧ w = w' := by
  have h1 : Calls Tryd.prog 11 #[.int .u64 0, .string (str s)] w fun e w' => e = .returned (.int .u64 (Mixy.text 0 s : Int)) ∧ w = w' := Mixy.of_c 0 (by decide) (str s) (by rw [str_size]; exact hl) w
  have h2 : Calls Tryd.prog 10 #[.int .u64 (Mixy.text 0 s : Int), .int .i64 0, .int .i64 16] w fun e w' => e = .returned (.int .i64 (bkt s : Int)) ∧ w = w' := Mixy.place_yes (Mixy.text 0 s) 0 16 (by decide) (by decide) w
  generalize bkt s = b at *
  generalize Mixy.text 0 s = t at *
  go_enter Tryd.func6, Tryd.ntmps6
  go_wp2_with fail
  refine h1.mono ?_
  rintro e w' ⟨rfl, rfl⟩
  go_wp2_with fail
  refine h2.mono ?_
  rintro e w' ⟨rfl, rfl⟩
  go_wp2_with fail
  go_ret
  exact ⟨rfl, rfl⟩
theorem lof_c (s : Bs) (hl : s.length ≤ maxLen) (w : World) :
    Calls Tryd.prog 7 #[.string (str s)] w fun e w' => e = .returned (.int .i64 (bkt s : Int)) ∧ w = w' := by
  have h1 : Calls Tryd.prog 13 #[.int .u64 0, .string (str s)] w fun e w' => e = .returned (.int .u64 (Mixy.text 0 s : Int)) ∧ w = w' := Mixy.refof_c 0 (by decide) (str s) (by rw [str_size]; exact hl) w
  have h2 : Calls Tryd.prog 12 #[.int .u64 (Mixy.text 0 s : Int), .int .i64 0, .int .i64 16] w fun e w' => e = .returned (.int .i64 (bkt s : Int)) ∧ w = w' := Mixy.refplace_yes (Mixy.text 0 s) 0 16 (by decide) (by decide) w
  generalize bkt s = b at *
  generalize Mixy.text 0 s = t at *
  go_enter Tryd.func7, Tryd.ntmps7
  go_wp2_with fail
  refine h1.mono ?_
  rintro e w' ⟨rfl, rfl⟩
  go_wp2_with fail
  refine h2.mono ?_
  rintro e w' ⟨rfl, rfl⟩
  go_wp2_with fail
  go_ret
  exact ⟨rfl, rfl⟩
end Go.Proofs.YteopkdmlcjndcaaDoor.Bucky
