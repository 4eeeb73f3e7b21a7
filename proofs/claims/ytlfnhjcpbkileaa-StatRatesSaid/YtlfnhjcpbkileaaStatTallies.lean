/- Contracts of layer 2: two tallies as one; and what every law of the layer asks for first. No condition. -/
import Derived.Test.YtlfnhjcpbkileaaStatWalks
import Derived.Laws.StructEq
namespace Go.Proofs.Ytlfnhjcpbkileaa.Fl
open Go.ChangeShapes Go.WideShapes Go.ChangeAt Go.RowKit

set_option maxHeartbeats 400000 in
theorem add_c (a b c d : Int) (w : World) :
    Calls Try.prog 20 #[.agg #[.int .i64 a, .int .i64 b], .agg #[.int .i64 c, .int .i64 d]] w fun e w' => e = .returned (.agg #[.int .i64 (wrap64 (a + c)), .int .i64 (wrap64 (b + d))]) ∧ Below w.heap.size w w' := by
  go_enter Try.func20, Try.ntmps20
  go_wp2
  exact bodyPost_ret (v := .agg #[.int .i64 (wrap64 (a + c)), .int .i64 (wrap64 (b + d))]) (by simp [results, Try.results20, go_sem]) rfl ⟨rfl, ((((Below.refl _ _).alloc (Nat.le_refl _) _).alloc (by simp) _).alloc (by simp; omega) _)⟩
theorem eqTally (a b c d : Int) (w : World) : (Op.equalIn 10000 25 (.agg #[.int .i64 a, .int .i64 b]) (.agg #[.int .i64 c, .int .i64 d])).run Try.prog w = .ok (a == c && b == d) w := by
  have u3 := Try.underlying2
  have a3 := Try.isAgg2
  have z3 := Try.sizeOf2
  have hS : Try.prog.underlying 25 = some (.struct (Try.prog.fieldsOf 25)) := by kernel_rfl
  have hp : Try.prog.stoodInHeld 25 = false := by kernel_rfl
  rw [show (10000 : Nat) = 9999 + 1 from rfl, run_equalIn_agg w 9999 25 _ _ hS hp]
  simp only [Program.fieldsOf, Try.underlying25]
  go_simp
  by_cases h1 : a = c <;> by_cases h2 : b = d <;> simp [h1, h2]
theorem third : floatBits .quo .f64 (floatOfInt .f64 1) (floatOfInt .f64 3) = some 4599676419421066581 := by decide +kernel
theorem perMil_third : perMil 4599676419421066581 = 333 := by decide +kernel
theorem order_01 : orderV 0 4607182418800017408 = -1 := by decide +kernel
set_option maxHeartbeats 1000000 in
theorem awake_c (w : World) :
    Calls Try.prog 10 #[] w fun e w' => e = .returned (.bool true) ∧ Below w.heap.size w w' := by
  have hp := perMil_third
  have ho := order_01
  have he := eqTally
  have hw : wrap64 1 = 1 := by decide +kernel
  go_enter Try.func10, Try.ntmps10
  go_wp2_with fail
  refine (rate_c 3 1 _).mono ?_
  rintro e w1 ⟨r, rfl, hr, _, hb1⟩
  obtain rfl : r = 4599676419421066581 := by
    rcases hr with hr | ⟨hr, _⟩
    · rw [third] at hr; exact (Option.some_inj.1 hr).symm
    · rw [third] at hr; cases hr
  clear hr
  go_wp2_with fail
  refine (perMille_c 4599676419421066581 (by omega) _).mono ?_
  rintro e w2 ⟨rfl, rfl⟩
  go_wp2_with fail
  refine (order_c 0 4607182418800017408 (by omega) (by omega) _).mono ?_
  rintro e w2 ⟨rfl, rfl⟩
  go_wp2_with fail
  refine (add_c 1 0 0 1 _).mono ?_
  rintro e w2 ⟨rfl, hb2⟩
  go_wp2_with fail
  go_ret
  exact ⟨rfl, hb1.trans (hb2.mono hb1.size)⟩
end Go.Proofs.Ytlfnhjcpbkileaa.Fl
