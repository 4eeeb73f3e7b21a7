/- Contracts of layer 4's program (blake): an order as a function that keeps the block. -/
import Derived.Test.YteopkdmlcjndcaaDoorBlakeMore
import Derived.Deep.WholeRow
namespace Go.Proofs.YteopkdmlcjndcaaDoor.Wirey
open Go.ChangeShapes Go.WideShapes Go.ChangeAt Go.RowKit

theorem digit_and {r j : Nat} (hr : r < 10) (hj : j < 16) : bits BinOp.and IntKind.u64 ((nat_ ordsN r : Int) / 2 ^ (4 * (15 - j))) 15 = (ord r j : Int) := by
  have h := u64_and_nat (nat_ ordsN r / 2 ^ (4 * (15 - j))) 15 (Nat.lt_of_le_of_lt (Nat.div_le_self _ _) (ordN_lt r)) (by omega)
  rw [show (15 : Nat) = 2 ^ 4 - 1 from rfl, Nat.and_two_pow_sub_one_eq_mod] at h
  rw [show (2 : Nat) ^ 4 = 16 from rfl, ordN_digit hr hj] at h
  rw [← h]
  simp
set_option maxHeartbeats 4000000 in
set_option maxRecDepth 100000 in
/-- The block's word at a place of an order: the function that was handed back, called. -/
theorem place_c {g go r j : Nat} (hr : r < 10) (hj : j < 16) {m : List Nat} (hm : m.length = 16) (w : World) (hM : Row w g (u32s m)) (hO : w.cell? ⟨go, 0, none⟩ = some (.int .u64 (nat_ ordsN r : Int))) :
    Calls Tryd.prog 44 #[.int .i64 (j : Int), .pointer (some ⟨g, 0, none⟩), .pointer (some ⟨go, 0, none⟩)] w fun e w' => e = .returned (.int .u32 (nat_ m (ord r j) : Int)) ∧ w = w' := by
  have ho := ord_lt hr hj
  have c1 := hM.word (i := ord r j) (by omega)
  go_enter Tryd.func44, Tryd.ntmps44
  have hd := digit_and hr hj
  have ho2 : (ord r j : Int) < 16 := by omega
  go_wp2_with fail
  go_ret
  exact ⟨rfl, rfl⟩
set_option maxHeartbeats 4000000 in
theorem inOrder_c (m : List Nat) (o : Nat) (w : World) :
    Calls Tryd.prog 40 #[.agg (u32s m).toArray, .int .u64 (o : Int)] w fun e w' => e = .returned (.func (.func 44) #[] #[.pointer (some ⟨w.heap.size, 0, none⟩), .pointer (some ⟨w.heap.size + 1, 0, none⟩)]) ∧ w' = (w.alloc (.cells (u32s m).toArray 60)).alloc (.cells #[.int .u64 (o : Int)] 30) := by
  have hmf : ∀ (fn : Fn) (first cap : Array Value) (w : World), (Instr.makeFunc fn first cap).run Tryd.prog w = .ok (.func fn first cap) w := fun _ _ _ _ => rfl
  go_enter Tryd.func40, Tryd.ntmps40
  go_wp2_with fail
  go_ret
  exact ⟨rfl, rfl⟩
end Go.Proofs.YteopkdmlcjndcaaDoor.Wirey
