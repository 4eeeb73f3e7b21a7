/- Contracts of what a Reader takes: bytes, numbers, texts, yes or no, what must be so: what comes, what is left, or the panic and the error that is noted. -/
import Derived.Test.YtigkocdjllfhnaaWireNumb
namespace Go.Proofs.Ytigkocdjllfhnaa.Wirey
open Go.ChangeShapes Go.WideShapes Go.ChangeAt Go.RowKit

theorem u8_info : (Try.prog.info? 5).map (fun i => (i.zero, i.size, i.bytes)) = some (some (.int .u8 0), 1, 1) := by kernel_rfl

/-- It came back with v, and m is left. -/
def Took (w : World) (R O : Nat) (v : Value) (m : List UInt8) (e : Ending) (w' : World) : Prop := e = .returned v ∧ Kept w w' R O ∧ RS w' R O m
/-- It ended by the reading's panic, and error k is noted. -/
def Fell (w : World) (R O : Nat) (k : Nat) (e : Ending) (w' : World) : Prop := e = .panicked (flt O) ∧ Kept w w' R O ∧ Wrong w' O k

theorem number_l {l : List UInt8} {n k e0 : Nat} (hR : numR l = (n, k, e0)) (hl : l.length < 1099511627776) (w : World) :
    Calls Try.prog 33 #[.string (str l)] w fun e w' => e = .returned (.tuple #[.int .u64 (n : Int), .int .i64 (k : Int), .int .i64 (e0 : Int)]) ∧ w = w' := by
  have h := number_s (str l) (by rw [str_size]; unfold maxLen; omega) w
  rw [str_list, hR] at h
  exact h
set_option maxHeartbeats 2000000 in
theorem num_ok {R O : Nat} {l : List UInt8} {n k : Nat} (top : Nat) (hR : numR l = (n, k, 0)) (ht : n ≤ top) (hl : l.length < 1099511627776) (w : World) (h : RS w R O l) :
    Calls Try.prog 29 #[.pointer (some ⟨R, 0, none⟩), .int .u64 (top : Int)] w (Took w R O (.int .u64 (n : Int)) (l.drop k)) := by
  have hsz := str_size
  obtain ⟨c1, c2, c3, c4, f1, f2⟩ := h.cells
  have hx := str_drop l k
  have hk := numR_le hR
  have HR := Lib.hid hR
  clear hR
  go_enter Try.func29, Try.ntmps29
  go_wp2_with fail
  refine (rest_c _ h).mono ?_
  rintro e w' ⟨rfl, rfl⟩
  go_wp2_with fail
  refine (number_l HR.out hl _).mono ?_
  rintro e w' ⟨rfl, rfl⟩
  go_wp2_with fail
  go_ret
  exact ⟨rfl, (Kept.refl _ _ _).set (.inl rfl) _, h.move _⟩
set_option maxHeartbeats 2000000 in
theorem num_over {R O : Nat} {l : List UInt8} {n k : Nat} (top : Nat) (hR : numR l = (n, k, 0)) (ht : top < n) (hl : l.length < 1099511627776) (w : World) (h : RS w R O l) :
    Calls Try.prog 29 #[.pointer (some ⟨R, 0, none⟩), .int .u64 (top : Int)] w (Fell w R O 3) := by
  have HR := Lib.hid hR
  clear hR
  go_enter Try.func29, Try.ntmps29
  go_wp2_with fail
  refine (rest_c _ h).mono ?_
  rintro e w' ⟨rfl, rfl⟩
  go_wp2_with fail
  refine (number_l HR.out hl _).mono ?_
  rintro e w' ⟨rfl, rfl⟩
  go_wp2_with fail
  refine (fail_c 3 _ h).mono ?_
  rintro e w' ⟨rfl, hk, hw⟩
  exact ⟨rfl, rfl, hk, hw⟩
set_option maxHeartbeats 2000000 in
theorem num_bad {R O : Nat} {l : List UInt8} {n k e0 : Nat} (top : Nat) (hR : numR l = (n, k, e0)) (he : e0 ≠ 0) (hl : l.length < 1099511627776) (w : World) (h : RS w R O l) :
    Calls Try.prog 29 #[.pointer (some ⟨R, 0, none⟩), .int .u64 (top : Int)] w (Fell w R O e0) := by
  have HR := Lib.hid hR
  have hz : ((e0 : Int) == 0) = false := by rw [beq_eq_false_iff_ne]; omega
  have hz2 : ((e0 : Int) != 0) = true := by rw [bne_iff_ne]; omega
  clear hR he
  go_enter Try.func29, Try.ntmps29
  go_wp2_with fail
  refine (rest_c _ h).mono ?_
  rintro e w' ⟨rfl, rfl⟩
  go_wp2_with fail
  refine (number_l HR.out hl _).mono ?_
  rintro e w' ⟨rfl, rfl⟩
  go_wp2_with fail
  refine (fail_c e0 _ h).mono ?_
  rintro e w' ⟨rfl, hk, hw⟩
  exact ⟨rfl, rfl, hk, hw⟩

set_option maxHeartbeats 2000000 in
theorem must_ok {R : Nat} (w : World) :
    Calls Try.prog 30 #[.pointer (some ⟨R, 0, none⟩), .bool true] w fun e w' => e = .returned (.tuple #[]) ∧ w = w' := by
  go_enter Try.func30, Try.ntmps30
  go_wp2_with fail
  go_end0
  exact ⟨rfl, rfl⟩
set_option maxHeartbeats 2000000 in
theorem must_no {R O : Nat} {l : List UInt8} (w : World) (h : RS w R O l) :
    Calls Try.prog 30 #[.pointer (some ⟨R, 0, none⟩), .bool false] w (Fell w R O 6) := by
  go_enter Try.func30, Try.ntmps30
  go_wp2_with fail
  refine (fail_c 6 _ h).mono ?_
  rintro e w' ⟨rfl, hk, hw⟩
  exact ⟨rfl, rfl, hk, hw⟩
end Go.Proofs.Ytigkocdjllfhnaa.Wirey
