/- Contracts of the document's own reader of bytes (layer 3): bytes, what must be so, the end; over every state of it. Nothing that was there turns. -/
import Derived.Test.YtmoammadibepkaaDoorWireAwake
namespace Go.Proofs.YtmoammadibepkaaDoor.Wirey
open Go.ChangeShapes Go.WideShapes Go.ChangeAt Go.RowKit

/-- Bytes of which some were taken, and the first error. -/
def atV (l : List UInt8) (e : Nat) : Value := .agg #[.string (str l), .int .i64 (e : Int)]
set_option maxHeartbeats 4000000 in
theorem abytes_ok {l : List UInt8} (n : Nat) (hn : n ≤ l.length) (w : World) :
    Calls Tryd.prog 39 #[atV l 0, .int .i64 (n : Int)] w fun e w' => e = .returned (.tuple #[atV (l.drop n) 0, .string (str (l.take n))]) ∧ Below w.heap.size w w' := by
  have hsz := str_size
  have hx := str_drop l n
  have hy := str_take l n
  unfold atV
  go_enter Tryd.func39, Tryd.ntmps39
  go_wp2_with fail
  go_region
  go_wp2_with fail
  refine bodyPost_ret (v := .tuple #[.agg #[.string (str (l.drop n)), .int .i64 0], .string (str (l.take n))]) (by simp [results, Tryd.results39, go_sem]) rfl ⟨rfl, ?_⟩
  exact (((Below.refl _ w).alloc (Nat.le_refl _) _).alloc (by simp) _).drew
set_option maxHeartbeats 4000000 in
theorem abytes_short {l : List UInt8} (n : Int) (hn : n < 0 ∨ (l.length : Int) < n) (w : World) :
    Calls Tryd.prog 39 #[atV l 0, .int .i64 n] w fun e w' => e = .returned (.tuple #[atV l 4, .string (str [])]) ∧ Below w.heap.size w w' := by
  have hsz := str_size
  unfold atV
  by_cases h0 : n < 0
  · clear hn
    go_enter Tryd.func39, Tryd.ntmps39
    go_wp2_with fail
    refine bodyPost_ret (v := .tuple #[.agg #[.string (str l), .int .i64 4], .string (str [])]) (by simp [results, Tryd.results39, go_sem]; rfl) rfl ⟨rfl, ?_⟩
    exact ((Below.refl _ w).alloc (Nat.le_refl _) _).alloc (by simp) _
  · have h1 : (l.length : Int) < n := by omega
    clear hn
    go_enter Tryd.func39, Tryd.ntmps39
    go_wp2_with fail
    refine bodyPost_ret (v := .tuple #[.agg #[.string (str l), .int .i64 4], .string (str [])]) (by simp [results, Tryd.results39, go_sem]; rfl) rfl ⟨rfl, ?_⟩
    exact ((Below.refl _ w).alloc (Nat.le_refl _) _).alloc (by simp) _
set_option maxHeartbeats 4000000 in
theorem abytes_err {l : List UInt8} (n : Int) (e0 : Nat) (he : e0 ≠ 0) (w : World) :
    Calls Tryd.prog 39 #[atV l e0, .int .i64 n] w fun e w' => e = .returned (.tuple #[atV l e0, .string (str [])]) ∧ Below w.heap.size w w' := by
  have hsz := str_size
  have hn1 : ((e0 : Int) != 0) = true := by rw [bne_iff_ne]; omega
  have hn2 : ((e0 : Int) == 0) = false := by rw [beq_eq_false_iff_ne]; omega
  clear he
  unfold atV
  go_enter Tryd.func39, Tryd.ntmps39
  go_wp2_with fail
  refine bodyPost_ret (v := .tuple #[.agg #[.string (str l), .int .i64 (e0 : Int)], .string (str [])]) (by simp [results, Tryd.results39, go_sem]; rfl) rfl ⟨rfl, ?_⟩
  exact ((Below.refl _ w).alloc (Nat.le_refl _) _).alloc (by simp) _
set_option maxHeartbeats 4000000 in
theorem amust_ok {l : List UInt8} (w : World) :
    Calls Tryd.prog 40 #[atV l 0, .bool true] w fun e w' => e = .returned (atV l 0) ∧ Below w.heap.size w w' := by
  unfold atV
  go_enter Tryd.func40, Tryd.ntmps40
  go_wp2_with fail
  refine bodyPost_ret (v := .agg #[.string (str l), .int .i64 0]) (by simp [results, Tryd.results40, go_sem]) rfl ⟨rfl, ?_⟩
  exact ((Below.refl _ w).alloc (Nat.le_refl _) _).alloc (by simp) _
set_option maxHeartbeats 4000000 in
theorem amust_no {l : List UInt8} (w : World) :
    Calls Tryd.prog 40 #[atV l 0, .bool false] w fun e w' => e = .returned (atV l 6) ∧ Below w.heap.size w w' := by
  unfold atV
  go_enter Tryd.func40, Tryd.ntmps40
  go_wp2_with fail
  refine bodyPost_ret (v := .agg #[.string (str l), .int .i64 6]) (by simp [results, Tryd.results40, go_sem]) rfl ⟨rfl, ?_⟩
  exact ((Below.refl _ w).alloc (Nat.le_refl _) _).alloc (by simp) _
set_option maxHeartbeats 4000000 in
theorem amust_err {l : List UInt8} (b : Bool) (e0 : Nat) (he : e0 ≠ 0) (w : World) :
    Calls Tryd.prog 40 #[atV l e0, .bool b] w fun e w' => e = .returned (atV l e0) ∧ Below w.heap.size w w' := by
  have hn2 : ((e0 : Int) == 0) = false := by rw [beq_eq_false_iff_ne]; omega
  clear he
  unfold atV
  go_enter Tryd.func40, Tryd.ntmps40
  go_wp2_with fail
  refine bodyPost_ret (v := .agg #[.string (str l), .int .i64 (e0 : Int)]) (by simp [results, Tryd.results40, go_sem]) rfl ⟨rfl, ?_⟩
  exact ((Below.refl _ w).alloc (Nat.le_refl _) _).alloc (by simp) _
set_option maxHeartbeats 4000000 in
theorem aend_ok {l : List UInt8} (w : World) :
    Calls Tryd.prog 17 #[atV l 0] w fun e w' => e = .returned (.int .i64 (endE l : Int)) ∧ Below w.heap.size w w' := by
  have htl := toList_str
  have hes : ByteArray.mk #[] = str [] := rfl
  unfold atV
  by_cases h : l = []
  · subst h
    rw [endE_nil]
    go_enter Tryd.func17, Tryd.ntmps17
    go_wp2_with fail
    go_ret
    exact ⟨rfl, (Below.refl _ w).alloc (Nat.le_refl _) _⟩
  · rw [endE_some h]
    have h1 : l.isEmpty = false := by cases l; exact absurd rfl h; rfl
    go_enter Tryd.func17, Tryd.ntmps17
    go_wp2_with fail
    go_ret
    exact ⟨rfl, (Below.refl _ w).alloc (Nat.le_refl _) _⟩
set_option maxHeartbeats 4000000 in
theorem aend_err {l : List UInt8} (e0 : Nat) (he : e0 ≠ 0) (w : World) :
    Calls Tryd.prog 17 #[atV l e0] w fun e w' => e = .returned (.int .i64 (e0 : Int)) ∧ Below w.heap.size w w' := by
  have hn2 : ((e0 : Int) == 0) = false := by rw [beq_eq_false_iff_ne]; omega
  clear he
  unfold atV
  go_enter Tryd.func17, Tryd.ntmps17
  go_wp2_with fail
  go_ret
  exact ⟨rfl, (Below.refl _ w).alloc (Nat.le_refl _) _⟩
end Go.Proofs.YtmoammadibepkaaDoor.Wirey
