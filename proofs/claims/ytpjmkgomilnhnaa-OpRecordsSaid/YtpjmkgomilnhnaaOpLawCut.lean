/- Layer 10: what its laws begin with: an operation that is not too long. The only condition: no text is longer than a text may be. -/
import Derived.Test.YtpjmkgomilnhnaaOpMath
import Derived.Test.YtpjmkgomilnhnaaWireFly
namespace Go.Proofs.Ytpjmkgomilnhnaa.Opy
open Go.ChangeShapes Go.WideShapes Go.ChangeAt Go.RowKit
open Wirey (Blk Row str str_size str_list str_cat str_take enc)

def cutTo (n : Nat) (l : List UInt8) : List UInt8 := if n < l.length then l.take n else l
theorem cutTo_le (n : Nat) (l : List UInt8) : (cutTo n l).length ≤ n := by
  unfold cutTo
  split
  · rw [List.length_take]; omega
  · omega
set_option maxHeartbeats 4000000 in
set_option maxRecDepth 100000 in
theorem cut_c (k : Int) (key val : List UInt8) (t v : Int) (hk : key.length ≤ maxLen) (hv : val.length ≤ maxLen) (w : World) :
    Calls Try.prog 5 #[.agg #[.int .i64 k, .string (str key), .string (str val), .int .u64 t, .int .u64 v]] w fun e w' => e = .returned (.agg #[.int .i64 k, .string (str (cutTo 70 key)), .string (str (cutTo 4100 val)), .int .u64 t, .int .u64 v]) ∧ Below w.heap.size w w' := by
  unfold maxLen at hk hv
  have hsz := str_size
  have t1 := str_take key 70
  have t2 := str_take val 4100
  have fin : ∀ (x y : Value), Below w.heap.size w ((w.alloc (.cells #[.int .i64 k, x, y, .int .u64 t, .int .u64 v] 24)).alloc (.cells #[.int .i64 k, x, y, .int .u64 t, .int .u64 v] 24)) := fun x y => ((Below.refl _ w).alloc (Nat.le_refl _) _).alloc (by simp) _
  have bl : ∀ (x y : Value), Blk ((w.alloc (.cells #[.int .i64 k, x, y, .int .u64 t, .int .u64 v] 24)).alloc (.cells #[.int .i64 k, x, y, .int .u64 t, .int .u64 v] 24)) (w.heap.size + 1) 24 #[.int .i64 k, x, y, .int .u64 t, .int .u64 v] := fun x y => by
    have h := Blk.new (w.alloc (.cells #[.int .i64 k, x, y, .int .u64 t, .int .u64 v] 24)) 24 #[.int .i64 k, x, y, .int .u64 t, .int .u64 v]
    simpa using h
  by_cases a1 : 70 < key.length
  · have d1 : decide ((70 : Int) < (key.length : Int)) = true := decide_eq_true (by omega)
    have e1 : cutTo 70 key = key.take 70 := if_pos a1
    rw [e1]
    clear e1
    by_cases a2 : 4100 < val.length
    · have d2 : decide ((4100 : Int) < (val.length : Int)) = true := decide_eq_true (by omega)
      have e2 : cutTo 4100 val = val.take 4100 := if_pos a2
      rw [e2]
      clear e2
      go_enter Try.func5, Try.ntmps5
      go_wp2_with fail
      refine bodyPost_ret (results_cell_row rfl _ _ (w.heap.size + 1) 24 _ _ _ rfl (bl _ _) Try.underlying24 rfl (by kernel_rfl)) rfl ⟨rfl, fin _ _⟩
    · have d2 : decide ((4100 : Int) < (val.length : Int)) = false := decide_eq_false (by omega)
      have e2 : cutTo 4100 val = val := if_neg a2
      rw [e2]
      clear e2
      go_enter Try.func5, Try.ntmps5
      go_wp2_with fail
      refine bodyPost_ret (results_cell_row rfl _ _ (w.heap.size + 1) 24 _ _ _ rfl (bl _ _) Try.underlying24 rfl (by kernel_rfl)) rfl ⟨rfl, fin _ _⟩
  · have d1 : decide ((70 : Int) < (key.length : Int)) = false := decide_eq_false (by omega)
    have e1 : cutTo 70 key = key := if_neg a1
    rw [e1]
    clear e1
    by_cases a2 : 4100 < val.length
    · have d2 : decide ((4100 : Int) < (val.length : Int)) = true := decide_eq_true (by omega)
      have e2 : cutTo 4100 val = val.take 4100 := if_pos a2
      rw [e2]
      clear e2
      go_enter Try.func5, Try.ntmps5
      go_wp2_with fail
      refine bodyPost_ret (results_cell_row rfl _ _ (w.heap.size + 1) 24 _ _ _ rfl (bl _ _) Try.underlying24 rfl (by kernel_rfl)) rfl ⟨rfl, fin _ _⟩
    · have d2 : decide ((4100 : Int) < (val.length : Int)) = false := decide_eq_false (by omega)
      have e2 : cutTo 4100 val = val := if_neg a2
      rw [e2]
      clear e2
      go_enter Try.func5, Try.ntmps5
      go_wp2_with fail
      refine bodyPost_ret (results_cell_row rfl _ _ (w.heap.size + 1) 24 _ _ _ rfl (bl _ _) Try.underlying24 rfl (by kernel_rfl)) rfl ⟨rfl, fin _ _⟩
end Go.Proofs.Ytpjmkgomilnhnaa.Opy
