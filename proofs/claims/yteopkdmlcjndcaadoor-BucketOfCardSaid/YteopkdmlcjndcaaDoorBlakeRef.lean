/- Contracts of the document's own answers of layer 4 (blake): a word turned, the words with which all begins, the orders, a block's words. -/
import Derived.Test.YteopkdmlcjndcaaDoorKit
import Derived.Test.YteopkdmlcjndcaaDoorMem
import Derived.Test.YteopkdmlcjndcaaDoorBlakeMath
import Derived.Laws.BitsAllLaws
import Derived.Lib.Hide
import Derived.RegionTactic
import Derived.Deep.RegionWith
import Derived.Deep.DeepCutAuto
namespace Go.Proofs.YteopkdmlcjndcaaDoor.Wirey
open Go.ChangeShapes Go.WideShapes Go.ChangeAt Go.RowKit

/-- A row's words as values. -/
def u32s (l : List Nat) : List Value := l.map fun (n : Nat) => Value.int .u32 (n : Int)
theorem u32s_len (l : List Nat) : (u32s l).length = l.length := by simp [u32s]
theorem u32s_at {l : List Nat} {i : Nat} (h : i < l.length) : (u32s l)[i]? = some (.int .u32 (nat_ l i : Int)) := by
  unfold u32s nat_
  rw [List.getElem?_map, List.getElem?_eq_getElem h, List.getD_eq_getElem?_getD, List.getElem?_eq_getElem h]; rfl
theorem u32s_set (l : List Nat) (i x : Nat) : (u32s l).set i (.int .u32 (x : Int)) = u32s (l.set i x) := by
  unfold u32s; rw [List.map_set]
/-- The words of a row, in block g. -/
abbrev Words (w : World) (g : Nat) (l : List Nat) : Prop := Row w g (u32s l)
theorem Row.word {w : World} {g : Nat} {l : List Nat} (h : Row w g (u32s l)) {i : Nat} (hi : i < l.length) : w.cell? ⟨g, i, none⟩ = some (.int .u32 (nat_ l i : Int)) := h.cell i _ (u32s_at hi)
theorem Row.wfree {w : World} {g : Nat} {l : List Nat} (h : Row w g (u32s l)) {i : Nat} (hi : i < l.length) : w.frozen? ⟨g, i, none⟩ = false := h.free i (by rw [u32s_len]; exact hi)
theorem Row.wput {w : World} {g : Nat} {l : List Nat} (h : Row w g (u32s l)) {i : Nat} (hi : i < l.length) (x : Nat) : Row (w.setCell ⟨g, i, none⟩ (.int .u32 (x : Int))) g (u32s (l.set i x)) := by
  have := h.put (i := i) (by rw [u32s_len]; exact hi) (.int .u32 (x : Int))
  rw [u32s_set] at this; exact this

theorem rot_bits (n k : Nat) (hn : n < 4294967296) : bits .or .u32 ((n : Int) / 2 ^ k) ((n : Int) * 2 ^ (32 - k) % 4294967296) = (rot n k : Int) := by
  have h := u32_or_nat (n / 2 ^ k) (n * 2 ^ (32 - k) % 4294967296) (Nat.lt_of_le_of_lt (Nat.div_le_self _ _) hn) (Nat.mod_lt _ (by omega))
  rw [show ((n / 2 ^ k : Nat) : Int) = (n : Int) / 2 ^ k by simp, show ((n * 2 ^ (32 - k) % 4294967296 : Nat) : Int) = (n : Int) * 2 ^ (32 - k) % 4294967296 by simp] at h
  exact h
/-- The slice of all of a block's cells. -/
def sl (g n : Nat) : Value := .slice (some ⟨g, 0, none⟩) n n
/-- The number of a digit. -/
def dig (c : Nat) : Nat := if c ≤ 57 then c - 48 else c - 87
/-- The orders as texts. -/
def ordT : List (List UInt8) := [[48, 49, 50, 51, 52, 53, 54, 55, 56, 57, 97, 98, 99, 100, 101, 102], [101, 97, 52, 56, 57, 102, 100, 54, 49, 99, 48, 50, 98, 55, 53, 51], [98, 56, 99, 48, 53, 50, 102, 100, 97, 101, 51, 54, 55, 49, 57, 52], [55, 57, 51, 49, 100, 99, 98, 101, 50, 54, 53, 97, 52, 48, 102, 56], [57, 48, 53, 55, 50, 52, 97, 102, 101, 49, 98, 99, 54, 56, 51, 100], [50, 99, 54, 97, 48, 98, 56, 51, 52, 100, 55, 53, 102, 101, 49, 57], [99, 53, 49, 102, 101, 100, 52, 97, 48, 55, 54, 51, 57, 50, 56, 98], [100, 98, 55, 101, 99, 49, 51, 57, 53, 48, 102, 52, 56, 54, 50, 97], [54, 102, 101, 57, 98, 51, 48, 56, 99, 50, 100, 55, 49, 52, 97, 53], [97, 50, 56, 52, 55, 54, 49, 53, 102, 98, 57, 101, 51, 99, 100, 48]]
def ordS (r : Nat) : List UInt8 := ordT.getD r []
theorem ordS_facts {r : Nat} (hr : r < 10) : (ordS r).length = 16 ∧ ∀ j, j < 16 → 48 ≤ ((ordS r).getD j 0).toNat ∧ (57 < ((ordS r).getD j 0).toNat → 97 ≤ ((ordS r).getD j 0).toNat) ∧ dig ((ordS r).getD j 0).toNat = ord r j := by
  have h : ∀ r : Fin 10, (ordS r.val).length = 16 ∧ ∀ j : Fin 16, 48 ≤ ((ordS r.val).getD j.val 0).toNat ∧ (57 < ((ordS r.val).getD j.val 0).toNat → 97 ≤ ((ordS r.val).getD j.val 0).toNat) ∧ dig ((ordS r.val).getD j.val 0).toNat = ord r.val j.val := by decide +kernel
  exact ⟨(h ⟨r, hr⟩).1, fun j hj => (h ⟨r, hr⟩).2 ⟨j, hj⟩⟩
/-- A text's bytes as values. -/
def u8s (l : List UInt8) : List Value := l.map fun (c : UInt8) => Value.int .u8 (c.toNat : Int)
theorem u8s_len (l : List UInt8) : (u8s l).length = l.length := by simp [u8s]
theorem u8s_at {l : List UInt8} {i : Nat} (h : i < l.length) : (u8s l)[i]? = some (.int .u8 (nat_ (nums l) i : Int)) := by
  unfold u8s nat_ nums
  rw [List.getElem?_map, List.getElem?_eq_getElem h, List.getD_eq_getElem?_getD, List.getElem?_map, List.getElem?_eq_getElem h]; rfl

theorem acc_wrap (a c t : Nat) (h : a + c * 256 ^ t < 4294967296) : ((a : Int) + (c : Int) * 2 ^ (t * 8)) % 4294967296 = ((a + c * 256 ^ t : Nat) : Int) := by
  have e : (c : Int) * 2 ^ (t * 8) = ((c * 256 ^ t : Nat) : Int) := by
    rw [show (256 : Nat) = 2 ^ 8 from rfl, ← Nat.pow_mul, Nat.mul_comm t 8]; simp
  rw [e]; omega
theorem make16 (w : World) : (Instr.makeSlice 70 (.int .i64 16) (.int .i64 16)).run Tryd.prog w = .ok (.slice (some ⟨w.heap.size, 0, none⟩) 16 16) (w.alloc (.cells (u32s (List.replicate 16 0)).toArray 57)) := by kernel_rfl
theorem make8 (w : World) : (Instr.makeSlice 70 (.int .i64 8) (.int .i64 8)).run Tryd.prog w = .ok (.slice (some ⟨w.heap.size, 0, none⟩) 8 8) (w.alloc (.cells (u32s (List.replicate 8 0)).toArray 57)) := by kernel_rfl
theorem make64 (w : World) : (Instr.makeSlice 37 (.int .i64 64) (.int .i64 64)).run Tryd.prog w = .ok (.slice (some ⟨w.heap.size, 0, none⟩) 64 64) (w.alloc (.cells (u8s (List.replicate 64 0)).toArray 5)) := by kernel_rfl
theorem make32 (w : World) : (Instr.makeSlice 37 (.int .i64 32) (.int .i64 32)).run Tryd.prog w = .ok (.slice (some ⟨w.heap.size, 0, none⟩) 32 32) (w.alloc (.cells (u8s (List.replicate 32 0)).toArray 5)) := by kernel_rfl
end Go.Proofs.YteopkdmlcjndcaaDoor.Wirey
