/- Contracts of the document's own answers of layer 4 (blake): a word turned, the words with which all begins, the orders, a block's words. -/
import Derived.Test.YtccaomaobokldaaDoorKit
import Derived.Test.YtccaomaobokldaaDoorMem
import Derived.Test.YtccaomaobokldaaDoorBlakeMath
import Derived.Laws.BitsAllLaws
import Derived.Lib.Hide
import Derived.RegionTactic
import Derived.Deep.RegionWith
import Derived.Deep.DeepCutAuto
namespace Go.Proofs.YtccaomaobokldaaDoor.Wirey
open Go.ChangeShapes Go.WideShapes Go.ChangeAt Go.RowKit

/-- A row's words as values. -/
def u32s (l : List Nat) : List Value := l.map fun (n : Nat) => Value.int .u32 (n : Int)
theorem u32s_len (l : List Nat) : (u32s l).length = l.length := by simp [u32s]
theorem u32s_at {l : List Nat} {i : Nat} (h : i < l.length) : (u32s l)[i]? = some (.int .u32 (nat_ l i : Int)) := by
  unfold u32s nat_
  rw [List.getElem?_map, List.getElem?_eq_getElem h, List.getD_eq_getElem?_getD, List.getElem?_eq_getElem h]; rfl
theorem u32s_set (l : List Nat) (i x : Nat) : (u32s l).set i (.int .u32 (x : Int)) = u32s (l.set i x) := by
  unfold u32s; rw [List.map_set]
/-- The words of a row, in block g. -/
abbrev Words (w : World) (g : Nat) (l : List Nat) : Prop := Row w g (u32s l)
theorem Row.word {w : World} {g : Nat} {l : List Nat} (h : Row w g (u32s l)) {i : Nat} (hi : i < l.length) : w.cell? ⟨g, i, none⟩ = some (.int .u32 (nat_ l i : Int)) := h.cell i _ (u32s_at hi)
theorem Row.wfree {w : World} {g : Nat} {l : List Nat} (h : Row w g (u32s l)) {i : Nat} (hi : i < l.length) : w.frozen? ⟨g, i, none⟩ = false := h.free i (by rw [u32s_len]; exact hi)
theorem Row.wput {w : World} {g : Nat} {l : List Nat} (h : Row w g (u32s l)) {i : Nat} (hi : i < l.length) (x : Nat) : Row (w.setCell ⟨g, i, none⟩ (.int .u32 (x : Int))) g (u32s (l.set i x)) := by
  have := h.put (i := i) (by rw [u32s_len]; exact hi) (.int .u32 (x : Int))
  rw [u32s_set] at this; exact this

theorem rot_bits (n k : Nat) (hn : n < 4294967296) : bits .or .u32 ((n : Int) / 2 ^ k) ((n : Int) * 2 ^ (32 - k) % 4294967296) = (rot n k : Int) := by
  have h := u32_or_nat (n / 2 ^ k) (n * 2 ^ (32 - k) % 4294967296) (Nat.lt_of_le_of_lt (Nat.div_le_self _ _) hn) (Nat.mod_lt _ (by omega))
  rw [show ((n / 2 ^ k : Nat) : Int) = (n : Int) / 2 ^ k by simp, show ((n * 2 ^ (32 - k) % 4294967296 : Nat) : Int) = (n : Int) * 2 ^ (32 - k) % 4294967296 by simp] at h
  exact h
set_option maxHeartbeats 1000000 in
theorem turn_c (n k : Nat) (hn : n < 4294967296) (h1 : 1 ≤ k) (h2 : k ≤ 31) (w : World) :
    Calls Tryd.prog 33 #[.int .u32 (n : Int), .int .u64 (k : Int)] w fun e w' => e = .returned (.int .u32 (rot n k : Int)) ∧ w = w' := by
  have h := Lib.hid (rot_bits n k hn)
  go_enter Tryd.func33, Tryd.ntmps33
  go_wp2
  go_ret
  refine ⟨?_, rfl⟩
  show Ending.returned (.int .u32 (bits BinOp.or IntKind.u32 ((n : Int) / 2 ^ k) ((n : Int) * 2 ^ (32 - k) % 4294967296))) = _
  rw [h.out]

/-- The slice of all of a block's cells. -/
def sl (g n : Nat) : Value := .slice (some ⟨g, 0, none⟩) n n
set_option maxHeartbeats 1000000 in
theorem begin_c (w : World) :
    Calls Tryd.prog 21 #[] w fun e w' => e = .returned (sl w.heap.size 8) ∧ Row w' w.heap.size (u32s ivs) ∧ Below w.heap.size w w' := by
  go_enter Tryd.func21, Tryd.ntmps21
  go_wp2
  go_ret
  exact ⟨rfl, Row.of_blk (Blk.new _ _ _), (Below.refl _ _).alloc (Nat.le_refl _) _⟩

/-- The number of a digit. -/
def dig (c : Nat) : Nat := if c ≤ 57 then c - 48 else c - 87
set_option maxHeartbeats 1000000 in
theorem digit_c (c : Nat) (h1 : 48 ≤ c) (h2 : 57 < c → 97 ≤ c) (h3 : c < 256) (w : World) :
    Calls Tryd.prog 32 #[.int .u8 (c : Int)] w fun e w' => e = .returned (.int .i64 (dig c : Int)) ∧ w = w' := by
  by_cases h : c ≤ 57
  · have hd : Hid ((dig c : Int) = (c : Int) - 48) := Lib.hid (by unfold dig; rw [if_pos h]; omega)
    go_enter Tryd.func32, Tryd.ntmps32
    go_wp2
    go_ret
    refine ⟨?_, rfl⟩
    rw [hd.out]; rfl
  · have hd : Hid ((dig c : Int) = (c : Int) - 97 + 10) := Lib.hid (by unfold dig; rw [if_neg h]; omega)
    have h4 := h2 (by omega)
    clear h2
    go_enter Tryd.func32, Tryd.ntmps32
    go_wp2
    go_ret
    refine ⟨?_, rfl⟩
    rw [hd.out]; rfl

/-- The orders as texts. -/
def ordT : List (List UInt8) := [[48, 49, 50, 51, 52, 53, 54, 55, 56, 57, 97, 98, 99, 100, 101, 102], [101, 97, 52, 56, 57, 102, 100, 54, 49, 99, 48, 50, 98, 55, 53, 51], [98, 56, 99, 48, 53, 50, 102, 100, 97, 101, 51, 54, 55, 49, 57, 52], [55, 57, 51, 49, 100, 99, 98, 101, 50, 54, 53, 97, 52, 48, 102, 56], [57, 48, 53, 55, 50, 52, 97, 102, 101, 49, 98, 99, 54, 56, 51, 100], [50, 99, 54, 97, 48, 98, 56, 51, 52, 100, 55, 53, 102, 101, 49, 57], [99, 53, 49, 102, 101, 100, 52, 97, 48, 55, 54, 51, 57, 50, 56, 98], [100, 98, 55, 101, 99, 49, 51, 57, 53, 48, 102, 52, 56, 54, 50, 97], [54, 102, 101, 57, 98, 51, 48, 56, 99, 50, 100, 55, 49, 52, 97, 53], [97, 50, 56, 52, 55, 54, 49, 53, 102, 98, 57, 101, 51, 99, 100, 48]]
def ordS (r : Nat) : List UInt8 := ordT.getD r []
theorem ordS_facts {r : Nat} (hr : r < 10) : (ordS r).length = 16 ∧ ∀ j, j < 16 → 48 ≤ ((ordS r).getD j 0).toNat ∧ (57 < ((ordS r).getD j 0).toNat → 97 ≤ ((ordS r).getD j 0).toNat) ∧ dig ((ordS r).getD j 0).toNat = ord r j := by
  have h : ∀ r : Fin 10, (ordS r.val).length = 16 ∧ ∀ j : Fin 16, 48 ≤ ((ordS r.val).getD j.val 0).toNat ∧ (57 < ((ordS r.val).getD j.val 0).toNat → 97 ≤ ((ordS r.val).getD j.val 0).toNat) ∧ dig ((ordS r.val).getD j.val 0).toNat = ord r.val j.val := by decide +kernel
  exact ⟨(h ⟨r, hr⟩).1, fun j hj => (h ⟨r, hr⟩).2 ⟨j, hj⟩⟩
set_option maxHeartbeats 1000000 in
theorem orders_c (w : World) :
    Calls Tryd.prog 31 #[] w fun e w' => e = .returned (sl w.heap.size 10) ∧ Row w' w.heap.size (ordT.map fun l => Value.string (str l)) ∧ Below w.heap.size w w' := by
  go_enter Tryd.func31, Tryd.ntmps31
  go_wp2
  go_ret
  exact ⟨rfl, Row.of_blk (Blk.new _ _ _), (Below.refl _ _).alloc (Nat.le_refl _) _⟩

/-- A text's bytes as values. -/
def u8s (l : List UInt8) : List Value := l.map fun (c : UInt8) => Value.int .u8 (c.toNat : Int)
theorem u8s_len (l : List UInt8) : (u8s l).length = l.length := by simp [u8s]
theorem u8s_at {l : List UInt8} {i : Nat} (h : i < l.length) : (u8s l)[i]? = some (.int .u8 (nat_ (nums l) i : Int)) := by
  unfold u8s nat_ nums
  rw [List.getElem?_map, List.getElem?_eq_getElem h, List.getD_eq_getElem?_getD, List.getElem?_map, List.getElem?_eq_getElem h]; rfl

theorem acc_wrap (a c t : Nat) (h : a + c * 256 ^ t < 4294967296) : ((a : Int) + (c : Int) * 2 ^ (t * 8)) % 4294967296 = ((a + c * 256 ^ t : Nat) : Int) := by
  have e : (c : Int) * 2 ^ (t * 8) = ((c * 256 ^ t : Nat) : Int) := by
    rw [show (256 : Nat) = 2 ^ 8 from rfl, ← Nat.pow_mul, Nat.mul_comm t 8]; simp
  rw [e]; omega
theorem make16 (w : World) : (Instr.makeSlice 53 (.int .i64 16) (.int .i64 16)).run Tryd.prog w = .ok (.slice (some ⟨w.heap.size, 0, none⟩) 16 16) (w.alloc (.cells (u32s (List.replicate 16 0)).toArray 55)) := by kernel_rfl
theorem make8 (w : World) : (Instr.makeSlice 53 (.int .i64 8) (.int .i64 8)).run Tryd.prog w = .ok (.slice (some ⟨w.heap.size, 0, none⟩) 8 8) (w.alloc (.cells (u32s (List.replicate 8 0)).toArray 55)) := by kernel_rfl
theorem make64 (w : World) : (Instr.makeSlice 42 (.int .i64 64) (.int .i64 64)).run Tryd.prog w = .ok (.slice (some ⟨w.heap.size, 0, none⟩) 64 64) (w.alloc (.cells (u8s (List.replicate 64 0)).toArray 5)) := by kernel_rfl
theorem make32 (w : World) : (Instr.makeSlice 42 (.int .i64 32) (.int .i64 32)).run Tryd.prog w = .ok (.slice (some ⟨w.heap.size, 0, none⟩) 32 32) (w.alloc (.cells (u8s (List.replicate 32 0)).toArray 5)) := by kernel_rfl
set_option maxHeartbeats 4000000 in
set_option maxRecDepth 100000 in
theorem words_c {g : Nat} {l : List UInt8} (hl : l.length = 64) (w : World) (hp : Row w g (u8s l)) :
    Calls Tryd.prog 23 #[sl g 64] w fun e w' => e = .returned (sl w.heap.size 16) ∧ Row w' w.heap.size (u32s (wds (nums l))) ∧ Below w.heap.size w w' := by
  have hg := hp.lt
  go_enter Tryd.func23, Tryd.ntmps23
  unfold sl
  have hm := make16 w
  go_wp2
  go_loopw [4] (fun i wr => ∃ k : Nat, k ≤ 64 ∧ i = .int .i64 k ∧ Row wr w.heap.size (u32s (wacc (nums l) k)) ∧ Row wr g (u8s l) ∧ Below w.heap.size w wr) (fun i _ => 64 - (intOf i).toNat)
  case atStart => exact ⟨0, by omega, rfl, Row.of_blk (Blk.new _ _ _), hp.alloc _, (Below.refl _ _).alloc (Nat.le_refl _) _⟩
  case round =>
    obtain ⟨k, hk, rfl, hO, hP, hW⟩ := hrel
    by_cases hlt : k < 64
    · have c0 := hO.word (i := k / 4) (by rw [wacc_len]; omega)
      have f0 := hO.wfree (i := k / 4) (by rw [wacc_len]; omega)
      have c1 := hP.cell k _ (u8s_at (by omega))
      have b1 := nums_lt l k
      have hs := wacc_step (p := nums l) (nums_lt l) hlt
      have e := Lib.hid (acc_wrap (nat_ (wacc (nums l) k) (k / 4)) (nat_ (nums l) k) (k % 4) hs)
      have hO2 := Lib.hid (hO.wput (i := k / 4) (by rw [wacc_len]; omega) (nat_ (wacc (nums l) k) (k / 4) + nat_ (nums l) k * 256 ^ (k % 4)))
      clear hs
      go_wp2
      go_region
      rw [e.out]
      have hP2 := hP.far (p := ⟨w.heap.size, k / 4, none⟩) (by show g ≠ w.heap.size; omega) (.int .u32 ((nat_ (wacc (nums l) k) (k / 4) + nat_ (nums l) k * 256 ^ (k % 4) : Nat) : Int))
      have hW2 := hW.setCell (p := ⟨w.heap.size, k / 4, none⟩) (Nat.le_refl _) (.int .u32 ((nat_ (wacc (nums l) k) (k / 4) + nat_ (nums l) k * 256 ^ (k % 4) : Nat) : Int))
      have hO2 := hO2.out.drew
      have hP2 := hP2.drew
      have hW2 := hW2.drew
      generalize (wr.setCell ⟨w.heap.size, k / 4, none⟩ (Value.int IntKind.u32 ((nat_ (wacc (nums l) k) (k / 4) + nat_ (nums l) k * 256 ^ (k % 4) : Nat) : Int))).drew = wn at hO2 hP2 hW2 ⊢
      clear hO hP hW c0 f0 c1 b1
      go_wp2
      go_roundw
      case rel => exact ⟨k + 1, by omega, by go_num, hO2, hP2, hW2⟩
      case measure => simp [intOf]; omega
    · obtain rfl : k = 64 := by omega
      rw [wacc_all] at hO
      go_wp2
      go_ret
      exact ⟨rfl, hO, hW⟩
end Go.Proofs.YtccaomaobokldaaDoor.Wirey
