/- The contract of the document's own sum of bytes of layer 4 (blake). Texts of fewer than 2^40 bytes. Nothing that was there turns. -/
import Derived.Test.YteopkdmlcjndcaaDoorBlakeBlk
import Derived.Lib.BufferWrite
import Derived.Laws.IdiomStrings
import Derived.Laws.CopyOwn
namespace Go.Proofs.YteopkdmlcjndcaaDoor.Wirey
open Go.ChangeShapes Go.WideShapes Go.ChangeAt Go.RowKit

/-- A text's bytes in new memory. -/
theorem bytes_row {w : World} {l : List UInt8} {c lo hi : Nat} {e : TypeId} (hlo : l.length ≤ lo) : Row (w.drew.alloc (.cells (bytesRow (str l) c) e (lo, hi))) w.heap.size (u8s l) := by
  have hh : (w.drew.alloc (.cells (bytesRow (str l) c) e (lo, hi))).heap[w.heap.size]? = some (.cells (bytesRow (str l) c) e (lo, hi)) := by
    show (w.heap.push _)[w.heap.size]? = _
    simp
  refine ⟨by simp, fun i u hu => ?_, fun i hil => ?_⟩
  · have hi : i < l.length := by
      rcases Nat.lt_or_ge i l.length with h | h
      · exact h
      · rw [List.getElem?_eq_none (by rw [u8s_len]; exact h)] at hu; cases hu
    rw [cell_of_row _ _ _ _ _ _ hh]
    unfold bytesRow
    rw [Array.getElem?_append_left (by simpa [str] using hi)]
    rw [← hu]
    unfold u8s str
    simp
  · rw [u8s_len] at hil
    unfold World.frozen?
    show (match (w.drew.alloc (.cells (bytesRow (str l) c) e (lo, hi))).heap[w.heap.size]? with | some (.cells _ _ (lo, hi)) => decide (lo ≤ i) && decide (i < hi) | _ => false) = false
    rw [hh]
    simp
    omega
theorem str_cut (l : List UInt8) (n k : Nat) : (str l).extract n (n + k) = str ((l.drop n).take k) := by
  apply ByteArray.ext
  simp [str, ByteArray.data_extract]
theorem str_slice {l : List UInt8} {a b : Nat} (h1 : a ≤ b) (h2 : b ≤ l.length) (i j : Int) (hi : i = (a : Int)) (hj : j = (b : Int)) (w : World) :
    (Instr.slice 9 (.string (str l)) (some (.int .i64 i)) (some (.int .i64 j)) none).run Tryd.prog w = .ok (.string ((str l).extract a b)) w := by
  subst hi hj
  have := str_size l
  rw [run_slice_string (P := Tryd.prog) (w := w) 9 (str l) .i64 .i64 (a : Int) (b : Int) Tryd.underlying9 (by omega) (by omega) (by omega)]
  simp
/-- Cells that hold noughts. -/
def noughts (n : Nat) : Array Value := (u8s (List.replicate n 0)).toArray
theorem noughts_list (n : Nat) : (noughts n).toList = List.replicate n (.int .u8 0) := by unfold noughts u8s; rw [List.map_replicate]; rfl
theorem make64n (w : World) : (Instr.makeSlice 37 (.int .i64 64) (.int .i64 64)).run Tryd.prog w = .ok (.slice (some ⟨w.heap.size, 0, none⟩) 64 64) (w.alloc (.cells (noughts 64) 5)) := make64 w
theorem make32n (w : World) : (Instr.makeSlice 37 (.int .i64 32) (.int .i64 32)).run Tryd.prog w = .ok (.slice (some ⟨w.heap.size, 0, none⟩) 32 32) (w.alloc (.cells (noughts 32) 5)) := make32 w
theorem u8_size : (Tryd.prog.info? 5).map (·.size) = some 1 := by kernel_rfl
/-- A text is laid into a block's bytes: noughts stay behind. -/
theorem copy_pad {d : List UInt8} (hd : d.length ≤ 64) (w : World) :
    ∃ wp, (Builtin.copy_ #[37, 9] 3 #[.slice (some ⟨w.heap.size, 0, none⟩) 64 64, .string (str d)]).run Tryd.prog (w.alloc (.cells (noughts 64) 5)) = .ok (.int .i64 (d.length : Int)) wp ∧ Row wp w.heap.size (u8s (pad d)) ∧ Below w.heap.size w wp := by
  have hnew : (w.alloc (.cells (noughts 64) 5)).heap[w.heap.size]? = some (.cells (noughts 64) 5 (0, 0)) := heap_alloc_new w _
  have hsz : (noughts 64).size = 64 := by simp [noughts, u8s]
  have h := Lib.run_copy_row_string (P := Tryd.prog) (w.alloc (.cells (noughts 64) 5)) 37 9 3 5 w.heap.size 0 64 64 (str d) (noughts 64) 5 Tryd.underlying37 u8_size hnew (by rw [str_size]; exact hd) (by rw [hsz, str_size]; omega)
  rw [str_size] at h
  refine ⟨_, h, ?_, below_setRow ((Below.refl _ _).alloc (Nat.le_refl _) _) (Nat.le_refl _) _⟩
  have hb := setRow_heap _ _ _ ((noughts 64).toList.take 0 ++ Lib.byteCells (str d).data.toList ++ (noughts 64).toList.drop (0 + d.length)).toArray _ _ hnew
  have := Row.of_blk hb
  have e : ((noughts 64).toList.take 0 ++ Lib.byteCells (str d).data.toList ++ (noughts 64).toList.drop (0 + d.length)).toArray.toList = u8s (pad d) := by
    rw [List.take_zero, List.nil_append, Nat.zero_add]
    rw [noughts_list, List.drop_replicate]
    unfold pad u8s str Lib.byteCells
    rw [List.map_append, List.map_replicate]
    rfl
  rw [e] at this
  exact this
theorem u8s_set (l : List UInt8) (i : Nat) (x : Nat) (hx : x < 256) : (u8s l).set i (.int .u8 (x : Int)) = u8s (l.set i (UInt8.ofNat x)) := by
  unfold u8s
  rw [List.map_set, UInt8.toNat_ofNat', Nat.mod_eq_of_lt hx]
theorem bts_set (h : List Nat) {k : Nat} (hk : k < 32) : (bts h k ++ List.replicate (32 - k) 0).set k (UInt8.ofNat (nat_ h (k / 4) / 256 ^ (k % 4) % 256)) = bts h (k + 1) ++ List.replicate (32 - (k + 1)) 0 := by
  obtain ⟨j, hj⟩ : ∃ j, 32 - k = j + 1 := ⟨31 - k, by omega⟩
  have hj2 : 32 - (k + 1) = j := by omega
  have hl := bts_len h k
  have e : UInt8.ofNat (nat_ h (k / 4) / 256 ^ (k % 4) % 256) = UInt8.ofNat (nat_ h (k / 4) / 256 ^ (k % 4)) := by
    apply UInt8.toNat_inj.1
    rw [UInt8.toNat_ofNat', UInt8.toNat_ofNat']; omega
  rw [hj, hj2, List.set_append, if_neg (by omega), hl, Nat.sub_self, List.replicate_succ, e]
  show _ = (bts h k ++ [_]) ++ _
  simp
theorem shr_byte (x t : Nat) : ((x : Int) / 2 ^ (t * 8)) % 256 = ((x / 256 ^ t % 256 : Nat) : Int) := by
  rw [show (256 : Nat) ^ t = 2 ^ (t * 8) by rw [show (256 : Nat) = 2 ^ 8 from rfl, ← Nat.pow_mul, Nat.mul_comm]]
  simp
/-- The answer of the sum. -/
def SumEnd (l : List UInt8) (w : World) (e : Ending) (w' : World) : Prop := e = .returned (.string (str (sumL l))) ∧ Below w.heap.size w w'

end Go.Proofs.YteopkdmlcjndcaaDoor.Wirey
