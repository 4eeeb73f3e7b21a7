/- Arrays by value (layer 4, blake): facts on the types, loads and stores of whole arrays. -/
import Derived.Test.YteopkdmlcjndcaaDoorBlakeSumR
import Derived.Deep.WholeRow
namespace Go.Proofs.YteopkdmlcjndcaaDoor.Wirey
open Go.ChangeShapes Go.WideShapes Go.ChangeAt Go.RowKit

theorem Row.blk {w : World} {g : Nat} {t : TypeId} {vs : List Value} (h : Blk w g t vs.toArray) : Row w g vs := Row.of_blk h
theorem below_new2 (w : World) (o1 o2 : Obj) : Below w.heap.size w ((w.alloc o1).alloc o2) := ((Below.refl _ _).alloc (Nat.le_refl _) _).alloc (by simp) _
set_option maxHeartbeats 4000000 in
set_option maxRecDepth 100000 in
theorem bytesOf_c (h : List Nat) (hl : h.length = 8) (w : World) :
    Calls Tryd.prog 32 #[.agg (u32s h).toArray] w fun e w' => e = .returned (.string (str (bts h 32))) ∧ Below w.heap.size w w' := by
  go_enter Tryd.func32, Tryd.ntmps32
  go_upto_region 3 with fail
  have hA : Row ((w.alloc (.cells (u32s h).toArray 58)).alloc (.cells (noughts 32) 76)) w.heap.size (u32s h) := (Row.blk (Blk.new w 58 (u32s h).toArray)).alloc _
  have hB : Row ((w.alloc (.cells (u32s h).toArray 58)).alloc (.cells (noughts 32) 76)) (w.heap.size + 1) (u8s (List.replicate 32 0)) := by
    have := Row.of_blk (Blk.new (w.alloc (.cells (u32s h).toArray 58)) 76 (noughts 32))
    rw [World.size_alloc] at this
    exact this
  have hW := below_new2 w (.cells (u32s h).toArray 58) (.cells (noughts 32) 76)
  change Code.wp _ _ _ _ ((w.alloc (.cells (u32s h).toArray 58)).alloc (.cells (noughts 32) 76))
  generalize (w.alloc (.cells (u32s h).toArray 58)).alloc (.cells (noughts 32) 76) = w1 at hA hB hW ⊢
  go_loopw [6] (fun iv wr => ∃ i : Nat, i ≤ 8 ∧ iv = .int .i64 i ∧ Row wr w.heap.size (u32s h) ∧ Row wr (w.heap.size + 1) (u8s (bts h (i * 4) ++ List.replicate (32 - i * 4) 0)) ∧ Below w.heap.size w wr) (fun iv _ => 8 - (intOf iv).toNat)
  case atStart => exact ⟨0, by omega, rfl, hA, hB, hW⟩
  case round =>
    clear hA hB hW
    obtain ⟨i, hi, rfl, hA, hB, hW⟩ := hrel
    by_cases hilt : i < 8
    · have hrd : decide ((i : Int) < 8) = true := by rw [decide_eq_true_eq]; omega
      go_wp2_with fail
      go_loopw [9] (fun jv wr => ∃ j : Nat, j ≤ 4 ∧ jv = .int .i64 j ∧ Row wr w.heap.size (u32s h) ∧ Row wr (w.heap.size + 1) (u8s (bts h (i * 4 + j) ++ List.replicate (32 - (i * 4 + j)) 0)) ∧ Below w.heap.size w wr) (fun jv _ => 4 - (intOf jv).toNat)
      case atStart => exact ⟨0, by omega, rfl, hA, hB, hW⟩
      case round =>
        clear hA hB hW
        obtain ⟨j, hj, rfl, h1, h2, h3⟩ := hrel
        by_cases hjlt : j < 4
        · have c1 := h1.word (i := i) (by omega)
          have hlb : (bts h (i * 4 + j) ++ List.replicate (32 - (i * 4 + j)) (0 : UInt8)).length = 32 := by rw [List.length_append, bts_len, List.length_replicate]; omega
          have c2 := h2.cell (i * 4 + j) _ (u8s_at (by omega))
          have f2 := h2.free (i * 4 + j) (by rw [u8s_len]; omega)
          have ec : (nat_ h i : Int) / 2 ^ (8 * j) % 256 = ((nat_ h i / 256 ^ j % 256 : Nat) : Int) := by rw [Nat.mul_comm]; exact shr_byte _ _
          have hput := h2.put (i := i * 4 + j) (by rw [u8s_len]; omega) (.int .u8 ((nat_ h i / 256 ^ j % 256 : Nat) : Int))
          have hset := bts_set h (k := i * 4 + j) (by omega)
          rw [show (i * 4 + j) / 4 = i by omega, show (i * 4 + j) % 4 = j by omega] at hset
          rw [u8s_set _ _ _ (Nat.mod_lt _ (by omega)), hset] at hput
          have hfar := h1.far (p := ⟨w.heap.size + 1, i * 4 + j, none⟩) (by show w.heap.size ≠ w.heap.size + 1; omega) (.int .u8 ((nat_ h i / 256 ^ j % 256 : Nat) : Int))
          have hbel := h3.setCell (p := ⟨w.heap.size + 1, i * 4 + j, none⟩) (by show w.heap.size ≤ w.heap.size + 1; omega) (.int .u8 ((nat_ h i / 256 ^ j % 256 : Nat) : Int))
          rw [← ec] at hput hfar hbel
          have HP := Lib.hid hput
          have H1 := Lib.hid hfar
          have H3 := Lib.hid hbel
          clear hput hfar hbel h1 h2 h3 ec hset
          go_wp2_with fail
          go_roundw
          case rel => exact ⟨j + 1, by omega, by go_num, H1.out, HP.out, H3.out⟩
          case measure => simp [intOf]; omega
        · obtain rfl : j = 4 := by omega
          rw [show i * 4 + 4 = (i + 1) * 4 by omega] at h2
          go_wp2_with fail
          go_roundw
          case rel => first | exact ⟨i + 1, by omega, by go_num, h1, h2, h3⟩ | ((repeat apply Exists.intro); refine ⟨⟨i + 1, by omega, ?_, h1, h2, h3⟩, rfl⟩; go_num)
          case measure => simp [intOf]; omega
    · obtain rfl : i = 8 := by omega
      have hlb : (bts h 32).length = 32 := bts_len h 32
      have hcv : ∀ cap, (convert 37 9 (.slice (some ⟨w.heap.size + 1, 0, none⟩) 32 cap)).run Tryd.prog wr = .ok (.string (str (bts h 32))) wr := by
        intro cap
        have h := run_convert_bytes_back wr 37 9 5 ⟨w.heap.size + 1, 0, none⟩ cap (bts h 32) Tryd.underlying37 Tryd.underlying5 Tryd.underlying9 (fun j hj => by
          refine (hB.adds j _ ?_)
          unfold u8s
          rw [List.getElem?_map, List.getElem?_append_left hj, List.getElem?_eq_getElem hj]
          rfl)
        rw [hlb] at h
        exact h
      have H3 := Lib.hid hW
      clear hA hB hW hlb
      go_wp2_with fail
      go_ret
      exact ⟨rfl, H3.out⟩
end Go.Proofs.YteopkdmlcjndcaaDoor.Wirey
