/- A sketch in memory, and the contracts of what makes one: New and empty lay six blocks; Wide, Added, fullAt read. No condition beyond what the functions ask for themselves. Contracts of what reads and grows a sketch: a key's counters and its bit, the least of them, how often it was seen; an addition, an ageing: all numbers of the document's sketch, nothing else turns but its six blocks. No condition but that a key is of at most 2^40 bytes. -/
import Derived.Test.YtlnjnpchkdipdaaGreatRows
import Derived.Test.YtlnjnpchkdipdaaGreatSketchMath
import Derived.Test.YtlnjnpchkdipdaaGreatMixWalksAll
import Derived.Test.YtlnjnpchkdipdaaGreatMem
import Derived.WalkKit
import Derived.Lib.Hide
import Derived.Laws.MakeOwn
import Derived.Deep.QuietTactic
import Derived.BigQuiet
import Derived.RegionTactic
import Derived.Test.YtlnjnpchkdipdaaGreatWireFlyAll
import Derived.Lib.SliceRun
import Derived.Deep.DeepCutAuto
import Derived.StillTailTactics
namespace Go.Proofs.YtlnjnpchkdipdaaGreat.Sketchy
open Go.ChangeShapes Go.WideShapes Go.ChangeAt Go.RowKit
open Wirey (Blk Row str str_size str_list)

def bytesV (l : List Nat) : Array Value := (l.map fun n : Nat => Value.int .u8 (n : Int)).toArray
def boolsV (l : List Bool) : Array Value := (l.map Value.bool).toArray
/-- A sketch whose block is B + 1: its door is block B, its rows are the four blocks behind it. -/
structure At (w : World) (B : Nat) (s : Sk) : Prop where
  hd : Blk w (B + 1) 229 #[.int .u64 (s.seed : Int), .int .i64 (s.added : Int), .slice (some ⟨B + 2, 0, none⟩) s.wide s.wide, .slice (some ⟨B + 3, 0, none⟩) s.wide s.wide, .slice (some ⟨B + 4, 0, none⟩) s.wide s.wide, .slice (some ⟨B + 5, 0, none⟩) s.wide s.wide, .slice (some ⟨B, 0, none⟩) s.wide s.wide]
  door : Blk w B 4 (boolsV s.door)
  row : ∀ i, i < 4 → Blk w (B + 2 + i) 5 (bytesV (s.r i))
section
variable {w w' : World} {B : Nat} {s : Sk}
theorem At.lt (h : At w B s) : B + 5 < w.heap.size := (h.row 3 (by omega)).lt
theorem At.drew (h : At w B s) : At w.drew B s := ⟨h.hd, h.door, h.row⟩
theorem At.drewN (h : At w B s) (n : Nat) : At (w.drewN n) B s := ⟨h.hd, h.door, h.row⟩
theorem At.below {C : Nat} (h : At w B s) (hb : Below C w w') (hC : B + 5 < C) : At w' B s :=
  ⟨h.hd.below hb (by omega), h.door.below hb (by omega), fun i hi => (h.row i hi).below hb (by omega)⟩
theorem At.alloc (h : At w B s) (o : Obj) : At (w.alloc o) B s := ⟨h.hd.alloc o, h.door.alloc o, fun i hi => (h.row i hi).alloc o⟩
theorem At.cells (h : At w B s) : w.cell? ⟨B + 1, 0, none⟩ = some (.int .u64 (s.seed : Int)) ∧ w.cell? ⟨B + 1, 1, none⟩ = some (.int .i64 (s.added : Int)) ∧ w.cell? ⟨B + 1, 6, none⟩ = some (.slice (some ⟨B, 0, none⟩) s.wide s.wide) :=
  ⟨h.hd.cell 0, h.hd.cell 1, h.hd.cell 6⟩
theorem At.rows (h : At w B s) : w.cell? ⟨B + 1, 2, none⟩ = some (.slice (some ⟨B + 2, 0, none⟩) s.wide s.wide) ∧ w.cell? ⟨B + 1, 3, none⟩ = some (.slice (some ⟨B + 3, 0, none⟩) s.wide s.wide) ∧
    w.cell? ⟨B + 1, 4, none⟩ = some (.slice (some ⟨B + 4, 0, none⟩) s.wide s.wide) ∧ w.cell? ⟨B + 1, 5, none⟩ = some (.slice (some ⟨B + 5, 0, none⟩) s.wide s.wide) :=
  ⟨h.hd.cell 2, h.hd.cell 3, h.hd.cell 4, h.hd.cell 5⟩
theorem At.rowAt (h : At w B s) {i : Nat} (hi : i < 4) : w.cell? ⟨B + 1, 2 + i, none⟩ = some (.slice (some ⟨B + 2 + i, 0, none⟩) s.wide s.wide) := by
  obtain ⟨h0, h1, h2, h3⟩ := h.rows
  rcases (by omega : i = 0 ∨ i = 1 ∨ i = 2 ∨ i = 3) with rfl | rfl | rfl | rfl
  · exact h0
  · exact h1
  · exact h2
  · exact h3
theorem bytesV_at {l : List Nat} {k : Nat} (hk : k < l.length) : (bytesV l)[k]? = some (.int .u8 ((l[k]?.getD 0 : Nat) : Int)) := by
  unfold bytesV
  rw [List.getElem?_toArray, List.getElem?_map, List.getElem?_eq_getElem hk]
  rfl
theorem boolsV_at {l : List Bool} {k : Nat} (hk : k < l.length) : (boolsV l)[k]? = some (.bool (l[k]?.getD false)) := by
  unfold boolsV
  rw [List.getElem?_toArray, List.getElem?_map, List.getElem?_eq_getElem hk]
  rfl
theorem At.cnt (h : At w B s) (hf : s.Wf) {ks : Nat → Nat} {i : Nat} (hi : i < 4) (hk : ks i < s.wide) : w.cell? ⟨B + 2 + i, ks i, none⟩ = some (.int .u8 (s.cnt ks i : Int)) :=
  ((h.row i hi).cell _).trans (bytesV_at (by rw [hf.len i hi]; exact hk))
theorem At.bit (h : At w B s) (hf : s.Wf) {ks : Nat → Nat} (hk : ks 4 < s.wide) : w.cell? ⟨B, ks 4, none⟩ = some (.bool (s.bit ks)) :=
  (h.door.cell _).trans (boolsV_at (by rw [hf.dlen]; exact hk))
end

/-! What makes one -/
theorem mk_cells (z : Value) (n : Nat) : madeCells #[z] n = (List.replicate n z).toArray := by
  rw [← toList_madeCells_one z n]
theorem byte_info : (Tryz.prog.info? 5).map (fun i => (i.zero, i.size, i.bytes)) = some (some (.int .u8 0), 1, 1) := by kernel_rfl
theorem bool_info : (Tryz.prog.info? 4).map (fun i => (i.zero, i.size, i.bytes)) = some (some (.bool false), 1, 1) := by kernel_rfl
theorem mk_bytes {n : Nat} (hn : n ≤ 4096) (w : World) : (Instr.makeSlice 141 (.int .i64 (n : Int)) (.int .i64 (n : Int))).run Tryz.prog w = .ok (.slice (some ⟨w.heap.size, 0, none⟩) n n) (w.alloc (.cells (bytesV (List.replicate n 0)) 5)) := by
  obtain ⟨i0, hi, hz0, hz1, hz2⟩ := info_parts byte_info
  have h := run_make (P := Tryz.prog) w 141 5 i0 (.int .u8 0) Tryz.underlying141 hi hz0 .i64 .i64 (n : Int) (n : Int) (by omega) (by omega) (by rw [hz2]; omega) (by omega)
  rw [h, hz1, Int.toNat_natCast, Nat.mul_one]
  have e : madeCells (Value.int .u8 0).cells n = bytesV (List.replicate n 0) := by
    show madeCells #[Value.int .u8 0] n = _
    rw [mk_cells, bytesV, List.map_replicate]
    rfl
  rw [e]
theorem mk_bools {n : Nat} (hn : n ≤ 4096) (w : World) : (Instr.makeSlice 39 (.int .i64 (n : Int)) (.int .i64 (n : Int))).run Tryz.prog w = .ok (.slice (some ⟨w.heap.size, 0, none⟩) n n) (w.alloc (.cells (boolsV (List.replicate n false)) 4)) := by
  obtain ⟨i0, hi, hz0, hz1, hz2⟩ := info_parts bool_info
  have h := run_make (P := Tryz.prog) w 39 4 i0 (.bool false) Tryz.underlying39 hi hz0 .i64 .i64 (n : Int) (n : Int) (by omega) (by omega) (by rw [hz2]; omega) (by omega)
  rw [h, hz1, Int.toNat_natCast, Nat.mul_one]
  have e : madeCells (Value.bool false).cells n = boolsV (List.replicate n false) := by
    show madeCells #[Value.bool false] n = _
    rw [mk_cells, boolsV, List.map_replicate]
  rw [e]

set_option maxHeartbeats 2000000 in
theorem wide_c {B : Nat} {s : Sk} (w : World) (h : At w B s) :
    Calls Tryz.prog 187 #[.pointer (some ⟨B + 1, 0, none⟩)] w fun e w' => e = .returned (.int .i64 (s.wide : Int)) ∧ w = w' := by
  obtain ⟨c0, c1, c6⟩ := h.cells
  go_enter Tryz.func187, Tryz.ntmps187
  go_wp2
  go_ret
  exact ⟨rfl, rfl⟩
set_option maxHeartbeats 2000000 in
theorem full_c {n : Nat} (hn : n ≤ 4096) (w : World) :
    Calls Tryz.prog 191 #[.int .i64 (n : Int)] w fun e w' => e = .returned (.int .i64 ((10 * n : Nat) : Int)) ∧ w = w' := by
  go_enter Tryz.func191, Tryz.ntmps191
  go_wp2
  go_ret
  exact ⟨rfl, rfl⟩

/-- One of which j rows are made. -/
structure Mk (B n seed j : Nat) (w : World) : Prop where
  size : w.heap.size = B + 2 + j
  hd : Blk w (B + 1) 229 #[.int .u64 (seed : Int), .int .i64 0, if 0 < j then .slice (some ⟨B + 2, 0, none⟩) n n else .slice none 0 0, if 1 < j then .slice (some ⟨B + 3, 0, none⟩) n n else .slice none 0 0, if 2 < j then .slice (some ⟨B + 4, 0, none⟩) n n else .slice none 0 0, if 3 < j then .slice (some ⟨B + 5, 0, none⟩) n n else .slice none 0 0, .slice (some ⟨B, 0, none⟩) n n]
  door : Blk w B 4 (boolsV (List.replicate n false))
  row : ∀ i, i < j → Blk w (B + 2 + i) 5 (bytesV (List.replicate n 0))
theorem Mk.next {B n seed j : Nat} {w : World} (h : Mk B n seed j w) (hj : j < 4) : Mk B n seed (j + 1) ((w.alloc (.cells (bytesV (List.replicate n 0)) 5)).setCell ⟨B + 1, 2 + j, none⟩ (.slice (some ⟨w.heap.size, 0, none⟩) n n)).drew := by
  have hs := h.size
  have hp := (h.hd.alloc (.cells (bytesV (List.replicate n 0)) 5)).put (2 + j) (.slice (some ⟨w.heap.size, 0, none⟩) n n)
  refine ⟨?_, ?_, ?_, ?_⟩
  · show ((w.alloc _).setCell _ _).heap.size = _
    rw [World.setCell]
    simp [hs]
    omega
  · show Blk ((w.alloc _).setCell _ _) _ _ _
    rw [hs] at hp ⊢
    rcases (by omega : j = 0 ∨ j = 1 ∨ j = 2 ∨ j = 3) with rfl | rfl | rfl | rfl <;> exact hp
  · exact (h.door.alloc _).far (by show B ≠ B + 1; omega) _
  · intro i hi
    by_cases e : i = j
    · subst e
      have hn : Blk (w.alloc (.cells (bytesV (List.replicate n 0)) 5)) w.heap.size 5 (bytesV (List.replicate n 0)) := Blk.new _ _ _
      have hq := hn.far (p := ⟨B + 1, 2 + i, none⟩) (by show w.heap.size ≠ B + 1; omega) (.slice (some ⟨w.heap.size, 0, none⟩) n n)
      rw [show w.heap.size = B + 2 + i from hs] at hq ⊢
      exact hq
    · exact ((h.row i (by omega)).alloc _).far (by show B + 2 + i ≠ B + 1; omega) _
theorem Mk.done {B n seed : Nat} {w : World} (h : Mk B n seed 4 w) : At w B (Sk.new n seed) := ⟨h.hd, h.door, h.row⟩
theorem Mk.start (n seed : Nat) (w : World) : Mk w.heap.size n seed 0 ((w.alloc (.cells (boolsV (List.replicate n false)) 4)).alloc (.cells #[.int .u64 (seed : Int), .int .i64 0, .slice none 0 0, .slice none 0 0, .slice none 0 0, .slice none 0 0, .slice (some ⟨w.heap.size, 0, none⟩) n n] 229)) := by
  have h1 : (w.alloc (.cells (boolsV (List.replicate n false)) 4)).heap.size = w.heap.size + 1 := by simp
  have h2 := Blk.new (w.alloc (.cells (boolsV (List.replicate n false)) 4)) 229 #[.int .u64 (seed : Int), .int .i64 0, .slice none 0 0, .slice none 0 0, .slice none 0 0, .slice none 0 0, .slice (some ⟨w.heap.size, 0, none⟩) n n]
  rw [h1] at h2
  exact ⟨by simp, h2, (Blk.new w _ _).alloc _, fun i hi => by omega⟩
theorem below_next {B j : Nat} {w v : World} (h : Below B w v) (hB : B ≤ v.heap.size) (u : Value) (o : Obj) : Below B w ((v.alloc o).setCell ⟨B + 1, 2 + j, none⟩ u).drew :=
  ((h.alloc hB o).setCell (p := ⟨B + 1, 2 + j, none⟩) (by show B ≤ B + 1; omega) u).drew
set_option maxHeartbeats 4000000 in
set_option maxRecDepth 100000 in
theorem empty_c {n seed : Nat} (h2 : n ≤ 4096) (w : World) :
    Calls Tryz.prog 113 #[.int .i64 (n : Int), .int .u64 (seed : Int)] w fun e w' => e = .returned (.pointer (some ⟨w.heap.size + 1, 0, none⟩)) ∧ At w' w.heap.size (Sk.new n seed) ∧ Below w.heap.size w w' ∧ w'.heap.size = w.heap.size + 6 := by
  have m1 := fun W => mk_bytes h2 W
  have m2 := fun W => mk_bools h2 W
  go_enter Tryz.func113, Tryz.ntmps113
  go_wp2
  go_loopw [12] (fun i wr => ∃ j : Nat, j ≤ 4 ∧ i = .int .i64 j ∧ Mk w.heap.size n seed j wr ∧ Below w.heap.size w wr) (fun i _ => 4 - (intOf i).toNat)
  case atStart => exact ⟨0, by omega, rfl, Mk.start n seed w, ((Below.refl _ w).alloc (Nat.le_refl _) _).alloc (by simp) _⟩
  case round =>
    obtain ⟨j, hj, rfl, hM, hW⟩ := hrel
    have hz := hW.size
    by_cases h4 : j = 4
    · subst h4
      have hD := hM.done
      have hS := hM.size
      go_wp2
      go_ret
      exact ⟨rfl, hD, hW, hS⟩
    · have hN := hM.next (by omega)
      have hW2 := below_next (j := j) hW hz (.slice (some ⟨wr.heap.size, 0, none⟩) n n) (.cells (bytesV (List.replicate n 0)) 5)
      rcases (by omega : j = 0 ∨ j = 1 ∨ j = 2 ∨ j = 3) with rfl | rfl | rfl | rfl
      · have hcell := fun o => (hM.hd.alloc o).cell 2
        have hfree := fun o => (hM.hd.alloc o).free 2
        go_wp2
        go_region
        go_wp2
        go_roundw
        case rel => exact ⟨1, by omega, rfl, hN, hW2⟩
        case measure => simp [intOf]
      · have hcell := fun o => (hM.hd.alloc o).cell 3
        have hfree := fun o => (hM.hd.alloc o).free 3
        go_wp2
        go_region
        go_wp2
        go_roundw
        case rel => exact ⟨2, by omega, rfl, hN, hW2⟩
        case measure => simp [intOf]
      · have hcell := fun o => (hM.hd.alloc o).cell 4
        have hfree := fun o => (hM.hd.alloc o).free 4
        go_wp2
        go_region
        go_wp2
        go_roundw
        case rel => exact ⟨3, by omega, rfl, hN, hW2⟩
        case measure => simp [intOf]
      · have hcell := fun o => (hM.hd.alloc o).cell 5
        have hfree := fun o => (hM.hd.alloc o).free 5
        go_wp2
        go_region
        go_wp2
        go_roundw
        case rel => exact ⟨4, by omega, rfl, hN, hW2⟩
        case measure => simp [intOf]
set_option maxHeartbeats 2000000 in
theorem new_c {n seed : Nat} (h1 : 1 ≤ n) (h2 : n ≤ 4096) (w : World) :
    Calls Tryz.prog 81 #[.int .i64 (n : Int), .int .u64 (seed : Int)] w fun e w' => e = .returned (.tuple #[.pointer (some ⟨w.heap.size + 1, 0, none⟩), .int .i64 0]) ∧ At w' w.heap.size (Sk.new n seed) ∧ Below w.heap.size w w' ∧ w'.heap.size = w.heap.size + 6 := by
  go_enter Tryz.func81, Tryz.ntmps81
  go_wp2_with fail
  refine (empty_c h2 _).mono ?_
  rintro e w' ⟨rfl, hA, hb, hs⟩
  go_wp2_with fail
  go_ret2
  exact ⟨rfl, hA, hb, hs⟩
end Go.Proofs.YtlnjnpchkdipdaaGreat.Sketchy
namespace Go.Proofs.YtlnjnpchkdipdaaGreat.Sketchy
open Go.ChangeShapes Go.WideShapes Go.ChangeAt Go.RowKit
open Wirey (Blk Row str str_size str_list Kp)

/-- A key's place in a row; the door is row 4. -/
def ksOf (h n : Nat) (i : Nat) : Nat := Mixy.mix (Mixy.spot h (i : Int)) * n / 18446744073709551616
theorem ksOf_lt {h n : Nat} (hn : 1 ≤ n) (i : Nat) : ksOf h n i < n := Mixy.place_lt _ _ (Mixy.mix_lt _) hn
theorem place_c {h n : Nat} (hn : 1 ≤ n) (hn2 : n ≤ 4096) (i : Nat) (w : World) :
    Calls Tryz.prog 197 #[.int .u64 (h : Int), .int .i64 (i : Int), .int .i64 (n : Int)] w fun e w' => e = .returned (.int .i64 (ksOf h n i : Int)) ∧ w' = w :=
  (Mixy.place_yes h (i : Int) n hn (by omega) w).mono fun _ _ ⟨a, b⟩ => ⟨a, b.symm⟩
theorem place_4 {h n : Nat} (hn : 1 ≤ n) (hn2 : n ≤ 4096) (w : World) :
    Calls Tryz.prog 197 #[.int .u64 (h : Int), .int .i64 4, .int .i64 (n : Int)] w fun e w' => e = .returned (.int .i64 (ksOf h n 4 : Int)) ∧ w' = w :=
  place_c hn hn2 4 w
theorem wide_q {B : Nat} {s : Sk} (w : World) (h : At w B s) :
    Calls Tryz.prog 187 #[.pointer (some ⟨B + 1, 0, none⟩)] w fun e w' => e = .returned (.int .i64 (s.wide : Int)) ∧ w' = w :=
  (wide_c w h).mono fun _ _ ⟨a, b⟩ => ⟨a, b.symm⟩

set_option maxHeartbeats 4000000 in
theorem counter_c {B : Nat} {s : Sk} (h : Nat) {i : Nat} (hi : i < 4) (w : World) (hA : At w B s) (hf : s.Pre) :
    Calls Tryz.prog 199 #[.pointer (some ⟨B + 1, 0, none⟩), .int .i64 (i : Int), .int .u64 (h : Int)] w fun e w' => e = .returned (.pointer (some ⟨B + 2 + i, ksOf h s.wide i, none⟩)) ∧ ∃ m, w' = w.drewN m := by
  have hrow := hA.rowAt hi
  have hk := ksOf_lt (h := h) hf.w1 i
  have w1 := hf.w1
  have w2 := hf.w2
  obtain ⟨k, hke⟩ : ∃ k, k = ksOf h s.wide i := ⟨_, rfl⟩
  have hp := fun W : World => place_c (h := h) w1 w2 i W
  rw [← hke] at hk hp ⊢
  clear hke
  go_enter Tryz.func199, Tryz.ntmps199
  go_wp2_with fail
  go_quiet (first | (go_at_call 187; exact Calls.quiet_of_same (wide_q _ (At.drewN hA _))) | (go_at_call 197; exact Calls.quiet_of_same (hp _)))
  go_wp2_with fail
  go_ret
  exact ⟨rfl, _, rfl⟩
set_option maxHeartbeats 4000000 in
theorem door_c {B : Nat} {s : Sk} (h : Nat) (w : World) (hA : At w B s) (hf : s.Pre) :
    Calls Tryz.prog 189 #[.pointer (some ⟨B + 1, 0, none⟩), .int .u64 (h : Int)] w fun e w' => e = .returned (.pointer (some ⟨B, ksOf h s.wide 4, none⟩)) ∧ ∃ m, w' = w.drewN m := by
  obtain ⟨_, _, c6⟩ := hA.cells
  have hk := ksOf_lt (h := h) hf.w1 4
  have w1 := hf.w1
  have w2 := hf.w2
  have hp := fun W : World => place_4 (h := h) w1 w2 W
  obtain ⟨k, hke⟩ : ∃ k, k = ksOf h s.wide 4 := ⟨_, rfl⟩
  rw [← hke] at hk hp ⊢
  clear hke
  go_enter Tryz.func189, Tryz.ntmps189
  go_wp2_with fail
  go_quiet (first | (go_at_call 187; exact Calls.quiet_of_same (wide_q _ (At.drewN hA _))) | (go_at_call 197; exact Calls.quiet_of_same (hp _)))
  go_wp2_with fail
  go_ret
  exact ⟨rfl, _, rfl⟩

theorem At.cntP {w : World} {B : Nat} {s : Sk} (h : At w B s) (hf : s.Pre) {ks : Nat → Nat} {i : Nat} (hi : i < 4) (hk : ks i < s.wide) : w.cell? ⟨B + 2 + i, ks i, none⟩ = some (.int .u8 (s.cnt ks i : Int)) :=
  ((h.row i hi).cell _).trans (bytesV_at (by rw [hf.len i hi]; exact hk))
theorem At.bitP {w : World} {B : Nat} {s : Sk} (h : At w B s) (hf : s.Pre) {ks : Nat → Nat} (hk : ks 4 < s.wide) : w.cell? ⟨B, ks 4, none⟩ = some (.bool (s.bit ks)) :=
  (h.door.cell _).trans (boolsV_at (by rw [hf.dlen]; exact hk))

set_option maxHeartbeats 4000000 in
theorem least_c {B : Nat} {s : Sk} (h : Nat) (w : World) (hA : At w B s) (hf : s.Pre) :
    Calls Tryz.prog 198 #[.pointer (some ⟨B + 1, 0, none⟩), .int .u64 (h : Int)] w fun e w' => e = .returned (.int .u8 (s.lst (ksOf h s.wide) 4 : Int)) ∧ ∃ m, w' = w.drewN m := by
  go_enter Tryz.func198, Tryz.ntmps198
  go_wp2_with fail
  go_loopw [5, 7] (fun l i wr => ∃ j m : Nat, j ≤ 4 ∧ i = .int .i64 j ∧ l = .int .u8 (s.lst (ksOf h s.wide) j : Int) ∧ wr = w.drewN m) (fun _ i _ => 4 - (intOf i).toNat)
  case atStart => exact ⟨0, 0, by omega, rfl, rfl, rfl⟩
  case round =>
    obtain ⟨j, m, hj, rfl, rfl, rfl⟩ := hrel
    have hlst : (s.lst (ksOf h s.wide) j : Int) ≤ 15 := by have := Sk.lst_le (s := s) (ks := ksOf h s.wide) j; omega
    by_cases h4 : j < 4
    · have hc := hA.cntP hf (ks := ksOf h s.wide) h4 (ksOf_lt hf.w1 j)
      have hcl := hf.cnt_le (ks := ksOf h s.wide) h4
      have hmin : s.lst (ksOf h s.wide) (j + 1) = min (s.lst (ksOf h s.wide) j) (s.cnt (ksOf h s.wide) j) := rfl
      go_wp2_with fail
      refine (counter_c h h4 _ (hA.drewN m) hf).mono ?_
      rintro e w' ⟨rfl, m2, rfl⟩
      go_wp2_with fail
      go_roundw
      case rel => exact ⟨j + 1, m + m2, by omega, rfl, by rw [hmin]; congr 1; split <;> omega, rfl⟩
      case measure => simp [intOf]; omega
    · obtain rfl : j = 4 := by omega
      go_wp2_with fail
      go_ret
      exact ⟨rfl, _, rfl⟩

end Go.Proofs.YtlnjnpchkdipdaaGreat.Sketchy
