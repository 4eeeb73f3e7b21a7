/- Chapter 5 over plain lists of numbers: a sketch, what an addition and an ageing make of it, its bytes; that until it ages no key is said to be seen less often than it was. It speaks of no program. A sketch in memory, and the contracts of what makes one: New and empty lay six blocks; Wide, Added, fullAt read. No condition beyond what the functions ask for themselves. Contracts of what reads and grows a sketch: a key's counters and its bit, the least of them, how often it was seen; an addition, an ageing: all numbers of the document's sketch, nothing else turns but its six blocks. No condition but that a key is of at most 2^40 bytes. -/
import Derived.Test.YtahmpggaicjgoaaGreatDoorWireReadAll
import Derived.Test.YtahmpggaicjgoaaGreatDoorRows
import Derived.Test.YtahmpggaicjgoaaGreatDoorMixWalksAll
import Derived.Test.YtahmpggaicjgoaaGreatDoorMem
import Derived.WalkKit
import Derived.Lib.Hide
import Derived.Laws.MakeOwn
import Derived.Deep.QuietTactic
import Derived.BigQuiet
import Derived.RegionTactic
import Derived.Test.YtahmpggaicjgoaaGreatDoorWireFlyAll
import Derived.Lib.SliceRun
import Derived.Deep.DeepCutAuto
import Derived.StillTailTactics
import Derived.Test.YtahmpggaicjgoaaGreatDoorSq
namespace Go.Proofs.YtahmpggaicjgoaaGreatDoor.Sketchy

structure Sk where
 wide : Nat
 seed : Nat
 added : Nat
 r : Nat → List Nat
 door : List Bool

structure Sk.Wf (s : Sk) : Prop where
 w1 : 1 ≤ s.wide
 w2 : s.wide ≤ 4096
 seed : s.seed < 18446744073709551616
 added : s.added < 10 * s.wide
 len : ∀ i, i < 4 → (s.r i).length = s.wide
 top : ∀ i, i < 4 → ∀ c ∈ s.r i, c ≤ 15
 dlen : s.door.length = s.wide

def Sk.new (wide seed : Nat) : Sk := ⟨wide, seed, 0, fun _ => List.replicate wide 0, List.replicate wide false⟩
theorem Sk.new_wf {wide seed : Nat} (h1 : 1 ≤ wide) (h2 : wide ≤ 4096) (h3 : seed < 18446744073709551616) : (Sk.new wide seed).Wf :=
 ⟨h1, h2, h3, by show 0 < 10 * wide; omega, fun _ _ => List.length_replicate .., fun _ _ c hc => by rw [List.eq_of_mem_replicate hc]; omega, List.length_replicate ..⟩

def Sk.cnt (s : Sk) (ks : Nat → Nat) (i : Nat) : Nat := (s.r i)[ks i]?.getD 0
def Sk.bit (s : Sk) (ks : Nat → Nat) : Bool := s.door[ks 4]?.getD false
def Sk.lst (s : Sk) (ks : Nat → Nat) : Nat → Nat
 | 0 => 15
 | j + 1 => min (Sk.lst s ks j) (s.cnt ks j)
def Sk.seen (s : Sk) (ks : Nat → Nat) : Nat := s.lst ks 4 + (if s.bit ks then 1 else 0)
def upRow (l : List Nat) (k m : Nat) : List Nat := if l[k]?.getD 0 = m then l.set k (m + 1) else l
def Sk.up (s : Sk) (ks : Nat → Nat) (j : Nat) : Sk := { s with r := fun i => if i < j then upRow (s.r i) (ks i) (s.lst ks 4) else s.r i }
def Sk.grow (s : Sk) (ks : Nat → Nat) : Sk := if s.lst ks 4 = 15 then s else s.up ks 4
def Sk.mark (s : Sk) (ks : Nat → Nat) : Sk := { s with door := s.door.set (ks 4) true }
def Sk.note (s : Sk) (ks : Nat → Nat) : Sk := if s.bit ks then s.grow ks else s.mark ks
def Sk.age (s : Sk) : Sk := ⟨s.wide, s.seed, s.added / 2, fun i => (s.r i).map (· / 2), List.replicate s.wide false⟩
def Sk.count (s : Sk) : Sk := { s with added := s.added + 1 }
def Sk.add (s : Sk) (ks : Nat → Nat) : Sk := if 10 * s.wide ≤ s.added + 1 then ((s.note ks).count).age else (s.note ks).count

structure Sk.Pre (s : Sk) : Prop where
 w1 : 1 ≤ s.wide
 w2 : s.wide ≤ 4096
 seed : s.seed < 18446744073709551616
 added : s.added ≤ 10 * s.wide
 len : ∀ i, i < 4 → (s.r i).length = s.wide
 top : ∀ i, i < 4 → ∀ c ∈ s.r i, c ≤ 15
 dlen : s.door.length = s.wide
theorem Sk.Wf.pre {s : Sk} (h : s.Wf) : s.Pre := ⟨h.w1, h.w2, h.seed, Nat.le_of_lt h.added, h.len, h.top, h.dlen⟩
theorem Sk.Pre.wf {s : Sk} (h : s.Pre) (ha : s.added < 10 * s.wide) : s.Wf := ⟨h.w1, h.w2, h.seed, ha, h.len, h.top, h.dlen⟩

section
variable {s : Sk} {ks : Nat → Nat}
theorem Sk.Pre.cnt_le (h : s.Pre) {i : Nat} (hi : i < 4) : s.cnt ks i ≤ 15 := by
 unfold Sk.cnt
 by_cases hk : ks i < (s.r i).length
 ·rw [List.getElem?_eq_getElem hk]; exact h.top i hi _ (List.getElem_mem hk)
 ·rw [List.getElem?_eq_none (by omega)]; exact Nat.zero_le _
theorem Sk.lst_le (j : Nat) : s.lst ks j ≤ 15 := by
 induction j with
 | zero => exact Nat.le_refl _
 | succ j ih => exact Nat.le_trans (Nat.min_le_left ..) ih
theorem upRow_length (l : List Nat) (k m : Nat) : (upRow l k m).length = l.length := by unfold upRow; split <;> simp
theorem upRow_top {l : List Nat} {k m : Nat} (hm : m < 15) (h : ∀ c ∈ l, c ≤ 15) : ∀ c ∈ upRow l k m, c ≤ 15 := by
 intro c hc
 unfold upRow at hc
 split at hc
 ·rcases List.mem_or_eq_of_mem_set hc with h1 | h1
  ·exact h c h1
  ·omega
 ·exact h c hc
theorem Sk.up_zero : s.up ks 0 = s := by
 unfold Sk.up
 simp
theorem Sk.Pre.up (h : s.Pre) (hm : s.lst ks 4 ≠ 15) (j : Nat) : (s.up ks j).Pre := by
 have h15 := Sk.lst_le (s := s) (ks := ks) 4
 refine ⟨h.w1, h.w2, h.seed, h.added, fun i hi => ?_, fun i hi c hc => ?_, h.dlen⟩
 ·show (if i < j then upRow (s.r i) (ks i) (s.lst ks 4) else s.r i).length = s.wide
  split
  ·rw [upRow_length]; exact h.len i hi
  ·exact h.len i hi
 ·have hc : c ∈ (if i < j then upRow (s.r i) (ks i) (s.lst ks 4) else s.r i) := hc
  split at hc
  ·exact upRow_top (by omega) (h.top i hi) c hc
  ·exact h.top i hi c hc
theorem Sk.Pre.grow (h : s.Pre) : (s.grow ks).Pre := by
 unfold Sk.grow
 split
 ·exact h
 ·next hm => exact h.up hm 4
theorem Sk.Pre.mark (h : s.Pre) : (s.mark ks).Pre := ⟨h.w1, h.w2, h.seed, h.added, h.len, h.top, by show (s.door.set _ _).length = _; rw [List.length_set]; exact h.dlen⟩
theorem Sk.Pre.note (h : s.Pre) : (s.note ks).Pre := by
 unfold Sk.note
 split
 ·exact h.grow
 ·exact h.mark
theorem Sk.grow_fix : (s.grow ks).wide = s.wide ∧ (s.grow ks).added = s.added ∧ (s.grow ks).seed = s.seed := by
 unfold Sk.grow
 split <;> exact ⟨rfl, rfl, rfl⟩
theorem Sk.note_fix : (s.note ks).wide = s.wide ∧ (s.note ks).added = s.added ∧ (s.note ks).seed = s.seed := by
 unfold Sk.note
 split
 ·exact Sk.grow_fix
 ·exact ⟨rfl, rfl, rfl⟩
theorem Sk.Wf.count (h : s.Wf) : (s.note ks).count.Pre := by
 have hp := (h.pre.note (ks := ks))
 have hf := Sk.note_fix (s := s) (ks := ks)
 exact ⟨hp.w1, hp.w2, hp.seed, by show (s.note ks).added + 1 ≤ 10 * (s.note ks).wide; rw [hf.1, hf.2.1]; exact h.added, hp.len, hp.top, hp.dlen⟩
theorem Sk.Pre.age (h : s.Pre) : s.age.Wf := by
 have := h.w1
 have := h.added
 refine ⟨h.w1, h.w2, h.seed, by show s.added / 2 < 10 * s.wide; omega, fun i hi => ?_, fun i hi c hc => ?_, List.length_replicate ..⟩
 ·show ((s.r i).map _).length = s.wide
  rw [List.length_map]; exact h.len i hi
 ·have hc : c ∈ (s.r i).map (· / 2) := hc
  obtain ⟨x, hx, rfl⟩ := List.mem_map.1 hc
  have := h.top i hi x hx
  omega
theorem Sk.Wf.add (h : s.Wf) : (s.add ks).Wf := by
 unfold Sk.add
 have hf := Sk.note_fix (s := s) (ks := ks)
 split
 ·exact h.count.age
 ·exact h.count.wf (by show (s.note ks).added + 1 < 10 * (s.note ks).wide; rw [hf.1, hf.2.1]; omega)
theorem Sk.add_fix : (s.add ks).wide = s.wide ∧ (s.add ks).seed = s.seed := by
 unfold Sk.add
 have hf := Sk.note_fix (s := s) (ks := ks)
 split
 ·exact ⟨hf.1, hf.2.2⟩
 ·exact ⟨hf.1, hf.2.2⟩
end

def rowB (l : List Nat) : List UInt8 := l.map UInt8.ofNat
def flagB (b : Bool) : UInt8 := if b then 1 else 0
def Sk.put (s : Sk) : List UInt8 :=
 Wirey.enc s.wide ++ Wirey.enc s.seed ++ Wirey.enc s.added ++ (rowB (s.r 0) ++ rowB (s.r 1) ++ rowB (s.r 2) ++ rowB (s.r 3)) ++ s.door.map flagB
end Go.Proofs.YtahmpggaicjgoaaGreatDoor.Sketchy
namespace Go.Proofs.YtahmpggaicjgoaaGreatDoor.Sketchy
open Go.ChangeShapes Go.WideShapes Go.ChangeAt Go.RowKit
open Wirey (Blk Row str str_size str_list)

def bytesV (l : List Nat) : Array Value := (l.map fun n : Nat => Value.int .u8 (n : Int)).toArray
def boolsV (l : List Bool) : Array Value := (l.map Value.bool).toArray
structure At (w : World) (B : Nat) (s : Sk) : Prop where
 hd : Blk w (B + 1) 205 #[.int .u64 s.seed, .int .i64 s.added, .slice (some ⟨B + 2, 0, none⟩) s.wide s.wide, .slice (some ⟨B + 3, 0, none⟩) s.wide s.wide, .slice (some ⟨B + 4, 0, none⟩) s.wide s.wide, .slice (some ⟨B + 5, 0, none⟩) s.wide s.wide, .slice (some ⟨B, 0, none⟩) s.wide s.wide]
 door : Blk w B 4 (boolsV s.door)
 row : ∀ i, i < 4 → Blk w (B + 2 + i) 5 (bytesV (s.r i))
section
variable {w w' : World} {B : Nat} {s : Sk}
theorem At.lt (h : At w B s) : B + 5 < w.heap.size := (h.row 3 (by omega)).lt
theorem At.drew (h : At w B s) : At w.drew B s := ⟨h.hd, h.door, h.row⟩
theorem At.drewN (h : At w B s) (n : Nat) : At (w.drewN n) B s := ⟨h.hd, h.door, h.row⟩
theorem At.below {C : Nat} (h : At w B s) (hb : Below C w w') (hC : B + 5 < C) : At w' B s :=
 ⟨h.hd.below hb (by omega), h.door.below hb (by omega), fun i hi => (h.row i hi).below hb (by omega)⟩
theorem At.alloc (h : At w B s) (o : Obj) : At (w.alloc o) B s := ⟨h.hd.alloc o, h.door.alloc o, fun i hi => (h.row i hi).alloc o⟩
theorem At.cells (h : At w B s) : w.cell? ⟨B + 1, 0, none⟩ = some (.int .u64 s.seed) ∧ w.cell? ⟨B + 1, 1, none⟩ = some (.int .i64 s.added) ∧ w.cell? ⟨B + 1, 6, none⟩ = some (.slice (some ⟨B, 0, none⟩) s.wide s.wide) :=
 ⟨h.hd.cell 0, h.hd.cell 1, h.hd.cell 6⟩
theorem At.rows (h : At w B s) : w.cell? ⟨B + 1, 2, none⟩ = some (.slice (some ⟨B + 2, 0, none⟩) s.wide s.wide) ∧ w.cell? ⟨B + 1, 3, none⟩ = some (.slice (some ⟨B + 3, 0, none⟩) s.wide s.wide) ∧
  w.cell? ⟨B + 1, 4, none⟩ = some (.slice (some ⟨B + 4, 0, none⟩) s.wide s.wide) ∧ w.cell? ⟨B + 1, 5, none⟩ = some (.slice (some ⟨B + 5, 0, none⟩) s.wide s.wide) :=
 ⟨h.hd.cell 2, h.hd.cell 3, h.hd.cell 4, h.hd.cell 5⟩
theorem At.rowAt (h : At w B s) {i : Nat} (hi : i < 4) : w.cell? ⟨B + 1, 2 + i, none⟩ = some (.slice (some ⟨B + 2 + i, 0, none⟩) s.wide s.wide) := by
 obtain ⟨h0, h1, h2, h3⟩ := h.rows
 rcases (by omega : i = 0 ∨ i = 1 ∨ i = 2 ∨ i = 3) with rfl | rfl | rfl | rfl
 ·exact h0
 ·exact h1
 ·exact h2
 ·exact h3
theorem bytesV_at {l : List Nat} {k : Nat} (hk : k < l.length) : (bytesV l)[k]? = some (.int .u8 ((l[k]?.getD 0 : Nat) : Int)) := by
 unfold bytesV
 rw [List.getElem?_toArray, List.getElem?_map, List.getElem?_eq_getElem hk]
 rfl
theorem boolsV_at {l : List Bool} {k : Nat} (hk : k < l.length) : (boolsV l)[k]? = some (.bool (l[k]?.getD false)) := by
 unfold boolsV
 rw [List.getElem?_toArray, List.getElem?_map, List.getElem?_eq_getElem hk]
 rfl
end

theorem mk_cells (z : Value) (n : Nat) : madeCells #[z] n = (List.replicate n z).toArray := by
 rw [← toList_madeCells_one z n]
theorem byte_info : (Tryz.prog.info? 5).map (fun i => (i.zero, i.size, i.bytes)) = some (some (.int .u8 0), 1, 1) := by kernel_rfl
theorem bool_info : (Tryz.prog.info? 4).map (fun i => (i.zero, i.size, i.bytes)) = some (some (.bool false), 1, 1) := by kernel_rfl
theorem mk_bytes {n : Nat} (hn : n ≤ 4096) (w : World) : (Instr.makeSlice 103 (.int .i64 n) (.int .i64 n)).run Tryz.prog w = .ok (.slice (some ⟨w.heap.size, 0, none⟩) n n) (w.alloc (.cells (bytesV (List.replicate n 0)) 5)) := by
 obtain ⟨i0, hi, hz0, hz1, hz2⟩ := info_parts byte_info
 have h := run_make (P := Tryz.prog) w 103 5 i0 (.int .u8 0) Tryz.underlying103 hi hz0 .i64 .i64 (n : Int) (n : Int) (by omega) (by omega) (by rw [hz2]; omega) (by omega)
 rw [h, hz1, Int.toNat_natCast, Nat.mul_one]
 have e : madeCells (Value.int .u8 0).cells n = bytesV (List.replicate n 0) := by
  show madeCells #[Value.int .u8 0] n = _
  rw [mk_cells, bytesV, List.map_replicate]
  rfl
 rw [e]
theorem mk_bools {n : Nat} (hn : n ≤ 4096) (w : World) : (Instr.makeSlice 203 (.int .i64 n) (.int .i64 n)).run Tryz.prog w = .ok (.slice (some ⟨w.heap.size, 0, none⟩) n n) (w.alloc (.cells (boolsV (List.replicate n false)) 4)) := by
 obtain ⟨i0, hi, hz0, hz1, hz2⟩ := info_parts bool_info
 have h := run_make (P := Tryz.prog) w 203 4 i0 (.bool false) Tryz.underlying203 hi hz0 .i64 .i64 (n : Int) (n : Int) (by omega) (by omega) (by rw [hz2]; omega) (by omega)
 rw [h, hz1, Int.toNat_natCast, Nat.mul_one]
 have e : madeCells (Value.bool false).cells n = boolsV (List.replicate n false) := by
  show madeCells #[Value.bool false] n = _
  rw [mk_cells, boolsV, List.map_replicate]
 rw [e]

set_option maxHeartbeats 2000000 in
theorem wide_c {B : Nat} {s : Sk} (w : World) (h : At w B s) :
  Calls Tryz.prog 108 #[.pointer (some ⟨B + 1, 0, none⟩)] w fun e w' => e = .returned (.int .i64 s.wide) ∧ w = w' := by
 obtain ⟨c0, c1, c6⟩ := h.cells
 go_enter Tryz.func108, Tryz.ntmps108
 go_wp2
 go_ret
 exact ⟨rfl, rfl⟩
set_option maxHeartbeats 2000000 in
theorem full_c {n : Nat} (hn : n ≤ 4096) (w : World) :
  Calls Tryz.prog 136 #[.int .i64 n] w fun e w' => e = .returned (.int .i64 ((10 * n : Nat) : Int)) ∧ w = w' := by
 go_enter Tryz.func136, Tryz.ntmps136
 go_wp2
 go_ret
 exact ⟨rfl, rfl⟩

structure Mk (B n seed j : Nat) (w : World) : Prop where
 size : w.heap.size = B + 2 + j
 hd : Blk w (B + 1) 205 #[.int .u64 seed, .int .i64 0, if 0 < j then .slice (some ⟨B + 2, 0, none⟩) n n else .slice none 0 0, if 1 < j then .slice (some ⟨B + 3, 0, none⟩) n n else .slice none 0 0, if 2 < j then .slice (some ⟨B + 4, 0, none⟩) n n else .slice none 0 0, if 3 < j then .slice (some ⟨B + 5, 0, none⟩) n n else .slice none 0 0, .slice (some ⟨B, 0, none⟩) n n]
 door : Blk w B 4 (boolsV (List.replicate n false))
 row : ∀ i, i < j → Blk w (B + 2 + i) 5 (bytesV (List.replicate n 0))
theorem Mk.next {B n seed j : Nat} {w : World} (h : Mk B n seed j w) (hj : j < 4) : Mk B n seed (j + 1) ((w.alloc (.cells (bytesV (List.replicate n 0)) 5)).setCell ⟨B + 1, 2 + j, none⟩ (.slice (some ⟨w.heap.size, 0, none⟩) n n)).drew := by
 have hs := h.size
 have hp := (h.hd.alloc (.cells (bytesV (List.replicate n 0)) 5)).put (2 + j) (.slice (some ⟨w.heap.size, 0, none⟩) n n)
 refine ⟨?_, ?_, ?_, ?_⟩
 ·show ((w.alloc _).setCell _ _).heap.size = _
  rw [World.setCell]
  simp [hs]
  omega
 ·show Blk ((w.alloc _).setCell _ _) _ _ _
  rw [hs] at hp ⊢
  rcases (by omega : j = 0 ∨ j = 1 ∨ j = 2 ∨ j = 3) with rfl | rfl | rfl | rfl <;> exact hp
 ·exact (h.door.alloc _).far (by show B ≠ B + 1; omega) _
 ·intro i hi
  by_cases e : i = j
  ·subst e
   have hn : Blk (w.alloc (.cells (bytesV (List.replicate n 0)) 5)) w.heap.size 5 (bytesV (List.replicate n 0)) := Blk.new _ _ _
   have hq := hn.far (p := ⟨B + 1, 2 + i, none⟩) (by show w.heap.size ≠ B + 1; omega) (.slice (some ⟨w.heap.size, 0, none⟩) n n)
   rw [show w.heap.size = B + 2 + i from hs] at hq ⊢
   exact hq
  ·exact ((h.row i (by omega)).alloc _).far (by show B + 2 + i ≠ B + 1; omega) _
theorem Mk.done {B n seed : Nat} {w : World} (h : Mk B n seed 4 w) : At w B (Sk.new n seed) := ⟨h.hd, h.door, h.row⟩
theorem Mk.start (n seed : Nat) (w : World) : Mk w.heap.size n seed 0 ((w.alloc (.cells (boolsV (List.replicate n false)) 4)).alloc (.cells #[.int .u64 seed, .int .i64 0, .slice none 0 0, .slice none 0 0, .slice none 0 0, .slice none 0 0, .slice (some ⟨w.heap.size, 0, none⟩) n n] 205)) := by
 have h1 : (w.alloc (.cells (boolsV (List.replicate n false)) 4)).heap.size = w.heap.size + 1 := by simp
 have h2 := Blk.new (w.alloc (.cells (boolsV (List.replicate n false)) 4)) 205 #[.int .u64 seed, .int .i64 0, .slice none 0 0, .slice none 0 0, .slice none 0 0, .slice none 0 0, .slice (some ⟨w.heap.size, 0, none⟩) n n]
 rw [h1] at h2
 exact ⟨by simp, h2, (Blk.new w _ _).alloc _, fun i hi => by omega⟩
theorem below_next {B j : Nat} {w v : World} (h : Below B w v) (hB : B ≤ v.heap.size) (u : Value) (o : Obj) : Below B w ((v.alloc o).setCell ⟨B + 1, 2 + j, none⟩ u).drew :=
 ((h.alloc hB o).setCell (p := ⟨B + 1, 2 + j, none⟩) (by show B ≤ B + 1; omega) u).drew
set_option maxHeartbeats 4000000 in
set_option maxRecDepth 100000 in
theorem empty_c {n seed : Nat} (h2 : n ≤ 4096) (w : World) :
  Calls Tryz.prog 128 #[.int .i64 n, .int .u64 seed] w fun e w' => e = .returned (.pointer (some ⟨w.heap.size + 1, 0, none⟩)) ∧ At w' w.heap.size (Sk.new n seed) ∧ Below w.heap.size w w' ∧ w'.heap.size = w.heap.size + 6 := by
 have m1 := fun W => mk_bytes h2 W
 have m2 := fun W => mk_bools h2 W
 go_enter Tryz.func128, Tryz.ntmps128
 go_wp2
 go_loopw [12] (fun i wr => ∃ j : Nat, j ≤ 4 ∧ i = .int .i64 j ∧ Mk w.heap.size n seed j wr ∧ Below w.heap.size w wr) (fun i _ => 4 - (intOf i).toNat)
 case atStart => exact ⟨0, by omega, rfl, Mk.start n seed w, ((Below.refl _ w).alloc (Nat.le_refl _) _).alloc (by simp) _⟩
 case round =>
  obtain ⟨j, hj, rfl, hM, hW⟩ := hrel
  have hz := hW.size
  by_cases h4 : j = 4
  ·subst h4
   have hD := hM.done
   have hS := hM.size
   go_wp2
   go_ret
   exact ⟨rfl, hD, hW, hS⟩
  ·have hN := hM.next (by omega)
   have hW2 := below_next (j := j) hW hz (.slice (some ⟨wr.heap.size, 0, none⟩) n n) (.cells (bytesV (List.replicate n 0)) 5)
   rcases (by omega : j = 0 ∨ j = 1 ∨ j = 2 ∨ j = 3) with rfl | rfl | rfl | rfl
   ·have hcell := fun o => (hM.hd.alloc o).cell 2
    have hfree := fun o => (hM.hd.alloc o).free 2
    go_wp2
    go_region
    go_wp2
    go_roundw
    case rel => exact ⟨1, by omega, rfl, hN, hW2⟩
    case measure => simp [intOf]
   ·have hcell := fun o => (hM.hd.alloc o).cell 3
    have hfree := fun o => (hM.hd.alloc o).free 3
    go_wp2
    go_region
    go_wp2
    go_roundw
    case rel => exact ⟨2, by omega, rfl, hN, hW2⟩
    case measure => simp [intOf]
   ·have hcell := fun o => (hM.hd.alloc o).cell 4
    have hfree := fun o => (hM.hd.alloc o).free 4
    go_wp2
    go_region
    go_wp2
    go_roundw
    case rel => exact ⟨3, by omega, rfl, hN, hW2⟩
    case measure => simp [intOf]
   ·have hcell := fun o => (hM.hd.alloc o).cell 5
    have hfree := fun o => (hM.hd.alloc o).free 5
    go_wp2
    go_region
    go_wp2
    go_roundw
    case rel => exact ⟨4, by omega, rfl, hN, hW2⟩
    case measure => simp [intOf]
set_option maxHeartbeats 2000000 in
theorem new_c {n seed : Nat} (h1 : 1 ≤ n) (h2 : n ≤ 4096) (w : World) :
  Calls Tryz.prog 100 #[.int .i64 n, .int .u64 seed] w fun e w' => e = .returned (.tuple #[.pointer (some ⟨w.heap.size + 1, 0, none⟩), .int .i64 0]) ∧ At w' w.heap.size (Sk.new n seed) ∧ Below w.heap.size w w' ∧ w'.heap.size = w.heap.size + 6 := by
 go_enter Tryz.func100, Tryz.ntmps100
 go_wp2_with fail
 refine (empty_c h2 _).mono ?_
 rintro e w' ⟨rfl, hA, hb, hs⟩
 go_wp2_with fail
 go_ret2
 exact ⟨rfl, hA, hb, hs⟩
end Go.Proofs.YtahmpggaicjgoaaGreatDoor.Sketchy
namespace Go.Proofs.YtahmpggaicjgoaaGreatDoor.Sketchy
open Go.ChangeShapes Go.WideShapes Go.ChangeAt Go.RowKit
open Wirey (Blk Row str str_size str_list Kp)

def ksOf (h n : Nat) (i : Nat) : Nat := Mixy.mix (Mixy.spot h (i : Int)) * n / 18446744073709551616
theorem ksOf_lt {h n : Nat} (hn : 1 ≤ n) (i : Nat) : ksOf h n i < n := Mixy.place_lt _ _ (Mixy.mix_lt _) hn
theorem place_c {h n : Nat} (hn : 1 ≤ n) (hn2 : n ≤ 4096) (i : Nat) (w : World) :
  Calls Tryz.prog 198 #[.int .u64 h, .int .i64 i, .int .i64 n] w fun e w' => e = .returned (.int .i64 (ksOf h n i : Int)) ∧ w' = w :=
 (Mixy.place_yes h (i : Int) n hn (by omega) w).mono fun _ _ ⟨a, b⟩ => ⟨a, b.symm⟩
theorem place_4 {h n : Nat} (hn : 1 ≤ n) (hn2 : n ≤ 4096) (w : World) :
  Calls Tryz.prog 198 #[.int .u64 h, .int .i64 4, .int .i64 n] w fun e w' => e = .returned (.int .i64 (ksOf h n 4 : Int)) ∧ w' = w :=
 place_c hn hn2 4 w
theorem wide_q {B : Nat} {s : Sk} (w : World) (h : At w B s) :
  Calls Tryz.prog 108 #[.pointer (some ⟨B + 1, 0, none⟩)] w fun e w' => e = .returned (.int .i64 s.wide) ∧ w' = w :=
 (wide_c w h).mono fun _ _ ⟨a, b⟩ => ⟨a, b.symm⟩

set_option maxHeartbeats 4000000 in
theorem counter_c {B : Nat} {s : Sk} (h : Nat) {i : Nat} (hi : i < 4) (w : World) (hA : At w B s) (hf : s.Pre) :
  Calls Tryz.prog 200 #[.pointer (some ⟨B + 1, 0, none⟩), .int .i64 i, .int .u64 h] w fun e w' => e = .returned (.pointer (some ⟨B + 2 + i, ksOf h s.wide i, none⟩)) ∧ ∃ m, w' = w.drewN m := by
 have hrow := hA.rowAt hi
 have hk := ksOf_lt (h := h) hf.w1 i
 have w1 := hf.w1
 have w2 := hf.w2
 obtain ⟨k, hke⟩ : ∃ k, k = ksOf h s.wide i := ⟨_, rfl⟩
 have hp := fun W : World => place_c (h := h) w1 w2 i W
 rw [← hke] at hk hp ⊢
 clear hke
 go_enter Tryz.func200, Tryz.ntmps200
 go_wp2_with fail
 go_quiet (first | (go_at_call 108; exact Calls.quiet_of_same (wide_q _ (At.drewN hA _))) | (go_at_call 198; exact Calls.quiet_of_same (hp _)))
 go_wp2_with fail
 go_ret
 exact ⟨rfl, _, rfl⟩
set_option maxHeartbeats 4000000 in
theorem door_c {B : Nat} {s : Sk} (h : Nat) (w : World) (hA : At w B s) (hf : s.Pre) :
  Calls Tryz.prog 194 #[.pointer (some ⟨B + 1, 0, none⟩), .int .u64 h] w fun e w' => e = .returned (.pointer (some ⟨B, ksOf h s.wide 4, none⟩)) ∧ ∃ m, w' = w.drewN m := by
 obtain ⟨_, _, c6⟩ := hA.cells
 have hk := ksOf_lt (h := h) hf.w1 4
 have w1 := hf.w1
 have w2 := hf.w2
 have hp := fun W : World => place_4 (h := h) w1 w2 W
 obtain ⟨k, hke⟩ : ∃ k, k = ksOf h s.wide 4 := ⟨_, rfl⟩
 rw [← hke] at hk hp ⊢
 clear hke
 go_enter Tryz.func194, Tryz.ntmps194
 go_wp2_with fail
 go_quiet (first | (go_at_call 108; exact Calls.quiet_of_same (wide_q _ (At.drewN hA _))) | (go_at_call 198; exact Calls.quiet_of_same (hp _)))
 go_wp2_with fail
 go_ret
 exact ⟨rfl, _, rfl⟩

theorem At.cntP {w : World} {B : Nat} {s : Sk} (h : At w B s) (hf : s.Pre) {ks : Nat → Nat} {i : Nat} (hi : i < 4) (hk : ks i < s.wide) : w.cell? ⟨B + 2 + i, ks i, none⟩ = some (.int .u8 (s.cnt ks i : Int)) :=
 ((h.row i hi).cell _).trans (bytesV_at (by rw [hf.len i hi]; exact hk))
theorem At.bitP {w : World} {B : Nat} {s : Sk} (h : At w B s) (hf : s.Pre) {ks : Nat → Nat} (hk : ks 4 < s.wide) : w.cell? ⟨B, ks 4, none⟩ = some (.bool (s.bit ks)) :=
 (h.door.cell _).trans (boolsV_at (by rw [hf.dlen]; exact hk))

set_option maxHeartbeats 4000000 in
theorem least_c {B : Nat} {s : Sk} (h : Nat) (w : World) (hA : At w B s) (hf : s.Pre) :
  Calls Tryz.prog 199 #[.pointer (some ⟨B + 1, 0, none⟩), .int .u64 h] w fun e w' => e = .returned (.int .u8 (s.lst (ksOf h s.wide) 4 : Int)) ∧ ∃ m, w' = w.drewN m := by
 go_enter Tryz.func199, Tryz.ntmps199
 go_wp2_with fail
 go_loopw [5, 7] (fun l i wr => ∃ j m : Nat, j ≤ 4 ∧ i = .int .i64 j ∧ l = .int .u8 (s.lst (ksOf h s.wide) j : Int) ∧ wr = w.drewN m) (fun _ i _ => 4 - (intOf i).toNat)
 case atStart => exact ⟨0, 0, by omega, rfl, rfl, rfl⟩
 case round =>
  obtain ⟨j, m, hj, rfl, rfl, rfl⟩ := hrel
  have hlst : (s.lst (ksOf h s.wide) j : Int) ≤ 15 := by have := Sk.lst_le (s := s) (ks := ksOf h s.wide) j; omega
  by_cases h4 : j < 4
  ·have hc := hA.cntP hf (ks := ksOf h s.wide) h4 (ksOf_lt hf.w1 j)
   have hcl := hf.cnt_le (ks := ksOf h s.wide) h4
   have hmin : s.lst (ksOf h s.wide) (j + 1) = min (s.lst (ksOf h s.wide) j) (s.cnt (ksOf h s.wide) j) := rfl
   go_wp2_with fail
   refine (counter_c h h4 _ (hA.drewN m) hf).mono ?_
   rintro e w' ⟨rfl, m2, rfl⟩
   go_wp2_with fail
   go_roundw
   case rel => exact ⟨j + 1, m + m2, by omega, rfl, by rw [hmin]; congr 1; split <;> omega, rfl⟩
   case measure => simp [intOf]; omega
  ·obtain rfl : j = 4 := by omega
   go_wp2_with fail
   go_ret
   exact ⟨rfl, _, rfl⟩

end Go.Proofs.YtahmpggaicjgoaaGreatDoor.Sketchy
