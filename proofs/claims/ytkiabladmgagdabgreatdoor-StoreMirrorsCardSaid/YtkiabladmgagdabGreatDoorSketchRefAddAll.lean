/- Chapter 5 over plain lists of numbers: a sketch, what an addition and an ageing make of it, its bytes; that until it ages no key is said to be seen less often than it was. It speaks of no program. A sketch in memory, and the contracts of what makes one: New and empty lay six blocks; Wide, Added, fullAt read. No condition beyond what the functions ask for themselves. Contracts of what reads and grows a sketch: a key's counters and its bit, the least of them, how often it was seen; an addition, an ageing: all numbers of the document's sketch, nothing else turns but its six blocks. No condition but that a key is of at most 2^40 bytes. What an addition and an ageing turn. Seen's contract. An addition's contract. What the laws of layer 5 begin with: a key that was added three times; a text that is not too long. No condition. The document's own sketch in memory (layer 5), and the contracts of what makes and reads one: New, place. Nothing that was there turns. The document's own sketch (layer 5): what reads one: least, Seen. Nothing that was there turns. The document's own addition (layer 5). Nothing that was there turns. -/
import Derived.Test.YtkiabladmgagdabGreatDoorWireReadAll
import Derived.Test.YtkiabladmgagdabGreatDoorRows
import Derived.Test.YtkiabladmgagdabGreatDoorMixWalksAll
import Derived.Test.YtkiabladmgagdabGreatDoorMemAll
import Derived.WalkKit
import Derived.Lib.Hide
import Derived.Laws.MakeOwn
import Derived.Deep.QuietTactic
import Derived.BigQuiet
import Derived.RegionTactic
import Derived.Test.YtkiabladmgagdabGreatDoorWireFlyAll
import Derived.Lib.SliceRun
import Derived.Deep.DeepCutAuto
import Derived.StillTailTactics
import Derived.Deep.AppendLies
import Derived.Deep.RegionLaw
import Derived.Deep.RegionHeld3
import Derived.Laws.CopyRow
import Derived.Deep.CutRange
import Derived.Test.YtkiabladmgagdabGreatDoorSq
namespace Go.Proofs.YtkiabladmgagdabGreatDoor.Sketchy

structure Sk where
 wide : Nat
 seed : Nat
 added : Nat
 r : Nat → List Nat
 door : List Bool

structure Sk.Wf (s : Sk) : Prop where
 w1 : 1 ≤ s.wide
 w2 : s.wide ≤ 4096
 seed : s.seed < 18446744073709551616
 added : s.added < 10 * s.wide
 len : ∀ i, i < 4 → (s.r i).length = s.wide
 top : ∀ i, i < 4 → ∀ c ∈ s.r i, c ≤ 15
 dlen : s.door.length = s.wide

def Sk.new (wide seed : Nat) : Sk := ⟨wide, seed, 0, fun _ => List.replicate wide 0, List.replicate wide false⟩
theorem Sk.new_wf {wide seed : Nat} (h1 : 1 ≤ wide) (h2 : wide ≤ 4096) (h3 : seed < 18446744073709551616) : (Sk.new wide seed).Wf :=
 ⟨h1, h2, h3, by show 0 < 10 * wide; omega, fun _ _ => List.length_replicate .., fun _ _ c hc => by rw [List.eq_of_mem_replicate hc]; omega, List.length_replicate ..⟩

def Sk.cnt (s : Sk) (ks : Nat → Nat) (i : Nat) : Nat := (s.r i)[ks i]?.getD 0
def Sk.bit (s : Sk) (ks : Nat → Nat) : Bool := s.door[ks 4]?.getD false
def Sk.lst (s : Sk) (ks : Nat → Nat) : Nat → Nat
 | 0 => 15
 | j + 1 => min (Sk.lst s ks j) (s.cnt ks j)
def Sk.seen (s : Sk) (ks : Nat → Nat) : Nat := s.lst ks 4 + (if s.bit ks then 1 else 0)
def upRow (l : List Nat) (k m : Nat) : List Nat := if l[k]?.getD 0 = m then l.set k (m + 1) else l
def Sk.up (s : Sk) (ks : Nat → Nat) (j : Nat) : Sk := { s with r := fun i => if i < j then upRow (s.r i) (ks i) (s.lst ks 4) else s.r i }
def Sk.grow (s : Sk) (ks : Nat → Nat) : Sk := if s.lst ks 4 = 15 then s else s.up ks 4
def Sk.mark (s : Sk) (ks : Nat → Nat) : Sk := { s with door := s.door.set (ks 4) true }
def Sk.note (s : Sk) (ks : Nat → Nat) : Sk := if s.bit ks then s.grow ks else s.mark ks
def Sk.age (s : Sk) : Sk := ⟨s.wide, s.seed, s.added / 2, fun i => (s.r i).map (· / 2), List.replicate s.wide false⟩
def Sk.count (s : Sk) : Sk := { s with added := s.added + 1 }
def Sk.add (s : Sk) (ks : Nat → Nat) : Sk := if 10 * s.wide ≤ s.added + 1 then ((s.note ks).count).age else (s.note ks).count

structure Sk.Pre (s : Sk) : Prop where
 w1 : 1 ≤ s.wide
 w2 : s.wide ≤ 4096
 seed : s.seed < 18446744073709551616
 added : s.added ≤ 10 * s.wide
 len : ∀ i, i < 4 → (s.r i).length = s.wide
 top : ∀ i, i < 4 → ∀ c ∈ s.r i, c ≤ 15
 dlen : s.door.length = s.wide
theorem Sk.Wf.pre {s : Sk} (h : s.Wf) : s.Pre := ⟨h.w1, h.w2, h.seed, Nat.le_of_lt h.added, h.len, h.top, h.dlen⟩
theorem Sk.Pre.wf {s : Sk} (h : s.Pre) (ha : s.added < 10 * s.wide) : s.Wf := ⟨h.w1, h.w2, h.seed, ha, h.len, h.top, h.dlen⟩

section
variable {s : Sk} {ks : Nat → Nat}
theorem Sk.Pre.cnt_le (h : s.Pre) {i : Nat} (hi : i < 4) : s.cnt ks i ≤ 15 := by
 unfold Sk.cnt
 by_cases hk : ks i < (s.r i).length
 ·rw [List.getElem?_eq_getElem hk]; exact h.top i hi _ (List.getElem_mem hk)
 ·rw [List.getElem?_eq_none (by omega)]; exact Nat.zero_le _
theorem Sk.lst_le (j : Nat) : s.lst ks j ≤ 15 := by
 induction j with
 | zero => exact Nat.le_refl _
 | succ j ih => exact Nat.le_trans (Nat.min_le_left ..) ih
theorem upRow_length (l : List Nat) (k m : Nat) : (upRow l k m).length = l.length := by unfold upRow; split <;> simp
theorem upRow_top {l : List Nat} {k m : Nat} (hm : m < 15) (h : ∀ c ∈ l, c ≤ 15) : ∀ c ∈ upRow l k m, c ≤ 15 := by
 intro c hc
 unfold upRow at hc
 split at hc
 ·rcases List.mem_or_eq_of_mem_set hc with h1 | h1
  ·exact h c h1
  ·omega
 ·exact h c hc
theorem Sk.up_zero : s.up ks 0 = s := by
 unfold Sk.up
 simp
theorem Sk.Pre.up (h : s.Pre) (hm : s.lst ks 4 ≠ 15) (j : Nat) : (s.up ks j).Pre := by
 have h15 := Sk.lst_le (s := s) (ks := ks) 4
 refine ⟨h.w1, h.w2, h.seed, h.added, fun i hi => ?_, fun i hi c hc => ?_, h.dlen⟩
 ·show (if i < j then upRow (s.r i) (ks i) (s.lst ks 4) else s.r i).length = s.wide
  split
  ·rw [upRow_length]; exact h.len i hi
  ·exact h.len i hi
 ·have hc : c ∈ (if i < j then upRow (s.r i) (ks i) (s.lst ks 4) else s.r i) := hc
  split at hc
  ·exact upRow_top (by omega) (h.top i hi) c hc
  ·exact h.top i hi c hc
theorem Sk.Pre.grow (h : s.Pre) : (s.grow ks).Pre := by
 unfold Sk.grow
 split
 ·exact h
 ·next hm => exact h.up hm 4
theorem Sk.Pre.mark (h : s.Pre) : (s.mark ks).Pre := ⟨h.w1, h.w2, h.seed, h.added, h.len, h.top, by show (s.door.set _ _).length = _; rw [List.length_set]; exact h.dlen⟩
theorem Sk.Pre.note (h : s.Pre) : (s.note ks).Pre := by
 unfold Sk.note
 split
 ·exact h.grow
 ·exact h.mark
theorem Sk.grow_fix : (s.grow ks).wide = s.wide ∧ (s.grow ks).added = s.added ∧ (s.grow ks).seed = s.seed := by
 unfold Sk.grow
 split <;> exact ⟨rfl, rfl, rfl⟩
theorem Sk.note_fix : (s.note ks).wide = s.wide ∧ (s.note ks).added = s.added ∧ (s.note ks).seed = s.seed := by
 unfold Sk.note
 split
 ·exact Sk.grow_fix
 ·exact ⟨rfl, rfl, rfl⟩
theorem Sk.Wf.count (h : s.Wf) : (s.note ks).count.Pre := by
 have hp := (h.pre.note (ks := ks))
 have hf := Sk.note_fix (s := s) (ks := ks)
 exact ⟨hp.w1, hp.w2, hp.seed, by show (s.note ks).added + 1 ≤ 10 * (s.note ks).wide; rw [hf.1, hf.2.1]; exact h.added, hp.len, hp.top, hp.dlen⟩
theorem Sk.Pre.age (h : s.Pre) : s.age.Wf := by
 have := h.w1
 have := h.added
 refine ⟨h.w1, h.w2, h.seed, by show s.added / 2 < 10 * s.wide; omega, fun i hi => ?_, fun i hi c hc => ?_, List.length_replicate ..⟩
 ·show ((s.r i).map _).length = s.wide
  rw [List.length_map]; exact h.len i hi
 ·have hc : c ∈ (s.r i).map (· / 2) := hc
  obtain ⟨x, hx, rfl⟩ := List.mem_map.1 hc
  have := h.top i hi x hx
  omega
theorem Sk.Wf.add (h : s.Wf) : (s.add ks).Wf := by
 unfold Sk.add
 have hf := Sk.note_fix (s := s) (ks := ks)
 split
 ·exact h.count.age
 ·exact h.count.wf (by show (s.note ks).added + 1 < 10 * (s.note ks).wide; rw [hf.1, hf.2.1]; omega)
theorem Sk.add_fix : (s.add ks).wide = s.wide ∧ (s.add ks).seed = s.seed := by
 unfold Sk.add
 have hf := Sk.note_fix (s := s) (ks := ks)
 split
 ·exact ⟨hf.1, hf.2.2⟩
 ·exact ⟨hf.1, hf.2.2⟩
end

def rowB (l : List Nat) : List UInt8 := l.map UInt8.ofNat
def flagB (b : Bool) : UInt8 := if b then 1 else 0
def Sk.put (s : Sk) : List UInt8 :=
 Wirey.enc s.wide ++ Wirey.enc s.seed ++ Wirey.enc s.added ++ (rowB (s.r 0) ++ rowB (s.r 1) ++ rowB (s.r 2) ++ rowB (s.r 3)) ++ s.door.map flagB
end Go.Proofs.YtkiabladmgagdabGreatDoor.Sketchy
namespace Go.Proofs.YtkiabladmgagdabGreatDoor.Sketchy
open Go.ChangeShapes Go.WideShapes Go.ChangeAt Go.RowKit
open Wirey (Blk Row str str_size str_list)

def bytesV (l : List Nat) : Array Value := (l.map fun n : Nat => Value.int .u8 (n : Int)).toArray
def boolsV (l : List Bool) : Array Value := (l.map Value.bool).toArray
structure At (w : World) (B : Nat) (s : Sk) : Prop where
 hd : Blk w (B + 1) 203 #[.int .u64 s.seed, .int .i64 s.added, .slice (some ⟨B + 2, 0, none⟩) s.wide s.wide, .slice (some ⟨B + 3, 0, none⟩) s.wide s.wide, .slice (some ⟨B + 4, 0, none⟩) s.wide s.wide, .slice (some ⟨B + 5, 0, none⟩) s.wide s.wide, .slice (some ⟨B, 0, none⟩) s.wide s.wide]
 door : Blk w B 4 (boolsV s.door)
 row : ∀ i, i < 4 → Blk w (B + 2 + i) 5 (bytesV (s.r i))
section
variable {w w' : World} {B : Nat} {s : Sk}
theorem At.lt (h : At w B s) : B + 5 < w.heap.size := (h.row 3 (by omega)).lt
theorem At.drew (h : At w B s) : At w.drew B s := ⟨h.hd, h.door, h.row⟩
theorem At.drewN (h : At w B s) (n : Nat) : At (w.drewN n) B s := ⟨h.hd, h.door, h.row⟩
theorem At.below {C : Nat} (h : At w B s) (hb : Below C w w') (hC : B + 5 < C) : At w' B s :=
 ⟨h.hd.below hb (by omega), h.door.below hb (by omega), fun i hi => (h.row i hi).below hb (by omega)⟩
theorem At.alloc (h : At w B s) (o : Obj) : At (w.alloc o) B s := ⟨h.hd.alloc o, h.door.alloc o, fun i hi => (h.row i hi).alloc o⟩
theorem At.cells (h : At w B s) : w.cell? ⟨B + 1, 0, none⟩ = some (.int .u64 s.seed) ∧ w.cell? ⟨B + 1, 1, none⟩ = some (.int .i64 s.added) ∧ w.cell? ⟨B + 1, 6, none⟩ = some (.slice (some ⟨B, 0, none⟩) s.wide s.wide) :=
 ⟨h.hd.cell 0, h.hd.cell 1, h.hd.cell 6⟩
theorem At.rows (h : At w B s) : w.cell? ⟨B + 1, 2, none⟩ = some (.slice (some ⟨B + 2, 0, none⟩) s.wide s.wide) ∧ w.cell? ⟨B + 1, 3, none⟩ = some (.slice (some ⟨B + 3, 0, none⟩) s.wide s.wide) ∧
  w.cell? ⟨B + 1, 4, none⟩ = some (.slice (some ⟨B + 4, 0, none⟩) s.wide s.wide) ∧ w.cell? ⟨B + 1, 5, none⟩ = some (.slice (some ⟨B + 5, 0, none⟩) s.wide s.wide) :=
 ⟨h.hd.cell 2, h.hd.cell 3, h.hd.cell 4, h.hd.cell 5⟩
theorem At.rowAt (h : At w B s) {i : Nat} (hi : i < 4) : w.cell? ⟨B + 1, 2 + i, none⟩ = some (.slice (some ⟨B + 2 + i, 0, none⟩) s.wide s.wide) := by
 obtain ⟨h0, h1, h2, h3⟩ := h.rows
 rcases (by omega : i = 0 ∨ i = 1 ∨ i = 2 ∨ i = 3) with rfl | rfl | rfl | rfl
 ·exact h0
 ·exact h1
 ·exact h2
 ·exact h3
theorem bytesV_at {l : List Nat} {k : Nat} (hk : k < l.length) : (bytesV l)[k]? = some (.int .u8 ((l[k]?.getD 0 : Nat) : Int)) := by
 unfold bytesV
 rw [List.getElem?_toArray, List.getElem?_map, List.getElem?_eq_getElem hk]
 rfl
theorem boolsV_at {l : List Bool} {k : Nat} (hk : k < l.length) : (boolsV l)[k]? = some (.bool (l[k]?.getD false)) := by
 unfold boolsV
 rw [List.getElem?_toArray, List.getElem?_map, List.getElem?_eq_getElem hk]
 rfl
end

theorem mk_cells (z : Value) (n : Nat) : madeCells #[z] n = (List.replicate n z).toArray := by
 rw [← toList_madeCells_one z n]
theorem byte_info : (Tryz.prog.info? 5).map (fun i => (i.zero, i.size, i.bytes)) = some (some (.int .u8 0), 1, 1) := by kernel_rfl
theorem bool_info : (Tryz.prog.info? 4).map (fun i => (i.zero, i.size, i.bytes)) = some (some (.bool false), 1, 1) := by kernel_rfl
theorem mk_bytes {n : Nat} (hn : n ≤ 4096) (w : World) : (Instr.makeSlice 96 (.int .i64 n) (.int .i64 n)).run Tryz.prog w = .ok (.slice (some ⟨w.heap.size, 0, none⟩) n n) (w.alloc (.cells (bytesV (List.replicate n 0)) 5)) := by
 obtain ⟨i0, hi, hz0, hz1, hz2⟩ := info_parts byte_info
 have h := run_make (P := Tryz.prog) w 96 5 i0 (.int .u8 0) Tryz.underlying96 hi hz0 .i64 .i64 (n : Int) (n : Int) (by omega) (by omega) (by rw [hz2]; omega) (by omega)
 rw [h, hz1, Int.toNat_natCast, Nat.mul_one]
 have e : madeCells (Value.int .u8 0).cells n = bytesV (List.replicate n 0) := by
  show madeCells #[Value.int .u8 0] n = _
  rw [mk_cells, bytesV, List.map_replicate]
  rfl
 rw [e]
theorem mk_bools {n : Nat} (hn : n ≤ 4096) (w : World) : (Instr.makeSlice 201 (.int .i64 n) (.int .i64 n)).run Tryz.prog w = .ok (.slice (some ⟨w.heap.size, 0, none⟩) n n) (w.alloc (.cells (boolsV (List.replicate n false)) 4)) := by
 obtain ⟨i0, hi, hz0, hz1, hz2⟩ := info_parts bool_info
 have h := run_make (P := Tryz.prog) w 201 4 i0 (.bool false) Tryz.underlying201 hi hz0 .i64 .i64 (n : Int) (n : Int) (by omega) (by omega) (by rw [hz2]; omega) (by omega)
 rw [h, hz1, Int.toNat_natCast, Nat.mul_one]
 have e : madeCells (Value.bool false).cells n = boolsV (List.replicate n false) := by
  show madeCells #[Value.bool false] n = _
  rw [mk_cells, boolsV, List.map_replicate]
 rw [e]

set_option maxHeartbeats 2000000 in
theorem wide_c {B : Nat} {s : Sk} (w : World) (h : At w B s) :
  Calls Tryz.prog 105 #[.pointer (some ⟨B + 1, 0, none⟩)] w fun e w' => e = .returned (.int .i64 s.wide) ∧ w = w' := by
 obtain ⟨c0, c1, c6⟩ := h.cells
 go_enter Tryz.func105, Tryz.ntmps105
 go_wp2
 go_ret
 exact ⟨rfl, rfl⟩
set_option maxHeartbeats 2000000 in
theorem full_c {n : Nat} (hn : n ≤ 4096) (w : World) :
  Calls Tryz.prog 134 #[.int .i64 n] w fun e w' => e = .returned (.int .i64 ((10 * n : Nat) : Int)) ∧ w = w' := by
 go_enter Tryz.func134, Tryz.ntmps134
 go_wp2
 go_ret
 exact ⟨rfl, rfl⟩

structure Mk (B n seed j : Nat) (w : World) : Prop where
 size : w.heap.size = B + 2 + j
 hd : Blk w (B + 1) 203 #[.int .u64 seed, .int .i64 0, if 0 < j then .slice (some ⟨B + 2, 0, none⟩) n n else .slice none 0 0, if 1 < j then .slice (some ⟨B + 3, 0, none⟩) n n else .slice none 0 0, if 2 < j then .slice (some ⟨B + 4, 0, none⟩) n n else .slice none 0 0, if 3 < j then .slice (some ⟨B + 5, 0, none⟩) n n else .slice none 0 0, .slice (some ⟨B, 0, none⟩) n n]
 door : Blk w B 4 (boolsV (List.replicate n false))
 row : ∀ i, i < j → Blk w (B + 2 + i) 5 (bytesV (List.replicate n 0))
theorem Mk.next {B n seed j : Nat} {w : World} (h : Mk B n seed j w) (hj : j < 4) : Mk B n seed (j + 1) ((w.alloc (.cells (bytesV (List.replicate n 0)) 5)).setCell ⟨B + 1, 2 + j, none⟩ (.slice (some ⟨w.heap.size, 0, none⟩) n n)).drew := by
 have hs := h.size
 have hp := (h.hd.alloc (.cells (bytesV (List.replicate n 0)) 5)).put (2 + j) (.slice (some ⟨w.heap.size, 0, none⟩) n n)
 refine ⟨?_, ?_, ?_, ?_⟩
 ·show ((w.alloc _).setCell _ _).heap.size = _
  rw [World.setCell]
  simp [hs]
  omega
 ·show Blk ((w.alloc _).setCell _ _) _ _ _
  rw [hs] at hp ⊢
  rcases (by omega : j = 0 ∨ j = 1 ∨ j = 2 ∨ j = 3) with rfl | rfl | rfl | rfl <;> exact hp
 ·exact (h.door.alloc _).far (by show B ≠ B + 1; omega) _
 ·intro i hi
  by_cases e : i = j
  ·subst e
   have hn : Blk (w.alloc (.cells (bytesV (List.replicate n 0)) 5)) w.heap.size 5 (bytesV (List.replicate n 0)) := Blk.new _ _ _
   have hq := hn.far (p := ⟨B + 1, 2 + i, none⟩) (by show w.heap.size ≠ B + 1; omega) (.slice (some ⟨w.heap.size, 0, none⟩) n n)
   rw [show w.heap.size = B + 2 + i from hs] at hq ⊢
   exact hq
  ·exact ((h.row i (by omega)).alloc _).far (by show B + 2 + i ≠ B + 1; omega) _
theorem Mk.done {B n seed : Nat} {w : World} (h : Mk B n seed 4 w) : At w B (Sk.new n seed) := ⟨h.hd, h.door, h.row⟩
theorem Mk.start (n seed : Nat) (w : World) : Mk w.heap.size n seed 0 ((w.alloc (.cells (boolsV (List.replicate n false)) 4)).alloc (.cells #[.int .u64 seed, .int .i64 0, .slice none 0 0, .slice none 0 0, .slice none 0 0, .slice none 0 0, .slice (some ⟨w.heap.size, 0, none⟩) n n] 203)) := by
 have h1 : (w.alloc (.cells (boolsV (List.replicate n false)) 4)).heap.size = w.heap.size + 1 := by simp
 have h2 := Blk.new (w.alloc (.cells (boolsV (List.replicate n false)) 4)) 203 #[.int .u64 seed, .int .i64 0, .slice none 0 0, .slice none 0 0, .slice none 0 0, .slice none 0 0, .slice (some ⟨w.heap.size, 0, none⟩) n n]
 rw [h1] at h2
 exact ⟨by simp, h2, (Blk.new w _ _).alloc _, fun i hi => by omega⟩
theorem below_next {B j : Nat} {w v : World} (h : Below B w v) (hB : B ≤ v.heap.size) (u : Value) (o : Obj) : Below B w ((v.alloc o).setCell ⟨B + 1, 2 + j, none⟩ u).drew :=
 ((h.alloc hB o).setCell (p := ⟨B + 1, 2 + j, none⟩) (by show B ≤ B + 1; omega) u).drew
set_option maxHeartbeats 4000000 in
set_option maxRecDepth 100000 in
theorem empty_c {n seed : Nat} (h2 : n ≤ 4096) (w : World) :
  Calls Tryz.prog 126 #[.int .i64 n, .int .u64 seed] w fun e w' => e = .returned (.pointer (some ⟨w.heap.size + 1, 0, none⟩)) ∧ At w' w.heap.size (Sk.new n seed) ∧ Below w.heap.size w w' ∧ w'.heap.size = w.heap.size + 6 := by
 have m1 := fun W => mk_bytes h2 W
 have m2 := fun W => mk_bools h2 W
 go_enter Tryz.func126, Tryz.ntmps126
 go_wp2
 go_loopw [12] (fun i wr => ∃ j : Nat, j ≤ 4 ∧ i = .int .i64 j ∧ Mk w.heap.size n seed j wr ∧ Below w.heap.size w wr) (fun i _ => 4 - (intOf i).toNat)
 case atStart => exact ⟨0, by omega, rfl, Mk.start n seed w, ((Below.refl _ w).alloc (Nat.le_refl _) _).alloc (by simp) _⟩
 case round =>
  obtain ⟨j, hj, rfl, hM, hW⟩ := hrel
  have hz := hW.size
  by_cases h4 : j = 4
  ·subst h4
   have hD := hM.done
   have hS := hM.size
   go_wp2
   go_ret
   exact ⟨rfl, hD, hW, hS⟩
  ·have hN := hM.next (by omega)
   have hW2 := below_next (j := j) hW hz (.slice (some ⟨wr.heap.size, 0, none⟩) n n) (.cells (bytesV (List.replicate n 0)) 5)
   rcases (by omega : j = 0 ∨ j = 1 ∨ j = 2 ∨ j = 3) with rfl | rfl | rfl | rfl
   ·have hcell := fun o => (hM.hd.alloc o).cell 2
    have hfree := fun o => (hM.hd.alloc o).free 2
    go_wp2
    go_region
    go_wp2
    go_roundw
    case rel => exact ⟨1, by omega, rfl, hN, hW2⟩
    case measure => simp [intOf]
   ·have hcell := fun o => (hM.hd.alloc o).cell 3
    have hfree := fun o => (hM.hd.alloc o).free 3
    go_wp2
    go_region
    go_wp2
    go_roundw
    case rel => exact ⟨2, by omega, rfl, hN, hW2⟩
    case measure => simp [intOf]
   ·have hcell := fun o => (hM.hd.alloc o).cell 4
    have hfree := fun o => (hM.hd.alloc o).free 4
    go_wp2
    go_region
    go_wp2
    go_roundw
    case rel => exact ⟨3, by omega, rfl, hN, hW2⟩
    case measure => simp [intOf]
   ·have hcell := fun o => (hM.hd.alloc o).cell 5
    have hfree := fun o => (hM.hd.alloc o).free 5
    go_wp2
    go_region
    go_wp2
    go_roundw
    case rel => exact ⟨4, by omega, rfl, hN, hW2⟩
    case measure => simp [intOf]
set_option maxHeartbeats 2000000 in
theorem new_c {n seed : Nat} (h1 : 1 ≤ n) (h2 : n ≤ 4096) (w : World) :
  Calls Tryz.prog 97 #[.int .i64 n, .int .u64 seed] w fun e w' => e = .returned (.tuple #[.pointer (some ⟨w.heap.size + 1, 0, none⟩), .int .i64 0]) ∧ At w' w.heap.size (Sk.new n seed) ∧ Below w.heap.size w w' ∧ w'.heap.size = w.heap.size + 6 := by
 go_enter Tryz.func97, Tryz.ntmps97
 go_wp2_with fail
 refine (empty_c h2 _).mono ?_
 rintro e w' ⟨rfl, hA, hb, hs⟩
 go_wp2_with fail
 go_ret2
 exact ⟨rfl, hA, hb, hs⟩
end Go.Proofs.YtkiabladmgagdabGreatDoor.Sketchy
namespace Go.Proofs.YtkiabladmgagdabGreatDoor.Sketchy
open Go.ChangeShapes Go.WideShapes Go.ChangeAt Go.RowKit
open Wirey (Blk Row str str_size str_list Kp)

def ksOf (h n : Nat) (i : Nat) : Nat := Mixy.mix (Mixy.spot h (i : Int)) * n / 18446744073709551616
theorem ksOf_lt {h n : Nat} (hn : 1 ≤ n) (i : Nat) : ksOf h n i < n := Mixy.place_lt _ _ (Mixy.mix_lt _) hn
theorem place_c {h n : Nat} (hn : 1 ≤ n) (hn2 : n ≤ 4096) (i : Nat) (w : World) :
  Calls Tryz.prog 197 #[.int .u64 h, .int .i64 i, .int .i64 n] w fun e w' => e = .returned (.int .i64 (ksOf h n i : Int)) ∧ w' = w :=
 (Mixy.place_yes h (i : Int) n hn (by omega) w).mono fun _ _ ⟨a, b⟩ => ⟨a, b.symm⟩
theorem place_4 {h n : Nat} (hn : 1 ≤ n) (hn2 : n ≤ 4096) (w : World) :
  Calls Tryz.prog 197 #[.int .u64 h, .int .i64 4, .int .i64 n] w fun e w' => e = .returned (.int .i64 (ksOf h n 4 : Int)) ∧ w' = w :=
 place_c hn hn2 4 w
theorem wide_q {B : Nat} {s : Sk} (w : World) (h : At w B s) :
  Calls Tryz.prog 105 #[.pointer (some ⟨B + 1, 0, none⟩)] w fun e w' => e = .returned (.int .i64 s.wide) ∧ w' = w :=
 (wide_c w h).mono fun _ _ ⟨a, b⟩ => ⟨a, b.symm⟩

set_option maxHeartbeats 4000000 in
theorem counter_c {B : Nat} {s : Sk} (h : Nat) {i : Nat} (hi : i < 4) (w : World) (hA : At w B s) (hf : s.Pre) :
  Calls Tryz.prog 199 #[.pointer (some ⟨B + 1, 0, none⟩), .int .i64 i, .int .u64 h] w fun e w' => e = .returned (.pointer (some ⟨B + 2 + i, ksOf h s.wide i, none⟩)) ∧ ∃ m, w' = w.drewN m := by
 have hrow := hA.rowAt hi
 have hk := ksOf_lt (h := h) hf.w1 i
 have w1 := hf.w1
 have w2 := hf.w2
 obtain ⟨k, hke⟩ : ∃ k, k = ksOf h s.wide i := ⟨_, rfl⟩
 have hp := fun W : World => place_c (h := h) w1 w2 i W
 rw [← hke] at hk hp ⊢
 clear hke
 go_enter Tryz.func199, Tryz.ntmps199
 go_wp2_with fail
 go_quiet (first | (go_at_call 105; exact Calls.quiet_of_same (wide_q _ (At.drewN hA _))) | (go_at_call 197; exact Calls.quiet_of_same (hp _)))
 go_wp2_with fail
 go_ret
 exact ⟨rfl, _, rfl⟩
set_option maxHeartbeats 4000000 in
theorem door_c {B : Nat} {s : Sk} (h : Nat) (w : World) (hA : At w B s) (hf : s.Pre) :
  Calls Tryz.prog 193 #[.pointer (some ⟨B + 1, 0, none⟩), .int .u64 h] w fun e w' => e = .returned (.pointer (some ⟨B, ksOf h s.wide 4, none⟩)) ∧ ∃ m, w' = w.drewN m := by
 obtain ⟨_, _, c6⟩ := hA.cells
 have hk := ksOf_lt (h := h) hf.w1 4
 have w1 := hf.w1
 have w2 := hf.w2
 have hp := fun W : World => place_4 (h := h) w1 w2 W
 obtain ⟨k, hke⟩ : ∃ k, k = ksOf h s.wide 4 := ⟨_, rfl⟩
 rw [← hke] at hk hp ⊢
 clear hke
 go_enter Tryz.func193, Tryz.ntmps193
 go_wp2_with fail
 go_quiet (first | (go_at_call 105; exact Calls.quiet_of_same (wide_q _ (At.drewN hA _))) | (go_at_call 197; exact Calls.quiet_of_same (hp _)))
 go_wp2_with fail
 go_ret
 exact ⟨rfl, _, rfl⟩

theorem At.cntP {w : World} {B : Nat} {s : Sk} (h : At w B s) (hf : s.Pre) {ks : Nat → Nat} {i : Nat} (hi : i < 4) (hk : ks i < s.wide) : w.cell? ⟨B + 2 + i, ks i, none⟩ = some (.int .u8 (s.cnt ks i : Int)) :=
 ((h.row i hi).cell _).trans (bytesV_at (by rw [hf.len i hi]; exact hk))
theorem At.bitP {w : World} {B : Nat} {s : Sk} (h : At w B s) (hf : s.Pre) {ks : Nat → Nat} (hk : ks 4 < s.wide) : w.cell? ⟨B, ks 4, none⟩ = some (.bool (s.bit ks)) :=
 (h.door.cell _).trans (boolsV_at (by rw [hf.dlen]; exact hk))

set_option maxHeartbeats 4000000 in
theorem least_c {B : Nat} {s : Sk} (h : Nat) (w : World) (hA : At w B s) (hf : s.Pre) :
  Calls Tryz.prog 198 #[.pointer (some ⟨B + 1, 0, none⟩), .int .u64 h] w fun e w' => e = .returned (.int .u8 (s.lst (ksOf h s.wide) 4 : Int)) ∧ ∃ m, w' = w.drewN m := by
 go_enter Tryz.func198, Tryz.ntmps198
 go_wp2_with fail
 go_loopw [5, 7] (fun l i wr => ∃ j m : Nat, j ≤ 4 ∧ i = .int .i64 j ∧ l = .int .u8 (s.lst (ksOf h s.wide) j : Int) ∧ wr = w.drewN m) (fun _ i _ => 4 - (intOf i).toNat)
 case atStart => exact ⟨0, 0, by omega, rfl, rfl, rfl⟩
 case round =>
  obtain ⟨j, m, hj, rfl, rfl, rfl⟩ := hrel
  have hlst : (s.lst (ksOf h s.wide) j : Int) ≤ 15 := by have := Sk.lst_le (s := s) (ks := ksOf h s.wide) j; omega
  by_cases h4 : j < 4
  ·have hc := hA.cntP hf (ks := ksOf h s.wide) h4 (ksOf_lt hf.w1 j)
   have hcl := hf.cnt_le (ks := ksOf h s.wide) h4
   have hmin : s.lst (ksOf h s.wide) (j + 1) = min (s.lst (ksOf h s.wide) j) (s.cnt (ksOf h s.wide) j) := rfl
   go_wp2_with fail
   refine (counter_c h h4 _ (hA.drewN m) hf).mono ?_
   rintro e w' ⟨rfl, m2, rfl⟩
   go_wp2_with fail
   go_roundw
   case rel => exact ⟨j + 1, m + m2, by omega, rfl, by rw [hmin]; congr 1; split <;> omega, rfl⟩
   case measure => simp [intOf]; omega
  ·obtain rfl : j = 4 := by omega
   go_wp2_with fail
   go_ret
   exact ⟨rfl, _, rfl⟩

end Go.Proofs.YtkiabladmgagdabGreatDoor.Sketchy
namespace Go.Proofs.YtkiabladmgagdabGreatDoor.Sketchy
open Go.ChangeShapes Go.WideShapes Go.ChangeAt Go.RowKit
open Wirey (Blk Row str str_size str_list Kp)

theorem bytesV_put {l : List Nat} (k v : Nat) : (bytesV l).setIfInBounds k (.int .u8 (v : Int)) = bytesV (l.set k v) := by
 unfold bytesV
 rw [List.setIfInBounds_toArray, List.map_set]
theorem boolsV_put {l : List Bool} (k : Nat) (v : Bool) : (boolsV l).setIfInBounds k (.bool v) = boolsV (l.set k v) := by
 unfold boolsV
 rw [List.setIfInBounds_toArray, List.map_set]
def Six (B k : Nat) : Prop := B ≤ k ∧ k ≤ B + 5
section
variable {w : World} {B : Nat} {s : Sk} {ks : Nat → Nat} {j : Nat}
theorem up_r (i : Nat) : (s.up ks j).r i = if i < j then upRow (s.r i) (ks i) (s.lst ks 4) else s.r i := rfl
theorem At.upStay (h : At w B (s.up ks j)) (hne : s.cnt ks j ≠ s.lst ks 4) : At w B (s.up ks (j + 1)) := by
 refine ⟨h.hd, h.door, fun i hi => ?_⟩
 have hr := h.row i hi
 rw [up_r] at hr ⊢
 by_cases e : i = j
 ·subst e
  rw [if_neg (by omega)] at hr
  rw [if_pos (by omega), upRow, if_neg (show ¬ (s.r i)[ks i]?.getD 0 = s.lst ks 4 from hne)]
  exact hr
 ·by_cases e2 : i < j
  ·rw [if_pos e2] at hr
   rw [if_pos (by omega)]
   exact hr
  ·rw [if_neg e2] at hr
   rw [if_neg (by omega)]
   exact hr
theorem At.upSet (h : At w B (s.up ks j)) (heq : s.cnt ks j = s.lst ks 4) : At (w.setCell ⟨B + 2 + j, ks j, none⟩ (.int .u8 ((s.lst ks 4 + 1 : Nat) : Int))) B (s.up ks (j + 1)) := by
 refine ⟨h.hd.far (by show B + 1 ≠ B + 2 + j; omega) _, h.door.far (by show B ≠ B + 2 + j; omega) _, fun i hi => ?_⟩
 have hr := h.row i hi
 rw [up_r] at hr ⊢
 by_cases e : i = j
 ·subst e
  rw [if_neg (by omega)] at hr
  have hp := hr.put (ks i) (.int .u8 ((s.lst ks 4 + 1 : Nat) : Int))
  rw [bytesV_put] at hp
  rw [if_pos (by omega), upRow, if_pos (show (s.r i)[ks i]?.getD 0 = s.lst ks 4 from heq)]
  exact hp
 ·have hp := hr.far (p := ⟨B + 2 + j, ks j, none⟩) (by show B + 2 + i ≠ B + 2 + j; omega) (.int .u8 ((s.lst ks 4 + 1 : Nat) : Int))
  by_cases e2 : i < j
  ·rw [if_pos e2] at hp
   rw [if_pos (by omega)]
   exact hp
  ·rw [if_neg e2] at hp
   rw [if_neg (by omega)]
   exact hp
end
theorem Kp.drewN' {S : Nat → Prop} {a w : World} (h : Kp S a w) (n : Nat) : Kp S a (w.drewN n) := ⟨h.os, h.tape, h.output, h.size, h.block⟩

set_option maxHeartbeats 4000000 in
theorem grow_c {B : Nat} {s : Sk} (h : Nat) (w : World) (hA : At w B s) (hf : s.Pre) :
  Calls Tryz.prog 194 #[.pointer (some ⟨B + 1, 0, none⟩), .int .u64 h] w fun e w' => e = .returned (.tuple #[]) ∧ At w' B (s.grow (ksOf h s.wide)) ∧ Kp (Six B) w w' := by
 have hlst := Sk.lst_le (s := s) (ks := ksOf h s.wide) 4
 obtain ⟨ks, hks⟩ : ∃ ks, ks = ksOf h s.wide := ⟨_, rfl⟩
 have HKS := Lib.hid hks
 go_enter Tryz.func194, Tryz.ntmps194
 go_wp2_with fail
 refine (least_c h _ hA hf).mono ?_
 rintro e w' ⟨rfl, m, rfl⟩
 rw [← hks] at hlst ⊢
 clear hks
 by_cases h15 : s.lst ks 4 = 15
 ·have hi15 : (s.lst ks 4 : Int) = 15 := by omega
  go_wp2_with fail
  refine bodyPost_ret (v := .tuple #[]) (results_none rfl _ _ _) rfl ?_
  exact ⟨rfl, by rw [← HKS.out, Sk.grow, if_pos h15]; exact hA.drewN _, Kp.drewN' (Kp.refl _ _) _⟩
 ·have hi15 : ((s.lst ks 4 : Int) == 15) = false := by rw [beq_eq_false_iff_ne]; omega
  go_wp2_with fail
  go_loopw [12] (fun i wr => ∃ j : Nat, j ≤ 4 ∧ i = .int .i64 j ∧ At wr B (s.up ks j) ∧ Kp (Six B) w wr) (fun i _ => 4 - (intOf i).toNat)
  case atStart => exact ⟨0, by omega, rfl, by rw [Sk.up_zero]; exact hA.drewN _, Kp.drewN' (Kp.refl _ _) _⟩
  case round =>
   obtain ⟨j, hj, rfl, hU, hK⟩ := hrel
   by_cases h4 : j < 4
   ·have hp := hf.up h15 j
    have hkl : ks j < s.wide := by rw [HKS.out]; exact ksOf_lt hf.w1 j
    have hc : wr.cell? ⟨B + 2 + j, ks j, none⟩ = some (.int .u8 (s.cnt ks j : Int)) := by
     have := hU.cntP hp (ks := ks) h4 hkl
     rw [Sk.cnt, up_r, if_neg (by omega)] at this
     exact this
    have hz := (hU.row j h4).free (ks j)
    have hcl := hf.cnt_le (ks := ks) h4
    have hC := fun m => counter_c h h4 (wr.drewN m) (hU.drewN m) hp
    have hw : (s.up ks j).wide = s.wide := rfl
    rw [hw, ← HKS.out] at hC
    go_wp2_with fail
    refine (hC 0).mono ?_
    rintro e w' ⟨rfl, m2, rfl⟩
    by_cases heq : s.cnt ks j = s.lst ks 4
    ·have hS := hU.upSet heq
     rw [heq] at hc
     go_wp2_with fail
     go_roundw
     case rel => exact ⟨j + 1, by omega, rfl, hU.drewN m2 |>.upSet heq, (Kp.drewN' hK m2).set (p := ⟨B + 2 + j, ks j, none⟩) (by show B ≤ B + 2 + j ∧ B + 2 + j ≤ B + 5; omega) _⟩
     case measure => simp [intOf]; omega
    ·have hne : ((s.cnt ks j : Int) == (s.lst ks 4 : Int)) = false := by rw [beq_eq_false_iff_ne]; omega
     go_wp2_with fail
     go_roundw
     case rel => exact ⟨j + 1, by omega, rfl, (hU.upStay heq).drewN m2, Kp.drewN' hK m2⟩
     case measure => simp [intOf]; omega
   ·obtain rfl : j = 4 := by omega
    go_wp2_with fail
    go_end0
    exact ⟨rfl, by rw [← HKS.out, Sk.grow, if_neg h15]; exact hU, hK⟩

def halfK (l : List Nat) (k : Nat) : List Nat := (l.take k).map (· / 2) ++ l.drop k
theorem halfK_all {l : List Nat} {k : Nat} (h : l.length ≤ k) : halfK l k = l.map (· / 2) := by
 rw [halfK, List.take_of_length_le h, List.drop_of_length_le h, List.append_nil]
theorem halfK_length (l : List Nat) (k : Nat) : (halfK l k).length = l.length := by
 unfold halfK
 rw [List.length_append, List.length_map, ← List.length_append, List.take_append_drop]
theorem halfK_at {l : List Nat} {k : Nat} (hk : k < l.length) : (halfK l k)[k]?.getD 0 = l[k] := by
 unfold halfK
 rw [List.getElem?_append_right (by rw [List.length_map, List.length_take]; omega), List.length_map, List.length_take, Nat.min_eq_left (by omega), Nat.sub_self, List.getElem?_drop, Nat.add_zero, List.getElem?_eq_getElem hk]
 rfl
theorem halfK_set {l : List Nat} {k : Nat} (hk : k < l.length) : (halfK l k).set k (l[k] / 2) = halfK l (k + 1) := by
 unfold halfK
 rw [List.set_append_right _ _ (by rw [List.length_map, List.length_take]; omega), List.length_map, List.length_take, Nat.min_eq_left (by omega), Nat.sub_self, List.drop_eq_getElem_cons hk, List.set_cons_zero, List.take_succ_eq_append_getElem hk, List.map_append, List.append_assoc]
 rfl
def Sk.half (s : Sk) (j k : Nat) : Sk := { s with r := fun i => if i < j then (s.r i).map (· / 2) else if i = j then halfK (s.r i) k else s.r i }
theorem half_r (s : Sk) (j k i : Nat) : (s.half j k).r i = if i < j then (s.r i).map (· / 2) else if i = j then halfK (s.r i) k else s.r i := rfl
theorem half_0 (s : Sk) : s.half 0 0 = s := by
 unfold Sk.half
 have : (fun i => if i < 0 then (s.r i).map (· / 2) else if i = 0 then halfK (s.r i) 0 else s.r i) = s.r := by
  funext i
  rw [if_neg (by omega)]
  split
  ·rfl
  ·rfl
 rw [this]
theorem At.half_next {w : World} {B : Nat} {s : Sk} {j k : Nat} (h : At w B (s.half j k)) (hk : s.wide ≤ k) (hl : ∀ i, i < 4 → (s.r i).length = s.wide) : At w B (s.half (j + 1) 0) := by
 refine ⟨h.hd, h.door, fun i hi => ?_⟩
 have hr := h.row i hi
 rw [half_r] at hr ⊢
 by_cases e : i < j
 ·rw [if_pos e] at hr
  rw [if_pos (by omega)]
  exact hr
 ·rw [if_neg e] at hr
  by_cases e2 : i = j
  ·rw [if_pos e2, halfK_all (by rw [hl i hi]; exact hk)] at hr
   rw [if_pos (by omega)]
   exact hr
  ·rw [if_neg e2] at hr
   rw [if_neg (by omega)]
   split
   ·exact hr
   ·exact hr
theorem At.half_put {w : World} {B : Nat} {s : Sk} {j k : Nat} (h : At w B (s.half j k)) (hj : j < 4) (hk : k < (s.r j).length) : At (w.setCell ⟨B + 2 + j, k, none⟩ (.int .u8 (((s.r j)[k] / 2 : Nat) : Int))) B (s.half j (k + 1)) := by
 refine ⟨h.hd.far (by show B + 1 ≠ B + 2 + j; omega) _, h.door.far (by show B ≠ B + 2 + j; omega) _, fun i hi => ?_⟩
 have hr := h.row i hi
 rw [half_r] at hr ⊢
 by_cases e : i = j
 ·subst e
  rw [if_neg (by omega), if_pos rfl] at hr ⊢
  have hp := hr.put k (.int .u8 (((s.r i)[k] / 2 : Nat) : Int))
  rw [bytesV_put, halfK_set hk] at hp
  exact hp
 ·have hp := hr.far (p := ⟨B + 2 + j, k, none⟩) (by show B + 2 + i ≠ B + 2 + j; omega) (.int .u8 (((s.r j)[k] / 2 : Nat) : Int))
  rw [if_neg e] at hp ⊢
  exact hp
theorem half_cell {w : World} {B : Nat} {s : Sk} {j k : Nat} (h : At w B (s.half j k)) (hj : j < 4) (hk : k < (s.r j).length) : w.cell? ⟨B + 2 + j, k, none⟩ = some (.int .u8 ((s.r j)[k] : Int)) := by
 have hr := h.row j hj
 rw [half_r, if_neg (by omega), if_pos rfl] at hr
 have := (hr.cell k).trans (bytesV_at (by rw [halfK_length]; exact hk))
 rw [halfK_at hk] at this
 exact this

theorem blk_sets {b : Nat} {t : TypeId} : ∀ (vs pre old : List Value) (w : World), Blk w b t (pre ++ old).toArray → old.length = vs.length → Blk (w.setCells b pre.length vs) b t (pre ++ vs).toArray
 | [], pre, old, w, h, hl => by
  obtain rfl : old = [] := List.eq_nil_of_length_eq_zero hl
  exact h
 | v :: vs, pre, [], w, h, hl => by simp at hl
 | v :: vs, pre, o :: old, w, h, hl => by
  have hp := h.put pre.length v
  have e : (pre ++ o :: old).toArray.setIfInBounds pre.length v = ((pre ++ [v]) ++ old).toArray := by
   rw [List.setIfInBounds_toArray, List.set_append_right _ _ (Nat.le_refl _), Nat.sub_self, List.set_cons_zero, List.append_assoc]
   rfl
  rw [e] at hp
  have := blk_sets vs (pre ++ [v]) old _ hp (by simpa using hl)
  rw [List.length_append, List.append_assoc] at this
  exact this
theorem sets_far {b : Nat} : ∀ (vs : List Value) (o : Nat) (w : World), Kp (fun k => k = b) w (w.setCells b o vs)
 | [], _, w => Kp.refl _ w
 | v :: vs, o, w => Kp.trans (S := fun k => k = b) ((Kp.refl (fun k => k = b) w).set (p := ⟨b, o, none⟩) rfl v) (sets_far vs (o + 1) _)
def Sk.bare (s : Sk) : Sk := { s with door := List.replicate s.wide false }
theorem At.bare {w : World} {B : Nat} {s : Sk} (h : At w B s) (hf : s.Pre) : At (w.setCells B 0 (List.replicate s.wide (.bool false))) B s.bare := by
 have hk := sets_far (b := B) (List.replicate s.wide (.bool false)) 0 w
 refine ⟨hk.blk h.hd (by omega), ?_, fun i hi => hk.blk (h.row i hi) (by omega)⟩
 have := blk_sets (b := B) (t := 4) (List.replicate s.wide (.bool false)) [] (s.door.map Value.bool) w h.door (by rw [List.length_map, List.length_replicate]; exact hf.dlen)
 have e : boolsV (List.replicate s.wide false) = (List.replicate s.wide (Value.bool false)).toArray := by
  unfold boolsV
  rw [List.map_replicate]
 show Blk _ _ _ (boolsV (List.replicate s.wide false))
 rw [e]
 exact this
theorem clear_c {w : World} {B : Nat} {s : Sk} (h : At w B s) (hf : s.Pre) : (Builtin.clear_ #[201] 0 #[.slice (some ⟨B, 0, none⟩) s.wide s.wide]).run Tryz.prog w = .ok (.tuple #[]) (w.setCells B 0 (List.replicate s.wide (.bool false))) := by
 refine Lib.run_clear_slice (P := Tryz.prog) w 201 4 0 (.bool false) Tryz.underlying201 (fun w => Tryz.zeroValue4 w) rfl rfl B 0 s.wide s.wide hf.w1 (fun j hj => ?_) (fun j hj => ?_)
 ·rw [Nat.zero_add, h.door.cell j, boolsV_at (by rw [hf.dlen]; exact hj)]
  rfl
 ·exact h.door.free _
theorem rows_index (B n : Nat) {j : Nat} (hj : j < 4) (W : World) :
  (Instr.index 200 (.agg #[.slice (some ⟨B + 2, 0, none⟩) n n, .slice (some ⟨B + 3, 0, none⟩) n n, .slice (some ⟨B + 4, 0, none⟩) n n, .slice (some ⟨B + 5, 0, none⟩) n n]) (.int .i64 j)).run Tryz.prog W = .ok (.slice (some ⟨B + 2 + j, 0, none⟩) n n) W := by
 rcases (by omega : j = 0 ∨ j = 1 ∨ j = 2 ∨ j = 3) with rfl | rfl | rfl | rfl
 ·kernel_rfl
 ·kernel_rfl
 ·kernel_rfl
 ·kernel_rfl
set_option maxHeartbeats 4000000 in
set_option maxRecDepth 100000 in
theorem age_c {B : Nat} {s : Sk} (w : World) (hA : At w B s) (hf : s.Pre) :
  Calls Tryz.prog 195 #[.pointer (some ⟨B + 1, 0, none⟩)] w fun e w' => e = .returned (.tuple #[]) ∧ At w' B s.age ∧ Kp (Six B) w w' := by
 obtain ⟨c2, c3, c4, c5⟩ := hA.rows
 have w1 := hf.w1
 have w2 := hf.w2
 have hw0 : ((s.wide : Int) == 0) = false := by rw [beq_eq_false_iff_ne]; omega
 obtain ⟨c0, c1, c6⟩ := hA.cells
 go_enter Tryz.func195, Tryz.ntmps195
 go_wp2_with fail
 refine (wide_c w hA).mono ?_
 rintro e w' ⟨rfl, rfl⟩
 go_wp2_with fail
 go_loopw [12] (fun i wr => ∃ j : Nat, j ≤ 4 ∧ i = .int .i64 j ∧ At wr B (s.half j 0) ∧ Kp (Six B) w wr) (fun i _ => 4 - (intOf i).toNat)
 case atStart => exact ⟨0, by omega, rfl, by rw [half_0]; exact hA, Kp.refl _ _⟩
 case round =>
  obtain ⟨j, hj, rfl, hU, hK⟩ := hrel
  by_cases h4 : j < 4
  ·have hidx := fun W => rows_index B s.wide h4 W
   go_wp2_with fail
   go_loopw [17] (fun i wq => ∃ k : Nat, k ≤ s.wide ∧ i = .int .i64 k ∧ At wq B (s.half j k) ∧ Kp (Six B) w wq) (fun i _ => s.wide - (intOf i).toNat)
   case atStart => exact ⟨0, by omega, rfl, hU, hK⟩
   case round =>
    obtain ⟨k, hk, rfl, hV, hL⟩ := hrel
    by_cases hkw : k < s.wide
    ·have hlen := hf.len j h4
     have hkl : k < (s.r j).length := by omega
     have hcell := half_cell hV h4 hkl
     have htop := hf.top j h4 _ (List.getElem_mem hkl)
     have hfree := (hV.row j h4).free k
     have hP := hV.half_put h4 hkl
     have hKP := hL.set (p := ⟨B + 2 + j, k, none⟩) (by show B ≤ B + 2 + j ∧ B + 2 + j ≤ B + 5; omega) (.int .u8 (((s.r j)[k] / 2 : Nat) : Int))
     generalize (s.r j)[k] = c at hcell hP htop hKP
     have hq : (((c / 2 : Nat)) : Int) = (c : Int) / 2 := by omega
     rw [hq] at hP hKP
     clear hq
     go_wp2_with fail
     go_roundw
     case rel => exact ⟨k + 1, by omega, rfl, hP, hKP⟩
     case measure => simp [intOf]; omega
    ·have hkk : k = s.wide := by omega
     have hN := hV.half_next (by omega) hf.len
     go_wp2_with fail
     go_roundw
     case rel => exact ⟨j + 1, by omega, rfl, hN, hL⟩
     case measure => simp [intOf]; omega
  ·obtain rfl : j = 4 := by omega
   have hp : (s.half 4 0).Pre := by
    refine ⟨hf.w1, hf.w2, hf.seed, hf.added, fun i hi => ?_, fun i hi c hc => ?_, hf.dlen⟩
    ·rw [half_r, if_pos hi, List.length_map]; exact hf.len i hi
    ·rw [half_r, if_pos hi] at hc
     obtain ⟨x, hx, rfl⟩ := List.mem_map.1 hc
     have := hf.top i hi x hx
     omega
   have hcl := clear_c hU hp
   obtain ⟨d0, d1, d6⟩ := hU.cells
   have hB := hU.bare hp
   obtain ⟨e0, e1, e6⟩ := hB.cells
   have hz := hB.hd.free 1
   have hK2 := hK.trans ((fun h : Kp (fun k => k = B) wr (wr.setCells B 0 (List.replicate s.wide (.bool false))) => (⟨h.os, h.tape, h.output, h.size, fun k hk hS => h.block k hk (fun e => hS (by subst e; exact ⟨Nat.le_refl _, by omega⟩))⟩ : Kp (Six B) _ _)) (sets_far _ 0 wr))
   have ha := hf.added
   have hwid : (s.half 4 0).wide = s.wide := rfl
   have hadd : (s.half 4 0).added = s.added := rfl
   have hadd2 : (s.half 4 0).bare.added = s.added := rfl
   rw [hwid] at hcl d6 hB e1 hz
   rw [hadd2] at e1
   generalize hwq : wr.setCells B 0 (List.replicate s.wide (.bool false)) = wq at hcl hB e1 hz hK2
   clear hwq e0 e6 d0 hwid hadd hadd2 c0 c1 c2 c3 c4 c5 c6
   have hAge : At (wq.setCell ⟨B + 1, 1, none⟩ (.int .i64 ((s.added / 2 : Nat) : Int))) B s.age := by
    refine ⟨hB.hd.put 1 _, hB.door.far (by show B ≠ B + 1; omega) _, fun i hi => ?_⟩
    have hr := (hB.row i hi).far (p := ⟨B + 1, 1, none⟩) (by show B + 2 + i ≠ B + 1; omega) (.int .i64 ((s.added / 2 : Nat) : Int))
    have e : (s.half 4 0).bare.r i = s.age.r i := by
     show (s.half 4 0).r i = _
     rw [half_r, if_pos hi]
     rfl
    rw [e] at hr
    exact hr
   have hK3 := hK2.set (p := ⟨B + 1, 1, none⟩) (by show B ≤ B + 1 ∧ B + 1 ≤ B + 5; omega) (.int .i64 ((s.added / 2 : Nat) : Int))
   have hq : ((s.added / 2 : Nat) : Int) = (s.added : Int) / 2 := by omega
   rw [hq] at hAge hK3
   clear hq
   go_wp2_with fail
   go_end0
   exact ⟨rfl, hAge, hK3⟩

end Go.Proofs.YtkiabladmgagdabGreatDoor.Sketchy
namespace Go.Proofs.YtkiabladmgagdabGreatDoor.Sketchy
open Go.ChangeShapes Go.WideShapes Go.ChangeAt Go.RowKit
open Wirey (Blk Row str str_size str_list Kp)

set_option maxHeartbeats 1000000 in
theorem seen_c {B : Nat} {s : Sk} (l : List UInt8) (hl : l.length ≤ 1099511627776) (w : World) (hA : At w B s) (hf : s.Pre) :
  Calls Tryz.prog 253 #[.pointer (some ⟨B + 1, 0, none⟩), .string (str l)] w fun e w' => e = .returned (.int .i64 (s.seen (ksOf (Mixy.text s.seed l) s.wide) : Int)) ∧ ∃ m, w' = w.drewN m := by
 obtain ⟨c0, c1, c6⟩ := hA.cells
 obtain ⟨h, hh⟩ : ∃ h, h = Mixy.text s.seed l := ⟨_, rfl⟩
 have hof := fun W : World => Mixy.of_c s.seed hf.seed (str l) (by rw [str_size]; unfold maxLen; omega) W
 simp only [str_list] at hof
 rw [← hh] at hof ⊢
 clear hh
 have w1 := hf.w1
 have hlst := Sk.lst_le (s := s) (ks := ksOf h s.wide) 4
 have hbit := hA.bitP hf (ks := ksOf h s.wide) (ksOf_lt hf.w1 4)
 have hw0 : ((s.wide : Int) == 0) = false := by rw [beq_eq_false_iff_ne]; omega
 go_enter Tryz.func253, Tryz.ntmps253
 go_wp2_with fail
 refine (wide_c w hA).mono ?_
 rintro e w' ⟨rfl, rfl⟩
 go_wp2_with fail
 refine (hof _).mono ?_
 rintro e w' ⟨rfl, rfl⟩
 go_wp2_with fail
 refine (least_c h _ hA hf).mono ?_
 rintro e w' ⟨rfl, m, rfl⟩
 go_wp2_with fail
 refine (door_c h _ (hA.drewN m) hf).mono ?_
 rintro e w' ⟨rfl, m2, rfl⟩
 have hs0 : s.bit (ksOf h s.wide) = false → s.seen (ksOf h s.wide) = s.lst (ksOf h s.wide) 4 := fun hb => by rw [Sk.seen, hb]; rfl
 have hs1 : s.bit (ksOf h s.wide) = true → s.seen (ksOf h s.wide) = s.lst (ksOf h s.wide) 4 + 1 := fun hb => by rw [Sk.seen, hb]; rfl
 rcases Bool.eq_false_or_eq_true (s.bit (ksOf h s.wide)) with hb | hb
 ·have HS := Lib.hid (hs1 hb)
  rw [hb] at hbit
  clear hs0 hs1 hb
  go_wp2_with fail
  go_ret
  exact ⟨by rw [HS.out]; rfl, m + m2, rfl⟩
 ·have HS := Lib.hid (hs0 hb)
  rw [hb] at hbit
  clear hs0 hs1 hb
  go_wp2_with fail
  go_ret
  exact ⟨by rw [HS.out]; rfl, m + m2, rfl⟩
end Go.Proofs.YtkiabladmgagdabGreatDoor.Sketchy
namespace Go.Proofs.YtkiabladmgagdabGreatDoor.Sketchy
open Go.ChangeShapes Go.WideShapes Go.ChangeAt Go.RowKit
open Wirey (Blk Row str str_size str_list Kp)

theorem At.count {w : World} {B : Nat} {s : Sk} (h : At w B s) : At (w.setCell ⟨B + 1, 1, none⟩ (.int .i64 ((s.added + 1 : Nat) : Int))) B s.count :=
 ⟨h.hd.put 1 _, h.door.far (by show B ≠ B + 1; omega) _, fun i hi => (h.row i hi).far (by show B + 2 + i ≠ B + 1; omega) _⟩
theorem At.mark {w : World} {B : Nat} {s : Sk} {ks : Nat → Nat} (h : At w B s) : At (w.setCell ⟨B, ks 4, none⟩ (.bool true)) B (s.mark ks) := by
 refine ⟨h.hd.far (by show B + 1 ≠ B; omega) _, ?_, fun i hi => (h.row i hi).far (by show B + 2 + i ≠ B; omega) _⟩
 have := h.door.put (ks 4) (.bool true)
 rw [boolsV_put] at this
 exact this
theorem full_q {n : Nat} (hn : n ≤ 4096) (w : World) :
  Calls Tryz.prog 134 #[.int .i64 n] w fun e w' => e = .returned (.int .i64 ((10 * n : Nat) : Int)) ∧ w' = w :=
 (full_c hn w).mono fun _ _ ⟨a, b⟩ => ⟨a, b.symm⟩
set_option maxHeartbeats 4000000 in
set_option maxRecDepth 100000 in
theorem add_c {B : Nat} {s : Sk} (l : List UInt8) (hl : l.length ≤ 1099511627776) (w : World) (hA : At w B s) (hf : s.Wf) :
  Calls Tryz.prog 183 #[.pointer (some ⟨B + 1, 0, none⟩), .string (str l)] w fun e w' => e = .returned (.tuple #[]) ∧ At w' B (s.add (ksOf (Mixy.text s.seed l) s.wide)) ∧ Kp (Six B) w w' := by
 obtain ⟨c0, c1, c6⟩ := hA.cells
 obtain ⟨h, hh⟩ : ∃ h, h = Mixy.text s.seed l := ⟨_, rfl⟩
 have hof := fun W : World => Mixy.of_c s.seed hf.seed (str l) (by rw [str_size]; unfold maxLen; omega) W
 simp only [str_list] at hof
 rw [← hh] at hof ⊢
 clear hh
 have w1 := hf.w1
 have w2 := hf.w2
 have hadd := hf.added
 have hw0 : ((s.wide : Int) == 0) = false := by rw [beq_eq_false_iff_ne]; omega
 have hdc := fun m => door_c h (w.drewN m) (hA.drewN m) hf.pre
 have hgc := fun m => grow_c h (w.drewN m) (hA.drewN m) hf.pre
 obtain ⟨ks, hks⟩ : ∃ ks, ks = ksOf h s.wide := ⟨_, rfl⟩
 have hbit := hA.bitP hf.pre (ks := ksOf h s.wide) (ksOf_lt hf.w1 4)
 have hfree := hA.door.free (ksOf h s.wide 4)
 rw [← hks] at hbit hdc hgc hfree
 have HKS := Lib.hid hks
 clear hks
 have hfix := Sk.note_fix (s := s) (ks := ks)
 have hcnt := hf.count (ks := ks)
 have hfin : ∀ v, At v B ((s.note ks).count) → Kp (Six B) w v → s.added + 1 < 10 * s.wide → At v B (s.add ks) ∧ Kp (Six B) w v := fun v h1 h2 h3 => ⟨by rw [Sk.add, if_neg (by omega)]; exact h1, h2⟩
 have hold : ∀ v, At v B ((s.note ks).count.age) → Kp (Six B) w v → ¬ s.added + 1 < 10 * s.wide → At v B (s.add ks) ∧ Kp (Six B) w v := fun v h1 h2 h3 => ⟨by rw [Sk.add, if_pos (by omega)]; exact h1, h2⟩
 go_enter Tryz.func183, Tryz.ntmps183
 go_wp2_with fail
 refine (wide_c w hA).mono ?_
 rintro e w' ⟨rfl, rfl⟩
 go_wp2_with fail
 refine (hof _).mono ?_
 rintro e w' ⟨rfl, rfl⟩
 go_wp2_with fail
 refine (hdc 0).mono ?_
 rintro e w' ⟨rfl, m, rfl⟩
 rcases Bool.eq_false_or_eq_true (s.bit ks) with hb | hb
 ·rw [hb] at hbit
  go_wp2_with fail
  refine (hgc m).mono ?_
  rintro e v ⟨rfl, hN, hKN⟩
  replace hKN := (Kp.drewN' (Kp.refl (Six B) w) m).trans hKN
  have hAN : At v B (s.note ks) := by rw [Sk.note, if_pos hb]; exact hN
  obtain ⟨-, a1, -⟩ := hAN.cells
  have fz := hAN.hd.free 1
  rw [hfix.2.1] at a1
  have hC := hAN.count
  have hKC := hKN.set (p := ⟨B + 1, 1, none⟩) (by show B ≤ B + 1 ∧ B + 1 ≤ B + 5; omega) (.int .i64 ((s.added + 1 : Nat) : Int))
  rw [hfix.2.1] at hC
  have hwd : (s.note ks).count.wide = s.wide := hfix.1
  have had : (s.note ks).count.added = s.added + 1 := by show (s.note ks).added + 1 = _; rw [hfix.2.1]
  clear hN hAN hfix
  have hq : ((s.added + 1 : Nat) : Int) = (s.added : Int) + 1 := by omega
  rw [hq] at hC hKC
  have hwq := fun W (hW : At W B ((s.note ks).count)) => wide_q W hW
  rw [hwd] at hwq
  obtain ⟨-, b1, -⟩ := hC.cells
  rw [had, hq] at b1
  clear hq hwd had
  have hfq := fun W => full_q w2 W
  go_wp2_with fail
  generalize hu : v.setCell ⟨B + 1, 1, none⟩ (.int .i64 ((s.added : Int) + 1)) = u at hC hKC b1 ⊢
  clear hu
  go_quiet (first | (go_at_call 105; exact Calls.quiet_of_same (hwq _ (At.drewN hC _))) | (go_at_call 134; exact Calls.quiet_of_same (hfq _)))
  by_cases hlt : s.added + 1 < 10 * s.wide
  ·have hlt2 : (s.added : Int) + 1 < ((10 * s.wide : Nat) : Int) := by omega
   go_wp2_with fail
   go_end0
   exact ⟨rfl, HKS.out ▸ hfin _ (hC.drewN _) (Kp.drewN' hKC _) hlt⟩
  ·have hlt2 : ¬ (s.added : Int) + 1 < ((10 * s.wide : Nat) : Int) := by omega
   go_wp2_with fail
   refine (age_c _ (hC.drewN _) hcnt).mono ?_
   rintro e w' ⟨rfl, hG, hKG⟩
   go_wp2_with fail
   go_end0
   exact ⟨rfl, HKS.out ▸ hold _ hG ((Kp.drewN' hKC _).trans hKG) hlt⟩
 ·rw [hb] at hbit
  have hN := hA.mark (ks := ks)
  have hKN := (Kp.refl (Six B) w).set (p := ⟨B, ks 4, none⟩) (by show B ≤ B ∧ B ≤ B + 5; omega) (.bool true)
  have hN' := hN.drewN m
  have hKN' := Kp.drewN' hKN m
  replace hN := hN'
  replace hKN := hKN'
  clear hN' hKN'
  generalize hv : (w.setCell ⟨B, ks 4, none⟩ (.bool true)).drewN m = v at hN hKN
  have hv2 : (w.drewN m).setCell ⟨B, ks 4, none⟩ (.bool true) = v := hv
  clear hv
  have HV := Lib.hid hv2
  clear hv2
  have hAN : At v B (s.note ks) := by rw [Sk.note, if_neg (by rw [hb]; decide)]; exact hN
  obtain ⟨-, a1, -⟩ := hAN.cells
  have fz := hAN.hd.free 1
  rw [hfix.2.1] at a1
  have hC := hAN.count
  have hKC := hKN.set (p := ⟨B + 1, 1, none⟩) (by show B ≤ B + 1 ∧ B + 1 ≤ B + 5; omega) (.int .i64 ((s.added + 1 : Nat) : Int))
  rw [hfix.2.1] at hC
  have hwd : (s.note ks).count.wide = s.wide := hfix.1
  have had : (s.note ks).count.added = s.added + 1 := by show (s.note ks).added + 1 = _; rw [hfix.2.1]
  clear hN hAN hfix
  have hq : ((s.added + 1 : Nat) : Int) = (s.added : Int) + 1 := by omega
  rw [hq] at hC hKC
  have hwq := fun W (hW : At W B ((s.note ks).count)) => wide_q W hW
  rw [hwd] at hwq
  obtain ⟨-, b1, -⟩ := hC.cells
  rw [had, hq] at b1
  clear hq hwd had
  have hfq := fun W => full_q w2 W
  go_upto_region 6 with (fail)
  rw [HV.out]
  go_wp2_with fail
  generalize hu : v.setCell ⟨B + 1, 1, none⟩ (.int .i64 ((s.added : Int) + 1)) = u at hC hKC b1 ⊢
  clear hu
  go_quiet (first | (go_at_call 105; exact Calls.quiet_of_same (hwq _ (At.drewN hC _))) | (go_at_call 134; exact Calls.quiet_of_same (hfq _)))
  by_cases hlt : s.added + 1 < 10 * s.wide
  ·have hlt2 : (s.added : Int) + 1 < ((10 * s.wide : Nat) : Int) := by omega
   go_wp2_with fail
   go_end0
   exact ⟨rfl, HKS.out ▸ hfin _ (hC.drewN _) (Kp.drewN' hKC _) hlt⟩
  ·have hlt2 : ¬ (s.added : Int) + 1 < ((10 * s.wide : Nat) : Int) := by omega
   go_wp2_with fail
   refine (age_c _ (hC.drewN _) hcnt).mono ?_
   rintro e w' ⟨rfl, hG, hKG⟩
   go_wp2_with fail
   go_end0
   exact ⟨rfl, HKS.out ▸ hold _ hG ((Kp.drewN' hKC _).trans hKG) hlt⟩
end Go.Proofs.YtkiabladmgagdabGreatDoor.Sketchy
namespace Go.Proofs.YtkiabladmgagdabGreatDoor.Sketchy
open Go.ChangeShapes Go.WideShapes Go.ChangeAt Go.RowKit
open Wirey (Blk Row str str_size str_list str_take Kp)

def fewL (l : List UInt8) : List UInt8 := if 80 < l.length then l.take 80 else l
end Go.Proofs.YtkiabladmgagdabGreatDoor.Sketchy
namespace Go.Proofs.YtkiabladmgagdabGreatDoor.Sketchy
open Go.ChangeShapes Go.WideShapes Go.ChangeAt Go.RowKit
open Wirey (Blk Row str str_size str_list Kp)

def intsV (l : List Nat) : Array Value := (l.map fun n : Nat => Value.int .i64 n).toArray
structure Ref (w : World) (R D : Nat) (G : Nat → Nat) (s : Sk) : Prop where
 lt : R < w.heap.size
 rows : ∀ i, i < 4 → w.cell? ⟨R, i, none⟩ = some (.slice (some ⟨G i, 0, none⟩) s.wide s.wide)
 row : ∀ i, i < 4 → Blk w (G i) 3 (intsV (s.r i))
 door : Blk w D 4 (boolsV s.door)
section
variable {w w' : World} {R D : Nat} {G : Nat → Nat} {s : Sk}
end
end Go.Proofs.YtkiabladmgagdabGreatDoor.Sketchy
namespace Go.Proofs.YtkiabladmgagdabGreatDoor.Sketchy
open Go.ChangeShapes Go.WideShapes Go.ChangeAt Go.RowKit
open Wirey (Blk Row str str_size str_list Kp)

theorem below_step {w x y : World} (h : Below w.heap.size w x) (hb : Below x.heap.size x y) : Below w.heap.size w y := h.trans (hb.mono h.size)
end Go.Proofs.YtkiabladmgagdabGreatDoor.Sketchy
namespace Go.Proofs.YtkiabladmgagdabGreatDoor.Sketchy
open Go.ChangeShapes Go.WideShapes Go.ChangeAt Go.RowKit
open Wirey (Blk Row str str_size str_list Kp)

section
variable {w : World} {R D : Nat} {G : Nat → Nat} {s : Sk}
theorem blk_row {w : World} {g : Nat} {t : TypeId} {cs : Array Value} (h : Blk w g t cs) (ds : Array Value) : Blk (w.setRow g ds) g t ds := setRow_heap w g cs ds t (0, 0) h
theorem blk_rowfar {w : World} {g b : Nat} {t : TypeId} {cs : Array Value} (h : Blk w g t cs) (hne : g ≠ b) (ds : Array Value) : Blk (w.setRow b ds) g t cs := (setRow_other w b g ds hne).trans h
end
section
variable {w v : World} {R cap D : Nat} {G : Nat → Nat} {s : Sk} {Y R' cap' D' : Nat} {G' : Nat → Nat} {t : Sk}
end

end Go.Proofs.YtkiabladmgagdabGreatDoor.Sketchy
