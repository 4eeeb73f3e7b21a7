/- A sketch's bytes (layer 5): the document's own Put and the program's Export give the same. Nothing that was there turns. The program's Export (layer 5): a sketch's bytes. Nothing that was there turns. What takes a sketch off its own bytes (layer 5): Take and Import give the sketch that was written. Nothing that was there turns but the Reader. Take and Import of a sketch's own bytes (layer 5). Nothing that was there turns but the Reader. -/
import Derived.Test.YtkiabladmgagdabGreatDoorSketchRefAddAll
import Derived.StillTailTactics
import Derived.Test.YtkiabladmgagdabGreatDoorWireReadAll
import Derived.Test.YtkiabladmgagdabGreatDoorBuildKeptAll
import Derived.Test.YtkiabladmgagdabGreatDoorWireFlyAll
import Derived.Lib.BufferWrite
import Derived.Deep.RegionWith
import Derived.Test.YtkiabladmgagdabGreatDoorSq
namespace Go.Proofs.YtkiabladmgagdabGreatDoor.Sketchy
open Go.ChangeShapes Go.WideShapes Go.ChangeAt Go.RowKit
open Wirey (Blk Row str str_size str_list str_cat Kp enc enc_len num_c Bld)

def headB (s : Sk) : List UInt8 := enc s.wide ++ enc s.seed ++ enc s.added
def rowsTo (s : Sk) : Nat → List UInt8
 | 0 => []
 | j + 1 => rowsTo s j ++ rowB (s.r j)
theorem rowsTo_4 (s : Sk) : rowsTo s 4 = rowB (s.r 0) ++ rowB (s.r 1) ++ rowB (s.r 2) ++ rowB (s.r 3) := rfl
theorem put_eq (s : Sk) : s.put = headB s ++ rowsTo s 4 ++ s.door.map flagB := by
 rw [rowsTo_4]
 rfl
theorem rowsTo_len {s : Sk} (hf : s.Pre) : ∀ j, j ≤ 4 → (rowsTo s j).length = j * s.wide
 | 0, _ => by simp [rowsTo]
 | j + 1, h => by
  have ih := rowsTo_len hf j (by omega)
  show (rowsTo s j ++ rowB (s.r j)).length = _
  rw [List.length_append, ih, rowB, List.length_map, hf.len j (by omega), Nat.add_mul, Nat.one_mul]
theorem headB_len {s : Sk} (hf : s.Pre) : (headB s).length ≤ 30 := by
 have h1 := (enc_len (n := s.wide) (by have := hf.w2; omega)).2
 have h2 := (enc_len (n := s.seed) hf.seed).2
 have h3 := (enc_len (n := s.added) (by have := hf.added; have := hf.w2; omega)).2
 unfold headB
 rw [List.length_append, List.length_append]
 omega
theorem headB_pos {s : Sk} (hf : s.Pre) : 1 ≤ (headB s).length := by
 have h1 := (enc_len (n := s.wide) (by have := hf.w2; omega)).1
 unfold headB
 rw [List.length_append, List.length_append]
 omega
theorem flags_snoc {l : List Bool} {k : Nat} (hk : k < l.length) : (l.take (k + 1)).map flagB = (l.take k).map flagB ++ [flagB l[k]] := by
 rw [List.take_succ_eq_append_getElem hk, List.map_append]
 rfl

theorem flag_c (b : Bool) (w : World) :
  Calls Tryz.prog 170 #[.bool b] w fun e w' => e = .returned (.string (str [flagB b])) ∧ w = w' := by
 cases b
 ·go_enter Tryz.func170, Tryz.ntmps170
  go_wp2_with fail
  go_ret
  exact ⟨rfl, rfl⟩
 ·go_enter Tryz.func170, Tryz.ntmps170
  go_wp2_with fail
  go_ret
  exact ⟨rfl, rfl⟩
end Go.Proofs.YtkiabladmgagdabGreatDoor.Sketchy
namespace Go.Proofs.YtkiabladmgagdabGreatDoor.Sketchy
open Go.ChangeShapes Go.WideShapes Go.ChangeAt Go.RowKit
open Wirey (Blk Row str str_size str_list str_cat Kp enc enc_len num_c Bld bws_c bw_c bstr_c)

structure Outing (w : World) (B : Nat) (s : Sk) (l : List UInt8) (v : World) : Prop where
 sk : At v B s
 bld : Bld v w.heap.size l
 below : Below w.heap.size w v
theorem Outing.onto {w v v' : World} {B : Nat} {s : Sk} {l : List UInt8} (h : Outing w B s l v) (hb : Below v.heap.size v v') : Outing w B s l v' :=
 ⟨h.sk.below hb h.sk.lt, h.bld.grown hb, below_step h.below hb⟩
theorem Outing.wrote {w v v' : World} {B : Nat} {s : Sk} {l l' : List UInt8} (h : Outing w B s l v) (hw : B + 5 < w.heap.size) (hB : Bld v' w.heap.size l') (hb : Below w.heap.size v v') : Outing w B s l' v' :=
 ⟨h.sk.below hb hw, hB, h.below.trans hb⟩
theorem rowB_cells {l : List Nat} (h : ∀ c ∈ l, c ≤ 15) {w : World} {g : Nat} (hb : Blk w g 5 (bytesV l)) : ∀ j u, (Lib.byteCells (rowB l))[j]? = some u → w.cell? ⟨g, j, none⟩ = some u := by
 intro j u hu
 rw [hb.cell j, ← hu]
 unfold bytesV Lib.byteCells rowB
 rw [List.getElem?_toArray, List.getElem?_map, List.getElem?_map, List.getElem?_map]
 cases hj : l[j]? with
 | none => rfl
 | some c =>
  have hc := h c (List.mem_of_getElem? hj)
  have : (UInt8.ofNat c).toNat = c := Wirey.toNat_of (by omega)
  simp [this]

set_option maxHeartbeats 8000000 in
set_option maxRecDepth 100000 in
theorem export_c {B : Nat} {s : Sk} (w : World) (hA : At w B s) (hf : s.Pre) :
  Calls Tryz.prog 248 #[.pointer (some ⟨B + 1, 0, none⟩)] w fun e w' => e = .returned (.string (str s.put)) ∧ Below w.heap.size w w' := by
 have hw1 := hf.w1
 have hw2 := hf.w2
 have hadd := hf.added
 have hseed := hf.seed
 have hw0 : ((s.wide : Int) == 0) = false := by rw [beq_eq_false_iff_ne]; omega
 have l1 := (enc_len (n := s.wide) (by omega)).2
 have l2 := (enc_len (n := s.seed) hseed).2
 have l3 := (enc_len (n := s.added) (by omega)).2
 have hBl := hA.lt
 have hO : Outing w B s [] (w.alloc (.cells #[.pointer none, .slice none 0 0] 98)) := ⟨hA.alloc _, Bld.new w, (Below.refl _ w).alloc (Nat.le_refl _) _⟩
 go_enter Tryz.func248, Tryz.ntmps248
 go_wp2_with fail
 refine (wide_c w hA).mono ?_
 rintro e w' ⟨rfl, rfl⟩
 go_wp2_with fail
 refine (wide_c _ hO.sk).mono ?_
 rintro e w' ⟨rfl, rfl⟩
 go_wp2_with fail
 refine (num_c s.wide (by omega) _).mono ?_
 rintro e v1 ⟨rfl, hb1⟩
 have hO1 := hO.onto hb1
 clear hO hb1
 go_wp2_with fail
 refine (bws_c _ [] (enc s.wide) _ hO1.bld (by rw [List.length_nil]; omega)).mono ?_
 rintro e v2 ⟨rfl, hd2, hb2⟩
 have hO2 := hO1.wrote hBl hd2 hb2
 obtain ⟨c0, c1, c6⟩ := hO2.sk.cells
 clear hO1 hd2 hb2
 rw [List.nil_append] at hO2
 go_wp2_with fail
 refine (num_c s.seed hseed _).mono ?_
 rintro e v3 ⟨rfl, hb3⟩
 have hO3 := hO2.onto hb3
 clear hO2 hb3 c0 c1 c6
 go_wp2_with fail
 refine (bws_c _ (enc s.wide) (enc s.seed) _ hO3.bld (by omega)).mono ?_
 rintro e v4 ⟨rfl, hd4, hb4⟩
 have hO4 := hO3.wrote hBl hd4 hb4
 obtain ⟨c0, c1, c6⟩ := hO4.sk.cells
 clear hO3 hd4 hb4
 go_wp2_with fail
 refine (num_c s.added (by omega) _).mono ?_
 rintro e v5 ⟨rfl, hb5⟩
 have hO5 := hO4.onto hb5
 clear hO4 hb5 c0 c1 c6
 go_wp2_with fail
 refine (bws_c _ (enc s.wide ++ enc s.seed) (enc s.added) _ hO5.bld (by rw [List.length_append]; omega)).mono ?_
 rintro e v6 ⟨rfl, hd6, hb6⟩
 have hO6 : Outing w B s (headB s) v6 := hO5.wrote hBl hd6 hb6
 obtain ⟨c2, c3, c4, c5⟩ := hO6.sk.rows
 have hhl := headB_len hf
 have hhp := headB_pos hf
 have hrl := fun j hj => rowsTo_len hf j hj
 clear hO5 hd6 hb6 l1 l2 l3
 go_wp2_with fail
 go_loopw [33] (fun i wr => ∃ j : Nat, j ≤ 4 ∧ i = .int .i64 j ∧ Outing w B s (headB s ++ rowsTo s j) wr) (fun i _ => 4 - (intOf i).toNat)
 case atStart => exact ⟨0, by omega, rfl, by show Outing w B s (headB s ++ []) v6; rw [List.append_nil]; exact hO6⟩
 case round =>
  obtain ⟨j, hj, rfl, hP⟩ := hrel
  by_cases h4 : j < 4
  ·have hidx := fun W => rows_index B s.wide h4 W
   have hrb := rowB_cells (hf.top j h4) (hP.sk.row j h4)
   have hrw : (rowB (s.r j)).length = s.wide := by rw [rowB, List.length_map]; exact hf.len j h4
   have hbw := bw_c w.heap.size (headB s ++ rowsTo s j) (rowB (s.r j)) (B + 2 + j) s.wide wr hP.bld hrb (by omega) (by
     rw [List.length_append, hrl j hj, hrw]
     have : j * s.wide ≤ 4 * 4096 := Nat.mul_le_mul (by omega) hw2
     omega)
   rw [hrw] at hbw
   clear c2 c3 c4 c5 hrb hrw
   go_wp2_with fail
   refine Calls.mono hbw ?_
   rintro e v7 ⟨rfl, hd7, hb7⟩
   have hP7 := hP.wrote hBl hd7 hb7
   rw [List.append_assoc] at hP7
   clear hP hd7 hb7
   go_wp2_with fail
   go_roundw
   case rel => exact ⟨j + 1, by omega, rfl, hP7⟩
   case measure => simp [intOf]; omega
  ·obtain rfl : j = 4 := by omega
   obtain ⟨c0, c1, c6⟩ := hP.sk.cells
   clear c2 c3 c4 c5 hO6
   go_wp2_with fail
   go_loopw [44] (fun i wr => ∃ k : Nat, k ≤ s.wide ∧ i = .int .i64 k ∧ Outing w B s (headB s ++ rowsTo s 4 ++ (s.door.take k).map flagB) wr) (fun i _ => s.wide - (intOf i).toNat)
   case atStart => exact ⟨0, by omega, rfl, by rw [List.take_zero]; show Outing w B s (_ ++ []) _; rw [List.append_nil]; exact hP⟩
   case round =>
    obtain ⟨k, hk, rfl, hQ⟩ := hrel
    have hlen := hf.dlen
    by_cases hkw : k < s.wide
    ·have hkl : k < s.door.length := by omega
     have hc := (hQ.sk.door.cell k).trans (boolsV_at hkl)
     have hg : s.door[k]?.getD false = s.door[k] := by rw [List.getElem?_eq_getElem hkl]; rfl
     rw [hg] at hc
     have hsn := flags_snoc hkl
     have hal : (headB s ++ rowsTo s 4 ++ (s.door.take k).map flagB).length ≤ 40000 := by
      rw [List.length_append, List.length_append, hrl 4 (by omega), List.length_map, List.length_take]
      omega
     generalize s.door[k] = c at hc hsn
     have HS := Lib.hid hsn
     clear hsn hg hlen hP c0 c1 c6
     go_wp2_with fail
     refine (flag_c c _).mono ?_
     rintro e w' ⟨rfl, rfl⟩
     go_wp2_with fail
     refine (bws_c _ _ [flagB c] _ hQ.bld (by rw [List.length_singleton]; omega)).mono ?_
     rintro e v8 ⟨rfl, hd8, hb8⟩
     have hQ8 := hQ.wrote hBl hd8 hb8
     clear hQ hd8 hb8
     go_wp2_with fail
     go_roundw
     case rel =>
      (repeat apply Exists.intro)
      exact ⟨⟨k + 1, by omega, rfl, by rw [HS.out, ← List.append_assoc]; exact hQ8⟩, rfl⟩
     case measure => simp [intOf]; omega
    ·rw [List.take_of_length_le (by omega), ← put_eq] at hQ
     have hne : s.put ≠ [] := fun e => by
      have h0 : s.put.length = 0 := by rw [e]; rfl
      rw [put_eq, List.length_append, List.length_append] at h0
      omega
     clear hP c0 c1 c6 hlen
     go_wp2_with fail
     refine (bstr_c _ _ _ hQ.bld hne).mono ?_
     rintro e v9 ⟨rfl, hb9⟩
     go_wp2_with fail
     go_ret
     exact ⟨rfl, hQ.below.trans hb9⟩
end Go.Proofs.YtkiabladmgagdabGreatDoor.Sketchy
namespace Go.Proofs.YtkiabladmgagdabGreatDoor.Sketchy
open Go.ChangeShapes Go.WideShapes Go.ChangeAt Go.RowKit
open Wirey (Blk Row str str_size str_list str_cat Kp Kept RS Took enc enc_len numR_enc num_ok must_ok bytes_ok toList_str)

section
variable {w w' : World} {B R O : Nat} {s : Sk}
theorem At.kept (h : At w B s) (hk : Kept w w' R O) (hR : R < B) (hO : O < B) : At w' B s :=
 ⟨(hk.block _ h.hd.lt (by omega) (by omega)).trans h.hd, (hk.block _ h.door.lt (by omega) (by omega)).trans h.door, fun i hi => (hk.block _ (h.row i hi).lt (by omega) (by omega)).trans (h.row i hi)⟩
end

set_option maxHeartbeats 4000000 in
theorem tflag_c {R O : Nat} {l : List UInt8} (c : Bool) (hl : l.length < 549755813888) (w : World) (h : RS w R O (flagB c :: l)) :
  Calls Tryz.prog 136 #[.pointer (some ⟨R, 0, none⟩)] w (Took w R O (.bool c) l) := by
 have htl := toList_str
 have hbo := bytes_ok 1 (by simp) (by rw [List.length_cons]; omega) _ h
 rw [List.drop_succ_cons, List.drop_zero, List.take_succ_cons, List.take_zero] at hbo
 have wt := fun W => flag_c true W
 have wf := fun W => flag_c false W
 cases c
 ·go_enter Tryz.func136, Tryz.ntmps136
  go_wp2_with fail
  refine hbo.mono ?_
  rintro e w1 ⟨rfl, hk1, hr1⟩
  unfold flagB at wt wf ⊢
  go_wp2_with fail
  refine (wt _).mono ?_
  rintro e w' ⟨rfl, rfl⟩
  go_wp2_with fail
  refine (wf _).mono ?_
  rintro e w' ⟨rfl, rfl⟩
  go_wp2_with fail
  refine (must_ok _).mono ?_
  rintro e w' ⟨rfl, rfl⟩
  go_wp2_with fail
  refine (wt _).mono ?_
  rintro e w' ⟨rfl, rfl⟩
  go_wp2_with fail
  go_ret
  exact ⟨rfl, hk1, hr1⟩
 ·go_enter Tryz.func136, Tryz.ntmps136
  go_wp2_with fail
  refine hbo.mono ?_
  rintro e w1 ⟨rfl, hk1, hr1⟩
  unfold flagB at wt ⊢
  go_wp2_with fail
  refine (wt _).mono ?_
  rintro e w' ⟨rfl, rfl⟩
  go_wp2_with fail
  refine (must_ok _).mono ?_
  rintro e w' ⟨rfl, rfl⟩
  go_wp2_with fail
  refine (wt _).mono ?_
  rintro e w' ⟨rfl, rfl⟩
  go_wp2_with fail
  go_ret
  exact ⟨rfl, hk1, hr1⟩

set_option maxHeartbeats 4000000 in
theorem maybe_c {l : List Nat} (hl : ∀ c ∈ l, c ≤ 15) (hn : l.length ≤ 4096) (g cap : Nat) (w : World) (hb : Blk w g 5 (bytesV l)) :
  Calls Tryz.prog 135 #[.slice (some ⟨g, 0, none⟩) l.length cap] w fun e w' => e = .returned (.bool true) ∧ w = w' := by
 go_enter Tryz.func135, Tryz.ntmps135
 go_wp2_with fail
 go_loopw [7] (fun i wr => ∃ k : Nat, k ≤ l.length ∧ i = .int .i64 k ∧ wr = w) (fun i _ => l.length - (intOf i).toNat)
 case atStart => exact ⟨0, by omega, rfl, rfl⟩
 case round =>
  obtain ⟨k, hk, rfl, rfl⟩ := hrel
  by_cases hlt : k < l.length
  ·have hc := (hb.cell k).trans (bytesV_at hlt)
   have hg : l[k]?.getD 0 = l[k] := by rw [List.getElem?_eq_getElem hlt]; rfl
   rw [hg] at hc
   have hle := hl _ (List.getElem_mem hlt)
   generalize l[k] = c at hc hle
   go_wp2_with fail
   go_roundw
   case rel => exact ⟨k + 1, by omega, rfl, trivial⟩
   case measure => simp [intOf]; omega
  ·go_wp2_with fail
   go_ret
   exact ⟨rfl, rfl⟩

def Sk.got (s : Sk) (j : Nat) : Sk := ⟨s.wide, s.seed, s.added, fun i => if i < j then s.r i else List.replicate s.wide 0, List.replicate s.wide false⟩
theorem got_r (s : Sk) (j i : Nat) : (s.got j).r i = if i < j then s.r i else List.replicate s.wide 0 := rfl
def Sk.gotD (s : Sk) (k : Nat) : Sk := { s with door := s.door.take k ++ List.replicate (s.wide - k) false }
theorem got_0 {w : World} {B : Nat} {s : Sk} (h : At w B (Sk.new s.wide s.seed)) : At (w.setCell ⟨B + 1, 1, none⟩ (.int .i64 s.added)) B (s.got 0) :=
 ⟨h.hd.put 1 _, h.door.far (by show B ≠ B + 1; omega) _, fun i hi => by rw [got_r, if_neg (by omega)]; exact (h.row i hi).far (by show B + 2 + i ≠ B + 1; omega) _⟩
theorem got_row {w : World} {B j : Nat} {s : Sk} (h : At w B (s.got j)) (hj : j < 4) : At (w.setRow (B + 2 + j) (bytesV (s.r j))) B (s.got (j + 1)) := by
 refine ⟨blk_rowfar h.hd (by omega) _, blk_rowfar h.door (by omega) _, fun i hi => ?_⟩
 have hr := h.row i hi
 rw [got_r] at hr ⊢
 by_cases e : i = j
 ·subst e
  rw [if_pos (by omega)]
  exact blk_row hr _
 ·have := blk_rowfar hr (b := B + 2 + j) (by omega) (bytesV (s.r j))
  by_cases e2 : i < j
  ·rw [if_pos e2] at this
   rw [if_pos (by omega)]
   exact this
  ·rw [if_neg e2] at this
   rw [if_neg (by omega)]
   exact this
theorem got_4 {w : World} {B : Nat} {s : Sk} (h : At w B (s.got 4)) : At w B (s.gotD 0) := by
 refine ⟨h.hd, ?_, fun i hi => ?_⟩
 ·show Blk w B _ (boolsV (s.door.take 0 ++ List.replicate (s.wide - 0) false))
  rw [List.take_zero, List.nil_append, Nat.sub_zero]
  exact h.door
 ·have hr := h.row i hi
  rw [got_r, if_pos hi] at hr
  exact hr
theorem gotD_set {w : World} {B k : Nat} {s : Sk} (hd : s.door.length = s.wide) (hk : k < s.door.length) (h : At w B (s.gotD k)) : At (w.setCell ⟨B, k, none⟩ (.bool s.door[k])) B (s.gotD (k + 1)) := by
 refine ⟨h.hd.far (by show B + 1 ≠ B; omega) _, ?_, fun i hi => (h.row i hi).far (by show B + 2 + i ≠ B; omega) _⟩
 have hp := h.door.put k (.bool s.door[k])
 rw [boolsV_put] at hp
 have e : (s.door.take k ++ List.replicate (s.wide - k) false).set k s.door[k] = s.door.take (k + 1) ++ List.replicate (s.wide - (k + 1)) false := by
  obtain ⟨m, hm⟩ : ∃ m, s.wide - k = m + 1 := ⟨s.wide - k - 1, by omega⟩
  have hm2 : s.wide - (k + 1) = m := by omega
  rw [hm, hm2, List.replicate_succ, List.set_append_right _ _ (by rw [List.length_take]; omega), List.length_take, Nat.min_eq_left (by omega), Nat.sub_self, List.set_cons_zero, List.take_succ_eq_append_getElem hk, List.append_assoc]
  rfl
 show Blk _ B _ (boolsV (s.door.take (k + 1) ++ List.replicate (s.wide - (k + 1)) false))
 rw [← e]
 exact hp
theorem gotD_all {w : World} {B : Nat} {s : Sk} (hd : s.door.length = s.wide) (h : At w B (s.gotD s.wide)) : At w B s := by
 refine ⟨h.hd, ?_, h.row⟩
 have := h.door
 replace this : Blk w B 4 (boolsV (s.door.take s.wide ++ List.replicate (s.wide - s.wide) false)) := this
 rw [List.take_of_length_le (by omega), Nat.sub_self, List.replicate_zero, List.append_nil] at this
 exact this
theorem rows_split (s : Sk) {j : Nat} (hj : j < 4) : ∃ tail, rowsTo s 4 = rowsTo s j ++ (rowB (s.r j) ++ tail) := by
 rcases (by omega : j = 0 ∨ j = 1 ∨ j = 2 ∨ j = 3) with rfl | rfl | rfl | rfl
 ·exact ⟨rowB (s.r 1) ++ rowB (s.r 2) ++ rowB (s.r 3), by simp [rowsTo]⟩
 ·exact ⟨rowB (s.r 2) ++ rowB (s.r 3), by simp [rowsTo]⟩
 ·exact ⟨rowB (s.r 3), by simp [rowsTo]⟩
 ·exact ⟨[], by simp [rowsTo]⟩
theorem byteCells_row {l : List Nat} (h : ∀ c ∈ l, c ≤ 15) : (Lib.byteCells (rowB l)).toArray = bytesV l := by
 unfold bytesV Lib.byteCells rowB
 rw [List.map_map]
 congr 1
 refine List.map_congr_left fun c hc => ?_
 have := h c hc
 show Value.int .u8 ((UInt8.ofNat c).toNat : Int) = _
 rw [Wirey.toNat_of (by omega)]
theorem copy_row {w : World} {g n : Nat} {l : List Nat} {cur : Array Value} (h : ∀ c ∈ l, c ≤ 15) (hn : l.length = n) (hg : Blk w g 5 cur) (hc : cur.size = n) :
  (Builtin.copy_ #[96, 9] 3 #[.slice (some ⟨g, 0, none⟩) n n, .string (str (rowB l))]).run Tryz.prog w = .ok (.int .i64 n) (w.setRow g (bytesV l)) := by
 have hsz : (str (rowB l)).size = n := by rw [str_size, rowB, List.length_map, hn]
 have hr := Lib.run_copy_row_string (P := Tryz.prog) w 96 9 3 5 g 0 n n (str (rowB l)) cur 5 Tryz.underlying96 (by kernel_rfl) hg (by omega) (by omega)
 rw [hr, hsz, List.take_zero, List.nil_append, Nat.zero_add, List.drop_of_length_le (by rw [Array.length_toList]; omega), List.append_nil, str_list, byteCells_row h]
 rfl
end Go.Proofs.YtkiabladmgagdabGreatDoor.Sketchy
namespace Go.Proofs.YtkiabladmgagdabGreatDoor.Sketchy
open Go.ChangeShapes Go.WideShapes Go.ChangeAt Go.RowKit
open Wirey (Blk Row str str_size str_list str_cat Kp Kept RS Took enc enc_len numR_enc num_ok must_ok bytes_ok toList_str)

structure Taking (w : World) (R O B : Nat) (s : Sk) (m : List UInt8) (v : World) : Prop where
 sk : At v B s
 rs : RS v R O m
 kp : Kp (fun k => k = R ∨ k = O) w v
theorem Taking.took {w v v' : World} {R O B : Nat} {s : Sk} {m m' : List UInt8} (h : Taking w R O B s m v) (hR : R < B) (hO : O < B) (hk : Kept v v' R O) (hr : RS v' R O m') : Taking w R O B s m' v' :=
 ⟨h.sk.kept hk hR hO, hr, h.kp.trans (Kp.of_kept hk (.inl rfl) (.inr rfl))⟩
theorem Taking.cell {w v : World} {R O B : Nat} {s s' : Sk} {m : List UInt8} (h : Taking w R O B s m v) (hR : R < B) (hO : O < B) (hw : w.heap.size ≤ B) {g k : Nat} (hg : B ≤ g) (u : Value) (hs : At (v.setCell ⟨g, k, none⟩ u) B s') : Taking w R O B s' m (v.setCell ⟨g, k, none⟩ u) :=
 ⟨hs, ⟨h.rs.rd.far (by show R ≠ g; omega) u, h.rs.of.far (by show O ≠ g; omega) u⟩, ⟨h.kp.os, h.kp.tape, h.kp.output, by have := h.kp.size; simpa [World.setCell] using this, fun k hk hS => (Below.heap_setCell _ _ _ _ (by show k ≠ g; omega)).trans (h.kp.block k hk hS)⟩⟩
theorem Taking.row {w v : World} {R O B : Nat} {s s' : Sk} {m : List UInt8} (h : Taking w R O B s m v) (hR : R < B) (hO : O < B) (hw : w.heap.size ≤ B) {g : Nat} (hg : B ≤ g) (cs : Array Value) (hs : At (v.setRow g cs) B s') : Taking w R O B s' m (v.setRow g cs) :=
 ⟨hs, ⟨blk_rowfar h.rs.rd (by omega) cs, blk_rowfar h.rs.of (by omega) cs⟩, ⟨h.kp.os, h.kp.tape, h.kp.output, by rw [setRow_size]; exact h.kp.size, fun k hk hS => (setRow_other v g k cs (by omega)).trans (h.kp.block k hk hS)⟩⟩
theorem Taking.drew {w v : World} {R O B : Nat} {s : Sk} {m : List UInt8} (h : Taking w R O B s m v) : Taking w R O B s m v.drew := ⟨h.sk.drew, ⟨h.rs.rd, h.rs.of⟩, ⟨h.kp.os, h.kp.tape, h.kp.output, h.kp.size, h.kp.block⟩⟩

set_option maxHeartbeats 8000000 in
set_option maxRecDepth 100000 in
theorem take_rest {s : Sk} (hf : s.Wf) {R O : Nat} {rest : List UInt8} (hrest : rest.length ≤ 100000000) (w : World) (h : RS w R O (s.put ++ rest)) :
  Calls Tryz.prog 104 #[.pointer (some ⟨R, 0, none⟩)] w fun e w' => ∃ B, e = .returned (.pointer (some ⟨B + 1, 0, none⟩)) ∧ At w' B s ∧ w.heap.size ≤ B ∧ RS w' R O rest ∧ Kp (fun k => k = R ∨ k = O) w w' := by
 have hw1 := hf.w1
 have hw2 := hf.w2
 have hadd := hf.added
 have hseed := hf.seed
 have hRl := h.rd.lt
 have hOl := h.of.lt
 have l1 := (enc_len (n := s.wide) (by omega)).2
 have l2 := (enc_len (n := s.seed) hseed).2
 have l3 := (enc_len (n := s.added) (by omega)).2
 have hrl := rowsTo_len hf.pre 4 (by omega)
 obtain ⟨body, hbody⟩ : ∃ b, b = rowsTo s 4 ++ (s.door.map flagB ++ rest) := ⟨_, rfl⟩
 have hbl : body.length ≤ 200000000 := by rw [hbody, List.length_append, List.length_append, List.length_map, hrl, hf.dlen]; omega
 have hput : s.put ++ rest = enc s.wide ++ (enc s.seed ++ (enc s.added ++ body)) := by rw [put_eq, hbody]; show enc s.wide ++ enc s.seed ++ enc s.added ++ _ ++ _ ++ _ = _; simp
 rw [hput] at h
 have hn1 := num_ok 4096 (numR_enc (n := s.wide) (by omega) (enc s.seed ++ (enc s.added ++ body))) hw2 (by simp only [List.length_append]; omega) w h
 rw [List.drop_left] at hn1
 have hn2 := fun (W : World) (h : RS W R O (enc s.seed ++ (enc s.added ++ body))) => num_ok 18446744073709551615 (numR_enc (n := s.seed) hseed (enc s.added ++ body)) (by omega) (by simp only [List.length_append]; omega) W h
 rw [List.drop_left] at hn2
 have hn3 := fun (W : World) (h : RS W R O (enc s.added ++ body)) => num_ok (10 * s.wide - 1) (numR_enc (n := s.added) (by omega) body) (by omega) (by simp only [List.length_append]; omega) W h
 rw [List.drop_left] at hn3
 have e4 : ((4096 : Nat) : Int) = 4096 := by omega
 have e5 : ((18446744073709551615 : Nat) : Int) = 18446744073709551615 := by omega
 have e6 : ((10 * s.wide - 1 : Nat) : Int) = ((10 * s.wide : Nat) : Int) - 1 := by omega
 rw [e4] at hn1
 rw [e5] at hn2
 rw [e6] at hn3
 have HN1 := Lib.hid hn1
 have HN2 := Lib.hid hn2
 have HN3 := Lib.hid hn3
 have HB := Lib.hid hbody
 have hwp : decide ((0 : Int) < (s.wide : Int)) = true := decide_eq_true (by omega)
 have hwn : decide (0 < s.wide) = true := decide_eq_true (by omega)
 have hwn2 : 0 < s.wide := by omega
 have hw0 : ((s.wide : Int) == 0) = false := by rw [beq_eq_false_iff_ne]; omega
 clear e4 e5 e6 hn1 hn2 hn3 hbody hput l1 l2 l3 hrl
 go_enter Tryz.func104, Tryz.ntmps104
 go_wp2_with fail
 refine HN1.out.mono ?_
 rintro e v1 ⟨rfl, hk1, hr1⟩
 go_wp2_with fail
 refine (must_ok _).mono ?_
 rintro e w' ⟨rfl, rfl⟩
 go_wp2_with fail
 refine (HN2.out _ hr1).mono ?_
 rintro e v2 ⟨rfl, hk2, hr2⟩
 go_wp2_with fail
 refine (empty_c (n := s.wide) (seed := s.seed) hw2 _).mono ?_
 rintro e v3 ⟨rfl, hA3, hb3, hs3⟩
 have hk12 := hk1.trans hk2
 have hz2 := hk12.size
 have hT3 : Taking w R O v2.heap.size (Sk.new s.wide s.seed) (enc s.added ++ body) v3 := ⟨hA3, hr2.below hb3, (Kp.of_kept hk12 (.inl rfl) (.inr rfl)).trans (Kp.of_below hb3)⟩
 obtain ⟨B, hBe⟩ : ∃ B, B = v2.heap.size := ⟨_, rfl⟩
 rw [← hBe] at hT3 hz2 ⊢
 have hRB : R < B := by omega
 have hOB : O < B := by omega
 clear hk1 hk2 hk12 hr1 hr2 hA3 hb3 hs3 hBe h
 go_wp2_with fail
 refine (full_c hw2 _).mono ?_
 rintro e w' ⟨rfl, rfl⟩
 go_wp2_with fail
 refine (HN3.out _ hT3.rs).mono ?_
 rintro e v4 ⟨rfl, hk4, hr4⟩
 have hT4 := hT3.took hRB hOB hk4 hr4
 obtain ⟨-, c1, -⟩ := hT4.sk.cells
 have fz := hT4.sk.hd.free 1
 have hT5 := hT4.cell hRB hOB hz2 (g := B + 1) (k := 1) (by omega) _ (got_0 hT4.sk)
 generalize hv5 : v4.setCell ⟨B + 1, 1, none⟩ (.int .i64 s.added) = v5 at hT5
 have HV5 := Lib.hid hv5
 clear hv5 hT3 hk4 hr4 hT4
 go_upto_region 7 with (fail)
 rw [HV5.out]
 obtain ⟨c2, c3, c4, c5⟩ := hT5.sk.rows
 have ew : (s.got 0).wide = s.wide := rfl
 rw [ew] at c2 c3 c4 c5
 clear ew c1 fz HV5
 go_wp2_with fail
 go_loopw [35] (fun i wr => ∃ (j : Nat) (m : List UInt8), j ≤ 4 ∧ i = .int .i64 j ∧ Taking w R O B (s.got j) m wr ∧ rowsTo s j ++ m = body) (fun i _ => 4 - (intOf i).toNat)
 case atStart => exact ⟨0, body, by omega, rfl, hT5, rfl⟩
 case round =>
  obtain ⟨j, m, hj, rfl, hP, hm⟩ := hrel
  clear hT5 c2 c3 c4 c5
  by_cases h4 : j < 4
  ·have hidx := fun W => rows_index B s.wide h4 W
   obtain ⟨tail, htail⟩ := rows_split s h4
   have hm2 : m = rowB (s.r j) ++ (tail ++ (s.door.map flagB ++ rest)) := by
    rw [HB.out, htail, List.append_assoc, List.append_assoc] at hm
    exact List.append_cancel_left hm
   have hrw : (rowB (s.r j)).length = s.wide := by rw [rowB, List.length_map]; exact hf.len j h4
   have hml : m.length ≤ 200000000 := by
    have := congrArg List.length hm
    rw [List.length_append] at this
    omega
   have hnext : rowsTo s (j + 1) ++ (tail ++ (s.door.map flagB ++ rest)) = body := by
    rw [← hm, hm2]
    show rowsTo s j ++ rowB (s.r j) ++ _ = _
    rw [List.append_assoc]
   have hby := bytes_ok s.wide (by rw [hm2, List.length_append, hrw]; omega) (by omega) _ hP.rs
   rw [hm2, ← hrw, List.take_left, List.drop_left, hrw] at hby
   have HBY := Lib.hid hby
   have HNX := Lib.hid hnext
   clear hm hm2 hnext hby htail
   go_wp2_with fail
   refine HBY.out.mono ?_
   rintro e v6 ⟨rfl, hk6, hr6⟩
   have hP6 := hP.took hRB hOB hk6 hr6
   have hcl : (bytesV ((s.got j).r j)).size = s.wide := by
    rw [got_r, if_neg (by omega)]
    unfold bytesV
    simp
   have hcp := copy_row (hf.top j h4) (hf.len j h4) (hP6.sk.row j h4) hcl
   have hP7 := hP6.row hRB hOB hz2 (g := B + 2 + j) (by omega) _ (got_row hP6.sk h4)
   generalize v6.setRow (B + 2 + j) (bytesV (s.r j)) = v7 at hcp hP7
   have hrow7 := hP7.sk.row j h4
   rw [got_r, if_pos (by omega)] at hrow7
   have hmb := maybe_c (hf.top j h4) (by rw [hf.len j h4]; exact hw2) (B + 2 + j) s.wide v7 hrow7
   rw [hf.len j h4] at hmb
   clear hP hP6 hcl hk6 hr6 hrow7 hrw
   go_wp2_with fail
   refine hmb.mono ?_
   rintro e w' ⟨rfl, rfl⟩
   go_wp2_with fail
   refine (must_ok _).mono ?_
   rintro e w' ⟨rfl, rfl⟩
   go_wp2_with fail
   go_roundw
   case rel => exact ⟨j + 1, _, by omega, rfl, hP7, HNX.out⟩
   case measure => simp [intOf]; omega
  ·obtain rfl : j = 4 := by omega
   have hm2 : m = s.door.map flagB ++ rest := by
    rw [HB.out] at hm
    exact List.append_cancel_left hm
   rw [hm2] at hP
   have hP0 : Taking w R O B (s.gotD 0) ((s.door.drop 0).map flagB ++ rest) wr := ⟨got_4 hP.sk, hP.rs, hP.kp⟩
   obtain ⟨-, -, c6⟩ := hP.sk.cells
   have ew : (s.got 4).wide = s.wide := rfl
   rw [ew] at c6
   clear hm hm2 hP ew
   go_wp2_with fail
   go_loopw [53] (fun i wr => ∃ k : Nat, k ≤ s.wide ∧ i = .int .i64 k ∧ Taking w R O B (s.gotD k) ((s.door.drop k).map flagB ++ rest) wr) (fun i _ => s.wide - (intOf i).toNat)
   case atStart => exact ⟨0, by omega, rfl, hP0⟩
   case round =>
    obtain ⟨k, hk, rfl, hQ⟩ := hrel
    clear hP0 c6
    have hdl := hf.dlen
    by_cases hkw : k < s.wide
    ·have hkl : k < s.door.length := by omega
     obtain ⟨-, -, c6⟩ := hQ.sk.cells
     have ew : (s.gotD k).wide = s.wide := rfl
     rw [ew] at c6
     have hdr : (s.door.drop k).map flagB ++ rest = flagB s.door[k] :: ((s.door.drop (k + 1)).map flagB ++ rest) := by
      rw [List.drop_eq_getElem_cons hkl, List.map_cons, List.cons_append]
     rw [hdr] at hQ
     have hdd : ((s.door.drop (k + 1)).map flagB ++ rest).length < 549755813888 := by rw [List.length_append, List.length_map, List.length_drop]; omega
     have hset := fun (W : World) (h : At W B (s.gotD k)) => gotD_set hdl hkl h
     generalize s.door[k] = c at hQ hset
     clear ew hdr
     have hgl : (s.gotD k).door.length = s.wide := by
      show (s.door.take k ++ List.replicate (s.wide - k) false).length = s.wide
      rw [List.length_append, List.length_take, List.length_replicate]
      omega
     have hfl := tflag_c c hdd wr.drew hQ.drew.rs
     have HQ := Lib.hid hQ.drew
     clear hdd
     go_wp2_with fail
     go_region_with (first | (go_at_call 136; refine Calls.mono hfl ?_; rintro e v ⟨rfl, hkF, hrF⟩
                              have hQv := HQ.out.took hRB hOB hkF hrF
                              have c6v : v.cell? ⟨B + 1, 6, none⟩ = some (.slice (some ⟨B, 0, none⟩) s.wide s.wide) := hQv.sk.cells.2.2
                              have cdv := (hQv.sk.door.cell k).trans (boolsV_at (by rw [hgl]; exact hkw))
                              have fdv := hQv.sk.door.free k
                              have HQv := Lib.hid hQv
                              clear hQv hkF hrF))
     all_goals
      have hQw := HQv.out.cell hRB hOB hz2 (g := B) (k := k) (Nat.le_refl _) (.bool c) (hset v HQv.out.sk)
      go_wp2_with fail
      go_roundw
      case measure => simp [intOf]; omega
      case rel =>
       first
        | exact ⟨k + 1, by omega, rfl, hQw⟩
        | ((repeat apply Exists.intro); exact ⟨⟨k + 1, by omega, rfl, hQw⟩, rfl⟩)
    ·have hkk : k = s.wide := by omega
     subst hkk
     have hAll := gotD_all hdl hQ.sk
     have hnil : (s.door.drop s.wide).map flagB ++ rest = rest := by rw [List.drop_of_length_le (by omega)]; rfl
     rw [hnil] at hQ
     clear hnil
     go_wp2_with fail
     go_ret
     exact ⟨B, rfl, hAll, hz2, hQ.rs, hQ.kp⟩

end Go.Proofs.YtkiabladmgagdabGreatDoor.Sketchy
