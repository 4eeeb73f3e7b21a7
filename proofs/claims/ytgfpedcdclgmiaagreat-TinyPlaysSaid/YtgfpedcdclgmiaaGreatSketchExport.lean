/- The program's Export (layer 5): a sketch's bytes. Nothing that was there turns. -/
import Derived.Test.YtgfpedcdclgmiaaGreatSketchPut
namespace Go.Proofs.YtgfpedcdclgmiaaGreat.Sketchy
open Go.ChangeShapes Go.WideShapes Go.ChangeAt Go.RowKit
open Wirey (Blk Row str str_size str_list str_cat Kp enc enc_len num_c Bld bws_c bw_c bstr_c)

/-- What Export holds: the sketch, the builder and what it has so far. -/
structure Outing (w : World) (B : Nat) (s : Sk) (l : List UInt8) (v : World) : Prop where
  sk : At v B s
  bld : Bld v w.heap.size l
  below : Below w.heap.size w v
theorem Outing.onto {w v v' : World} {B : Nat} {s : Sk} {l : List UInt8} (h : Outing w B s l v) (hb : Below v.heap.size v v') : Outing w B s l v' :=
  ⟨h.sk.below hb h.sk.lt, h.bld.grown hb, below_step h.below hb⟩
theorem Outing.wrote {w v v' : World} {B : Nat} {s : Sk} {l l' : List UInt8} (h : Outing w B s l v) (hw : B + 5 < w.heap.size) (hB : Bld v' w.heap.size l') (hb : Below w.heap.size v v') : Outing w B s l' v' :=
  ⟨h.sk.below hb hw, hB, h.below.trans hb⟩
theorem rowB_cells {l : List Nat} (h : ∀ c ∈ l, c ≤ 15) {w : World} {g : Nat} (hb : Blk w g 5 (bytesV l)) : ∀ j u, (Lib.byteCells (rowB l))[j]? = some u → w.cell? ⟨g, j, none⟩ = some u := by
  intro j u hu
  rw [hb.cell j, ← hu]
  unfold bytesV Lib.byteCells rowB
  rw [List.getElem?_toArray, List.getElem?_map, List.getElem?_map, List.getElem?_map]
  cases hj : l[j]? with
  | none => rfl
  | some c =>
    have hc := h c (List.mem_of_getElem? hj)
    have : (UInt8.ofNat c).toNat = c := Wirey.toNat_of (by omega)
    simp [this]

set_option maxHeartbeats 8000000 in
set_option maxRecDepth 100000 in
theorem export_c {B : Nat} {s : Sk} (w : World) (hA : At w B s) (hf : s.Pre) :
    Calls Tryz.prog 46 #[.pointer (some ⟨B + 1, 0, none⟩)] w fun e w' => e = .returned (.string (str s.put)) ∧ Below w.heap.size w w' := by
  have hw1 := hf.w1
  have hw2 := hf.w2
  have hadd := hf.added
  have hseed := hf.seed
  have hw0 : ((s.wide : Int) == 0) = false := by rw [beq_eq_false_iff_ne]; omega
  have l1 := (enc_len (n := s.wide) (by omega)).2
  have l2 := (enc_len (n := s.seed) hseed).2
  have l3 := (enc_len (n := s.added) (by omega)).2
  have hBl := hA.lt
  have hO : Outing w B s [] (w.alloc (.cells #[.pointer none, .slice none 0 0] 124)) := ⟨hA.alloc _, Bld.new w, (Below.refl _ w).alloc (Nat.le_refl _) _⟩
  go_enter Tryz.func46, Tryz.ntmps46
  go_wp2_with fail
  refine (wide_c w hA).mono ?_
  rintro e w' ⟨rfl, rfl⟩
  go_wp2_with fail
  refine (wide_c _ hO.sk).mono ?_
  rintro e w' ⟨rfl, rfl⟩
  go_wp2_with fail
  refine (num_c s.wide (by omega) _).mono ?_
  rintro e v1 ⟨rfl, hb1⟩
  have hO1 := hO.onto hb1
  clear hO hb1
  go_wp2_with fail
  refine (bws_c _ [] (enc s.wide) _ hO1.bld (by rw [List.length_nil]; omega)).mono ?_
  rintro e v2 ⟨rfl, hd2, hb2⟩
  have hO2 := hO1.wrote hBl hd2 hb2
  obtain ⟨c0, c1, c6⟩ := hO2.sk.cells
  clear hO1 hd2 hb2
  rw [List.nil_append] at hO2
  go_wp2_with fail
  refine (num_c s.seed hseed _).mono ?_
  rintro e v3 ⟨rfl, hb3⟩
  have hO3 := hO2.onto hb3
  clear hO2 hb3 c0 c1 c6
  go_wp2_with fail
  refine (bws_c _ (enc s.wide) (enc s.seed) _ hO3.bld (by omega)).mono ?_
  rintro e v4 ⟨rfl, hd4, hb4⟩
  have hO4 := hO3.wrote hBl hd4 hb4
  obtain ⟨c0, c1, c6⟩ := hO4.sk.cells
  clear hO3 hd4 hb4
  go_wp2_with fail
  refine (num_c s.added (by omega) _).mono ?_
  rintro e v5 ⟨rfl, hb5⟩
  have hO5 := hO4.onto hb5
  clear hO4 hb5 c0 c1 c6
  go_wp2_with fail
  refine (bws_c _ (enc s.wide ++ enc s.seed) (enc s.added) _ hO5.bld (by rw [List.length_append]; omega)).mono ?_
  rintro e v6 ⟨rfl, hd6, hb6⟩
  have hO6 : Outing w B s (headB s) v6 := hO5.wrote hBl hd6 hb6
  obtain ⟨c2, c3, c4, c5⟩ := hO6.sk.rows
  have hhl := headB_len hf
  have hhp := headB_pos hf
  have hrl := fun j hj => rowsTo_len hf j hj
  clear hO5 hd6 hb6 l1 l2 l3
  go_wp2_with fail
  go_loopw [33] (fun i wr => ∃ j : Nat, j ≤ 4 ∧ i = .int .i64 j ∧ Outing w B s (headB s ++ rowsTo s j) wr) (fun i _ => 4 - (intOf i).toNat)
  case atStart => exact ⟨0, by omega, rfl, by show Outing w B s (headB s ++ []) v6; rw [List.append_nil]; exact hO6⟩
  case round =>
    obtain ⟨j, hj, rfl, hP⟩ := hrel
    by_cases h4 : j < 4
    · have hidx := fun W => rows_index B s.wide h4 W
      have hrb := rowB_cells (hf.top j h4) (hP.sk.row j h4)
      have hrw : (rowB (s.r j)).length = s.wide := by rw [rowB, List.length_map]; exact hf.len j h4
      have hbw := bw_c w.heap.size (headB s ++ rowsTo s j) (rowB (s.r j)) (B + 2 + j) s.wide wr hP.bld hrb (by omega) (by
        rw [List.length_append, hrl j hj, hrw]
        have : j * s.wide ≤ 4 * 4096 := Nat.mul_le_mul (by omega) hw2
        omega)
      rw [hrw] at hbw
      clear c2 c3 c4 c5 hrb hrw
      go_wp2_with fail
      refine Calls.mono hbw ?_
      rintro e v7 ⟨rfl, hd7, hb7⟩
      have hP7 := hP.wrote hBl hd7 hb7
      rw [List.append_assoc] at hP7
      clear hP hd7 hb7
      go_wp2_with fail
      go_roundw
      case rel => exact ⟨j + 1, by omega, rfl, hP7⟩
      case measure => simp [intOf]; omega
    · obtain rfl : j = 4 := by omega
      obtain ⟨c0, c1, c6⟩ := hP.sk.cells
      clear c2 c3 c4 c5 hO6
      go_wp2_with fail
      go_loopw [44] (fun i wr => ∃ k : Nat, k ≤ s.wide ∧ i = .int .i64 k ∧ Outing w B s (headB s ++ rowsTo s 4 ++ (s.door.take k).map flagB) wr) (fun i _ => s.wide - (intOf i).toNat)
      case atStart => exact ⟨0, by omega, rfl, by rw [List.take_zero]; show Outing w B s (_ ++ []) _; rw [List.append_nil]; exact hP⟩
      case round =>
        obtain ⟨k, hk, rfl, hQ⟩ := hrel
        have hlen := hf.dlen
        by_cases hkw : k < s.wide
        · have hkl : k < s.door.length := by omega
          have hc := (hQ.sk.door.cell k).trans (boolsV_at hkl)
          have hg : s.door[k]?.getD false = s.door[k] := by rw [List.getElem?_eq_getElem hkl]; rfl
          rw [hg] at hc
          have hsn := flags_snoc hkl
          have hal : (headB s ++ rowsTo s 4 ++ (s.door.take k).map flagB).length ≤ 40000 := by
            rw [List.length_append, List.length_append, hrl 4 (by omega), List.length_map, List.length_take]
            omega
          generalize s.door[k] = c at hc hsn
          have HS := Lib.hid hsn
          clear hsn hg hlen hP c0 c1 c6
          go_wp2_with fail
          refine (flag_c c _).mono ?_
          rintro e w' ⟨rfl, rfl⟩
          go_wp2_with fail
          refine (bws_c _ _ [flagB c] _ hQ.bld (by rw [List.length_singleton]; omega)).mono ?_
          rintro e v8 ⟨rfl, hd8, hb8⟩
          have hQ8 := hQ.wrote hBl hd8 hb8
          clear hQ hd8 hb8
          go_wp2_with fail
          go_roundw
          case rel =>
            (repeat apply Exists.intro)
            exact ⟨⟨k + 1, by omega, rfl, by rw [HS.out, ← List.append_assoc]; exact hQ8⟩, rfl⟩
          case measure => simp [intOf]; omega
        · rw [List.take_of_length_le (by omega), ← put_eq] at hQ
          have hne : s.put ≠ [] := fun e => by
            have h0 : s.put.length = 0 := by rw [e]; rfl
            rw [put_eq, List.length_append, List.length_append] at h0
            omega
          clear hP c0 c1 c6 hlen
          go_wp2_with fail
          refine (bstr_c _ _ _ hQ.bld hne).mono ?_
          rintro e v9 ⟨rfl, hb9⟩
          go_wp2_with fail
          go_ret
          exact ⟨rfl, hQ.below.trans hb9⟩
end Go.Proofs.YtgfpedcdclgmiaaGreat.Sketchy
