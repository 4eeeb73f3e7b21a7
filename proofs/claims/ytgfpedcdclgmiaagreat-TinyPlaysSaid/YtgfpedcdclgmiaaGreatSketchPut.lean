/- A sketch's bytes (layer 5): the document's own Put and the program's Export give the same. Nothing that was there turns. -/
import Derived.Test.YtgfpedcdclgmiaaGreatSketchDoc
import Derived.Test.YtgfpedcdclgmiaaGreatWireEnc
import Derived.Test.YtgfpedcdclgmiaaGreatBuild
namespace Go.Proofs.YtgfpedcdclgmiaaGreat.Sketchy
open Go.ChangeShapes Go.WideShapes Go.ChangeAt Go.RowKit
open Wirey (Blk Row str str_size str_list str_cat Kp enc enc_len num_c refnum_c one_str Bld)

def headB (s : Sk) : List UInt8 := enc s.wide ++ enc s.seed ++ enc s.added
def rowsTo (s : Sk) : Nat → List UInt8
  | 0 => []
  | j + 1 => rowsTo s j ++ rowB (s.r j)
theorem rowsTo_4 (s : Sk) : rowsTo s 4 = rowB (s.r 0) ++ rowB (s.r 1) ++ rowB (s.r 2) ++ rowB (s.r 3) := rfl
theorem put_eq (s : Sk) : s.put = headB s ++ rowsTo s 4 ++ s.door.map flagB := by
  rw [rowsTo_4]
  rfl
theorem rowsTo_len {s : Sk} (hf : s.Pre) : ∀ j, j ≤ 4 → (rowsTo s j).length = j * s.wide
  | 0, _ => by simp [rowsTo]
  | j + 1, h => by
    have ih := rowsTo_len hf j (by omega)
    show (rowsTo s j ++ rowB (s.r j)).length = _
    rw [List.length_append, ih, rowB, List.length_map, hf.len j (by omega), Nat.add_mul, Nat.one_mul]
theorem headB_len {s : Sk} (hf : s.Pre) : (headB s).length ≤ 30 := by
  have h1 := (enc_len (n := s.wide) (by have := hf.w2; omega)).2
  have h2 := (enc_len (n := s.seed) hf.seed).2
  have h3 := (enc_len (n := s.added) (by have := hf.added; have := hf.w2; omega)).2
  unfold headB
  rw [List.length_append, List.length_append]
  omega
theorem headB_pos {s : Sk} (hf : s.Pre) : 1 ≤ (headB s).length := by
  have h1 := (enc_len (n := s.wide) (by have := hf.w2; omega)).1
  unfold headB
  rw [List.length_append, List.length_append]
  omega
theorem rowB_snoc {l : List Nat} {k : Nat} (hk : k < l.length) : rowB (l.take (k + 1)) = rowB (l.take k) ++ [UInt8.ofNat l[k]] := by
  unfold rowB
  rw [List.take_succ_eq_append_getElem hk, List.map_append]
  rfl
theorem flags_snoc {l : List Bool} {k : Nat} (hk : k < l.length) : (l.take (k + 1)).map flagB = (l.take k).map flagB ++ [flagB l[k]] := by
  rw [List.take_succ_eq_append_getElem hk, List.map_append]
  rfl

theorem flag_c (b : Bool) (w : World) :
    Calls Tryz.prog 81 #[.bool b] w fun e w' => e = .returned (.string (str [flagB b])) ∧ w = w' := by
  cases b
  · go_enter Tryz.func81, Tryz.ntmps81
    go_wp2_with fail
    go_ret
    exact ⟨rfl, rfl⟩
  · go_enter Tryz.func81, Tryz.ntmps81
    go_wp2_with fail
    go_ret
    exact ⟨rfl, rfl⟩
theorem rflag_c (b : Bool) (w : World) :
    Calls Tryz.prog 85 #[.bool b] w fun e w' => e = .returned (.string (str [flagB b])) ∧ w = w' := by
  cases b
  · go_enter Tryz.func85, Tryz.ntmps85
    go_wp2_with fail
    go_ret
    exact ⟨rfl, rfl⟩
  · go_enter Tryz.func85, Tryz.ntmps85
    go_wp2_with fail
    go_ret
    exact ⟨rfl, rfl⟩

theorem keep5 {w x y : World} {b0 b1 b2 b3 b4 i0 i1 i2 i3 i4 : Nat} {u0 u1 u2 u3 u4 : Value}
    (hS : x.cell? ⟨b0, i0, none⟩ = some u0 ∧ x.cell? ⟨b1, i1, none⟩ = some u1 ∧ x.cell? ⟨b2, i2, none⟩ = some u2 ∧ x.cell? ⟨b3, i3, none⟩ = some u3 ∧ x.cell? ⟨b4, i4, none⟩ = some u4 ∧ Below w.heap.size w x)
    (hb : Below x.heap.size x y) :
    y.cell? ⟨b0, i0, none⟩ = some u0 ∧ y.cell? ⟨b1, i1, none⟩ = some u1 ∧ y.cell? ⟨b2, i2, none⟩ = some u2 ∧ y.cell? ⟨b3, i3, none⟩ = some u3 ∧ y.cell? ⟨b4, i4, none⟩ = some u4 ∧ Below w.heap.size w y :=
  ⟨keep_c hS.1 hb, keep_c hS.2.1 hb, keep_c hS.2.2.1 hb, keep_c hS.2.2.2.1 hb, keep_c hS.2.2.2.2.1 hb, below_step hS.2.2.2.2.2 hb⟩
theorem keep5d {w x : World} {b0 b1 b2 b3 b4 i0 i1 i2 i3 i4 : Nat} {u0 u1 u2 u3 u4 : Value}
    (hS : x.cell? ⟨b0, i0, none⟩ = some u0 ∧ x.cell? ⟨b1, i1, none⟩ = some u1 ∧ x.cell? ⟨b2, i2, none⟩ = some u2 ∧ x.cell? ⟨b3, i3, none⟩ = some u3 ∧ x.cell? ⟨b4, i4, none⟩ = some u4 ∧ Below w.heap.size w x) :
    x.drew.cell? ⟨b0, i0, none⟩ = some u0 ∧ x.drew.cell? ⟨b1, i1, none⟩ = some u1 ∧ x.drew.cell? ⟨b2, i2, none⟩ = some u2 ∧ x.drew.cell? ⟨b3, i3, none⟩ = some u3 ∧ x.drew.cell? ⟨b4, i4, none⟩ = some u4 ∧ Below w.heap.size w x.drew :=
  ⟨hS.1, hS.2.1, hS.2.2.1, hS.2.2.2.1, hS.2.2.2.2.1, hS.2.2.2.2.2.drew⟩
theorem keep5b {w x : World} {b0 b1 b2 b3 b4 i0 i1 i2 i3 i4 : Nat} {u0 u1 u2 u3 u4 : Value}
    (hS : x.cell? ⟨b0, i0, none⟩ = some u0 ∧ x.cell? ⟨b1, i1, none⟩ = some u1 ∧ x.cell? ⟨b2, i2, none⟩ = some u2 ∧ x.cell? ⟨b3, i3, none⟩ = some u3 ∧ x.cell? ⟨b4, i4, none⟩ = some u4 ∧ Below w.heap.size w x) : Below w.heap.size w x := hS.2.2.2.2.2

set_option maxHeartbeats 8000000 in
set_option maxRecDepth 100000 in
theorem rput_c {s : Sk} (hf : s.Pre) {R cap D : Nat} {G : Nat → Nat} (w : World) (hR : Ref w R D G s) :
    Calls Tryz.prog 49 #[refV R cap D s] w fun e w' => e = .returned (.string (str s.put)) ∧ Below w.heap.size w w' := by
  have hw2 := hf.w2
  have hcat := str_cat
  have hsz := str_size
  have hadd := hf.added
  have hseed := hf.seed
  have l1 := (enc_len (n := s.wide) (by omega)).2
  have l2 := (enc_len (n := s.seed) hseed).2
  have l3 := (enc_len (n := s.added) (by omega)).2
  have hwide : s.wide < 18446744073709551616 := by omega
  have hadded : s.added < 18446744073709551616 := by omega
  have k1 : ¬ (9223372036854775807 < (enc s.wide).length + (enc s.seed).length) := by omega
  have k2 : ¬ (9223372036854775807 < (enc s.wide).length + (enc s.seed).length + (enc s.added).length) := by omega
  have u1 : IntKind.u64.wrap (s.wide : Int) = (s.wide : Int) := by rw [IntKind.wrap_u64]; omega
  have u3 : IntKind.u64.wrap (s.added : Int) = (s.added : Int) := by rw [IntKind.wrap_u64]; omega
  have hbx := (Blk.new w 31 (boxV R cap D s))
  have hbw := (Below.refl w.heap.size w).alloc (Nat.le_refl _) (.cells (boxV R cap D s) 31)
  have hRx := hR.alloc (.cells (boxV R cap D s) 31)
  obtain ⟨x0, x1, x2, x3, x4⟩ := box_cells hbx
  have hbr := (Below.refl (w.alloc (.cells (boxV R cap D s) 31)).heap.size (w.alloc (.cells (boxV R cap D s) 31))).drew
  generalize hwb : w.alloc (.cells (boxV R cap D s) 31) = wb at hbx hbw hRx x0 x1 x2 x3 x4 hbr
  have HWB := Lib.hid hwb
  unfold boxV at HWB
  unfold refV
  clear hwb
  go_enter Tryz.func49, Tryz.ntmps49
  go_upto_region 1 with (fail)
  rw [HWB.out]
  go_region_held3 (fun w' => w'.cell? ⟨w.heap.size, 0, none⟩ = some (.int .i64 (s.wide : Int)) ∧ w'.cell? ⟨w.heap.size, 1, none⟩ = some (.int .u64 (s.seed : Int)) ∧ w'.cell? ⟨w.heap.size, 2, none⟩ = some (.slice (some ⟨R, 0, none⟩) 4 cap) ∧ w'.cell? ⟨w.heap.size, 3, none⟩ = some (.slice (some ⟨D, 0, none⟩) s.wide s.wide) ∧ w'.cell? ⟨w.heap.size, 4, none⟩ = some (.int .i64 (s.added : Int)) ∧ Below wb.heap.size wb w')
    (first | exact ⟨x0, x1, x2, x3, x4, hbr⟩ | exact keep5 (by assumption) (by assumption) | exact keep5d (by assumption) | go_keep)
    (first | (go_at_call 48; refine (refnum_c _ (by first | exact hwide | exact hseed | exact hadded) _).mono ?_; rintro e v ⟨rfl, hv⟩))
  have hbv : Below wb.heap.size wb v := keep5b (by assumption)
  have hX := hbx.below hbv hbx.lt
  have hU := hRx.below hbv (Nat.le_refl _)
  have hW := hbw.trans (hbv.mono hbw.size)
  have hhead : enc s.wide ++ (enc s.seed ++ enc s.added) = headB s ++ rowsTo s 0 := by show _ = enc s.wide ++ enc s.seed ++ enc s.added ++ []; simp
  have HH := Lib.hid hhead
  have hhl := headB_len hf
  have hrl := fun j hj => rowsTo_len hf j hj
  clear hhead hbx hbw hRx hbv x0 x1 x2 x3 x4 hbr k1 k2 u1 u3 l1 l2 l3 hwide hadded HWB hR
  go_wp2_with fail
  go_loopw [3, 4] (fun z i wr => ∃ (j : Nat) (acc : List UInt8), j ≤ 4 ∧ i = .int .i64 j ∧ z = .string (str acc) ∧ acc = headB s ++ rowsTo s j ∧ Blk wr w.heap.size 31 (boxV R cap D s) ∧ Ref wr R D G s ∧ Below w.heap.size w wr) (fun _ i _ => 4 - (intOf i).toNat)
  case atStart => exact ⟨0, _, by omega, rfl, rfl, HH.out, hX, hU, hW⟩
  case round =>
    obtain ⟨j, acc, hj, rfl, rfl, hacc, hX, hU, hW⟩ := hrel
    have HACC := Lib.hid hacc
    clear hacc
    by_cases h4 : j < 4
    · go_wp2_with fail
      go_loopw [3, 5] (fun z i wr => ∃ (k : Nat) (acc : List UInt8), k ≤ s.wide ∧ i = .int .i64 k ∧ z = .string (str acc) ∧ acc = headB s ++ rowsTo s j ++ rowB ((s.r j).take k) ∧ Blk wr w.heap.size 31 (boxV R cap D s) ∧ Ref wr R D G s ∧ Below w.heap.size w wr) (fun _ i _ => s.wide - (intOf i).toNat)
      case atStart => exact ⟨0, acc, by omega, rfl, rfl, by rw [HACC.out, List.take_zero]; show _ = _ ++ []; rw [List.append_nil], hX, hU, hW⟩
      case round =>
        obtain ⟨k, ac2, hk, rfl, rfl, hac2, hX, hU, hW⟩ := hrel
        obtain ⟨x0, x1, x2, x3, x4⟩ := box_cells hX
        have hlen := hf.len j h4
        by_cases hkw : k < s.wide
        · have hkl : k < (s.r j).length := by omega
          have hal : ac2.length ≤ 40000 := by
            rw [hac2, List.length_append, List.length_append, hrl j (by omega), rowB, List.length_map, List.length_take]
            have : j * s.wide ≤ 4 * 4096 := Nat.mul_le_mul (by omega) hw2
            omega
          have hr := hU.rows j h4
          have hc := ((hU.row j h4).cell k).trans (intsV_at hkl)
          have hg : (s.r j)[k]?.getD 0 = (s.r j)[k] := by rw [List.getElem?_eq_getElem hkl]; rfl
          rw [hg] at hc
          have htop := hf.top j h4 _ (List.getElem_mem hkl)
          have hnew : ac2 ++ [UInt8.ofNat (s.r j)[k]] = headB s ++ rowsTo s j ++ rowB ((s.r j).take (k + 1)) := by
            rw [rowB_snoc hkl, hac2, List.append_assoc (headB s ++ rowsTo s j)]
          generalize (s.r j)[k] = c at hc htop hnew
          have HN := Lib.hid hnew
          have h1 := fun W => one_str (c : Int) (by omega) (by omega) W
          rw [Int.toNat_natCast] at h1
          have kk : ¬ (9223372036854775807 < ac2.length + 1) := by omega
          have hX2 := hX.alloc (.cells #[.int .u8 (c : Int)] 5)
          have hU2 := hU.alloc (.cells #[.int .u8 (c : Int)] 5)
          have hW2 := hW.alloc hW.size (.cells #[.int .u8 (c : Int)] 5)
          have HX2 := Lib.hid (And.intro hX2 (And.intro hU2 hW2))
          clear hX hU hW hX2 hU2 hW2 hnew hac2 hg hlen
          go_wp2_with fail
          go_roundw
          case rel => exact ⟨k + 1, _, by omega, rfl, rfl, HN.out, HX2.out.1, HX2.out.2.1, HX2.out.2.2⟩
          case measure => simp [intOf]; omega
        · have hfin : ac2 = headB s ++ rowsTo s (j + 1) := by
            rw [hac2, List.take_of_length_le (by omega), List.append_assoc]
            rfl
          have HF := Lib.hid hfin
          clear hac2 hfin
          go_wp2_with fail
          go_roundw
          case rel => exact ⟨j + 1, ac2, by omega, rfl, rfl, HF.out, hX, hU, hW⟩
          case measure => simp [intOf]; omega
    · obtain rfl : j = 4 := by omega
      go_wp2_with fail
      go_loopw [3, 6] (fun z i wr => ∃ (k : Nat) (acc : List UInt8), k ≤ s.wide ∧ i = .int .i64 k ∧ z = .string (str acc) ∧ acc = headB s ++ rowsTo s 4 ++ (s.door.take k).map flagB ∧ Blk wr w.heap.size 31 (boxV R cap D s) ∧ Ref wr R D G s ∧ Below w.heap.size w wr) (fun _ i _ => s.wide - (intOf i).toNat)
      case atStart => exact ⟨0, acc, by omega, rfl, rfl, by rw [HACC.out, List.take_zero]; show _ = _ ++ []; rw [List.append_nil], hX, hU, hW⟩
      case round =>
        obtain ⟨k, ac2, hk, rfl, rfl, hac2, hX, hU, hW⟩ := hrel
        obtain ⟨x0, x1, x2, x3, x4⟩ := box_cells hX
        have hlen := hf.dlen
        by_cases hkw : k < s.wide
        · have hkl : k < s.door.length := by omega
          have hal : ac2.length ≤ 40000 := by
            rw [hac2, List.length_append, List.length_append, hrl 4 (by omega), List.length_map, List.length_take]
            omega
          have hc := (hU.door.cell k).trans (boolsV_at hkl)
          have hg : s.door[k]?.getD false = s.door[k] := by rw [List.getElem?_eq_getElem hkl]; rfl
          rw [hg] at hc
          have hnew : ac2 ++ [flagB s.door[k]] = headB s ++ rowsTo s 4 ++ (s.door.take (k + 1)).map flagB := by
            rw [flags_snoc hkl, hac2, List.append_assoc (headB s ++ rowsTo s 4)]
          generalize s.door[k] = c at hc hnew
          have HN := Lib.hid hnew
          have kk : ¬ (9223372036854775807 < ac2.length + 1) := by omega
          have HX2 := Lib.hid (And.intro hX (And.intro hU hW))
          clear hX hU hW hnew hac2 hg hlen
          go_wp2_with fail
          refine (rflag_c c _).mono ?_
          rintro e w' ⟨rfl, rfl⟩
          go_wp2_with fail
          go_roundw
          case rel =>
            (repeat apply Exists.intro)
            exact ⟨⟨k + 1, _, by omega, rfl, rfl, HN.out, HX2.out.1, HX2.out.2.1, HX2.out.2.2⟩, rfl⟩
          case measure => simp [intOf]; omega
        · have hfin : ac2 = s.put := by
            rw [hac2, List.take_of_length_le (by omega), put_eq]
          have HF := Lib.hid hfin
          clear hac2 hfin
          go_wp2_with fail
          go_ret
          exact ⟨by rw [HF.out]; rfl, hW⟩
end Go.Proofs.YtgfpedcdclgmiaaGreat.Sketchy
