/- Layer 14: what its laws begin with. Condition: the variables of layer 4 hold what the program's text lays. -/
import Derived.Test.YtccaomaobokldaaDoorSnapHave
namespace Go.Proofs.YtccaomaobokldaaDoor.Snapy
open Go.ChangeShapes Go.WideShapes Go.ChangeAt Go.RowKit
open Wirey Slsy

set_option maxHeartbeats 4000000 in
set_option maxRecDepth 100000 in
theorem awake_c (w : World) (hG : Glob w) : Calls Tryd.prog 9 #[] w fun e w' => e = .returned (.bool true) ∧ Below w.heap.size w w' := by
  have hT := text_c 1500 1500 (by decide +kernel) (by decide) [97, 98] (by decide) w
  obtain ⟨t, ht⟩ : ∃ t, t = textL 1500 [97, 98] := ⟨_, rfl⟩
  have hl : t.length = 1500 := by rw [ht]; exact textL_len _ _
  have hm : many t = 2 := by unfold many; rw [hl]; rfl
  rw [← ht] at hT
  have hT2 : Calls Tryd.prog 7 #[.int .i64 1500, .string ⟨#[97, 98]⟩] w fun e w' => e = .returned (.string (str t)) ∧ Below w.heap.size w w' := hT
  have htl := Wirey.toList_str
  have HGG := Lib.hid hG
  have HM := Lib.hid hm
  have HL := Lib.hid hl
  clear ht hT hG hm hl
  go_enter Tryd.func9, Tryd.ntmps9
  go_wp2_with fail
  refine hT2.mono ?_
  rintro e w1 ⟨rfl, hb⟩
  have hG1 := HGG.out.below hb
  have HB := Lib.hid hb
  clear hb hT2
  go_wp2_with fail
  refine (cut_c t (by have := HL.out; omega) _ hG1).mono ?_
  rintro e w2 ⟨q, rfl, hX, hql, hb⟩
  rw [HM.out]
  have HB2 := Lib.hid (HB.out.trans (hb.mono HB.out.size))
  have hm2 := HM.out
  obtain ⟨a0, a1, a2, a3, a4⟩ := pc_cells hX (k := 0) (by omega)
  obtain ⟨b0, b1, b2, b3, b4⟩ := pc_cells hX (k := 1) (by omega)
  rw [hm2] at a1 b1
  simp only [Nat.zero_mul, Nat.one_mul, Nat.zero_add] at a0 a1 a2 a3 a4 b0 b1 b2 b3 b4
  have HX := Lib.hid hX
  have HQ := Lib.hid hql
  clear hb HB hG1 hX hql hm2
  go_wp2_with fail
  refine (new_ok (W := sumL t) (sumL_len t) (n := 2) (by decide) (by decide) _).mono ?_
  rintro e w3 ⟨b, gd, gt, rfl, hH, l1, l2, l3, hb⟩
  have hX := HX.out.below hb HX.out.lt
  have HB3 := Lib.hid (HB2.out.trans (hb.mono HB2.out.size))
  have HLOW : Hid (w.heap.size ≤ gd ∧ w.heap.size ≤ gt ∧ q ≠ gd ∧ q ≠ gt) := Lib.hid (by have := HB2.out.size; have := HX.out.lt; omega)
  rw [← dataF_none t 2] at hH
  have hm2 := HM.out
  have hG3 := HGG.out.below HB3.out
  clear hb a0 a1 a2 a3 a4 b0 b1 b2 b3 b4 HX HQ HB2 l1 l2 l3
  obtain ⟨b0, b1, b2, b3, b4⟩ := pc_cells hX (k := 1) (by omega)
  rw [hm2] at b1
  simp only [Nat.one_mul] at b0 b1 b2 b3 b4
  have hA := addT_new (k := 1) (t := t) (F := [false, false]) rfl (by rw [hm2]; rfl) hG3 hH
  have ecs : (pcAt t 1).cs = #[.int .i64 1, .int .i64 2, .string (str (chunk t 1)), .string (str (sumL (chunk t 1))), .string (str (sumL t))] := by
    unfold Pc.cs pcAt
    rw [hm2]
    rfl
  rw [ecs] at hA
  clear ecs
  have HX := Lib.hid hX
  clear hX hH hG3 hm2
  go_wp2_with fail
  refine hA.mono ?_
  rintro e w4 ⟨rfl, hH, hk⟩
  have HB4 := Lib.hid (hk.below HB3.out (by have := HLOW.out; omega))
  have hX := hk.blk HX.out (by have := HLOW.out; omega)
  have hm2 := HM.out
  have hG4 := HGG.out.below HB4.out
  clear hA HB3 HX b0 b1 b2 b3 b4 hk
  obtain ⟨b0, b1, b2, b3, b4⟩ := pc_cells hX (k := 0) (by omega)
  rw [hm2] at b1
  simp only [Nat.zero_mul, Nat.zero_add] at b0 b1 b2 b3 b4
  have hA := addT_new (k := 0) (t := t) (F := [false, true]) rfl (by rw [hm2]; rfl) hG4 hH
  have ecs : (pcAt t 0).cs = #[.int .i64 0, .int .i64 2, .string (str (chunk t 0)), .string (str (sumL (chunk t 0))), .string (str (sumL t))] := by
    unfold Pc.cs pcAt
    rw [hm2]
    rfl
  rw [ecs] at hA
  clear ecs
  clear hX hH hG4 hm2
  go_wp2_with fail
  refine hA.mono ?_
  rintro e w5 ⟨rfl, hH, hk⟩
  have HB5 := Lib.hid (hk.below HB4.out (by have := HLOW.out; omega))
  have hm2 := HM.out
  have hG5 := HGG.out.below HB5.out
  clear hA HB4 b0 b1 b2 b3 b4 hk
  have hA := wholeT (t := t) (F := [true, true]) rfl (by rw [hm2]; rfl) hG5 hH
  clear hH hG5 hm2
  go_wp2_with fail
  refine hA.mono ?_
  rintro e w6 ⟨rfl, hb⟩
  have HB6 := Lib.hid (HB5.out.trans (hb.mono HB5.out.size))
  clear hb HB5 hA
  go_wp2_with fail
  go_ret
  exact ⟨rfl, HB6.out⟩
end Go.Proofs.YtccaomaobokldaaDoor.Snapy
