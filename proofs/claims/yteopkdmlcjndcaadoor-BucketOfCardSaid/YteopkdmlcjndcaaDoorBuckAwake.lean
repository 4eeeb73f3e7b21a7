/- Layer 15: what its laws begin with: one entry changes one bucket. Condition: the variables of layer 4 hold what the program's text lays. -/
import Derived.Test.YteopkdmlcjndcaaDoorBuckDiffer
namespace Go.Proofs.YteopkdmlcjndcaaDoor.Bucky
open Go.ChangeShapes Go.WideShapes Go.ChangeAt Go.RowKit
open Wirey Regy

def tK : Bs := [1, 107, 0, 1, 0]
theorem ent_k : entB [107] [] 1 0 = tK := by decide +kernel
theorem sum_short {l : Bs} (h : l.length ≤ 64) : sumL l = bts (blk h0s (wds (nums (pad l))) l.length true) 32 := by
  unfold sumL
  rw [sumH_last (by omega), Nat.zero_add]
theorem sums_ne : sumL [] ≠ sumL tK := by
  rw [sum_short (by decide), sum_short (by decide)]
  decide +kernel
theorem told_k : told (apart 16 16 (sumAt []) (sumAt (entB [107] [] 1 0))) 16 = [5] := by
  rw [ent_k]
  have h : ∀ i ∈ List.range 16, apart 16 16 (sumAt []) (sumAt tK) i = decide (i = 5) := fun i _ => by
    unfold apart sumAt
    by_cases e : i = 5
    · subst e
      simp only [if_true, ite_self]
      rw [decide_eq_true (Or.inr sums_ne)]
      rfl
    · rw [if_neg e, if_neg e, decide_eq_false e]
      simp
  unfold told
  rw [List.filter_congr h]
  decide +kernel
theorem SumsAt.texts {w : World} {B : Nat} {s : Bs} {v : Value} (h : SumsAt w B s v) : ∃ q, v = .slice (some ⟨q, 0, none⟩) 16 16 ∧ B ≤ q ∧ Texts w (some ⟨q, 0, none⟩) 16 q 0 (sumAt s) := by
  obtain ⟨q, hv, hq, hb⟩ := h.ex
  exact ⟨q, hv, hq, by decide, fun _ => rfl, fun i hi => by rw [Nat.zero_add, hb.cell i]; exact outs_at s hi, fun i _ => by rw [sumAt_len]; unfold maxLen; decide, fun _ => hb.lt⟩
set_option maxHeartbeats 4000000 in
set_option maxRecDepth 100000 in
theorem awake_c (w : World) (hG : Glob w) : Calls Tryd.prog 5 #[] w fun e w' => e = .returned (.bool true) ∧ Below w.heap.size w w' := by
  have HG := Lib.hid hG
  clear hG
  have hOf : ∀ W, Calls Tryd.prog 6 #[.string ⟨#[107]⟩] W fun e w' => e = .returned (.int .i64 5) ∧ W = w' := fun W => by
    have := bof_c [107] (by unfold maxLen; decide) W
    rwa [bkt_k] at this
  go_enter Tryd.func5, Tryd.ntmps5
  go_wp2_with fail
  refine (sumsN _ HG.out).mono ?_
  rintro e w1 ⟨v1, rfl, hS, hb⟩
  obtain ⟨q1, rfl, hq1, hT1⟩ := hS.texts
  have HB := Lib.hid hb
  have HG1 := Lib.hid (HG.out.below (hb.alloc hb.size (.cells #[.string ⟨#[107]⟩, .string ⟨#[]⟩, .int .u64 1, .int .u64 0] ET)))
  clear hS hb
  have hZ := Blk.new w1 ET #[.string ⟨#[107]⟩, .string ⟨#[]⟩, .int .u64 1, .int .u64 0]
  have hC := sums1 ⟨w1.heap.size, 0, none⟩ 1 (w1.alloc (.cells #[.string ⟨#[107]⟩, .string ⟨#[]⟩, .int .u64 1, .int .u64 0] ET)) HG1.out (by simp) (fun j u hj => by
    have e : (⟨w1.heap.size, 0, none⟩ : Addr).add j = ⟨w1.heap.size, j, none⟩ := by unfold Addr.add; by_cases h : j = 0 <;> simp [h]
    rw [e, hZ.cell j, List.getElem?_toArray]
    exact hj)
  clear hZ
  go_wp2_with fail
  refine hC.mono ?_
  rintro e w2 ⟨v2, rfl, hS, hb⟩
  obtain ⟨q2, rfl, hq2, hT2⟩ := hS.texts
  have hT1' := (hT1.below ((Below.refl _ w1).alloc (Nat.le_refl _) (.cells #[.string ⟨#[107]⟩, .string ⟨#[]⟩, .int .u64 1, .int .u64 0] ET)) (fun h => hT1.lt h)).below hb (fun h => by have := hT1.lt h; simp; omega)
  have HB2 := Lib.hid ((HB.out.alloc HB.out.size (.cells #[.string ⟨#[107]⟩, .string ⟨#[]⟩, .int .u64 1, .int .u64 0] ET)).trans (hb.mono (by have := HB.out.size; simp; omega)))
  clear hT1 hS hb hC HB HG1
  have hD := differ_c 16 16 hT1' hT2
  rw [told_k] at hD
  clear hT1' hT2
  go_wp2_with fail
  refine hD.mono ?_
  rintro e w3 ⟨v3, rfl, hO, hb⟩
  obtain ⟨a, c, rfl⟩ : ∃ a c, v3 = .slice a 1 c := hO.form
  obtain ⟨g, rfl, hcell⟩ := Own.at_ hO (i := 0) (x := 5) rfl
  have HB3 := Lib.hid (HB2.out.trans (hb.mono HB2.out.size))
  have hx : w3.drew.cell? ⟨g, 0, none⟩ = some (.int .i64 5) := hcell
  clear hD hO hb HB2 hcell
  go_upto_region 3 with (fail)
  refine region_only 21 #[false, false, false, false, false, false, false, false, false, false, false, false, false, false, false, false, false, false, false, false, false] (S := (fun W => W.cell? ⟨g, 0, none⟩ = some (.int .i64 5))) rfl rfl (by kernel_rfl) hx (fun hSw => ?_)
  refine take_at 0 11 (fuel := 20) ?_ rfl rfl (by kernel_rfl) (by kernel_rfl) (by kernel_rfl) (Or.inl ⟨by rfl, ?_⟩) hSw ?_
  rotate_left
  · intro wx hSx
    (try dsimp only at hSx)
    go_split_ands
    go_simp
    (try with_reducible rfl)
  simp only [List.setIfInBounds_toArray, List.set_cons_zero, List.set_cons_succ]
  refine take_at 1 12 (fuel := 19) ?_ rfl rfl (by kernel_rfl) (by kernel_rfl) (by kernel_rfl) (Or.inl ⟨by rfl, ?_⟩) hSw ?_
  rotate_left
  · intro wx hSx
    (try dsimp only at hSx)
    go_split_ands
    go_simp
    (try with_reducible rfl)
  simp only [List.setIfInBounds_toArray, List.set_cons_zero, List.set_cons_succ]
  refine take_at 2 13 (fuel := 18) ?_ rfl rfl (by kernel_rfl) (by kernel_rfl) (by kernel_rfl) (Or.inl ⟨by rfl, ?_⟩) hSw ?_
  rotate_left
  · intro wx hSx
    (try dsimp only at hSx)
    go_split_ands
    go_simp
    (try with_reducible rfl)
  simp only [List.setIfInBounds_toArray, List.set_cons_zero, List.set_cons_succ]
  refine take_at 3 14 (fuel := 17) ?_ rfl rfl (by kernel_rfl) (by kernel_rfl) (by kernel_rfl) (Or.inl ⟨by rfl, ?_⟩) hSw ?_
  rotate_left
  · intro wx hSx
    (try dsimp only at hSx)
    go_split_ands
    go_simp
    (try with_reducible rfl)
  simp only [List.setIfInBounds_toArray, List.set_cons_zero, List.set_cons_succ]
  refine take_at 4 15 (fuel := 16) ?_ rfl rfl (by kernel_rfl) (by kernel_rfl) (by kernel_rfl) (Or.inl ⟨by rfl, ?_⟩) hSw ?_
  rotate_left
  · intro wx hSx
    (try dsimp only at hSx)
    go_split_ands
    go_simp
    (try with_reducible rfl)
  simp only [List.setIfInBounds_toArray, List.set_cons_zero, List.set_cons_succ]
  refine take_at 5 16 (fuel := 15) ?_ rfl rfl (by kernel_rfl) (by kernel_rfl) (by kernel_rfl) (Or.inl ⟨by rfl, ?_⟩) hSw ?_
  rotate_left
  · intro wx hSx
    (try dsimp only at hSx)
    go_split_ands
    go_simp
    (try with_reducible rfl)
  simp only [List.setIfInBounds_toArray, List.set_cons_zero, List.set_cons_succ]
  refine take_at 6 17 (fuel := 14) ?_ rfl rfl (by kernel_rfl) (by kernel_rfl) (by kernel_rfl) (Or.inl ⟨by rfl, ?_⟩) hSw ?_
  rotate_left
  · intro wx hSx
    (try dsimp only at hSx)
    go_split_ands
    go_simp
    (try with_reducible rfl)
  simp only [List.setIfInBounds_toArray, List.set_cons_zero, List.set_cons_succ]
  refine take_at 7 18 (fuel := 13) ?_ rfl rfl (by kernel_rfl) (by kernel_rfl) (by kernel_rfl) (Or.inl ⟨by rfl, ?_⟩) hSw ?_
  rotate_left
  · intro wx hSx
    (try dsimp only at hSx)
    go_split_ands
    go_simp
    (try with_reducible rfl)
  simp only [List.setIfInBounds_toArray, List.set_cons_zero, List.set_cons_succ]
  refine take_at 8 19 (fuel := 12) ?_ rfl rfl (by kernel_rfl) (by kernel_rfl) (by kernel_rfl) (Or.inl ⟨by rfl, ?_⟩) hSw ?_
  rotate_left
  · intro wx hSx
    (try dsimp only at hSx)
    go_split_ands
    go_simp
    (try with_reducible rfl)
  simp only [List.setIfInBounds_toArray, List.set_cons_zero, List.set_cons_succ]
  refine take_at 9 20 (fuel := 11) ?_ rfl rfl (by kernel_rfl) (by kernel_rfl) (by kernel_rfl) (Or.inl ⟨by rfl, ?_⟩) hSw ?_
  rotate_left
  · intro wx hSx
    (try dsimp only at hSx)
    go_split_ands
    go_simp
    (try with_reducible rfl)
  simp only [List.setIfInBounds_toArray, List.set_cons_zero, List.set_cons_succ]
  refine take_at 10 21 (fuel := 10) ?_ rfl rfl (by kernel_rfl) (by kernel_rfl) (by kernel_rfl) (Or.inl ⟨by rfl, ?_⟩) hSw ?_
  rotate_left
  · intro wx hSx
    (try dsimp only at hSx)
    go_split_ands
    go_simp
    (try with_reducible rfl)
  simp only [List.setIfInBounds_toArray, List.set_cons_zero, List.set_cons_succ]
  refine take_at 11 22 (fuel := 9) ?_ rfl rfl (by kernel_rfl) (by kernel_rfl) (by kernel_rfl) (Or.inl ⟨by rfl, ?_⟩) hSw ?_
  rotate_left
  · intro wx hSx
    (try dsimp only at hSx)
    go_split_ands
    go_simp
    (try with_reducible rfl)
  simp only [List.setIfInBounds_toArray, List.set_cons_zero, List.set_cons_succ]
  refine take_at 12 23 (fuel := 8) ?_ rfl rfl (by kernel_rfl) (by kernel_rfl) (by kernel_rfl) (Or.inl ⟨by rfl, ?_⟩) hSw ?_
  rotate_left
  · intro wx hSx
    (try dsimp only at hSx)
    go_split_ands
    go_simp
    (try with_reducible rfl)
  simp only [List.setIfInBounds_toArray, List.set_cons_zero, List.set_cons_succ]
  refine take_at 13 24 (fuel := 7) ?_ rfl rfl (by kernel_rfl) (by kernel_rfl) (by kernel_rfl) (Or.inl ⟨by rfl, ?_⟩) hSw ?_
  rotate_left
  · intro wx hSx
    (try dsimp only at hSx)
    go_split_ands
    go_simp
    (try with_reducible rfl)
  simp only [List.setIfInBounds_toArray, List.set_cons_zero, List.set_cons_succ]
  refine take_at 14 25 (fuel := 6) ?_ rfl rfl (by kernel_rfl) (by kernel_rfl) (by kernel_rfl) (Or.inl ⟨by rfl, ?_⟩) hSw ?_
  rotate_left
  · intro wx hSx
    (try dsimp only at hSx)
    go_split_ands
    go_simp
    (try with_reducible rfl)
  simp only [List.setIfInBounds_toArray, List.set_cons_zero, List.set_cons_succ]
  refine take_at 15 26 (fuel := 5) ?_ rfl rfl (by kernel_rfl) (by kernel_rfl) (by kernel_rfl) (Or.inl ⟨by rfl, ?_⟩) hSw ?_
  rotate_left
  · intro wx hSx
    (try dsimp only at hSx)
    go_split_ands
    go_simp
    (try with_reducible rfl)
  simp only [List.setIfInBounds_toArray, List.set_cons_zero, List.set_cons_succ]
  refine take_at 16 27 (fuel := 4) ?_ rfl rfl (by kernel_rfl) (by kernel_rfl) (by kernel_rfl) (Or.inl ⟨by rfl, ?_⟩) hSw ?_
  rotate_left
  · intro wx hSx
    (try dsimp only at hSx)
    go_split_ands
    go_simp
    (try with_reducible rfl)
  simp only [List.setIfInBounds_toArray, List.set_cons_zero, List.set_cons_succ]
  refine wpAnyH_ready (fuel := 3) (rs := [17]) (by kernel_rfl) (by simp) (AllReadyH.cons rfl (fun K hK => ?_) AllReadyH.nil)
  go_simp
  refine Calls.mono (hOf _) ?_
  rintro e wv ⟨rfl, rfl⟩
  refine hK.out _ _ hSw (fun hSw => ?_)
  clear hK K
  simp only [List.setIfInBounds_toArray, List.set_cons_zero, List.set_cons_succ]
  refine take_at 18 29 (fuel := 2) ?_ rfl rfl (by kernel_rfl) (by kernel_rfl) (by kernel_rfl) (Or.inl ⟨by rfl, ?_⟩) hSw ?_
  rotate_left
  · intro wx hSx
    (try dsimp only at hSx)
    go_split_ands
    go_simp
    (try with_reducible rfl)
  simp only [List.setIfInBounds_toArray, List.set_cons_zero, List.set_cons_succ]
  refine take_at 19 30 (fuel := 1) ?_ rfl rfl (by kernel_rfl) (by kernel_rfl) (by kernel_rfl) (Or.inl ⟨by rfl, ?_⟩) hSw ?_
  rotate_left
  · intro wx hSx
    (try dsimp only at hSx)
    go_split_ands
    go_simp
    (try with_reducible rfl)
  simp only [List.setIfInBounds_toArray, List.set_cons_zero, List.set_cons_succ]
  refine take_at 20 0 (fuel := 0) ?_ rfl rfl (by kernel_rfl) (by kernel_rfl) (by kernel_rfl) (Or.inl ⟨by rfl, ?_⟩) hSw ?_
  rotate_left
  · intro wx hSx
    (try dsimp only at hSx)
    go_split_ands
    go_simp
    (try with_reducible rfl)
  simp only [List.setIfInBounds_toArray, List.set_cons_zero, List.set_cons_succ]
  refine wpAnyH_done (by kernel_rfl) ⟨rfl, ?_⟩ 0
  clear hSw
  go_wp2_with fail
  go_ret
  exact ⟨rfl, HB3.out.drew⟩
end Go.Proofs.YteopkdmlcjndcaaDoor.Bucky
