/- The program's log: records go. The only condition: places are not near the end of the numbers. -/
import Derived.Test.YtajpmlmacnomfaaLogCut
namespace Go.Proofs.Ytajpmlmacnomfaa.Logy
open Go.ChangeShapes Go.WideShapes Go.ChangeAt Go.RowKit
open Wirey (Blk Row str str_size str_list str_cat Kp)
open Regy Slsy
section
variable {w0 w w' : World} {P S : Nat → Prop} {b base most : Nat} {l : List Rc}
set_option maxRecDepth 100000 in
theorem cut_q (at_ : Nat) {z : Int} (hs : at_ < 18446744073709551616) (hb : base + 500 < 18446744073709551616) (hz : z = (at_ : Int)) (hH : HeldL w0 w P b base most l) : Calls Try.prog 17 #[lp b, .int .u64 z] w fun e w' => e = .returned (.tuple #[]) ∧ ∃ P', HeldL w0 w' P' b (base + cutN base at_ l) most (l.drop (cutN base at_ l)) ∧ Mv P P' w w' := by
  subst hz
  have hle := hH.le
  have hlast := last_q hb hH
  obtain ⟨m, hm⟩ : ∃ m, m = min at_ (base + l.length) := ⟨_, rfl⟩
  have hcm : cutN base at_ l = m - base := by unfold cutN; omega
  rw [hcm]
  have hml : m ≤ base + l.length := by omega
  have hm2 : (at_ ≤ base + l.length ∧ m = at_) ∨ (base + l.length < at_ ∧ m = base + l.length) := by omega
  clear hcm hm
  have hm := hm2
  clear hm2
  by_cases e0 : m ≤ base
  · have hk : m - base = 0 := by omega
    rw [hk, Nat.add_zero, List.drop_zero]
    have d0 : decide ((m : Int) ≤ (base : Int)) = true := decide_eq_true (by omega)
    have d1 : decide (m ≤ base) = true := decide_eq_true e0
    clear hk
    go_enter Try.func17, Try.ntmps17
    go_wp2_with fail
    refine hlast.mono ?_
    rintro e w1 ⟨rfl, hb1⟩
    go_wp2_with fail
    (generalize hZ : (base : Int) + (l.length : Int) = Z; obtain rfl : Z = (m : Int) := by omega)
    rotate_left
    (generalize hZ : (at_ : Int) = Z; obtain rfl : Z = (m : Int) := by omega)
    all_goals
      clear hm hZ hlast
      refine (base_c (hH.below hb1)).mono ?_
      rintro e w2 ⟨rfl, hb2⟩
      have hb3 := hb1.trans (hb2.mono hb1.size)
      go_wp2_with fail
      exact bodyPost_ret (v := .tuple #[]) (results_none rfl _ _ _) rfl ⟨rfl, P, hH.below hb3, Mv.stay hb3⟩
  · obtain ⟨k, hk⟩ : ∃ k, k = m - base := ⟨_, rfl⟩
    rw [← hk]
    have d0 : decide ((m : Int) ≤ (base : Int)) = false := decide_eq_false (by omega)
    have d1 : decide (m ≤ base) = false := decide_eq_false e0
    have hkk : 1 ≤ k ∧ k ≤ l.length := by omega
    have hw1 : IntKind.u64.wrap ((m : Int) - (base : Int)) = (k : Int) := by rw [show (m : Int) - (base : Int) = (k : Int) by omega]; exact IntWalk.u64_in _ (by omega)
    have hw2 : IntKind.i64.wrap (k : Int) = (k : Int) := IntWalk.i64_in _ (by omega)
    have hbk : base + k = m := by omega
    rw [hbk]
    clear hbk
    go_enter Try.func17, Try.ntmps17
    go_wp2_with fail
    refine hlast.mono ?_
    rintro e w1 ⟨rfl, hb1⟩
    go_wp2_with fail
    (generalize hZ : (base : Int) + (l.length : Int) = Z; obtain rfl : Z = (m : Int) := by omega)
    rotate_left
    (generalize hZ : (at_ : Int) = Z; obtain rfl : Z = (m : Int) := by omega)
    all_goals
      have hm1 : base < m ∧ m < 18446744073709551616 := by omega
      clear hm hZ hlast hml e0 hk
      refine (base_c (hH.below hb1)).mono ?_
      rintro e w2 ⟨rfl, hb2⟩
      have hb3 := hb1.trans (hb2.mono hb1.size)
      go_wp2_with fail
      have h2 := hH.below hb3
      obtain ⟨v, hb0, hd, ho, hl, hm, hP⟩ := h2
      obtain ⟨g, c, cur, rfl, hB, hbg, -⟩ := ho.2.resolve_left (fun h => by have := h.2; omega)
      have hgb : ¬ b = g := by
        intro e
        subst e
        have e3 := hd.symm.trans hbg
        injection e3 with e3
        injection e3 with _ e4
        exact absurd e4 (by decide)
      clear hbg
      have cs : ∀ {W : World}, Kp (fun j => j = g) w2 W → (fun W : World => W.cell? ⟨b, 0, none⟩ = some (.int .u64 (base : Int)) ∧ W.cell? ⟨b, 2, none⟩ = some (.slice (some ⟨g, 0, none⟩) l.length c)) W := fun {W} hW => by
        have q0 := hW.blk hd hgb
        exact ⟨q0.cell 0, q0.cell 2⟩
      have k20 : Kp (fun j => j = g) w2 w2.drew := ⟨rfl, rfl, rfl, Nat.le_refl _, fun _ _ _ => rfl⟩
      have ho2 : Ow w2.drew w0.heap.size RT Rc.enc 9 (.slice (some ⟨g, 0, none⟩) l.length c) l := ho
      refine regionK_only 16 #[false, false, false, false, false, false, false, false, false, false, false, false, false, false, false, false] 15 (V := (fun W : World => W.cell? ⟨b, 0, none⟩ = some (.int .u64 (base : Int)) ∧ W.cell? ⟨b, 2, none⟩ = some (.slice (some ⟨g, 0, none⟩) l.length c))) rfl rfl (by kernel_rfl) (cs k20) (fun hSw => ?_)
      generalize w2.drew = w20 at k20 ho2 hSw ⊢
      refine early_at 15 0 12 (fuel := 15) ?_ rfl rfl (by kernel_rfl) (by kernel_rfl) (by kernel_rfl) (by decide) rfl (by kernel_rfl) (by kernel_rfl) (Or.inl ⟨by rfl, ?_⟩) hSw ?_
      rotate_left
      · intro wx hSx
        (try dsimp only at hSx)
        go_split_ands
        go_simp
        (try with_reducible rfl)
      simp only [List.setIfInBounds_toArray, List.set_cons_zero, List.set_cons_succ]
      refine early_at 15 1 13 (fuel := 14) ?_ rfl rfl (by kernel_rfl) (by kernel_rfl) (by kernel_rfl) (by decide) rfl (by kernel_rfl) (by kernel_rfl) (Or.inl ⟨by rfl, ?_⟩) hSw ?_
      rotate_left
      · intro wx hSx
        (try dsimp only at hSx)
        go_split_ands
        go_simp
        (try with_reducible rfl)
      simp only [List.setIfInBounds_toArray, List.set_cons_zero, List.set_cons_succ]
      refine early_at 15 2 14 (fuel := 13) ?_ rfl rfl (by kernel_rfl) (by kernel_rfl) (by kernel_rfl) (by decide) rfl (by kernel_rfl) (by kernel_rfl) (Or.inl ⟨by rfl, ?_⟩) hSw ?_
      rotate_left
      · intro wx hSx
        (try dsimp only at hSx)
        go_split_ands
        go_simp
        (try with_reducible rfl)
      simp only [List.setIfInBounds_toArray, List.set_cons_zero, List.set_cons_succ]
      refine early_at 15 3 15 (fuel := 12) ?_ rfl rfl (by kernel_rfl) (by kernel_rfl) (by kernel_rfl) (by decide) rfl (by kernel_rfl) (by kernel_rfl) (Or.inl ⟨by rfl, ?_⟩) hSw ?_
      rotate_left
      · intro wx hSx
        (try dsimp only at hSx)
        go_split_ands
        go_simp
        (try with_reducible rfl)
      simp only [List.setIfInBounds_toArray, List.set_cons_zero, List.set_cons_succ]
      refine early_at 15 4 16 (fuel := 11) ?_ rfl rfl (by kernel_rfl) (by kernel_rfl) (by kernel_rfl) (by decide) rfl (by kernel_rfl) (by kernel_rfl) (Or.inl ⟨by rfl, ?_⟩) hSw ?_
      rotate_left
      · intro wx hSx
        (try dsimp only at hSx)
        go_split_ands
        go_simp
        (try with_reducible rfl)
      simp only [List.setIfInBounds_toArray, List.set_cons_zero, List.set_cons_succ]
      refine early_at 15 5 17 (fuel := 10) ?_ rfl rfl (by kernel_rfl) (by kernel_rfl) (by kernel_rfl) (by decide) rfl (by kernel_rfl) (by kernel_rfl) (Or.inl ⟨by rfl, ?_⟩) hSw ?_
      rotate_left
      · intro wx hSx
        (try dsimp only at hSx)
        go_split_ands
        go_simp
        (try with_reducible rfl)
      simp only [List.setIfInBounds_toArray, List.set_cons_zero, List.set_cons_succ]
      refine early_at 15 6 18 (fuel := 9) ?_ rfl rfl (by kernel_rfl) (by kernel_rfl) (by kernel_rfl) (by decide) rfl (by kernel_rfl) (by kernel_rfl) (Or.inl ⟨by rfl, ?_⟩) hSw ?_
      rotate_left
      · intro wx hSx
        (try dsimp only at hSx)
        go_split_ands
        go_simp
        (try with_reducible rfl)
      simp only [List.setIfInBounds_toArray, List.set_cons_zero, List.set_cons_succ]
      refine early_at 15 7 19 (fuel := 8) ?_ rfl rfl (by kernel_rfl) (by kernel_rfl) (by kernel_rfl) (by decide) rfl (by kernel_rfl) (by kernel_rfl) (Or.inl ⟨by rfl, ?_⟩) hSw ?_
      rotate_left
      · intro wx hSx
        (try dsimp only at hSx)
        go_split_ands
        go_simp
        (try with_reducible rfl)
      simp only [List.setIfInBounds_toArray, List.set_cons_zero, List.set_cons_succ]
      refine early_at 15 8 20 (fuel := 7) ?_ rfl rfl (by kernel_rfl) (by kernel_rfl) (by kernel_rfl) (by decide) rfl (by kernel_rfl) (by kernel_rfl) (Or.inl ⟨by rfl, ?_⟩) hSw ?_
      rotate_left
      · intro wx hSx
        (try dsimp only at hSx)
        go_split_ands
        go_simp
        (try with_reducible rfl)
      simp only [List.setIfInBounds_toArray, List.set_cons_zero, List.set_cons_succ]
      refine early_at 15 9 21 (fuel := 6) ?_ rfl rfl (by kernel_rfl) (by kernel_rfl) (by kernel_rfl) (by decide) rfl (by kernel_rfl) (by kernel_rfl) (Or.inl ⟨by rfl, ?_⟩) hSw ?_
      rotate_left
      · intro wx hSx
        (try dsimp only at hSx)
        go_split_ands
        go_simp
        (try with_reducible rfl)
      simp only [List.setIfInBounds_toArray, List.set_cons_zero, List.set_cons_succ]
      refine early_at 15 10 22 (fuel := 5) ?_ rfl rfl (by kernel_rfl) (by kernel_rfl) (by kernel_rfl) (by decide) rfl (by kernel_rfl) (by kernel_rfl) (Or.inl ⟨by rfl, ?_⟩) hSw ?_
      rotate_left
      · intro wx hSx
        (try dsimp only at hSx)
        go_split_ands
        go_simp
        (try with_reducible rfl)
      simp only [List.setIfInBounds_toArray, List.set_cons_zero, List.set_cons_succ]
      refine early_at 15 11 23 (fuel := 4) ?_ rfl rfl (by kernel_rfl) (by kernel_rfl) (by kernel_rfl) (by decide) rfl (by kernel_rfl) (by kernel_rfl) (Or.inl ⟨by rfl, ?_⟩) hSw ?_
      rotate_left
      · intro wx hSx
        (try dsimp only at hSx)
        go_split_ands
        go_simp
        (try with_reducible rfl)
      simp only [List.setIfInBounds_toArray, List.set_cons_zero, List.set_cons_succ]
      refine Wirey.wpAnyK_one 12 (by kernel_rfl) rfl (fun K hK => ?_)
      go_simp
      refine Calls.mono (delete_c (k := k) hkk (by omega) ho2) ?_
      rintro e w4 ⟨rfl, ho4, k4⟩
      replace k4 := k20.trans k4
      refine hK.out _ _ trivial (fun _ => cs k4) ?_
      replace hSw := cs k4
      have hd4 := k4.blk hd hgb
      have y1 := hd4.cell 2
      have f1 := hd4.free 2
      simp only [List.getElem?_toArray, List.getElem?_cons_zero, List.getElem?_cons_succ] at y1
      clear hK K
      simp only [List.setIfInBounds_toArray, List.set_cons_zero, List.set_cons_succ]
      refine takeK_at 15 13 25 (fuel := 2) ?_ rfl rfl (by kernel_rfl) (by kernel_rfl) (by kernel_rfl) (by decide) (Or.inl ⟨by rfl, ?_⟩) hSw ?_
      rotate_left
      · intro wx hSx
        (try dsimp only at hSx)
        go_split_ands
        go_simp
        (try with_reducible rfl)
      simp only [List.setIfInBounds_toArray, List.set_cons_zero, List.set_cons_succ]
      refine early_at 15 14 26 (fuel := 1) ?_ rfl rfl (by kernel_rfl) (by kernel_rfl) (by kernel_rfl) (by decide) rfl (by kernel_rfl) (by kernel_rfl) (Or.inl ⟨by rfl, ?_⟩) hSw ?_
      rotate_left
      · intro wx hSx
        (try dsimp only at hSx)
        go_split_ands
        go_simp
        (try with_reducible rfl)
      simp only [List.setIfInBounds_toArray, List.set_cons_zero, List.set_cons_succ]
      refine Wirey.wpAnyK_one 15 (by kernel_rfl) rfl (fun K hK => ?_)
      go_simp
      refine hK.out _ _ trivial (fun h9 => absurd h9 (by decide)) ?_
      clear hK K
      refine Wirey.wpAnyK_done (by kernel_rfl) ⟨rfl, ?_⟩
      have hd5 := (hd4.put 2 (.slice (some ⟨g, 0, none⟩) (l.length - k) c)).put 0 (.int .u64 (m : Int))
      simp only [List.setIfInBounds_toArray, List.set_cons_zero, List.set_cons_succ] at hd5
      have hd4' := hd4.put 2 (.slice (some ⟨g, 0, none⟩) (l.length - k) c)
      simp only [List.setIfInBounds_toArray, List.set_cons_zero, List.set_cons_succ] at hd4'
      have ho5 := (ho4.stay (w' := w4.setCell ⟨b, 2, none⟩ (.slice (some ⟨g, 0, none⟩) (l.length - k) c)) fun g' hg => Below.heap_setCell _ _ _ _ (fun e => hgb (e.symm.trans (Option.some.inj hg).symm))).stay (w' := (w4.setCell ⟨b, 2, none⟩ (.slice (some ⟨g, 0, none⟩) (l.length - k) c)).setCell ⟨b, 0, none⟩ (.int .u64 (m : Int))) fun g' hg => Below.heap_setCell _ _ _ _ (fun e => hgb (e.symm.trans (Option.some.inj hg).symm))
      have k5 : Kp P w ((w4.setCell ⟨b, 2, none⟩ (.slice (some ⟨g, 0, none⟩) (l.length - k) c)).setCell ⟨b, 0, none⟩ (.int .u64 (m : Int))) :=
        (((Kp.of_below (S := P) hb3).trans ⟨k4.os, k4.tape, k4.output, k4.size, fun j hj hn => k4.block j hj (fun e => hn ((hP j).2 (.inr (congrArg some e.symm))))⟩).set (p := ⟨b, 2, none⟩) ((hP b).2 (.inl rfl)) _).set (p := ⟨b, 0, none⟩) ((hP b).2 (.inl rfl)) _
      have z0 := hd4'.cell 0
      have z1 := hd4'.free 0
      simp only [List.getElem?_toArray, List.getElem?_cons_zero] at z0
      clear hSw cs k4 k20 ho2 ho4 hd4 y1 f1 ho hd hd4'
      go_wp2_with fail
      exact bodyPost_end (v := .tuple #[]) (results_none rfl _ _ _) rfl ⟨rfl, P, ⟨_, hb0, hd5, ho5, by rw [List.length_drop]; omega, hm, hP⟩, k5, fun _ h => .inl h⟩
theorem cut_c (at_ : Nat) (hs : at_ < 18446744073709551616) (hb : base + 1000 < 18446744073709551616) (h : HeldL w0 w P b base most l) : Calls Try.prog 17 #[lp b, .int .u64 (at_ : Int)] w fun e w' => e = .returned (.tuple #[]) ∧ ∃ P', HeldL w0 w' P' b (base + cutN base at_ l) most (l.drop (cutN base at_ l)) ∧ Mv P P' w w' := cut_q at_ hs (by omega) rfl h
end
end Go.Proofs.Ytajpmlmacnomfaa.Logy
