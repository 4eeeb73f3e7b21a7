/- The program's log: records are told. The only condition: places are not near the end of the numbers. -/
import Derived.Test.YtajpmlmacnomfaaLogCut
namespace Go.Proofs.Ytajpmlmacnomfaa.Logy
open Go.ChangeShapes Go.WideShapes Go.ChangeAt Go.RowKit
open Wirey (Blk Row str str_size str_list str_cat Kp)
open Regy Slsy
section
variable {w0 w w' : World} {P S : Nat → Prop} {b base most : Nat} {l : List Rc}
set_option maxRecDepth 100000 in
theorem from_c (seq : Nat) (_hs : seq < 18446744073709551616) (k : Int) (hk : -9223372036854775808 ≤ k ∧ k ≤ 9223372036854775807) (hb : base + 1000 < 18446744073709551616) (hH : HeldL w0 w P b base most l) : Calls Try.prog 11 #[lp b, .int .u64 (seq : Int), .int .i64 k] w fun e w' => ∃ v, e = .returned (.tuple #[v, .bool (inL base l seq)]) ∧ Ow w' w.heap.size RT Rc.enc 9 v (fromL base l seq k) ∧ Below w.heap.size w w' := by
  have hle := hH.le
  have hlast := fun W hW => last_q (by omega) (hH.below (w' := W) hW)
  by_cases e1 : seq < base
  · have hI : inL base l seq = false := by unfold inL; rw [decide_eq_false (by omega)]; rfl
    have hF : fromL base l seq k = [] := by unfold fromL; rw [if_neg (by omega)]
    rw [hI, hF]
    clear hI hF
    obtain ⟨a, c, c0, c1, c2⟩ := hH.cs
    have d0 : decide ((seq : Int) < (base : Int)) = true := decide_eq_true (by omega)
    have d1 : decide (seq < base) = true := decide_eq_true e1
    go_enter Try.func11, Try.ntmps11
    go_wp2_with fail
    refine (made_l c1 hle.2).mono ?_
    rintro e w' ⟨rfl, rfl⟩
    go_wp2_with fail
    exact bodyPost_ret (results_tmp2 rfl _ _ _) rfl ⟨_, rfl, ⟨rfl, .inl ⟨rfl, rfl⟩⟩, Below.refl _ _⟩
  have d0 : decide ((seq : Int) < (base : Int)) = false := decide_eq_false (by omega)
  have d1 : decide (seq < base) = false := decide_eq_false e1
  by_cases e2 : base + l.length < seq
  · have hI : inL base l seq = false := by unfold inL; rw [decide_eq_false (show ¬ seq ≤ base + l.length by omega), Bool.and_false]
    have hF : fromL base l seq k = [] := by unfold fromL; rw [if_neg (by omega)]
    rw [hI, hF]
    clear hI hF
    obtain ⟨a, c, c0, c1, c2⟩ := hH.cs
    have d2 : decide (((base + l.length : Nat) : Int) < (seq : Int)) = true := decide_eq_true (by omega)
    have d3 : decide (base + l.length < seq) = true := decide_eq_true e2
    have d4 : decide ((base : Int) + (l.length : Int) < (seq : Int)) = true := decide_eq_true (by omega)
    go_enter Try.func11, Try.ntmps11
    go_wp2_with fail
    refine (made_l c1 hle.2).mono ?_
    rintro e w' ⟨rfl, rfl⟩
    go_wp2_with fail
    refine (hlast _ (Below.refl _ _)).mono ?_
    rintro e w1 ⟨rfl, hb1⟩
    go_wp2_with fail
    exact bodyPost_ret (results_tmp2 rfl _ _ _) rfl ⟨_, rfl, ⟨rfl, .inl ⟨rfl, rfl⟩⟩, hb1⟩
  have d2 : decide (((base + l.length : Nat) : Int) < (seq : Int)) = false := decide_eq_false (by omega)
  have d3 : decide (base + l.length < seq) = false := decide_eq_false e2
  have d4 : decide ((base : Int) + (l.length : Int) < (seq : Int)) = false := decide_eq_false (by omega)
  have hI : inL base l seq = true := by unfold inL; rw [decide_eq_true (show base ≤ seq by omega), decide_eq_true (show seq ≤ base + l.length by omega)]; rfl
  obtain ⟨j, hj⟩ : ∃ j, j = seq - base := ⟨_, rfl⟩
  have hF : fromL base l seq k = (l.drop j).take k.toNat := by unfold fromL; rw [if_pos (by omega), hj]
  rw [hI, hF]
  clear hI hF
  have hjl : j ≤ l.length := by omega
  have hw1 : IntKind.u64.wrap ((seq : Int) - (base : Int)) = (j : Int) := by rw [show (seq : Int) - (base : Int) = (j : Int) by omega]; exact IntWalk.u64_in _ (by omega)
  obtain ⟨v, hb0, hd, ho, hl, hm, hP⟩ := hH
  have c0 : w.cell? ⟨b, 0, none⟩ = some (.int .u64 (base : Int)) := hd.cell 0
  have c1 : w.cell? ⟨b, 1, none⟩ = some (.int .i64 (most : Int)) := hd.cell 1
  have c2 : w.cell? ⟨b, 2, none⟩ = some v := hd.cell 2
  have hbl := hd.lt
  clear hj hd hP
  rcases ho.2 with ⟨rfl, h0⟩ | ⟨g, c, cur, rfl, hB, hbg, hc, hcm, hsz, htk⟩
  · have hl0 : l = [] := List.length_eq_zero_iff.1 h0
    subst hl0
    obtain rfl : j = 0 := by simpa using hjl
    have hn : (([] : List Rc).drop 0).take k.toNat = [] := by simp
    rw [hn]
    clear hn
    have hLn : ([] : List Rc).length = 0 := rfl
    rw [hLn] at *
    clear ho h0
    go_enter Try.func11, Try.ntmps11
    go_wp2_with fail
    refine (made_l c1 hle.2).mono ?_
    rintro e w' ⟨rfl, rfl⟩
    go_wp2_with fail
    refine (hlast _ (Below.refl _ _)).mono ?_
    rintro e w1 ⟨rfl, hb1⟩
    replace c0 := (World.cell?_of_block (a := ⟨b, 0, none⟩) (hb1.block b hbl)).trans c0
    replace c1 := (World.cell?_of_block (a := ⟨b, 1, none⟩) (hb1.block b hbl)).trans c1
    replace c2 := (World.cell?_of_block (a := ⟨b, 2, none⟩) (hb1.block b hbl)).trans c2
    go_wp2_with fail
    refine region_only 12 #[false, false, false, false, false, false, false, false, false, false, false, false] (S := fun W => W.cell? ⟨b, 0, none⟩ = some (.int .u64 (base : Int)) ∧ W.cell? ⟨b, 1, none⟩ = some (.int .i64 (most : Int)) ∧ W.cell? ⟨b, 2, none⟩ = some (.slice none 0 0)) rfl rfl (by kernel_rfl) ⟨c0, c1, c2⟩ (fun hSw => ?_)
    refine take_at 0 26 (fuel := 11) ?_ rfl rfl (by kernel_rfl) (by kernel_rfl) (by kernel_rfl) (Or.inl ⟨by rfl, ?_⟩) hSw ?_
    rotate_left
    · intro wx hSx
      (try dsimp only at hSx)
      go_split_ands
      go_simp
      (try with_reducible rfl)
    simp only [List.setIfInBounds_toArray, List.set_cons_zero, List.set_cons_succ]
    refine take_at 1 27 (fuel := 10) ?_ rfl rfl (by kernel_rfl) (by kernel_rfl) (by kernel_rfl) (Or.inl ⟨by rfl, ?_⟩) hSw ?_
    rotate_left
    · intro wx hSx
      (try dsimp only at hSx)
      go_split_ands
      go_simp
      (try with_reducible rfl)
    simp only [List.setIfInBounds_toArray, List.set_cons_zero, List.set_cons_succ]
    refine take_at 2 28 (fuel := 9) ?_ rfl rfl (by kernel_rfl) (by kernel_rfl) (by kernel_rfl) (Or.inl ⟨by rfl, ?_⟩) hSw ?_
    rotate_left
    · intro wx hSx
      (try dsimp only at hSx)
      go_split_ands
      go_simp
      (try with_reducible rfl)
    simp only [List.setIfInBounds_toArray, List.set_cons_zero, List.set_cons_succ]
    refine take_at 3 29 (fuel := 8) ?_ rfl rfl (by kernel_rfl) (by kernel_rfl) (by kernel_rfl) (Or.inl ⟨by rfl, ?_⟩) hSw ?_
    rotate_left
    · intro wx hSx
      (try dsimp only at hSx)
      go_split_ands
      go_simp
      (try with_reducible rfl)
    simp only [List.setIfInBounds_toArray, List.set_cons_zero, List.set_cons_succ]
    refine take_at 4 30 (fuel := 7) ?_ rfl rfl (by kernel_rfl) (by kernel_rfl) (by kernel_rfl) (Or.inl ⟨by rfl, ?_⟩) hSw ?_
    rotate_left
    · intro wx hSx
      (try dsimp only at hSx)
      go_split_ands
      go_simp
      (try with_reducible rfl)
    simp only [List.setIfInBounds_toArray, List.set_cons_zero, List.set_cons_succ]
    refine take_at 5 31 (fuel := 6) ?_ rfl rfl (by kernel_rfl) (by kernel_rfl) (by kernel_rfl) (Or.inl ⟨by rfl, ?_⟩) hSw ?_
    rotate_left
    · intro wx hSx
      (try dsimp only at hSx)
      go_split_ands
      go_simp
      (try with_reducible rfl)
    simp only [List.setIfInBounds_toArray, List.set_cons_zero, List.set_cons_succ]
    refine take_at 6 32 (fuel := 5) ?_ rfl rfl (by kernel_rfl) (by kernel_rfl) (by kernel_rfl) (Or.inl ⟨by rfl, ?_⟩) hSw ?_
    rotate_left
    · intro wx hSx
      (try dsimp only at hSx)
      go_split_ands
      go_simp
      (try with_reducible rfl)
    simp only [List.setIfInBounds_toArray, List.set_cons_zero, List.set_cons_succ]
    refine take_at 7 33 (fuel := 4) ?_ rfl rfl (by kernel_rfl) (by kernel_rfl) (by kernel_rfl) (Or.inl ⟨by rfl, ?_⟩) hSw ?_
    rotate_left
    · intro wx hSx
      (try dsimp only at hSx)
      go_split_ands
      go_simp
      (try with_reducible rfl)
    simp only [List.setIfInBounds_toArray, List.set_cons_zero, List.set_cons_succ]
    refine take_at 8 34 (fuel := 3) ?_ rfl rfl (by kernel_rfl) (by kernel_rfl) (by kernel_rfl) (Or.inl ⟨by rfl, ?_⟩) hSw ?_
    rotate_left
    · intro wx hSx
      (try dsimp only at hSx)
      go_split_ands
      go_simp
      (try with_reducible rfl)
    simp only [List.setIfInBounds_toArray, List.set_cons_zero, List.set_cons_succ]
    refine take_at 9 35 (fuel := 2) ?_ rfl rfl (by kernel_rfl) (by kernel_rfl) (by kernel_rfl) (Or.inl ⟨by rfl, ?_⟩) hSw ?_
    rotate_left
    · intro wx hSx
      (try dsimp only at hSx)
      go_split_ands
      go_simp
      (try with_reducible rfl)
    simp only [List.setIfInBounds_toArray, List.set_cons_zero, List.set_cons_succ]
    refine take_at 10 36 (fuel := 1) ?_ rfl rfl (by kernel_rfl) (by kernel_rfl) (by kernel_rfl) (Or.inl ⟨by rfl, ?_⟩) hSw ?_
    rotate_left
    · intro wx hSx
      (try dsimp only at hSx)
      go_split_ands
      go_simp
      (try with_reducible rfl)
    simp only [List.setIfInBounds_toArray, List.set_cons_zero, List.set_cons_succ]
    refine take_at 11 8 (fuel := 0) ?_ rfl rfl (by kernel_rfl) (by kernel_rfl) (by kernel_rfl) (Or.inl ⟨by rfl, ?_⟩) hSw ?_
    rotate_left
    · intro wx hSx
      (try dsimp only at hSx)
      go_split_ands
      go_simp
      (try with_reducible rfl)
    simp only [List.setIfInBounds_toArray, List.set_cons_zero, List.set_cons_succ]
    refine wpAnyH_done (by kernel_rfl) ⟨rfl, ?_⟩ 0
    have hb2 : Below w.heap.size w w1.drew := hb1.drew
    clear hSw c0 c1 c2
    generalize w1.drew = w2 at *
    go_wp2_with fail
    all_goals
      refine Calls.mono (clone_nil _ _ _) ?_
      rintro e w3 ⟨rfl, rfl⟩
      go_wp2_with fail
      exact bodyPost_ret (results_tmp2 rfl _ _ _) rfl ⟨_, rfl, ⟨rfl, .inl ⟨rfl, rfl⟩⟩, hb2⟩
  · have hjc : j ≤ c := by omega
    have hA : ∃ A : Addr, (if c = j then some (⟨g, 0, none⟩ : Addr) else some ⟨g, j * 9, none⟩) = some A ∧ A.block = g ∧ Hid (∀ W : World, W.heap[g]? = w.heap[g]? → ∀ t u, (rws Rc.enc (l.drop j))[t]? = some u → W.cell? (A.add t) = some u) := by
      by_cases h : c = j
      · refine ⟨⟨g, 0, none⟩, by rw [if_pos h], rfl, Lib.hid fun W hW t u hu => ?_⟩
        rw [List.drop_eq_nil_of_le (by omega)] at hu
        simp [rws] at hu
      · refine ⟨⟨g, j * 9, none⟩, by rw [if_neg h], rfl, Lib.hid fun W hW t u hu => ?_⟩
        rw [Addr.add_lit, World.cell?_of_block (a := ⟨g, j * 9 + t, none⟩) hW, cell_of_row w g _ cur RT (0, 0) hbg]
        rw [rws_drop Rc.len, ← htk, List.getElem?_drop, List.getElem?_take] at hu
        split at hu
        · rw [← hu, Array.getElem?_toList]
        · cases hu
    obtain ⟨A, hA, hAg, hsrc⟩ := hA
    have hgl := (ho.lt g rfl).2
    clear ho hbg htk
    have hlj : (l.drop j).length = l.length - j := List.length_drop
    go_enter Try.func11, Try.ntmps11
    go_wp2_with fail
    refine (made_l c1 hle.2).mono ?_
    rintro e w' ⟨rfl, rfl⟩
    go_wp2_with fail
    refine (hlast _ (Below.refl _ _)).mono ?_
    rintro e w1 ⟨rfl, hb1⟩
    replace c0 := (World.cell?_of_block (a := ⟨b, 0, none⟩) (hb1.block b hbl)).trans c0
    replace c1 := (World.cell?_of_block (a := ⟨b, 1, none⟩) (hb1.block b hbl)).trans c1
    replace c2 := (World.cell?_of_block (a := ⟨b, 2, none⟩) (hb1.block b hbl)).trans c2
    go_wp2_with fail
    refine region_only 12 #[false, false, false, false, false, false, false, false, false, false, false, false] (S := fun W => W.cell? ⟨b, 0, none⟩ = some (.int .u64 (base : Int)) ∧ W.cell? ⟨b, 1, none⟩ = some (.int .i64 (most : Int)) ∧ W.cell? ⟨b, 2, none⟩ = some (.slice (some ⟨g, 0, none⟩) l.length c)) rfl rfl (by kernel_rfl) ⟨c0, c1, c2⟩ (fun hSw => ?_)
    refine take_at 0 26 (fuel := 11) ?_ rfl rfl (by kernel_rfl) (by kernel_rfl) (by kernel_rfl) (Or.inl ⟨by rfl, ?_⟩) hSw ?_
    rotate_left
    · intro wx hSx
      (try dsimp only at hSx)
      go_split_ands
      go_simp
      (try with_reducible rfl)
    simp only [List.setIfInBounds_toArray, List.set_cons_zero, List.set_cons_succ]
    refine take_at 1 27 (fuel := 10) ?_ rfl rfl (by kernel_rfl) (by kernel_rfl) (by kernel_rfl) (Or.inl ⟨by rfl, ?_⟩) hSw ?_
    rotate_left
    · intro wx hSx
      (try dsimp only at hSx)
      go_split_ands
      go_simp
      (try with_reducible rfl)
    simp only [List.setIfInBounds_toArray, List.set_cons_zero, List.set_cons_succ]
    refine take_at 2 28 (fuel := 9) ?_ rfl rfl (by kernel_rfl) (by kernel_rfl) (by kernel_rfl) (Or.inl ⟨by rfl, ?_⟩) hSw ?_
    rotate_left
    · intro wx hSx
      (try dsimp only at hSx)
      go_split_ands
      go_simp
      (try with_reducible rfl)
    simp only [List.setIfInBounds_toArray, List.set_cons_zero, List.set_cons_succ]
    refine take_at 3 29 (fuel := 8) ?_ rfl rfl (by kernel_rfl) (by kernel_rfl) (by kernel_rfl) (Or.inl ⟨by rfl, ?_⟩) hSw ?_
    rotate_left
    · intro wx hSx
      (try dsimp only at hSx)
      go_split_ands
      go_simp
      (try with_reducible rfl)
    simp only [List.setIfInBounds_toArray, List.set_cons_zero, List.set_cons_succ]
    refine take_at 4 30 (fuel := 7) ?_ rfl rfl (by kernel_rfl) (by kernel_rfl) (by kernel_rfl) (Or.inl ⟨by rfl, ?_⟩) hSw ?_
    rotate_left
    · intro wx hSx
      (try dsimp only at hSx)
      go_split_ands
      go_simp
      (try with_reducible rfl)
    simp only [List.setIfInBounds_toArray, List.set_cons_zero, List.set_cons_succ]
    refine take_at 5 31 (fuel := 6) ?_ rfl rfl (by kernel_rfl) (by kernel_rfl) (by kernel_rfl) (Or.inl ⟨by rfl, ?_⟩) hSw ?_
    rotate_left
    · intro wx hSx
      (try dsimp only at hSx)
      go_split_ands
      go_simp
      (try with_reducible rfl)
    simp only [List.setIfInBounds_toArray, List.set_cons_zero, List.set_cons_succ]
    refine take_at 6 32 (fuel := 5) ?_ rfl rfl (by kernel_rfl) (by kernel_rfl) (by kernel_rfl) (Or.inl ⟨by rfl, ?_⟩) hSw ?_
    rotate_left
    · intro wx hSx
      (try dsimp only at hSx)
      go_split_ands
      go_simp
      (try with_reducible rfl)
    simp only [List.setIfInBounds_toArray, List.set_cons_zero, List.set_cons_succ]
    refine take_at 7 33 (fuel := 4) ?_ rfl rfl (by kernel_rfl) (by kernel_rfl) (by kernel_rfl) (Or.inl ⟨by rfl, ?_⟩) hSw ?_
    rotate_left
    · intro wx hSx
      (try dsimp only at hSx)
      go_split_ands
      go_simp
      (try with_reducible rfl)
    simp only [List.setIfInBounds_toArray, List.set_cons_zero, List.set_cons_succ]
    refine take_at 8 34 (fuel := 3) ?_ rfl rfl (by kernel_rfl) (by kernel_rfl) (by kernel_rfl) (Or.inl ⟨by rfl, ?_⟩) hSw ?_
    rotate_left
    · intro wx hSx
      (try dsimp only at hSx)
      go_split_ands
      go_simp
      (try with_reducible rfl)
    simp only [List.setIfInBounds_toArray, List.set_cons_zero, List.set_cons_succ]
    refine take_at 9 35 (fuel := 2) ?_ rfl rfl (by kernel_rfl) (by kernel_rfl) (by kernel_rfl) (Or.inl ⟨by rfl, ?_⟩) hSw ?_
    rotate_left
    · intro wx hSx
      (try dsimp only at hSx)
      go_split_ands
      go_simp
      (try with_reducible rfl)
    simp only [List.setIfInBounds_toArray, List.set_cons_zero, List.set_cons_succ]
    refine take_at 10 36 (fuel := 1) ?_ rfl rfl (by kernel_rfl) (by kernel_rfl) (by kernel_rfl) (Or.inl ⟨by rfl, ?_⟩) hSw ?_
    rotate_left
    · intro wx hSx
      (try dsimp only at hSx)
      go_split_ands
      go_simp
      (try with_reducible rfl)
    simp only [List.setIfInBounds_toArray, List.set_cons_zero, List.set_cons_succ]
    refine take_at 11 8 (fuel := 0) ?_ rfl rfl (by kernel_rfl) (by kernel_rfl) (by kernel_rfl) (Or.inl ⟨by rfl, ?_⟩) hSw ?_
    rotate_left
    · intro wx hSx
      (try dsimp only at hSx)
      go_split_ands
      go_simp
      (try with_reducible rfl)
    simp only [List.setIfInBounds_toArray, List.set_cons_zero, List.set_cons_succ]
    refine wpAnyH_done (by kernel_rfl) ⟨rfl, ?_⟩ 0
    go_upto_region 4 with (fail)
    have hb2 : Below w.heap.size w w1.drew := hb1.drew
    have hlt : ((l.drop j).take k.toNat).length = min k.toNat (l.length - j) := by rw [List.length_take, hlj]
    clear hSw c0 c1 c2 hlast d0 d1 d2 d3 d4 hw1 hA
    generalize w1.drew = w2 at *
    generalize hLJ : l.length - j = L at *
    have HLJ := Lib.hid hLJ
    clear hLJ hlj
    have hL : L ≤ 256 := by have := HLJ.out; omega
    have hLc : L ≤ c - j := by have := HLJ.out; omega
    have hnews : ∀ t u, (rws Rc.enc ((l.drop j).take k.toNat))[t]? = some u → w2.cell? (A.add t) = some u := fun t u hu => by
      rw [rws_take Rc.len, List.getElem?_take] at hu
      split at hu
      · exact hsrc.out w2 (hb2.block g hgl) t u hu
      · cases hu
    clear hsrc
    go_wp2_with fail
    all_goals
      refine Calls.mono (clone_c (w := w2) A _ _ ((l.drop j).take k.toNat) (by rw [hlt]; omega) (by omega) (by rw [hAg]; exact Nat.lt_of_lt_of_le hgl hb2.size) hnews) ?_
      rintro e w3 ⟨v, rfl, hov, hb3⟩
      go_wp2_with fail
      exact bodyPost_ret (results_tmp2 rfl _ _ _) rfl ⟨v, rfl, hov.low hb2.size, hb2.trans (hb3.mono hb2.size)⟩
end
end Go.Proofs.Ytajpmlmacnomfaa.Logy
