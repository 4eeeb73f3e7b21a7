/- Layer 14's program: all bytes, if no piece lacks. Condition: the variables of layer 4 hold what the program's text lays. -/
import Derived.Test.YtccaomaobokldaaDoorSnapProg
import Derived.Test.YtccaomaobokldaaDoorLaysJ
import Derived.Test.YtccaomaobokldaaDoorBlakeSumP
namespace Go.Proofs.YtccaomaobokldaaDoor.Snapy
open Go.ChangeShapes Go.WideShapes Go.ChangeAt Go.RowKit
open Wirey Regy
section
variable {w w' : World} {b gd gt B : Nat} {W : Bs} {D : List Bs} {F : List Bool}
theorem extraJ : Builder.Extra Tryd.prog Tryd.lays156_ren where
  sizeBuilder := by kernel_rfl
  liesBuilder := by kernel_rfl
  t5 := by kernel_rfl
  a5 := fun _ => by kernel_rfl
  z5 := fun _ => by kernel_rfl
  v5 := fun _ => by kernel_rfl
  infoByte := by kernel_rfl
  cellsByte := by kernel_rfl
  sizeByte := by kernel_rfl
  neB5 := by decide
theorem join_flat : ∀ D : List Bs, Lib.join D [] = D.flatten
  | [] => rfl
  | x :: r => by
    rw [Lib.join_cons, List.flatten_cons]
    unfold Lib.joinTail
    simp
theorem flat_bound : ∀ D : List Bs, (∀ x ∈ D, x.length ≤ 1024) → D.flatten.length ≤ 1024 * D.length
  | [], _ => by simp
  | x :: r, h => by
    have h1 := flat_bound r fun y hy => h y (List.mem_cons_of_mem _ hy)
    have h2 := h x (List.mem_cons_self ..)
    rw [List.flatten_cons, List.length_append, List.length_cons]
    omega
theorem flat_le (h : HeldG w b gd gt W D F) : D.flatten.length ≤ 8388608 := by
  have := flat_bound D h.dl
  have := h.most
  omega
theorem join_c (h : HeldG w b gd gt W D F) : Calls Tryd.prog 20 #[.slice (some ⟨gd, 0, none⟩) D.length D.length, .string ⟨#[]⟩] w fun e w' => e = .returned (.string (str D.flatten)) ∧ Below w.heap.size w w' := by
  have hm := h.most
  have hm1 : (D.map str).length = D.length := List.length_map ..
  have hmap : (D.map str).map (fun s => s.data.toList) = D := by rw [List.map_map]; exact List.map_id'' (fun _ => rfl) D
  have hj := join_flat D
  have hfl := flat_le h
  have key := Any.strings_Join (P := Tryd.prog) Tryd.lays156 extraJ gd 0 D.length (D.map str) ⟨#[]⟩ w (fun j x hx => by
    rw [Nat.zero_add]
    rw [List.getElem?_map] at hx
    cases e : D[j]? with
    | none => rw [e] at hx; cases hx
    | some y => rw [e] at hx; obtain rfl := Option.some.inj hx; exact h.cell_d e) h.d.lt (by rw [hm1]; omega) (by rw [hm1]; exact Nat.le_refl _) (by rw [hmap]; show (Lib.join D []).length ≤ _; rw [hj]; omega)
  rw [hm1, hmap] at key
  have e2 : (⟨(Lib.join D (⟨#[]⟩ : ByteArray).data.toList).toArray⟩ : ByteArray) = str D.flatten := by show str (Lib.join D []) = _; rw [hj]
  rw [e2] at key
  exact key
theorem whole_lacks {i : Nat} (hk : lk F = some i) (h : HeldG w b gd gt W D F) : Calls Tryd.prog 13 #[gp b] w fun e w' => e = .returned (.tuple #[.string ⟨#[]⟩, .int .i64 2]) ∧ w = w' := by
  have hM := made_l h.g2 h.pos
  have hN := next_c h
  rw [hk] at hN
  clear h hk
  go_enter Tryd.func13, Tryd.ntmps13
  go_wp2_with fail
  refine hM.mono ?_
  rintro e w' ⟨rfl, rfl⟩
  go_wp2_with fail
  refine hN.mono ?_
  rintro e w' ⟨rfl, rfl⟩
  go_wp2_with fail
  exact bodyPost_ret (results_tmp2 rfl _ _ _) rfl ⟨rfl, rfl⟩
set_option maxHeartbeats 2000000 in
set_option maxRecDepth 100000 in
theorem whole_bad (hk : lk F = none) (e1 : sumL D.flatten ≠ W) (hG : Glob w) (h : HeldG w b gd gt W D F) : Calls Tryd.prog 13 #[gp b] w fun e w' => e = .returned (.tuple #[.string ⟨#[]⟩, .int .i64 140]) ∧ Below w.heap.size w w' := by
  have f1 : (sumL D.flatten == W) = false := by simpa using e1
  clear e1
  have hM := made_l h.g2 h.pos
  have hN := next_c h
  rw [hk] at hN
  have hsum : (D.flatten).length ≤ 8388608 := flat_le h
  have hfl : (D.flatten).length < 1099511627776 := by omega
  have hJ := join_c h
  have htl := Wirey.toList_str
  have c1 := h.g1
  have hg0 := h.g
  clear hk
  go_enter Tryd.func13, Tryd.ntmps13
  go_wp2_with fail
  refine hM.mono ?_
  rintro e w' ⟨rfl, rfl⟩
  go_wp2_with fail
  refine hN.mono ?_
  rintro e w' ⟨rfl, rfl⟩
  go_wp2_with fail
  refine hJ.mono ?_
  rintro e w2 ⟨rfl, hb2⟩
  have hG2 := hG.below hb2
  have hg2 := hg0.below hb2 hg0.lt
  have HB := Lib.hid hb2
  clear hM hN hJ hb2 c1 hg0 h hG
  have mk : ∀ W', Below w2.heap.size w2 W' → W'.cell? ⟨b, 0, none⟩ = some (.string (str W)) ∧ Below w2.heap.size w2 W' := fun W' hW => ⟨(hg2.below hW hg2.lt).cell 0, hW⟩
  go_wp2_with fail
  refine region_only 7 #[false, false, false, false, false, false, false] (S := fun W' => W'.cell? ⟨b, 0, none⟩ = some (.string (str W)) ∧ Below w2.heap.size w2 W') rfl rfl (by kernel_rfl) (mk _ (Below.refl _ _).drew) (fun hSw => ?_)
  refine take_at 0 21 (fuel := 6) ?_ rfl rfl (by kernel_rfl) (by kernel_rfl) (by kernel_rfl) (Or.inl ⟨by rfl, ?_⟩) hSw ?_
  rotate_left
  · intro wx hSx
    (try dsimp only at hSx)
    go_split_ands
    go_simp
    (try with_reducible rfl)
  simp only [List.setIfInBounds_toArray, List.set_cons_zero, List.set_cons_succ]
  refine take_at 2 23 (fuel := 5) ?_ rfl rfl (by kernel_rfl) (by kernel_rfl) (by kernel_rfl) (Or.inl ⟨by rfl, ?_⟩) hSw ?_
  rotate_left
  · intro wx hSx
    (try dsimp only at hSx)
    go_split_ands
    go_simp
    (try with_reducible rfl)
  simp only [List.setIfInBounds_toArray, List.set_cons_zero, List.set_cons_succ]
  refine take_at 3 24 (fuel := 4) ?_ rfl rfl (by kernel_rfl) (by kernel_rfl) (by kernel_rfl) (Or.inl ⟨by rfl, ?_⟩) hSw ?_
  rotate_left
  · intro wx hSx
    (try dsimp only at hSx)
    go_split_ands
    go_simp
    (try with_reducible rfl)
  simp only [List.setIfInBounds_toArray, List.set_cons_zero, List.set_cons_succ]
  refine take_at 4 25 (fuel := 3) ?_ rfl rfl (by kernel_rfl) (by kernel_rfl) (by kernel_rfl) (Or.inl ⟨by rfl, ?_⟩) hSw ?_
  rotate_left
  · intro wx hSx
    (try dsimp only at hSx)
    go_split_ands
    go_simp
    (try with_reducible rfl)
  simp only [List.setIfInBounds_toArray, List.set_cons_zero, List.set_cons_succ]
  refine take_at 5 26 (fuel := 2) ?_ rfl rfl (by kernel_rfl) (by kernel_rfl) (by kernel_rfl) (Or.inl ⟨by rfl, ?_⟩) hSw ?_
  rotate_left
  · intro wx hSx
    (try dsimp only at hSx)
    go_split_ands
    go_simp
    (try with_reducible rfl)
  simp only [List.setIfInBounds_toArray, List.set_cons_zero, List.set_cons_succ]
  refine wpAnyH_ready (fuel := 1) (rs := [1]) (by kernel_rfl) (by simp) (AllReadyH.cons rfl (fun K hK => ?_) AllReadyH.nil)
  go_simp
  refine Calls.mono (sumP_c D.flatten hfl _ (hG2.below hSw.2)) ?_
  rintro e wv ⟨rfl, hbv⟩
  have hB6 := Lib.hid (hSw.2.trans (hbv.mono hSw.2.size))
  clear hbv
  refine hK.out _ _ (mk _ hB6.out) (fun hSw => ?_)
  clear hK K
  simp only [List.setIfInBounds_toArray, List.set_cons_zero, List.set_cons_succ]
  refine take_at 6 27 (fuel := 0) ?_ rfl rfl (by kernel_rfl) (by kernel_rfl) (by kernel_rfl) (Or.inl ⟨by rfl, ?_⟩) hSw ?_
  rotate_left
  · intro wx hSx
    (try dsimp only at hSx)
    go_split_ands
    go_simp
    (try with_reducible rfl)
  simp only [List.setIfInBounds_toArray, List.set_cons_zero, List.set_cons_succ]
  refine wpAnyH_done (by kernel_rfl) ⟨rfl, ?_⟩ 0
  go_wp2_with fail
  exact bodyPost_ret (results_tmp2 rfl _ _ _) rfl ⟨rfl, HB.out.trans (hB6.out.mono HB.out.size)⟩
set_option maxHeartbeats 2000000 in
set_option maxRecDepth 100000 in
theorem whole_ok (hk : lk F = none) (e1 : sumL D.flatten = W) (hG : Glob w) (h : HeldG w b gd gt W D F) : Calls Tryd.prog 13 #[gp b] w fun e w' => e = .returned (.tuple #[.string (str D.flatten), .int .i64 0]) ∧ Below w.heap.size w w' := by
  have f1 : (sumL D.flatten == W) = true := by simpa using e1
  clear e1
  have hM := made_l h.g2 h.pos
  have hN := next_c h
  rw [hk] at hN
  have hsum : (D.flatten).length ≤ 8388608 := flat_le h
  have hfl : (D.flatten).length < 1099511627776 := by omega
  have hJ := join_c h
  have htl := Wirey.toList_str
  have c1 := h.g1
  have hg0 := h.g
  clear hk
  go_enter Tryd.func13, Tryd.ntmps13
  go_wp2_with fail
  refine hM.mono ?_
  rintro e w' ⟨rfl, rfl⟩
  go_wp2_with fail
  refine hN.mono ?_
  rintro e w' ⟨rfl, rfl⟩
  go_wp2_with fail
  refine hJ.mono ?_
  rintro e w2 ⟨rfl, hb2⟩
  have hG2 := hG.below hb2
  have hg2 := hg0.below hb2 hg0.lt
  have HB := Lib.hid hb2
  clear hM hN hJ hb2 c1 hg0 h hG
  have mk : ∀ W', Below w2.heap.size w2 W' → W'.cell? ⟨b, 0, none⟩ = some (.string (str W)) ∧ Below w2.heap.size w2 W' := fun W' hW => ⟨(hg2.below hW hg2.lt).cell 0, hW⟩
  go_wp2_with fail
  refine region_only 7 #[false, false, false, false, false, false, false] (S := fun W' => W'.cell? ⟨b, 0, none⟩ = some (.string (str W)) ∧ Below w2.heap.size w2 W') rfl rfl (by kernel_rfl) (mk _ (Below.refl _ _).drew) (fun hSw => ?_)
  refine take_at 0 21 (fuel := 6) ?_ rfl rfl (by kernel_rfl) (by kernel_rfl) (by kernel_rfl) (Or.inl ⟨by rfl, ?_⟩) hSw ?_
  rotate_left
  · intro wx hSx
    (try dsimp only at hSx)
    go_split_ands
    go_simp
    (try with_reducible rfl)
  simp only [List.setIfInBounds_toArray, List.set_cons_zero, List.set_cons_succ]
  refine take_at 2 23 (fuel := 5) ?_ rfl rfl (by kernel_rfl) (by kernel_rfl) (by kernel_rfl) (Or.inl ⟨by rfl, ?_⟩) hSw ?_
  rotate_left
  · intro wx hSx
    (try dsimp only at hSx)
    go_split_ands
    go_simp
    (try with_reducible rfl)
  simp only [List.setIfInBounds_toArray, List.set_cons_zero, List.set_cons_succ]
  refine take_at 3 24 (fuel := 4) ?_ rfl rfl (by kernel_rfl) (by kernel_rfl) (by kernel_rfl) (Or.inl ⟨by rfl, ?_⟩) hSw ?_
  rotate_left
  · intro wx hSx
    (try dsimp only at hSx)
    go_split_ands
    go_simp
    (try with_reducible rfl)
  simp only [List.setIfInBounds_toArray, List.set_cons_zero, List.set_cons_succ]
  refine take_at 4 25 (fuel := 3) ?_ rfl rfl (by kernel_rfl) (by kernel_rfl) (by kernel_rfl) (Or.inl ⟨by rfl, ?_⟩) hSw ?_
  rotate_left
  · intro wx hSx
    (try dsimp only at hSx)
    go_split_ands
    go_simp
    (try with_reducible rfl)
  simp only [List.setIfInBounds_toArray, List.set_cons_zero, List.set_cons_succ]
  refine take_at 5 26 (fuel := 2) ?_ rfl rfl (by kernel_rfl) (by kernel_rfl) (by kernel_rfl) (Or.inl ⟨by rfl, ?_⟩) hSw ?_
  rotate_left
  · intro wx hSx
    (try dsimp only at hSx)
    go_split_ands
    go_simp
    (try with_reducible rfl)
  simp only [List.setIfInBounds_toArray, List.set_cons_zero, List.set_cons_succ]
  refine wpAnyH_ready (fuel := 1) (rs := [1]) (by kernel_rfl) (by simp) (AllReadyH.cons rfl (fun K hK => ?_) AllReadyH.nil)
  go_simp
  refine Calls.mono (sumP_c D.flatten hfl _ (hG2.below hSw.2)) ?_
  rintro e wv ⟨rfl, hbv⟩
  have hB6 := Lib.hid (hSw.2.trans (hbv.mono hSw.2.size))
  clear hbv
  refine hK.out _ _ (mk _ hB6.out) (fun hSw => ?_)
  clear hK K
  simp only [List.setIfInBounds_toArray, List.set_cons_zero, List.set_cons_succ]
  refine take_at 6 27 (fuel := 0) ?_ rfl rfl (by kernel_rfl) (by kernel_rfl) (by kernel_rfl) (Or.inl ⟨by rfl, ?_⟩) hSw ?_
  rotate_left
  · intro wx hSx
    (try dsimp only at hSx)
    go_split_ands
    go_simp
    (try with_reducible rfl)
  simp only [List.setIfInBounds_toArray, List.set_cons_zero, List.set_cons_succ]
  refine wpAnyH_done (by kernel_rfl) ⟨rfl, ?_⟩ 0
  go_wp2_with fail
  exact bodyPost_ret (results_tmp2 rfl _ _ _) rfl ⟨rfl, HB.out.trans (hB6.out.mono HB.out.size)⟩
end
end Go.Proofs.YtccaomaobokldaaDoor.Snapy
