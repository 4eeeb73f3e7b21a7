/- Layer 14's program: a piece is taken, or not. Condition: the variables of layer 4 hold what the program's text lays. -/
import Derived.Test.YtccaomaobokldaaDoorSnapMay
import Derived.Test.YtccaomaobokldaaDoorClone
import Derived.Test.YtccaomaobokldaaDoorBlakeSumP
namespace Go.Proofs.YtccaomaobokldaaDoor.Snapy
open Go.ChangeShapes Go.WideShapes Go.ChangeAt Go.RowKit
open Wirey Regy
section
variable {w w' : World} {b gd gt B : Nat} {W : Bs} {D : List Bs} {F : List Bool}
theorem mayB_true {n : Nat} {p : Pc} (h : mayB W n p = true) : ∃ i : Nat, p.n = (i : Int) ∧ i < n ∧ p.of_ = (n : Int) ∧ p.whole = W ∧ p.data.length ≤ 1024 := by
  unfold mayB at h
  simp only [Bool.and_eq_true, Bool.or_eq_true, decide_eq_true_eq] at h
  obtain ⟨⟨⟨⟨h1, h2⟩, h3⟩, h4⟩, h5⟩ := h
  exact ⟨p.n.toNat, by omega, by omega, h1, h2, by rcases h5 with h5 | h5 <;> omega⟩
theorem set_d {i : Nat} (x : Bs) (h : HeldG w b gd gt W D F) (hx : x.length ≤ 1024) : HeldG (w.setCell ⟨gd, i, none⟩ (.string (str x))) b gd gt W (D.set i x) F := by
  obtain ⟨n1, n2, n3⟩ := h.ne_
  have hd := h.d.put i (.string (str x))
  have e : ((D.map fun x => Value.string (str x)).toArray.setIfInBounds i (.string (str x))) = ((D.set i x).map fun x => Value.string (str x)).toArray := by simp [List.map_set]
  rw [e] at hd
  exact ⟨by rw [List.length_set]; exact h.g.far n1 _, hd, h.t.far n3.symm _, by rw [List.length_set]; exact h.len, by rw [List.length_set]; exact h.pos, by rw [List.length_set]; exact h.most, h.wl, fun y hy => by
    rcases List.mem_or_eq_of_mem_set hy with hy | rfl
    · exact h.dl y hy
    · exact hx⟩
theorem set_t {i : Nat} (x : Bool) (h : HeldG w b gd gt W D F) : HeldG (w.setCell ⟨gt, i, none⟩ (.bool x)) b gd gt W D (F.set i x) := by
  obtain ⟨n1, n2, n3⟩ := h.ne_
  have hd := h.t.put i (.bool x)
  have e : ((F.map Value.bool).toArray.setIfInBounds i (.bool x)) = ((F.set i x).map Value.bool).toArray := by simp [List.map_set]
  rw [e] at hd
  exact ⟨h.g.far n2 _, h.d.far n3 _, hd, by rw [List.length_set]; exact h.len, h.pos, h.most, h.wl, h.dl⟩
set_option maxHeartbeats 4000000 in
set_option maxRecDepth 100000 in
theorem add_no (p : Pc) (hp : mayB W D.length p = false) (h : HeldG w b gd gt W D F) : Calls Tryd.prog 11 #[gp b, .agg p.cs] w fun e w' => e = .returned (.tuple #[.bool false, .int .i64 1]) ∧ Below w.heap.size w w' := by
  have hX := Blk.new w PT #[.int .i64 p.n, .int .i64 p.of_, .string (str p.data), .string (str p.sum), .string (str p.whole)]
  have hb1 : Below w.heap.size w (w.alloc (.cells #[.int .i64 p.n, .int .i64 p.of_, .string (str p.data), .string (str p.sum), .string (str p.whole)] PT)) := (Below.refl _ w).alloc (Nat.le_refl _) _
  have h1 := h.below hb1
  clear h
  go_enter Tryd.func11, Tryd.ntmps11
  go_upto_region 1 with (fail)
  generalize w.alloc (.cells #[.int .i64 p.n, .int .i64 p.of_, .string (str p.data), .string (str p.sum), .string (str p.whole)] PT) = w1 at *
  have HB := Lib.hid hb1
  clear hb1
  generalize w.heap.size = q at hX ⊢
  have q0 := hX.cell 0
  have q1 := hX.cell 1
  have q2 := hX.cell 2
  have q3 := hX.cell 3
  have q4 := hX.cell 4
  simp only [List.getElem?_toArray, List.getElem?_cons_zero, List.getElem?_cons_succ] at q0 q1 q2 q3 q4
  go_wp2_with fail
  refine (may_c p h1).mono ?_
  rintro e w2 ⟨rfl, hb2⟩
  rw [hp]
  have HB2 := Lib.hid (HB.out.trans (hb2.mono HB.out.size))
  clear hb2 q0 q1 q2 q3 q4
  go_wp2_with fail
  exact bodyPost_ret (results_tmp2 rfl _ _ _) rfl ⟨rfl, HB2.out⟩
set_option maxHeartbeats 4000000 in
set_option maxRecDepth 100000 in
theorem add_spoilt (p : Pc) (hp : mayB W D.length p = true) (e1 : sumL p.data ≠ p.sum) (hG : Glob w) (h : HeldG w b gd gt W D F) : Calls Tryd.prog 11 #[gp b, .agg p.cs] w fun e w' => e = .returned (.tuple #[.bool false, .int .i64 140]) ∧ Below w.heap.size w w' := by
  obtain ⟨i, hi, hin, -, -, hdl4⟩ := mayB_true hp
  have hdl : p.data.length < 1099511627776 := by omega
  have HI := Lib.hid hi
  clear hi
  have hX := Blk.new w PT #[.int .i64 p.n, .int .i64 p.of_, .string (str p.data), .string (str p.sum), .string (str p.whole)]
  have hb1 : Below w.heap.size w (w.alloc (.cells #[.int .i64 p.n, .int .i64 p.of_, .string (str p.data), .string (str p.sum), .string (str p.whole)] PT)) := (Below.refl _ w).alloc (Nat.le_refl _) _
  have h1 := h.below hb1
  have hG1 := hG.below hb1
  have htl := Wirey.toList_str
  have hlt := h.lt
  clear h hG
  go_enter Tryd.func11, Tryd.ntmps11
  go_upto_region 1 with (fail)
  generalize w.alloc (.cells #[.int .i64 p.n, .int .i64 p.of_, .string (str p.data), .string (str p.sum), .string (str p.whole)] PT) = w1 at *
  have HB1 := Lib.hid hb1
  clear hb1
  have HLT : b < w.heap.size ∧ gd < w.heap.size ∧ gt < w.heap.size := hlt
  generalize hqe : w.heap.size = q at hX HLT ⊢
  have HQE := Lib.hid hqe
  clear hqe
  have q0 := hX.cell 0
  have q1 := hX.cell 1
  have q2 := hX.cell 2
  have q3 := hX.cell 3
  have q4 := hX.cell 4
  simp only [List.getElem?_toArray, List.getElem?_cons_zero, List.getElem?_cons_succ] at q0 q1 q2 q3 q4
  go_wp2_with fail
  refine (may_c p h1).mono ?_
  rintro e w3 ⟨rfl, hb3⟩
  rw [hp]
  replace hX := hX.below hb3 hX.lt
  have h3 := h1.below hb3
  have hG3 := hG1.below hb3
  have HB := Lib.hid (HB1.out.trans (hb3.mono HB1.out.size))
  clear hb3 q0 q1 q2 q3 q4 h1 hG1 HB1
  have mk : ∀ W', Below w3.heap.size w3 W' → (W'.cell? ⟨q, 2, none⟩ = some (.string (str p.data)) ∧ W'.cell? ⟨q, 3, none⟩ = some (.string (str p.sum))) ∧ Below w3.heap.size w3 W' := fun W' hW => ⟨⟨(hX.below hW hX.lt).cell 2, (hX.below hW hX.lt).cell 3⟩, hW⟩
  go_wp2_with fail
  have f1 : (sumL p.data == p.sum) = false := by simpa using e1
  clear e1
  refine region_only 6 #[false, false, false, false, false, false] (S := fun W' => (W'.cell? ⟨q, 2, none⟩ = some (.string (str p.data)) ∧ W'.cell? ⟨q, 3, none⟩ = some (.string (str p.sum))) ∧ Below w3.heap.size w3 W') rfl rfl (by kernel_rfl) (mk _ (Below.refl _ _).drew) (fun hSw => ?_)
  refine take_at 0 10 (fuel := 5) ?_ rfl rfl (by kernel_rfl) (by kernel_rfl) (by kernel_rfl) (Or.inl ⟨by rfl, ?_⟩) hSw ?_
  rotate_left
  · intro wx hSx
    (try dsimp only at hSx)
    go_split_ands
    go_simp
    (try with_reducible rfl)
  simp only [List.setIfInBounds_toArray, List.set_cons_zero, List.set_cons_succ]
  refine take_at 1 11 (fuel := 4) ?_ rfl rfl (by kernel_rfl) (by kernel_rfl) (by kernel_rfl) (Or.inl ⟨by rfl, ?_⟩) hSw ?_
  rotate_left
  · intro wx hSx
    (try dsimp only at hSx)
    go_split_ands
    go_simp
    (try with_reducible rfl)
  simp only [List.setIfInBounds_toArray, List.set_cons_zero, List.set_cons_succ]
  refine take_at 3 13 (fuel := 3) ?_ rfl rfl (by kernel_rfl) (by kernel_rfl) (by kernel_rfl) (Or.inl ⟨by rfl, ?_⟩) hSw ?_
  rotate_left
  · intro wx hSx
    (try dsimp only at hSx)
    go_split_ands
    go_simp
    (try with_reducible rfl)
  simp only [List.setIfInBounds_toArray, List.set_cons_zero, List.set_cons_succ]
  refine take_at 4 14 (fuel := 2) ?_ rfl rfl (by kernel_rfl) (by kernel_rfl) (by kernel_rfl) (Or.inl ⟨by rfl, ?_⟩) hSw ?_
  rotate_left
  · intro wx hSx
    (try dsimp only at hSx)
    go_split_ands
    go_simp
    (try with_reducible rfl)
  simp only [List.setIfInBounds_toArray, List.set_cons_zero, List.set_cons_succ]
  refine wpAnyH_ready (fuel := 1) (rs := [2]) (by kernel_rfl) (by simp) (AllReadyH.cons rfl (fun K hK => ?_) AllReadyH.nil)
  go_simp
  refine Calls.mono (sumP_c p.data hdl _ (hG3.below hSw.2)) ?_
  rintro e wv ⟨rfl, hbv⟩
  have hB5 := Lib.hid (HB.out.trans ((hSw.2.trans (hbv.mono hSw.2.size)).mono HB.out.size))
  have hB6 := Lib.hid (hSw.2.trans (hbv.mono hSw.2.size))
  clear hbv
  refine hK.out _ _ (mk _ hB6.out) (fun hSw => ?_)
  clear hK K
  simp only [List.setIfInBounds_toArray, List.set_cons_zero, List.set_cons_succ]
  refine take_at 5 15 (fuel := 0) ?_ rfl rfl (by kernel_rfl) (by kernel_rfl) (by kernel_rfl) (Or.inl ⟨by rfl, ?_⟩) hSw ?_
  rotate_left
  · intro wx hSx
    (try dsimp only at hSx)
    go_split_ands
    go_simp
    (try with_reducible rfl)
  simp only [List.setIfInBounds_toArray, List.set_cons_zero, List.set_cons_succ]
  refine wpAnyH_done (by kernel_rfl) ⟨rfl, ?_⟩ 0
  go_wp2_with fail
  exact bodyPost_ret (results_tmp2 rfl _ _ _) rfl ⟨rfl, hB5.out⟩
set_option maxHeartbeats 4000000 in
set_option maxRecDepth 100000 in
theorem add_old (p : Pc) (hp : mayB W D.length p = true) (e1 : sumL p.data = p.sum) (hf : F[p.n.toNat]? = some true) (hG : Glob w) (h : HeldG w b gd gt W D F) : Calls Tryd.prog 11 #[gp b, .agg p.cs] w fun e w' => e = .returned (.tuple #[.bool false, .int .i64 0]) ∧ Below w.heap.size w w' := by
  obtain ⟨i, hi, hin, -, -, hdl4⟩ := mayB_true hp
  rw [show p.n.toNat = i by omega] at hf
  have hdl : p.data.length < 1099511627776 := by omega
  have HI := Lib.hid hi
  clear hi
  have hX := Blk.new w PT #[.int .i64 p.n, .int .i64 p.of_, .string (str p.data), .string (str p.sum), .string (str p.whole)]
  have hb1 : Below w.heap.size w (w.alloc (.cells #[.int .i64 p.n, .int .i64 p.of_, .string (str p.data), .string (str p.sum), .string (str p.whole)] PT)) := (Below.refl _ w).alloc (Nat.le_refl _) _
  have h1 := h.below hb1
  have hG1 := hG.below hb1
  have htl := Wirey.toList_str
  have hlt := h.lt
  clear h hG
  go_enter Tryd.func11, Tryd.ntmps11
  go_upto_region 1 with (fail)
  generalize w.alloc (.cells #[.int .i64 p.n, .int .i64 p.of_, .string (str p.data), .string (str p.sum), .string (str p.whole)] PT) = w1 at *
  have HB1 := Lib.hid hb1
  clear hb1
  have HLT : b < w.heap.size ∧ gd < w.heap.size ∧ gt < w.heap.size := hlt
  generalize hqe : w.heap.size = q at hX HLT ⊢
  have HQE := Lib.hid hqe
  clear hqe
  have q0 := hX.cell 0
  have q1 := hX.cell 1
  have q2 := hX.cell 2
  have q3 := hX.cell 3
  have q4 := hX.cell 4
  simp only [List.getElem?_toArray, List.getElem?_cons_zero, List.getElem?_cons_succ] at q0 q1 q2 q3 q4
  go_wp2_with fail
  refine (may_c p h1).mono ?_
  rintro e w3 ⟨rfl, hb3⟩
  rw [hp]
  replace hX := hX.below hb3 hX.lt
  have h3 := h1.below hb3
  have hG3 := hG1.below hb3
  have HB := Lib.hid (HB1.out.trans (hb3.mono HB1.out.size))
  clear hb3 q0 q1 q2 q3 q4 h1 hG1 HB1
  have mk : ∀ W', Below w3.heap.size w3 W' → (W'.cell? ⟨q, 2, none⟩ = some (.string (str p.data)) ∧ W'.cell? ⟨q, 3, none⟩ = some (.string (str p.sum))) ∧ Below w3.heap.size w3 W' := fun W' hW => ⟨⟨(hX.below hW hX.lt).cell 2, (hX.below hW hX.lt).cell 3⟩, hW⟩
  go_wp2_with fail
  have f1 : (sumL p.data == p.sum) = true := by simpa using e1
  clear e1
  refine region_only 6 #[false, false, false, false, false, false] (S := fun W' => (W'.cell? ⟨q, 2, none⟩ = some (.string (str p.data)) ∧ W'.cell? ⟨q, 3, none⟩ = some (.string (str p.sum))) ∧ Below w3.heap.size w3 W') rfl rfl (by kernel_rfl) (mk _ (Below.refl _ _).drew) (fun hSw => ?_)
  refine take_at 0 10 (fuel := 5) ?_ rfl rfl (by kernel_rfl) (by kernel_rfl) (by kernel_rfl) (Or.inl ⟨by rfl, ?_⟩) hSw ?_
  rotate_left
  · intro wx hSx
    (try dsimp only at hSx)
    go_split_ands
    go_simp
    (try with_reducible rfl)
  simp only [List.setIfInBounds_toArray, List.set_cons_zero, List.set_cons_succ]
  refine take_at 1 11 (fuel := 4) ?_ rfl rfl (by kernel_rfl) (by kernel_rfl) (by kernel_rfl) (Or.inl ⟨by rfl, ?_⟩) hSw ?_
  rotate_left
  · intro wx hSx
    (try dsimp only at hSx)
    go_split_ands
    go_simp
    (try with_reducible rfl)
  simp only [List.setIfInBounds_toArray, List.set_cons_zero, List.set_cons_succ]
  refine take_at 3 13 (fuel := 3) ?_ rfl rfl (by kernel_rfl) (by kernel_rfl) (by kernel_rfl) (Or.inl ⟨by rfl, ?_⟩) hSw ?_
  rotate_left
  · intro wx hSx
    (try dsimp only at hSx)
    go_split_ands
    go_simp
    (try with_reducible rfl)
  simp only [List.setIfInBounds_toArray, List.set_cons_zero, List.set_cons_succ]
  refine take_at 4 14 (fuel := 2) ?_ rfl rfl (by kernel_rfl) (by kernel_rfl) (by kernel_rfl) (Or.inl ⟨by rfl, ?_⟩) hSw ?_
  rotate_left
  · intro wx hSx
    (try dsimp only at hSx)
    go_split_ands
    go_simp
    (try with_reducible rfl)
  simp only [List.setIfInBounds_toArray, List.set_cons_zero, List.set_cons_succ]
  refine wpAnyH_ready (fuel := 1) (rs := [2]) (by kernel_rfl) (by simp) (AllReadyH.cons rfl (fun K hK => ?_) AllReadyH.nil)
  go_simp
  refine Calls.mono (sumP_c p.data hdl _ (hG3.below hSw.2)) ?_
  rintro e wv ⟨rfl, hbv⟩
  have hB5 := Lib.hid (HB.out.trans ((hSw.2.trans (hbv.mono hSw.2.size)).mono HB.out.size))
  have hB6 := Lib.hid (hSw.2.trans (hbv.mono hSw.2.size))
  clear hbv
  refine hK.out _ _ (mk _ hB6.out) (fun hSw => ?_)
  clear hK K
  simp only [List.setIfInBounds_toArray, List.set_cons_zero, List.set_cons_succ]
  refine take_at 5 15 (fuel := 0) ?_ rfl rfl (by kernel_rfl) (by kernel_rfl) (by kernel_rfl) (Or.inl ⟨by rfl, ?_⟩) hSw ?_
  rotate_left
  · intro wx hSx
    (try dsimp only at hSx)
    go_split_ands
    go_simp
    (try with_reducible rfl)
  simp only [List.setIfInBounds_toArray, List.set_cons_zero, List.set_cons_succ]
  refine wpAnyH_done (by kernel_rfl) ⟨rfl, ?_⟩ 0
  clear hSw
  go_upto_region 5 with (fail)
  replace hX := hX.below hB6.out hX.lt
  have h4 := h3.below hB6.out
  replace HB := hB5
  clear hB5 hB6 hG3 h3 mk f1
  generalize wv = w3 at *
  have q0 := hX.cell 0
  simp only [List.getElem?_toArray, List.getElem?_cons_zero] at q0
  rw [HI.out] at q0
  have c2 := h4.g2
  have ct := h4.cell_t hf
  have hil : (i : Int) < (D.length : Int) := by omega
  have hi0 : (0 : Int) ≤ (i : Int) := by omega
  have HX := Lib.hid hX
  have HH := Lib.hid h4
  clear hX h4
  refine region_only 8 #[false, false, false, false, false, false, false, false] (S := fun W' => W'.cell? ⟨q, 0, none⟩ = some (.int .i64 (i : Int)) ∧ W'.cell? ⟨b, 2, none⟩ = some (.slice (some ⟨gt, 0, none⟩) D.length D.length) ∧ W'.cell? ⟨gt, i, none⟩ = some (.bool true)) rfl rfl (by kernel_rfl) ⟨q0, c2, ct⟩ (fun hSw => ?_)
  refine take_at 0 16 (fuel := 7) ?_ rfl rfl (by kernel_rfl) (by kernel_rfl) (by kernel_rfl) (Or.inl ⟨by rfl, ?_⟩) hSw ?_
  rotate_left
  · intro wx hSx
    (try dsimp only at hSx)
    go_split_ands
    go_simp
    (try with_reducible rfl)
  simp only [List.setIfInBounds_toArray, List.set_cons_zero, List.set_cons_succ]
  refine take_at 1 17 (fuel := 6) ?_ rfl rfl (by kernel_rfl) (by kernel_rfl) (by kernel_rfl) (Or.inl ⟨by rfl, ?_⟩) hSw ?_
  rotate_left
  · intro wx hSx
    (try dsimp only at hSx)
    go_split_ands
    go_simp
    (try with_reducible rfl)
  simp only [List.setIfInBounds_toArray, List.set_cons_zero, List.set_cons_succ]
  refine take_at 2 18 (fuel := 5) ?_ rfl rfl (by kernel_rfl) (by kernel_rfl) (by kernel_rfl) (Or.inl ⟨by rfl, ?_⟩) hSw ?_
  rotate_left
  · intro wx hSx
    (try dsimp only at hSx)
    go_split_ands
    go_simp
    (try with_reducible rfl)
  simp only [List.setIfInBounds_toArray, List.set_cons_zero, List.set_cons_succ]
  refine take_at 3 19 (fuel := 4) ?_ rfl rfl (by kernel_rfl) (by kernel_rfl) (by kernel_rfl) (Or.inl ⟨by rfl, ?_⟩) hSw ?_
  rotate_left
  · intro wx hSx
    (try dsimp only at hSx)
    go_split_ands
    go_simp
    (try with_reducible rfl)
  simp only [List.setIfInBounds_toArray, List.set_cons_zero, List.set_cons_succ]
  refine take_at 4 20 (fuel := 3) ?_ rfl rfl (by kernel_rfl) (by kernel_rfl) (by kernel_rfl) (Or.inl ⟨by rfl, ?_⟩) hSw ?_
  rotate_left
  · intro wx hSx
    (try dsimp only at hSx)
    go_split_ands
    go_simp
    (try with_reducible rfl)
  simp only [List.setIfInBounds_toArray, List.set_cons_zero, List.set_cons_succ]
  refine take_at 5 21 (fuel := 2) ?_ rfl rfl (by kernel_rfl) (by kernel_rfl) (by kernel_rfl) (Or.inl ⟨by rfl, ?_⟩) hSw ?_
  rotate_left
  · intro wx hSx
    (try dsimp only at hSx)
    go_split_ands
    go_simp
    (try with_reducible rfl)
  simp only [List.setIfInBounds_toArray, List.set_cons_zero, List.set_cons_succ]
  refine take_at 6 22 (fuel := 1) ?_ rfl rfl (by kernel_rfl) (by kernel_rfl) (by kernel_rfl) (Or.inl ⟨by rfl, ?_⟩) hSw ?_
  rotate_left
  · intro wx hSx
    (try dsimp only at hSx)
    go_split_ands
    go_simp
    (try with_reducible rfl)
  simp only [List.setIfInBounds_toArray, List.set_cons_zero, List.set_cons_succ]
  refine take_at 7 23 (fuel := 0) ?_ rfl rfl (by kernel_rfl) (by kernel_rfl) (by kernel_rfl) (Or.inl ⟨by rfl, ?_⟩) hSw ?_
  rotate_left
  · intro wx hSx
    (try dsimp only at hSx)
    go_split_ands
    go_simp
    (try with_reducible rfl)
  simp only [List.setIfInBounds_toArray, List.set_cons_zero, List.set_cons_succ]
  refine wpAnyH_done (by kernel_rfl) ⟨rfl, ?_⟩ 0
  go_wp2_with fail
  exact bodyPost_ret (results_tmp2 rfl _ _ _) rfl ⟨rfl, HB.out.drew⟩
set_option maxHeartbeats 4000000 in
set_option maxRecDepth 100000 in
theorem add_new (p : Pc) (hp : mayB W D.length p = true) (e1 : sumL p.data = p.sum) (i : Nat) (hi : p.n = (i : Int)) (hf : F[i]? = some false) (hG : Glob w) (h : HeldG w b gd gt W D F) : Calls Tryd.prog 11 #[gp b, .agg p.cs] w fun e w' => e = .returned (.tuple #[.bool true, .int .i64 0]) ∧ HeldG w' b gd gt W (D.set i p.data) (F.set i true) ∧ Ks (fun k => k = gd ∨ k = gt) w w' := by
  obtain ⟨hin, hdl4⟩ : i < D.length ∧ p.data.length ≤ 1024 := by
    obtain ⟨j, hj, hjn, -, -, hd⟩ := mayB_true hp
    exact ⟨by omega, hd⟩
  have hdl : p.data.length < 1099511627776 := by omega
  have HI := Lib.hid hi
  clear hi
  have hX := Blk.new w PT #[.int .i64 p.n, .int .i64 p.of_, .string (str p.data), .string (str p.sum), .string (str p.whole)]
  have hb1 : Below w.heap.size w (w.alloc (.cells #[.int .i64 p.n, .int .i64 p.of_, .string (str p.data), .string (str p.sum), .string (str p.whole)] PT)) := (Below.refl _ w).alloc (Nat.le_refl _) _
  have h1 := h.below hb1
  have hG1 := hG.below hb1
  have htl := Wirey.toList_str
  have hlt := h.lt
  clear h hG
  go_enter Tryd.func11, Tryd.ntmps11
  go_upto_region 1 with (fail)
  generalize w.alloc (.cells #[.int .i64 p.n, .int .i64 p.of_, .string (str p.data), .string (str p.sum), .string (str p.whole)] PT) = w1 at *
  have HB1 := Lib.hid hb1
  clear hb1
  have HLT : b < w.heap.size ∧ gd < w.heap.size ∧ gt < w.heap.size := hlt
  generalize hqe : w.heap.size = q at hX HLT ⊢
  have HQE := Lib.hid hqe
  clear hqe
  have q0 := hX.cell 0
  have q1 := hX.cell 1
  have q2 := hX.cell 2
  have q3 := hX.cell 3
  have q4 := hX.cell 4
  simp only [List.getElem?_toArray, List.getElem?_cons_zero, List.getElem?_cons_succ] at q0 q1 q2 q3 q4
  go_wp2_with fail
  refine (may_c p h1).mono ?_
  rintro e w3 ⟨rfl, hb3⟩
  rw [hp]
  replace hX := hX.below hb3 hX.lt
  have h3 := h1.below hb3
  have hG3 := hG1.below hb3
  have HB := Lib.hid (HB1.out.trans (hb3.mono HB1.out.size))
  clear hb3 q0 q1 q2 q3 q4 h1 hG1 HB1
  have mk : ∀ W', Below w3.heap.size w3 W' → (W'.cell? ⟨q, 2, none⟩ = some (.string (str p.data)) ∧ W'.cell? ⟨q, 3, none⟩ = some (.string (str p.sum))) ∧ Below w3.heap.size w3 W' := fun W' hW => ⟨⟨(hX.below hW hX.lt).cell 2, (hX.below hW hX.lt).cell 3⟩, hW⟩
  go_wp2_with fail
  have f1 : (sumL p.data == p.sum) = true := by simpa using e1
  clear e1
  refine region_only 6 #[false, false, false, false, false, false] (S := fun W' => (W'.cell? ⟨q, 2, none⟩ = some (.string (str p.data)) ∧ W'.cell? ⟨q, 3, none⟩ = some (.string (str p.sum))) ∧ Below w3.heap.size w3 W') rfl rfl (by kernel_rfl) (mk _ (Below.refl _ _).drew) (fun hSw => ?_)
  refine take_at 0 10 (fuel := 5) ?_ rfl rfl (by kernel_rfl) (by kernel_rfl) (by kernel_rfl) (Or.inl ⟨by rfl, ?_⟩) hSw ?_
  rotate_left
  · intro wx hSx
    (try dsimp only at hSx)
    go_split_ands
    go_simp
    (try with_reducible rfl)
  simp only [List.setIfInBounds_toArray, List.set_cons_zero, List.set_cons_succ]
  refine take_at 1 11 (fuel := 4) ?_ rfl rfl (by kernel_rfl) (by kernel_rfl) (by kernel_rfl) (Or.inl ⟨by rfl, ?_⟩) hSw ?_
  rotate_left
  · intro wx hSx
    (try dsimp only at hSx)
    go_split_ands
    go_simp
    (try with_reducible rfl)
  simp only [List.setIfInBounds_toArray, List.set_cons_zero, List.set_cons_succ]
  refine take_at 3 13 (fuel := 3) ?_ rfl rfl (by kernel_rfl) (by kernel_rfl) (by kernel_rfl) (Or.inl ⟨by rfl, ?_⟩) hSw ?_
  rotate_left
  · intro wx hSx
    (try dsimp only at hSx)
    go_split_ands
    go_simp
    (try with_reducible rfl)
  simp only [List.setIfInBounds_toArray, List.set_cons_zero, List.set_cons_succ]
  refine take_at 4 14 (fuel := 2) ?_ rfl rfl (by kernel_rfl) (by kernel_rfl) (by kernel_rfl) (Or.inl ⟨by rfl, ?_⟩) hSw ?_
  rotate_left
  · intro wx hSx
    (try dsimp only at hSx)
    go_split_ands
    go_simp
    (try with_reducible rfl)
  simp only [List.setIfInBounds_toArray, List.set_cons_zero, List.set_cons_succ]
  refine wpAnyH_ready (fuel := 1) (rs := [2]) (by kernel_rfl) (by simp) (AllReadyH.cons rfl (fun K hK => ?_) AllReadyH.nil)
  go_simp
  refine Calls.mono (sumP_c p.data hdl _ (hG3.below hSw.2)) ?_
  rintro e wv ⟨rfl, hbv⟩
  have hB5 := Lib.hid (HB.out.trans ((hSw.2.trans (hbv.mono hSw.2.size)).mono HB.out.size))
  have hB6 := Lib.hid (hSw.2.trans (hbv.mono hSw.2.size))
  clear hbv
  refine hK.out _ _ (mk _ hB6.out) (fun hSw => ?_)
  clear hK K
  simp only [List.setIfInBounds_toArray, List.set_cons_zero, List.set_cons_succ]
  refine take_at 5 15 (fuel := 0) ?_ rfl rfl (by kernel_rfl) (by kernel_rfl) (by kernel_rfl) (Or.inl ⟨by rfl, ?_⟩) hSw ?_
  rotate_left
  · intro wx hSx
    (try dsimp only at hSx)
    go_split_ands
    go_simp
    (try with_reducible rfl)
  simp only [List.setIfInBounds_toArray, List.set_cons_zero, List.set_cons_succ]
  refine wpAnyH_done (by kernel_rfl) ⟨rfl, ?_⟩ 0
  clear hSw
  go_upto_region 5 with (fail)
  replace hX := hX.below hB6.out hX.lt
  have h4 := h3.below hB6.out
  replace HB := hB5
  clear hB5 hB6 hG3 h3 mk f1
  generalize wv = w3 at *
  have q0 := hX.cell 0
  simp only [List.getElem?_toArray, List.getElem?_cons_zero] at q0
  rw [HI.out] at q0
  have c2 := h4.g2
  have ct := h4.cell_t hf
  have hil : (i : Int) < (D.length : Int) := by omega
  have hi0 : (0 : Int) ≤ (i : Int) := by omega
  have HX := Lib.hid hX
  have HH := Lib.hid h4
  clear hX h4
  refine region_only 8 #[false, false, false, false, false, false, false, false] (S := fun W' => W'.cell? ⟨q, 0, none⟩ = some (.int .i64 (i : Int)) ∧ W'.cell? ⟨b, 2, none⟩ = some (.slice (some ⟨gt, 0, none⟩) D.length D.length) ∧ W'.cell? ⟨gt, i, none⟩ = some (.bool false)) rfl rfl (by kernel_rfl) ⟨q0, c2, ct⟩ (fun hSw => ?_)
  refine take_at 0 16 (fuel := 7) ?_ rfl rfl (by kernel_rfl) (by kernel_rfl) (by kernel_rfl) (Or.inl ⟨by rfl, ?_⟩) hSw ?_
  rotate_left
  · intro wx hSx
    (try dsimp only at hSx)
    go_split_ands
    go_simp
    (try with_reducible rfl)
  simp only [List.setIfInBounds_toArray, List.set_cons_zero, List.set_cons_succ]
  refine take_at 1 17 (fuel := 6) ?_ rfl rfl (by kernel_rfl) (by kernel_rfl) (by kernel_rfl) (Or.inl ⟨by rfl, ?_⟩) hSw ?_
  rotate_left
  · intro wx hSx
    (try dsimp only at hSx)
    go_split_ands
    go_simp
    (try with_reducible rfl)
  simp only [List.setIfInBounds_toArray, List.set_cons_zero, List.set_cons_succ]
  refine take_at 2 18 (fuel := 5) ?_ rfl rfl (by kernel_rfl) (by kernel_rfl) (by kernel_rfl) (Or.inl ⟨by rfl, ?_⟩) hSw ?_
  rotate_left
  · intro wx hSx
    (try dsimp only at hSx)
    go_split_ands
    go_simp
    (try with_reducible rfl)
  simp only [List.setIfInBounds_toArray, List.set_cons_zero, List.set_cons_succ]
  refine take_at 3 19 (fuel := 4) ?_ rfl rfl (by kernel_rfl) (by kernel_rfl) (by kernel_rfl) (Or.inl ⟨by rfl, ?_⟩) hSw ?_
  rotate_left
  · intro wx hSx
    (try dsimp only at hSx)
    go_split_ands
    go_simp
    (try with_reducible rfl)
  simp only [List.setIfInBounds_toArray, List.set_cons_zero, List.set_cons_succ]
  refine take_at 4 20 (fuel := 3) ?_ rfl rfl (by kernel_rfl) (by kernel_rfl) (by kernel_rfl) (Or.inl ⟨by rfl, ?_⟩) hSw ?_
  rotate_left
  · intro wx hSx
    (try dsimp only at hSx)
    go_split_ands
    go_simp
    (try with_reducible rfl)
  simp only [List.setIfInBounds_toArray, List.set_cons_zero, List.set_cons_succ]
  refine take_at 5 21 (fuel := 2) ?_ rfl rfl (by kernel_rfl) (by kernel_rfl) (by kernel_rfl) (Or.inl ⟨by rfl, ?_⟩) hSw ?_
  rotate_left
  · intro wx hSx
    (try dsimp only at hSx)
    go_split_ands
    go_simp
    (try with_reducible rfl)
  simp only [List.setIfInBounds_toArray, List.set_cons_zero, List.set_cons_succ]
  refine take_at 6 22 (fuel := 1) ?_ rfl rfl (by kernel_rfl) (by kernel_rfl) (by kernel_rfl) (Or.inl ⟨by rfl, ?_⟩) hSw ?_
  rotate_left
  · intro wx hSx
    (try dsimp only at hSx)
    go_split_ands
    go_simp
    (try with_reducible rfl)
  simp only [List.setIfInBounds_toArray, List.set_cons_zero, List.set_cons_succ]
  refine take_at 7 23 (fuel := 0) ?_ rfl rfl (by kernel_rfl) (by kernel_rfl) (by kernel_rfl) (Or.inl ⟨by rfl, ?_⟩) hSw ?_
  rotate_left
  · intro wx hSx
    (try dsimp only at hSx)
    go_split_ands
    go_simp
    (try with_reducible rfl)
  simp only [List.setIfInBounds_toArray, List.set_cons_zero, List.set_cons_succ]
  refine wpAnyH_done (by kernel_rfl) ⟨rfl, ?_⟩ 0
  go_upto_region 7 with (fail)
  have hX : Blk w3.drew q PT _ := HX.out
  have h4 : HeldG w3.drew b gd gt W D F := ⟨HH.out.g, HH.out.d, HH.out.t, HH.out.len, HH.out.pos, HH.out.most, HH.out.wl, HH.out.dl⟩
  replace HB := Lib.hid HB.out.drew
  clear HX HH hSw q0 c2 ct
  generalize w3.drew = w4 at *
  obtain ⟨y, hDi⟩ : ∃ y, D[i]? = some y := ⟨_, List.getElem?_eq_getElem hin⟩
  have hne := h4.ne_
  have hcl : (str p.data).size ≤ 281474976710656 := by rw [str_size]; omega
  have mk7 : ∀ W', Ks (fun k => k = gd) w4 W' → W'.cell? ⟨q, 0, none⟩ = some (.int .i64 (i : Int)) ∧ W'.cell? ⟨q, 2, none⟩ = some (.string (str p.data)) ∧ W'.cell? ⟨b, 1, none⟩ = some (.slice (some ⟨gd, 0, none⟩) D.length D.length) := fun W' k => by
    have hx := k.blk hX (by omega)
    refine ⟨?_, hx.cell 2, (k.blk h4.g hne.1).cell 1⟩
    rw [← HI.out]; exact hx.cell 0
  refine region_only 11 #[false, false, false, false, false, false, false, false, false, false, false] (S := fun W' => W'.cell? ⟨q, 0, none⟩ = some (.int .i64 (i : Int)) ∧ W'.cell? ⟨q, 2, none⟩ = some (.string (str p.data)) ∧ W'.cell? ⟨b, 1, none⟩ = some (.slice (some ⟨gd, 0, none⟩) D.length D.length)) rfl rfl (by kernel_rfl) (mk7 _ (Ks.of_below (Below.refl _ _).drew)) (fun hSw => ?_)
  refine take_at 0 24 (fuel := 10) ?_ rfl rfl (by kernel_rfl) (by kernel_rfl) (by kernel_rfl) (Or.inl ⟨by rfl, ?_⟩) hSw ?_
  rotate_left
  · intro wx hSx
    (try dsimp only at hSx)
    go_split_ands
    go_simp
    (try with_reducible rfl)
  simp only [List.setIfInBounds_toArray, List.set_cons_zero, List.set_cons_succ]
  refine take_at 1 25 (fuel := 9) ?_ rfl rfl (by kernel_rfl) (by kernel_rfl) (by kernel_rfl) (Or.inl ⟨by rfl, ?_⟩) hSw ?_
  rotate_left
  · intro wx hSx
    (try dsimp only at hSx)
    go_split_ands
    go_simp
    (try with_reducible rfl)
  simp only [List.setIfInBounds_toArray, List.set_cons_zero, List.set_cons_succ]
  refine take_at 2 26 (fuel := 8) ?_ rfl rfl (by kernel_rfl) (by kernel_rfl) (by kernel_rfl) (Or.inl ⟨by rfl, ?_⟩) hSw ?_
  rotate_left
  · intro wx hSx
    (try dsimp only at hSx)
    go_split_ands
    go_simp
    (try with_reducible rfl)
  simp only [List.setIfInBounds_toArray, List.set_cons_zero, List.set_cons_succ]
  refine take_at 3 27 (fuel := 7) ?_ rfl rfl (by kernel_rfl) (by kernel_rfl) (by kernel_rfl) (Or.inl ⟨by rfl, ?_⟩) hSw ?_
  rotate_left
  · intro wx hSx
    (try dsimp only at hSx)
    go_split_ands
    go_simp
    (try with_reducible rfl)
  simp only [List.setIfInBounds_toArray, List.set_cons_zero, List.set_cons_succ]
  refine take_at 4 28 (fuel := 6) ?_ rfl rfl (by kernel_rfl) (by kernel_rfl) (by kernel_rfl) (Or.inl ⟨by rfl, ?_⟩) hSw ?_
  rotate_left
  · intro wx hSx
    (try dsimp only at hSx)
    go_split_ands
    go_simp
    (try with_reducible rfl)
  simp only [List.setIfInBounds_toArray, List.set_cons_zero, List.set_cons_succ]
  refine take_at 5 29 (fuel := 5) ?_ rfl rfl (by kernel_rfl) (by kernel_rfl) (by kernel_rfl) (Or.inl ⟨by rfl, ?_⟩) hSw ?_
  rotate_left
  · intro wx hSx
    (try dsimp only at hSx)
    go_split_ands
    go_simp
    (try with_reducible rfl)
  simp only [List.setIfInBounds_toArray, List.set_cons_zero, List.set_cons_succ]
  refine take_at 6 30 (fuel := 4) ?_ rfl rfl (by kernel_rfl) (by kernel_rfl) (by kernel_rfl) (Or.inl ⟨by rfl, ?_⟩) hSw ?_
  rotate_left
  · intro wx hSx
    (try dsimp only at hSx)
    go_split_ands
    go_simp
    (try with_reducible rfl)
  simp only [List.setIfInBounds_toArray, List.set_cons_zero, List.set_cons_succ]
  refine take_at 7 31 (fuel := 3) ?_ rfl rfl (by kernel_rfl) (by kernel_rfl) (by kernel_rfl) (Or.inl ⟨by rfl, ?_⟩) hSw ?_
  rotate_left
  · intro wx hSx
    (try dsimp only at hSx)
    go_split_ands
    go_simp
    (try with_reducible rfl)
  simp only [List.setIfInBounds_toArray, List.set_cons_zero, List.set_cons_succ]
  refine wpAnyH_ready (fuel := 2) (rs := [8]) (by kernel_rfl) (by simp) (AllReadyH.cons rfl (fun K hK => ?_) AllReadyH.nil)
  go_simp
  refine Calls.mono (clone_c _ _ hcl) ?_
  rintro e wv ⟨rfl, hbv⟩
  have hB8 : Below w4.heap.size w4 wv := ⟨hbv.os, hbv.tape, hbv.output, hbv.size, hbv.block⟩
  have hdv := h4.d.below hB8 h4.d.lt
  have cdv := (h4.below hB8).cell_d hDi
  have fdv := hdv.free i
  have HDV := Lib.hid hdv
  clear hbv hdv
  refine hK.out _ _ (mk7 _ (Ks.of_below hB8)) (fun hSw => ?_)
  clear hK K
  simp only [List.setIfInBounds_toArray, List.set_cons_zero, List.set_cons_succ]
  refine take_at 9 33 (fuel := 1) ?_ rfl rfl (by kernel_rfl) (by kernel_rfl) (by kernel_rfl) (Or.inl ⟨by rfl, ?_⟩) hSw ?_
  rotate_left
  · intro wx hSx
    (try dsimp only at hSx)
    go_split_ands
    go_simp
    (try with_reducible rfl)
  simp only [List.setIfInBounds_toArray, List.set_cons_zero, List.set_cons_succ]
  refine wpAnyH_ready (fuel := 0) (rs := [10]) (by kernel_rfl) (by simp) (AllReadyH.cons rfl (fun K hK => ?_) AllReadyH.nil)
  go_simp
  refine hK.out _ _ (mk7 _ ((Ks.of_below hB8).set1 _ _)) (fun hSw => ?_)
  clear hK K
  simp only [List.setIfInBounds_toArray, List.set_cons_zero, List.set_cons_succ]
  refine wpAnyH_done (by kernel_rfl) ⟨rfl, ?_⟩ 0
  go_upto_region 8 with (fail)
  have k5 : Ks (fun k => k = gd) w4 (wv.setCell ⟨gd, i, none⟩ (.string (str p.data))) := (Ks.of_below hB8).set1 _ _
  have h5 := set_d (i := i) p.data (h4.below hB8) hdl4
  have hX5 := k5.blk hX (by omega)
  have k5' : Ks (fun k => k = gd ∨ k = gt) w4 (wv.setCell ⟨gd, i, none⟩ (.string (str p.data))) := k5.mono fun k hk => .inl hk
  clear k5 hX h4 mk7 hSw cdv fdv HDV hDi
  generalize wv.setCell ⟨gd, i, none⟩ (.string (str p.data)) = w5 at *
  have ct := h5.cell_t hf
  have ft := h5.t.free i
  have mk8 : ∀ W', Ks (fun k => k = gt) w5 W' → W'.cell? ⟨q, 0, none⟩ = some (.int .i64 (i : Int)) ∧ W'.cell? ⟨b, 2, none⟩ = some (.slice (some ⟨gt, 0, none⟩) D.length D.length) := fun W' k => by
    have hx := k.blk hX5 (by omega)
    have hg := (k.blk h5.g hne.2.1).cell 2
    rw [List.length_set] at hg
    refine ⟨?_, hg⟩
    rw [← HI.out]; exact hx.cell 0
  have H5 := Lib.hid h5
  have K5 := Lib.hid k5'
  clear h5 k5' hX5
  replace ct : w5.drew.cell? ⟨gt, i, none⟩ = _ := ct
  replace ft : w5.drew.frozen? ⟨gt, i, none⟩ = false := ft
  refine region_only 8 #[false, false, false, false, false, false, false, false] (S := fun W' => W'.cell? ⟨q, 0, none⟩ = some (.int .i64 (i : Int)) ∧ W'.cell? ⟨b, 2, none⟩ = some (.slice (some ⟨gt, 0, none⟩) D.length D.length)) rfl rfl (by kernel_rfl) (mk8 _ (Ks.of_below (Below.refl _ _).drew)) (fun hSw => ?_)
  refine take_at 0 34 (fuel := 7) ?_ rfl rfl (by kernel_rfl) (by kernel_rfl) (by kernel_rfl) (Or.inl ⟨by rfl, ?_⟩) hSw ?_
  rotate_left
  · intro wx hSx
    (try dsimp only at hSx)
    go_split_ands
    go_simp
    (try with_reducible rfl)
  simp only [List.setIfInBounds_toArray, List.set_cons_zero, List.set_cons_succ]
  refine take_at 1 35 (fuel := 6) ?_ rfl rfl (by kernel_rfl) (by kernel_rfl) (by kernel_rfl) (Or.inl ⟨by rfl, ?_⟩) hSw ?_
  rotate_left
  · intro wx hSx
    (try dsimp only at hSx)
    go_split_ands
    go_simp
    (try with_reducible rfl)
  simp only [List.setIfInBounds_toArray, List.set_cons_zero, List.set_cons_succ]
  refine take_at 2 36 (fuel := 5) ?_ rfl rfl (by kernel_rfl) (by kernel_rfl) (by kernel_rfl) (Or.inl ⟨by rfl, ?_⟩) hSw ?_
  rotate_left
  · intro wx hSx
    (try dsimp only at hSx)
    go_split_ands
    go_simp
    (try with_reducible rfl)
  simp only [List.setIfInBounds_toArray, List.set_cons_zero, List.set_cons_succ]
  refine take_at 3 37 (fuel := 4) ?_ rfl rfl (by kernel_rfl) (by kernel_rfl) (by kernel_rfl) (Or.inl ⟨by rfl, ?_⟩) hSw ?_
  rotate_left
  · intro wx hSx
    (try dsimp only at hSx)
    go_split_ands
    go_simp
    (try with_reducible rfl)
  simp only [List.setIfInBounds_toArray, List.set_cons_zero, List.set_cons_succ]
  refine take_at 4 38 (fuel := 3) ?_ rfl rfl (by kernel_rfl) (by kernel_rfl) (by kernel_rfl) (Or.inl ⟨by rfl, ?_⟩) hSw ?_
  rotate_left
  · intro wx hSx
    (try dsimp only at hSx)
    go_split_ands
    go_simp
    (try with_reducible rfl)
  simp only [List.setIfInBounds_toArray, List.set_cons_zero, List.set_cons_succ]
  refine take_at 5 39 (fuel := 2) ?_ rfl rfl (by kernel_rfl) (by kernel_rfl) (by kernel_rfl) (Or.inl ⟨by rfl, ?_⟩) hSw ?_
  rotate_left
  · intro wx hSx
    (try dsimp only at hSx)
    go_split_ands
    go_simp
    (try with_reducible rfl)
  simp only [List.setIfInBounds_toArray, List.set_cons_zero, List.set_cons_succ]
  refine take_at 6 40 (fuel := 1) ?_ rfl rfl (by kernel_rfl) (by kernel_rfl) (by kernel_rfl) (Or.inl ⟨by rfl, ?_⟩) hSw ?_
  rotate_left
  · intro wx hSx
    (try dsimp only at hSx)
    go_split_ands
    go_simp
    (try with_reducible rfl)
  simp only [List.setIfInBounds_toArray, List.set_cons_zero, List.set_cons_succ]
  refine wpAnyH_ready (fuel := 0) (rs := [7]) (by kernel_rfl) (by simp) (AllReadyH.cons rfl (fun K hK => ?_) AllReadyH.nil)
  go_simp
  refine hK.out _ _ (mk8 _ ((Ks.refl _ _).set1 _ _).drew) (fun hSw => ?_)
  clear hK K
  simp only [List.setIfInBounds_toArray, List.set_cons_zero, List.set_cons_succ]
  refine wpAnyH_done (by kernel_rfl) ⟨rfl, ?_⟩ 0
  go_wp2_with fail
  have h6 := set_t (i := i) true H5.out
  have k6 : Ks (fun k => k = gd ∨ k = gt) w5 (w5.setCell ⟨gt, i, none⟩ (.bool true)) := (Ks.refl _ _).set (p := ⟨gt, i, none⟩) (.inr rfl) _
  refine bodyPost_ret (results_tmp2 rfl _ _ _) rfl ⟨rfl, ⟨h6.g, h6.d, h6.t, h6.len, h6.pos, h6.most, h6.wl, h6.dl⟩, ?_⟩
  have k7 := ((Ks.of_below HB.out).trans (K5.out.trans k6) : Ks (fun k => k = gd ∨ k = gt) w _)
  exact ⟨k7.os, k7.tape, k7.output, k7.size, k7.block⟩
theorem add_nil (p : Pc) (w : World) : Calls Tryd.prog 11 #[nilG, .agg p.cs] w fun e w' => e = .returned (.tuple #[.bool false, .int .i64 1]) ∧ Below w.heap.size w w' := by
  have hX := Blk.new w PT #[.int .i64 p.n, .int .i64 p.of_, .string (str p.data), .string (str p.sum), .string (str p.whole)]
  have hb1 : Below w.heap.size w (w.alloc (.cells #[.int .i64 p.n, .int .i64 p.of_, .string (str p.data), .string (str p.sum), .string (str p.whole)] PT)) := (Below.refl _ w).alloc (Nat.le_refl _) _
  go_enter Tryd.func11, Tryd.ntmps11
  go_upto_region 1 with (fail)
  generalize w.alloc (.cells #[.int .i64 p.n, .int .i64 p.of_, .string (str p.data), .string (str p.sum), .string (str p.whole)] PT) = w1 at *
  have HB := Lib.hid hb1
  clear hb1
  generalize w.heap.size = q at hX ⊢
  have q0 := hX.cell 0
  have q1 := hX.cell 1
  have q2 := hX.cell 2
  have q3 := hX.cell 3
  have q4 := hX.cell 4
  simp only [List.getElem?_toArray, List.getElem?_cons_zero, List.getElem?_cons_succ] at q0 q1 q2 q3 q4
  go_wp2_with fail
  refine (may_nil p _).mono ?_
  rintro e w2 ⟨rfl, hb2⟩
  have HB2 := Lib.hid (HB.out.trans (hb2.mono HB.out.size))
  clear hb2 q0 q1 q2 q3 q4
  go_wp2_with fail
  exact bodyPost_ret (results_tmp2 rfl _ _ _) rfl ⟨rfl, HB2.out⟩
end
end Go.Proofs.YtccaomaobokldaaDoor.Snapy
