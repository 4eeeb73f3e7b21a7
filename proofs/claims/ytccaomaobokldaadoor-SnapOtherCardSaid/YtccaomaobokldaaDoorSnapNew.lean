/- Layer 14's program: a Gather that has nothing. No condition. -/
import Derived.Test.YtccaomaobokldaaDoorSnapProg
import Derived.Test.YtccaomaobokldaaDoorClone
import Derived.Laws.MakeOwn
namespace Go.Proofs.YtccaomaobokldaaDoor.Snapy
open Go.ChangeShapes Go.WideShapes Go.ChangeAt Go.RowKit
open Wirey Regy
section
variable {w w' : World} {b gd gt B : Nat} {W : Bs} {D : List Bs} {F : List Bool}
theorem str_info : (Tryd.prog.info? 9).map (fun i => (i.zero, i.size, i.bytes)) = some (some (.string ⟨#[]⟩), 1, 16) := by kernel_rfl
theorem bool_info : (Tryd.prog.info? 4).map (fun i => (i.zero, i.size, i.bytes)) = some (some (.bool false), 1, 1) := by kernel_rfl
def txs (n : Nat) : Array Value := ((List.replicate n ([] : Bs)).map fun x => Value.string (str x)).toArray
def bls (n : Nat) : Array Value := ((List.replicate n false).map Value.bool).toArray
theorem mk_txs {n : Nat} (h : n ≤ 8192) (w : World) : (Instr.makeSlice 47 (.int .i64 (n : Int)) (.int .i64 (n : Int))).run Tryd.prog w = .ok (.slice (some ⟨w.heap.size, 0, none⟩) n n) (w.alloc (.cells (txs n) 9)) := by
  obtain ⟨i0, hi, hz0, hz1, hz2⟩ := info_parts str_info
  have h := run_make (P := Tryd.prog) w 47 9 i0 (.string ⟨#[]⟩) Tryd.underlying47 hi hz0 .i64 .i64 (n : Int) (n : Int) (by omega) (by omega) (by rw [hz2]; omega) (by omega)
  rw [h, hz1, Int.toNat_natCast, Nat.mul_one]
  have e : madeCells (Value.string ⟨#[]⟩).cells n = txs n := by
    show madeCells #[Value.string ⟨#[]⟩] n = _
    apply Array.ext'
    rw [toList_madeCells_one]
    simp [txs, str]
  rw [e]
theorem mk_bls {n : Nat} (h : n ≤ 8192) (w : World) : (Instr.makeSlice 34 (.int .i64 (n : Int)) (.int .i64 (n : Int))).run Tryd.prog w = .ok (.slice (some ⟨w.heap.size, 0, none⟩) n n) (w.alloc (.cells (bls n) 4)) := by
  obtain ⟨i0, hi, hz0, hz1, hz2⟩ := info_parts bool_info
  have h := run_make (P := Tryd.prog) w 34 4 i0 (.bool false) Tryd.underlying34 hi hz0 .i64 .i64 (n : Int) (n : Int) (by omega) (by omega) (by rw [hz2]; omega) (by omega)
  rw [h, hz1, Int.toNat_natCast, Nat.mul_one]
  have e : madeCells (Value.bool false).cells n = bls n := by
    show madeCells #[Value.bool false] n = _
    apply Array.ext'
    rw [toList_madeCells_one]
    simp [bls]
  rw [e]
theorem new_held {w : World} {g gd gt n : Nat} (hW : W.length = 32) (h1 : 1 ≤ n) (h2 : n ≤ 8192) (hg : Blk w g GT #[.string (str W), .slice (some ⟨gd, 0, none⟩) n n, .slice (some ⟨gt, 0, none⟩) n n]) (hd : Blk w gd 9 (txs n)) (ht : Blk w gt 4 (bls n)) :
    HeldG w g gd gt W (List.replicate n []) (List.replicate n false) := by
  have e : (List.replicate n ([] : Bs)).length = n := List.length_replicate
  exact ⟨by rw [e]; exact hg, hd, ht, by simp, by rw [e]; omega, by rw [e]; omega, hW, fun x hx => by rw [(List.mem_replicate.1 hx).2]; simp⟩
set_option maxHeartbeats 4000000 in
set_option maxRecDepth 100000 in
theorem new_ok {W : Bs} (hW : W.length = 32) {n : Nat} (h1 : 1 ≤ n) (h2 : n ≤ 8192) (w : World) : Calls Tryd.prog 10 #[.string (str W), .int .i64 (n : Int)] w fun e w' => ∃ g gd gt, e = .returned (.tuple #[gp g, .int .i64 0]) ∧ HeldG w' g gd gt W (List.replicate n []) (List.replicate n false) ∧ w.heap.size ≤ g ∧ w.heap.size ≤ gd ∧ w.heap.size ≤ gt ∧ Below w.heap.size w w' := by
  have hsz := str_size
  have f0 : ((W.length : Int) != 32) = false := by rw [hW]; rfl
  have f1 : decide ((n : Int) < 1) = false := decide_eq_false (by omega)
  have f2 : decide ((8192 : Int) < (n : Int)) = false := decide_eq_false (by omega)
  have hcl : (str W).size ≤ 281474976710656 := by rw [str_size]; omega
  have hmd := fun W => mk_txs h2 W
  have hmt := fun W => mk_bls h2 W
  go_enter Tryd.func10, Tryd.ntmps10
  go_wp2_with fail
  refine region_only 10 #[false, false, false, false, false, false, false, false, false, false] (S := fun _ => True) rfl rfl (by kernel_rfl) trivial (fun hSw => ?_)
  have hB0 : Below w.heap.size w w.drew := (Below.refl _ w).drew
  have hBs : w.heap.size ≤ w.drew.heap.size := Nat.le_refl _
  generalize w.drew = y0 at *
  refine take_at 0 17 (fuel := 9) ?_ rfl rfl (by kernel_rfl) (by kernel_rfl) (by kernel_rfl) (Or.inl ⟨by rfl, ?_⟩) hSw ?_
  rotate_left
  · intro wx hSx
    (try dsimp only at hSx)
    go_split_ands
    go_simp
    (try with_reducible rfl)
  simp only [List.setIfInBounds_toArray, List.set_cons_zero, List.set_cons_succ]
  refine take_at 2 19 (fuel := 8) ?_ rfl rfl (by kernel_rfl) (by kernel_rfl) (by kernel_rfl) (Or.inl ⟨by rfl, ?_⟩) hSw ?_
  rotate_left
  · intro wx hSx
    (try dsimp only at hSx)
    go_split_ands
    go_simp
    (try with_reducible rfl)
  simp only [List.setIfInBounds_toArray, List.set_cons_zero, List.set_cons_succ]
  refine take_at 4 21 (fuel := 7) ?_ rfl rfl (by kernel_rfl) (by kernel_rfl) (by kernel_rfl) (Or.inl ⟨by rfl, ?_⟩) hSw ?_
  rotate_left
  · intro wx hSx
    (try dsimp only at hSx)
    go_split_ands
    go_simp
    (try with_reducible rfl)
  simp only [List.setIfInBounds_toArray, List.set_cons_zero, List.set_cons_succ]
  refine wpAnyH_ready (fuel := 6) (rs := [1, 3, 5]) (by kernel_rfl) (by simp) (AllReadyH.cons rfl (fun K hK => ?_) (AllReadyH.cons rfl (fun K hK => ?_) (AllReadyH.cons rfl (fun K hK => ?_) AllReadyH.nil)))
  · go_simp
    refine Calls.mono (clone_c _ _ hcl) ?_
    rintro e y1 ⟨rfl, hbn⟩
    have hB1 := hB0.trans (hbn.mono hB0.size)
    clear hbn hB0
    refine hK.out _ _ trivial (fun hSw => ?_)
    clear hK K
    simp only [List.setIfInBounds_toArray, List.set_cons_zero, List.set_cons_succ]
    refine wpAnyH_ready (fuel := 5) (rs := [3, 5]) (by kernel_rfl) (by simp) (AllReadyH.cons rfl (fun K hK => ?_) (AllReadyH.cons rfl (fun K hK => ?_) AllReadyH.nil))
    · go_simp
      have hd := Blk.new y1 9 (txs n)
      have hB2 := hB1.alloc hB1.size (.cells (txs n) 9)
      have gdl := hB1.size
      generalize y1.alloc (.cells (txs n) 9) = y2 at *
      generalize y1.heap.size = gd at hd gdl ⊢
      clear hB1
      refine hK.out _ _ trivial (fun hSw => ?_)
      clear hK K
      simp only [List.setIfInBounds_toArray, List.set_cons_zero, List.set_cons_succ]
      refine wpAnyH_ready (fuel := 4) (rs := [5]) (by kernel_rfl) (by simp) (AllReadyH.cons rfl (fun K hK => ?_) AllReadyH.nil)
      go_simp
      have ht := Blk.new y2 4 (bls n)
      have hB3 := hB2.alloc hB2.size (.cells (bls n) 4)
      have gtl := hB2.size
      replace hd := hd.alloc (.cells (bls n) 4)
      generalize y2.alloc (.cells (bls n) 4) = y3 at *
      generalize y2.heap.size = gt at ht gtl ⊢
      clear hB2
      refine hK.out _ _ trivial (fun hSw => ?_)
      clear hK K
      simp only [List.setIfInBounds_toArray, List.set_cons_zero, List.set_cons_succ]
      refine take_at 6 23 (fuel := 3) ?_ rfl rfl (by kernel_rfl) (by kernel_rfl) (by kernel_rfl) (Or.inl ⟨by rfl, ?_⟩) hSw ?_
      rotate_left
      · intro wx hSx
        (try dsimp only at hSx)
        go_split_ands
        go_simp
        (try with_reducible rfl)
      simp only [List.setIfInBounds_toArray, List.set_cons_zero, List.set_cons_succ]
      refine wpAnyH_ready (fuel := 2) (rs := [7]) (by kernel_rfl) (by simp) (AllReadyH.cons rfl (fun K hK => ?_) AllReadyH.nil)
      go_simp
      have hg := Blk.new y3 GT #[.string (str W), .slice (some ⟨gd, 0, none⟩) n n, .slice (some ⟨gt, 0, none⟩) n n]
      have hB4 := hB3.alloc hB3.size (.cells #[.string (str W), .slice (some ⟨gd, 0, none⟩) n n, .slice (some ⟨gt, 0, none⟩) n n] GT)
      have gl := hB3.size
      replace hd := hd.alloc (.cells #[.string (str W), .slice (some ⟨gd, 0, none⟩) n n, .slice (some ⟨gt, 0, none⟩) n n] GT)
      replace ht := ht.alloc (.cells #[.string (str W), .slice (some ⟨gd, 0, none⟩) n n, .slice (some ⟨gt, 0, none⟩) n n] GT)
      generalize y3.alloc (.cells #[.string (str W), .slice (some ⟨gd, 0, none⟩) n n, .slice (some ⟨gt, 0, none⟩) n n] GT) = y4 at *
      generalize y3.heap.size = g at hg gl ⊢
      clear hB3
      refine hK.out _ _ trivial (fun hSw => ?_)
      clear hK K
      simp only [List.setIfInBounds_toArray, List.set_cons_zero, List.set_cons_succ]
      refine take_at 8 4 (fuel := 1) ?_ rfl rfl (by kernel_rfl) (by kernel_rfl) (by kernel_rfl) (Or.inl ⟨by rfl, ?_⟩) hSw ?_
      rotate_left
      · intro wx hSx
        (try dsimp only at hSx)
        go_split_ands
        go_simp
        (try with_reducible rfl)
      simp only [List.setIfInBounds_toArray, List.set_cons_zero, List.set_cons_succ]
      refine take_at 9 5 (fuel := 0) ?_ rfl rfl (by kernel_rfl) (by kernel_rfl) (by kernel_rfl) (Or.inl ⟨by rfl, ?_⟩) hSw ?_
      rotate_left
      · intro wx hSx
        (try dsimp only at hSx)
        go_split_ands
        go_simp
        (try with_reducible rfl)
      simp only [List.setIfInBounds_toArray, List.set_cons_zero, List.set_cons_succ]
      refine wpAnyH_done (by kernel_rfl) ⟨rfl, ?_⟩ 0
      go_wp2_with fail
      refine bodyPost_ret (results_tmp2 rfl _ _ _) rfl ⟨g, gd, gt, rfl, new_held hW h1 h2 hg hd ht, gl, gdl, gtl, hB4⟩
    · go_simp
      have ht := Blk.new y1 4 (bls n)
      have hB2 := hB1.alloc hB1.size (.cells (bls n) 4)
      have gtl := hB1.size
      generalize y1.alloc (.cells (bls n) 4) = y2 at *
      generalize y1.heap.size = gt at ht gtl ⊢
      clear hB1
      refine hK.out _ _ trivial (fun hSw => ?_)
      clear hK K
      simp only [List.setIfInBounds_toArray, List.set_cons_zero, List.set_cons_succ]
      refine wpAnyH_ready (fuel := 4) (rs := [3]) (by kernel_rfl) (by simp) (AllReadyH.cons rfl (fun K hK => ?_) AllReadyH.nil)
      go_simp
      have hd := Blk.new y2 9 (txs n)
      have hB3 := hB2.alloc hB2.size (.cells (txs n) 9)
      have gdl := hB2.size
      replace ht := ht.alloc (.cells (txs n) 9)
      generalize y2.alloc (.cells (txs n) 9) = y3 at *
      generalize y2.heap.size = gd at hd gdl ⊢
      clear hB2
      refine hK.out _ _ trivial (fun hSw => ?_)
      clear hK K
      simp only [List.setIfInBounds_toArray, List.set_cons_zero, List.set_cons_succ]
      refine take_at 6 23 (fuel := 3) ?_ rfl rfl (by kernel_rfl) (by kernel_rfl) (by kernel_rfl) (Or.inl ⟨by rfl, ?_⟩) hSw ?_
      rotate_left
      · intro wx hSx
        (try dsimp only at hSx)
        go_split_ands
        go_simp
        (try with_reducible rfl)
      simp only [List.setIfInBounds_toArray, List.set_cons_zero, List.set_cons_succ]
      refine wpAnyH_ready (fuel := 2) (rs := [7]) (by kernel_rfl) (by simp) (AllReadyH.cons rfl (fun K hK => ?_) AllReadyH.nil)
      go_simp
      have hg := Blk.new y3 GT #[.string (str W), .slice (some ⟨gd, 0, none⟩) n n, .slice (some ⟨gt, 0, none⟩) n n]
      have hB4 := hB3.alloc hB3.size (.cells #[.string (str W), .slice (some ⟨gd, 0, none⟩) n n, .slice (some ⟨gt, 0, none⟩) n n] GT)
      have gl := hB3.size
      replace hd := hd.alloc (.cells #[.string (str W), .slice (some ⟨gd, 0, none⟩) n n, .slice (some ⟨gt, 0, none⟩) n n] GT)
      replace ht := ht.alloc (.cells #[.string (str W), .slice (some ⟨gd, 0, none⟩) n n, .slice (some ⟨gt, 0, none⟩) n n] GT)
      generalize y3.alloc (.cells #[.string (str W), .slice (some ⟨gd, 0, none⟩) n n, .slice (some ⟨gt, 0, none⟩) n n] GT) = y4 at *
      generalize y3.heap.size = g at hg gl ⊢
      clear hB3
      refine hK.out _ _ trivial (fun hSw => ?_)
      clear hK K
      simp only [List.setIfInBounds_toArray, List.set_cons_zero, List.set_cons_succ]
      refine take_at 8 4 (fuel := 1) ?_ rfl rfl (by kernel_rfl) (by kernel_rfl) (by kernel_rfl) (Or.inl ⟨by rfl, ?_⟩) hSw ?_
      rotate_left
      · intro wx hSx
        (try dsimp only at hSx)
        go_split_ands
        go_simp
        (try with_reducible rfl)
      simp only [List.setIfInBounds_toArray, List.set_cons_zero, List.set_cons_succ]
      refine take_at 9 5 (fuel := 0) ?_ rfl rfl (by kernel_rfl) (by kernel_rfl) (by kernel_rfl) (Or.inl ⟨by rfl, ?_⟩) hSw ?_
      rotate_left
      · intro wx hSx
        (try dsimp only at hSx)
        go_split_ands
        go_simp
        (try with_reducible rfl)
      simp only [List.setIfInBounds_toArray, List.set_cons_zero, List.set_cons_succ]
      refine wpAnyH_done (by kernel_rfl) ⟨rfl, ?_⟩ 0
      go_wp2_with fail
      refine bodyPost_ret (results_tmp2 rfl _ _ _) rfl ⟨g, gd, gt, rfl, new_held hW h1 h2 hg hd ht, gl, gdl, gtl, hB4⟩
  · go_simp
    have hd := Blk.new y0 9 (txs n)
    have hB1 := hB0.alloc hB0.size (.cells (txs n) 9)
    have gdl := hB0.size
    generalize y0.alloc (.cells (txs n) 9) = y1 at *
    generalize y0.heap.size = gd at hd gdl ⊢
    clear hB0
    refine hK.out _ _ trivial (fun hSw => ?_)
    clear hK K
    simp only [List.setIfInBounds_toArray, List.set_cons_zero, List.set_cons_succ]
    refine wpAnyH_ready (fuel := 5) (rs := [1, 5]) (by kernel_rfl) (by simp) (AllReadyH.cons rfl (fun K hK => ?_) (AllReadyH.cons rfl (fun K hK => ?_) AllReadyH.nil))
    · go_simp
      refine Calls.mono (clone_c _ _ hcl) ?_
      rintro e y2 ⟨rfl, hbn⟩
      have hB2 := hB1.trans (hbn.mono hB1.size)
      replace hd := hd.below hbn hd.lt
      clear hbn hB1
      refine hK.out _ _ trivial (fun hSw => ?_)
      clear hK K
      simp only [List.setIfInBounds_toArray, List.set_cons_zero, List.set_cons_succ]
      refine wpAnyH_ready (fuel := 4) (rs := [5]) (by kernel_rfl) (by simp) (AllReadyH.cons rfl (fun K hK => ?_) AllReadyH.nil)
      go_simp
      have ht := Blk.new y2 4 (bls n)
      have hB3 := hB2.alloc hB2.size (.cells (bls n) 4)
      have gtl := hB2.size
      replace hd := hd.alloc (.cells (bls n) 4)
      generalize y2.alloc (.cells (bls n) 4) = y3 at *
      generalize y2.heap.size = gt at ht gtl ⊢
      clear hB2
      refine hK.out _ _ trivial (fun hSw => ?_)
      clear hK K
      simp only [List.setIfInBounds_toArray, List.set_cons_zero, List.set_cons_succ]
      refine take_at 6 23 (fuel := 3) ?_ rfl rfl (by kernel_rfl) (by kernel_rfl) (by kernel_rfl) (Or.inl ⟨by rfl, ?_⟩) hSw ?_
      rotate_left
      · intro wx hSx
        (try dsimp only at hSx)
        go_split_ands
        go_simp
        (try with_reducible rfl)
      simp only [List.setIfInBounds_toArray, List.set_cons_zero, List.set_cons_succ]
      refine wpAnyH_ready (fuel := 2) (rs := [7]) (by kernel_rfl) (by simp) (AllReadyH.cons rfl (fun K hK => ?_) AllReadyH.nil)
      go_simp
      have hg := Blk.new y3 GT #[.string (str W), .slice (some ⟨gd, 0, none⟩) n n, .slice (some ⟨gt, 0, none⟩) n n]
      have hB4 := hB3.alloc hB3.size (.cells #[.string (str W), .slice (some ⟨gd, 0, none⟩) n n, .slice (some ⟨gt, 0, none⟩) n n] GT)
      have gl := hB3.size
      replace hd := hd.alloc (.cells #[.string (str W), .slice (some ⟨gd, 0, none⟩) n n, .slice (some ⟨gt, 0, none⟩) n n] GT)
      replace ht := ht.alloc (.cells #[.string (str W), .slice (some ⟨gd, 0, none⟩) n n, .slice (some ⟨gt, 0, none⟩) n n] GT)
      generalize y3.alloc (.cells #[.string (str W), .slice (some ⟨gd, 0, none⟩) n n, .slice (some ⟨gt, 0, none⟩) n n] GT) = y4 at *
      generalize y3.heap.size = g at hg gl ⊢
      clear hB3
      refine hK.out _ _ trivial (fun hSw => ?_)
      clear hK K
      simp only [List.setIfInBounds_toArray, List.set_cons_zero, List.set_cons_succ]
      refine take_at 8 4 (fuel := 1) ?_ rfl rfl (by kernel_rfl) (by kernel_rfl) (by kernel_rfl) (Or.inl ⟨by rfl, ?_⟩) hSw ?_
      rotate_left
      · intro wx hSx
        (try dsimp only at hSx)
        go_split_ands
        go_simp
        (try with_reducible rfl)
      simp only [List.setIfInBounds_toArray, List.set_cons_zero, List.set_cons_succ]
      refine take_at 9 5 (fuel := 0) ?_ rfl rfl (by kernel_rfl) (by kernel_rfl) (by kernel_rfl) (Or.inl ⟨by rfl, ?_⟩) hSw ?_
      rotate_left
      · intro wx hSx
        (try dsimp only at hSx)
        go_split_ands
        go_simp
        (try with_reducible rfl)
      simp only [List.setIfInBounds_toArray, List.set_cons_zero, List.set_cons_succ]
      refine wpAnyH_done (by kernel_rfl) ⟨rfl, ?_⟩ 0
      go_wp2_with fail
      refine bodyPost_ret (results_tmp2 rfl _ _ _) rfl ⟨g, gd, gt, rfl, new_held hW h1 h2 hg hd ht, gl, gdl, gtl, hB4⟩
    · go_simp
      have ht := Blk.new y1 4 (bls n)
      have hB2 := hB1.alloc hB1.size (.cells (bls n) 4)
      have gtl := hB1.size
      replace hd := hd.alloc (.cells (bls n) 4)
      generalize y1.alloc (.cells (bls n) 4) = y2 at *
      generalize y1.heap.size = gt at ht gtl ⊢
      clear hB1
      refine hK.out _ _ trivial (fun hSw => ?_)
      clear hK K
      simp only [List.setIfInBounds_toArray, List.set_cons_zero, List.set_cons_succ]
      refine wpAnyH_ready (fuel := 4) (rs := [1]) (by kernel_rfl) (by simp) (AllReadyH.cons rfl (fun K hK => ?_) AllReadyH.nil)
      go_simp
      refine Calls.mono (clone_c _ _ hcl) ?_
      rintro e y3 ⟨rfl, hbn⟩
      have hB3 := hB2.trans (hbn.mono hB2.size)
      replace hd := hd.below hbn hd.lt
      replace ht := ht.below hbn ht.lt
      clear hbn hB2
      refine hK.out _ _ trivial (fun hSw => ?_)
      clear hK K
      simp only [List.setIfInBounds_toArray, List.set_cons_zero, List.set_cons_succ]
      refine take_at 6 23 (fuel := 3) ?_ rfl rfl (by kernel_rfl) (by kernel_rfl) (by kernel_rfl) (Or.inl ⟨by rfl, ?_⟩) hSw ?_
      rotate_left
      · intro wx hSx
        (try dsimp only at hSx)
        go_split_ands
        go_simp
        (try with_reducible rfl)
      simp only [List.setIfInBounds_toArray, List.set_cons_zero, List.set_cons_succ]
      refine wpAnyH_ready (fuel := 2) (rs := [7]) (by kernel_rfl) (by simp) (AllReadyH.cons rfl (fun K hK => ?_) AllReadyH.nil)
      go_simp
      have hg := Blk.new y3 GT #[.string (str W), .slice (some ⟨gd, 0, none⟩) n n, .slice (some ⟨gt, 0, none⟩) n n]
      have hB4 := hB3.alloc hB3.size (.cells #[.string (str W), .slice (some ⟨gd, 0, none⟩) n n, .slice (some ⟨gt, 0, none⟩) n n] GT)
      have gl := hB3.size
      replace hd := hd.alloc (.cells #[.string (str W), .slice (some ⟨gd, 0, none⟩) n n, .slice (some ⟨gt, 0, none⟩) n n] GT)
      replace ht := ht.alloc (.cells #[.string (str W), .slice (some ⟨gd, 0, none⟩) n n, .slice (some ⟨gt, 0, none⟩) n n] GT)
      generalize y3.alloc (.cells #[.string (str W), .slice (some ⟨gd, 0, none⟩) n n, .slice (some ⟨gt, 0, none⟩) n n] GT) = y4 at *
      generalize y3.heap.size = g at hg gl ⊢
      clear hB3
      refine hK.out _ _ trivial (fun hSw => ?_)
      clear hK K
      simp only [List.setIfInBounds_toArray, List.set_cons_zero, List.set_cons_succ]
      refine take_at 8 4 (fuel := 1) ?_ rfl rfl (by kernel_rfl) (by kernel_rfl) (by kernel_rfl) (Or.inl ⟨by rfl, ?_⟩) hSw ?_
      rotate_left
      · intro wx hSx
        (try dsimp only at hSx)
        go_split_ands
        go_simp
        (try with_reducible rfl)
      simp only [List.setIfInBounds_toArray, List.set_cons_zero, List.set_cons_succ]
      refine take_at 9 5 (fuel := 0) ?_ rfl rfl (by kernel_rfl) (by kernel_rfl) (by kernel_rfl) (Or.inl ⟨by rfl, ?_⟩) hSw ?_
      rotate_left
      · intro wx hSx
        (try dsimp only at hSx)
        go_split_ands
        go_simp
        (try with_reducible rfl)
      simp only [List.setIfInBounds_toArray, List.set_cons_zero, List.set_cons_succ]
      refine wpAnyH_done (by kernel_rfl) ⟨rfl, ?_⟩ 0
      go_wp2_with fail
      refine bodyPost_ret (results_tmp2 rfl _ _ _) rfl ⟨g, gd, gt, rfl, new_held hW h1 h2 hg hd ht, gl, gdl, gtl, hB4⟩
  · go_simp
    have ht := Blk.new y0 4 (bls n)
    have hB1 := hB0.alloc hB0.size (.cells (bls n) 4)
    have gtl := hB0.size
    generalize y0.alloc (.cells (bls n) 4) = y1 at *
    generalize y0.heap.size = gt at ht gtl ⊢
    clear hB0
    refine hK.out _ _ trivial (fun hSw => ?_)
    clear hK K
    simp only [List.setIfInBounds_toArray, List.set_cons_zero, List.set_cons_succ]
    refine wpAnyH_ready (fuel := 5) (rs := [1, 3]) (by kernel_rfl) (by simp) (AllReadyH.cons rfl (fun K hK => ?_) (AllReadyH.cons rfl (fun K hK => ?_) AllReadyH.nil))
    · go_simp
      refine Calls.mono (clone_c _ _ hcl) ?_
      rintro e y2 ⟨rfl, hbn⟩
      have hB2 := hB1.trans (hbn.mono hB1.size)
      replace ht := ht.below hbn ht.lt
      clear hbn hB1
      refine hK.out _ _ trivial (fun hSw => ?_)
      clear hK K
      simp only [List.setIfInBounds_toArray, List.set_cons_zero, List.set_cons_succ]
      refine wpAnyH_ready (fuel := 4) (rs := [3]) (by kernel_rfl) (by simp) (AllReadyH.cons rfl (fun K hK => ?_) AllReadyH.nil)
      go_simp
      have hd := Blk.new y2 9 (txs n)
      have hB3 := hB2.alloc hB2.size (.cells (txs n) 9)
      have gdl := hB2.size
      replace ht := ht.alloc (.cells (txs n) 9)
      generalize y2.alloc (.cells (txs n) 9) = y3 at *
      generalize y2.heap.size = gd at hd gdl ⊢
      clear hB2
      refine hK.out _ _ trivial (fun hSw => ?_)
      clear hK K
      simp only [List.setIfInBounds_toArray, List.set_cons_zero, List.set_cons_succ]
      refine take_at 6 23 (fuel := 3) ?_ rfl rfl (by kernel_rfl) (by kernel_rfl) (by kernel_rfl) (Or.inl ⟨by rfl, ?_⟩) hSw ?_
      rotate_left
      · intro wx hSx
        (try dsimp only at hSx)
        go_split_ands
        go_simp
        (try with_reducible rfl)
      simp only [List.setIfInBounds_toArray, List.set_cons_zero, List.set_cons_succ]
      refine wpAnyH_ready (fuel := 2) (rs := [7]) (by kernel_rfl) (by simp) (AllReadyH.cons rfl (fun K hK => ?_) AllReadyH.nil)
      go_simp
      have hg := Blk.new y3 GT #[.string (str W), .slice (some ⟨gd, 0, none⟩) n n, .slice (some ⟨gt, 0, none⟩) n n]
      have hB4 := hB3.alloc hB3.size (.cells #[.string (str W), .slice (some ⟨gd, 0, none⟩) n n, .slice (some ⟨gt, 0, none⟩) n n] GT)
      have gl := hB3.size
      replace hd := hd.alloc (.cells #[.string (str W), .slice (some ⟨gd, 0, none⟩) n n, .slice (some ⟨gt, 0, none⟩) n n] GT)
      replace ht := ht.alloc (.cells #[.string (str W), .slice (some ⟨gd, 0, none⟩) n n, .slice (some ⟨gt, 0, none⟩) n n] GT)
      generalize y3.alloc (.cells #[.string (str W), .slice (some ⟨gd, 0, none⟩) n n, .slice (some ⟨gt, 0, none⟩) n n] GT) = y4 at *
      generalize y3.heap.size = g at hg gl ⊢
      clear hB3
      refine hK.out _ _ trivial (fun hSw => ?_)
      clear hK K
      simp only [List.setIfInBounds_toArray, List.set_cons_zero, List.set_cons_succ]
      refine take_at 8 4 (fuel := 1) ?_ rfl rfl (by kernel_rfl) (by kernel_rfl) (by kernel_rfl) (Or.inl ⟨by rfl, ?_⟩) hSw ?_
      rotate_left
      · intro wx hSx
        (try dsimp only at hSx)
        go_split_ands
        go_simp
        (try with_reducible rfl)
      simp only [List.setIfInBounds_toArray, List.set_cons_zero, List.set_cons_succ]
      refine take_at 9 5 (fuel := 0) ?_ rfl rfl (by kernel_rfl) (by kernel_rfl) (by kernel_rfl) (Or.inl ⟨by rfl, ?_⟩) hSw ?_
      rotate_left
      · intro wx hSx
        (try dsimp only at hSx)
        go_split_ands
        go_simp
        (try with_reducible rfl)
      simp only [List.setIfInBounds_toArray, List.set_cons_zero, List.set_cons_succ]
      refine wpAnyH_done (by kernel_rfl) ⟨rfl, ?_⟩ 0
      go_wp2_with fail
      refine bodyPost_ret (results_tmp2 rfl _ _ _) rfl ⟨g, gd, gt, rfl, new_held hW h1 h2 hg hd ht, gl, gdl, gtl, hB4⟩
    · go_simp
      have hd := Blk.new y1 9 (txs n)
      have hB2 := hB1.alloc hB1.size (.cells (txs n) 9)
      have gdl := hB1.size
      replace ht := ht.alloc (.cells (txs n) 9)
      generalize y1.alloc (.cells (txs n) 9) = y2 at *
      generalize y1.heap.size = gd at hd gdl ⊢
      clear hB1
      refine hK.out _ _ trivial (fun hSw => ?_)
      clear hK K
      simp only [List.setIfInBounds_toArray, List.set_cons_zero, List.set_cons_succ]
      refine wpAnyH_ready (fuel := 4) (rs := [1]) (by kernel_rfl) (by simp) (AllReadyH.cons rfl (fun K hK => ?_) AllReadyH.nil)
      go_simp
      refine Calls.mono (clone_c _ _ hcl) ?_
      rintro e y3 ⟨rfl, hbn⟩
      have hB3 := hB2.trans (hbn.mono hB2.size)
      replace hd := hd.below hbn hd.lt
      replace ht := ht.below hbn ht.lt
      clear hbn hB2
      refine hK.out _ _ trivial (fun hSw => ?_)
      clear hK K
      simp only [List.setIfInBounds_toArray, List.set_cons_zero, List.set_cons_succ]
      refine take_at 6 23 (fuel := 3) ?_ rfl rfl (by kernel_rfl) (by kernel_rfl) (by kernel_rfl) (Or.inl ⟨by rfl, ?_⟩) hSw ?_
      rotate_left
      · intro wx hSx
        (try dsimp only at hSx)
        go_split_ands
        go_simp
        (try with_reducible rfl)
      simp only [List.setIfInBounds_toArray, List.set_cons_zero, List.set_cons_succ]
      refine wpAnyH_ready (fuel := 2) (rs := [7]) (by kernel_rfl) (by simp) (AllReadyH.cons rfl (fun K hK => ?_) AllReadyH.nil)
      go_simp
      have hg := Blk.new y3 GT #[.string (str W), .slice (some ⟨gd, 0, none⟩) n n, .slice (some ⟨gt, 0, none⟩) n n]
      have hB4 := hB3.alloc hB3.size (.cells #[.string (str W), .slice (some ⟨gd, 0, none⟩) n n, .slice (some ⟨gt, 0, none⟩) n n] GT)
      have gl := hB3.size
      replace hd := hd.alloc (.cells #[.string (str W), .slice (some ⟨gd, 0, none⟩) n n, .slice (some ⟨gt, 0, none⟩) n n] GT)
      replace ht := ht.alloc (.cells #[.string (str W), .slice (some ⟨gd, 0, none⟩) n n, .slice (some ⟨gt, 0, none⟩) n n] GT)
      generalize y3.alloc (.cells #[.string (str W), .slice (some ⟨gd, 0, none⟩) n n, .slice (some ⟨gt, 0, none⟩) n n] GT) = y4 at *
      generalize y3.heap.size = g at hg gl ⊢
      clear hB3
      refine hK.out _ _ trivial (fun hSw => ?_)
      clear hK K
      simp only [List.setIfInBounds_toArray, List.set_cons_zero, List.set_cons_succ]
      refine take_at 8 4 (fuel := 1) ?_ rfl rfl (by kernel_rfl) (by kernel_rfl) (by kernel_rfl) (Or.inl ⟨by rfl, ?_⟩) hSw ?_
      rotate_left
      · intro wx hSx
        (try dsimp only at hSx)
        go_split_ands
        go_simp
        (try with_reducible rfl)
      simp only [List.setIfInBounds_toArray, List.set_cons_zero, List.set_cons_succ]
      refine take_at 9 5 (fuel := 0) ?_ rfl rfl (by kernel_rfl) (by kernel_rfl) (by kernel_rfl) (Or.inl ⟨by rfl, ?_⟩) hSw ?_
      rotate_left
      · intro wx hSx
        (try dsimp only at hSx)
        go_split_ands
        go_simp
        (try with_reducible rfl)
      simp only [List.setIfInBounds_toArray, List.set_cons_zero, List.set_cons_succ]
      refine wpAnyH_done (by kernel_rfl) ⟨rfl, ?_⟩ 0
      go_wp2_with fail
      refine bodyPost_ret (results_tmp2 rfl _ _ _) rfl ⟨g, gd, gt, rfl, new_held hW h1 h2 hg hd ht, gl, gdl, gtl, hB4⟩
theorem new_no {W : Bs} (_hl : W.length ≤ maxLen) {n : Int} (h : W.length ≠ 32 ∨ n < 1 ∨ 8192 < n) (w : World) : Calls Tryd.prog 10 #[.string (str W), .int .i64 n] w fun e w' => e = .returned (.tuple #[nilG, .int .i64 1]) ∧ w = w' := by
  have hsz := str_size
  by_cases e0 : W.length = 32
  · have f0 : ((W.length : Int) != 32) = false := by rw [e0]; rfl
    by_cases e1 : n < 1
    · have f1 : decide (n < 1) = true := decide_eq_true e1
      clear h e0
      go_enter Tryd.func10, Tryd.ntmps10
      go_wp2_with fail
      exact bodyPost_ret (results_tmp2 rfl _ _ _) rfl ⟨rfl, rfl⟩
    · have f1 : decide (n < 1) = false := decide_eq_false e1
      have f2 : decide (8192 < n) = true := decide_eq_true (by omega)
      clear h e0
      go_enter Tryd.func10, Tryd.ntmps10
      go_wp2_with fail
      exact bodyPost_ret (results_tmp2 rfl _ _ _) rfl ⟨rfl, rfl⟩
  · have f0 : ((W.length : Int) != 32) = true := by simp only [bne_iff_ne, ne_eq]; omega
    clear h e0
    go_enter Tryd.func10, Tryd.ntmps10
    go_wp2_with fail
    exact bodyPost_ret (results_tmp2 rfl _ _ _) rfl ⟨rfl, rfl⟩
end
end Go.Proofs.YtccaomaobokldaaDoor.Snapy
