/- Layer 13: what its law plays with: something is done to both. No condition. -/
import Derived.Test.YtajpmlmacnomfaaLogCalls
import Derived.Test.YtajpmlmacnomfaaBits
import Derived.Test.YtajpmlmacnomfaaKit
import Derived.Test.YtajpmlmacnomfaaLogAwake
import Derived.Test.YtajpmlmacnomfaaLogOpen
import Derived.Test.YtajpmlmacnomfaaRows
import Derived.Test.YtajpmlmacnomfaaRegion
import Derived.Test.YtajpmlmacnomfaaRegionK
import Derived.Test.YtajpmlmacnomfaaLogSide
import Derived.Deep.DeepCutAuto
import Derived.Lib.Hide
import Derived.BigQuiet
namespace Go.Proofs.Ytajpmlmacnomfaa.Logy
open Go.ChangeShapes Go.WideShapes Go.ChangeAt Go.RowKit
open Wirey (Blk Row str str_size str_list str_cat Kp)
open Regy Slsy

theorem sl_full {base most : Nat} {l : List Rc} {x : Rc} (hx : x.seq = base + l.length + 1) (hm : most ≤ l.length) : slE base l x = 0 ∧ slB base most l x = base + 1 ∧ slL base most l x = l.drop 1 ++ [x] := by
  unfold slE slB slL
  have hn : ¬ (x.seq ≠ base + l.length + 1) := by omega
  rw [if_neg hn, if_neg hn, if_neg hn, if_pos hm, if_pos hm, List.drop_one]; exact ⟨rfl, rfl, rfl⟩
theorem sl_room {base most : Nat} {l : List Rc} {x : Rc} (hx : x.seq = base + l.length + 1) (hm : ¬ most ≤ l.length) : slE base l x = 0 ∧ slB base most l x = base ∧ slL base most l x = l ++ [x] := by
  unfold slE slB slL
  have hn : ¬ (x.seq ≠ base + l.length + 1) := by omega
  rw [if_neg hn, if_neg hn, if_neg hn, if_neg hm, if_neg hm]; exact ⟨rfl, rfl, rfl⟩
theorem add_full {base most : Nat} {l : List Rc} {x : Rc} (hx : x.seq = base + l.length + 1) (hm : most ≤ l.length) : addE base most l x = 130 ∧ addL base most l x = l := by
  unfold addE addL
  have hn : ¬ (x.seq ≠ base + l.length + 1) := by omega
  rw [if_neg hn, if_pos hm, if_neg hn, if_pos hm]; exact ⟨rfl, rfl⟩
theorem results_row_tmp {fn : Func} {p t : Tmp} {ty : TypeId} {P : Program} (h : fn.results = #[.cell p ty, .tmp t]) (tmps : Array Value) (w : World) (g : Nat) {cs : Array Value}
    (hp : tmps.getD p undef = .pointer (some ⟨g, 0, none⟩)) (hl : (loadVar ty ⟨g, 0, none⟩).run P w = .ok (.agg cs) w) :
    (results fn tmps).run P w = .ok (.tuple #[.agg cs, tmps.getD t undef]) w := by
  have hp' : tmps[p]?.getD undef = .pointer (some ⟨g, 0, none⟩) := by simpa using hp
  simp [results, h, hp', asAddr, Result.andThen, hl]
set_option maxHeartbeats 8000000 in
set_option maxRecDepth 100000 in
theorem mdo_c {w0 w : World} {P : Nat → Prop} {b base most : Nat} {l : List Rc} {v : Value} (kd : Int) (at_ num : Nat) (hat : at_ < 18446744073709551616) (_hnum : num < 18446744073709551616) (hbl : base + l.length ≤ 100000) (hH : HeldL w0 w P b base most l) (hv : Vw w Rc.enc 9 v l) (hno : ∀ g, v.ownBlock = some g → ¬ P g) :
    Calls Try.prog 10 #[.agg #[.int .u64 (base : Int), v, .int .i64 (most : Int)], lp b, .agg #[.int .i64 kd, .int .u64 (at_ : Int), .int .u64 (num : Int)]] w fun e w' => ∃ (P' : Nat → Prop) (base' : Nat) (l' : List Rc) (v' : Value), e = .returned (.tuple #[.agg #[.int .u64 (base' : Int), v', .int .i64 (most : Int)], .bool true]) ∧ HeldL w0 w' P' b base' most l' ∧ Vw w' Rc.enc 9 v' l' ∧ (∀ g, v'.ownBlock = some g → ¬ P' g) ∧ Mv P P' w w' ∧ base' + l'.length ≤ base + l.length + 1 ∧ (∀ g, v'.ownBlock = some g → v.ownBlock = some g ∨ w.heap.size ≤ g) := by
  obtain ⟨i0, hi0, hz0, hz1, hz2⟩ : ∃ i0, Try.prog.info? 43 = some i0 ∧ i0.zero = some (.agg #[.int .u64 0, .int .u64 0, .int .u64 0, .int .u64 0, .int .i64 0, .string ⟨#[]⟩, .string ⟨#[]⟩, .int .u64 0, .int .u64 0]) ∧ i0.size = 9 ∧ i0.bytes = 88 := by
    have h := rec_info
    cases hh : Try.prog.info? 43 with
    | none => rw [hh] at h; cases h
    | some i => rw [hh] at h; injection h with h; injection h with h1 h2; injection h2 with h2 h3; exact ⟨i, rfl, h1, h2, h3⟩
  obtain ⟨va, vc, rfl, hvc1, hvc2⟩ := hv.form
  have hle := hH.le
  have s1 : (w.alloc (.cells #[.int .u64 (base : Int), .slice va l.length vc, .int .i64 (most : Int)] 30)).heap.size = w.heap.size + 1 := by simp
  have s2 : ((w.alloc (.cells #[.int .u64 (base : Int), .slice va l.length vc, .int .i64 (most : Int)] 30)).alloc (.cells #[.int .i64 kd, .int .u64 (at_ : Int), .int .u64 (num : Int)] 35)).heap.size = w.heap.size + 2 := by simp
  have hbm := ((Blk.new w 30 #[.int .u64 (base : Int), .slice va l.length vc, .int .i64 (most : Int)]).alloc (.cells #[.int .i64 kd, .int .u64 (at_ : Int), .int .u64 (num : Int)] 35)).alloc (.cells #[.int .u64 0, .slice none 0 0, .int .i64 0] 30)
  have hba := (Blk.new (w.alloc (.cells #[.int .u64 (base : Int), .slice va l.length vc, .int .i64 (most : Int)] 30)) 35 #[.int .i64 kd, .int .u64 (at_ : Int), .int .u64 (num : Int)]).alloc (.cells #[.int .u64 0, .slice none 0 0, .int .i64 0] 30)
  rw [s1] at hba
  have hbr := Blk.new ((w.alloc (.cells #[.int .u64 (base : Int), .slice va l.length vc, .int .i64 (most : Int)] 30)).alloc (.cells #[.int .i64 kd, .int .u64 (at_ : Int), .int .u64 (num : Int)] 35)) 30 #[.int .u64 0, .slice none 0 0, .int .i64 0]
  rw [s2] at hbr
  have hb2 := (((Below.refl _ w).alloc (Nat.le_refl _) (.cells #[.int .u64 (base : Int), .slice va l.length vc, .int .i64 (most : Int)] 30)).alloc (by simp) (.cells #[.int .i64 kd, .int .u64 (at_ : Int), .int .u64 (num : Int)] 35)).alloc (by rw [s2]; omega) (.cells #[.int .u64 0, .slice none 0 0, .int .i64 0] 30)
  go_enter Try.func10, Try.ntmps10
  go_upto_region 1 with (fail)
  generalize ((w.alloc (.cells #[.int .u64 (base : Int), .slice va l.length vc, .int .i64 (most : Int)] 30)).alloc (.cells #[.int .i64 kd, .int .u64 (at_ : Int), .int .u64 (num : Int)] 35)).alloc (.cells #[.int .u64 0, .slice none 0 0, .int .i64 0] 30) = w2 at *
  clear s1 s2
  have hH2 := hH.below hb2
  have hv2 := hv.below hb2
  have hw1 : IntKind.u64.wrap ((base : Int) + (l.length : Int) + 1) = (base : Int) + (l.length : Int) + 1 := by rw [IntKind.wrap_u64]; omega
  go_cut [8] from 11 (fun s8 wx => ∃ XB, s8 = .pointer (some ⟨XB, 0, none⟩) ∧ w2.heap.size ≤ XB ∧ Blk wx XB 43 #[.int .u64 ((base : Int) + (l.length : Int) + 1), .int .u64 0, .int .u64 0, .int .u64 (num : Int), .int .i64 0, .string ⟨#[]⟩, .string ⟨#[]⟩, .int .u64 0, .int .u64 0] ∧ Below w2.heap.size w2 wx)
  case first =>
    have cs : ∀ {W : World}, Below w2.heap.size w2 W → (fun W => W.cell? ⟨w.heap.size, 0, none⟩ = some (.int .u64 (base : Int)) ∧ W.cell? ⟨w.heap.size, 1, none⟩ = some (.slice va l.length vc) ∧ W.cell? ⟨w.heap.size, 2, none⟩ = some (.int .i64 (most : Int)) ∧ W.cell? ⟨w.heap.size + 1, 2, none⟩ = some (.int .u64 (num : Int)) ∧ Below w2.heap.size w2 W) W := fun {W} hW => ⟨(hbm.below hW hbm.lt).cell 0, (hbm.below hW hbm.lt).cell 1, (hbm.below hW hbm.lt).cell 2, (hba.below hW hba.lt).cell 2, hW⟩
    have hlast := fun W => mlast_c (base := base) (most := most) (a := va) (n := l.length) (c := vc) (by omega) (by omega) W
    have h1 := cs (Below.refl w2.heap.size w2).drew
    dsimp only at h1
    refine region_only 8 #[false, false, false, false, false, false, false, false] (S := (fun W => W.cell? ⟨w.heap.size, 0, none⟩ = some (.int .u64 (base : Int)) ∧ W.cell? ⟨w.heap.size, 1, none⟩ = some (.slice va l.length vc) ∧ W.cell? ⟨w.heap.size, 2, none⟩ = some (.int .i64 (most : Int)) ∧ W.cell? ⟨w.heap.size + 1, 2, none⟩ = some (.int .u64 (num : Int)) ∧ Below w2.heap.size w2 W)) rfl rfl (by kernel_rfl) h1 (fun hSw => ?_)
    refine take_at 0 11 (fuel := 7) ?_ rfl rfl (by kernel_rfl) (by kernel_rfl) (by kernel_rfl) (Or.inl ⟨by rfl, ?_⟩) hSw ?_
    rotate_left
    · intro wx hSx
      (try dsimp only at hSx)
      go_split_ands
      go_simp
      (try with_reducible rfl)
    simp only [List.setIfInBounds_toArray, List.set_cons_zero, List.set_cons_succ]
    refine take_at 3 14 (fuel := 6) ?_ rfl rfl (by kernel_rfl) (by kernel_rfl) (by kernel_rfl) (Or.inl ⟨by rfl, ?_⟩) hSw ?_
    rotate_left
    · intro wx hSx
      (try dsimp only at hSx)
      go_split_ands
      go_simp
      (try with_reducible rfl)
    simp only [List.setIfInBounds_toArray, List.set_cons_zero, List.set_cons_succ]
    refine take_at 4 15 (fuel := 5) ?_ rfl rfl (by kernel_rfl) (by kernel_rfl) (by kernel_rfl) (Or.inl ⟨by rfl, ?_⟩) hSw ?_
    rotate_left
    · intro wx hSx
      (try dsimp only at hSx)
      go_split_ands
      go_simp
      (try with_reducible rfl)
    simp only [List.setIfInBounds_toArray, List.set_cons_zero, List.set_cons_succ]
    refine wpAnyH_ready (fuel := 4) (rs := [1, 6]) (by kernel_rfl) (by simp) (AllReadyH.cons rfl (fun K hK => ?_) (AllReadyH.cons rfl (fun K hK => ?_) AllReadyH.nil))
    · skip
      go_simp
      refine Calls.mono (hlast _) ?_
      rintro e wv ⟨rfl, hwv⟩
      refine hK.out _ _ (cs (hSw.2.2.2.2.trans (hwv.mono hSw.2.2.2.2.size))) (fun hSw => ?_)
      clear hK K
      simp only [List.setIfInBounds_toArray, List.set_cons_zero, List.set_cons_succ]
      refine take_at 2 13 (fuel := 3) ?_ rfl rfl (by kernel_rfl) (by kernel_rfl) (by kernel_rfl) (Or.inl ⟨by rfl, ?_⟩) hSw ?_
      rotate_left
      · intro wx hSx
        (try dsimp only at hSx)
        go_split_ands
        go_simp
        (try with_reducible rfl)
      simp only [List.setIfInBounds_toArray, List.set_cons_zero, List.set_cons_succ]
      refine take_at 5 16 (fuel := 2) ?_ rfl rfl (by kernel_rfl) (by kernel_rfl) (by kernel_rfl) (Or.inl ⟨by rfl, ?_⟩) hSw ?_
      rotate_left
      · intro wx hSx
        (try dsimp only at hSx)
        go_split_ands
        go_simp
        (try with_reducible rfl)
      simp only [List.setIfInBounds_toArray, List.set_cons_zero, List.set_cons_succ]
      refine wpAnyH_ready (fuel := 1) (rs := [6]) (by kernel_rfl) (by simp) (AllReadyH.cons rfl (fun K hK => ?_) AllReadyH.nil)
      go_simp
      have hbz := hSw.2.2.2.2.alloc hSw.2.2.2.2.size (.cells #[.int .u64 0, .int .u64 0, .int .u64 0, .int .u64 0, .int .i64 0, .string ⟨#[]⟩, .string ⟨#[]⟩, .int .u64 0, .int .u64 0] 43)
      have hX0 := Blk.new wv 43 #[.int .u64 0, .int .u64 0, .int .u64 0, .int .u64 0, .int .i64 0, .string ⟨#[]⟩, .string ⟨#[]⟩, .int .u64 0, .int .u64 0]
      have hXB := hSw.2.2.2.2.size
      refine hK.out _ _ (cs hbz) (fun hSw => ?_)
      clear hK K
      simp only [List.setIfInBounds_toArray, List.set_cons_zero, List.set_cons_succ]
      generalize wv.alloc (.cells #[.int .u64 0, .int .u64 0, .int .u64 0, .int .u64 0, .int .i64 0, .string ⟨#[]⟩, .string ⟨#[]⟩, .int .u64 0, .int .u64 0] 43) = wz at *
      generalize wv.heap.size = XB at *
      have z0 := hX0.free 0
      have z1 := hX0.free 1
      have z2 := hX0.free 2
      have z3 := hX0.free 3
      have z4 := hX0.free 4
      have z5 := hX0.free 5
      have z6 := hX0.free 6
      have z7 := hX0.free 7
      have z8 := hX0.free 8
      have c0 := hX0.cell 0
      have c1 := hX0.cell 1
      have c2 := hX0.cell 2
      have c3 := hX0.cell 3
      have c4 := hX0.cell 4
      have c5 := hX0.cell 5
      have c6 := hX0.cell 6
      have c7 := hX0.cell 7
      have c8 := hX0.cell 8
      simp only [List.getElem?_toArray, List.getElem?_cons_zero, List.getElem?_cons_succ] at c0 c1 c2 c3 c4 c5 c6 c7 c8
      have hXX := (((((((((hX0.put 0 (.int .u64 ((base : Int) + (l.length : Int) + 1))).put 1 (.int .u64 0)).put 2 (.int .u64 0)).put 3 (.int .u64 (num : Int))).put 4 (.int .i64 0)).put 5 (.string ⟨#[]⟩)).put 6 (.string ⟨#[]⟩)).put 7 (.int .u64 0)).put 8 (.int .u64 0))
      simp only [List.setIfInBounds_toArray, List.set_cons_zero, List.set_cons_succ] at hXX
      have hBB := (((((((((hbz.setCell (p := ⟨XB, 0, none⟩) hXB (.int .u64 ((base : Int) + (l.length : Int) + 1))).setCell (p := ⟨XB, 1, none⟩) hXB (.int .u64 0)).setCell (p := ⟨XB, 2, none⟩) hXB (.int .u64 0)).setCell (p := ⟨XB, 3, none⟩) hXB (.int .u64 (num : Int))).setCell (p := ⟨XB, 4, none⟩) hXB (.int .i64 0)).setCell (p := ⟨XB, 5, none⟩) hXB (.string ⟨#[]⟩)).setCell (p := ⟨XB, 6, none⟩) hXB (.string ⟨#[]⟩)).setCell (p := ⟨XB, 7, none⟩) hXB (.int .u64 0)).setCell (p := ⟨XB, 8, none⟩) hXB (.int .u64 0))
      have HX := Lib.hid hXX
      have HB := Lib.hid hBB
      clear hXX hBB
      refine wpAnyH_ready (fuel := 0) (rs := [7]) (by kernel_rfl) (by simp) (AllReadyH.cons rfl (fun K hK => ?_) AllReadyH.nil)
      go_simp
      refine hK.out _ _ (cs HB.out) (fun hSw => ?_)
      clear hK K
      simp only [List.setIfInBounds_toArray, List.set_cons_zero, List.set_cons_succ]
      refine wpAnyH_done (by kernel_rfl) ⟨rfl, ?_⟩ 0
      go_wp2_with fail
      go_meet
      exact ⟨XB, rfl, hXB, HX.out, HB.out⟩
    · skip
      go_simp
      have hbz := hSw.2.2.2.2.alloc hSw.2.2.2.2.size (.cells #[.int .u64 0, .int .u64 0, .int .u64 0, .int .u64 0, .int .i64 0, .string ⟨#[]⟩, .string ⟨#[]⟩, .int .u64 0, .int .u64 0] 43)
      have hX0 := Blk.new w2.drew 43 #[.int .u64 0, .int .u64 0, .int .u64 0, .int .u64 0, .int .i64 0, .string ⟨#[]⟩, .string ⟨#[]⟩, .int .u64 0, .int .u64 0]
      have hXB := hSw.2.2.2.2.size
      refine hK.out _ _ (cs hbz) (fun hSw => ?_)
      clear hK K
      simp only [List.setIfInBounds_toArray, List.set_cons_zero, List.set_cons_succ]
      generalize hWW : (w2.alloc (.cells #[.int .u64 0, .int .u64 0, .int .u64 0, .int .u64 0, .int .i64 0, .string ⟨#[]⟩, .string ⟨#[]⟩, .int .u64 0, .int .u64 0] 43)).drew = wy at *
      have hX1 : Blk wy w2.heap.size 43 #[.int .u64 0, .int .u64 0, .int .u64 0, .int .u64 0, .int .i64 0, .string ⟨#[]⟩, .string ⟨#[]⟩, .int .u64 0, .int .u64 0] := hWW ▸ hX0
      have hbz1 : Below w2.heap.size w2 wy := hWW ▸ hbz
      have hXB1 : w2.heap.size ≤ w2.heap.size := Nat.le_refl _
      clear hX0 hbz hXB hWW
      skip
      refine wpAnyH_ready (fuel := 3) (rs := [1]) (by kernel_rfl) (by simp) (AllReadyH.cons rfl (fun K hK => ?_) AllReadyH.nil)
      go_simp
      refine Calls.mono (hlast _) ?_
      rintro e wv ⟨rfl, hwv⟩
      have hbz := hbz1.trans (hwv.mono hbz1.size)
      have hX0 := hX1.below hwv hX1.lt
      refine hK.out _ _ (cs hbz) (fun hSw => ?_)
      clear hK K
      simp only [List.setIfInBounds_toArray, List.set_cons_zero, List.set_cons_succ]
      generalize wv = wz at *
      have hXB : w2.heap.size ≤ w2.heap.size := Nat.le_refl _
      refine take_at 2 13 (fuel := 2) ?_ rfl rfl (by kernel_rfl) (by kernel_rfl) (by kernel_rfl) (Or.inl ⟨by rfl, ?_⟩) hSw ?_
      rotate_left
      · intro wx hSx
        (try dsimp only at hSx)
        go_split_ands
        go_simp
        (try with_reducible rfl)
      simp only [List.setIfInBounds_toArray, List.set_cons_zero, List.set_cons_succ]
      refine take_at 5 16 (fuel := 1) ?_ rfl rfl (by kernel_rfl) (by kernel_rfl) (by kernel_rfl) (Or.inl ⟨by rfl, ?_⟩) hSw ?_
      rotate_left
      · intro wx hSx
        (try dsimp only at hSx)
        go_split_ands
        go_simp
        (try with_reducible rfl)
      simp only [List.setIfInBounds_toArray, List.set_cons_zero, List.set_cons_succ]
      have z0 := hX0.free 0
      have z1 := hX0.free 1
      have z2 := hX0.free 2
      have z3 := hX0.free 3
      have z4 := hX0.free 4
      have z5 := hX0.free 5
      have z6 := hX0.free 6
      have z7 := hX0.free 7
      have z8 := hX0.free 8
      have c0 := hX0.cell 0
      have c1 := hX0.cell 1
      have c2 := hX0.cell 2
      have c3 := hX0.cell 3
      have c4 := hX0.cell 4
      have c5 := hX0.cell 5
      have c6 := hX0.cell 6
      have c7 := hX0.cell 7
      have c8 := hX0.cell 8
      simp only [List.getElem?_toArray, List.getElem?_cons_zero, List.getElem?_cons_succ] at c0 c1 c2 c3 c4 c5 c6 c7 c8
      have hXX := (((((((((hX0.put 0 (.int .u64 ((base : Int) + (l.length : Int) + 1))).put 1 (.int .u64 0)).put 2 (.int .u64 0)).put 3 (.int .u64 (num : Int))).put 4 (.int .i64 0)).put 5 (.string ⟨#[]⟩)).put 6 (.string ⟨#[]⟩)).put 7 (.int .u64 0)).put 8 (.int .u64 0))
      simp only [List.setIfInBounds_toArray, List.set_cons_zero, List.set_cons_succ] at hXX
      have hBB := (((((((((hbz.setCell (p := ⟨w2.heap.size, 0, none⟩) hXB (.int .u64 ((base : Int) + (l.length : Int) + 1))).setCell (p := ⟨w2.heap.size, 1, none⟩) hXB (.int .u64 0)).setCell (p := ⟨w2.heap.size, 2, none⟩) hXB (.int .u64 0)).setCell (p := ⟨w2.heap.size, 3, none⟩) hXB (.int .u64 (num : Int))).setCell (p := ⟨w2.heap.size, 4, none⟩) hXB (.int .i64 0)).setCell (p := ⟨w2.heap.size, 5, none⟩) hXB (.string ⟨#[]⟩)).setCell (p := ⟨w2.heap.size, 6, none⟩) hXB (.string ⟨#[]⟩)).setCell (p := ⟨w2.heap.size, 7, none⟩) hXB (.int .u64 0)).setCell (p := ⟨w2.heap.size, 8, none⟩) hXB (.int .u64 0))
      have HX := Lib.hid hXX
      have HB := Lib.hid hBB
      clear hXX hBB
      refine wpAnyH_ready (fuel := 0) (rs := [7]) (by kernel_rfl) (by simp) (AllReadyH.cons rfl (fun K hK => ?_) AllReadyH.nil)
      go_simp
      refine hK.out _ _ (cs HB.out) (fun hSw => ?_)
      clear hK K
      simp only [List.setIfInBounds_toArray, List.set_cons_zero, List.set_cons_succ]
      refine wpAnyH_done (by kernel_rfl) ⟨rfl, ?_⟩ 0
      go_wp2_with fail
      go_meet
      exact ⟨w2.heap.size, rfl, hXB, HX.out, HB.out⟩
  case rest =>
    obtain ⟨XB, rfl, hXB, hX3, hB3⟩ := hcut
    have hlow : ∀ k, P k → k < w.heap.size := fun k hp => (hH.low k hp).2
    have hvlt := hv.lt
    have hml := hbm.lt
    have hal := hba.lt
    have hrl := hbr.lt
    obtain ⟨s, hs⟩ : ∃ s, s = base + l.length + 1 := ⟨_, rfl⟩
    have hsI : (base : Int) + (l.length : Int) + 1 = (s : Int) := by omega
    rw [hsI] at hX3 hw1
    have hD : Do w0 w _ P P b base most l w.heap.size XB base (.slice va l.length vc) l s num := ⟨hH2.below hB3, Mv.none (hb2.trans (hB3.mono hb2.size)), hbm.below hB3 hml, hbr.below hB3 hrl, hX3, hv2.below hB3, fun g hg => by have := hvlt g hg; exact ⟨hno g hg, by omega, by omega, by omega⟩, ⟨Nat.le_refl _, by omega, by omega, by omega, by omega⟩, ⟨fun hp => by have := hlow _ hp; omega, fun hp => by have := hlow _ hp; omega, fun hp => by have := hlow _ hp; omega⟩⟩
    have hA3 := hba.below hB3 hal
    have hAP : ¬ P (w.heap.size + 1) := fun hp => by have := hlow _ hp; omega
    have hlast := fun W => mlast_c (base := base) (most := most) (a := va) (n := l.length) (c := vc) (by omega) (by omega) W
    have a0 := hA3.cell 0
    have a1 := hA3.cell 1
    simp only [List.getElem?_toArray, List.getElem?_cons_zero, List.getElem?_cons_succ] at a0 a1
    clear hX3 hB3 hbm hba hbr hb2 hH2 hv2 hml hrl hXB
    have hslt : s < 18446744073709551616 := by omega
    by_cases k4 : kd = 4
    · subst k4
      go_wp2_with fail
      refine (cut_c at_ hat (by omega) hD.held).mono ?_
      rintro e w4 ⟨rfl, P4, hH4, hM4⟩
      have D1 := hD.prog hH4 hM4
      have a1' := (World.cell?_of_block (a := ⟨w.heap.size + 1, 1, none⟩) (hM4.kp.block (w.heap.size + 1) hA3.lt hAP)).trans a1
      clear hH4 hM4 hD a0 a1
      have m0 := D1.bm.cell 0
      have m1 := D1.bm.cell 1
      have m2 := D1.bm.cell 2
      simp only [List.getElem?_toArray, List.getElem?_cons_zero, List.getElem?_cons_succ] at m0 m1 m2
      go_wp2_with fail
      refine (mcut_c at_ hat (by omega) (by omega) _ D1.vw).mono ?_
      rintro e w5 ⟨v5, rfl, hv5, ho5, hbn⟩
      have D2 := D1.below hbn
      have hno5 := D1.no
      clear D1 hbn m0 m1 m2
      have hcl : (l.drop (cutN base at_ l)).length + (base + cutN base at_ l) = base + l.length := by rw [List.length_drop]; unfold cutN; omega
      generalize base + cutN base at_ l = B3 at *
      generalize l.drop (cutN base at_ l) = l3 at *
      obtain ⟨a5, c5, rfl, -, -⟩ := hv5.form
      have r0 := D2.br.cell 0
      have r1 := D2.br.cell 1
      have r2 := D2.br.cell 2
      have rf0 := D2.br.free 0
      have rf1 := D2.br.free 1
      have rf2 := D2.br.free 2
      simp only [List.getElem?_toArray, List.getElem?_cons_zero, List.getElem?_cons_succ] at r0 r1 r2
      have hoX : ∀ g, (.slice a5 l3.length c5 : Value).ownBlock = some g → ¬ P4 g ∧ g ≠ w.heap.size + 2 := (fun g hg => by rw [ho5] at hg; exact ⟨(hno5 g hg).1, (hno5 g hg).2.2.1⟩)
      obtain ⟨hT, hHo, hVo, hMo⟩ := D2.out (u := .int .u64 (B3 : Int)) (B3 := B3) (l3 := l3) hv5 hoX rfl
      have hN3 : ∀ g, (.slice a5 l3.length c5 : Value).ownBlock = some g → ¬ P4 g := fun g hg => (hoX g hg).1
      have HT := Lib.hid hT
      have HH := Lib.hid hHo
      have HV := Lib.hid hVo
      have HM := Lib.hid hMo
      have HN := Lib.hid hN3
      have hbd : B3 + (l3).length ≤ base + l.length + 1 := by omega
      have HBD := Lib.hid hbd
      have hs9 : ∀ g, (.slice a5 l3.length c5 : Value).ownBlock = some g → (Value.slice va l.length vc).ownBlock = some g ∨ w.heap.size ≤ g := fun g hg => Or.inl (ho5.symm.trans hg)
      have HS9 := Lib.hid hs9
      clear hs9
      clear hT hHo hVo hMo hN3 hbd hoX D2
      go_wp2_with fail
      refine bodyPost_ret (results_row_tmp rfl _ _ (w.heap.size + 2) rfl (run_loadVar_row _ _ _ _ _ _ _ HT.out Try.underlying30 rfl (by kernel_rfl))) rfl ⟨_, B3, l3, .slice a5 l3.length c5, ?_, HH.out, HV.out, HN.out, HM.out, HBD.out, HS9.out⟩
      rfl
    have HS := Lib.hid hs
    have hsl9 : s ≤ 200000 := by omega
    clear hs
    have q4 : (kd == 4) = false := beq_eq_false_iff_ne.2 k4
    by_cases k5 : kd = 5
    · subst k5
      go_upto_region 9 with (fail)
      clear a0 a1 hA3
      by_cases hfull : most ≤ l.length
      · skip
        have x0 := hD.bx.cell 0
        have x1 := hD.bx.cell 1
        have x2 := hD.bx.cell 2
        have x3 := hD.bx.cell 3
        have x4 := hD.bx.cell 4
        have x5 := hD.bx.cell 5
        have x6 := hD.bx.cell 6
        have x7 := hD.bx.cell 7
        have x8 := hD.bx.cell 8
        have xf0 := hD.bx.free 0
        simp only [List.getElem?_toArray, List.getElem?_cons_zero, List.getElem?_cons_succ] at x0 x1 x2 x3 x4 x5 x6 x7 x8
        have hsl := slide_c (Rc.of s num) hslt (by omega) hD.held
        obtain ⟨e1, e2, e3⟩ : slE base l (Rc.of s num) = 0 ∧ slB base most l (Rc.of s num) = base + 1 ∧ slL base most l (Rc.of s num) = l.drop 1 ++ [Rc.of s num] := sl_full (show s = _ from HS.out) hfull
        rw [e1, e2, e3] at hsl
        clear e1 e2 e3
        go_wp2_with fail
        refine Calls.mono hsl ?_
        rintro e w4 ⟨rfl, P4, hH4, hM4⟩
        have D1 := hD.prog hH4 hM4
        clear hsl hM4 hH4 hD x0 x1 x2 x3 x4 x5 x6 x7 x8 xf0
        have m0 := D1.bm.cell 0
        have m1 := D1.bm.cell 1
        have m2 := D1.bm.cell 2
        simp only [List.getElem?_toArray, List.getElem?_cons_zero, List.getElem?_cons_succ] at m0 m1 m2
        have dge : decide ((most : Int) ≤ (l.length : Int)) = true := decide_eq_true (by omega)
        have hw9 : IntKind.u64.wrap ((base : Int) + 1) = (base : Int) + 1 := by rw [IntKind.wrap_u64]; omega
        have hcutc : Calls Try.prog 19 #[.agg #[.int .u64 (base : Int), .slice va l.length vc, .int .i64 (most : Int)], .int .u64 ((base : Int) + 1)] w4 fun e w' => ∃ v', e = .returned (.agg #[.int .u64 ((base + cutN base (base + 1) l : Nat) : Int), v', .int .i64 (most : Int)]) ∧ Vw w' Rc.enc 9 v' (l.drop (cutN base (base + 1) l)) ∧ v'.ownBlock = (Value.slice va l.length vc).ownBlock ∧ Below w4.heap.size w4 w' := by
          have e : ((base + 1 : Nat) : Int) = (base : Int) + 1 := by omega
          rw [← e]
          exact mcut_c (base + 1) (by omega) (by omega) (by omega) w4 D1.vw
        have hc1 : cutN base (base + 1) l = 1 := by unfold cutN; omega
        rw [hc1] at hcutc
        have hl3 : (l.drop 1).length + 1 = l.length := by rw [List.length_drop]; omega
        obtain ⟨l3, hl3e⟩ : ∃ l3, l3 = l.drop 1 := ⟨_, rfl⟩
        obtain ⟨Bq, hBq⟩ : ∃ Bq, Bq = base + 1 := ⟨_, rfl⟩
        rw [← hl3e, ← hBq] at hcutc
        rw [← hl3e] at hl3
        rw [← hl3e, ← hBq] at D1
        have HL3 := Lib.hid hl3
        have HBq := Lib.hid hBq
        clear hl3e hl3 hBq hc1
        go_wp2_with fail
        refine Calls.mono hcutc ?_
        rintro e w5 ⟨v5, rfl, hv5, ho5, hbn⟩
        have D2 := D1.below hbn
        clear D1 hbn m0 m1 m2 hcutc
        have m0 := D2.bm.cell 0
        have m1 := D2.bm.cell 1
        have m2 := D2.bm.cell 2
        simp only [List.getElem?_toArray, List.getElem?_cons_zero, List.getElem?_cons_succ] at m0 m1 m2
        have mf0 := D2.bm.free 0
        have mf1 := D2.bm.free 1
        have mf2 := D2.bm.free 2
        obtain ⟨a5, c5, rfl, -, -⟩ := hv5.form
        have D3 := D2.model (Bm2 := Bq) hv5 (fun g hg => by rw [ho5] at hg; exact D2.no g hg) rfl
        clear D2 hv5
        go_upto_region 12 with (fail)
        obtain ⟨wv, hwv⟩ : ∃ W, W = (((w5.setCell ⟨w.heap.size, 0, none⟩ (.int .u64 (Bq : Int))).setCell ⟨w.heap.size, 1, none⟩ (.slice a5 l3.length c5)).setCell ⟨w.heap.size, 2, none⟩ (.int .i64 (most : Int))) := ⟨_, rfl⟩
        rw [← hwv] at D3 ⊢
        clear hwv
        clear m0 m1 m2 mf0 mf1 mf2
        have hl3b : l3.length < 100000 := by have := HL3.out; omega
        have m0 := D3.bm.cell 0
        have m1 := D3.bm.cell 1
        have m2 := D3.bm.cell 2
        simp only [List.getElem?_toArray, List.getElem?_cons_zero, List.getElem?_cons_succ] at m0 m1 m2
        go_upto_region 12 with (fail)
        generalize wv = wa at *
        clear m0 m1 m2
        go_cut [] from 11 (fun wx => ∃ v2 w30, Below wa.heap.size wa w30 ∧ Ow w30 wa.heap.size 43 Rc.enc 9 v2 (l3 ++ [Rc.of s num]) ∧ wx = w30.setCell ⟨w.heap.size, 1, none⟩ v2)
        case first =>
          have hbm := D3.bm
          have hbx := D3.bx
          have hvw := D3.vw
          have hll : l3.length < 100000 := by omega
          cases a5 with
          | none =>
            obtain ⟨hl0, -, -⟩ := Vw.nil_ hvw
            have hl00 : l3.length = 0 := by rw [hl0]; rfl
            have HL0 := Lib.hid hl00
            clear hl0 hl00
            have cs : ∀ {W : World}, Below wa.heap.size wa W → (fun W => W.cell? ⟨w.heap.size, 1, none⟩ = some (.slice none l3.length c5) ∧ W.cell? ⟨XB, 0, none⟩ = some (.int .u64 (s : Int)) ∧ W.cell? ⟨XB, 1, none⟩ = some (.int .u64 0) ∧ W.cell? ⟨XB, 2, none⟩ = some (.int .u64 0) ∧ W.cell? ⟨XB, 3, none⟩ = some (.int .u64 (num : Int)) ∧ W.cell? ⟨XB, 4, none⟩ = some (.int .i64 0) ∧ W.cell? ⟨XB, 5, none⟩ = some (.string ⟨#[]⟩) ∧ W.cell? ⟨XB, 6, none⟩ = some (.string ⟨#[]⟩) ∧ W.cell? ⟨XB, 7, none⟩ = some (.int .u64 0) ∧ W.cell? ⟨XB, 8, none⟩ = some (.int .u64 0)) W := fun {W} hW => ⟨(hbm.below hW hbm.lt).cell 1, (hbx.below hW hbx.lt).cell 0, (hbx.below hW hbx.lt).cell 1, (hbx.below hW hbx.lt).cell 2, (hbx.below hW hbx.lt).cell 3, (hbx.below hW hbx.lt).cell 4, (hbx.below hW hbx.lt).cell 5, (hbx.below hW hbx.lt).cell 6, (hbx.below hW hbx.lt).cell 7, (hbx.below hW hbx.lt).cell 8⟩
            have hb0 : Below wa.heap.size wa wa.drew := (Below.refl _ _).drew
            have V0 := cs hb0
            dsimp only at V0
            refine regionK_only 9 #[false, false, false, false, false, false, false, false, false] 8 (V := (fun W => W.cell? ⟨w.heap.size, 1, none⟩ = some (.slice none l3.length c5) ∧ W.cell? ⟨XB, 0, none⟩ = some (.int .u64 (s : Int)) ∧ W.cell? ⟨XB, 1, none⟩ = some (.int .u64 0) ∧ W.cell? ⟨XB, 2, none⟩ = some (.int .u64 0) ∧ W.cell? ⟨XB, 3, none⟩ = some (.int .u64 (num : Int)) ∧ W.cell? ⟨XB, 4, none⟩ = some (.int .i64 0) ∧ W.cell? ⟨XB, 5, none⟩ = some (.string ⟨#[]⟩) ∧ W.cell? ⟨XB, 6, none⟩ = some (.string ⟨#[]⟩) ∧ W.cell? ⟨XB, 7, none⟩ = some (.int .u64 0) ∧ W.cell? ⟨XB, 8, none⟩ = some (.int .u64 0))) rfl rfl (by kernel_rfl) V0 (fun hSw => ?_)
            generalize wa.drew = w20 at hb0 hSw ⊢
            clear V0
            have hb20 := hb0
            clear hb0
            refine early_at 8 1 51 (fuel := 8) ?_ rfl rfl (by kernel_rfl) (by kernel_rfl) (by kernel_rfl) (by decide) rfl (by kernel_rfl) (by kernel_rfl) (Or.inl ⟨by rfl, ?_⟩) hSw ?_
            rotate_left
            · intro wx hSx
              (try dsimp only at hSx)
              go_split_ands
              go_simp
              (try with_reducible rfl)
            simp only [List.setIfInBounds_toArray, List.set_cons_zero, List.set_cons_succ]
            refine early_at 8 2 52 (fuel := 7) ?_ rfl rfl (by kernel_rfl) (by kernel_rfl) (by kernel_rfl) (by decide) rfl (by kernel_rfl) (by kernel_rfl) (Or.inl ⟨by rfl, ?_⟩) hSw ?_
            rotate_left
            · intro wx hSx
              (try dsimp only at hSx)
              go_split_ands
              go_simp
              (try with_reducible rfl)
            simp only [List.setIfInBounds_toArray, List.set_cons_zero, List.set_cons_succ]
            refine early_at 8 4 54 (fuel := 6) ?_ rfl rfl (by kernel_rfl) (by kernel_rfl) (by kernel_rfl) (by decide) rfl (by kernel_rfl) (by kernel_rfl) (Or.inl ⟨by rfl, ?_⟩) hSw ?_
            rotate_left
            · intro wx hSx
              (try dsimp only at hSx)
              go_split_ands
              go_simp
              (try with_reducible rfl)
            simp only [List.setIfInBounds_toArray, List.set_cons_zero, List.set_cons_succ]
            refine wpAnyK_two 0 5 (by kernel_rfl) rfl rfl (fun K hK => ?_) (fun K hK => ?_)
            · skip
              go_simp
              have hb21 : Below wa.heap.size wa (w20.alloc (.cells #[] 43)) := hb20.alloc hb20.size _
              refine hK.out _ _ trivial (fun _ => cs hb21) ?_
              clear hK K
              simp only [List.setIfInBounds_toArray, List.set_cons_zero]
              have hA : Ow (w20.alloc (.cells #[] 43)) wa.heap.size 43 Rc.enc 9 (.slice (some ⟨w20.heap.size, 0, none⟩) 0 0) [] := Ow.empty w20 wa.heap.size hb20.size
              generalize w20.alloc (.cells #[] 43) = w21 at *
              generalize w20.heap.size = A at *
              refine wpAnyK_two 3 5 (by kernel_rfl) rfl rfl (fun K hK => ?_) (fun K hK => ?_)
              · skip
                refine step_append_nil _ (by rfl) _ _ _ (by rfl) 43 i0 Try.underlying28 hi0 (some ⟨A, 0, none⟩) 0 0 (by rfl) (Nat.le_refl _) l3.length c5 (by rfl) HL0.out ?_
                refine hK.out _ _ trivial (fun _ => cs hb21) ?_
                clear hK K
                simp only [List.setIfInBounds_toArray, List.set_cons_zero, List.set_cons_succ]
                have hO : Ow w21 wa.heap.size 43 Rc.enc 9 (.slice (some ⟨A, 0, none⟩) 0 0) l3 := by rw [List.length_eq_zero_iff.1 HL0.out]; exact hA
                obtain ⟨v1, hv1⟩ : ∃ v, v = Value.slice (some ⟨A, 0, none⟩) 0 0 := ⟨_, rfl⟩
                rw [← hv1] at hO ⊢
                clear hv1 hA
                refine Wirey.wpAnyK_one 5 (by kernel_rfl) rfl (fun K hK => ?_)
                go_simp
                have hb23 : Below wa.heap.size wa (w21.alloc (.cells #[.int .u64 (s : Int), .int .u64 0, .int .u64 0, .int .u64 (num : Int), .int .i64 0, .string ⟨#[]⟩, .string ⟨#[]⟩, .int .u64 0, .int .u64 0] 43)) := hb21.alloc hb21.size _
                refine hK.out _ _ trivial (fun _ => cs hb23) ?_
                clear hK K
                simp only [List.setIfInBounds_toArray, List.set_cons_zero, List.set_cons_succ]
                have hX := Blk.new w21 43 #[.int .u64 (s : Int), .int .u64 0, .int .u64 0, .int .u64 (num : Int), .int .i64 0, .string ⟨#[]⟩, .string ⟨#[]⟩, .int .u64 0, .int .u64 0]
                have hne2 : ∀ g, v1.ownBlock = some g → g ≠ w21.heap.size := fun g hg e => by have := (hO.lt g hg).2; omega
                have hO' := hO.alloc (.cells #[.int .u64 (s : Int), .int .u64 0, .int .u64 0, .int .u64 (num : Int), .int .i64 0, .string ⟨#[]⟩, .string ⟨#[]⟩, .int .u64 0, .int .u64 0] 43)
                clear hO
                have hO := hO'
                clear hO'
                generalize w21.alloc (.cells #[.int .u64 (s : Int), .int .u64 0, .int .u64 0, .int .u64 (num : Int), .int .i64 0, .string ⟨#[]⟩, .string ⟨#[]⟩, .int .u64 0, .int .u64 0] 43) = w23 at *
                generalize w21.heap.size = X at *
                refine Wirey.wpAnyK_one 6 (by kernel_rfl) rfl (fun K hK => ?_)
                refine step_append_own _ (by rfl) _ _ _ (by rfl) wa.heap.size 43 i0 _ 9 88 Try.underlying28 hi0 hz0 hz1 hz2 rfl (by omega) v1 l3.length (rws Rc.enc l3) (by rfl) hO ⟨X, 0, none⟩ 1 1 (Rc.of s num).enc (by rfl) (by rfl) (World.news_of_block (cs := #[.int .u64 (s : Int), .int .u64 0, .int .u64 0, .int .u64 (num : Int), .int .i64 0, .string ⟨#[]⟩, .string ⟨#[]⟩, .int .u64 0, .int .u64 0]) (t := 43) (fr := (0, 0)) hX) (Rc.one _) (by unfold maxLen; omega) (by omega) hb23.size ?_
                intro v2 w30 hown hgrow hat
                have hO2 : Ow w30 wa.heap.size 43 Rc.enc 9 v2 (l3 ++ [Rc.of s num]) := by
                  unfold Ow
                  rw [List.length_append, rws_append, rws, rws, List.append_nil]
                  exact hown
                have hb30 : Below wa.heap.size wa w30 := hb23.grown hgrow hb23.size (fun k hk => (hO.lt k hk).1)
                refine hK.out _ _ trivial (fun _ => cs hb30) ?_
                clear hK K
                simp only [List.setIfInBounds_toArray, List.set_cons_zero, List.set_cons_succ]
                have hSw := cs hb30
                clear hO hown hgrow hat hX
                refine early_at 8 7 57 (fuel := 1) ?_ rfl rfl (by kernel_rfl) (by kernel_rfl) (by kernel_rfl) (by decide) rfl (by kernel_rfl) (by kernel_rfl) (Or.inl ⟨by rfl, ?_⟩) hSw ?_
                rotate_left
                · intro wx hSx
                  (try dsimp only at hSx)
                  go_split_ands
                  go_simp
                  (try with_reducible rfl)
                simp only [List.setIfInBounds_toArray, List.set_cons_zero, List.set_cons_succ]
                have y1 := (hbm.below hb30 hbm.lt).cell 1
                have f1 := (hbm.below hb30 hbm.lt).free 1
                simp only [List.getElem?_toArray, List.getElem?_cons_zero, List.getElem?_cons_succ] at y1
                obtain ⟨a2, c2, rfl⟩ := hO2.form
                refine Wirey.wpAnyK_one 8 (by kernel_rfl) rfl (fun K hK => ?_)
                go_simp
                refine hK.out _ _ trivial (fun h9 => absurd h9 (by decide)) ?_
                clear hK K
                simp only [List.setIfInBounds_toArray, List.set_cons_zero, List.set_cons_succ]
                refine Wirey.wpAnyK_done (by kernel_rfl) ⟨rfl, ?_⟩
                go_wp2_with fail
                go_meet
                exact ⟨_, w30, hb30, hO2, by first | rfl | (rw [List.length_append]; rfl)⟩
              · skip
                go_simp
                have hb22 : Below wa.heap.size wa (w21.alloc (.cells #[.int .u64 (s : Int), .int .u64 0, .int .u64 0, .int .u64 (num : Int), .int .i64 0, .string ⟨#[]⟩, .string ⟨#[]⟩, .int .u64 0, .int .u64 0] 43)) := hb21.alloc hb21.size _
                refine hK.out _ _ trivial (fun _ => cs hb22) ?_
                clear hK K
                simp only [List.setIfInBounds_toArray, List.set_cons_zero, List.set_cons_succ]
                have hX := Blk.new w21 43 #[.int .u64 (s : Int), .int .u64 0, .int .u64 0, .int .u64 (num : Int), .int .i64 0, .string ⟨#[]⟩, .string ⟨#[]⟩, .int .u64 0, .int .u64 0]
                have hne : w21.heap.size ≠ A := fun e => by have := (hA.lt A rfl).2; omega
                have hA' := hA.alloc (.cells #[.int .u64 (s : Int), .int .u64 0, .int .u64 0, .int .u64 (num : Int), .int .i64 0, .string ⟨#[]⟩, .string ⟨#[]⟩, .int .u64 0, .int .u64 0] 43)
                clear hA
                have hA := hA'
                clear hA'
                generalize w21.alloc (.cells #[.int .u64 (s : Int), .int .u64 0, .int .u64 0, .int .u64 (num : Int), .int .i64 0, .string ⟨#[]⟩, .string ⟨#[]⟩, .int .u64 0, .int .u64 0] 43) = w22 at *
                generalize w21.heap.size = X at *
                refine Wirey.wpAnyK_one 3 (by kernel_rfl) rfl (fun K hK => ?_)
                refine step_append_nil _ (by rfl) _ _ _ (by rfl) 43 i0 Try.underlying28 hi0 (some ⟨A, 0, none⟩) 0 0 (by rfl) (Nat.le_refl _) l3.length c5 (by rfl) HL0.out ?_
                refine hK.out _ _ trivial (fun _ => cs hb22) ?_
                clear hK K
                simp only [List.setIfInBounds_toArray, List.set_cons_zero, List.set_cons_succ]
                have hO : Ow w22 wa.heap.size 43 Rc.enc 9 (.slice (some ⟨A, 0, none⟩) 0 0) l3 := by rw [List.length_eq_zero_iff.1 HL0.out]; exact hA
                obtain ⟨v1, hv1⟩ : ∃ v, v = Value.slice (some ⟨A, 0, none⟩) 0 0 := ⟨_, rfl⟩
                rw [← hv1] at hO ⊢
                have hne2 : ∀ g, v1.ownBlock = some g → g ≠ X := fun g hg e => by
                  rw [hv1] at hg
                  have h0 : A = g := by simpa [Value.ownBlock] using hg
                  omega
                clear hv1 hA
                refine Wirey.wpAnyK_one 6 (by kernel_rfl) rfl (fun K hK => ?_)
                refine step_append_own _ (by rfl) _ _ _ (by rfl) wa.heap.size 43 i0 _ 9 88 Try.underlying28 hi0 hz0 hz1 hz2 rfl (by omega) v1 l3.length (rws Rc.enc l3) (by rfl) hO ⟨X, 0, none⟩ 1 1 (Rc.of s num).enc (by rfl) (by rfl) (World.news_of_block (cs := #[.int .u64 (s : Int), .int .u64 0, .int .u64 0, .int .u64 (num : Int), .int .i64 0, .string ⟨#[]⟩, .string ⟨#[]⟩, .int .u64 0, .int .u64 0]) (t := 43) (fr := (0, 0)) hX) (Rc.one _) (by unfold maxLen; omega) (by omega) hb22.size ?_
                intro v2 w30 hown hgrow hat
                have hO2 : Ow w30 wa.heap.size 43 Rc.enc 9 v2 (l3 ++ [Rc.of s num]) := by
                  unfold Ow
                  rw [List.length_append, rws_append, rws, rws, List.append_nil]
                  exact hown
                have hb30 : Below wa.heap.size wa w30 := hb22.grown hgrow hb22.size (fun k hk => (hO.lt k hk).1)
                refine hK.out _ _ trivial (fun _ => cs hb30) ?_
                clear hK K
                simp only [List.setIfInBounds_toArray, List.set_cons_zero, List.set_cons_succ]
                have hSw := cs hb30
                clear hO hown hgrow hat hX
                refine early_at 8 7 57 (fuel := 1) ?_ rfl rfl (by kernel_rfl) (by kernel_rfl) (by kernel_rfl) (by decide) rfl (by kernel_rfl) (by kernel_rfl) (Or.inl ⟨by rfl, ?_⟩) hSw ?_
                rotate_left
                · intro wx hSx
                  (try dsimp only at hSx)
                  go_split_ands
                  go_simp
                  (try with_reducible rfl)
                simp only [List.setIfInBounds_toArray, List.set_cons_zero, List.set_cons_succ]
                have y1 := (hbm.below hb30 hbm.lt).cell 1
                have f1 := (hbm.below hb30 hbm.lt).free 1
                simp only [List.getElem?_toArray, List.getElem?_cons_zero, List.getElem?_cons_succ] at y1
                obtain ⟨a2, c2, rfl⟩ := hO2.form
                refine Wirey.wpAnyK_one 8 (by kernel_rfl) rfl (fun K hK => ?_)
                go_simp
                refine hK.out _ _ trivial (fun h9 => absurd h9 (by decide)) ?_
                clear hK K
                simp only [List.setIfInBounds_toArray, List.set_cons_zero, List.set_cons_succ]
                refine Wirey.wpAnyK_done (by kernel_rfl) ⟨rfl, ?_⟩
                go_wp2_with fail
                go_meet
                exact ⟨_, w30, hb30, hO2, by first | rfl | (rw [List.length_append]; rfl)⟩
            · skip
              go_simp
              have hb21 : Below wa.heap.size wa (w20.alloc (.cells #[.int .u64 (s : Int), .int .u64 0, .int .u64 0, .int .u64 (num : Int), .int .i64 0, .string ⟨#[]⟩, .string ⟨#[]⟩, .int .u64 0, .int .u64 0] 43)) := hb20.alloc hb20.size _
              refine hK.out _ _ trivial (fun _ => cs hb21) ?_
              clear hK K
              simp only [List.setIfInBounds_toArray, List.set_cons_zero, List.set_cons_succ]
              have hX := Blk.new w20 43 #[.int .u64 (s : Int), .int .u64 0, .int .u64 0, .int .u64 (num : Int), .int .i64 0, .string ⟨#[]⟩, .string ⟨#[]⟩, .int .u64 0, .int .u64 0]
              generalize w20.alloc (.cells #[.int .u64 (s : Int), .int .u64 0, .int .u64 0, .int .u64 (num : Int), .int .i64 0, .string ⟨#[]⟩, .string ⟨#[]⟩, .int .u64 0, .int .u64 0] 43) = w21 at *
              generalize w20.heap.size = X at *
              refine Wirey.wpAnyK_one 0 (by kernel_rfl) rfl (fun K hK => ?_)
              go_simp
              have hb22 : Below wa.heap.size wa (w21.alloc (.cells #[] 43)) := hb21.alloc hb21.size _
              refine hK.out _ _ trivial (fun _ => cs hb22) ?_
              clear hK K
              simp only [List.setIfInBounds_toArray, List.set_cons_zero]
              have hA : Ow (w21.alloc (.cells #[] 43)) wa.heap.size 43 Rc.enc 9 (.slice (some ⟨w21.heap.size, 0, none⟩) 0 0) [] := Ow.empty w21 wa.heap.size hb21.size
              have hne : X ≠ w21.heap.size := Nat.ne_of_lt hX.lt
              have hX' := hX.alloc (.cells #[] 43)
              clear hX
              have hX := hX'
              clear hX'
              generalize w21.alloc (.cells #[] 43) = w22 at *
              generalize w21.heap.size = A at *
              refine Wirey.wpAnyK_one 3 (by kernel_rfl) rfl (fun K hK => ?_)
              refine step_append_nil _ (by rfl) _ _ _ (by rfl) 43 i0 Try.underlying28 hi0 (some ⟨A, 0, none⟩) 0 0 (by rfl) (Nat.le_refl _) l3.length c5 (by rfl) HL0.out ?_
              refine hK.out _ _ trivial (fun _ => cs hb22) ?_
              clear hK K
              simp only [List.setIfInBounds_toArray, List.set_cons_zero, List.set_cons_succ]
              have hO : Ow w22 wa.heap.size 43 Rc.enc 9 (.slice (some ⟨A, 0, none⟩) 0 0) l3 := by rw [List.length_eq_zero_iff.1 HL0.out]; exact hA
              obtain ⟨v1, hv1⟩ : ∃ v, v = Value.slice (some ⟨A, 0, none⟩) 0 0 := ⟨_, rfl⟩
              rw [← hv1] at hO ⊢
              have hne2 : ∀ g, v1.ownBlock = some g → g ≠ X := fun g hg e => by
                rw [hv1] at hg
                have h0 : A = g := by simpa [Value.ownBlock] using hg
                omega
              clear hv1 hA
              refine Wirey.wpAnyK_one 6 (by kernel_rfl) rfl (fun K hK => ?_)
              refine step_append_own _ (by rfl) _ _ _ (by rfl) wa.heap.size 43 i0 _ 9 88 Try.underlying28 hi0 hz0 hz1 hz2 rfl (by omega) v1 l3.length (rws Rc.enc l3) (by rfl) hO ⟨X, 0, none⟩ 1 1 (Rc.of s num).enc (by rfl) (by rfl) (World.news_of_block (cs := #[.int .u64 (s : Int), .int .u64 0, .int .u64 0, .int .u64 (num : Int), .int .i64 0, .string ⟨#[]⟩, .string ⟨#[]⟩, .int .u64 0, .int .u64 0]) (t := 43) (fr := (0, 0)) hX) (Rc.one _) (by unfold maxLen; omega) (by omega) hb22.size ?_
              intro v2 w30 hown hgrow hat
              have hO2 : Ow w30 wa.heap.size 43 Rc.enc 9 v2 (l3 ++ [Rc.of s num]) := by
                unfold Ow
                rw [List.length_append, rws_append, rws, rws, List.append_nil]
                exact hown
              have hb30 : Below wa.heap.size wa w30 := hb22.grown hgrow hb22.size (fun k hk => (hO.lt k hk).1)
              refine hK.out _ _ trivial (fun _ => cs hb30) ?_
              clear hK K
              simp only [List.setIfInBounds_toArray, List.set_cons_zero, List.set_cons_succ]
              have hSw := cs hb30
              clear hO hown hgrow hat hX
              refine early_at 8 7 57 (fuel := 1) ?_ rfl rfl (by kernel_rfl) (by kernel_rfl) (by kernel_rfl) (by decide) rfl (by kernel_rfl) (by kernel_rfl) (Or.inl ⟨by rfl, ?_⟩) hSw ?_
              rotate_left
              · intro wx hSx
                (try dsimp only at hSx)
                go_split_ands
                go_simp
                (try with_reducible rfl)
              simp only [List.setIfInBounds_toArray, List.set_cons_zero, List.set_cons_succ]
              have y1 := (hbm.below hb30 hbm.lt).cell 1
              have f1 := (hbm.below hb30 hbm.lt).free 1
              simp only [List.getElem?_toArray, List.getElem?_cons_zero, List.getElem?_cons_succ] at y1
              obtain ⟨a2, c2, rfl⟩ := hO2.form
              refine Wirey.wpAnyK_one 8 (by kernel_rfl) rfl (fun K hK => ?_)
              go_simp
              refine hK.out _ _ trivial (fun h9 => absurd h9 (by decide)) ?_
              clear hK K
              simp only [List.setIfInBounds_toArray, List.set_cons_zero, List.set_cons_succ]
              refine Wirey.wpAnyK_done (by kernel_rfl) ⟨rfl, ?_⟩
              go_wp2_with fail
              go_meet
              exact ⟨_, w30, hb30, hO2, by first | rfl | (rw [List.length_append]; rfl)⟩
          | some pa =>
            have cs : ∀ {W : World}, Below wa.heap.size wa W → (fun W => W.cell? ⟨w.heap.size, 1, none⟩ = some (.slice (some pa) l3.length c5) ∧ W.cell? ⟨XB, 0, none⟩ = some (.int .u64 (s : Int)) ∧ W.cell? ⟨XB, 1, none⟩ = some (.int .u64 0) ∧ W.cell? ⟨XB, 2, none⟩ = some (.int .u64 0) ∧ W.cell? ⟨XB, 3, none⟩ = some (.int .u64 (num : Int)) ∧ W.cell? ⟨XB, 4, none⟩ = some (.int .i64 0) ∧ W.cell? ⟨XB, 5, none⟩ = some (.string ⟨#[]⟩) ∧ W.cell? ⟨XB, 6, none⟩ = some (.string ⟨#[]⟩) ∧ W.cell? ⟨XB, 7, none⟩ = some (.int .u64 0) ∧ W.cell? ⟨XB, 8, none⟩ = some (.int .u64 0)) W := fun {W} hW => ⟨(hbm.below hW hbm.lt).cell 1, (hbx.below hW hbx.lt).cell 0, (hbx.below hW hbx.lt).cell 1, (hbx.below hW hbx.lt).cell 2, (hbx.below hW hbx.lt).cell 3, (hbx.below hW hbx.lt).cell 4, (hbx.below hW hbx.lt).cell 5, (hbx.below hW hbx.lt).cell 6, (hbx.below hW hbx.lt).cell 7, (hbx.below hW hbx.lt).cell 8⟩
            have hb0 : Below wa.heap.size wa wa.drew := (Below.refl _ _).drew
            have V0 := cs hb0
            dsimp only at V0
            refine regionK_only 9 #[false, false, false, false, false, false, false, false, false] 8 (V := (fun W => W.cell? ⟨w.heap.size, 1, none⟩ = some (.slice (some pa) l3.length c5) ∧ W.cell? ⟨XB, 0, none⟩ = some (.int .u64 (s : Int)) ∧ W.cell? ⟨XB, 1, none⟩ = some (.int .u64 0) ∧ W.cell? ⟨XB, 2, none⟩ = some (.int .u64 0) ∧ W.cell? ⟨XB, 3, none⟩ = some (.int .u64 (num : Int)) ∧ W.cell? ⟨XB, 4, none⟩ = some (.int .i64 0) ∧ W.cell? ⟨XB, 5, none⟩ = some (.string ⟨#[]⟩) ∧ W.cell? ⟨XB, 6, none⟩ = some (.string ⟨#[]⟩) ∧ W.cell? ⟨XB, 7, none⟩ = some (.int .u64 0) ∧ W.cell? ⟨XB, 8, none⟩ = some (.int .u64 0))) rfl rfl (by kernel_rfl) V0 (fun hSw => ?_)
            generalize wa.drew = w20 at hb0 hSw ⊢
            clear V0
            have hb20 := hb0
            clear hb0
            refine early_at 8 1 51 (fuel := 8) ?_ rfl rfl (by kernel_rfl) (by kernel_rfl) (by kernel_rfl) (by decide) rfl (by kernel_rfl) (by kernel_rfl) (Or.inl ⟨by rfl, ?_⟩) hSw ?_
            rotate_left
            · intro wx hSx
              (try dsimp only at hSx)
              go_split_ands
              go_simp
              (try with_reducible rfl)
            simp only [List.setIfInBounds_toArray, List.set_cons_zero, List.set_cons_succ]
            refine early_at 8 2 52 (fuel := 7) ?_ rfl rfl (by kernel_rfl) (by kernel_rfl) (by kernel_rfl) (by decide) rfl (by kernel_rfl) (by kernel_rfl) (Or.inl ⟨by rfl, ?_⟩) hSw ?_
            rotate_left
            · intro wx hSx
              (try dsimp only at hSx)
              go_split_ands
              go_simp
              (try with_reducible rfl)
            simp only [List.setIfInBounds_toArray, List.set_cons_zero, List.set_cons_succ]
            refine early_at 8 4 54 (fuel := 6) ?_ rfl rfl (by kernel_rfl) (by kernel_rfl) (by kernel_rfl) (by decide) rfl (by kernel_rfl) (by kernel_rfl) (Or.inl ⟨by rfl, ?_⟩) hSw ?_
            rotate_left
            · intro wx hSx
              (try dsimp only at hSx)
              go_split_ands
              go_simp
              (try with_reducible rfl)
            simp only [List.setIfInBounds_toArray, List.set_cons_zero, List.set_cons_succ]
            refine wpAnyK_two 0 5 (by kernel_rfl) rfl rfl (fun K hK => ?_) (fun K hK => ?_)
            · skip
              go_simp
              have hb21 : Below wa.heap.size wa (w20.alloc (.cells #[] 43)) := hb20.alloc hb20.size _
              refine hK.out _ _ trivial (fun _ => cs hb21) ?_
              clear hK K
              simp only [List.setIfInBounds_toArray, List.set_cons_zero]
              have hA : Ow (w20.alloc (.cells #[] 43)) wa.heap.size 43 Rc.enc 9 (.slice (some ⟨w20.heap.size, 0, none⟩) 0 0) [] := Ow.empty w20 wa.heap.size hb20.size
              generalize w20.alloc (.cells #[] 43) = w21 at *
              generalize w20.heap.size = A at *
              refine wpAnyK_two 3 5 (by kernel_rfl) rfl rfl (fun K hK => ?_) (fun K hK => ?_)
              · skip
                have hvw2 : Vw w21 Rc.enc 9 (.slice (some pa) l3.length c5) l3 := hvw.stay (Nat.le_trans hb21.size (Nat.le_refl _)) fun g hg => hb21.block g (hvw.lt g hg)
                refine step_append_own _ (by rfl) _ _ _ (by rfl) wa.heap.size 43 i0 _ 9 88 Try.underlying28 hi0 hz0 hz1 hz2 rfl (by omega) (.slice (some ⟨A, 0, none⟩) 0 0) 0 [] (by rfl) hA pa l3.length c5 (rws Rc.enc l3) (by rfl) (rws_length Rc.len l3) (hvw2.newsP Rc.len (by omega)) (rws_one Rc.one l3) (by unfold maxLen; omega) (by omega) hb21.size ?_
                intro v1 w22 hown hgrow hat
                have hO : Ow w22 wa.heap.size 43 Rc.enc 9 v1 l3 := by
                  rw [Nat.zero_add, List.nil_append] at hown
                  exact hown
                have hAl := hA.lt A rfl
                have hb22 : Below wa.heap.size wa w22 := hb21.grown hgrow hb21.size (fun k hk => by
                  have h0 : A = k := by simpa [Value.ownBlock] using hk
                  omega)
                refine hK.out _ _ trivial (fun _ => cs hb22) ?_
                clear hK K
                simp only [List.setIfInBounds_toArray, List.set_cons_zero, List.set_cons_succ]
                clear hvw2 hown hgrow hat hA hAl
                refine Wirey.wpAnyK_one 5 (by kernel_rfl) rfl (fun K hK => ?_)
                go_simp
                have hb23 : Below wa.heap.size wa (w22.alloc (.cells #[.int .u64 (s : Int), .int .u64 0, .int .u64 0, .int .u64 (num : Int), .int .i64 0, .string ⟨#[]⟩, .string ⟨#[]⟩, .int .u64 0, .int .u64 0] 43)) := hb22.alloc hb22.size _
                refine hK.out _ _ trivial (fun _ => cs hb23) ?_
                clear hK K
                simp only [List.setIfInBounds_toArray, List.set_cons_zero, List.set_cons_succ]
                have hX := Blk.new w22 43 #[.int .u64 (s : Int), .int .u64 0, .int .u64 0, .int .u64 (num : Int), .int .i64 0, .string ⟨#[]⟩, .string ⟨#[]⟩, .int .u64 0, .int .u64 0]
                have hne2 : ∀ g, v1.ownBlock = some g → g ≠ w22.heap.size := fun g hg e => by have := (hO.lt g hg).2; omega
                have hO' := hO.alloc (.cells #[.int .u64 (s : Int), .int .u64 0, .int .u64 0, .int .u64 (num : Int), .int .i64 0, .string ⟨#[]⟩, .string ⟨#[]⟩, .int .u64 0, .int .u64 0] 43)
                clear hO
                have hO := hO'
                clear hO'
                generalize w22.alloc (.cells #[.int .u64 (s : Int), .int .u64 0, .int .u64 0, .int .u64 (num : Int), .int .i64 0, .string ⟨#[]⟩, .string ⟨#[]⟩, .int .u64 0, .int .u64 0] 43) = w23 at *
                generalize w22.heap.size = X at *
                refine Wirey.wpAnyK_one 6 (by kernel_rfl) rfl (fun K hK => ?_)
                refine step_append_own _ (by rfl) _ _ _ (by rfl) wa.heap.size 43 i0 _ 9 88 Try.underlying28 hi0 hz0 hz1 hz2 rfl (by omega) v1 l3.length (rws Rc.enc l3) (by rfl) hO ⟨X, 0, none⟩ 1 1 (Rc.of s num).enc (by rfl) (by rfl) (World.news_of_block (cs := #[.int .u64 (s : Int), .int .u64 0, .int .u64 0, .int .u64 (num : Int), .int .i64 0, .string ⟨#[]⟩, .string ⟨#[]⟩, .int .u64 0, .int .u64 0]) (t := 43) (fr := (0, 0)) hX) (Rc.one _) (by unfold maxLen; omega) (by omega) hb23.size ?_
                intro v2 w30 hown hgrow hat
                have hO2 : Ow w30 wa.heap.size 43 Rc.enc 9 v2 (l3 ++ [Rc.of s num]) := by
                  unfold Ow
                  rw [List.length_append, rws_append, rws, rws, List.append_nil]
                  exact hown
                have hb30 : Below wa.heap.size wa w30 := hb23.grown hgrow hb23.size (fun k hk => (hO.lt k hk).1)
                refine hK.out _ _ trivial (fun _ => cs hb30) ?_
                clear hK K
                simp only [List.setIfInBounds_toArray, List.set_cons_zero, List.set_cons_succ]
                have hSw := cs hb30
                clear hO hown hgrow hat hX
                refine early_at 8 7 57 (fuel := 1) ?_ rfl rfl (by kernel_rfl) (by kernel_rfl) (by kernel_rfl) (by decide) rfl (by kernel_rfl) (by kernel_rfl) (Or.inl ⟨by rfl, ?_⟩) hSw ?_
                rotate_left
                · intro wx hSx
                  (try dsimp only at hSx)
                  go_split_ands
                  go_simp
                  (try with_reducible rfl)
                simp only [List.setIfInBounds_toArray, List.set_cons_zero, List.set_cons_succ]
                have y1 := (hbm.below hb30 hbm.lt).cell 1
                have f1 := (hbm.below hb30 hbm.lt).free 1
                simp only [List.getElem?_toArray, List.getElem?_cons_zero, List.getElem?_cons_succ] at y1
                obtain ⟨a2, c2, rfl⟩ := hO2.form
                refine Wirey.wpAnyK_one 8 (by kernel_rfl) rfl (fun K hK => ?_)
                go_simp
                refine hK.out _ _ trivial (fun h9 => absurd h9 (by decide)) ?_
                clear hK K
                simp only [List.setIfInBounds_toArray, List.set_cons_zero, List.set_cons_succ]
                refine Wirey.wpAnyK_done (by kernel_rfl) ⟨rfl, ?_⟩
                go_wp2_with fail
                go_meet
                exact ⟨_, w30, hb30, hO2, by first | rfl | (rw [List.length_append]; rfl)⟩
              · skip
                go_simp
                have hb22 : Below wa.heap.size wa (w21.alloc (.cells #[.int .u64 (s : Int), .int .u64 0, .int .u64 0, .int .u64 (num : Int), .int .i64 0, .string ⟨#[]⟩, .string ⟨#[]⟩, .int .u64 0, .int .u64 0] 43)) := hb21.alloc hb21.size _
                refine hK.out _ _ trivial (fun _ => cs hb22) ?_
                clear hK K
                simp only [List.setIfInBounds_toArray, List.set_cons_zero, List.set_cons_succ]
                have hX := Blk.new w21 43 #[.int .u64 (s : Int), .int .u64 0, .int .u64 0, .int .u64 (num : Int), .int .i64 0, .string ⟨#[]⟩, .string ⟨#[]⟩, .int .u64 0, .int .u64 0]
                have hne : w21.heap.size ≠ A := fun e => by have := (hA.lt A rfl).2; omega
                have hA' := hA.alloc (.cells #[.int .u64 (s : Int), .int .u64 0, .int .u64 0, .int .u64 (num : Int), .int .i64 0, .string ⟨#[]⟩, .string ⟨#[]⟩, .int .u64 0, .int .u64 0] 43)
                clear hA
                have hA := hA'
                clear hA'
                generalize w21.alloc (.cells #[.int .u64 (s : Int), .int .u64 0, .int .u64 0, .int .u64 (num : Int), .int .i64 0, .string ⟨#[]⟩, .string ⟨#[]⟩, .int .u64 0, .int .u64 0] 43) = w22 at *
                generalize w21.heap.size = X at *
                refine Wirey.wpAnyK_one 3 (by kernel_rfl) rfl (fun K hK => ?_)
                have hvw2 : Vw w22 Rc.enc 9 (.slice (some pa) l3.length c5) l3 := hvw.stay (Nat.le_trans hb22.size (Nat.le_refl _)) fun g hg => hb22.block g (hvw.lt g hg)
                refine step_append_own _ (by rfl) _ _ _ (by rfl) wa.heap.size 43 i0 _ 9 88 Try.underlying28 hi0 hz0 hz1 hz2 rfl (by omega) (.slice (some ⟨A, 0, none⟩) 0 0) 0 [] (by rfl) hA pa l3.length c5 (rws Rc.enc l3) (by rfl) (rws_length Rc.len l3) (hvw2.newsP Rc.len (by omega)) (rws_one Rc.one l3) (by unfold maxLen; omega) (by omega) hb22.size ?_
                intro v1 w23 hown hgrow hat
                have hO : Ow w23 wa.heap.size 43 Rc.enc 9 v1 l3 := by
                  rw [Nat.zero_add, List.nil_append] at hown
                  exact hown
                have hAl := hA.lt A rfl
                have hb23 : Below wa.heap.size wa w23 := hb22.grown hgrow hb22.size (fun k hk => by
                  have h0 : A = k := by simpa [Value.ownBlock] using hk
                  omega)
                have hX' : Blk w23 X 43 #[.int .u64 (s : Int), .int .u64 0, .int .u64 0, .int .u64 (num : Int), .int .i64 0, .string ⟨#[]⟩, .string ⟨#[]⟩, .int .u64 0, .int .u64 0] := hX.grown hgrow (by show some X ≠ some A; intro e; injection e with e; exact hne e)
                have hne2 : ∀ g, v1.ownBlock = some g → g ≠ X := fun g hg e => by
                  rcases hat with h0 | h0
                  · rw [h0] at hg
                    have h1 : A = g := by simpa [Value.ownBlock] using hg
                    exact hne (h1.trans e).symm
                  · rw [h0] at hg
                    injection hg with hg
                    have := hX.lt
                    omega
                clear hX
                have hX := hX'
                clear hX'
                refine hK.out _ _ trivial (fun _ => cs hb23) ?_
                clear hK K
                simp only [List.setIfInBounds_toArray, List.set_cons_zero, List.set_cons_succ]
                clear hvw2 hown hgrow hat hA hAl
                refine Wirey.wpAnyK_one 6 (by kernel_rfl) rfl (fun K hK => ?_)
                refine step_append_own _ (by rfl) _ _ _ (by rfl) wa.heap.size 43 i0 _ 9 88 Try.underlying28 hi0 hz0 hz1 hz2 rfl (by omega) v1 l3.length (rws Rc.enc l3) (by rfl) hO ⟨X, 0, none⟩ 1 1 (Rc.of s num).enc (by rfl) (by rfl) (World.news_of_block (cs := #[.int .u64 (s : Int), .int .u64 0, .int .u64 0, .int .u64 (num : Int), .int .i64 0, .string ⟨#[]⟩, .string ⟨#[]⟩, .int .u64 0, .int .u64 0]) (t := 43) (fr := (0, 0)) hX) (Rc.one _) (by unfold maxLen; omega) (by omega) hb23.size ?_
                intro v2 w30 hown hgrow hat
                have hO2 : Ow w30 wa.heap.size 43 Rc.enc 9 v2 (l3 ++ [Rc.of s num]) := by
                  unfold Ow
                  rw [List.length_append, rws_append, rws, rws, List.append_nil]
                  exact hown
                have hb30 : Below wa.heap.size wa w30 := hb23.grown hgrow hb23.size (fun k hk => (hO.lt k hk).1)
                refine hK.out _ _ trivial (fun _ => cs hb30) ?_
                clear hK K
                simp only [List.setIfInBounds_toArray, List.set_cons_zero, List.set_cons_succ]
                have hSw := cs hb30
                clear hO hown hgrow hat hX
                refine early_at 8 7 57 (fuel := 1) ?_ rfl rfl (by kernel_rfl) (by kernel_rfl) (by kernel_rfl) (by decide) rfl (by kernel_rfl) (by kernel_rfl) (Or.inl ⟨by rfl, ?_⟩) hSw ?_
                rotate_left
                · intro wx hSx
                  (try dsimp only at hSx)
                  go_split_ands
                  go_simp
                  (try with_reducible rfl)
                simp only [List.setIfInBounds_toArray, List.set_cons_zero, List.set_cons_succ]
                have y1 := (hbm.below hb30 hbm.lt).cell 1
                have f1 := (hbm.below hb30 hbm.lt).free 1
                simp only [List.getElem?_toArray, List.getElem?_cons_zero, List.getElem?_cons_succ] at y1
                obtain ⟨a2, c2, rfl⟩ := hO2.form
                refine Wirey.wpAnyK_one 8 (by kernel_rfl) rfl (fun K hK => ?_)
                go_simp
                refine hK.out _ _ trivial (fun h9 => absurd h9 (by decide)) ?_
                clear hK K
                simp only [List.setIfInBounds_toArray, List.set_cons_zero, List.set_cons_succ]
                refine Wirey.wpAnyK_done (by kernel_rfl) ⟨rfl, ?_⟩
                go_wp2_with fail
                go_meet
                exact ⟨_, w30, hb30, hO2, by first | rfl | (rw [List.length_append]; rfl)⟩
            · skip
              go_simp
              have hb21 : Below wa.heap.size wa (w20.alloc (.cells #[.int .u64 (s : Int), .int .u64 0, .int .u64 0, .int .u64 (num : Int), .int .i64 0, .string ⟨#[]⟩, .string ⟨#[]⟩, .int .u64 0, .int .u64 0] 43)) := hb20.alloc hb20.size _
              refine hK.out _ _ trivial (fun _ => cs hb21) ?_
              clear hK K
              simp only [List.setIfInBounds_toArray, List.set_cons_zero, List.set_cons_succ]
              have hX := Blk.new w20 43 #[.int .u64 (s : Int), .int .u64 0, .int .u64 0, .int .u64 (num : Int), .int .i64 0, .string ⟨#[]⟩, .string ⟨#[]⟩, .int .u64 0, .int .u64 0]
              generalize w20.alloc (.cells #[.int .u64 (s : Int), .int .u64 0, .int .u64 0, .int .u64 (num : Int), .int .i64 0, .string ⟨#[]⟩, .string ⟨#[]⟩, .int .u64 0, .int .u64 0] 43) = w21 at *
              generalize w20.heap.size = X at *
              refine Wirey.wpAnyK_one 0 (by kernel_rfl) rfl (fun K hK => ?_)
              go_simp
              have hb22 : Below wa.heap.size wa (w21.alloc (.cells #[] 43)) := hb21.alloc hb21.size _
              refine hK.out _ _ trivial (fun _ => cs hb22) ?_
              clear hK K
              simp only [List.setIfInBounds_toArray, List.set_cons_zero]
              have hA : Ow (w21.alloc (.cells #[] 43)) wa.heap.size 43 Rc.enc 9 (.slice (some ⟨w21.heap.size, 0, none⟩) 0 0) [] := Ow.empty w21 wa.heap.size hb21.size
              have hne : X ≠ w21.heap.size := Nat.ne_of_lt hX.lt
              have hX' := hX.alloc (.cells #[] 43)
              clear hX
              have hX := hX'
              clear hX'
              generalize w21.alloc (.cells #[] 43) = w22 at *
              generalize w21.heap.size = A at *
              refine Wirey.wpAnyK_one 3 (by kernel_rfl) rfl (fun K hK => ?_)
              have hvw2 : Vw w22 Rc.enc 9 (.slice (some pa) l3.length c5) l3 := hvw.stay (Nat.le_trans hb22.size (Nat.le_refl _)) fun g hg => hb22.block g (hvw.lt g hg)
              refine step_append_own _ (by rfl) _ _ _ (by rfl) wa.heap.size 43 i0 _ 9 88 Try.underlying28 hi0 hz0 hz1 hz2 rfl (by omega) (.slice (some ⟨A, 0, none⟩) 0 0) 0 [] (by rfl) hA pa l3.length c5 (rws Rc.enc l3) (by rfl) (rws_length Rc.len l3) (hvw2.newsP Rc.len (by omega)) (rws_one Rc.one l3) (by unfold maxLen; omega) (by omega) hb22.size ?_
              intro v1 w23 hown hgrow hat
              have hO : Ow w23 wa.heap.size 43 Rc.enc 9 v1 l3 := by
                rw [Nat.zero_add, List.nil_append] at hown
                exact hown
              have hAl := hA.lt A rfl
              have hb23 : Below wa.heap.size wa w23 := hb22.grown hgrow hb22.size (fun k hk => by
                have h0 : A = k := by simpa [Value.ownBlock] using hk
                omega)
              have hX' : Blk w23 X 43 #[.int .u64 (s : Int), .int .u64 0, .int .u64 0, .int .u64 (num : Int), .int .i64 0, .string ⟨#[]⟩, .string ⟨#[]⟩, .int .u64 0, .int .u64 0] := hX.grown hgrow (by show some X ≠ some A; intro e; injection e with e; exact hne e)
              have hne2 : ∀ g, v1.ownBlock = some g → g ≠ X := fun g hg e => by
                rcases hat with h0 | h0
                · rw [h0] at hg
                  have h1 : A = g := by simpa [Value.ownBlock] using hg
                  exact hne (h1.trans e).symm
                · rw [h0] at hg
                  injection hg with hg
                  have := hX.lt
                  omega
              clear hX
              have hX := hX'
              clear hX'
              refine hK.out _ _ trivial (fun _ => cs hb23) ?_
              clear hK K
              simp only [List.setIfInBounds_toArray, List.set_cons_zero, List.set_cons_succ]
              clear hvw2 hown hgrow hat hA hAl
              refine Wirey.wpAnyK_one 6 (by kernel_rfl) rfl (fun K hK => ?_)
              refine step_append_own _ (by rfl) _ _ _ (by rfl) wa.heap.size 43 i0 _ 9 88 Try.underlying28 hi0 hz0 hz1 hz2 rfl (by omega) v1 l3.length (rws Rc.enc l3) (by rfl) hO ⟨X, 0, none⟩ 1 1 (Rc.of s num).enc (by rfl) (by rfl) (World.news_of_block (cs := #[.int .u64 (s : Int), .int .u64 0, .int .u64 0, .int .u64 (num : Int), .int .i64 0, .string ⟨#[]⟩, .string ⟨#[]⟩, .int .u64 0, .int .u64 0]) (t := 43) (fr := (0, 0)) hX) (Rc.one _) (by unfold maxLen; omega) (by omega) hb23.size ?_
              intro v2 w30 hown hgrow hat
              have hO2 : Ow w30 wa.heap.size 43 Rc.enc 9 v2 (l3 ++ [Rc.of s num]) := by
                unfold Ow
                rw [List.length_append, rws_append, rws, rws, List.append_nil]
                exact hown
              have hb30 : Below wa.heap.size wa w30 := hb23.grown hgrow hb23.size (fun k hk => (hO.lt k hk).1)
              refine hK.out _ _ trivial (fun _ => cs hb30) ?_
              clear hK K
              simp only [List.setIfInBounds_toArray, List.set_cons_zero, List.set_cons_succ]
              have hSw := cs hb30
              clear hO hown hgrow hat hX
              refine early_at 8 7 57 (fuel := 1) ?_ rfl rfl (by kernel_rfl) (by kernel_rfl) (by kernel_rfl) (by decide) rfl (by kernel_rfl) (by kernel_rfl) (Or.inl ⟨by rfl, ?_⟩) hSw ?_
              rotate_left
              · intro wx hSx
                (try dsimp only at hSx)
                go_split_ands
                go_simp
                (try with_reducible rfl)
              simp only [List.setIfInBounds_toArray, List.set_cons_zero, List.set_cons_succ]
              have y1 := (hbm.below hb30 hbm.lt).cell 1
              have f1 := (hbm.below hb30 hbm.lt).free 1
              simp only [List.getElem?_toArray, List.getElem?_cons_zero, List.getElem?_cons_succ] at y1
              obtain ⟨a2, c2, rfl⟩ := hO2.form
              refine Wirey.wpAnyK_one 8 (by kernel_rfl) rfl (fun K hK => ?_)
              go_simp
              refine hK.out _ _ trivial (fun h9 => absurd h9 (by decide)) ?_
              clear hK K
              simp only [List.setIfInBounds_toArray, List.set_cons_zero, List.set_cons_succ]
              refine Wirey.wpAnyK_done (by kernel_rfl) ⟨rfl, ?_⟩
              go_wp2_with fail
              go_meet
              exact ⟨_, w30, hb30, hO2, by first | rfl | (rw [List.length_append]; rfl)⟩
        case rest =>
          obtain ⟨v2, w30, hb30, hO2, rfl⟩ := hcut
          have DB := (D3.below hb30)
          have ho2 : ∀ g, v2.ownBlock = some g → wa.heap.size ≤ g := fun g hg => (hO2.lt g hg).1
          have D4 := DB.list (hO2.vw Rc.len) (fun g hg => ⟨fun hp => by have := ho2 g hg; have := (D3.held.low g hp).2; omega, fun e => by have := ho2 g hg; have := D3.bm.lt; omega, fun e => by have := ho2 g hg; have := D3.br.lt; omega, fun e => by have := ho2 g hg; have := D3.bx.lt; omega⟩)
          have hsrc : ∀ g, v2.ownBlock = some g → (Value.slice va l.length vc).ownBlock = some g ∨ w.heap.size ≤ g := fun g hg => Or.inr (Nat.le_trans D3.mv.kp.size (ho2 g hg))
          obtain ⟨l9, hl9⟩ : ∃ l9, l9 = l3 ++ [Rc.of s num] := ⟨_, rfl⟩
          have hl9l : l9.length = l3.length + 1 := by rw [hl9]; simp
          rw [← hl9] at D4 hO2
          have HL9 := Lib.hid hl9l
          clear hl9 hl9l
          obtain ⟨a2, c2, rfl⟩ := hO2.form
          clear DB hO2 ho2 hb30 D3
          have m0 := D4.bm.cell 0
          have m1 := D4.bm.cell 1
          have m2 := D4.bm.cell 2
          simp only [List.getElem?_toArray, List.getElem?_cons_zero, List.getElem?_cons_succ] at m0 m1 m2
          have r0 := D4.br.cell 0
          have r1 := D4.br.cell 1
          have r2 := D4.br.cell 2
          have rf0 := D4.br.free 0
          have rf1 := D4.br.free 1
          have rf2 := D4.br.free 2
          simp only [List.getElem?_toArray, List.getElem?_cons_zero, List.getElem?_cons_succ] at r0 r1 r2
          have hoX : ∀ g, (.slice a2 l9.length c2 : Value).ownBlock = some g → ¬ P4 g ∧ g ≠ w.heap.size + 2 := (fun g hg => ⟨(D4.no g hg).1, (D4.no g hg).2.2.1⟩)
          obtain ⟨hT, hHo, hVo, hMo⟩ := D4.out (u := .int .u64 (Bq : Int)) (B3 := Bq) (l3 := l9) D4.vw hoX rfl
          have hN3 : ∀ g, (.slice a2 l9.length c2 : Value).ownBlock = some g → ¬ P4 g := fun g hg => (hoX g hg).1
          have HT := Lib.hid hT
          have HH := Lib.hid hHo
          have HV := Lib.hid hVo
          have HM := Lib.hid hMo
          have HN := Lib.hid hN3
          have hbd : Bq + (l9).length ≤ base + l.length + 1 := by have := HL9.out; have := HL3.out; have := HBq.out; omega
          have HBD := Lib.hid hbd
          have hs9 : ∀ g, (.slice a2 l9.length c2 : Value).ownBlock = some g → (Value.slice va l.length vc).ownBlock = some g ∨ w.heap.size ≤ g := hsrc
          have HS9 := Lib.hid hs9
          clear hs9
          clear hT hHo hVo hMo hN3 hbd hoX D4
          go_wp2_with fail
          refine bodyPost_ret (results_row_tmp rfl _ _ (w.heap.size + 2) rfl (run_loadVar_row _ _ _ _ _ _ _ HT.out Try.underlying30 rfl (by kernel_rfl))) rfl ⟨_, Bq, l9, .slice a2 l9.length c2, ?_, HH.out, HV.out, HN.out, HM.out, HBD.out, HS9.out⟩
          rfl
      · skip
        have x0 := hD.bx.cell 0
        have x1 := hD.bx.cell 1
        have x2 := hD.bx.cell 2
        have x3 := hD.bx.cell 3
        have x4 := hD.bx.cell 4
        have x5 := hD.bx.cell 5
        have x6 := hD.bx.cell 6
        have x7 := hD.bx.cell 7
        have x8 := hD.bx.cell 8
        have xf0 := hD.bx.free 0
        simp only [List.getElem?_toArray, List.getElem?_cons_zero, List.getElem?_cons_succ] at x0 x1 x2 x3 x4 x5 x6 x7 x8
        have hsl := slide_c (Rc.of s num) hslt (by omega) hD.held
        obtain ⟨e1, e2, e3⟩ : slE base l (Rc.of s num) = 0 ∧ slB base most l (Rc.of s num) = base ∧ slL base most l (Rc.of s num) = l ++ [Rc.of s num] := sl_room (show s = _ from HS.out) hfull
        rw [e1, e2, e3] at hsl
        clear e1 e2 e3
        go_wp2_with fail
        refine Calls.mono hsl ?_
        rintro e w4 ⟨rfl, P4, hH4, hM4⟩
        have D1 := hD.prog hH4 hM4
        clear hsl hM4 hH4 hD x0 x1 x2 x3 x4 x5 x6 x7 x8 xf0
        have m0 := D1.bm.cell 0
        have m1 := D1.bm.cell 1
        have m2 := D1.bm.cell 2
        simp only [List.getElem?_toArray, List.getElem?_cons_zero, List.getElem?_cons_succ] at m0 m1 m2
        have dge : decide ((most : Int) ≤ (l.length : Int)) = false := decide_eq_false (by omega)
        go_upto_region 12 with (fail)
        generalize w4 = wv at *
        go_upto_region 12 with (fail)
        generalize wv = wa at *
        clear m0 m1 m2
        go_cut [] from 11 (fun wx => ∃ v2 w30, Below wa.heap.size wa w30 ∧ Ow w30 wa.heap.size 43 Rc.enc 9 v2 (l ++ [Rc.of s num]) ∧ wx = w30.setCell ⟨w.heap.size, 1, none⟩ v2)
        case first =>
          have hbm := D1.bm
          have hbx := D1.bx
          have hvw := D1.vw
          have hll : l.length < 100000 := by omega
          cases va with
          | none =>
            obtain ⟨hl0, -, -⟩ := Vw.nil_ hvw
            have hl00 : l.length = 0 := by rw [hl0]; rfl
            have HL0 := Lib.hid hl00
            clear hl0 hl00
            have cs : ∀ {W : World}, Below wa.heap.size wa W → (fun W => W.cell? ⟨w.heap.size, 1, none⟩ = some (.slice none l.length vc) ∧ W.cell? ⟨XB, 0, none⟩ = some (.int .u64 (s : Int)) ∧ W.cell? ⟨XB, 1, none⟩ = some (.int .u64 0) ∧ W.cell? ⟨XB, 2, none⟩ = some (.int .u64 0) ∧ W.cell? ⟨XB, 3, none⟩ = some (.int .u64 (num : Int)) ∧ W.cell? ⟨XB, 4, none⟩ = some (.int .i64 0) ∧ W.cell? ⟨XB, 5, none⟩ = some (.string ⟨#[]⟩) ∧ W.cell? ⟨XB, 6, none⟩ = some (.string ⟨#[]⟩) ∧ W.cell? ⟨XB, 7, none⟩ = some (.int .u64 0) ∧ W.cell? ⟨XB, 8, none⟩ = some (.int .u64 0)) W := fun {W} hW => ⟨(hbm.below hW hbm.lt).cell 1, (hbx.below hW hbx.lt).cell 0, (hbx.below hW hbx.lt).cell 1, (hbx.below hW hbx.lt).cell 2, (hbx.below hW hbx.lt).cell 3, (hbx.below hW hbx.lt).cell 4, (hbx.below hW hbx.lt).cell 5, (hbx.below hW hbx.lt).cell 6, (hbx.below hW hbx.lt).cell 7, (hbx.below hW hbx.lt).cell 8⟩
            have hb0 : Below wa.heap.size wa wa.drew := (Below.refl _ _).drew
            have V0 := cs hb0
            dsimp only at V0
            refine regionK_only 9 #[false, false, false, false, false, false, false, false, false] 8 (V := (fun W => W.cell? ⟨w.heap.size, 1, none⟩ = some (.slice none l.length vc) ∧ W.cell? ⟨XB, 0, none⟩ = some (.int .u64 (s : Int)) ∧ W.cell? ⟨XB, 1, none⟩ = some (.int .u64 0) ∧ W.cell? ⟨XB, 2, none⟩ = some (.int .u64 0) ∧ W.cell? ⟨XB, 3, none⟩ = some (.int .u64 (num : Int)) ∧ W.cell? ⟨XB, 4, none⟩ = some (.int .i64 0) ∧ W.cell? ⟨XB, 5, none⟩ = some (.string ⟨#[]⟩) ∧ W.cell? ⟨XB, 6, none⟩ = some (.string ⟨#[]⟩) ∧ W.cell? ⟨XB, 7, none⟩ = some (.int .u64 0) ∧ W.cell? ⟨XB, 8, none⟩ = some (.int .u64 0))) rfl rfl (by kernel_rfl) V0 (fun hSw => ?_)
            generalize wa.drew = w20 at hb0 hSw ⊢
            clear V0
            have hb20 := hb0
            clear hb0
            refine early_at 8 1 51 (fuel := 8) ?_ rfl rfl (by kernel_rfl) (by kernel_rfl) (by kernel_rfl) (by decide) rfl (by kernel_rfl) (by kernel_rfl) (Or.inl ⟨by rfl, ?_⟩) hSw ?_
            rotate_left
            · intro wx hSx
              (try dsimp only at hSx)
              go_split_ands
              go_simp
              (try with_reducible rfl)
            simp only [List.setIfInBounds_toArray, List.set_cons_zero, List.set_cons_succ]
            refine early_at 8 2 52 (fuel := 7) ?_ rfl rfl (by kernel_rfl) (by kernel_rfl) (by kernel_rfl) (by decide) rfl (by kernel_rfl) (by kernel_rfl) (Or.inl ⟨by rfl, ?_⟩) hSw ?_
            rotate_left
            · intro wx hSx
              (try dsimp only at hSx)
              go_split_ands
              go_simp
              (try with_reducible rfl)
            simp only [List.setIfInBounds_toArray, List.set_cons_zero, List.set_cons_succ]
            refine early_at 8 4 54 (fuel := 6) ?_ rfl rfl (by kernel_rfl) (by kernel_rfl) (by kernel_rfl) (by decide) rfl (by kernel_rfl) (by kernel_rfl) (Or.inl ⟨by rfl, ?_⟩) hSw ?_
            rotate_left
            · intro wx hSx
              (try dsimp only at hSx)
              go_split_ands
              go_simp
              (try with_reducible rfl)
            simp only [List.setIfInBounds_toArray, List.set_cons_zero, List.set_cons_succ]
            refine wpAnyK_two 0 5 (by kernel_rfl) rfl rfl (fun K hK => ?_) (fun K hK => ?_)
            · skip
              go_simp
              have hb21 : Below wa.heap.size wa (w20.alloc (.cells #[] 43)) := hb20.alloc hb20.size _
              refine hK.out _ _ trivial (fun _ => cs hb21) ?_
              clear hK K
              simp only [List.setIfInBounds_toArray, List.set_cons_zero]
              have hA : Ow (w20.alloc (.cells #[] 43)) wa.heap.size 43 Rc.enc 9 (.slice (some ⟨w20.heap.size, 0, none⟩) 0 0) [] := Ow.empty w20 wa.heap.size hb20.size
              generalize w20.alloc (.cells #[] 43) = w21 at *
              generalize w20.heap.size = A at *
              refine wpAnyK_two 3 5 (by kernel_rfl) rfl rfl (fun K hK => ?_) (fun K hK => ?_)
              · skip
                refine step_append_nil _ (by rfl) _ _ _ (by rfl) 43 i0 Try.underlying28 hi0 (some ⟨A, 0, none⟩) 0 0 (by rfl) (Nat.le_refl _) l.length vc (by rfl) HL0.out ?_
                refine hK.out _ _ trivial (fun _ => cs hb21) ?_
                clear hK K
                simp only [List.setIfInBounds_toArray, List.set_cons_zero, List.set_cons_succ]
                have hO : Ow w21 wa.heap.size 43 Rc.enc 9 (.slice (some ⟨A, 0, none⟩) 0 0) l := by rw [List.length_eq_zero_iff.1 HL0.out]; exact hA
                obtain ⟨v1, hv1⟩ : ∃ v, v = Value.slice (some ⟨A, 0, none⟩) 0 0 := ⟨_, rfl⟩
                rw [← hv1] at hO ⊢
                clear hv1 hA
                refine Wirey.wpAnyK_one 5 (by kernel_rfl) rfl (fun K hK => ?_)
                go_simp
                have hb23 : Below wa.heap.size wa (w21.alloc (.cells #[.int .u64 (s : Int), .int .u64 0, .int .u64 0, .int .u64 (num : Int), .int .i64 0, .string ⟨#[]⟩, .string ⟨#[]⟩, .int .u64 0, .int .u64 0] 43)) := hb21.alloc hb21.size _
                refine hK.out _ _ trivial (fun _ => cs hb23) ?_
                clear hK K
                simp only [List.setIfInBounds_toArray, List.set_cons_zero, List.set_cons_succ]
                have hX := Blk.new w21 43 #[.int .u64 (s : Int), .int .u64 0, .int .u64 0, .int .u64 (num : Int), .int .i64 0, .string ⟨#[]⟩, .string ⟨#[]⟩, .int .u64 0, .int .u64 0]
                have hne2 : ∀ g, v1.ownBlock = some g → g ≠ w21.heap.size := fun g hg e => by have := (hO.lt g hg).2; omega
                have hO' := hO.alloc (.cells #[.int .u64 (s : Int), .int .u64 0, .int .u64 0, .int .u64 (num : Int), .int .i64 0, .string ⟨#[]⟩, .string ⟨#[]⟩, .int .u64 0, .int .u64 0] 43)
                clear hO
                have hO := hO'
                clear hO'
                generalize w21.alloc (.cells #[.int .u64 (s : Int), .int .u64 0, .int .u64 0, .int .u64 (num : Int), .int .i64 0, .string ⟨#[]⟩, .string ⟨#[]⟩, .int .u64 0, .int .u64 0] 43) = w23 at *
                generalize w21.heap.size = X at *
                refine Wirey.wpAnyK_one 6 (by kernel_rfl) rfl (fun K hK => ?_)
                refine step_append_own _ (by rfl) _ _ _ (by rfl) wa.heap.size 43 i0 _ 9 88 Try.underlying28 hi0 hz0 hz1 hz2 rfl (by omega) v1 l.length (rws Rc.enc l) (by rfl) hO ⟨X, 0, none⟩ 1 1 (Rc.of s num).enc (by rfl) (by rfl) (World.news_of_block (cs := #[.int .u64 (s : Int), .int .u64 0, .int .u64 0, .int .u64 (num : Int), .int .i64 0, .string ⟨#[]⟩, .string ⟨#[]⟩, .int .u64 0, .int .u64 0]) (t := 43) (fr := (0, 0)) hX) (Rc.one _) (by unfold maxLen; omega) (by omega) hb23.size ?_
                intro v2 w30 hown hgrow hat
                have hO2 : Ow w30 wa.heap.size 43 Rc.enc 9 v2 (l ++ [Rc.of s num]) := by
                  unfold Ow
                  rw [List.length_append, rws_append, rws, rws, List.append_nil]
                  exact hown
                have hb30 : Below wa.heap.size wa w30 := hb23.grown hgrow hb23.size (fun k hk => (hO.lt k hk).1)
                refine hK.out _ _ trivial (fun _ => cs hb30) ?_
                clear hK K
                simp only [List.setIfInBounds_toArray, List.set_cons_zero, List.set_cons_succ]
                have hSw := cs hb30
                clear hO hown hgrow hat hX
                refine early_at 8 7 57 (fuel := 1) ?_ rfl rfl (by kernel_rfl) (by kernel_rfl) (by kernel_rfl) (by decide) rfl (by kernel_rfl) (by kernel_rfl) (Or.inl ⟨by rfl, ?_⟩) hSw ?_
                rotate_left
                · intro wx hSx
                  (try dsimp only at hSx)
                  go_split_ands
                  go_simp
                  (try with_reducible rfl)
                simp only [List.setIfInBounds_toArray, List.set_cons_zero, List.set_cons_succ]
                have y1 := (hbm.below hb30 hbm.lt).cell 1
                have f1 := (hbm.below hb30 hbm.lt).free 1
                simp only [List.getElem?_toArray, List.getElem?_cons_zero, List.getElem?_cons_succ] at y1
                obtain ⟨a2, c2, rfl⟩ := hO2.form
                refine Wirey.wpAnyK_one 8 (by kernel_rfl) rfl (fun K hK => ?_)
                go_simp
                refine hK.out _ _ trivial (fun h9 => absurd h9 (by decide)) ?_
                clear hK K
                simp only [List.setIfInBounds_toArray, List.set_cons_zero, List.set_cons_succ]
                refine Wirey.wpAnyK_done (by kernel_rfl) ⟨rfl, ?_⟩
                go_wp2_with fail
                go_meet
                exact ⟨_, w30, hb30, hO2, by first | rfl | (rw [List.length_append]; rfl)⟩
              · skip
                go_simp
                have hb22 : Below wa.heap.size wa (w21.alloc (.cells #[.int .u64 (s : Int), .int .u64 0, .int .u64 0, .int .u64 (num : Int), .int .i64 0, .string ⟨#[]⟩, .string ⟨#[]⟩, .int .u64 0, .int .u64 0] 43)) := hb21.alloc hb21.size _
                refine hK.out _ _ trivial (fun _ => cs hb22) ?_
                clear hK K
                simp only [List.setIfInBounds_toArray, List.set_cons_zero, List.set_cons_succ]
                have hX := Blk.new w21 43 #[.int .u64 (s : Int), .int .u64 0, .int .u64 0, .int .u64 (num : Int), .int .i64 0, .string ⟨#[]⟩, .string ⟨#[]⟩, .int .u64 0, .int .u64 0]
                have hne : w21.heap.size ≠ A := fun e => by have := (hA.lt A rfl).2; omega
                have hA' := hA.alloc (.cells #[.int .u64 (s : Int), .int .u64 0, .int .u64 0, .int .u64 (num : Int), .int .i64 0, .string ⟨#[]⟩, .string ⟨#[]⟩, .int .u64 0, .int .u64 0] 43)
                clear hA
                have hA := hA'
                clear hA'
                generalize w21.alloc (.cells #[.int .u64 (s : Int), .int .u64 0, .int .u64 0, .int .u64 (num : Int), .int .i64 0, .string ⟨#[]⟩, .string ⟨#[]⟩, .int .u64 0, .int .u64 0] 43) = w22 at *
                generalize w21.heap.size = X at *
                refine Wirey.wpAnyK_one 3 (by kernel_rfl) rfl (fun K hK => ?_)
                refine step_append_nil _ (by rfl) _ _ _ (by rfl) 43 i0 Try.underlying28 hi0 (some ⟨A, 0, none⟩) 0 0 (by rfl) (Nat.le_refl _) l.length vc (by rfl) HL0.out ?_
                refine hK.out _ _ trivial (fun _ => cs hb22) ?_
                clear hK K
                simp only [List.setIfInBounds_toArray, List.set_cons_zero, List.set_cons_succ]
                have hO : Ow w22 wa.heap.size 43 Rc.enc 9 (.slice (some ⟨A, 0, none⟩) 0 0) l := by rw [List.length_eq_zero_iff.1 HL0.out]; exact hA
                obtain ⟨v1, hv1⟩ : ∃ v, v = Value.slice (some ⟨A, 0, none⟩) 0 0 := ⟨_, rfl⟩
                rw [← hv1] at hO ⊢
                have hne2 : ∀ g, v1.ownBlock = some g → g ≠ X := fun g hg e => by
                  rw [hv1] at hg
                  have h0 : A = g := by simpa [Value.ownBlock] using hg
                  omega
                clear hv1 hA
                refine Wirey.wpAnyK_one 6 (by kernel_rfl) rfl (fun K hK => ?_)
                refine step_append_own _ (by rfl) _ _ _ (by rfl) wa.heap.size 43 i0 _ 9 88 Try.underlying28 hi0 hz0 hz1 hz2 rfl (by omega) v1 l.length (rws Rc.enc l) (by rfl) hO ⟨X, 0, none⟩ 1 1 (Rc.of s num).enc (by rfl) (by rfl) (World.news_of_block (cs := #[.int .u64 (s : Int), .int .u64 0, .int .u64 0, .int .u64 (num : Int), .int .i64 0, .string ⟨#[]⟩, .string ⟨#[]⟩, .int .u64 0, .int .u64 0]) (t := 43) (fr := (0, 0)) hX) (Rc.one _) (by unfold maxLen; omega) (by omega) hb22.size ?_
                intro v2 w30 hown hgrow hat
                have hO2 : Ow w30 wa.heap.size 43 Rc.enc 9 v2 (l ++ [Rc.of s num]) := by
                  unfold Ow
                  rw [List.length_append, rws_append, rws, rws, List.append_nil]
                  exact hown
                have hb30 : Below wa.heap.size wa w30 := hb22.grown hgrow hb22.size (fun k hk => (hO.lt k hk).1)
                refine hK.out _ _ trivial (fun _ => cs hb30) ?_
                clear hK K
                simp only [List.setIfInBounds_toArray, List.set_cons_zero, List.set_cons_succ]
                have hSw := cs hb30
                clear hO hown hgrow hat hX
                refine early_at 8 7 57 (fuel := 1) ?_ rfl rfl (by kernel_rfl) (by kernel_rfl) (by kernel_rfl) (by decide) rfl (by kernel_rfl) (by kernel_rfl) (Or.inl ⟨by rfl, ?_⟩) hSw ?_
                rotate_left
                · intro wx hSx
                  (try dsimp only at hSx)
                  go_split_ands
                  go_simp
                  (try with_reducible rfl)
                simp only [List.setIfInBounds_toArray, List.set_cons_zero, List.set_cons_succ]
                have y1 := (hbm.below hb30 hbm.lt).cell 1
                have f1 := (hbm.below hb30 hbm.lt).free 1
                simp only [List.getElem?_toArray, List.getElem?_cons_zero, List.getElem?_cons_succ] at y1
                obtain ⟨a2, c2, rfl⟩ := hO2.form
                refine Wirey.wpAnyK_one 8 (by kernel_rfl) rfl (fun K hK => ?_)
                go_simp
                refine hK.out _ _ trivial (fun h9 => absurd h9 (by decide)) ?_
                clear hK K
                simp only [List.setIfInBounds_toArray, List.set_cons_zero, List.set_cons_succ]
                refine Wirey.wpAnyK_done (by kernel_rfl) ⟨rfl, ?_⟩
                go_wp2_with fail
                go_meet
                exact ⟨_, w30, hb30, hO2, by first | rfl | (rw [List.length_append]; rfl)⟩
            · skip
              go_simp
              have hb21 : Below wa.heap.size wa (w20.alloc (.cells #[.int .u64 (s : Int), .int .u64 0, .int .u64 0, .int .u64 (num : Int), .int .i64 0, .string ⟨#[]⟩, .string ⟨#[]⟩, .int .u64 0, .int .u64 0] 43)) := hb20.alloc hb20.size _
              refine hK.out _ _ trivial (fun _ => cs hb21) ?_
              clear hK K
              simp only [List.setIfInBounds_toArray, List.set_cons_zero, List.set_cons_succ]
              have hX := Blk.new w20 43 #[.int .u64 (s : Int), .int .u64 0, .int .u64 0, .int .u64 (num : Int), .int .i64 0, .string ⟨#[]⟩, .string ⟨#[]⟩, .int .u64 0, .int .u64 0]
              generalize w20.alloc (.cells #[.int .u64 (s : Int), .int .u64 0, .int .u64 0, .int .u64 (num : Int), .int .i64 0, .string ⟨#[]⟩, .string ⟨#[]⟩, .int .u64 0, .int .u64 0] 43) = w21 at *
              generalize w20.heap.size = X at *
              refine Wirey.wpAnyK_one 0 (by kernel_rfl) rfl (fun K hK => ?_)
              go_simp
              have hb22 : Below wa.heap.size wa (w21.alloc (.cells #[] 43)) := hb21.alloc hb21.size _
              refine hK.out _ _ trivial (fun _ => cs hb22) ?_
              clear hK K
              simp only [List.setIfInBounds_toArray, List.set_cons_zero]
              have hA : Ow (w21.alloc (.cells #[] 43)) wa.heap.size 43 Rc.enc 9 (.slice (some ⟨w21.heap.size, 0, none⟩) 0 0) [] := Ow.empty w21 wa.heap.size hb21.size
              have hne : X ≠ w21.heap.size := Nat.ne_of_lt hX.lt
              have hX' := hX.alloc (.cells #[] 43)
              clear hX
              have hX := hX'
              clear hX'
              generalize w21.alloc (.cells #[] 43) = w22 at *
              generalize w21.heap.size = A at *
              refine Wirey.wpAnyK_one 3 (by kernel_rfl) rfl (fun K hK => ?_)
              refine step_append_nil _ (by rfl) _ _ _ (by rfl) 43 i0 Try.underlying28 hi0 (some ⟨A, 0, none⟩) 0 0 (by rfl) (Nat.le_refl _) l.length vc (by rfl) HL0.out ?_
              refine hK.out _ _ trivial (fun _ => cs hb22) ?_
              clear hK K
              simp only [List.setIfInBounds_toArray, List.set_cons_zero, List.set_cons_succ]
              have hO : Ow w22 wa.heap.size 43 Rc.enc 9 (.slice (some ⟨A, 0, none⟩) 0 0) l := by rw [List.length_eq_zero_iff.1 HL0.out]; exact hA
              obtain ⟨v1, hv1⟩ : ∃ v, v = Value.slice (some ⟨A, 0, none⟩) 0 0 := ⟨_, rfl⟩
              rw [← hv1] at hO ⊢
              have hne2 : ∀ g, v1.ownBlock = some g → g ≠ X := fun g hg e => by
                rw [hv1] at hg
                have h0 : A = g := by simpa [Value.ownBlock] using hg
                omega
              clear hv1 hA
              refine Wirey.wpAnyK_one 6 (by kernel_rfl) rfl (fun K hK => ?_)
              refine step_append_own _ (by rfl) _ _ _ (by rfl) wa.heap.size 43 i0 _ 9 88 Try.underlying28 hi0 hz0 hz1 hz2 rfl (by omega) v1 l.length (rws Rc.enc l) (by rfl) hO ⟨X, 0, none⟩ 1 1 (Rc.of s num).enc (by rfl) (by rfl) (World.news_of_block (cs := #[.int .u64 (s : Int), .int .u64 0, .int .u64 0, .int .u64 (num : Int), .int .i64 0, .string ⟨#[]⟩, .string ⟨#[]⟩, .int .u64 0, .int .u64 0]) (t := 43) (fr := (0, 0)) hX) (Rc.one _) (by unfold maxLen; omega) (by omega) hb22.size ?_
              intro v2 w30 hown hgrow hat
              have hO2 : Ow w30 wa.heap.size 43 Rc.enc 9 v2 (l ++ [Rc.of s num]) := by
                unfold Ow
                rw [List.length_append, rws_append, rws, rws, List.append_nil]
                exact hown
              have hb30 : Below wa.heap.size wa w30 := hb22.grown hgrow hb22.size (fun k hk => (hO.lt k hk).1)
              refine hK.out _ _ trivial (fun _ => cs hb30) ?_
              clear hK K
              simp only [List.setIfInBounds_toArray, List.set_cons_zero, List.set_cons_succ]
              have hSw := cs hb30
              clear hO hown hgrow hat hX
              refine early_at 8 7 57 (fuel := 1) ?_ rfl rfl (by kernel_rfl) (by kernel_rfl) (by kernel_rfl) (by decide) rfl (by kernel_rfl) (by kernel_rfl) (Or.inl ⟨by rfl, ?_⟩) hSw ?_
              rotate_left
              · intro wx hSx
                (try dsimp only at hSx)
                go_split_ands
                go_simp
                (try with_reducible rfl)
              simp only [List.setIfInBounds_toArray, List.set_cons_zero, List.set_cons_succ]
              have y1 := (hbm.below hb30 hbm.lt).cell 1
              have f1 := (hbm.below hb30 hbm.lt).free 1
              simp only [List.getElem?_toArray, List.getElem?_cons_zero, List.getElem?_cons_succ] at y1
              obtain ⟨a2, c2, rfl⟩ := hO2.form
              refine Wirey.wpAnyK_one 8 (by kernel_rfl) rfl (fun K hK => ?_)
              go_simp
              refine hK.out _ _ trivial (fun h9 => absurd h9 (by decide)) ?_
              clear hK K
              simp only [List.setIfInBounds_toArray, List.set_cons_zero, List.set_cons_succ]
              refine Wirey.wpAnyK_done (by kernel_rfl) ⟨rfl, ?_⟩
              go_wp2_with fail
              go_meet
              exact ⟨_, w30, hb30, hO2, by first | rfl | (rw [List.length_append]; rfl)⟩
          | some pa =>
            have cs : ∀ {W : World}, Below wa.heap.size wa W → (fun W => W.cell? ⟨w.heap.size, 1, none⟩ = some (.slice (some pa) l.length vc) ∧ W.cell? ⟨XB, 0, none⟩ = some (.int .u64 (s : Int)) ∧ W.cell? ⟨XB, 1, none⟩ = some (.int .u64 0) ∧ W.cell? ⟨XB, 2, none⟩ = some (.int .u64 0) ∧ W.cell? ⟨XB, 3, none⟩ = some (.int .u64 (num : Int)) ∧ W.cell? ⟨XB, 4, none⟩ = some (.int .i64 0) ∧ W.cell? ⟨XB, 5, none⟩ = some (.string ⟨#[]⟩) ∧ W.cell? ⟨XB, 6, none⟩ = some (.string ⟨#[]⟩) ∧ W.cell? ⟨XB, 7, none⟩ = some (.int .u64 0) ∧ W.cell? ⟨XB, 8, none⟩ = some (.int .u64 0)) W := fun {W} hW => ⟨(hbm.below hW hbm.lt).cell 1, (hbx.below hW hbx.lt).cell 0, (hbx.below hW hbx.lt).cell 1, (hbx.below hW hbx.lt).cell 2, (hbx.below hW hbx.lt).cell 3, (hbx.below hW hbx.lt).cell 4, (hbx.below hW hbx.lt).cell 5, (hbx.below hW hbx.lt).cell 6, (hbx.below hW hbx.lt).cell 7, (hbx.below hW hbx.lt).cell 8⟩
            have hb0 : Below wa.heap.size wa wa.drew := (Below.refl _ _).drew
            have V0 := cs hb0
            dsimp only at V0
            refine regionK_only 9 #[false, false, false, false, false, false, false, false, false] 8 (V := (fun W => W.cell? ⟨w.heap.size, 1, none⟩ = some (.slice (some pa) l.length vc) ∧ W.cell? ⟨XB, 0, none⟩ = some (.int .u64 (s : Int)) ∧ W.cell? ⟨XB, 1, none⟩ = some (.int .u64 0) ∧ W.cell? ⟨XB, 2, none⟩ = some (.int .u64 0) ∧ W.cell? ⟨XB, 3, none⟩ = some (.int .u64 (num : Int)) ∧ W.cell? ⟨XB, 4, none⟩ = some (.int .i64 0) ∧ W.cell? ⟨XB, 5, none⟩ = some (.string ⟨#[]⟩) ∧ W.cell? ⟨XB, 6, none⟩ = some (.string ⟨#[]⟩) ∧ W.cell? ⟨XB, 7, none⟩ = some (.int .u64 0) ∧ W.cell? ⟨XB, 8, none⟩ = some (.int .u64 0))) rfl rfl (by kernel_rfl) V0 (fun hSw => ?_)
            generalize wa.drew = w20 at hb0 hSw ⊢
            clear V0
            have hb20 := hb0
            clear hb0
            refine early_at 8 1 51 (fuel := 8) ?_ rfl rfl (by kernel_rfl) (by kernel_rfl) (by kernel_rfl) (by decide) rfl (by kernel_rfl) (by kernel_rfl) (Or.inl ⟨by rfl, ?_⟩) hSw ?_
            rotate_left
            · intro wx hSx
              (try dsimp only at hSx)
              go_split_ands
              go_simp
              (try with_reducible rfl)
            simp only [List.setIfInBounds_toArray, List.set_cons_zero, List.set_cons_succ]
            refine early_at 8 2 52 (fuel := 7) ?_ rfl rfl (by kernel_rfl) (by kernel_rfl) (by kernel_rfl) (by decide) rfl (by kernel_rfl) (by kernel_rfl) (Or.inl ⟨by rfl, ?_⟩) hSw ?_
            rotate_left
            · intro wx hSx
              (try dsimp only at hSx)
              go_split_ands
              go_simp
              (try with_reducible rfl)
            simp only [List.setIfInBounds_toArray, List.set_cons_zero, List.set_cons_succ]
            refine early_at 8 4 54 (fuel := 6) ?_ rfl rfl (by kernel_rfl) (by kernel_rfl) (by kernel_rfl) (by decide) rfl (by kernel_rfl) (by kernel_rfl) (Or.inl ⟨by rfl, ?_⟩) hSw ?_
            rotate_left
            · intro wx hSx
              (try dsimp only at hSx)
              go_split_ands
              go_simp
              (try with_reducible rfl)
            simp only [List.setIfInBounds_toArray, List.set_cons_zero, List.set_cons_succ]
            refine wpAnyK_two 0 5 (by kernel_rfl) rfl rfl (fun K hK => ?_) (fun K hK => ?_)
            · skip
              go_simp
              have hb21 : Below wa.heap.size wa (w20.alloc (.cells #[] 43)) := hb20.alloc hb20.size _
              refine hK.out _ _ trivial (fun _ => cs hb21) ?_
              clear hK K
              simp only [List.setIfInBounds_toArray, List.set_cons_zero]
              have hA : Ow (w20.alloc (.cells #[] 43)) wa.heap.size 43 Rc.enc 9 (.slice (some ⟨w20.heap.size, 0, none⟩) 0 0) [] := Ow.empty w20 wa.heap.size hb20.size
              generalize w20.alloc (.cells #[] 43) = w21 at *
              generalize w20.heap.size = A at *
              refine wpAnyK_two 3 5 (by kernel_rfl) rfl rfl (fun K hK => ?_) (fun K hK => ?_)
              · skip
                have hvw2 : Vw w21 Rc.enc 9 (.slice (some pa) l.length vc) l := hvw.stay (Nat.le_trans hb21.size (Nat.le_refl _)) fun g hg => hb21.block g (hvw.lt g hg)
                refine step_append_own _ (by rfl) _ _ _ (by rfl) wa.heap.size 43 i0 _ 9 88 Try.underlying28 hi0 hz0 hz1 hz2 rfl (by omega) (.slice (some ⟨A, 0, none⟩) 0 0) 0 [] (by rfl) hA pa l.length vc (rws Rc.enc l) (by rfl) (rws_length Rc.len l) (hvw2.newsP Rc.len (by omega)) (rws_one Rc.one l) (by unfold maxLen; omega) (by omega) hb21.size ?_
                intro v1 w22 hown hgrow hat
                have hO : Ow w22 wa.heap.size 43 Rc.enc 9 v1 l := by
                  rw [Nat.zero_add, List.nil_append] at hown
                  exact hown
                have hAl := hA.lt A rfl
                have hb22 : Below wa.heap.size wa w22 := hb21.grown hgrow hb21.size (fun k hk => by
                  have h0 : A = k := by simpa [Value.ownBlock] using hk
                  omega)
                refine hK.out _ _ trivial (fun _ => cs hb22) ?_
                clear hK K
                simp only [List.setIfInBounds_toArray, List.set_cons_zero, List.set_cons_succ]
                clear hvw2 hown hgrow hat hA hAl
                refine Wirey.wpAnyK_one 5 (by kernel_rfl) rfl (fun K hK => ?_)
                go_simp
                have hb23 : Below wa.heap.size wa (w22.alloc (.cells #[.int .u64 (s : Int), .int .u64 0, .int .u64 0, .int .u64 (num : Int), .int .i64 0, .string ⟨#[]⟩, .string ⟨#[]⟩, .int .u64 0, .int .u64 0] 43)) := hb22.alloc hb22.size _
                refine hK.out _ _ trivial (fun _ => cs hb23) ?_
                clear hK K
                simp only [List.setIfInBounds_toArray, List.set_cons_zero, List.set_cons_succ]
                have hX := Blk.new w22 43 #[.int .u64 (s : Int), .int .u64 0, .int .u64 0, .int .u64 (num : Int), .int .i64 0, .string ⟨#[]⟩, .string ⟨#[]⟩, .int .u64 0, .int .u64 0]
                have hne2 : ∀ g, v1.ownBlock = some g → g ≠ w22.heap.size := fun g hg e => by have := (hO.lt g hg).2; omega
                have hO' := hO.alloc (.cells #[.int .u64 (s : Int), .int .u64 0, .int .u64 0, .int .u64 (num : Int), .int .i64 0, .string ⟨#[]⟩, .string ⟨#[]⟩, .int .u64 0, .int .u64 0] 43)
                clear hO
                have hO := hO'
                clear hO'
                generalize w22.alloc (.cells #[.int .u64 (s : Int), .int .u64 0, .int .u64 0, .int .u64 (num : Int), .int .i64 0, .string ⟨#[]⟩, .string ⟨#[]⟩, .int .u64 0, .int .u64 0] 43) = w23 at *
                generalize w22.heap.size = X at *
                refine Wirey.wpAnyK_one 6 (by kernel_rfl) rfl (fun K hK => ?_)
                refine step_append_own _ (by rfl) _ _ _ (by rfl) wa.heap.size 43 i0 _ 9 88 Try.underlying28 hi0 hz0 hz1 hz2 rfl (by omega) v1 l.length (rws Rc.enc l) (by rfl) hO ⟨X, 0, none⟩ 1 1 (Rc.of s num).enc (by rfl) (by rfl) (World.news_of_block (cs := #[.int .u64 (s : Int), .int .u64 0, .int .u64 0, .int .u64 (num : Int), .int .i64 0, .string ⟨#[]⟩, .string ⟨#[]⟩, .int .u64 0, .int .u64 0]) (t := 43) (fr := (0, 0)) hX) (Rc.one _) (by unfold maxLen; omega) (by omega) hb23.size ?_
                intro v2 w30 hown hgrow hat
                have hO2 : Ow w30 wa.heap.size 43 Rc.enc 9 v2 (l ++ [Rc.of s num]) := by
                  unfold Ow
                  rw [List.length_append, rws_append, rws, rws, List.append_nil]
                  exact hown
                have hb30 : Below wa.heap.size wa w30 := hb23.grown hgrow hb23.size (fun k hk => (hO.lt k hk).1)
                refine hK.out _ _ trivial (fun _ => cs hb30) ?_
                clear hK K
                simp only [List.setIfInBounds_toArray, List.set_cons_zero, List.set_cons_succ]
                have hSw := cs hb30
                clear hO hown hgrow hat hX
                refine early_at 8 7 57 (fuel := 1) ?_ rfl rfl (by kernel_rfl) (by kernel_rfl) (by kernel_rfl) (by decide) rfl (by kernel_rfl) (by kernel_rfl) (Or.inl ⟨by rfl, ?_⟩) hSw ?_
                rotate_left
                · intro wx hSx
                  (try dsimp only at hSx)
                  go_split_ands
                  go_simp
                  (try with_reducible rfl)
                simp only [List.setIfInBounds_toArray, List.set_cons_zero, List.set_cons_succ]
                have y1 := (hbm.below hb30 hbm.lt).cell 1
                have f1 := (hbm.below hb30 hbm.lt).free 1
                simp only [List.getElem?_toArray, List.getElem?_cons_zero, List.getElem?_cons_succ] at y1
                obtain ⟨a2, c2, rfl⟩ := hO2.form
                refine Wirey.wpAnyK_one 8 (by kernel_rfl) rfl (fun K hK => ?_)
                go_simp
                refine hK.out _ _ trivial (fun h9 => absurd h9 (by decide)) ?_
                clear hK K
                simp only [List.setIfInBounds_toArray, List.set_cons_zero, List.set_cons_succ]
                refine Wirey.wpAnyK_done (by kernel_rfl) ⟨rfl, ?_⟩
                go_wp2_with fail
                go_meet
                exact ⟨_, w30, hb30, hO2, by first | rfl | (rw [List.length_append]; rfl)⟩
              · skip
                go_simp
                have hb22 : Below wa.heap.size wa (w21.alloc (.cells #[.int .u64 (s : Int), .int .u64 0, .int .u64 0, .int .u64 (num : Int), .int .i64 0, .string ⟨#[]⟩, .string ⟨#[]⟩, .int .u64 0, .int .u64 0] 43)) := hb21.alloc hb21.size _
                refine hK.out _ _ trivial (fun _ => cs hb22) ?_
                clear hK K
                simp only [List.setIfInBounds_toArray, List.set_cons_zero, List.set_cons_succ]
                have hX := Blk.new w21 43 #[.int .u64 (s : Int), .int .u64 0, .int .u64 0, .int .u64 (num : Int), .int .i64 0, .string ⟨#[]⟩, .string ⟨#[]⟩, .int .u64 0, .int .u64 0]
                have hne : w21.heap.size ≠ A := fun e => by have := (hA.lt A rfl).2; omega
                have hA' := hA.alloc (.cells #[.int .u64 (s : Int), .int .u64 0, .int .u64 0, .int .u64 (num : Int), .int .i64 0, .string ⟨#[]⟩, .string ⟨#[]⟩, .int .u64 0, .int .u64 0] 43)
                clear hA
                have hA := hA'
                clear hA'
                generalize w21.alloc (.cells #[.int .u64 (s : Int), .int .u64 0, .int .u64 0, .int .u64 (num : Int), .int .i64 0, .string ⟨#[]⟩, .string ⟨#[]⟩, .int .u64 0, .int .u64 0] 43) = w22 at *
                generalize w21.heap.size = X at *
                refine Wirey.wpAnyK_one 3 (by kernel_rfl) rfl (fun K hK => ?_)
                have hvw2 : Vw w22 Rc.enc 9 (.slice (some pa) l.length vc) l := hvw.stay (Nat.le_trans hb22.size (Nat.le_refl _)) fun g hg => hb22.block g (hvw.lt g hg)
                refine step_append_own _ (by rfl) _ _ _ (by rfl) wa.heap.size 43 i0 _ 9 88 Try.underlying28 hi0 hz0 hz1 hz2 rfl (by omega) (.slice (some ⟨A, 0, none⟩) 0 0) 0 [] (by rfl) hA pa l.length vc (rws Rc.enc l) (by rfl) (rws_length Rc.len l) (hvw2.newsP Rc.len (by omega)) (rws_one Rc.one l) (by unfold maxLen; omega) (by omega) hb22.size ?_
                intro v1 w23 hown hgrow hat
                have hO : Ow w23 wa.heap.size 43 Rc.enc 9 v1 l := by
                  rw [Nat.zero_add, List.nil_append] at hown
                  exact hown
                have hAl := hA.lt A rfl
                have hb23 : Below wa.heap.size wa w23 := hb22.grown hgrow hb22.size (fun k hk => by
                  have h0 : A = k := by simpa [Value.ownBlock] using hk
                  omega)
                have hX' : Blk w23 X 43 #[.int .u64 (s : Int), .int .u64 0, .int .u64 0, .int .u64 (num : Int), .int .i64 0, .string ⟨#[]⟩, .string ⟨#[]⟩, .int .u64 0, .int .u64 0] := hX.grown hgrow (by show some X ≠ some A; intro e; injection e with e; exact hne e)
                have hne2 : ∀ g, v1.ownBlock = some g → g ≠ X := fun g hg e => by
                  rcases hat with h0 | h0
                  · rw [h0] at hg
                    have h1 : A = g := by simpa [Value.ownBlock] using hg
                    exact hne (h1.trans e).symm
                  · rw [h0] at hg
                    injection hg with hg
                    have := hX.lt
                    omega
                clear hX
                have hX := hX'
                clear hX'
                refine hK.out _ _ trivial (fun _ => cs hb23) ?_
                clear hK K
                simp only [List.setIfInBounds_toArray, List.set_cons_zero, List.set_cons_succ]
                clear hvw2 hown hgrow hat hA hAl
                refine Wirey.wpAnyK_one 6 (by kernel_rfl) rfl (fun K hK => ?_)
                refine step_append_own _ (by rfl) _ _ _ (by rfl) wa.heap.size 43 i0 _ 9 88 Try.underlying28 hi0 hz0 hz1 hz2 rfl (by omega) v1 l.length (rws Rc.enc l) (by rfl) hO ⟨X, 0, none⟩ 1 1 (Rc.of s num).enc (by rfl) (by rfl) (World.news_of_block (cs := #[.int .u64 (s : Int), .int .u64 0, .int .u64 0, .int .u64 (num : Int), .int .i64 0, .string ⟨#[]⟩, .string ⟨#[]⟩, .int .u64 0, .int .u64 0]) (t := 43) (fr := (0, 0)) hX) (Rc.one _) (by unfold maxLen; omega) (by omega) hb23.size ?_
                intro v2 w30 hown hgrow hat
                have hO2 : Ow w30 wa.heap.size 43 Rc.enc 9 v2 (l ++ [Rc.of s num]) := by
                  unfold Ow
                  rw [List.length_append, rws_append, rws, rws, List.append_nil]
                  exact hown
                have hb30 : Below wa.heap.size wa w30 := hb23.grown hgrow hb23.size (fun k hk => (hO.lt k hk).1)
                refine hK.out _ _ trivial (fun _ => cs hb30) ?_
                clear hK K
                simp only [List.setIfInBounds_toArray, List.set_cons_zero, List.set_cons_succ]
                have hSw := cs hb30
                clear hO hown hgrow hat hX
                refine early_at 8 7 57 (fuel := 1) ?_ rfl rfl (by kernel_rfl) (by kernel_rfl) (by kernel_rfl) (by decide) rfl (by kernel_rfl) (by kernel_rfl) (Or.inl ⟨by rfl, ?_⟩) hSw ?_
                rotate_left
                · intro wx hSx
                  (try dsimp only at hSx)
                  go_split_ands
                  go_simp
                  (try with_reducible rfl)
                simp only [List.setIfInBounds_toArray, List.set_cons_zero, List.set_cons_succ]
                have y1 := (hbm.below hb30 hbm.lt).cell 1
                have f1 := (hbm.below hb30 hbm.lt).free 1
                simp only [List.getElem?_toArray, List.getElem?_cons_zero, List.getElem?_cons_succ] at y1
                obtain ⟨a2, c2, rfl⟩ := hO2.form
                refine Wirey.wpAnyK_one 8 (by kernel_rfl) rfl (fun K hK => ?_)
                go_simp
                refine hK.out _ _ trivial (fun h9 => absurd h9 (by decide)) ?_
                clear hK K
                simp only [List.setIfInBounds_toArray, List.set_cons_zero, List.set_cons_succ]
                refine Wirey.wpAnyK_done (by kernel_rfl) ⟨rfl, ?_⟩
                go_wp2_with fail
                go_meet
                exact ⟨_, w30, hb30, hO2, by first | rfl | (rw [List.length_append]; rfl)⟩
            · skip
              go_simp
              have hb21 : Below wa.heap.size wa (w20.alloc (.cells #[.int .u64 (s : Int), .int .u64 0, .int .u64 0, .int .u64 (num : Int), .int .i64 0, .string ⟨#[]⟩, .string ⟨#[]⟩, .int .u64 0, .int .u64 0] 43)) := hb20.alloc hb20.size _
              refine hK.out _ _ trivial (fun _ => cs hb21) ?_
              clear hK K
              simp only [List.setIfInBounds_toArray, List.set_cons_zero, List.set_cons_succ]
              have hX := Blk.new w20 43 #[.int .u64 (s : Int), .int .u64 0, .int .u64 0, .int .u64 (num : Int), .int .i64 0, .string ⟨#[]⟩, .string ⟨#[]⟩, .int .u64 0, .int .u64 0]
              generalize w20.alloc (.cells #[.int .u64 (s : Int), .int .u64 0, .int .u64 0, .int .u64 (num : Int), .int .i64 0, .string ⟨#[]⟩, .string ⟨#[]⟩, .int .u64 0, .int .u64 0] 43) = w21 at *
              generalize w20.heap.size = X at *
              refine Wirey.wpAnyK_one 0 (by kernel_rfl) rfl (fun K hK => ?_)
              go_simp
              have hb22 : Below wa.heap.size wa (w21.alloc (.cells #[] 43)) := hb21.alloc hb21.size _
              refine hK.out _ _ trivial (fun _ => cs hb22) ?_
              clear hK K
              simp only [List.setIfInBounds_toArray, List.set_cons_zero]
              have hA : Ow (w21.alloc (.cells #[] 43)) wa.heap.size 43 Rc.enc 9 (.slice (some ⟨w21.heap.size, 0, none⟩) 0 0) [] := Ow.empty w21 wa.heap.size hb21.size
              have hne : X ≠ w21.heap.size := Nat.ne_of_lt hX.lt
              have hX' := hX.alloc (.cells #[] 43)
              clear hX
              have hX := hX'
              clear hX'
              generalize w21.alloc (.cells #[] 43) = w22 at *
              generalize w21.heap.size = A at *
              refine Wirey.wpAnyK_one 3 (by kernel_rfl) rfl (fun K hK => ?_)
              have hvw2 : Vw w22 Rc.enc 9 (.slice (some pa) l.length vc) l := hvw.stay (Nat.le_trans hb22.size (Nat.le_refl _)) fun g hg => hb22.block g (hvw.lt g hg)
              refine step_append_own _ (by rfl) _ _ _ (by rfl) wa.heap.size 43 i0 _ 9 88 Try.underlying28 hi0 hz0 hz1 hz2 rfl (by omega) (.slice (some ⟨A, 0, none⟩) 0 0) 0 [] (by rfl) hA pa l.length vc (rws Rc.enc l) (by rfl) (rws_length Rc.len l) (hvw2.newsP Rc.len (by omega)) (rws_one Rc.one l) (by unfold maxLen; omega) (by omega) hb22.size ?_
              intro v1 w23 hown hgrow hat
              have hO : Ow w23 wa.heap.size 43 Rc.enc 9 v1 l := by
                rw [Nat.zero_add, List.nil_append] at hown
                exact hown
              have hAl := hA.lt A rfl
              have hb23 : Below wa.heap.size wa w23 := hb22.grown hgrow hb22.size (fun k hk => by
                have h0 : A = k := by simpa [Value.ownBlock] using hk
                omega)
              have hX' : Blk w23 X 43 #[.int .u64 (s : Int), .int .u64 0, .int .u64 0, .int .u64 (num : Int), .int .i64 0, .string ⟨#[]⟩, .string ⟨#[]⟩, .int .u64 0, .int .u64 0] := hX.grown hgrow (by show some X ≠ some A; intro e; injection e with e; exact hne e)
              have hne2 : ∀ g, v1.ownBlock = some g → g ≠ X := fun g hg e => by
                rcases hat with h0 | h0
                · rw [h0] at hg
                  have h1 : A = g := by simpa [Value.ownBlock] using hg
                  exact hne (h1.trans e).symm
                · rw [h0] at hg
                  injection hg with hg
                  have := hX.lt
                  omega
              clear hX
              have hX := hX'
              clear hX'
              refine hK.out _ _ trivial (fun _ => cs hb23) ?_
              clear hK K
              simp only [List.setIfInBounds_toArray, List.set_cons_zero, List.set_cons_succ]
              clear hvw2 hown hgrow hat hA hAl
              refine Wirey.wpAnyK_one 6 (by kernel_rfl) rfl (fun K hK => ?_)
              refine step_append_own _ (by rfl) _ _ _ (by rfl) wa.heap.size 43 i0 _ 9 88 Try.underlying28 hi0 hz0 hz1 hz2 rfl (by omega) v1 l.length (rws Rc.enc l) (by rfl) hO ⟨X, 0, none⟩ 1 1 (Rc.of s num).enc (by rfl) (by rfl) (World.news_of_block (cs := #[.int .u64 (s : Int), .int .u64 0, .int .u64 0, .int .u64 (num : Int), .int .i64 0, .string ⟨#[]⟩, .string ⟨#[]⟩, .int .u64 0, .int .u64 0]) (t := 43) (fr := (0, 0)) hX) (Rc.one _) (by unfold maxLen; omega) (by omega) hb23.size ?_
              intro v2 w30 hown hgrow hat
              have hO2 : Ow w30 wa.heap.size 43 Rc.enc 9 v2 (l ++ [Rc.of s num]) := by
                unfold Ow
                rw [List.length_append, rws_append, rws, rws, List.append_nil]
                exact hown
              have hb30 : Below wa.heap.size wa w30 := hb23.grown hgrow hb23.size (fun k hk => (hO.lt k hk).1)
              refine hK.out _ _ trivial (fun _ => cs hb30) ?_
              clear hK K
              simp only [List.setIfInBounds_toArray, List.set_cons_zero, List.set_cons_succ]
              have hSw := cs hb30
              clear hO hown hgrow hat hX
              refine early_at 8 7 57 (fuel := 1) ?_ rfl rfl (by kernel_rfl) (by kernel_rfl) (by kernel_rfl) (by decide) rfl (by kernel_rfl) (by kernel_rfl) (Or.inl ⟨by rfl, ?_⟩) hSw ?_
              rotate_left
              · intro wx hSx
                (try dsimp only at hSx)
                go_split_ands
                go_simp
                (try with_reducible rfl)
              simp only [List.setIfInBounds_toArray, List.set_cons_zero, List.set_cons_succ]
              have y1 := (hbm.below hb30 hbm.lt).cell 1
              have f1 := (hbm.below hb30 hbm.lt).free 1
              simp only [List.getElem?_toArray, List.getElem?_cons_zero, List.getElem?_cons_succ] at y1
              obtain ⟨a2, c2, rfl⟩ := hO2.form
              refine Wirey.wpAnyK_one 8 (by kernel_rfl) rfl (fun K hK => ?_)
              go_simp
              refine hK.out _ _ trivial (fun h9 => absurd h9 (by decide)) ?_
              clear hK K
              simp only [List.setIfInBounds_toArray, List.set_cons_zero, List.set_cons_succ]
              refine Wirey.wpAnyK_done (by kernel_rfl) ⟨rfl, ?_⟩
              go_wp2_with fail
              go_meet
              exact ⟨_, w30, hb30, hO2, by first | rfl | (rw [List.length_append]; rfl)⟩
        case rest =>
          obtain ⟨v2, w30, hb30, hO2, rfl⟩ := hcut
          have DB := (D1.below hb30)
          have ho2 : ∀ g, v2.ownBlock = some g → wa.heap.size ≤ g := fun g hg => (hO2.lt g hg).1
          have D4 := DB.list (hO2.vw Rc.len) (fun g hg => ⟨fun hp => by have := ho2 g hg; have := (D1.held.low g hp).2; omega, fun e => by have := ho2 g hg; have := D1.bm.lt; omega, fun e => by have := ho2 g hg; have := D1.br.lt; omega, fun e => by have := ho2 g hg; have := D1.bx.lt; omega⟩)
          have hsrc : ∀ g, v2.ownBlock = some g → (Value.slice va l.length vc).ownBlock = some g ∨ w.heap.size ≤ g := fun g hg => Or.inr (Nat.le_trans D1.mv.kp.size (ho2 g hg))
          obtain ⟨l9, hl9⟩ : ∃ l9, l9 = l ++ [Rc.of s num] := ⟨_, rfl⟩
          have hl9l : l9.length = l.length + 1 := by rw [hl9]; simp
          rw [← hl9] at D4 hO2
          have HL9 := Lib.hid hl9l
          clear hl9 hl9l
          obtain ⟨a2, c2, rfl⟩ := hO2.form
          clear DB hO2 ho2 hb30 D1
          have m0 := D4.bm.cell 0
          have m1 := D4.bm.cell 1
          have m2 := D4.bm.cell 2
          simp only [List.getElem?_toArray, List.getElem?_cons_zero, List.getElem?_cons_succ] at m0 m1 m2
          have r0 := D4.br.cell 0
          have r1 := D4.br.cell 1
          have r2 := D4.br.cell 2
          have rf0 := D4.br.free 0
          have rf1 := D4.br.free 1
          have rf2 := D4.br.free 2
          simp only [List.getElem?_toArray, List.getElem?_cons_zero, List.getElem?_cons_succ] at r0 r1 r2
          have hoX : ∀ g, (.slice a2 l9.length c2 : Value).ownBlock = some g → ¬ P4 g ∧ g ≠ w.heap.size + 2 := (fun g hg => ⟨(D4.no g hg).1, (D4.no g hg).2.2.1⟩)
          obtain ⟨hT, hHo, hVo, hMo⟩ := D4.out (u := .int .u64 (base : Int)) (B3 := base) (l3 := l9) D4.vw hoX rfl
          have hN3 : ∀ g, (.slice a2 l9.length c2 : Value).ownBlock = some g → ¬ P4 g := fun g hg => (hoX g hg).1
          have HT := Lib.hid hT
          have HH := Lib.hid hHo
          have HV := Lib.hid hVo
          have HM := Lib.hid hMo
          have HN := Lib.hid hN3
          have hbd : base + (l9).length ≤ base + l.length + 1 := by have := HL9.out; omega
          have HBD := Lib.hid hbd
          have hs9 : ∀ g, (.slice a2 l9.length c2 : Value).ownBlock = some g → (Value.slice va l.length vc).ownBlock = some g ∨ w.heap.size ≤ g := hsrc
          have HS9 := Lib.hid hs9
          clear hs9
          clear hT hHo hVo hMo hN3 hbd hoX D4
          go_wp2_with fail
          refine bodyPost_ret (results_row_tmp rfl _ _ (w.heap.size + 2) rfl (run_loadVar_row _ _ _ _ _ _ _ HT.out Try.underlying30 rfl (by kernel_rfl))) rfl ⟨_, base, l9, .slice a2 l9.length c2, ?_, HH.out, HV.out, HN.out, HM.out, HBD.out, HS9.out⟩
          rfl
    have q5 : (kd == 5) = false := beq_eq_false_iff_ne.2 k5
    by_cases k3 : kd = 3
    · subst k3
      have x0 := hD.bx.cell 0
      have xf0 := hD.bx.free 0
      simp only [List.getElem?_toArray, List.getElem?_cons_zero] at x0
      have hD' := hD.seq at_ rfl
      clear hD
      go_upto_region 14 with (fail)
      clear a0 a1 hA3 x0 xf0
      generalize World.setCell _ ⟨XB, 0, none⟩ _ = wk at *
      have hD := hD'
      clear hD'
      generalize hsn0 : s = sN at *
      clear hsn0 hslt hsl9
      have HSN := Lib.hid HS.out
      clear HS
      generalize at_ = s at *
      have hslt := hat
      by_cases hsE : s = base + l.length + 1
      · have HS := Lib.hid hsE
        have hsl9 : s ≤ 200000 := by omega
        clear hsE
        have x0 := hD.bx.cell 0
        have x1 := hD.bx.cell 1
        have x2 := hD.bx.cell 2
        have x3 := hD.bx.cell 3
        have x4 := hD.bx.cell 4
        have x5 := hD.bx.cell 5
        have x6 := hD.bx.cell 6
        have x7 := hD.bx.cell 7
        have x8 := hD.bx.cell 8
        have xf0 := hD.bx.free 0
        simp only [List.getElem?_toArray, List.getElem?_cons_zero, List.getElem?_cons_succ] at x0 x1 x2 x3 x4 x5 x6 x7 x8
        have hadd := add_c (Rc.of s num) hslt (by omega) hD.held
        by_cases hfull : most ≤ l.length
        · skip
          obtain ⟨e1, e2⟩ : addE base most l (Rc.of s num) = 130 ∧ addL base most l (Rc.of s num) = l := (add_full (show s = _ from HS.out) hfull)
          rw [e1, e2] at hadd
          clear e1 e2
          have hadd2 := hadd
          go_wp2_with fail
          refine Calls.mono hadd ?_
          rintro e w4 ⟨rfl, P4, hH4, hM4⟩
          have D1 := hD.prog hH4 hM4
          clear hadd hadd2 hM4 hH4 hD x0 x1 x2 x3 x4 x5 x6 x7 x8 xf0
          go_upto_region 15 with (fail)
          have cs : ∀ {W : World}, Below w4.heap.size w4 W → (fun W => W.cell? ⟨XB, 0, none⟩ = some (.int .u64 (s : Int)) ∧ W.cell? ⟨w.heap.size, 0, none⟩ = some (.int .u64 (base : Int)) ∧ W.cell? ⟨w.heap.size, 1, none⟩ = some (.slice va l.length vc) ∧ W.cell? ⟨w.heap.size, 2, none⟩ = some (.int .i64 (most : Int)) ∧ Below w4.heap.size w4 W) W := fun {W} hW => ⟨(D1.bx.below hW D1.bx.lt).cell 0, (D1.bm.below hW D1.bm.lt).cell 0, (D1.bm.below hW D1.bm.lt).cell 1, (D1.bm.below hW D1.bm.lt).cell 2, hW⟩
          have h1 := cs (Below.refl w4.heap.size w4).drew
          dsimp only at h1
          refine region_only 6 #[false, false, false, false, false, false] (S := (fun W => W.cell? ⟨XB, 0, none⟩ = some (.int .u64 (s : Int)) ∧ W.cell? ⟨w.heap.size, 0, none⟩ = some (.int .u64 (base : Int)) ∧ W.cell? ⟨w.heap.size, 1, none⟩ = some (.slice va l.length vc) ∧ W.cell? ⟨w.heap.size, 2, none⟩ = some (.int .i64 (most : Int)) ∧ Below w4.heap.size w4 W)) rfl rfl (by kernel_rfl) h1 (fun hSw => ?_)
          refine take_at 0 64 (fuel := 5) ?_ rfl rfl (by kernel_rfl) (by kernel_rfl) (by kernel_rfl) (Or.inl ⟨by rfl, ?_⟩) hSw ?_
          rotate_left
          · intro wx hSx
            (try dsimp only at hSx)
            go_split_ands
            go_simp
            (try with_reducible rfl)
          simp only [List.setIfInBounds_toArray, List.set_cons_zero, List.set_cons_succ]
          refine take_at 1 65 (fuel := 4) ?_ rfl rfl (by kernel_rfl) (by kernel_rfl) (by kernel_rfl) (Or.inl ⟨by rfl, ?_⟩) hSw ?_
          rotate_left
          · intro wx hSx
            (try dsimp only at hSx)
            go_split_ands
            go_simp
            (try with_reducible rfl)
          simp only [List.setIfInBounds_toArray, List.set_cons_zero, List.set_cons_succ]
          refine take_at 2 66 (fuel := 3) ?_ rfl rfl (by kernel_rfl) (by kernel_rfl) (by kernel_rfl) (Or.inl ⟨by rfl, ?_⟩) hSw ?_
          rotate_left
          · intro wx hSx
            (try dsimp only at hSx)
            go_split_ands
            go_simp
            (try with_reducible rfl)
          simp only [List.setIfInBounds_toArray, List.set_cons_zero, List.set_cons_succ]
          refine wpAnyH_ready (fuel := 2) (rs := [3]) (by kernel_rfl) (by simp) (AllReadyH.cons rfl (fun K hK => ?_) AllReadyH.nil)
          go_simp
          refine Calls.mono (hlast _) ?_
          rintro e wv ⟨rfl, hwv⟩
          refine hK.out _ _ (cs (hSw.2.2.2.2.trans (hwv.mono hSw.2.2.2.2.size))) (fun hSw => ?_)
          clear hK K
          simp only [List.setIfInBounds_toArray, List.set_cons_zero, List.set_cons_succ]
          refine take_at 4 68 (fuel := 1) ?_ rfl rfl (by kernel_rfl) (by kernel_rfl) (by kernel_rfl) (Or.inl ⟨by rfl, ?_⟩) hSw ?_
          rotate_left
          · intro wx hSx
            (try dsimp only at hSx)
            go_split_ands
            go_simp
            (try with_reducible rfl)
          simp only [List.setIfInBounds_toArray, List.set_cons_zero, List.set_cons_succ]
          refine take_at 5 69 (fuel := 0) ?_ rfl rfl (by kernel_rfl) (by kernel_rfl) (by kernel_rfl) (Or.inl ⟨by rfl, ?_⟩) hSw ?_
          rotate_left
          · intro wx hSx
            (try dsimp only at hSx)
            go_split_ands
            go_simp
            (try with_reducible rfl)
          simp only [List.setIfInBounds_toArray, List.set_cons_zero, List.set_cons_succ]
          refine wpAnyH_done (by kernel_rfl) ⟨rfl, ?_⟩ 0
          have D2 := D1.below hSw.2.2.2.2
          clear D1 hSw h1 cs
          have hsn : ((s : Int) == (base : Int) + (l.length : Int) + 1) = true := beq_iff_eq.2 (by have := HS.out; omega)
          have hsn2 : ((s : Int) == (sN : Int)) = true := beq_iff_eq.2 (by have := HS.out; have := HSN.out; omega)
          have dge : decide ((most : Int) ≤ (l.length : Int)) = true := decide_eq_true (by omega)
          have m0 := D2.bm.cell 0
          have m1 := D2.bm.cell 1
          have m2 := D2.bm.cell 2
          simp only [List.getElem?_toArray, List.getElem?_cons_zero, List.getElem?_cons_succ] at m0 m1 m2
          have r0 := D2.br.cell 0
          have r1 := D2.br.cell 1
          have r2 := D2.br.cell 2
          have rf0 := D2.br.free 0
          have rf1 := D2.br.free 1
          have rf2 := D2.br.free 2
          simp only [List.getElem?_toArray, List.getElem?_cons_zero, List.getElem?_cons_succ] at r0 r1 r2
          have hoX : ∀ g, (.slice va l.length vc : Value).ownBlock = some g → ¬ P4 g ∧ g ≠ w.heap.size + 2 := (fun g hg => ⟨(D2.no g hg).1, (D2.no g hg).2.2.1⟩)
          obtain ⟨hT, hHo, hVo, hMo⟩ := D2.out (u := .int .u64 (base : Int)) (B3 := base) (l3 := l) D2.vw hoX rfl
          have hN3 : ∀ g, (.slice va l.length vc : Value).ownBlock = some g → ¬ P4 g := fun g hg => (hoX g hg).1
          have HT := Lib.hid hT
          have HH := Lib.hid hHo
          have HV := Lib.hid hVo
          have HM := Lib.hid hMo
          have HN := Lib.hid hN3
          have hbd : base + (l).length ≤ base + l.length + 1 := by omega
          have HBD := Lib.hid hbd
          have hs9 : ∀ g, (.slice va l.length vc : Value).ownBlock = some g → (Value.slice va l.length vc).ownBlock = some g ∨ w.heap.size ≤ g := fun g hg => Or.inl hg
          have HS9 := Lib.hid hs9
          clear hs9
          clear hT hHo hVo hMo hN3 hbd hoX D2
          go_wp2_with fail
          refine bodyPost_ret (results_row_tmp rfl _ _ (w.heap.size + 2) rfl (run_loadVar_row _ _ _ _ _ _ _ HT.out Try.underlying30 rfl (by kernel_rfl))) rfl ⟨_, base, l, .slice va l.length vc, ?_, HH.out, HV.out, HN.out, HM.out, HBD.out, HS9.out⟩
          rfl
        · skip
          obtain ⟨e1, e2⟩ : addE base most l (Rc.of s num) = 0 ∧ addL base most l (Rc.of s num) = l ++ [Rc.of s num] := add_next (show s = _ from HS.out) (by omega)
          rw [e1, e2] at hadd
          clear e1 e2
          have hadd2 := hadd
          go_wp2_with fail
          refine Calls.mono hadd ?_
          rintro e w4 ⟨rfl, P4, hH4, hM4⟩
          have D1 := hD.prog hH4 hM4
          clear hadd hadd2 hM4 hH4 hD x0 x1 x2 x3 x4 x5 x6 x7 x8 xf0
          go_upto_region 15 with (fail)
          have cs : ∀ {W : World}, Below w4.heap.size w4 W → (fun W => W.cell? ⟨XB, 0, none⟩ = some (.int .u64 (s : Int)) ∧ W.cell? ⟨w.heap.size, 0, none⟩ = some (.int .u64 (base : Int)) ∧ W.cell? ⟨w.heap.size, 1, none⟩ = some (.slice va l.length vc) ∧ W.cell? ⟨w.heap.size, 2, none⟩ = some (.int .i64 (most : Int)) ∧ Below w4.heap.size w4 W) W := fun {W} hW => ⟨(D1.bx.below hW D1.bx.lt).cell 0, (D1.bm.below hW D1.bm.lt).cell 0, (D1.bm.below hW D1.bm.lt).cell 1, (D1.bm.below hW D1.bm.lt).cell 2, hW⟩
          have h1 := cs (Below.refl w4.heap.size w4).drew
          dsimp only at h1
          refine region_only 6 #[false, false, false, false, false, false] (S := (fun W => W.cell? ⟨XB, 0, none⟩ = some (.int .u64 (s : Int)) ∧ W.cell? ⟨w.heap.size, 0, none⟩ = some (.int .u64 (base : Int)) ∧ W.cell? ⟨w.heap.size, 1, none⟩ = some (.slice va l.length vc) ∧ W.cell? ⟨w.heap.size, 2, none⟩ = some (.int .i64 (most : Int)) ∧ Below w4.heap.size w4 W)) rfl rfl (by kernel_rfl) h1 (fun hSw => ?_)
          refine take_at 0 64 (fuel := 5) ?_ rfl rfl (by kernel_rfl) (by kernel_rfl) (by kernel_rfl) (Or.inl ⟨by rfl, ?_⟩) hSw ?_
          rotate_left
          · intro wx hSx
            (try dsimp only at hSx)
            go_split_ands
            go_simp
            (try with_reducible rfl)
          simp only [List.setIfInBounds_toArray, List.set_cons_zero, List.set_cons_succ]
          refine take_at 1 65 (fuel := 4) ?_ rfl rfl (by kernel_rfl) (by kernel_rfl) (by kernel_rfl) (Or.inl ⟨by rfl, ?_⟩) hSw ?_
          rotate_left
          · intro wx hSx
            (try dsimp only at hSx)
            go_split_ands
            go_simp
            (try with_reducible rfl)
          simp only [List.setIfInBounds_toArray, List.set_cons_zero, List.set_cons_succ]
          refine take_at 2 66 (fuel := 3) ?_ rfl rfl (by kernel_rfl) (by kernel_rfl) (by kernel_rfl) (Or.inl ⟨by rfl, ?_⟩) hSw ?_
          rotate_left
          · intro wx hSx
            (try dsimp only at hSx)
            go_split_ands
            go_simp
            (try with_reducible rfl)
          simp only [List.setIfInBounds_toArray, List.set_cons_zero, List.set_cons_succ]
          refine wpAnyH_ready (fuel := 2) (rs := [3]) (by kernel_rfl) (by simp) (AllReadyH.cons rfl (fun K hK => ?_) AllReadyH.nil)
          go_simp
          refine Calls.mono (hlast _) ?_
          rintro e wv ⟨rfl, hwv⟩
          refine hK.out _ _ (cs (hSw.2.2.2.2.trans (hwv.mono hSw.2.2.2.2.size))) (fun hSw => ?_)
          clear hK K
          simp only [List.setIfInBounds_toArray, List.set_cons_zero, List.set_cons_succ]
          refine take_at 4 68 (fuel := 1) ?_ rfl rfl (by kernel_rfl) (by kernel_rfl) (by kernel_rfl) (Or.inl ⟨by rfl, ?_⟩) hSw ?_
          rotate_left
          · intro wx hSx
            (try dsimp only at hSx)
            go_split_ands
            go_simp
            (try with_reducible rfl)
          simp only [List.setIfInBounds_toArray, List.set_cons_zero, List.set_cons_succ]
          refine take_at 5 69 (fuel := 0) ?_ rfl rfl (by kernel_rfl) (by kernel_rfl) (by kernel_rfl) (Or.inl ⟨by rfl, ?_⟩) hSw ?_
          rotate_left
          · intro wx hSx
            (try dsimp only at hSx)
            go_split_ands
            go_simp
            (try with_reducible rfl)
          simp only [List.setIfInBounds_toArray, List.set_cons_zero, List.set_cons_succ]
          refine wpAnyH_done (by kernel_rfl) ⟨rfl, ?_⟩ 0
          have D2 := D1.below hSw.2.2.2.2
          clear D1 hSw h1 cs
          have hsn : ((s : Int) == (base : Int) + (l.length : Int) + 1) = true := beq_iff_eq.2 (by have := HS.out; omega)
          have hsn2 : ((s : Int) == (sN : Int)) = true := beq_iff_eq.2 (by have := HS.out; have := HSN.out; omega)
          have dge : decide ((most : Int) ≤ (l.length : Int)) = false := decide_eq_false (by omega)
          have m0 := D2.bm.cell 0
          have m1 := D2.bm.cell 1
          have m2 := D2.bm.cell 2
          simp only [List.getElem?_toArray, List.getElem?_cons_zero, List.getElem?_cons_succ] at m0 m1 m2
          go_upto_region 19 with (fail)
          generalize wv = wa at *
          clear m0 m1 m2
          go_cut [] from 11 (fun wx => ∃ v2 w30, Below wa.heap.size wa w30 ∧ Ow w30 wa.heap.size 43 Rc.enc 9 v2 (l ++ [Rc.of s num]) ∧ wx = w30.setCell ⟨w.heap.size, 1, none⟩ v2)
          case first =>
            have hbm := D2.bm
            have hbx := D2.bx
            have hvw := D2.vw
            have hll : l.length < 100000 := by omega
            cases va with
            | none =>
              obtain ⟨hl0, -, -⟩ := Vw.nil_ hvw
              have hl00 : l.length = 0 := by rw [hl0]; rfl
              have HL0 := Lib.hid hl00
              clear hl0 hl00
              have cs : ∀ {W : World}, Below wa.heap.size wa W → (fun W => W.cell? ⟨w.heap.size, 1, none⟩ = some (.slice none l.length vc) ∧ W.cell? ⟨XB, 0, none⟩ = some (.int .u64 (s : Int)) ∧ W.cell? ⟨XB, 1, none⟩ = some (.int .u64 0) ∧ W.cell? ⟨XB, 2, none⟩ = some (.int .u64 0) ∧ W.cell? ⟨XB, 3, none⟩ = some (.int .u64 (num : Int)) ∧ W.cell? ⟨XB, 4, none⟩ = some (.int .i64 0) ∧ W.cell? ⟨XB, 5, none⟩ = some (.string ⟨#[]⟩) ∧ W.cell? ⟨XB, 6, none⟩ = some (.string ⟨#[]⟩) ∧ W.cell? ⟨XB, 7, none⟩ = some (.int .u64 0) ∧ W.cell? ⟨XB, 8, none⟩ = some (.int .u64 0)) W := fun {W} hW => ⟨(hbm.below hW hbm.lt).cell 1, (hbx.below hW hbx.lt).cell 0, (hbx.below hW hbx.lt).cell 1, (hbx.below hW hbx.lt).cell 2, (hbx.below hW hbx.lt).cell 3, (hbx.below hW hbx.lt).cell 4, (hbx.below hW hbx.lt).cell 5, (hbx.below hW hbx.lt).cell 6, (hbx.below hW hbx.lt).cell 7, (hbx.below hW hbx.lt).cell 8⟩
              have hb0 : Below wa.heap.size wa wa.drew := (Below.refl _ _).drew
              have V0 := cs hb0
              dsimp only at V0
              refine regionK_only 9 #[false, false, false, false, false, false, false, false, false] 8 (V := (fun W => W.cell? ⟨w.heap.size, 1, none⟩ = some (.slice none l.length vc) ∧ W.cell? ⟨XB, 0, none⟩ = some (.int .u64 (s : Int)) ∧ W.cell? ⟨XB, 1, none⟩ = some (.int .u64 0) ∧ W.cell? ⟨XB, 2, none⟩ = some (.int .u64 0) ∧ W.cell? ⟨XB, 3, none⟩ = some (.int .u64 (num : Int)) ∧ W.cell? ⟨XB, 4, none⟩ = some (.int .i64 0) ∧ W.cell? ⟨XB, 5, none⟩ = some (.string ⟨#[]⟩) ∧ W.cell? ⟨XB, 6, none⟩ = some (.string ⟨#[]⟩) ∧ W.cell? ⟨XB, 7, none⟩ = some (.int .u64 0) ∧ W.cell? ⟨XB, 8, none⟩ = some (.int .u64 0))) rfl rfl (by kernel_rfl) V0 (fun hSw => ?_)
              generalize wa.drew = w20 at hb0 hSw ⊢
              clear V0
              have hb20 := hb0
              clear hb0
              refine early_at 8 1 83 (fuel := 8) ?_ rfl rfl (by kernel_rfl) (by kernel_rfl) (by kernel_rfl) (by decide) rfl (by kernel_rfl) (by kernel_rfl) (Or.inl ⟨by rfl, ?_⟩) hSw ?_
              rotate_left
              · intro wx hSx
                (try dsimp only at hSx)
                go_split_ands
                go_simp
                (try with_reducible rfl)
              simp only [List.setIfInBounds_toArray, List.set_cons_zero, List.set_cons_succ]
              refine early_at 8 2 84 (fuel := 7) ?_ rfl rfl (by kernel_rfl) (by kernel_rfl) (by kernel_rfl) (by decide) rfl (by kernel_rfl) (by kernel_rfl) (Or.inl ⟨by rfl, ?_⟩) hSw ?_
              rotate_left
              · intro wx hSx
                (try dsimp only at hSx)
                go_split_ands
                go_simp
                (try with_reducible rfl)
              simp only [List.setIfInBounds_toArray, List.set_cons_zero, List.set_cons_succ]
              refine early_at 8 4 86 (fuel := 6) ?_ rfl rfl (by kernel_rfl) (by kernel_rfl) (by kernel_rfl) (by decide) rfl (by kernel_rfl) (by kernel_rfl) (Or.inl ⟨by rfl, ?_⟩) hSw ?_
              rotate_left
              · intro wx hSx
                (try dsimp only at hSx)
                go_split_ands
                go_simp
                (try with_reducible rfl)
              simp only [List.setIfInBounds_toArray, List.set_cons_zero, List.set_cons_succ]
              refine wpAnyK_two 0 5 (by kernel_rfl) rfl rfl (fun K hK => ?_) (fun K hK => ?_)
              · skip
                go_simp
                have hb21 : Below wa.heap.size wa (w20.alloc (.cells #[] 43)) := hb20.alloc hb20.size _
                refine hK.out _ _ trivial (fun _ => cs hb21) ?_
                clear hK K
                simp only [List.setIfInBounds_toArray, List.set_cons_zero]
                have hA : Ow (w20.alloc (.cells #[] 43)) wa.heap.size 43 Rc.enc 9 (.slice (some ⟨w20.heap.size, 0, none⟩) 0 0) [] := Ow.empty w20 wa.heap.size hb20.size
                generalize w20.alloc (.cells #[] 43) = w21 at *
                generalize w20.heap.size = A at *
                refine wpAnyK_two 3 5 (by kernel_rfl) rfl rfl (fun K hK => ?_) (fun K hK => ?_)
                · skip
                  refine step_append_nil _ (by rfl) _ _ _ (by rfl) 43 i0 Try.underlying28 hi0 (some ⟨A, 0, none⟩) 0 0 (by rfl) (Nat.le_refl _) l.length vc (by rfl) HL0.out ?_
                  refine hK.out _ _ trivial (fun _ => cs hb21) ?_
                  clear hK K
                  simp only [List.setIfInBounds_toArray, List.set_cons_zero, List.set_cons_succ]
                  have hO : Ow w21 wa.heap.size 43 Rc.enc 9 (.slice (some ⟨A, 0, none⟩) 0 0) l := by rw [List.length_eq_zero_iff.1 HL0.out]; exact hA
                  obtain ⟨v1, hv1⟩ : ∃ v, v = Value.slice (some ⟨A, 0, none⟩) 0 0 := ⟨_, rfl⟩
                  rw [← hv1] at hO ⊢
                  clear hv1 hA
                  refine Wirey.wpAnyK_one 5 (by kernel_rfl) rfl (fun K hK => ?_)
                  go_simp
                  have hb23 : Below wa.heap.size wa (w21.alloc (.cells #[.int .u64 (s : Int), .int .u64 0, .int .u64 0, .int .u64 (num : Int), .int .i64 0, .string ⟨#[]⟩, .string ⟨#[]⟩, .int .u64 0, .int .u64 0] 43)) := hb21.alloc hb21.size _
                  refine hK.out _ _ trivial (fun _ => cs hb23) ?_
                  clear hK K
                  simp only [List.setIfInBounds_toArray, List.set_cons_zero, List.set_cons_succ]
                  have hX := Blk.new w21 43 #[.int .u64 (s : Int), .int .u64 0, .int .u64 0, .int .u64 (num : Int), .int .i64 0, .string ⟨#[]⟩, .string ⟨#[]⟩, .int .u64 0, .int .u64 0]
                  have hne2 : ∀ g, v1.ownBlock = some g → g ≠ w21.heap.size := fun g hg e => by have := (hO.lt g hg).2; omega
                  have hO' := hO.alloc (.cells #[.int .u64 (s : Int), .int .u64 0, .int .u64 0, .int .u64 (num : Int), .int .i64 0, .string ⟨#[]⟩, .string ⟨#[]⟩, .int .u64 0, .int .u64 0] 43)
                  clear hO
                  have hO := hO'
                  clear hO'
                  generalize w21.alloc (.cells #[.int .u64 (s : Int), .int .u64 0, .int .u64 0, .int .u64 (num : Int), .int .i64 0, .string ⟨#[]⟩, .string ⟨#[]⟩, .int .u64 0, .int .u64 0] 43) = w23 at *
                  generalize w21.heap.size = X at *
                  refine Wirey.wpAnyK_one 6 (by kernel_rfl) rfl (fun K hK => ?_)
                  refine step_append_own _ (by rfl) _ _ _ (by rfl) wa.heap.size 43 i0 _ 9 88 Try.underlying28 hi0 hz0 hz1 hz2 rfl (by omega) v1 l.length (rws Rc.enc l) (by rfl) hO ⟨X, 0, none⟩ 1 1 (Rc.of s num).enc (by rfl) (by rfl) (World.news_of_block (cs := #[.int .u64 (s : Int), .int .u64 0, .int .u64 0, .int .u64 (num : Int), .int .i64 0, .string ⟨#[]⟩, .string ⟨#[]⟩, .int .u64 0, .int .u64 0]) (t := 43) (fr := (0, 0)) hX) (Rc.one _) (by unfold maxLen; omega) (by omega) hb23.size ?_
                  intro v2 w30 hown hgrow hat
                  have hO2 : Ow w30 wa.heap.size 43 Rc.enc 9 v2 (l ++ [Rc.of s num]) := by
                    unfold Ow
                    rw [List.length_append, rws_append, rws, rws, List.append_nil]
                    exact hown
                  have hb30 : Below wa.heap.size wa w30 := hb23.grown hgrow hb23.size (fun k hk => (hO.lt k hk).1)
                  refine hK.out _ _ trivial (fun _ => cs hb30) ?_
                  clear hK K
                  simp only [List.setIfInBounds_toArray, List.set_cons_zero, List.set_cons_succ]
                  have hSw := cs hb30
                  clear hO hown hgrow hat hX
                  refine early_at 8 7 89 (fuel := 1) ?_ rfl rfl (by kernel_rfl) (by kernel_rfl) (by kernel_rfl) (by decide) rfl (by kernel_rfl) (by kernel_rfl) (Or.inl ⟨by rfl, ?_⟩) hSw ?_
                  rotate_left
                  · intro wx hSx
                    (try dsimp only at hSx)
                    go_split_ands
                    go_simp
                    (try with_reducible rfl)
                  simp only [List.setIfInBounds_toArray, List.set_cons_zero, List.set_cons_succ]
                  have y1 := (hbm.below hb30 hbm.lt).cell 1
                  have f1 := (hbm.below hb30 hbm.lt).free 1
                  simp only [List.getElem?_toArray, List.getElem?_cons_zero, List.getElem?_cons_succ] at y1
                  obtain ⟨a2, c2, rfl⟩ := hO2.form
                  refine Wirey.wpAnyK_one 8 (by kernel_rfl) rfl (fun K hK => ?_)
                  go_simp
                  refine hK.out _ _ trivial (fun h9 => absurd h9 (by decide)) ?_
                  clear hK K
                  simp only [List.setIfInBounds_toArray, List.set_cons_zero, List.set_cons_succ]
                  refine Wirey.wpAnyK_done (by kernel_rfl) ⟨rfl, ?_⟩
                  go_wp2_with fail
                  go_meet
                  exact ⟨_, w30, hb30, hO2, by first | rfl | (rw [List.length_append]; rfl)⟩
                · skip
                  go_simp
                  have hb22 : Below wa.heap.size wa (w21.alloc (.cells #[.int .u64 (s : Int), .int .u64 0, .int .u64 0, .int .u64 (num : Int), .int .i64 0, .string ⟨#[]⟩, .string ⟨#[]⟩, .int .u64 0, .int .u64 0] 43)) := hb21.alloc hb21.size _
                  refine hK.out _ _ trivial (fun _ => cs hb22) ?_
                  clear hK K
                  simp only [List.setIfInBounds_toArray, List.set_cons_zero, List.set_cons_succ]
                  have hX := Blk.new w21 43 #[.int .u64 (s : Int), .int .u64 0, .int .u64 0, .int .u64 (num : Int), .int .i64 0, .string ⟨#[]⟩, .string ⟨#[]⟩, .int .u64 0, .int .u64 0]
                  have hne : w21.heap.size ≠ A := fun e => by have := (hA.lt A rfl).2; omega
                  have hA' := hA.alloc (.cells #[.int .u64 (s : Int), .int .u64 0, .int .u64 0, .int .u64 (num : Int), .int .i64 0, .string ⟨#[]⟩, .string ⟨#[]⟩, .int .u64 0, .int .u64 0] 43)
                  clear hA
                  have hA := hA'
                  clear hA'
                  generalize w21.alloc (.cells #[.int .u64 (s : Int), .int .u64 0, .int .u64 0, .int .u64 (num : Int), .int .i64 0, .string ⟨#[]⟩, .string ⟨#[]⟩, .int .u64 0, .int .u64 0] 43) = w22 at *
                  generalize w21.heap.size = X at *
                  refine Wirey.wpAnyK_one 3 (by kernel_rfl) rfl (fun K hK => ?_)
                  refine step_append_nil _ (by rfl) _ _ _ (by rfl) 43 i0 Try.underlying28 hi0 (some ⟨A, 0, none⟩) 0 0 (by rfl) (Nat.le_refl _) l.length vc (by rfl) HL0.out ?_
                  refine hK.out _ _ trivial (fun _ => cs hb22) ?_
                  clear hK K
                  simp only [List.setIfInBounds_toArray, List.set_cons_zero, List.set_cons_succ]
                  have hO : Ow w22 wa.heap.size 43 Rc.enc 9 (.slice (some ⟨A, 0, none⟩) 0 0) l := by rw [List.length_eq_zero_iff.1 HL0.out]; exact hA
                  obtain ⟨v1, hv1⟩ : ∃ v, v = Value.slice (some ⟨A, 0, none⟩) 0 0 := ⟨_, rfl⟩
                  rw [← hv1] at hO ⊢
                  have hne2 : ∀ g, v1.ownBlock = some g → g ≠ X := fun g hg e => by
                    rw [hv1] at hg
                    have h0 : A = g := by simpa [Value.ownBlock] using hg
                    omega
                  clear hv1 hA
                  refine Wirey.wpAnyK_one 6 (by kernel_rfl) rfl (fun K hK => ?_)
                  refine step_append_own _ (by rfl) _ _ _ (by rfl) wa.heap.size 43 i0 _ 9 88 Try.underlying28 hi0 hz0 hz1 hz2 rfl (by omega) v1 l.length (rws Rc.enc l) (by rfl) hO ⟨X, 0, none⟩ 1 1 (Rc.of s num).enc (by rfl) (by rfl) (World.news_of_block (cs := #[.int .u64 (s : Int), .int .u64 0, .int .u64 0, .int .u64 (num : Int), .int .i64 0, .string ⟨#[]⟩, .string ⟨#[]⟩, .int .u64 0, .int .u64 0]) (t := 43) (fr := (0, 0)) hX) (Rc.one _) (by unfold maxLen; omega) (by omega) hb22.size ?_
                  intro v2 w30 hown hgrow hat
                  have hO2 : Ow w30 wa.heap.size 43 Rc.enc 9 v2 (l ++ [Rc.of s num]) := by
                    unfold Ow
                    rw [List.length_append, rws_append, rws, rws, List.append_nil]
                    exact hown
                  have hb30 : Below wa.heap.size wa w30 := hb22.grown hgrow hb22.size (fun k hk => (hO.lt k hk).1)
                  refine hK.out _ _ trivial (fun _ => cs hb30) ?_
                  clear hK K
                  simp only [List.setIfInBounds_toArray, List.set_cons_zero, List.set_cons_succ]
                  have hSw := cs hb30
                  clear hO hown hgrow hat hX
                  refine early_at 8 7 89 (fuel := 1) ?_ rfl rfl (by kernel_rfl) (by kernel_rfl) (by kernel_rfl) (by decide) rfl (by kernel_rfl) (by kernel_rfl) (Or.inl ⟨by rfl, ?_⟩) hSw ?_
                  rotate_left
                  · intro wx hSx
                    (try dsimp only at hSx)
                    go_split_ands
                    go_simp
                    (try with_reducible rfl)
                  simp only [List.setIfInBounds_toArray, List.set_cons_zero, List.set_cons_succ]
                  have y1 := (hbm.below hb30 hbm.lt).cell 1
                  have f1 := (hbm.below hb30 hbm.lt).free 1
                  simp only [List.getElem?_toArray, List.getElem?_cons_zero, List.getElem?_cons_succ] at y1
                  obtain ⟨a2, c2, rfl⟩ := hO2.form
                  refine Wirey.wpAnyK_one 8 (by kernel_rfl) rfl (fun K hK => ?_)
                  go_simp
                  refine hK.out _ _ trivial (fun h9 => absurd h9 (by decide)) ?_
                  clear hK K
                  simp only [List.setIfInBounds_toArray, List.set_cons_zero, List.set_cons_succ]
                  refine Wirey.wpAnyK_done (by kernel_rfl) ⟨rfl, ?_⟩
                  go_wp2_with fail
                  go_meet
                  exact ⟨_, w30, hb30, hO2, by first | rfl | (rw [List.length_append]; rfl)⟩
              · skip
                go_simp
                have hb21 : Below wa.heap.size wa (w20.alloc (.cells #[.int .u64 (s : Int), .int .u64 0, .int .u64 0, .int .u64 (num : Int), .int .i64 0, .string ⟨#[]⟩, .string ⟨#[]⟩, .int .u64 0, .int .u64 0] 43)) := hb20.alloc hb20.size _
                refine hK.out _ _ trivial (fun _ => cs hb21) ?_
                clear hK K
                simp only [List.setIfInBounds_toArray, List.set_cons_zero, List.set_cons_succ]
                have hX := Blk.new w20 43 #[.int .u64 (s : Int), .int .u64 0, .int .u64 0, .int .u64 (num : Int), .int .i64 0, .string ⟨#[]⟩, .string ⟨#[]⟩, .int .u64 0, .int .u64 0]
                generalize w20.alloc (.cells #[.int .u64 (s : Int), .int .u64 0, .int .u64 0, .int .u64 (num : Int), .int .i64 0, .string ⟨#[]⟩, .string ⟨#[]⟩, .int .u64 0, .int .u64 0] 43) = w21 at *
                generalize w20.heap.size = X at *
                refine Wirey.wpAnyK_one 0 (by kernel_rfl) rfl (fun K hK => ?_)
                go_simp
                have hb22 : Below wa.heap.size wa (w21.alloc (.cells #[] 43)) := hb21.alloc hb21.size _
                refine hK.out _ _ trivial (fun _ => cs hb22) ?_
                clear hK K
                simp only [List.setIfInBounds_toArray, List.set_cons_zero]
                have hA : Ow (w21.alloc (.cells #[] 43)) wa.heap.size 43 Rc.enc 9 (.slice (some ⟨w21.heap.size, 0, none⟩) 0 0) [] := Ow.empty w21 wa.heap.size hb21.size
                have hne : X ≠ w21.heap.size := Nat.ne_of_lt hX.lt
                have hX' := hX.alloc (.cells #[] 43)
                clear hX
                have hX := hX'
                clear hX'
                generalize w21.alloc (.cells #[] 43) = w22 at *
                generalize w21.heap.size = A at *
                refine Wirey.wpAnyK_one 3 (by kernel_rfl) rfl (fun K hK => ?_)
                refine step_append_nil _ (by rfl) _ _ _ (by rfl) 43 i0 Try.underlying28 hi0 (some ⟨A, 0, none⟩) 0 0 (by rfl) (Nat.le_refl _) l.length vc (by rfl) HL0.out ?_
                refine hK.out _ _ trivial (fun _ => cs hb22) ?_
                clear hK K
                simp only [List.setIfInBounds_toArray, List.set_cons_zero, List.set_cons_succ]
                have hO : Ow w22 wa.heap.size 43 Rc.enc 9 (.slice (some ⟨A, 0, none⟩) 0 0) l := by rw [List.length_eq_zero_iff.1 HL0.out]; exact hA
                obtain ⟨v1, hv1⟩ : ∃ v, v = Value.slice (some ⟨A, 0, none⟩) 0 0 := ⟨_, rfl⟩
                rw [← hv1] at hO ⊢
                have hne2 : ∀ g, v1.ownBlock = some g → g ≠ X := fun g hg e => by
                  rw [hv1] at hg
                  have h0 : A = g := by simpa [Value.ownBlock] using hg
                  omega
                clear hv1 hA
                refine Wirey.wpAnyK_one 6 (by kernel_rfl) rfl (fun K hK => ?_)
                refine step_append_own _ (by rfl) _ _ _ (by rfl) wa.heap.size 43 i0 _ 9 88 Try.underlying28 hi0 hz0 hz1 hz2 rfl (by omega) v1 l.length (rws Rc.enc l) (by rfl) hO ⟨X, 0, none⟩ 1 1 (Rc.of s num).enc (by rfl) (by rfl) (World.news_of_block (cs := #[.int .u64 (s : Int), .int .u64 0, .int .u64 0, .int .u64 (num : Int), .int .i64 0, .string ⟨#[]⟩, .string ⟨#[]⟩, .int .u64 0, .int .u64 0]) (t := 43) (fr := (0, 0)) hX) (Rc.one _) (by unfold maxLen; omega) (by omega) hb22.size ?_
                intro v2 w30 hown hgrow hat
                have hO2 : Ow w30 wa.heap.size 43 Rc.enc 9 v2 (l ++ [Rc.of s num]) := by
                  unfold Ow
                  rw [List.length_append, rws_append, rws, rws, List.append_nil]
                  exact hown
                have hb30 : Below wa.heap.size wa w30 := hb22.grown hgrow hb22.size (fun k hk => (hO.lt k hk).1)
                refine hK.out _ _ trivial (fun _ => cs hb30) ?_
                clear hK K
                simp only [List.setIfInBounds_toArray, List.set_cons_zero, List.set_cons_succ]
                have hSw := cs hb30
                clear hO hown hgrow hat hX
                refine early_at 8 7 89 (fuel := 1) ?_ rfl rfl (by kernel_rfl) (by kernel_rfl) (by kernel_rfl) (by decide) rfl (by kernel_rfl) (by kernel_rfl) (Or.inl ⟨by rfl, ?_⟩) hSw ?_
                rotate_left
                · intro wx hSx
                  (try dsimp only at hSx)
                  go_split_ands
                  go_simp
                  (try with_reducible rfl)
                simp only [List.setIfInBounds_toArray, List.set_cons_zero, List.set_cons_succ]
                have y1 := (hbm.below hb30 hbm.lt).cell 1
                have f1 := (hbm.below hb30 hbm.lt).free 1
                simp only [List.getElem?_toArray, List.getElem?_cons_zero, List.getElem?_cons_succ] at y1
                obtain ⟨a2, c2, rfl⟩ := hO2.form
                refine Wirey.wpAnyK_one 8 (by kernel_rfl) rfl (fun K hK => ?_)
                go_simp
                refine hK.out _ _ trivial (fun h9 => absurd h9 (by decide)) ?_
                clear hK K
                simp only [List.setIfInBounds_toArray, List.set_cons_zero, List.set_cons_succ]
                refine Wirey.wpAnyK_done (by kernel_rfl) ⟨rfl, ?_⟩
                go_wp2_with fail
                go_meet
                exact ⟨_, w30, hb30, hO2, by first | rfl | (rw [List.length_append]; rfl)⟩
            | some pa =>
              have cs : ∀ {W : World}, Below wa.heap.size wa W → (fun W => W.cell? ⟨w.heap.size, 1, none⟩ = some (.slice (some pa) l.length vc) ∧ W.cell? ⟨XB, 0, none⟩ = some (.int .u64 (s : Int)) ∧ W.cell? ⟨XB, 1, none⟩ = some (.int .u64 0) ∧ W.cell? ⟨XB, 2, none⟩ = some (.int .u64 0) ∧ W.cell? ⟨XB, 3, none⟩ = some (.int .u64 (num : Int)) ∧ W.cell? ⟨XB, 4, none⟩ = some (.int .i64 0) ∧ W.cell? ⟨XB, 5, none⟩ = some (.string ⟨#[]⟩) ∧ W.cell? ⟨XB, 6, none⟩ = some (.string ⟨#[]⟩) ∧ W.cell? ⟨XB, 7, none⟩ = some (.int .u64 0) ∧ W.cell? ⟨XB, 8, none⟩ = some (.int .u64 0)) W := fun {W} hW => ⟨(hbm.below hW hbm.lt).cell 1, (hbx.below hW hbx.lt).cell 0, (hbx.below hW hbx.lt).cell 1, (hbx.below hW hbx.lt).cell 2, (hbx.below hW hbx.lt).cell 3, (hbx.below hW hbx.lt).cell 4, (hbx.below hW hbx.lt).cell 5, (hbx.below hW hbx.lt).cell 6, (hbx.below hW hbx.lt).cell 7, (hbx.below hW hbx.lt).cell 8⟩
              have hb0 : Below wa.heap.size wa wa.drew := (Below.refl _ _).drew
              have V0 := cs hb0
              dsimp only at V0
              refine regionK_only 9 #[false, false, false, false, false, false, false, false, false] 8 (V := (fun W => W.cell? ⟨w.heap.size, 1, none⟩ = some (.slice (some pa) l.length vc) ∧ W.cell? ⟨XB, 0, none⟩ = some (.int .u64 (s : Int)) ∧ W.cell? ⟨XB, 1, none⟩ = some (.int .u64 0) ∧ W.cell? ⟨XB, 2, none⟩ = some (.int .u64 0) ∧ W.cell? ⟨XB, 3, none⟩ = some (.int .u64 (num : Int)) ∧ W.cell? ⟨XB, 4, none⟩ = some (.int .i64 0) ∧ W.cell? ⟨XB, 5, none⟩ = some (.string ⟨#[]⟩) ∧ W.cell? ⟨XB, 6, none⟩ = some (.string ⟨#[]⟩) ∧ W.cell? ⟨XB, 7, none⟩ = some (.int .u64 0) ∧ W.cell? ⟨XB, 8, none⟩ = some (.int .u64 0))) rfl rfl (by kernel_rfl) V0 (fun hSw => ?_)
              generalize wa.drew = w20 at hb0 hSw ⊢
              clear V0
              have hb20 := hb0
              clear hb0
              refine early_at 8 1 83 (fuel := 8) ?_ rfl rfl (by kernel_rfl) (by kernel_rfl) (by kernel_rfl) (by decide) rfl (by kernel_rfl) (by kernel_rfl) (Or.inl ⟨by rfl, ?_⟩) hSw ?_
              rotate_left
              · intro wx hSx
                (try dsimp only at hSx)
                go_split_ands
                go_simp
                (try with_reducible rfl)
              simp only [List.setIfInBounds_toArray, List.set_cons_zero, List.set_cons_succ]
              refine early_at 8 2 84 (fuel := 7) ?_ rfl rfl (by kernel_rfl) (by kernel_rfl) (by kernel_rfl) (by decide) rfl (by kernel_rfl) (by kernel_rfl) (Or.inl ⟨by rfl, ?_⟩) hSw ?_
              rotate_left
              · intro wx hSx
                (try dsimp only at hSx)
                go_split_ands
                go_simp
                (try with_reducible rfl)
              simp only [List.setIfInBounds_toArray, List.set_cons_zero, List.set_cons_succ]
              refine early_at 8 4 86 (fuel := 6) ?_ rfl rfl (by kernel_rfl) (by kernel_rfl) (by kernel_rfl) (by decide) rfl (by kernel_rfl) (by kernel_rfl) (Or.inl ⟨by rfl, ?_⟩) hSw ?_
              rotate_left
              · intro wx hSx
                (try dsimp only at hSx)
                go_split_ands
                go_simp
                (try with_reducible rfl)
              simp only [List.setIfInBounds_toArray, List.set_cons_zero, List.set_cons_succ]
              refine wpAnyK_two 0 5 (by kernel_rfl) rfl rfl (fun K hK => ?_) (fun K hK => ?_)
              · skip
                go_simp
                have hb21 : Below wa.heap.size wa (w20.alloc (.cells #[] 43)) := hb20.alloc hb20.size _
                refine hK.out _ _ trivial (fun _ => cs hb21) ?_
                clear hK K
                simp only [List.setIfInBounds_toArray, List.set_cons_zero]
                have hA : Ow (w20.alloc (.cells #[] 43)) wa.heap.size 43 Rc.enc 9 (.slice (some ⟨w20.heap.size, 0, none⟩) 0 0) [] := Ow.empty w20 wa.heap.size hb20.size
                generalize w20.alloc (.cells #[] 43) = w21 at *
                generalize w20.heap.size = A at *
                refine wpAnyK_two 3 5 (by kernel_rfl) rfl rfl (fun K hK => ?_) (fun K hK => ?_)
                · skip
                  have hvw2 : Vw w21 Rc.enc 9 (.slice (some pa) l.length vc) l := hvw.stay (Nat.le_trans hb21.size (Nat.le_refl _)) fun g hg => hb21.block g (hvw.lt g hg)
                  refine step_append_own _ (by rfl) _ _ _ (by rfl) wa.heap.size 43 i0 _ 9 88 Try.underlying28 hi0 hz0 hz1 hz2 rfl (by omega) (.slice (some ⟨A, 0, none⟩) 0 0) 0 [] (by rfl) hA pa l.length vc (rws Rc.enc l) (by rfl) (rws_length Rc.len l) (hvw2.newsP Rc.len (by omega)) (rws_one Rc.one l) (by unfold maxLen; omega) (by omega) hb21.size ?_
                  intro v1 w22 hown hgrow hat
                  have hO : Ow w22 wa.heap.size 43 Rc.enc 9 v1 l := by
                    rw [Nat.zero_add, List.nil_append] at hown
                    exact hown
                  have hAl := hA.lt A rfl
                  have hb22 : Below wa.heap.size wa w22 := hb21.grown hgrow hb21.size (fun k hk => by
                    have h0 : A = k := by simpa [Value.ownBlock] using hk
                    omega)
                  refine hK.out _ _ trivial (fun _ => cs hb22) ?_
                  clear hK K
                  simp only [List.setIfInBounds_toArray, List.set_cons_zero, List.set_cons_succ]
                  clear hvw2 hown hgrow hat hA hAl
                  refine Wirey.wpAnyK_one 5 (by kernel_rfl) rfl (fun K hK => ?_)
                  go_simp
                  have hb23 : Below wa.heap.size wa (w22.alloc (.cells #[.int .u64 (s : Int), .int .u64 0, .int .u64 0, .int .u64 (num : Int), .int .i64 0, .string ⟨#[]⟩, .string ⟨#[]⟩, .int .u64 0, .int .u64 0] 43)) := hb22.alloc hb22.size _
                  refine hK.out _ _ trivial (fun _ => cs hb23) ?_
                  clear hK K
                  simp only [List.setIfInBounds_toArray, List.set_cons_zero, List.set_cons_succ]
                  have hX := Blk.new w22 43 #[.int .u64 (s : Int), .int .u64 0, .int .u64 0, .int .u64 (num : Int), .int .i64 0, .string ⟨#[]⟩, .string ⟨#[]⟩, .int .u64 0, .int .u64 0]
                  have hne2 : ∀ g, v1.ownBlock = some g → g ≠ w22.heap.size := fun g hg e => by have := (hO.lt g hg).2; omega
                  have hO' := hO.alloc (.cells #[.int .u64 (s : Int), .int .u64 0, .int .u64 0, .int .u64 (num : Int), .int .i64 0, .string ⟨#[]⟩, .string ⟨#[]⟩, .int .u64 0, .int .u64 0] 43)
                  clear hO
                  have hO := hO'
                  clear hO'
                  generalize w22.alloc (.cells #[.int .u64 (s : Int), .int .u64 0, .int .u64 0, .int .u64 (num : Int), .int .i64 0, .string ⟨#[]⟩, .string ⟨#[]⟩, .int .u64 0, .int .u64 0] 43) = w23 at *
                  generalize w22.heap.size = X at *
                  refine Wirey.wpAnyK_one 6 (by kernel_rfl) rfl (fun K hK => ?_)
                  refine step_append_own _ (by rfl) _ _ _ (by rfl) wa.heap.size 43 i0 _ 9 88 Try.underlying28 hi0 hz0 hz1 hz2 rfl (by omega) v1 l.length (rws Rc.enc l) (by rfl) hO ⟨X, 0, none⟩ 1 1 (Rc.of s num).enc (by rfl) (by rfl) (World.news_of_block (cs := #[.int .u64 (s : Int), .int .u64 0, .int .u64 0, .int .u64 (num : Int), .int .i64 0, .string ⟨#[]⟩, .string ⟨#[]⟩, .int .u64 0, .int .u64 0]) (t := 43) (fr := (0, 0)) hX) (Rc.one _) (by unfold maxLen; omega) (by omega) hb23.size ?_
                  intro v2 w30 hown hgrow hat
                  have hO2 : Ow w30 wa.heap.size 43 Rc.enc 9 v2 (l ++ [Rc.of s num]) := by
                    unfold Ow
                    rw [List.length_append, rws_append, rws, rws, List.append_nil]
                    exact hown
                  have hb30 : Below wa.heap.size wa w30 := hb23.grown hgrow hb23.size (fun k hk => (hO.lt k hk).1)
                  refine hK.out _ _ trivial (fun _ => cs hb30) ?_
                  clear hK K
                  simp only [List.setIfInBounds_toArray, List.set_cons_zero, List.set_cons_succ]
                  have hSw := cs hb30
                  clear hO hown hgrow hat hX
                  refine early_at 8 7 89 (fuel := 1) ?_ rfl rfl (by kernel_rfl) (by kernel_rfl) (by kernel_rfl) (by decide) rfl (by kernel_rfl) (by kernel_rfl) (Or.inl ⟨by rfl, ?_⟩) hSw ?_
                  rotate_left
                  · intro wx hSx
                    (try dsimp only at hSx)
                    go_split_ands
                    go_simp
                    (try with_reducible rfl)
                  simp only [List.setIfInBounds_toArray, List.set_cons_zero, List.set_cons_succ]
                  have y1 := (hbm.below hb30 hbm.lt).cell 1
                  have f1 := (hbm.below hb30 hbm.lt).free 1
                  simp only [List.getElem?_toArray, List.getElem?_cons_zero, List.getElem?_cons_succ] at y1
                  obtain ⟨a2, c2, rfl⟩ := hO2.form
                  refine Wirey.wpAnyK_one 8 (by kernel_rfl) rfl (fun K hK => ?_)
                  go_simp
                  refine hK.out _ _ trivial (fun h9 => absurd h9 (by decide)) ?_
                  clear hK K
                  simp only [List.setIfInBounds_toArray, List.set_cons_zero, List.set_cons_succ]
                  refine Wirey.wpAnyK_done (by kernel_rfl) ⟨rfl, ?_⟩
                  go_wp2_with fail
                  go_meet
                  exact ⟨_, w30, hb30, hO2, by first | rfl | (rw [List.length_append]; rfl)⟩
                · skip
                  go_simp
                  have hb22 : Below wa.heap.size wa (w21.alloc (.cells #[.int .u64 (s : Int), .int .u64 0, .int .u64 0, .int .u64 (num : Int), .int .i64 0, .string ⟨#[]⟩, .string ⟨#[]⟩, .int .u64 0, .int .u64 0] 43)) := hb21.alloc hb21.size _
                  refine hK.out _ _ trivial (fun _ => cs hb22) ?_
                  clear hK K
                  simp only [List.setIfInBounds_toArray, List.set_cons_zero, List.set_cons_succ]
                  have hX := Blk.new w21 43 #[.int .u64 (s : Int), .int .u64 0, .int .u64 0, .int .u64 (num : Int), .int .i64 0, .string ⟨#[]⟩, .string ⟨#[]⟩, .int .u64 0, .int .u64 0]
                  have hne : w21.heap.size ≠ A := fun e => by have := (hA.lt A rfl).2; omega
                  have hA' := hA.alloc (.cells #[.int .u64 (s : Int), .int .u64 0, .int .u64 0, .int .u64 (num : Int), .int .i64 0, .string ⟨#[]⟩, .string ⟨#[]⟩, .int .u64 0, .int .u64 0] 43)
                  clear hA
                  have hA := hA'
                  clear hA'
                  generalize w21.alloc (.cells #[.int .u64 (s : Int), .int .u64 0, .int .u64 0, .int .u64 (num : Int), .int .i64 0, .string ⟨#[]⟩, .string ⟨#[]⟩, .int .u64 0, .int .u64 0] 43) = w22 at *
                  generalize w21.heap.size = X at *
                  refine Wirey.wpAnyK_one 3 (by kernel_rfl) rfl (fun K hK => ?_)
                  have hvw2 : Vw w22 Rc.enc 9 (.slice (some pa) l.length vc) l := hvw.stay (Nat.le_trans hb22.size (Nat.le_refl _)) fun g hg => hb22.block g (hvw.lt g hg)
                  refine step_append_own _ (by rfl) _ _ _ (by rfl) wa.heap.size 43 i0 _ 9 88 Try.underlying28 hi0 hz0 hz1 hz2 rfl (by omega) (.slice (some ⟨A, 0, none⟩) 0 0) 0 [] (by rfl) hA pa l.length vc (rws Rc.enc l) (by rfl) (rws_length Rc.len l) (hvw2.newsP Rc.len (by omega)) (rws_one Rc.one l) (by unfold maxLen; omega) (by omega) hb22.size ?_
                  intro v1 w23 hown hgrow hat
                  have hO : Ow w23 wa.heap.size 43 Rc.enc 9 v1 l := by
                    rw [Nat.zero_add, List.nil_append] at hown
                    exact hown
                  have hAl := hA.lt A rfl
                  have hb23 : Below wa.heap.size wa w23 := hb22.grown hgrow hb22.size (fun k hk => by
                    have h0 : A = k := by simpa [Value.ownBlock] using hk
                    omega)
                  have hX' : Blk w23 X 43 #[.int .u64 (s : Int), .int .u64 0, .int .u64 0, .int .u64 (num : Int), .int .i64 0, .string ⟨#[]⟩, .string ⟨#[]⟩, .int .u64 0, .int .u64 0] := hX.grown hgrow (by show some X ≠ some A; intro e; injection e with e; exact hne e)
                  have hne2 : ∀ g, v1.ownBlock = some g → g ≠ X := fun g hg e => by
                    rcases hat with h0 | h0
                    · rw [h0] at hg
                      have h1 : A = g := by simpa [Value.ownBlock] using hg
                      exact hne (h1.trans e).symm
                    · rw [h0] at hg
                      injection hg with hg
                      have := hX.lt
                      omega
                  clear hX
                  have hX := hX'
                  clear hX'
                  refine hK.out _ _ trivial (fun _ => cs hb23) ?_
                  clear hK K
                  simp only [List.setIfInBounds_toArray, List.set_cons_zero, List.set_cons_succ]
                  clear hvw2 hown hgrow hat hA hAl
                  refine Wirey.wpAnyK_one 6 (by kernel_rfl) rfl (fun K hK => ?_)
                  refine step_append_own _ (by rfl) _ _ _ (by rfl) wa.heap.size 43 i0 _ 9 88 Try.underlying28 hi0 hz0 hz1 hz2 rfl (by omega) v1 l.length (rws Rc.enc l) (by rfl) hO ⟨X, 0, none⟩ 1 1 (Rc.of s num).enc (by rfl) (by rfl) (World.news_of_block (cs := #[.int .u64 (s : Int), .int .u64 0, .int .u64 0, .int .u64 (num : Int), .int .i64 0, .string ⟨#[]⟩, .string ⟨#[]⟩, .int .u64 0, .int .u64 0]) (t := 43) (fr := (0, 0)) hX) (Rc.one _) (by unfold maxLen; omega) (by omega) hb23.size ?_
                  intro v2 w30 hown hgrow hat
                  have hO2 : Ow w30 wa.heap.size 43 Rc.enc 9 v2 (l ++ [Rc.of s num]) := by
                    unfold Ow
                    rw [List.length_append, rws_append, rws, rws, List.append_nil]
                    exact hown
                  have hb30 : Below wa.heap.size wa w30 := hb23.grown hgrow hb23.size (fun k hk => (hO.lt k hk).1)
                  refine hK.out _ _ trivial (fun _ => cs hb30) ?_
                  clear hK K
                  simp only [List.setIfInBounds_toArray, List.set_cons_zero, List.set_cons_succ]
                  have hSw := cs hb30
                  clear hO hown hgrow hat hX
                  refine early_at 8 7 89 (fuel := 1) ?_ rfl rfl (by kernel_rfl) (by kernel_rfl) (by kernel_rfl) (by decide) rfl (by kernel_rfl) (by kernel_rfl) (Or.inl ⟨by rfl, ?_⟩) hSw ?_
                  rotate_left
                  · intro wx hSx
                    (try dsimp only at hSx)
                    go_split_ands
                    go_simp
                    (try with_reducible rfl)
                  simp only [List.setIfInBounds_toArray, List.set_cons_zero, List.set_cons_succ]
                  have y1 := (hbm.below hb30 hbm.lt).cell 1
                  have f1 := (hbm.below hb30 hbm.lt).free 1
                  simp only [List.getElem?_toArray, List.getElem?_cons_zero, List.getElem?_cons_succ] at y1
                  obtain ⟨a2, c2, rfl⟩ := hO2.form
                  refine Wirey.wpAnyK_one 8 (by kernel_rfl) rfl (fun K hK => ?_)
                  go_simp
                  refine hK.out _ _ trivial (fun h9 => absurd h9 (by decide)) ?_
                  clear hK K
                  simp only [List.setIfInBounds_toArray, List.set_cons_zero, List.set_cons_succ]
                  refine Wirey.wpAnyK_done (by kernel_rfl) ⟨rfl, ?_⟩
                  go_wp2_with fail
                  go_meet
                  exact ⟨_, w30, hb30, hO2, by first | rfl | (rw [List.length_append]; rfl)⟩
              · skip
                go_simp
                have hb21 : Below wa.heap.size wa (w20.alloc (.cells #[.int .u64 (s : Int), .int .u64 0, .int .u64 0, .int .u64 (num : Int), .int .i64 0, .string ⟨#[]⟩, .string ⟨#[]⟩, .int .u64 0, .int .u64 0] 43)) := hb20.alloc hb20.size _
                refine hK.out _ _ trivial (fun _ => cs hb21) ?_
                clear hK K
                simp only [List.setIfInBounds_toArray, List.set_cons_zero, List.set_cons_succ]
                have hX := Blk.new w20 43 #[.int .u64 (s : Int), .int .u64 0, .int .u64 0, .int .u64 (num : Int), .int .i64 0, .string ⟨#[]⟩, .string ⟨#[]⟩, .int .u64 0, .int .u64 0]
                generalize w20.alloc (.cells #[.int .u64 (s : Int), .int .u64 0, .int .u64 0, .int .u64 (num : Int), .int .i64 0, .string ⟨#[]⟩, .string ⟨#[]⟩, .int .u64 0, .int .u64 0] 43) = w21 at *
                generalize w20.heap.size = X at *
                refine Wirey.wpAnyK_one 0 (by kernel_rfl) rfl (fun K hK => ?_)
                go_simp
                have hb22 : Below wa.heap.size wa (w21.alloc (.cells #[] 43)) := hb21.alloc hb21.size _
                refine hK.out _ _ trivial (fun _ => cs hb22) ?_
                clear hK K
                simp only [List.setIfInBounds_toArray, List.set_cons_zero]
                have hA : Ow (w21.alloc (.cells #[] 43)) wa.heap.size 43 Rc.enc 9 (.slice (some ⟨w21.heap.size, 0, none⟩) 0 0) [] := Ow.empty w21 wa.heap.size hb21.size
                have hne : X ≠ w21.heap.size := Nat.ne_of_lt hX.lt
                have hX' := hX.alloc (.cells #[] 43)
                clear hX
                have hX := hX'
                clear hX'
                generalize w21.alloc (.cells #[] 43) = w22 at *
                generalize w21.heap.size = A at *
                refine Wirey.wpAnyK_one 3 (by kernel_rfl) rfl (fun K hK => ?_)
                have hvw2 : Vw w22 Rc.enc 9 (.slice (some pa) l.length vc) l := hvw.stay (Nat.le_trans hb22.size (Nat.le_refl _)) fun g hg => hb22.block g (hvw.lt g hg)
                refine step_append_own _ (by rfl) _ _ _ (by rfl) wa.heap.size 43 i0 _ 9 88 Try.underlying28 hi0 hz0 hz1 hz2 rfl (by omega) (.slice (some ⟨A, 0, none⟩) 0 0) 0 [] (by rfl) hA pa l.length vc (rws Rc.enc l) (by rfl) (rws_length Rc.len l) (hvw2.newsP Rc.len (by omega)) (rws_one Rc.one l) (by unfold maxLen; omega) (by omega) hb22.size ?_
                intro v1 w23 hown hgrow hat
                have hO : Ow w23 wa.heap.size 43 Rc.enc 9 v1 l := by
                  rw [Nat.zero_add, List.nil_append] at hown
                  exact hown
                have hAl := hA.lt A rfl
                have hb23 : Below wa.heap.size wa w23 := hb22.grown hgrow hb22.size (fun k hk => by
                  have h0 : A = k := by simpa [Value.ownBlock] using hk
                  omega)
                have hX' : Blk w23 X 43 #[.int .u64 (s : Int), .int .u64 0, .int .u64 0, .int .u64 (num : Int), .int .i64 0, .string ⟨#[]⟩, .string ⟨#[]⟩, .int .u64 0, .int .u64 0] := hX.grown hgrow (by show some X ≠ some A; intro e; injection e with e; exact hne e)
                have hne2 : ∀ g, v1.ownBlock = some g → g ≠ X := fun g hg e => by
                  rcases hat with h0 | h0
                  · rw [h0] at hg
                    have h1 : A = g := by simpa [Value.ownBlock] using hg
                    exact hne (h1.trans e).symm
                  · rw [h0] at hg
                    injection hg with hg
                    have := hX.lt
                    omega
                clear hX
                have hX := hX'
                clear hX'
                refine hK.out _ _ trivial (fun _ => cs hb23) ?_
                clear hK K
                simp only [List.setIfInBounds_toArray, List.set_cons_zero, List.set_cons_succ]
                clear hvw2 hown hgrow hat hA hAl
                refine Wirey.wpAnyK_one 6 (by kernel_rfl) rfl (fun K hK => ?_)
                refine step_append_own _ (by rfl) _ _ _ (by rfl) wa.heap.size 43 i0 _ 9 88 Try.underlying28 hi0 hz0 hz1 hz2 rfl (by omega) v1 l.length (rws Rc.enc l) (by rfl) hO ⟨X, 0, none⟩ 1 1 (Rc.of s num).enc (by rfl) (by rfl) (World.news_of_block (cs := #[.int .u64 (s : Int), .int .u64 0, .int .u64 0, .int .u64 (num : Int), .int .i64 0, .string ⟨#[]⟩, .string ⟨#[]⟩, .int .u64 0, .int .u64 0]) (t := 43) (fr := (0, 0)) hX) (Rc.one _) (by unfold maxLen; omega) (by omega) hb23.size ?_
                intro v2 w30 hown hgrow hat
                have hO2 : Ow w30 wa.heap.size 43 Rc.enc 9 v2 (l ++ [Rc.of s num]) := by
                  unfold Ow
                  rw [List.length_append, rws_append, rws, rws, List.append_nil]
                  exact hown
                have hb30 : Below wa.heap.size wa w30 := hb23.grown hgrow hb23.size (fun k hk => (hO.lt k hk).1)
                refine hK.out _ _ trivial (fun _ => cs hb30) ?_
                clear hK K
                simp only [List.setIfInBounds_toArray, List.set_cons_zero, List.set_cons_succ]
                have hSw := cs hb30
                clear hO hown hgrow hat hX
                refine early_at 8 7 89 (fuel := 1) ?_ rfl rfl (by kernel_rfl) (by kernel_rfl) (by kernel_rfl) (by decide) rfl (by kernel_rfl) (by kernel_rfl) (Or.inl ⟨by rfl, ?_⟩) hSw ?_
                rotate_left
                · intro wx hSx
                  (try dsimp only at hSx)
                  go_split_ands
                  go_simp
                  (try with_reducible rfl)
                simp only [List.setIfInBounds_toArray, List.set_cons_zero, List.set_cons_succ]
                have y1 := (hbm.below hb30 hbm.lt).cell 1
                have f1 := (hbm.below hb30 hbm.lt).free 1
                simp only [List.getElem?_toArray, List.getElem?_cons_zero, List.getElem?_cons_succ] at y1
                obtain ⟨a2, c2, rfl⟩ := hO2.form
                refine Wirey.wpAnyK_one 8 (by kernel_rfl) rfl (fun K hK => ?_)
                go_simp
                refine hK.out _ _ trivial (fun h9 => absurd h9 (by decide)) ?_
                clear hK K
                simp only [List.setIfInBounds_toArray, List.set_cons_zero, List.set_cons_succ]
                refine Wirey.wpAnyK_done (by kernel_rfl) ⟨rfl, ?_⟩
                go_wp2_with fail
                go_meet
                exact ⟨_, w30, hb30, hO2, by first | rfl | (rw [List.length_append]; rfl)⟩
          case rest =>
            obtain ⟨v2, w30, hb30, hO2, rfl⟩ := hcut
            have DB := (D2.below hb30)
            have ho2 : ∀ g, v2.ownBlock = some g → wa.heap.size ≤ g := fun g hg => (hO2.lt g hg).1
            have D4 := DB.list (hO2.vw Rc.len) (fun g hg => ⟨fun hp => by have := ho2 g hg; have := (D2.held.low g hp).2; omega, fun e => by have := ho2 g hg; have := D2.bm.lt; omega, fun e => by have := ho2 g hg; have := D2.br.lt; omega, fun e => by have := ho2 g hg; have := D2.bx.lt; omega⟩)
            have hsrc : ∀ g, v2.ownBlock = some g → (Value.slice va l.length vc).ownBlock = some g ∨ w.heap.size ≤ g := fun g hg => Or.inr (Nat.le_trans D2.mv.kp.size (ho2 g hg))
            obtain ⟨l9, hl9⟩ : ∃ l9, l9 = l ++ [Rc.of s num] := ⟨_, rfl⟩
            have hl9l : l9.length = l.length + 1 := by rw [hl9]; simp
            rw [← hl9] at D4 hO2
            have HL9 := Lib.hid hl9l
            clear hl9 hl9l
            obtain ⟨a2, c2, rfl⟩ := hO2.form
            clear DB hO2 ho2 hb30 D2
            have m0 := D4.bm.cell 0
            have m1 := D4.bm.cell 1
            have m2 := D4.bm.cell 2
            simp only [List.getElem?_toArray, List.getElem?_cons_zero, List.getElem?_cons_succ] at m0 m1 m2
            have r0 := D4.br.cell 0
            have r1 := D4.br.cell 1
            have r2 := D4.br.cell 2
            have rf0 := D4.br.free 0
            have rf1 := D4.br.free 1
            have rf2 := D4.br.free 2
            simp only [List.getElem?_toArray, List.getElem?_cons_zero, List.getElem?_cons_succ] at r0 r1 r2
            have hoX : ∀ g, (.slice a2 l9.length c2 : Value).ownBlock = some g → ¬ P4 g ∧ g ≠ w.heap.size + 2 := (fun g hg => ⟨(D4.no g hg).1, (D4.no g hg).2.2.1⟩)
            obtain ⟨hT, hHo, hVo, hMo⟩ := D4.out (u := .int .u64 (base : Int)) (B3 := base) (l3 := l9) D4.vw hoX rfl
            have hN3 : ∀ g, (.slice a2 l9.length c2 : Value).ownBlock = some g → ¬ P4 g := fun g hg => (hoX g hg).1
            have HT := Lib.hid hT
            have HH := Lib.hid hHo
            have HV := Lib.hid hVo
            have HM := Lib.hid hMo
            have HN := Lib.hid hN3
            have hbd : base + (l9).length ≤ base + l.length + 1 := by have := HL9.out; omega
            have HBD := Lib.hid hbd
            have hs9 : ∀ g, (.slice a2 l9.length c2 : Value).ownBlock = some g → (Value.slice va l.length vc).ownBlock = some g ∨ w.heap.size ≤ g := hsrc
            have HS9 := Lib.hid hs9
            clear hs9
            clear hT hHo hVo hMo hN3 hbd hoX D4
            go_wp2_with fail
            refine bodyPost_ret (results_row_tmp rfl _ _ (w.heap.size + 2) rfl (run_loadVar_row _ _ _ _ _ _ _ HT.out Try.underlying30 rfl (by kernel_rfl))) rfl ⟨_, base, l9, .slice a2 l9.length c2, ?_, HH.out, HV.out, HN.out, HM.out, HBD.out, HS9.out⟩
            rfl
      · have HS := Lib.hid hsE
        have x0 := hD.bx.cell 0
        have x1 := hD.bx.cell 1
        have x2 := hD.bx.cell 2
        have x3 := hD.bx.cell 3
        have x4 := hD.bx.cell 4
        have x5 := hD.bx.cell 5
        have x6 := hD.bx.cell 6
        have x7 := hD.bx.cell 7
        have x8 := hD.bx.cell 8
        have xf0 := hD.bx.free 0
        simp only [List.getElem?_toArray, List.getElem?_cons_zero, List.getElem?_cons_succ] at x0 x1 x2 x3 x4 x5 x6 x7 x8
        have hadd := add_c (Rc.of s num) hslt (by omega) hD.held
        obtain ⟨e1, e2⟩ : addE base most l (Rc.of s num) = 123 ∧ addL base most l (Rc.of s num) = l := add_wrong (show s ≠ _ from HS.out)
        rw [e1, e2] at hadd
        clear e1 e2
        have hadd2 := hadd
        go_wp2_with fail
        refine Calls.mono hadd ?_
        rintro e w4 ⟨rfl, P4, hH4, hM4⟩
        have D1 := hD.prog hH4 hM4
        clear hadd hadd2 hM4 hH4 hD x0 x1 x2 x3 x4 x5 x6 x7 x8 xf0
        go_upto_region 15 with (fail)
        have cs : ∀ {W : World}, Below w4.heap.size w4 W → (fun W => W.cell? ⟨XB, 0, none⟩ = some (.int .u64 (s : Int)) ∧ W.cell? ⟨w.heap.size, 0, none⟩ = some (.int .u64 (base : Int)) ∧ W.cell? ⟨w.heap.size, 1, none⟩ = some (.slice va l.length vc) ∧ W.cell? ⟨w.heap.size, 2, none⟩ = some (.int .i64 (most : Int)) ∧ Below w4.heap.size w4 W) W := fun {W} hW => ⟨(D1.bx.below hW D1.bx.lt).cell 0, (D1.bm.below hW D1.bm.lt).cell 0, (D1.bm.below hW D1.bm.lt).cell 1, (D1.bm.below hW D1.bm.lt).cell 2, hW⟩
        have h1 := cs (Below.refl w4.heap.size w4).drew
        dsimp only at h1
        refine region_only 6 #[false, false, false, false, false, false] (S := (fun W => W.cell? ⟨XB, 0, none⟩ = some (.int .u64 (s : Int)) ∧ W.cell? ⟨w.heap.size, 0, none⟩ = some (.int .u64 (base : Int)) ∧ W.cell? ⟨w.heap.size, 1, none⟩ = some (.slice va l.length vc) ∧ W.cell? ⟨w.heap.size, 2, none⟩ = some (.int .i64 (most : Int)) ∧ Below w4.heap.size w4 W)) rfl rfl (by kernel_rfl) h1 (fun hSw => ?_)
        refine take_at 0 64 (fuel := 5) ?_ rfl rfl (by kernel_rfl) (by kernel_rfl) (by kernel_rfl) (Or.inl ⟨by rfl, ?_⟩) hSw ?_
        rotate_left
        · intro wx hSx
          (try dsimp only at hSx)
          go_split_ands
          go_simp
          (try with_reducible rfl)
        simp only [List.setIfInBounds_toArray, List.set_cons_zero, List.set_cons_succ]
        refine take_at 1 65 (fuel := 4) ?_ rfl rfl (by kernel_rfl) (by kernel_rfl) (by kernel_rfl) (Or.inl ⟨by rfl, ?_⟩) hSw ?_
        rotate_left
        · intro wx hSx
          (try dsimp only at hSx)
          go_split_ands
          go_simp
          (try with_reducible rfl)
        simp only [List.setIfInBounds_toArray, List.set_cons_zero, List.set_cons_succ]
        refine take_at 2 66 (fuel := 3) ?_ rfl rfl (by kernel_rfl) (by kernel_rfl) (by kernel_rfl) (Or.inl ⟨by rfl, ?_⟩) hSw ?_
        rotate_left
        · intro wx hSx
          (try dsimp only at hSx)
          go_split_ands
          go_simp
          (try with_reducible rfl)
        simp only [List.setIfInBounds_toArray, List.set_cons_zero, List.set_cons_succ]
        refine wpAnyH_ready (fuel := 2) (rs := [3]) (by kernel_rfl) (by simp) (AllReadyH.cons rfl (fun K hK => ?_) AllReadyH.nil)
        go_simp
        refine Calls.mono (hlast _) ?_
        rintro e wv ⟨rfl, hwv⟩
        refine hK.out _ _ (cs (hSw.2.2.2.2.trans (hwv.mono hSw.2.2.2.2.size))) (fun hSw => ?_)
        clear hK K
        simp only [List.setIfInBounds_toArray, List.set_cons_zero, List.set_cons_succ]
        refine take_at 4 68 (fuel := 1) ?_ rfl rfl (by kernel_rfl) (by kernel_rfl) (by kernel_rfl) (Or.inl ⟨by rfl, ?_⟩) hSw ?_
        rotate_left
        · intro wx hSx
          (try dsimp only at hSx)
          go_split_ands
          go_simp
          (try with_reducible rfl)
        simp only [List.setIfInBounds_toArray, List.set_cons_zero, List.set_cons_succ]
        refine take_at 5 69 (fuel := 0) ?_ rfl rfl (by kernel_rfl) (by kernel_rfl) (by kernel_rfl) (Or.inl ⟨by rfl, ?_⟩) hSw ?_
        rotate_left
        · intro wx hSx
          (try dsimp only at hSx)
          go_split_ands
          go_simp
          (try with_reducible rfl)
        simp only [List.setIfInBounds_toArray, List.set_cons_zero, List.set_cons_succ]
        refine wpAnyH_done (by kernel_rfl) ⟨rfl, ?_⟩ 0
        have D2 := D1.below hSw.2.2.2.2
        clear D1 hSw h1 cs
        have hsn2 : ((s : Int) == (sN : Int)) = false := beq_eq_false_iff_ne.2 (by have := HS.out; have := HSN.out; omega)
        have hsn : ((s : Int) == (base : Int) + (l.length : Int) + 1) = false := beq_eq_false_iff_ne.2 (by have := HS.out; omega)
        have m0 := D2.bm.cell 0
        have m1 := D2.bm.cell 1
        have m2 := D2.bm.cell 2
        simp only [List.getElem?_toArray, List.getElem?_cons_zero, List.getElem?_cons_succ] at m0 m1 m2
        have r0 := D2.br.cell 0
        have r1 := D2.br.cell 1
        have r2 := D2.br.cell 2
        have rf0 := D2.br.free 0
        have rf1 := D2.br.free 1
        have rf2 := D2.br.free 2
        simp only [List.getElem?_toArray, List.getElem?_cons_zero, List.getElem?_cons_succ] at r0 r1 r2
        have hoX : ∀ g, (.slice va l.length vc : Value).ownBlock = some g → ¬ P4 g ∧ g ≠ w.heap.size + 2 := (fun g hg => ⟨(D2.no g hg).1, (D2.no g hg).2.2.1⟩)
        obtain ⟨hT, hHo, hVo, hMo⟩ := D2.out (u := .int .u64 (base : Int)) (B3 := base) (l3 := l) D2.vw hoX rfl
        have hN3 : ∀ g, (.slice va l.length vc : Value).ownBlock = some g → ¬ P4 g := fun g hg => (hoX g hg).1
        have HT := Lib.hid hT
        have HH := Lib.hid hHo
        have HV := Lib.hid hVo
        have HM := Lib.hid hMo
        have HN := Lib.hid hN3
        have hbd : base + (l).length ≤ base + l.length + 1 := by omega
        have HBD := Lib.hid hbd
        have hs9 : ∀ g, (.slice va l.length vc : Value).ownBlock = some g → (Value.slice va l.length vc).ownBlock = some g ∨ w.heap.size ≤ g := fun g hg => Or.inl hg
        have HS9 := Lib.hid hs9
        clear hs9
        clear hT hHo hVo hMo hN3 hbd hoX D2
        go_wp2_with fail
        refine bodyPost_ret (results_row_tmp rfl _ _ (w.heap.size + 2) rfl (run_loadVar_row _ _ _ _ _ _ _ HT.out Try.underlying30 rfl (by kernel_rfl))) rfl ⟨_, base, l, .slice va l.length vc, ?_, HH.out, HV.out, HN.out, HM.out, HBD.out, HS9.out⟩
        rfl
    have q3 : (kd == 3) = false := beq_eq_false_iff_ne.2 k3
    go_upto_region 14 with (fail)
    clear a0 a1 hA3
    have x0 := hD.bx.cell 0
    have x1 := hD.bx.cell 1
    have x2 := hD.bx.cell 2
    have x3 := hD.bx.cell 3
    have x4 := hD.bx.cell 4
    have x5 := hD.bx.cell 5
    have x6 := hD.bx.cell 6
    have x7 := hD.bx.cell 7
    have x8 := hD.bx.cell 8
    have xf0 := hD.bx.free 0
    simp only [List.getElem?_toArray, List.getElem?_cons_zero, List.getElem?_cons_succ] at x0 x1 x2 x3 x4 x5 x6 x7 x8
    have hadd := add_c (Rc.of s num) hslt (by omega) hD.held
    by_cases hfull : most ≤ l.length
    · skip
      obtain ⟨e1, e2⟩ : addE base most l (Rc.of s num) = 130 ∧ addL base most l (Rc.of s num) = l := (add_full (show s = _ from HS.out) hfull)
      rw [e1, e2] at hadd
      clear e1 e2
      have hadd2 := hadd
      go_wp2_with fail
      refine Calls.mono hadd ?_
      rintro e w4 ⟨rfl, P4, hH4, hM4⟩
      have D1 := hD.prog hH4 hM4
      clear hadd hadd2 hM4 hH4 hD x0 x1 x2 x3 x4 x5 x6 x7 x8 xf0
      go_upto_region 15 with (fail)
      have cs : ∀ {W : World}, Below w4.heap.size w4 W → (fun W => W.cell? ⟨XB, 0, none⟩ = some (.int .u64 (s : Int)) ∧ W.cell? ⟨w.heap.size, 0, none⟩ = some (.int .u64 (base : Int)) ∧ W.cell? ⟨w.heap.size, 1, none⟩ = some (.slice va l.length vc) ∧ W.cell? ⟨w.heap.size, 2, none⟩ = some (.int .i64 (most : Int)) ∧ Below w4.heap.size w4 W) W := fun {W} hW => ⟨(D1.bx.below hW D1.bx.lt).cell 0, (D1.bm.below hW D1.bm.lt).cell 0, (D1.bm.below hW D1.bm.lt).cell 1, (D1.bm.below hW D1.bm.lt).cell 2, hW⟩
      have h1 := cs (Below.refl w4.heap.size w4).drew
      dsimp only at h1
      refine region_only 6 #[false, false, false, false, false, false] (S := (fun W => W.cell? ⟨XB, 0, none⟩ = some (.int .u64 (s : Int)) ∧ W.cell? ⟨w.heap.size, 0, none⟩ = some (.int .u64 (base : Int)) ∧ W.cell? ⟨w.heap.size, 1, none⟩ = some (.slice va l.length vc) ∧ W.cell? ⟨w.heap.size, 2, none⟩ = some (.int .i64 (most : Int)) ∧ Below w4.heap.size w4 W)) rfl rfl (by kernel_rfl) h1 (fun hSw => ?_)
      refine take_at 0 64 (fuel := 5) ?_ rfl rfl (by kernel_rfl) (by kernel_rfl) (by kernel_rfl) (Or.inl ⟨by rfl, ?_⟩) hSw ?_
      rotate_left
      · intro wx hSx
        (try dsimp only at hSx)
        go_split_ands
        go_simp
        (try with_reducible rfl)
      simp only [List.setIfInBounds_toArray, List.set_cons_zero, List.set_cons_succ]
      refine take_at 1 65 (fuel := 4) ?_ rfl rfl (by kernel_rfl) (by kernel_rfl) (by kernel_rfl) (Or.inl ⟨by rfl, ?_⟩) hSw ?_
      rotate_left
      · intro wx hSx
        (try dsimp only at hSx)
        go_split_ands
        go_simp
        (try with_reducible rfl)
      simp only [List.setIfInBounds_toArray, List.set_cons_zero, List.set_cons_succ]
      refine take_at 2 66 (fuel := 3) ?_ rfl rfl (by kernel_rfl) (by kernel_rfl) (by kernel_rfl) (Or.inl ⟨by rfl, ?_⟩) hSw ?_
      rotate_left
      · intro wx hSx
        (try dsimp only at hSx)
        go_split_ands
        go_simp
        (try with_reducible rfl)
      simp only [List.setIfInBounds_toArray, List.set_cons_zero, List.set_cons_succ]
      refine wpAnyH_ready (fuel := 2) (rs := [3]) (by kernel_rfl) (by simp) (AllReadyH.cons rfl (fun K hK => ?_) AllReadyH.nil)
      go_simp
      refine Calls.mono (hlast _) ?_
      rintro e wv ⟨rfl, hwv⟩
      refine hK.out _ _ (cs (hSw.2.2.2.2.trans (hwv.mono hSw.2.2.2.2.size))) (fun hSw => ?_)
      clear hK K
      simp only [List.setIfInBounds_toArray, List.set_cons_zero, List.set_cons_succ]
      refine take_at 4 68 (fuel := 1) ?_ rfl rfl (by kernel_rfl) (by kernel_rfl) (by kernel_rfl) (Or.inl ⟨by rfl, ?_⟩) hSw ?_
      rotate_left
      · intro wx hSx
        (try dsimp only at hSx)
        go_split_ands
        go_simp
        (try with_reducible rfl)
      simp only [List.setIfInBounds_toArray, List.set_cons_zero, List.set_cons_succ]
      refine take_at 5 69 (fuel := 0) ?_ rfl rfl (by kernel_rfl) (by kernel_rfl) (by kernel_rfl) (Or.inl ⟨by rfl, ?_⟩) hSw ?_
      rotate_left
      · intro wx hSx
        (try dsimp only at hSx)
        go_split_ands
        go_simp
        (try with_reducible rfl)
      simp only [List.setIfInBounds_toArray, List.set_cons_zero, List.set_cons_succ]
      refine wpAnyH_done (by kernel_rfl) ⟨rfl, ?_⟩ 0
      have D2 := D1.below hSw.2.2.2.2
      clear D1 hSw h1 cs
      have hsn : ((s : Int) == (base : Int) + (l.length : Int) + 1) = true := beq_iff_eq.2 (by have := HS.out; omega)
      have dge : decide ((most : Int) ≤ (l.length : Int)) = true := decide_eq_true (by omega)
      have m0 := D2.bm.cell 0
      have m1 := D2.bm.cell 1
      have m2 := D2.bm.cell 2
      simp only [List.getElem?_toArray, List.getElem?_cons_zero, List.getElem?_cons_succ] at m0 m1 m2
      have r0 := D2.br.cell 0
      have r1 := D2.br.cell 1
      have r2 := D2.br.cell 2
      have rf0 := D2.br.free 0
      have rf1 := D2.br.free 1
      have rf2 := D2.br.free 2
      simp only [List.getElem?_toArray, List.getElem?_cons_zero, List.getElem?_cons_succ] at r0 r1 r2
      have hoX : ∀ g, (.slice va l.length vc : Value).ownBlock = some g → ¬ P4 g ∧ g ≠ w.heap.size + 2 := (fun g hg => ⟨(D2.no g hg).1, (D2.no g hg).2.2.1⟩)
      obtain ⟨hT, hHo, hVo, hMo⟩ := D2.out (u := .int .u64 (base : Int)) (B3 := base) (l3 := l) D2.vw hoX rfl
      have hN3 : ∀ g, (.slice va l.length vc : Value).ownBlock = some g → ¬ P4 g := fun g hg => (hoX g hg).1
      have HT := Lib.hid hT
      have HH := Lib.hid hHo
      have HV := Lib.hid hVo
      have HM := Lib.hid hMo
      have HN := Lib.hid hN3
      have hbd : base + (l).length ≤ base + l.length + 1 := by omega
      have HBD := Lib.hid hbd
      have hs9 : ∀ g, (.slice va l.length vc : Value).ownBlock = some g → (Value.slice va l.length vc).ownBlock = some g ∨ w.heap.size ≤ g := fun g hg => Or.inl hg
      have HS9 := Lib.hid hs9
      clear hs9
      clear hT hHo hVo hMo hN3 hbd hoX D2
      go_wp2_with fail
      refine bodyPost_ret (results_row_tmp rfl _ _ (w.heap.size + 2) rfl (run_loadVar_row _ _ _ _ _ _ _ HT.out Try.underlying30 rfl (by kernel_rfl))) rfl ⟨_, base, l, .slice va l.length vc, ?_, HH.out, HV.out, HN.out, HM.out, HBD.out, HS9.out⟩
      rfl
    · skip
      obtain ⟨e1, e2⟩ : addE base most l (Rc.of s num) = 0 ∧ addL base most l (Rc.of s num) = l ++ [Rc.of s num] := add_next (show s = _ from HS.out) (by omega)
      rw [e1, e2] at hadd
      clear e1 e2
      have hadd2 := hadd
      go_wp2_with fail
      refine Calls.mono hadd ?_
      rintro e w4 ⟨rfl, P4, hH4, hM4⟩
      have D1 := hD.prog hH4 hM4
      clear hadd hadd2 hM4 hH4 hD x0 x1 x2 x3 x4 x5 x6 x7 x8 xf0
      go_upto_region 15 with (fail)
      have cs : ∀ {W : World}, Below w4.heap.size w4 W → (fun W => W.cell? ⟨XB, 0, none⟩ = some (.int .u64 (s : Int)) ∧ W.cell? ⟨w.heap.size, 0, none⟩ = some (.int .u64 (base : Int)) ∧ W.cell? ⟨w.heap.size, 1, none⟩ = some (.slice va l.length vc) ∧ W.cell? ⟨w.heap.size, 2, none⟩ = some (.int .i64 (most : Int)) ∧ Below w4.heap.size w4 W) W := fun {W} hW => ⟨(D1.bx.below hW D1.bx.lt).cell 0, (D1.bm.below hW D1.bm.lt).cell 0, (D1.bm.below hW D1.bm.lt).cell 1, (D1.bm.below hW D1.bm.lt).cell 2, hW⟩
      have h1 := cs (Below.refl w4.heap.size w4).drew
      dsimp only at h1
      refine region_only 6 #[false, false, false, false, false, false] (S := (fun W => W.cell? ⟨XB, 0, none⟩ = some (.int .u64 (s : Int)) ∧ W.cell? ⟨w.heap.size, 0, none⟩ = some (.int .u64 (base : Int)) ∧ W.cell? ⟨w.heap.size, 1, none⟩ = some (.slice va l.length vc) ∧ W.cell? ⟨w.heap.size, 2, none⟩ = some (.int .i64 (most : Int)) ∧ Below w4.heap.size w4 W)) rfl rfl (by kernel_rfl) h1 (fun hSw => ?_)
      refine take_at 0 64 (fuel := 5) ?_ rfl rfl (by kernel_rfl) (by kernel_rfl) (by kernel_rfl) (Or.inl ⟨by rfl, ?_⟩) hSw ?_
      rotate_left
      · intro wx hSx
        (try dsimp only at hSx)
        go_split_ands
        go_simp
        (try with_reducible rfl)
      simp only [List.setIfInBounds_toArray, List.set_cons_zero, List.set_cons_succ]
      refine take_at 1 65 (fuel := 4) ?_ rfl rfl (by kernel_rfl) (by kernel_rfl) (by kernel_rfl) (Or.inl ⟨by rfl, ?_⟩) hSw ?_
      rotate_left
      · intro wx hSx
        (try dsimp only at hSx)
        go_split_ands
        go_simp
        (try with_reducible rfl)
      simp only [List.setIfInBounds_toArray, List.set_cons_zero, List.set_cons_succ]
      refine take_at 2 66 (fuel := 3) ?_ rfl rfl (by kernel_rfl) (by kernel_rfl) (by kernel_rfl) (Or.inl ⟨by rfl, ?_⟩) hSw ?_
      rotate_left
      · intro wx hSx
        (try dsimp only at hSx)
        go_split_ands
        go_simp
        (try with_reducible rfl)
      simp only [List.setIfInBounds_toArray, List.set_cons_zero, List.set_cons_succ]
      refine wpAnyH_ready (fuel := 2) (rs := [3]) (by kernel_rfl) (by simp) (AllReadyH.cons rfl (fun K hK => ?_) AllReadyH.nil)
      go_simp
      refine Calls.mono (hlast _) ?_
      rintro e wv ⟨rfl, hwv⟩
      refine hK.out _ _ (cs (hSw.2.2.2.2.trans (hwv.mono hSw.2.2.2.2.size))) (fun hSw => ?_)
      clear hK K
      simp only [List.setIfInBounds_toArray, List.set_cons_zero, List.set_cons_succ]
      refine take_at 4 68 (fuel := 1) ?_ rfl rfl (by kernel_rfl) (by kernel_rfl) (by kernel_rfl) (Or.inl ⟨by rfl, ?_⟩) hSw ?_
      rotate_left
      · intro wx hSx
        (try dsimp only at hSx)
        go_split_ands
        go_simp
        (try with_reducible rfl)
      simp only [List.setIfInBounds_toArray, List.set_cons_zero, List.set_cons_succ]
      refine take_at 5 69 (fuel := 0) ?_ rfl rfl (by kernel_rfl) (by kernel_rfl) (by kernel_rfl) (Or.inl ⟨by rfl, ?_⟩) hSw ?_
      rotate_left
      · intro wx hSx
        (try dsimp only at hSx)
        go_split_ands
        go_simp
        (try with_reducible rfl)
      simp only [List.setIfInBounds_toArray, List.set_cons_zero, List.set_cons_succ]
      refine wpAnyH_done (by kernel_rfl) ⟨rfl, ?_⟩ 0
      have D2 := D1.below hSw.2.2.2.2
      clear D1 hSw h1 cs
      have hsn : ((s : Int) == (base : Int) + (l.length : Int) + 1) = true := beq_iff_eq.2 (by have := HS.out; omega)
      have dge : decide ((most : Int) ≤ (l.length : Int)) = false := decide_eq_false (by omega)
      have m0 := D2.bm.cell 0
      have m1 := D2.bm.cell 1
      have m2 := D2.bm.cell 2
      simp only [List.getElem?_toArray, List.getElem?_cons_zero, List.getElem?_cons_succ] at m0 m1 m2
      go_upto_region 19 with (fail)
      generalize wv = wa at *
      clear m0 m1 m2
      go_cut [] from 11 (fun wx => ∃ v2 w30, Below wa.heap.size wa w30 ∧ Ow w30 wa.heap.size 43 Rc.enc 9 v2 (l ++ [Rc.of s num]) ∧ wx = w30.setCell ⟨w.heap.size, 1, none⟩ v2)
      case first =>
        have hbm := D2.bm
        have hbx := D2.bx
        have hvw := D2.vw
        have hll : l.length < 100000 := by omega
        cases va with
        | none =>
          obtain ⟨hl0, -, -⟩ := Vw.nil_ hvw
          have hl00 : l.length = 0 := by rw [hl0]; rfl
          have HL0 := Lib.hid hl00
          clear hl0 hl00
          have cs : ∀ {W : World}, Below wa.heap.size wa W → (fun W => W.cell? ⟨w.heap.size, 1, none⟩ = some (.slice none l.length vc) ∧ W.cell? ⟨XB, 0, none⟩ = some (.int .u64 (s : Int)) ∧ W.cell? ⟨XB, 1, none⟩ = some (.int .u64 0) ∧ W.cell? ⟨XB, 2, none⟩ = some (.int .u64 0) ∧ W.cell? ⟨XB, 3, none⟩ = some (.int .u64 (num : Int)) ∧ W.cell? ⟨XB, 4, none⟩ = some (.int .i64 0) ∧ W.cell? ⟨XB, 5, none⟩ = some (.string ⟨#[]⟩) ∧ W.cell? ⟨XB, 6, none⟩ = some (.string ⟨#[]⟩) ∧ W.cell? ⟨XB, 7, none⟩ = some (.int .u64 0) ∧ W.cell? ⟨XB, 8, none⟩ = some (.int .u64 0)) W := fun {W} hW => ⟨(hbm.below hW hbm.lt).cell 1, (hbx.below hW hbx.lt).cell 0, (hbx.below hW hbx.lt).cell 1, (hbx.below hW hbx.lt).cell 2, (hbx.below hW hbx.lt).cell 3, (hbx.below hW hbx.lt).cell 4, (hbx.below hW hbx.lt).cell 5, (hbx.below hW hbx.lt).cell 6, (hbx.below hW hbx.lt).cell 7, (hbx.below hW hbx.lt).cell 8⟩
          have hb0 : Below wa.heap.size wa wa.drew := (Below.refl _ _).drew
          have V0 := cs hb0
          dsimp only at V0
          refine regionK_only 9 #[false, false, false, false, false, false, false, false, false] 8 (V := (fun W => W.cell? ⟨w.heap.size, 1, none⟩ = some (.slice none l.length vc) ∧ W.cell? ⟨XB, 0, none⟩ = some (.int .u64 (s : Int)) ∧ W.cell? ⟨XB, 1, none⟩ = some (.int .u64 0) ∧ W.cell? ⟨XB, 2, none⟩ = some (.int .u64 0) ∧ W.cell? ⟨XB, 3, none⟩ = some (.int .u64 (num : Int)) ∧ W.cell? ⟨XB, 4, none⟩ = some (.int .i64 0) ∧ W.cell? ⟨XB, 5, none⟩ = some (.string ⟨#[]⟩) ∧ W.cell? ⟨XB, 6, none⟩ = some (.string ⟨#[]⟩) ∧ W.cell? ⟨XB, 7, none⟩ = some (.int .u64 0) ∧ W.cell? ⟨XB, 8, none⟩ = some (.int .u64 0))) rfl rfl (by kernel_rfl) V0 (fun hSw => ?_)
          generalize wa.drew = w20 at hb0 hSw ⊢
          clear V0
          have hb20 := hb0
          clear hb0
          refine early_at 8 1 83 (fuel := 8) ?_ rfl rfl (by kernel_rfl) (by kernel_rfl) (by kernel_rfl) (by decide) rfl (by kernel_rfl) (by kernel_rfl) (Or.inl ⟨by rfl, ?_⟩) hSw ?_
          rotate_left
          · intro wx hSx
            (try dsimp only at hSx)
            go_split_ands
            go_simp
            (try with_reducible rfl)
          simp only [List.setIfInBounds_toArray, List.set_cons_zero, List.set_cons_succ]
          refine early_at 8 2 84 (fuel := 7) ?_ rfl rfl (by kernel_rfl) (by kernel_rfl) (by kernel_rfl) (by decide) rfl (by kernel_rfl) (by kernel_rfl) (Or.inl ⟨by rfl, ?_⟩) hSw ?_
          rotate_left
          · intro wx hSx
            (try dsimp only at hSx)
            go_split_ands
            go_simp
            (try with_reducible rfl)
          simp only [List.setIfInBounds_toArray, List.set_cons_zero, List.set_cons_succ]
          refine early_at 8 4 86 (fuel := 6) ?_ rfl rfl (by kernel_rfl) (by kernel_rfl) (by kernel_rfl) (by decide) rfl (by kernel_rfl) (by kernel_rfl) (Or.inl ⟨by rfl, ?_⟩) hSw ?_
          rotate_left
          · intro wx hSx
            (try dsimp only at hSx)
            go_split_ands
            go_simp
            (try with_reducible rfl)
          simp only [List.setIfInBounds_toArray, List.set_cons_zero, List.set_cons_succ]
          refine wpAnyK_two 0 5 (by kernel_rfl) rfl rfl (fun K hK => ?_) (fun K hK => ?_)
          · skip
            go_simp
            have hb21 : Below wa.heap.size wa (w20.alloc (.cells #[] 43)) := hb20.alloc hb20.size _
            refine hK.out _ _ trivial (fun _ => cs hb21) ?_
            clear hK K
            simp only [List.setIfInBounds_toArray, List.set_cons_zero]
            have hA : Ow (w20.alloc (.cells #[] 43)) wa.heap.size 43 Rc.enc 9 (.slice (some ⟨w20.heap.size, 0, none⟩) 0 0) [] := Ow.empty w20 wa.heap.size hb20.size
            generalize w20.alloc (.cells #[] 43) = w21 at *
            generalize w20.heap.size = A at *
            refine wpAnyK_two 3 5 (by kernel_rfl) rfl rfl (fun K hK => ?_) (fun K hK => ?_)
            · skip
              refine step_append_nil _ (by rfl) _ _ _ (by rfl) 43 i0 Try.underlying28 hi0 (some ⟨A, 0, none⟩) 0 0 (by rfl) (Nat.le_refl _) l.length vc (by rfl) HL0.out ?_
              refine hK.out _ _ trivial (fun _ => cs hb21) ?_
              clear hK K
              simp only [List.setIfInBounds_toArray, List.set_cons_zero, List.set_cons_succ]
              have hO : Ow w21 wa.heap.size 43 Rc.enc 9 (.slice (some ⟨A, 0, none⟩) 0 0) l := by rw [List.length_eq_zero_iff.1 HL0.out]; exact hA
              obtain ⟨v1, hv1⟩ : ∃ v, v = Value.slice (some ⟨A, 0, none⟩) 0 0 := ⟨_, rfl⟩
              rw [← hv1] at hO ⊢
              clear hv1 hA
              refine Wirey.wpAnyK_one 5 (by kernel_rfl) rfl (fun K hK => ?_)
              go_simp
              have hb23 : Below wa.heap.size wa (w21.alloc (.cells #[.int .u64 (s : Int), .int .u64 0, .int .u64 0, .int .u64 (num : Int), .int .i64 0, .string ⟨#[]⟩, .string ⟨#[]⟩, .int .u64 0, .int .u64 0] 43)) := hb21.alloc hb21.size _
              refine hK.out _ _ trivial (fun _ => cs hb23) ?_
              clear hK K
              simp only [List.setIfInBounds_toArray, List.set_cons_zero, List.set_cons_succ]
              have hX := Blk.new w21 43 #[.int .u64 (s : Int), .int .u64 0, .int .u64 0, .int .u64 (num : Int), .int .i64 0, .string ⟨#[]⟩, .string ⟨#[]⟩, .int .u64 0, .int .u64 0]
              have hne2 : ∀ g, v1.ownBlock = some g → g ≠ w21.heap.size := fun g hg e => by have := (hO.lt g hg).2; omega
              have hO' := hO.alloc (.cells #[.int .u64 (s : Int), .int .u64 0, .int .u64 0, .int .u64 (num : Int), .int .i64 0, .string ⟨#[]⟩, .string ⟨#[]⟩, .int .u64 0, .int .u64 0] 43)
              clear hO
              have hO := hO'
              clear hO'
              generalize w21.alloc (.cells #[.int .u64 (s : Int), .int .u64 0, .int .u64 0, .int .u64 (num : Int), .int .i64 0, .string ⟨#[]⟩, .string ⟨#[]⟩, .int .u64 0, .int .u64 0] 43) = w23 at *
              generalize w21.heap.size = X at *
              refine Wirey.wpAnyK_one 6 (by kernel_rfl) rfl (fun K hK => ?_)
              refine step_append_own _ (by rfl) _ _ _ (by rfl) wa.heap.size 43 i0 _ 9 88 Try.underlying28 hi0 hz0 hz1 hz2 rfl (by omega) v1 l.length (rws Rc.enc l) (by rfl) hO ⟨X, 0, none⟩ 1 1 (Rc.of s num).enc (by rfl) (by rfl) (World.news_of_block (cs := #[.int .u64 (s : Int), .int .u64 0, .int .u64 0, .int .u64 (num : Int), .int .i64 0, .string ⟨#[]⟩, .string ⟨#[]⟩, .int .u64 0, .int .u64 0]) (t := 43) (fr := (0, 0)) hX) (Rc.one _) (by unfold maxLen; omega) (by omega) hb23.size ?_
              intro v2 w30 hown hgrow hat
              have hO2 : Ow w30 wa.heap.size 43 Rc.enc 9 v2 (l ++ [Rc.of s num]) := by
                unfold Ow
                rw [List.length_append, rws_append, rws, rws, List.append_nil]
                exact hown
              have hb30 : Below wa.heap.size wa w30 := hb23.grown hgrow hb23.size (fun k hk => (hO.lt k hk).1)
              refine hK.out _ _ trivial (fun _ => cs hb30) ?_
              clear hK K
              simp only [List.setIfInBounds_toArray, List.set_cons_zero, List.set_cons_succ]
              have hSw := cs hb30
              clear hO hown hgrow hat hX
              refine early_at 8 7 89 (fuel := 1) ?_ rfl rfl (by kernel_rfl) (by kernel_rfl) (by kernel_rfl) (by decide) rfl (by kernel_rfl) (by kernel_rfl) (Or.inl ⟨by rfl, ?_⟩) hSw ?_
              rotate_left
              · intro wx hSx
                (try dsimp only at hSx)
                go_split_ands
                go_simp
                (try with_reducible rfl)
              simp only [List.setIfInBounds_toArray, List.set_cons_zero, List.set_cons_succ]
              have y1 := (hbm.below hb30 hbm.lt).cell 1
              have f1 := (hbm.below hb30 hbm.lt).free 1
              simp only [List.getElem?_toArray, List.getElem?_cons_zero, List.getElem?_cons_succ] at y1
              obtain ⟨a2, c2, rfl⟩ := hO2.form
              refine Wirey.wpAnyK_one 8 (by kernel_rfl) rfl (fun K hK => ?_)
              go_simp
              refine hK.out _ _ trivial (fun h9 => absurd h9 (by decide)) ?_
              clear hK K
              simp only [List.setIfInBounds_toArray, List.set_cons_zero, List.set_cons_succ]
              refine Wirey.wpAnyK_done (by kernel_rfl) ⟨rfl, ?_⟩
              go_wp2_with fail
              go_meet
              exact ⟨_, w30, hb30, hO2, by first | rfl | (rw [List.length_append]; rfl)⟩
            · skip
              go_simp
              have hb22 : Below wa.heap.size wa (w21.alloc (.cells #[.int .u64 (s : Int), .int .u64 0, .int .u64 0, .int .u64 (num : Int), .int .i64 0, .string ⟨#[]⟩, .string ⟨#[]⟩, .int .u64 0, .int .u64 0] 43)) := hb21.alloc hb21.size _
              refine hK.out _ _ trivial (fun _ => cs hb22) ?_
              clear hK K
              simp only [List.setIfInBounds_toArray, List.set_cons_zero, List.set_cons_succ]
              have hX := Blk.new w21 43 #[.int .u64 (s : Int), .int .u64 0, .int .u64 0, .int .u64 (num : Int), .int .i64 0, .string ⟨#[]⟩, .string ⟨#[]⟩, .int .u64 0, .int .u64 0]
              have hne : w21.heap.size ≠ A := fun e => by have := (hA.lt A rfl).2; omega
              have hA' := hA.alloc (.cells #[.int .u64 (s : Int), .int .u64 0, .int .u64 0, .int .u64 (num : Int), .int .i64 0, .string ⟨#[]⟩, .string ⟨#[]⟩, .int .u64 0, .int .u64 0] 43)
              clear hA
              have hA := hA'
              clear hA'
              generalize w21.alloc (.cells #[.int .u64 (s : Int), .int .u64 0, .int .u64 0, .int .u64 (num : Int), .int .i64 0, .string ⟨#[]⟩, .string ⟨#[]⟩, .int .u64 0, .int .u64 0] 43) = w22 at *
              generalize w21.heap.size = X at *
              refine Wirey.wpAnyK_one 3 (by kernel_rfl) rfl (fun K hK => ?_)
              refine step_append_nil _ (by rfl) _ _ _ (by rfl) 43 i0 Try.underlying28 hi0 (some ⟨A, 0, none⟩) 0 0 (by rfl) (Nat.le_refl _) l.length vc (by rfl) HL0.out ?_
              refine hK.out _ _ trivial (fun _ => cs hb22) ?_
              clear hK K
              simp only [List.setIfInBounds_toArray, List.set_cons_zero, List.set_cons_succ]
              have hO : Ow w22 wa.heap.size 43 Rc.enc 9 (.slice (some ⟨A, 0, none⟩) 0 0) l := by rw [List.length_eq_zero_iff.1 HL0.out]; exact hA
              obtain ⟨v1, hv1⟩ : ∃ v, v = Value.slice (some ⟨A, 0, none⟩) 0 0 := ⟨_, rfl⟩
              rw [← hv1] at hO ⊢
              have hne2 : ∀ g, v1.ownBlock = some g → g ≠ X := fun g hg e => by
                rw [hv1] at hg
                have h0 : A = g := by simpa [Value.ownBlock] using hg
                omega
              clear hv1 hA
              refine Wirey.wpAnyK_one 6 (by kernel_rfl) rfl (fun K hK => ?_)
              refine step_append_own _ (by rfl) _ _ _ (by rfl) wa.heap.size 43 i0 _ 9 88 Try.underlying28 hi0 hz0 hz1 hz2 rfl (by omega) v1 l.length (rws Rc.enc l) (by rfl) hO ⟨X, 0, none⟩ 1 1 (Rc.of s num).enc (by rfl) (by rfl) (World.news_of_block (cs := #[.int .u64 (s : Int), .int .u64 0, .int .u64 0, .int .u64 (num : Int), .int .i64 0, .string ⟨#[]⟩, .string ⟨#[]⟩, .int .u64 0, .int .u64 0]) (t := 43) (fr := (0, 0)) hX) (Rc.one _) (by unfold maxLen; omega) (by omega) hb22.size ?_
              intro v2 w30 hown hgrow hat
              have hO2 : Ow w30 wa.heap.size 43 Rc.enc 9 v2 (l ++ [Rc.of s num]) := by
                unfold Ow
                rw [List.length_append, rws_append, rws, rws, List.append_nil]
                exact hown
              have hb30 : Below wa.heap.size wa w30 := hb22.grown hgrow hb22.size (fun k hk => (hO.lt k hk).1)
              refine hK.out _ _ trivial (fun _ => cs hb30) ?_
              clear hK K
              simp only [List.setIfInBounds_toArray, List.set_cons_zero, List.set_cons_succ]
              have hSw := cs hb30
              clear hO hown hgrow hat hX
              refine early_at 8 7 89 (fuel := 1) ?_ rfl rfl (by kernel_rfl) (by kernel_rfl) (by kernel_rfl) (by decide) rfl (by kernel_rfl) (by kernel_rfl) (Or.inl ⟨by rfl, ?_⟩) hSw ?_
              rotate_left
              · intro wx hSx
                (try dsimp only at hSx)
                go_split_ands
                go_simp
                (try with_reducible rfl)
              simp only [List.setIfInBounds_toArray, List.set_cons_zero, List.set_cons_succ]
              have y1 := (hbm.below hb30 hbm.lt).cell 1
              have f1 := (hbm.below hb30 hbm.lt).free 1
              simp only [List.getElem?_toArray, List.getElem?_cons_zero, List.getElem?_cons_succ] at y1
              obtain ⟨a2, c2, rfl⟩ := hO2.form
              refine Wirey.wpAnyK_one 8 (by kernel_rfl) rfl (fun K hK => ?_)
              go_simp
              refine hK.out _ _ trivial (fun h9 => absurd h9 (by decide)) ?_
              clear hK K
              simp only [List.setIfInBounds_toArray, List.set_cons_zero, List.set_cons_succ]
              refine Wirey.wpAnyK_done (by kernel_rfl) ⟨rfl, ?_⟩
              go_wp2_with fail
              go_meet
              exact ⟨_, w30, hb30, hO2, by first | rfl | (rw [List.length_append]; rfl)⟩
          · skip
            go_simp
            have hb21 : Below wa.heap.size wa (w20.alloc (.cells #[.int .u64 (s : Int), .int .u64 0, .int .u64 0, .int .u64 (num : Int), .int .i64 0, .string ⟨#[]⟩, .string ⟨#[]⟩, .int .u64 0, .int .u64 0] 43)) := hb20.alloc hb20.size _
            refine hK.out _ _ trivial (fun _ => cs hb21) ?_
            clear hK K
            simp only [List.setIfInBounds_toArray, List.set_cons_zero, List.set_cons_succ]
            have hX := Blk.new w20 43 #[.int .u64 (s : Int), .int .u64 0, .int .u64 0, .int .u64 (num : Int), .int .i64 0, .string ⟨#[]⟩, .string ⟨#[]⟩, .int .u64 0, .int .u64 0]
            generalize w20.alloc (.cells #[.int .u64 (s : Int), .int .u64 0, .int .u64 0, .int .u64 (num : Int), .int .i64 0, .string ⟨#[]⟩, .string ⟨#[]⟩, .int .u64 0, .int .u64 0] 43) = w21 at *
            generalize w20.heap.size = X at *
            refine Wirey.wpAnyK_one 0 (by kernel_rfl) rfl (fun K hK => ?_)
            go_simp
            have hb22 : Below wa.heap.size wa (w21.alloc (.cells #[] 43)) := hb21.alloc hb21.size _
            refine hK.out _ _ trivial (fun _ => cs hb22) ?_
            clear hK K
            simp only [List.setIfInBounds_toArray, List.set_cons_zero]
            have hA : Ow (w21.alloc (.cells #[] 43)) wa.heap.size 43 Rc.enc 9 (.slice (some ⟨w21.heap.size, 0, none⟩) 0 0) [] := Ow.empty w21 wa.heap.size hb21.size
            have hne : X ≠ w21.heap.size := Nat.ne_of_lt hX.lt
            have hX' := hX.alloc (.cells #[] 43)
            clear hX
            have hX := hX'
            clear hX'
            generalize w21.alloc (.cells #[] 43) = w22 at *
            generalize w21.heap.size = A at *
            refine Wirey.wpAnyK_one 3 (by kernel_rfl) rfl (fun K hK => ?_)
            refine step_append_nil _ (by rfl) _ _ _ (by rfl) 43 i0 Try.underlying28 hi0 (some ⟨A, 0, none⟩) 0 0 (by rfl) (Nat.le_refl _) l.length vc (by rfl) HL0.out ?_
            refine hK.out _ _ trivial (fun _ => cs hb22) ?_
            clear hK K
            simp only [List.setIfInBounds_toArray, List.set_cons_zero, List.set_cons_succ]
            have hO : Ow w22 wa.heap.size 43 Rc.enc 9 (.slice (some ⟨A, 0, none⟩) 0 0) l := by rw [List.length_eq_zero_iff.1 HL0.out]; exact hA
            obtain ⟨v1, hv1⟩ : ∃ v, v = Value.slice (some ⟨A, 0, none⟩) 0 0 := ⟨_, rfl⟩
            rw [← hv1] at hO ⊢
            have hne2 : ∀ g, v1.ownBlock = some g → g ≠ X := fun g hg e => by
              rw [hv1] at hg
              have h0 : A = g := by simpa [Value.ownBlock] using hg
              omega
            clear hv1 hA
            refine Wirey.wpAnyK_one 6 (by kernel_rfl) rfl (fun K hK => ?_)
            refine step_append_own _ (by rfl) _ _ _ (by rfl) wa.heap.size 43 i0 _ 9 88 Try.underlying28 hi0 hz0 hz1 hz2 rfl (by omega) v1 l.length (rws Rc.enc l) (by rfl) hO ⟨X, 0, none⟩ 1 1 (Rc.of s num).enc (by rfl) (by rfl) (World.news_of_block (cs := #[.int .u64 (s : Int), .int .u64 0, .int .u64 0, .int .u64 (num : Int), .int .i64 0, .string ⟨#[]⟩, .string ⟨#[]⟩, .int .u64 0, .int .u64 0]) (t := 43) (fr := (0, 0)) hX) (Rc.one _) (by unfold maxLen; omega) (by omega) hb22.size ?_
            intro v2 w30 hown hgrow hat
            have hO2 : Ow w30 wa.heap.size 43 Rc.enc 9 v2 (l ++ [Rc.of s num]) := by
              unfold Ow
              rw [List.length_append, rws_append, rws, rws, List.append_nil]
              exact hown
            have hb30 : Below wa.heap.size wa w30 := hb22.grown hgrow hb22.size (fun k hk => (hO.lt k hk).1)
            refine hK.out _ _ trivial (fun _ => cs hb30) ?_
            clear hK K
            simp only [List.setIfInBounds_toArray, List.set_cons_zero, List.set_cons_succ]
            have hSw := cs hb30
            clear hO hown hgrow hat hX
            refine early_at 8 7 89 (fuel := 1) ?_ rfl rfl (by kernel_rfl) (by kernel_rfl) (by kernel_rfl) (by decide) rfl (by kernel_rfl) (by kernel_rfl) (Or.inl ⟨by rfl, ?_⟩) hSw ?_
            rotate_left
            · intro wx hSx
              (try dsimp only at hSx)
              go_split_ands
              go_simp
              (try with_reducible rfl)
            simp only [List.setIfInBounds_toArray, List.set_cons_zero, List.set_cons_succ]
            have y1 := (hbm.below hb30 hbm.lt).cell 1
            have f1 := (hbm.below hb30 hbm.lt).free 1
            simp only [List.getElem?_toArray, List.getElem?_cons_zero, List.getElem?_cons_succ] at y1
            obtain ⟨a2, c2, rfl⟩ := hO2.form
            refine Wirey.wpAnyK_one 8 (by kernel_rfl) rfl (fun K hK => ?_)
            go_simp
            refine hK.out _ _ trivial (fun h9 => absurd h9 (by decide)) ?_
            clear hK K
            simp only [List.setIfInBounds_toArray, List.set_cons_zero, List.set_cons_succ]
            refine Wirey.wpAnyK_done (by kernel_rfl) ⟨rfl, ?_⟩
            go_wp2_with fail
            go_meet
            exact ⟨_, w30, hb30, hO2, by first | rfl | (rw [List.length_append]; rfl)⟩
        | some pa =>
          have cs : ∀ {W : World}, Below wa.heap.size wa W → (fun W => W.cell? ⟨w.heap.size, 1, none⟩ = some (.slice (some pa) l.length vc) ∧ W.cell? ⟨XB, 0, none⟩ = some (.int .u64 (s : Int)) ∧ W.cell? ⟨XB, 1, none⟩ = some (.int .u64 0) ∧ W.cell? ⟨XB, 2, none⟩ = some (.int .u64 0) ∧ W.cell? ⟨XB, 3, none⟩ = some (.int .u64 (num : Int)) ∧ W.cell? ⟨XB, 4, none⟩ = some (.int .i64 0) ∧ W.cell? ⟨XB, 5, none⟩ = some (.string ⟨#[]⟩) ∧ W.cell? ⟨XB, 6, none⟩ = some (.string ⟨#[]⟩) ∧ W.cell? ⟨XB, 7, none⟩ = some (.int .u64 0) ∧ W.cell? ⟨XB, 8, none⟩ = some (.int .u64 0)) W := fun {W} hW => ⟨(hbm.below hW hbm.lt).cell 1, (hbx.below hW hbx.lt).cell 0, (hbx.below hW hbx.lt).cell 1, (hbx.below hW hbx.lt).cell 2, (hbx.below hW hbx.lt).cell 3, (hbx.below hW hbx.lt).cell 4, (hbx.below hW hbx.lt).cell 5, (hbx.below hW hbx.lt).cell 6, (hbx.below hW hbx.lt).cell 7, (hbx.below hW hbx.lt).cell 8⟩
          have hb0 : Below wa.heap.size wa wa.drew := (Below.refl _ _).drew
          have V0 := cs hb0
          dsimp only at V0
          refine regionK_only 9 #[false, false, false, false, false, false, false, false, false] 8 (V := (fun W => W.cell? ⟨w.heap.size, 1, none⟩ = some (.slice (some pa) l.length vc) ∧ W.cell? ⟨XB, 0, none⟩ = some (.int .u64 (s : Int)) ∧ W.cell? ⟨XB, 1, none⟩ = some (.int .u64 0) ∧ W.cell? ⟨XB, 2, none⟩ = some (.int .u64 0) ∧ W.cell? ⟨XB, 3, none⟩ = some (.int .u64 (num : Int)) ∧ W.cell? ⟨XB, 4, none⟩ = some (.int .i64 0) ∧ W.cell? ⟨XB, 5, none⟩ = some (.string ⟨#[]⟩) ∧ W.cell? ⟨XB, 6, none⟩ = some (.string ⟨#[]⟩) ∧ W.cell? ⟨XB, 7, none⟩ = some (.int .u64 0) ∧ W.cell? ⟨XB, 8, none⟩ = some (.int .u64 0))) rfl rfl (by kernel_rfl) V0 (fun hSw => ?_)
          generalize wa.drew = w20 at hb0 hSw ⊢
          clear V0
          have hb20 := hb0
          clear hb0
          refine early_at 8 1 83 (fuel := 8) ?_ rfl rfl (by kernel_rfl) (by kernel_rfl) (by kernel_rfl) (by decide) rfl (by kernel_rfl) (by kernel_rfl) (Or.inl ⟨by rfl, ?_⟩) hSw ?_
          rotate_left
          · intro wx hSx
            (try dsimp only at hSx)
            go_split_ands
            go_simp
            (try with_reducible rfl)
          simp only [List.setIfInBounds_toArray, List.set_cons_zero, List.set_cons_succ]
          refine early_at 8 2 84 (fuel := 7) ?_ rfl rfl (by kernel_rfl) (by kernel_rfl) (by kernel_rfl) (by decide) rfl (by kernel_rfl) (by kernel_rfl) (Or.inl ⟨by rfl, ?_⟩) hSw ?_
          rotate_left
          · intro wx hSx
            (try dsimp only at hSx)
            go_split_ands
            go_simp
            (try with_reducible rfl)
          simp only [List.setIfInBounds_toArray, List.set_cons_zero, List.set_cons_succ]
          refine early_at 8 4 86 (fuel := 6) ?_ rfl rfl (by kernel_rfl) (by kernel_rfl) (by kernel_rfl) (by decide) rfl (by kernel_rfl) (by kernel_rfl) (Or.inl ⟨by rfl, ?_⟩) hSw ?_
          rotate_left
          · intro wx hSx
            (try dsimp only at hSx)
            go_split_ands
            go_simp
            (try with_reducible rfl)
          simp only [List.setIfInBounds_toArray, List.set_cons_zero, List.set_cons_succ]
          refine wpAnyK_two 0 5 (by kernel_rfl) rfl rfl (fun K hK => ?_) (fun K hK => ?_)
          · skip
            go_simp
            have hb21 : Below wa.heap.size wa (w20.alloc (.cells #[] 43)) := hb20.alloc hb20.size _
            refine hK.out _ _ trivial (fun _ => cs hb21) ?_
            clear hK K
            simp only [List.setIfInBounds_toArray, List.set_cons_zero]
            have hA : Ow (w20.alloc (.cells #[] 43)) wa.heap.size 43 Rc.enc 9 (.slice (some ⟨w20.heap.size, 0, none⟩) 0 0) [] := Ow.empty w20 wa.heap.size hb20.size
            generalize w20.alloc (.cells #[] 43) = w21 at *
            generalize w20.heap.size = A at *
            refine wpAnyK_two 3 5 (by kernel_rfl) rfl rfl (fun K hK => ?_) (fun K hK => ?_)
            · skip
              have hvw2 : Vw w21 Rc.enc 9 (.slice (some pa) l.length vc) l := hvw.stay (Nat.le_trans hb21.size (Nat.le_refl _)) fun g hg => hb21.block g (hvw.lt g hg)
              refine step_append_own _ (by rfl) _ _ _ (by rfl) wa.heap.size 43 i0 _ 9 88 Try.underlying28 hi0 hz0 hz1 hz2 rfl (by omega) (.slice (some ⟨A, 0, none⟩) 0 0) 0 [] (by rfl) hA pa l.length vc (rws Rc.enc l) (by rfl) (rws_length Rc.len l) (hvw2.newsP Rc.len (by omega)) (rws_one Rc.one l) (by unfold maxLen; omega) (by omega) hb21.size ?_
              intro v1 w22 hown hgrow hat
              have hO : Ow w22 wa.heap.size 43 Rc.enc 9 v1 l := by
                rw [Nat.zero_add, List.nil_append] at hown
                exact hown
              have hAl := hA.lt A rfl
              have hb22 : Below wa.heap.size wa w22 := hb21.grown hgrow hb21.size (fun k hk => by
                have h0 : A = k := by simpa [Value.ownBlock] using hk
                omega)
              refine hK.out _ _ trivial (fun _ => cs hb22) ?_
              clear hK K
              simp only [List.setIfInBounds_toArray, List.set_cons_zero, List.set_cons_succ]
              clear hvw2 hown hgrow hat hA hAl
              refine Wirey.wpAnyK_one 5 (by kernel_rfl) rfl (fun K hK => ?_)
              go_simp
              have hb23 : Below wa.heap.size wa (w22.alloc (.cells #[.int .u64 (s : Int), .int .u64 0, .int .u64 0, .int .u64 (num : Int), .int .i64 0, .string ⟨#[]⟩, .string ⟨#[]⟩, .int .u64 0, .int .u64 0] 43)) := hb22.alloc hb22.size _
              refine hK.out _ _ trivial (fun _ => cs hb23) ?_
              clear hK K
              simp only [List.setIfInBounds_toArray, List.set_cons_zero, List.set_cons_succ]
              have hX := Blk.new w22 43 #[.int .u64 (s : Int), .int .u64 0, .int .u64 0, .int .u64 (num : Int), .int .i64 0, .string ⟨#[]⟩, .string ⟨#[]⟩, .int .u64 0, .int .u64 0]
              have hne2 : ∀ g, v1.ownBlock = some g → g ≠ w22.heap.size := fun g hg e => by have := (hO.lt g hg).2; omega
              have hO' := hO.alloc (.cells #[.int .u64 (s : Int), .int .u64 0, .int .u64 0, .int .u64 (num : Int), .int .i64 0, .string ⟨#[]⟩, .string ⟨#[]⟩, .int .u64 0, .int .u64 0] 43)
              clear hO
              have hO := hO'
              clear hO'
              generalize w22.alloc (.cells #[.int .u64 (s : Int), .int .u64 0, .int .u64 0, .int .u64 (num : Int), .int .i64 0, .string ⟨#[]⟩, .string ⟨#[]⟩, .int .u64 0, .int .u64 0] 43) = w23 at *
              generalize w22.heap.size = X at *
              refine Wirey.wpAnyK_one 6 (by kernel_rfl) rfl (fun K hK => ?_)
              refine step_append_own _ (by rfl) _ _ _ (by rfl) wa.heap.size 43 i0 _ 9 88 Try.underlying28 hi0 hz0 hz1 hz2 rfl (by omega) v1 l.length (rws Rc.enc l) (by rfl) hO ⟨X, 0, none⟩ 1 1 (Rc.of s num).enc (by rfl) (by rfl) (World.news_of_block (cs := #[.int .u64 (s : Int), .int .u64 0, .int .u64 0, .int .u64 (num : Int), .int .i64 0, .string ⟨#[]⟩, .string ⟨#[]⟩, .int .u64 0, .int .u64 0]) (t := 43) (fr := (0, 0)) hX) (Rc.one _) (by unfold maxLen; omega) (by omega) hb23.size ?_
              intro v2 w30 hown hgrow hat
              have hO2 : Ow w30 wa.heap.size 43 Rc.enc 9 v2 (l ++ [Rc.of s num]) := by
                unfold Ow
                rw [List.length_append, rws_append, rws, rws, List.append_nil]
                exact hown
              have hb30 : Below wa.heap.size wa w30 := hb23.grown hgrow hb23.size (fun k hk => (hO.lt k hk).1)
              refine hK.out _ _ trivial (fun _ => cs hb30) ?_
              clear hK K
              simp only [List.setIfInBounds_toArray, List.set_cons_zero, List.set_cons_succ]
              have hSw := cs hb30
              clear hO hown hgrow hat hX
              refine early_at 8 7 89 (fuel := 1) ?_ rfl rfl (by kernel_rfl) (by kernel_rfl) (by kernel_rfl) (by decide) rfl (by kernel_rfl) (by kernel_rfl) (Or.inl ⟨by rfl, ?_⟩) hSw ?_
              rotate_left
              · intro wx hSx
                (try dsimp only at hSx)
                go_split_ands
                go_simp
                (try with_reducible rfl)
              simp only [List.setIfInBounds_toArray, List.set_cons_zero, List.set_cons_succ]
              have y1 := (hbm.below hb30 hbm.lt).cell 1
              have f1 := (hbm.below hb30 hbm.lt).free 1
              simp only [List.getElem?_toArray, List.getElem?_cons_zero, List.getElem?_cons_succ] at y1
              obtain ⟨a2, c2, rfl⟩ := hO2.form
              refine Wirey.wpAnyK_one 8 (by kernel_rfl) rfl (fun K hK => ?_)
              go_simp
              refine hK.out _ _ trivial (fun h9 => absurd h9 (by decide)) ?_
              clear hK K
              simp only [List.setIfInBounds_toArray, List.set_cons_zero, List.set_cons_succ]
              refine Wirey.wpAnyK_done (by kernel_rfl) ⟨rfl, ?_⟩
              go_wp2_with fail
              go_meet
              exact ⟨_, w30, hb30, hO2, by first | rfl | (rw [List.length_append]; rfl)⟩
            · skip
              go_simp
              have hb22 : Below wa.heap.size wa (w21.alloc (.cells #[.int .u64 (s : Int), .int .u64 0, .int .u64 0, .int .u64 (num : Int), .int .i64 0, .string ⟨#[]⟩, .string ⟨#[]⟩, .int .u64 0, .int .u64 0] 43)) := hb21.alloc hb21.size _
              refine hK.out _ _ trivial (fun _ => cs hb22) ?_
              clear hK K
              simp only [List.setIfInBounds_toArray, List.set_cons_zero, List.set_cons_succ]
              have hX := Blk.new w21 43 #[.int .u64 (s : Int), .int .u64 0, .int .u64 0, .int .u64 (num : Int), .int .i64 0, .string ⟨#[]⟩, .string ⟨#[]⟩, .int .u64 0, .int .u64 0]
              have hne : w21.heap.size ≠ A := fun e => by have := (hA.lt A rfl).2; omega
              have hA' := hA.alloc (.cells #[.int .u64 (s : Int), .int .u64 0, .int .u64 0, .int .u64 (num : Int), .int .i64 0, .string ⟨#[]⟩, .string ⟨#[]⟩, .int .u64 0, .int .u64 0] 43)
              clear hA
              have hA := hA'
              clear hA'
              generalize w21.alloc (.cells #[.int .u64 (s : Int), .int .u64 0, .int .u64 0, .int .u64 (num : Int), .int .i64 0, .string ⟨#[]⟩, .string ⟨#[]⟩, .int .u64 0, .int .u64 0] 43) = w22 at *
              generalize w21.heap.size = X at *
              refine Wirey.wpAnyK_one 3 (by kernel_rfl) rfl (fun K hK => ?_)
              have hvw2 : Vw w22 Rc.enc 9 (.slice (some pa) l.length vc) l := hvw.stay (Nat.le_trans hb22.size (Nat.le_refl _)) fun g hg => hb22.block g (hvw.lt g hg)
              refine step_append_own _ (by rfl) _ _ _ (by rfl) wa.heap.size 43 i0 _ 9 88 Try.underlying28 hi0 hz0 hz1 hz2 rfl (by omega) (.slice (some ⟨A, 0, none⟩) 0 0) 0 [] (by rfl) hA pa l.length vc (rws Rc.enc l) (by rfl) (rws_length Rc.len l) (hvw2.newsP Rc.len (by omega)) (rws_one Rc.one l) (by unfold maxLen; omega) (by omega) hb22.size ?_
              intro v1 w23 hown hgrow hat
              have hO : Ow w23 wa.heap.size 43 Rc.enc 9 v1 l := by
                rw [Nat.zero_add, List.nil_append] at hown
                exact hown
              have hAl := hA.lt A rfl
              have hb23 : Below wa.heap.size wa w23 := hb22.grown hgrow hb22.size (fun k hk => by
                have h0 : A = k := by simpa [Value.ownBlock] using hk
                omega)
              have hX' : Blk w23 X 43 #[.int .u64 (s : Int), .int .u64 0, .int .u64 0, .int .u64 (num : Int), .int .i64 0, .string ⟨#[]⟩, .string ⟨#[]⟩, .int .u64 0, .int .u64 0] := hX.grown hgrow (by show some X ≠ some A; intro e; injection e with e; exact hne e)
              have hne2 : ∀ g, v1.ownBlock = some g → g ≠ X := fun g hg e => by
                rcases hat with h0 | h0
                · rw [h0] at hg
                  have h1 : A = g := by simpa [Value.ownBlock] using hg
                  exact hne (h1.trans e).symm
                · rw [h0] at hg
                  injection hg with hg
                  have := hX.lt
                  omega
              clear hX
              have hX := hX'
              clear hX'
              refine hK.out _ _ trivial (fun _ => cs hb23) ?_
              clear hK K
              simp only [List.setIfInBounds_toArray, List.set_cons_zero, List.set_cons_succ]
              clear hvw2 hown hgrow hat hA hAl
              refine Wirey.wpAnyK_one 6 (by kernel_rfl) rfl (fun K hK => ?_)
              refine step_append_own _ (by rfl) _ _ _ (by rfl) wa.heap.size 43 i0 _ 9 88 Try.underlying28 hi0 hz0 hz1 hz2 rfl (by omega) v1 l.length (rws Rc.enc l) (by rfl) hO ⟨X, 0, none⟩ 1 1 (Rc.of s num).enc (by rfl) (by rfl) (World.news_of_block (cs := #[.int .u64 (s : Int), .int .u64 0, .int .u64 0, .int .u64 (num : Int), .int .i64 0, .string ⟨#[]⟩, .string ⟨#[]⟩, .int .u64 0, .int .u64 0]) (t := 43) (fr := (0, 0)) hX) (Rc.one _) (by unfold maxLen; omega) (by omega) hb23.size ?_
              intro v2 w30 hown hgrow hat
              have hO2 : Ow w30 wa.heap.size 43 Rc.enc 9 v2 (l ++ [Rc.of s num]) := by
                unfold Ow
                rw [List.length_append, rws_append, rws, rws, List.append_nil]
                exact hown
              have hb30 : Below wa.heap.size wa w30 := hb23.grown hgrow hb23.size (fun k hk => (hO.lt k hk).1)
              refine hK.out _ _ trivial (fun _ => cs hb30) ?_
              clear hK K
              simp only [List.setIfInBounds_toArray, List.set_cons_zero, List.set_cons_succ]
              have hSw := cs hb30
              clear hO hown hgrow hat hX
              refine early_at 8 7 89 (fuel := 1) ?_ rfl rfl (by kernel_rfl) (by kernel_rfl) (by kernel_rfl) (by decide) rfl (by kernel_rfl) (by kernel_rfl) (Or.inl ⟨by rfl, ?_⟩) hSw ?_
              rotate_left
              · intro wx hSx
                (try dsimp only at hSx)
                go_split_ands
                go_simp
                (try with_reducible rfl)
              simp only [List.setIfInBounds_toArray, List.set_cons_zero, List.set_cons_succ]
              have y1 := (hbm.below hb30 hbm.lt).cell 1
              have f1 := (hbm.below hb30 hbm.lt).free 1
              simp only [List.getElem?_toArray, List.getElem?_cons_zero, List.getElem?_cons_succ] at y1
              obtain ⟨a2, c2, rfl⟩ := hO2.form
              refine Wirey.wpAnyK_one 8 (by kernel_rfl) rfl (fun K hK => ?_)
              go_simp
              refine hK.out _ _ trivial (fun h9 => absurd h9 (by decide)) ?_
              clear hK K
              simp only [List.setIfInBounds_toArray, List.set_cons_zero, List.set_cons_succ]
              refine Wirey.wpAnyK_done (by kernel_rfl) ⟨rfl, ?_⟩
              go_wp2_with fail
              go_meet
              exact ⟨_, w30, hb30, hO2, by first | rfl | (rw [List.length_append]; rfl)⟩
          · skip
            go_simp
            have hb21 : Below wa.heap.size wa (w20.alloc (.cells #[.int .u64 (s : Int), .int .u64 0, .int .u64 0, .int .u64 (num : Int), .int .i64 0, .string ⟨#[]⟩, .string ⟨#[]⟩, .int .u64 0, .int .u64 0] 43)) := hb20.alloc hb20.size _
            refine hK.out _ _ trivial (fun _ => cs hb21) ?_
            clear hK K
            simp only [List.setIfInBounds_toArray, List.set_cons_zero, List.set_cons_succ]
            have hX := Blk.new w20 43 #[.int .u64 (s : Int), .int .u64 0, .int .u64 0, .int .u64 (num : Int), .int .i64 0, .string ⟨#[]⟩, .string ⟨#[]⟩, .int .u64 0, .int .u64 0]
            generalize w20.alloc (.cells #[.int .u64 (s : Int), .int .u64 0, .int .u64 0, .int .u64 (num : Int), .int .i64 0, .string ⟨#[]⟩, .string ⟨#[]⟩, .int .u64 0, .int .u64 0] 43) = w21 at *
            generalize w20.heap.size = X at *
            refine Wirey.wpAnyK_one 0 (by kernel_rfl) rfl (fun K hK => ?_)
            go_simp
            have hb22 : Below wa.heap.size wa (w21.alloc (.cells #[] 43)) := hb21.alloc hb21.size _
            refine hK.out _ _ trivial (fun _ => cs hb22) ?_
            clear hK K
            simp only [List.setIfInBounds_toArray, List.set_cons_zero]
            have hA : Ow (w21.alloc (.cells #[] 43)) wa.heap.size 43 Rc.enc 9 (.slice (some ⟨w21.heap.size, 0, none⟩) 0 0) [] := Ow.empty w21 wa.heap.size hb21.size
            have hne : X ≠ w21.heap.size := Nat.ne_of_lt hX.lt
            have hX' := hX.alloc (.cells #[] 43)
            clear hX
            have hX := hX'
            clear hX'
            generalize w21.alloc (.cells #[] 43) = w22 at *
            generalize w21.heap.size = A at *
            refine Wirey.wpAnyK_one 3 (by kernel_rfl) rfl (fun K hK => ?_)
            have hvw2 : Vw w22 Rc.enc 9 (.slice (some pa) l.length vc) l := hvw.stay (Nat.le_trans hb22.size (Nat.le_refl _)) fun g hg => hb22.block g (hvw.lt g hg)
            refine step_append_own _ (by rfl) _ _ _ (by rfl) wa.heap.size 43 i0 _ 9 88 Try.underlying28 hi0 hz0 hz1 hz2 rfl (by omega) (.slice (some ⟨A, 0, none⟩) 0 0) 0 [] (by rfl) hA pa l.length vc (rws Rc.enc l) (by rfl) (rws_length Rc.len l) (hvw2.newsP Rc.len (by omega)) (rws_one Rc.one l) (by unfold maxLen; omega) (by omega) hb22.size ?_
            intro v1 w23 hown hgrow hat
            have hO : Ow w23 wa.heap.size 43 Rc.enc 9 v1 l := by
              rw [Nat.zero_add, List.nil_append] at hown
              exact hown
            have hAl := hA.lt A rfl
            have hb23 : Below wa.heap.size wa w23 := hb22.grown hgrow hb22.size (fun k hk => by
              have h0 : A = k := by simpa [Value.ownBlock] using hk
              omega)
            have hX' : Blk w23 X 43 #[.int .u64 (s : Int), .int .u64 0, .int .u64 0, .int .u64 (num : Int), .int .i64 0, .string ⟨#[]⟩, .string ⟨#[]⟩, .int .u64 0, .int .u64 0] := hX.grown hgrow (by show some X ≠ some A; intro e; injection e with e; exact hne e)
            have hne2 : ∀ g, v1.ownBlock = some g → g ≠ X := fun g hg e => by
              rcases hat with h0 | h0
              · rw [h0] at hg
                have h1 : A = g := by simpa [Value.ownBlock] using hg
                exact hne (h1.trans e).symm
              · rw [h0] at hg
                injection hg with hg
                have := hX.lt
                omega
            clear hX
            have hX := hX'
            clear hX'
            refine hK.out _ _ trivial (fun _ => cs hb23) ?_
            clear hK K
            simp only [List.setIfInBounds_toArray, List.set_cons_zero, List.set_cons_succ]
            clear hvw2 hown hgrow hat hA hAl
            refine Wirey.wpAnyK_one 6 (by kernel_rfl) rfl (fun K hK => ?_)
            refine step_append_own _ (by rfl) _ _ _ (by rfl) wa.heap.size 43 i0 _ 9 88 Try.underlying28 hi0 hz0 hz1 hz2 rfl (by omega) v1 l.length (rws Rc.enc l) (by rfl) hO ⟨X, 0, none⟩ 1 1 (Rc.of s num).enc (by rfl) (by rfl) (World.news_of_block (cs := #[.int .u64 (s : Int), .int .u64 0, .int .u64 0, .int .u64 (num : Int), .int .i64 0, .string ⟨#[]⟩, .string ⟨#[]⟩, .int .u64 0, .int .u64 0]) (t := 43) (fr := (0, 0)) hX) (Rc.one _) (by unfold maxLen; omega) (by omega) hb23.size ?_
            intro v2 w30 hown hgrow hat
            have hO2 : Ow w30 wa.heap.size 43 Rc.enc 9 v2 (l ++ [Rc.of s num]) := by
              unfold Ow
              rw [List.length_append, rws_append, rws, rws, List.append_nil]
              exact hown
            have hb30 : Below wa.heap.size wa w30 := hb23.grown hgrow hb23.size (fun k hk => (hO.lt k hk).1)
            refine hK.out _ _ trivial (fun _ => cs hb30) ?_
            clear hK K
            simp only [List.setIfInBounds_toArray, List.set_cons_zero, List.set_cons_succ]
            have hSw := cs hb30
            clear hO hown hgrow hat hX
            refine early_at 8 7 89 (fuel := 1) ?_ rfl rfl (by kernel_rfl) (by kernel_rfl) (by kernel_rfl) (by decide) rfl (by kernel_rfl) (by kernel_rfl) (Or.inl ⟨by rfl, ?_⟩) hSw ?_
            rotate_left
            · intro wx hSx
              (try dsimp only at hSx)
              go_split_ands
              go_simp
              (try with_reducible rfl)
            simp only [List.setIfInBounds_toArray, List.set_cons_zero, List.set_cons_succ]
            have y1 := (hbm.below hb30 hbm.lt).cell 1
            have f1 := (hbm.below hb30 hbm.lt).free 1
            simp only [List.getElem?_toArray, List.getElem?_cons_zero, List.getElem?_cons_succ] at y1
            obtain ⟨a2, c2, rfl⟩ := hO2.form
            refine Wirey.wpAnyK_one 8 (by kernel_rfl) rfl (fun K hK => ?_)
            go_simp
            refine hK.out _ _ trivial (fun h9 => absurd h9 (by decide)) ?_
            clear hK K
            simp only [List.setIfInBounds_toArray, List.set_cons_zero, List.set_cons_succ]
            refine Wirey.wpAnyK_done (by kernel_rfl) ⟨rfl, ?_⟩
            go_wp2_with fail
            go_meet
            exact ⟨_, w30, hb30, hO2, by first | rfl | (rw [List.length_append]; rfl)⟩
      case rest =>
        obtain ⟨v2, w30, hb30, hO2, rfl⟩ := hcut
        have DB := (D2.below hb30)
        have ho2 : ∀ g, v2.ownBlock = some g → wa.heap.size ≤ g := fun g hg => (hO2.lt g hg).1
        have D4 := DB.list (hO2.vw Rc.len) (fun g hg => ⟨fun hp => by have := ho2 g hg; have := (D2.held.low g hp).2; omega, fun e => by have := ho2 g hg; have := D2.bm.lt; omega, fun e => by have := ho2 g hg; have := D2.br.lt; omega, fun e => by have := ho2 g hg; have := D2.bx.lt; omega⟩)
        have hsrc : ∀ g, v2.ownBlock = some g → (Value.slice va l.length vc).ownBlock = some g ∨ w.heap.size ≤ g := fun g hg => Or.inr (Nat.le_trans D2.mv.kp.size (ho2 g hg))
        obtain ⟨l9, hl9⟩ : ∃ l9, l9 = l ++ [Rc.of s num] := ⟨_, rfl⟩
        have hl9l : l9.length = l.length + 1 := by rw [hl9]; simp
        rw [← hl9] at D4 hO2
        have HL9 := Lib.hid hl9l
        clear hl9 hl9l
        obtain ⟨a2, c2, rfl⟩ := hO2.form
        clear DB hO2 ho2 hb30 D2
        have m0 := D4.bm.cell 0
        have m1 := D4.bm.cell 1
        have m2 := D4.bm.cell 2
        simp only [List.getElem?_toArray, List.getElem?_cons_zero, List.getElem?_cons_succ] at m0 m1 m2
        have r0 := D4.br.cell 0
        have r1 := D4.br.cell 1
        have r2 := D4.br.cell 2
        have rf0 := D4.br.free 0
        have rf1 := D4.br.free 1
        have rf2 := D4.br.free 2
        simp only [List.getElem?_toArray, List.getElem?_cons_zero, List.getElem?_cons_succ] at r0 r1 r2
        have hoX : ∀ g, (.slice a2 l9.length c2 : Value).ownBlock = some g → ¬ P4 g ∧ g ≠ w.heap.size + 2 := (fun g hg => ⟨(D4.no g hg).1, (D4.no g hg).2.2.1⟩)
        obtain ⟨hT, hHo, hVo, hMo⟩ := D4.out (u := .int .u64 (base : Int)) (B3 := base) (l3 := l9) D4.vw hoX rfl
        have hN3 : ∀ g, (.slice a2 l9.length c2 : Value).ownBlock = some g → ¬ P4 g := fun g hg => (hoX g hg).1
        have HT := Lib.hid hT
        have HH := Lib.hid hHo
        have HV := Lib.hid hVo
        have HM := Lib.hid hMo
        have HN := Lib.hid hN3
        have hbd : base + (l9).length ≤ base + l.length + 1 := by have := HL9.out; omega
        have HBD := Lib.hid hbd
        have hs9 : ∀ g, (.slice a2 l9.length c2 : Value).ownBlock = some g → (Value.slice va l.length vc).ownBlock = some g ∨ w.heap.size ≤ g := hsrc
        have HS9 := Lib.hid hs9
        clear hs9
        clear hT hHo hVo hMo hN3 hbd hoX D4
        go_wp2_with fail
        refine bodyPost_ret (results_row_tmp rfl _ _ (w.heap.size + 2) rfl (run_loadVar_row _ _ _ _ _ _ _ HT.out Try.underlying30 rfl (by kernel_rfl))) rfl ⟨_, base, l9, .slice a2 l9.length c2, ?_, HH.out, HV.out, HN.out, HM.out, HBD.out, HS9.out⟩
        rfl
end Go.Proofs.Ytajpmlmacnomfaa.Logy
