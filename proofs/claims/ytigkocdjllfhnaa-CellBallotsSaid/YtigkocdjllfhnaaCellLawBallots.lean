/- Layer 16 (cell): for every input the call returns true and leaves what it was given as it was: a cell takes part in no ballot that is not above all of which it took part, and takes no view in one below that (CellBallots). No condition. -/
import Derived.Test.YtigkocdjllfhnaaCellAwake
import Derived.Test.YtigkocdjllfhnaaCellOpen
import Derived.Test.YtigkocdjllfhnaaKit
import Derived.Test.YtigkocdjllfhnaaRows
namespace Go.Proofs.Ytigkocdjllfhnaa.Celly
open Go.ChangeShapes Go.WideShapes Go.ChangeAt Go.RowKit
open Wirey (Blk Row Kp)
open Regy
theorem prep_yes {c : Ce} {m n : Nat} (hc : c.ch = firstV) (hm : c.most = m) (h : m < n) : c.preps firstV n = true ∧ c.prep firstV n = ⟨firstV, n, c.bal, c.val⟩ := by
  have h1 : c.preps firstV n = true := by
    unfold Ce.preps
    rw [learn_first _ hc]
    exact decide_eq_true ⟨hc.symm, by rw [hm]; exact h⟩
  refine ⟨h1, ?_⟩
  unfold Ce.prep
  rw [h1, learn_first _ hc, hc]
  rfl
theorem prep_no {c : Ce} {m n : Nat} (hc : c.ch = firstV) (hm : c.most = m) (h : ¬ m < n) : c.preps firstV n = false ∧ c.prep firstV n = c := by
  have h1 : c.preps firstV n = false := by
    unfold Ce.preps
    rw [learn_first _ hc]
    exact decide_eq_false (fun h2 => h (hm ▸ h2.2))
  refine ⟨h1, ?_⟩
  unfold Ce.prep
  rw [h1, learn_first _ hc]
  rfl
theorem next_two {c : Ce} {y : Vw} (hc : c.ch = firstV) (hy : y.v = 2) : c.nexts y = decide (May y) := by
  unfold Ce.nexts
  have e : (y.v : Int) = IntKind.u64.wrap ((c.ch.v : Int) + 1) := by rw [hy, hc]; exact wrap_two.symm
  by_cases h : May y
  · rw [decide_eq_true h, decide_eq_true ⟨h, e⟩]
  · rw [decide_eq_false h, decide_eq_false (fun h2 => h h2.1)]
theorem acc_yes {c : Ce} {y : Vw} {m n : Nat} (hc : c.ch = firstV) (hy : y.v = 2) (hm : c.most = m) (h1 : May y) (h2 : 0 < n) (h3 : m ≤ n) : c.accs y n = true ∧ c.acc y n = ⟨firstV, n, n, y⟩ := by
  have h : c.accs y n = true := decide_eq_true ⟨by rw [next_two hc hy]; exact decide_eq_true h1, h2, by rw [hm]; exact h3⟩
  refine ⟨h, ?_⟩
  unfold Ce.acc
  rw [h, hc]
  rfl
theorem acc_no {c : Ce} {y : Vw} {m n : Nat} (hc : c.ch = firstV) (hy : y.v = 2) (hm : c.most = m) (hn : ¬ (May y ∧ 0 < n ∧ m ≤ n)) : c.accs y n = false ∧ c.acc y n = c := by
  have h : c.accs y n = false := decide_eq_false (fun h2 => hn ⟨by have := h2.1; rw [next_two hc hy] at this; exact of_decide_eq_true this, h2.2.1, hm ▸ h2.2.2⟩)
  refine ⟨h, ?_⟩
  unfold Ce.acc
  rw [h]
  rfl
/-- The loop's own: the cell, the view, the greatest ballot. -/
structure Bl (w0 w : World) (b q : Nat) (y : Vw) (m : Nat) : Prop where
  ex : ∃ c : Ce, c.ch = firstV ∧ c.most = m ∧ St w0 w b q c y []
theorem St.drop {w0 w : World} {b v : Nat} {c : Ce} {y : Vw} {l : List Nat} (h : St w0 w b v c y l) : St w0 w b v c y [] := ⟨h.cell, h.box, h.bel, h.lo, fun p hp => (by cases hp), List.nodup_nil⟩
set_option maxHeartbeats 20000000 in
set_option maxRecDepth 100000 in
theorem cellBallots_walk (ao : Option Addr) (len cap sb off : Nat) (X : Nat → Nat) (x : Vw) (_hx : x.Big) (w0 : World) (hI : Nums w0 ao len sb off X) :
    Calls Try.prog 3 #[.slice ao len cap, .agg x.cs] w0 fun e w' => e = .returned (.bool true) ∧ Below w0.heap.size w0 w' := by
  have hX := Blk.new w0 VT x.cs
  have hb := (Below.refl _ w0).alloc (Nat.le_refl _) (.cells x.cs VT)
  have hmost := hI.most
  clear hmost
  go_enter Try.func3, Try.ntmps3
  go_upto_region 1 with (fail)
  generalize w0.alloc (.cells _ VT) = w1 at *
  generalize hq : w0.heap.size = q at hX ⊢
  have hq0 : w0.heap.size ≤ q := by omega
  have hlq := hX.lt
  clear hq
  go_wp2_with fail
  refine (first_c _).mono ?_
  rintro e w2 ⟨rfl, hbn⟩
  replace hX := hX.below hbn hX.lt
  replace hb := hb.trans (hbn.mono hb.size)
  replace hlq := Nat.lt_of_lt_of_le hlq hbn.size
  clear hbn
  go_wp2_with fail
  refine (new_ok (x := firstV) may_first _).mono ?_
  rintro e w3 ⟨b, rfl, hbl, hc, hbn⟩
  have hbq : b ≠ q := by omega
  have hb0 : w0.heap.size ≤ b := Nat.le_trans hb.size hbl
  replace hX := hX.below hbn hX.lt
  replace hb := hb.trans (hbn.mono hb.size)
  clear hbn hbl hlq
  go_wp2_with fail
  refine (awake_c _).mono ?_
  rintro e w4 ⟨rfl, hbn⟩
  replace hX := hX.below hbn hX.lt
  replace hc := hc.below hbn hc.lt
  replace hb := hb.trans (hbn.mono hb.size)
  clear hbn
  obtain ⟨y, hy⟩ : ∃ y : Vw, y = ⟨2, x.pr, x.pl, x.ba, x.bl, x.ep⟩ := ⟨_, rfl⟩
  have HY2 : Hid (y.v = 2) := Lib.hid (by rw [hy])
  have x0 : w4.cell? ⟨q, 0, none⟩ = some (.int .u64 (x.v : Int)) := hX.cell 0
  have f0 := hX.free 0
  have hSt : St w0 (w4.setCell ⟨q, 0, none⟩ (.int .u64 2)) b q (Ce.new firstV) y [] :=
    ⟨hc.far (p := ⟨q, 0, none⟩) hbq _, by rw [hy]; exact hX.put 0 _, hb.setCell hq0 _, ⟨hb0, hq0, hbq⟩, fun p hp => (by cases hp), List.nodup_nil⟩
  clear hX hc hb hb0 hq0 hbq hy
  go_upto_region 5 with (fail)
  clear x0 f0
  generalize w4.setCell _ _ = w5 at *
  have hel0 := hI.cell
  have hat := hI.at_
  have hbig := hI.big
  have hIl := hI.lt
  have HI := Lib.hid hI
  clear hI
  go_wp2_with fail
  go_loopw [7, 8] (fun vm vi wr => ∃ j m : Nat, j ≤ len ∧ vi = .int .i64 j ∧ vm = .int .u64 m ∧ j ≤ 30 ∧ Bl w0 wr b q y m) (fun _ v _ => len - (intOf v).toNat)
  case atStart => exact ⟨0, 0, by omega, rfl, rfl, by omega, ⟨Ce.new firstV, rfl, rfl, hSt⟩⟩
  case round =>
    clear hSt
    obtain ⟨j, m, hj, rfl, rfl, hj30, ⟨c, hcf, hcm, hSt⟩⟩ := hrel
    have HCF := Lib.hid hcf
    have HCM := Lib.hid hcm
    clear hcf hcm
    by_cases hjl : j < len
    · have hlt1 : decide ((j : Int) < (len : Int)) = true := decide_eq_true (by omega)
      have hlt2 : decide (j < len) = true := decide_eq_true hjl
      have hlt3 : (j : Int) < (len : Int) := by omega
      obtain rfl := hat (by omega)
      by_cases h30 : j < 30
      · have h31 : decide ((j : Int) < 30) = true := decide_eq_true (by omega)
        have h32 : decide (j < 30) = true := decide_eq_true h30
        have h33 : (j : Int) < 30 := by omega
        obtain ⟨n, hn⟩ : ∃ n, n = X j := ⟨_, rfl⟩
        have hnb : n < 18446744073709551616 := by rw [hn]; exact hbig j hjl
        have hel : ∀ W, Below w0.heap.size w0 W → W.cell? ⟨sb, off + j, none⟩ = some (.int .u64 (n : Int)) := fun W hb => by
          rw [hn]
          exact (World.cell?_of_block (a := ⟨sb, off + j, none⟩) (hb.block sb (hIl (by omega)))).trans (hel0 j hjl)
        clear hn
        rcases (show (j % 2 = 0 ∨ j % 2 = 1) by omega) with hpar | hpar
        · have r1 : Int.tmod (j : Int) 2 = 0 := by rw [Int.tmod_eq_emod_of_nonneg (by omega)]; omega
          have r2 : (j : Int) % 2 = 0 := by omega
          have r3 : (Int.tmod (j : Int) 2 == 0) = true := by rw [r1]; rfl
          have r4 : ((j : Int) % 2 == 0) = true := by rw [r2]; rfl
          by_cases hlt : m < n
          · have hltc := hlt
            obtain ⟨e1, e2⟩ := prep_yes (n := n) HCF.out HCM.out hlt
            obtain ⟨c2, hc2⟩ : ∃ c2, c2 = c.prep firstV n := ⟨_, rfl⟩
            have HF2 : Hid (c2.ch = firstV) := Lib.hid (by rw [hc2, e2])
            have HM2 : Hid (c2.most = n) := Lib.hid (by rw [hc2, e2])
            have hpr : ∀ {l : List Nat} (w : World), St w0 w b q c y l → Calls Try.prog 10 #[cp b, .agg firstV.cs, .int .u64 (n : Int)] w fun e w' => e = .returned (.agg (c2.told true)) ∧ Blk w' b CT c2.cs ∧ Kp (fun k => k = b) w w' := fun w h => by
              have h1 := prep_c (x := firstV) n h.cell (by rw [HCF.out]; exact first_ne)
              rw [e1, ← hc2] at h1
              exact h1
            clear e1 e2 hc2
            have d1 : decide ((m : Int) < (n : Int)) = true := decide_eq_true (by omega)
            have d2 : decide (m < n) = true := decide_eq_true hlt
            go_upto_region 10 with (fail)
            have hSd : St w0 wr.drew b q c y [] := hSt.below (Below.drew (Below.refl _ wr))
            clear hSt
            refine region_only 9 #[false, false, false, false, false, false, false, false, false] (S := (fun W => W.cell? ⟨sb, off + j, none⟩ = some (.int .u64 (n : Int)))) rfl rfl (by kernel_rfl) (hel _ hSd.bel) (fun hSw => ?_)
            refine take_at 0 36 (fuel := 8) ?_ rfl rfl (by kernel_rfl) (by kernel_rfl) (by kernel_rfl) (Or.inl ⟨by rfl, ?_⟩) hSw ?_
            rotate_left
            · intro wx hSx
              (try dsimp only at hSx)
              go_split_ands
              go_simp
              (try with_reducible rfl)
            simp only [List.setIfInBounds_toArray, List.set_cons_zero, List.set_cons_succ]
            refine take_at 2 38 (fuel := 7) ?_ rfl rfl (by kernel_rfl) (by kernel_rfl) (by kernel_rfl) (Or.inl ⟨by rfl, ?_⟩) hSw ?_
            rotate_left
            · intro wx hSx
              (try dsimp only at hSx)
              go_split_ands
              go_simp
              (try with_reducible rfl)
            simp only [List.setIfInBounds_toArray, List.set_cons_zero, List.set_cons_succ]
            refine take_at 3 39 (fuel := 6) ?_ rfl rfl (by kernel_rfl) (by kernel_rfl) (by kernel_rfl) (Or.inl ⟨by rfl, ?_⟩) hSw ?_
            rotate_left
            · intro wx hSx
              (try dsimp only at hSx)
              go_split_ands
              go_simp
              (try with_reducible rfl)
            simp only [List.setIfInBounds_toArray, List.set_cons_zero, List.set_cons_succ]
            refine take_at 4 40 (fuel := 5) ?_ rfl rfl (by kernel_rfl) (by kernel_rfl) (by kernel_rfl) (Or.inl ⟨by rfl, ?_⟩) hSw ?_
            rotate_left
            · intro wx hSx
              (try dsimp only at hSx)
              go_split_ands
              go_simp
              (try with_reducible rfl)
            simp only [List.setIfInBounds_toArray, List.set_cons_zero, List.set_cons_succ]
            refine take_at 5 41 (fuel := 4) ?_ rfl rfl (by kernel_rfl) (by kernel_rfl) (by kernel_rfl) (Or.inl ⟨by rfl, ?_⟩) hSw ?_
            rotate_left
            · intro wx hSx
              (try dsimp only at hSx)
              go_split_ands
              go_simp
              (try with_reducible rfl)
            simp only [List.setIfInBounds_toArray, List.set_cons_zero, List.set_cons_succ]
            refine keep (fun ops Q S a => ∀ (p0 : Nat) (w : World), St w0 w b q c2 y [p0] → wpAnyH Try.prog .any ops Q S 1 #[true, true, true, true, true, true, true, true, false] ⟨setL a.tmps [(37, .agg firstV.cs), (42, .agg (c2.told true)), (9, .pointer (some ⟨p0, 0, none⟩))], a.defers⟩ w) ?_ (fun F2_1 => ?_)
            · intro p0 w hS
              simp only [setL, List.setIfInBounds_toArray, List.set_cons_zero, List.set_cons_succ]
              refine wpAnyH_ready (fuel := 0) (rs := [8]) (by kernel_rfl) (by simp) (AllReadyH.cons rfl (fun K hK => ?_) AllReadyH.nil)
              have h0 := hS.ps p0 (by simp)
              refine wp_store PT (.tmp 9) (.tmp 42) ⟨p0, 0, none⟩ (.agg (c2.told true)) rfl rfl rfl rfl (store_row info_PT h0.2.2.2 rfl (all_one (Ce.told_one _ _))) ?_
              have r0 : Blk (w.setRow p0 (c2.told true)) p0 PT (c2.told true) := setRow_heap w p0 _ _ _ (0, 0) h0.2.2.2
              have hSt : St w0 (w.setRow p0 (c2.told true)) b q c2 y [] := ⟨(setRow_other _ p0 b _ (Ne.symm h0.2.1)).trans hS.cell, (setRow_other _ p0 q _ (Ne.symm h0.2.2.1)).trans hS.box, row_below hS.bel h0.1 _, hS.lo, fun p hp => (by cases hp), List.nodup_nil⟩
              refine hK.out _ _ (hel _ hSt.bel) (fun hSw => ?_)
              clear hK K hSw
              refine wpAnyH_done (by kernel_rfl) ⟨rfl, ?_⟩ 0
              clear h0 hS
              generalize w.setRow p0 (c2.told true) = w9 at *
              have hN := hel _ hSt.bel
              have y0 : w9.cell? ⟨p0, 0, none⟩ = some (.bool true) := r0.cell 0
              clear r0 hpr
              go_upto_region 11 with (fail)
              refine region_only 9 #[false, false, false, false, false, false, false, false, false] (S := (fun W => W.cell? ⟨p0, 0, none⟩ = some (.bool true) ∧ W.cell? ⟨sb, off + j, none⟩ = some (.int .u64 (n : Int)))) rfl rfl (by kernel_rfl) ⟨y0, hN⟩ (fun hSw => ?_)
              refine take_at 0 43 (fuel := 8) ?_ rfl rfl (by kernel_rfl) (by kernel_rfl) (by kernel_rfl) (Or.inl ⟨by rfl, ?_⟩) hSw ?_
              rotate_left
              · intro wx hSx
                (try dsimp only at hSx)
                go_split_ands
                go_simp
                (try with_reducible rfl)
              simp only [List.setIfInBounds_toArray, List.set_cons_zero, List.set_cons_succ]
              refine take_at 1 44 (fuel := 7) ?_ rfl rfl (by kernel_rfl) (by kernel_rfl) (by kernel_rfl) (Or.inl ⟨by rfl, ?_⟩) hSw ?_
              rotate_left
              · intro wx hSx
                (try dsimp only at hSx)
                go_split_ands
                go_simp
                (try with_reducible rfl)
              simp only [List.setIfInBounds_toArray, List.set_cons_zero, List.set_cons_succ]
              refine take_at 2 45 (fuel := 6) ?_ rfl rfl (by kernel_rfl) (by kernel_rfl) (by kernel_rfl) (Or.inl ⟨by rfl, ?_⟩) hSw ?_
              rotate_left
              · intro wx hSx
                (try dsimp only at hSx)
                go_split_ands
                go_simp
                (try with_reducible rfl)
              simp only [List.setIfInBounds_toArray, List.set_cons_zero, List.set_cons_succ]
              refine take_at 3 46 (fuel := 5) ?_ rfl rfl (by kernel_rfl) (by kernel_rfl) (by kernel_rfl) (Or.inl ⟨by rfl, ?_⟩) hSw ?_
              rotate_left
              · intro wx hSx
                (try dsimp only at hSx)
                go_split_ands
                go_simp
                (try with_reducible rfl)
              simp only [List.setIfInBounds_toArray, List.set_cons_zero, List.set_cons_succ]
              refine take_at 4 47 (fuel := 4) ?_ rfl rfl (by kernel_rfl) (by kernel_rfl) (by kernel_rfl) (Or.inl ⟨by rfl, ?_⟩) hSw ?_
              rotate_left
              · intro wx hSx
                (try dsimp only at hSx)
                go_split_ands
                go_simp
                (try with_reducible rfl)
              simp only [List.setIfInBounds_toArray, List.set_cons_zero, List.set_cons_succ]
              refine take_at 5 48 (fuel := 3) ?_ rfl rfl (by kernel_rfl) (by kernel_rfl) (by kernel_rfl) (Or.inl ⟨by rfl, ?_⟩) hSw ?_
              rotate_left
              · intro wx hSx
                (try dsimp only at hSx)
                go_split_ands
                go_simp
                (try with_reducible rfl)
              simp only [List.setIfInBounds_toArray, List.set_cons_zero, List.set_cons_succ]
              refine take_at 6 49 (fuel := 2) ?_ rfl rfl (by kernel_rfl) (by kernel_rfl) (by kernel_rfl) (Or.inl ⟨by rfl, ?_⟩) hSw ?_
              rotate_left
              · intro wx hSx
                (try dsimp only at hSx)
                go_split_ands
                go_simp
                (try with_reducible rfl)
              simp only [List.setIfInBounds_toArray, List.set_cons_zero, List.set_cons_succ]
              refine take_at 7 50 (fuel := 1) ?_ rfl rfl (by kernel_rfl) (by kernel_rfl) (by kernel_rfl) (Or.inl ⟨by rfl, ?_⟩) hSw ?_
              rotate_left
              · intro wx hSx
                (try dsimp only at hSx)
                go_split_ands
                go_simp
                (try with_reducible rfl)
              simp only [List.setIfInBounds_toArray, List.set_cons_zero, List.set_cons_succ]
              refine take_at 8 51 (fuel := 0) ?_ rfl rfl (by kernel_rfl) (by kernel_rfl) (by kernel_rfl) (Or.inl ⟨by rfl, ?_⟩) hSw ?_
              rotate_left
              · intro wx hSx
                (try dsimp only at hSx)
                go_split_ands
                go_simp
                (try with_reducible rfl)
              simp only [List.setIfInBounds_toArray, List.set_cons_zero, List.set_cons_succ]
              refine wpAnyH_done (by kernel_rfl) ⟨rfl, ?_⟩ 0
              have hSt2 := hSt.below (Below.drew (Below.refl _ w9))
              have hN2 : w9.drew.cell? ⟨sb, off + j, none⟩ = some (.int .u64 (n : Int)) := hN
              clear hSt y0 hN hSw
              generalize w9.drew = w8 at *
              go_wp2_with fail
              go_roundw
              case rel => exact ⟨j + 1, n, by omega, rfl, rfl, by omega, ⟨c2, HF2.out, HM2.out, hSt2⟩⟩
              case measure => simp [intOf]; omega
            simp only [setL, List.setIfInBounds_toArray, List.set_cons_zero, List.set_cons_succ] at F2_1
            refine keep (fun ops Q S a => ∀ (w : World), St w0 w b q c2 y [] → wpAnyH Try.prog .any ops Q S 2 #[true, true, true, true, true, true, true, false, false] ⟨setL a.tmps [(37, .agg firstV.cs), (42, .agg (c2.told true))], a.defers⟩ w) ?_ (fun F2_0 => ?_)
            · intro  w hS
              simp only [setL, List.setIfInBounds_toArray, List.set_cons_zero, List.set_cons_succ]
              refine wpAnyH_ready (fuel := 1) (rs := [7]) (by kernel_rfl) (by simp) (AllReadyH.cons rfl (fun K hK => ?_) AllReadyH.nil)
              · go_simp
                have hS2 := St.at_ [] [] hS
                refine hK.out _ _ (hel _ hS2.bel) (fun hSw => ?_)
                clear hK K hSw
                simp only [List.setIfInBounds_toArray, List.set_cons_zero, List.set_cons_succ]
                exact F2_1  w.heap.size  _ hS2
            simp only [setL, List.setIfInBounds_toArray, List.set_cons_zero, List.set_cons_succ] at F2_0
            refine keep (fun ops Q S a => ∀ (p0 : Nat) (w : World), St w0 w b q c y [p0] → wpAnyH Try.prog .any ops Q S 2 #[true, true, true, true, true, true, false, true, false] ⟨setL a.tmps [(37, .agg firstV.cs), (9, .pointer (some ⟨p0, 0, none⟩))], a.defers⟩ w) ?_ (fun F1_1 => ?_)
            · intro p0 w hS
              simp only [setL, List.setIfInBounds_toArray, List.set_cons_zero, List.set_cons_succ]
              refine wpAnyH_ready (fuel := 1) (rs := [6]) (by kernel_rfl) (by simp) (AllReadyH.cons rfl (fun K hK => ?_) AllReadyH.nil)
              · go_simp
                refine Calls.mono (hpr w hS) ?_
                rintro e wv ⟨rfl, hc, hk⟩
                have hS2 := hS.kp hc hk
                refine hK.out _ _ (hel _ hS2.bel) (fun hSw => ?_)
                clear hK K hSw
                simp only [List.setIfInBounds_toArray, List.set_cons_zero, List.set_cons_succ]
                exact F2_1 p0 _ hS2
            simp only [setL, List.setIfInBounds_toArray, List.set_cons_zero, List.set_cons_succ] at F1_1
            refine keep (fun ops Q S a => ∀ (w : World), St w0 w b q c y [] → wpAnyH Try.prog .any ops Q S 3 #[true, true, true, true, true, true, false, false, false] ⟨setL a.tmps [(37, .agg firstV.cs)], a.defers⟩ w) ?_ (fun F1_0 => ?_)
            · intro  w hS
              simp only [setL, List.setIfInBounds_toArray, List.set_cons_zero, List.set_cons_succ]
              refine wpAnyH_ready (fuel := 2) (rs := [6, 7]) (by kernel_rfl) (by simp) (AllReadyH.cons rfl (fun K hK => ?_) (AllReadyH.cons rfl (fun K hK => ?_) AllReadyH.nil))
              · go_simp
                refine Calls.mono (hpr w hS) ?_
                rintro e wv ⟨rfl, hc, hk⟩
                have hS2 := hS.kp hc hk
                refine hK.out _ _ (hel _ hS2.bel) (fun hSw => ?_)
                clear hK K hSw
                simp only [List.setIfInBounds_toArray, List.set_cons_zero, List.set_cons_succ]
                exact F2_0  _ hS2
              · go_simp
                have hS2 := St.at_ [] [] hS
                refine hK.out _ _ (hel _ hS2.bel) (fun hSw => ?_)
                clear hK K hSw
                simp only [List.setIfInBounds_toArray, List.set_cons_zero, List.set_cons_succ]
                exact F1_1  w.heap.size  _ hS2
            simp only [setL, List.setIfInBounds_toArray, List.set_cons_zero, List.set_cons_succ] at F1_0
            refine keep (fun ops Q S a => ∀ (p0 : Nat) (w : World), St w0 w b q c y [p0] → wpAnyH Try.prog .any ops Q S 3 #[true, false, true, true, true, true, false, true, false] ⟨setL a.tmps [(9, .pointer (some ⟨p0, 0, none⟩))], a.defers⟩ w) ?_ (fun F0_1 => ?_)
            · intro p0 w hS
              simp only [setL, List.setIfInBounds_toArray, List.set_cons_zero, List.set_cons_succ]
              refine wpAnyH_ready (fuel := 2) (rs := [1]) (by kernel_rfl) (by simp) (AllReadyH.cons rfl (fun K hK => ?_) AllReadyH.nil)
              · go_simp
                refine Calls.mono (first_c _) ?_
                rintro e wv ⟨rfl, hb⟩
                have hS2 := hS.below hb
                refine hK.out _ _ (hel _ hS2.bel) (fun hSw => ?_)
                clear hK K hSw
                simp only [List.setIfInBounds_toArray, List.set_cons_zero, List.set_cons_succ]
                exact F1_1 p0 _ hS2
            simp only [setL, List.setIfInBounds_toArray, List.set_cons_zero, List.set_cons_succ] at F0_1
            refine keep (fun ops Q S a => ∀ (w : World), St w0 w b q c y [] → wpAnyH Try.prog .any ops Q S 4 #[true, false, true, true, true, true, false, false, false] ⟨setL a.tmps [], a.defers⟩ w) ?_ (fun F0_0 => ?_)
            · intro  w hS
              simp only [setL]
              refine wpAnyH_ready (fuel := 3) (rs := [1, 7]) (by kernel_rfl) (by simp) (AllReadyH.cons rfl (fun K hK => ?_) (AllReadyH.cons rfl (fun K hK => ?_) AllReadyH.nil))
              · go_simp
                refine Calls.mono (first_c _) ?_
                rintro e wv ⟨rfl, hb⟩
                have hS2 := hS.below hb
                refine hK.out _ _ (hel _ hS2.bel) (fun hSw => ?_)
                clear hK K hSw
                simp only [List.setIfInBounds_toArray, List.set_cons_zero, List.set_cons_succ]
                exact F1_0  _ hS2
              · go_simp
                have hS2 := St.at_ [] [] hS
                refine hK.out _ _ (hel _ hS2.bel) (fun hSw => ?_)
                clear hK K hSw
                simp only [List.setIfInBounds_toArray, List.set_cons_zero, List.set_cons_succ]
                exact F0_1  w.heap.size  _ hS2
            simp only [setL] at F0_0
            exact F0_0 _ hSd
          · have hltc := hlt
            obtain ⟨e1, e2⟩ := prep_no (n := n) HCF.out HCM.out hlt
            obtain ⟨c2, hc2⟩ : ∃ c2, c2 = c.prep firstV n := ⟨_, rfl⟩
            have HF2 : Hid (c2.ch = firstV) := Lib.hid (by rw [hc2, e2]; exact HCF.out)
            have HM2 : Hid (c2.most = m) := Lib.hid (by rw [hc2, e2]; exact HCM.out)
            have hpr : ∀ {l : List Nat} (w : World), St w0 w b q c y l → Calls Try.prog 10 #[cp b, .agg firstV.cs, .int .u64 (n : Int)] w fun e w' => e = .returned (.agg (c2.told false)) ∧ Blk w' b CT c2.cs ∧ Kp (fun k => k = b) w w' := fun w h => by
              have h1 := prep_c (x := firstV) n h.cell (by rw [HCF.out]; exact first_ne)
              rw [e1, ← hc2] at h1
              exact h1
            clear e1 e2 hc2
            have d1 : decide ((m : Int) < (n : Int)) = false := decide_eq_false (by omega)
            have d2 : decide (m < n) = false := decide_eq_false hlt
            go_upto_region 10 with (fail)
            have hSd : St w0 wr.drew b q c y [] := hSt.below (Below.drew (Below.refl _ wr))
            clear hSt
            refine region_only 9 #[false, false, false, false, false, false, false, false, false] (S := (fun W => W.cell? ⟨sb, off + j, none⟩ = some (.int .u64 (n : Int)))) rfl rfl (by kernel_rfl) (hel _ hSd.bel) (fun hSw => ?_)
            refine take_at 0 36 (fuel := 8) ?_ rfl rfl (by kernel_rfl) (by kernel_rfl) (by kernel_rfl) (Or.inl ⟨by rfl, ?_⟩) hSw ?_
            rotate_left
            · intro wx hSx
              (try dsimp only at hSx)
              go_split_ands
              go_simp
              (try with_reducible rfl)
            simp only [List.setIfInBounds_toArray, List.set_cons_zero, List.set_cons_succ]
            refine take_at 2 38 (fuel := 7) ?_ rfl rfl (by kernel_rfl) (by kernel_rfl) (by kernel_rfl) (Or.inl ⟨by rfl, ?_⟩) hSw ?_
            rotate_left
            · intro wx hSx
              (try dsimp only at hSx)
              go_split_ands
              go_simp
              (try with_reducible rfl)
            simp only [List.setIfInBounds_toArray, List.set_cons_zero, List.set_cons_succ]
            refine take_at 3 39 (fuel := 6) ?_ rfl rfl (by kernel_rfl) (by kernel_rfl) (by kernel_rfl) (Or.inl ⟨by rfl, ?_⟩) hSw ?_
            rotate_left
            · intro wx hSx
              (try dsimp only at hSx)
              go_split_ands
              go_simp
              (try with_reducible rfl)
            simp only [List.setIfInBounds_toArray, List.set_cons_zero, List.set_cons_succ]
            refine take_at 4 40 (fuel := 5) ?_ rfl rfl (by kernel_rfl) (by kernel_rfl) (by kernel_rfl) (Or.inl ⟨by rfl, ?_⟩) hSw ?_
            rotate_left
            · intro wx hSx
              (try dsimp only at hSx)
              go_split_ands
              go_simp
              (try with_reducible rfl)
            simp only [List.setIfInBounds_toArray, List.set_cons_zero, List.set_cons_succ]
            refine take_at 5 41 (fuel := 4) ?_ rfl rfl (by kernel_rfl) (by kernel_rfl) (by kernel_rfl) (Or.inl ⟨by rfl, ?_⟩) hSw ?_
            rotate_left
            · intro wx hSx
              (try dsimp only at hSx)
              go_split_ands
              go_simp
              (try with_reducible rfl)
            simp only [List.setIfInBounds_toArray, List.set_cons_zero, List.set_cons_succ]
            refine keep (fun ops Q S a => ∀ (p0 : Nat) (w : World), St w0 w b q c2 y [p0] → wpAnyH Try.prog .any ops Q S 1 #[true, true, true, true, true, true, true, true, false] ⟨setL a.tmps [(37, .agg firstV.cs), (42, .agg (c2.told false)), (9, .pointer (some ⟨p0, 0, none⟩))], a.defers⟩ w) ?_ (fun F2_1 => ?_)
            · intro p0 w hS
              simp only [setL, List.setIfInBounds_toArray, List.set_cons_zero, List.set_cons_succ]
              refine wpAnyH_ready (fuel := 0) (rs := [8]) (by kernel_rfl) (by simp) (AllReadyH.cons rfl (fun K hK => ?_) AllReadyH.nil)
              have h0 := hS.ps p0 (by simp)
              refine wp_store PT (.tmp 9) (.tmp 42) ⟨p0, 0, none⟩ (.agg (c2.told false)) rfl rfl rfl rfl (store_row info_PT h0.2.2.2 rfl (all_one (Ce.told_one _ _))) ?_
              have r0 : Blk (w.setRow p0 (c2.told false)) p0 PT (c2.told false) := setRow_heap w p0 _ _ _ (0, 0) h0.2.2.2
              have hSt : St w0 (w.setRow p0 (c2.told false)) b q c2 y [] := ⟨(setRow_other _ p0 b _ (Ne.symm h0.2.1)).trans hS.cell, (setRow_other _ p0 q _ (Ne.symm h0.2.2.1)).trans hS.box, row_below hS.bel h0.1 _, hS.lo, fun p hp => (by cases hp), List.nodup_nil⟩
              refine hK.out _ _ (hel _ hSt.bel) (fun hSw => ?_)
              clear hK K hSw
              refine wpAnyH_done (by kernel_rfl) ⟨rfl, ?_⟩ 0
              clear h0 hS
              generalize w.setRow p0 (c2.told false) = w9 at *
              have hN := hel _ hSt.bel
              have y0 : w9.cell? ⟨p0, 0, none⟩ = some (.bool false) := r0.cell 0
              clear r0 hpr
              go_upto_region 11 with (fail)
              refine region_only 9 #[false, false, false, false, false, false, false, false, false] (S := (fun W => W.cell? ⟨p0, 0, none⟩ = some (.bool false) ∧ W.cell? ⟨sb, off + j, none⟩ = some (.int .u64 (n : Int)))) rfl rfl (by kernel_rfl) ⟨y0, hN⟩ (fun hSw => ?_)
              refine take_at 0 43 (fuel := 8) ?_ rfl rfl (by kernel_rfl) (by kernel_rfl) (by kernel_rfl) (Or.inl ⟨by rfl, ?_⟩) hSw ?_
              rotate_left
              · intro wx hSx
                (try dsimp only at hSx)
                go_split_ands
                go_simp
                (try with_reducible rfl)
              simp only [List.setIfInBounds_toArray, List.set_cons_zero, List.set_cons_succ]
              refine take_at 1 44 (fuel := 7) ?_ rfl rfl (by kernel_rfl) (by kernel_rfl) (by kernel_rfl) (Or.inl ⟨by rfl, ?_⟩) hSw ?_
              rotate_left
              · intro wx hSx
                (try dsimp only at hSx)
                go_split_ands
                go_simp
                (try with_reducible rfl)
              simp only [List.setIfInBounds_toArray, List.set_cons_zero, List.set_cons_succ]
              refine take_at 2 45 (fuel := 6) ?_ rfl rfl (by kernel_rfl) (by kernel_rfl) (by kernel_rfl) (Or.inl ⟨by rfl, ?_⟩) hSw ?_
              rotate_left
              · intro wx hSx
                (try dsimp only at hSx)
                go_split_ands
                go_simp
                (try with_reducible rfl)
              simp only [List.setIfInBounds_toArray, List.set_cons_zero, List.set_cons_succ]
              refine take_at 3 46 (fuel := 5) ?_ rfl rfl (by kernel_rfl) (by kernel_rfl) (by kernel_rfl) (Or.inl ⟨by rfl, ?_⟩) hSw ?_
              rotate_left
              · intro wx hSx
                (try dsimp only at hSx)
                go_split_ands
                go_simp
                (try with_reducible rfl)
              simp only [List.setIfInBounds_toArray, List.set_cons_zero, List.set_cons_succ]
              refine take_at 4 47 (fuel := 4) ?_ rfl rfl (by kernel_rfl) (by kernel_rfl) (by kernel_rfl) (Or.inl ⟨by rfl, ?_⟩) hSw ?_
              rotate_left
              · intro wx hSx
                (try dsimp only at hSx)
                go_split_ands
                go_simp
                (try with_reducible rfl)
              simp only [List.setIfInBounds_toArray, List.set_cons_zero, List.set_cons_succ]
              refine take_at 5 48 (fuel := 3) ?_ rfl rfl (by kernel_rfl) (by kernel_rfl) (by kernel_rfl) (Or.inl ⟨by rfl, ?_⟩) hSw ?_
              rotate_left
              · intro wx hSx
                (try dsimp only at hSx)
                go_split_ands
                go_simp
                (try with_reducible rfl)
              simp only [List.setIfInBounds_toArray, List.set_cons_zero, List.set_cons_succ]
              refine take_at 6 49 (fuel := 2) ?_ rfl rfl (by kernel_rfl) (by kernel_rfl) (by kernel_rfl) (Or.inl ⟨by rfl, ?_⟩) hSw ?_
              rotate_left
              · intro wx hSx
                (try dsimp only at hSx)
                go_split_ands
                go_simp
                (try with_reducible rfl)
              simp only [List.setIfInBounds_toArray, List.set_cons_zero, List.set_cons_succ]
              refine take_at 7 50 (fuel := 1) ?_ rfl rfl (by kernel_rfl) (by kernel_rfl) (by kernel_rfl) (Or.inl ⟨by rfl, ?_⟩) hSw ?_
              rotate_left
              · intro wx hSx
                (try dsimp only at hSx)
                go_split_ands
                go_simp
                (try with_reducible rfl)
              simp only [List.setIfInBounds_toArray, List.set_cons_zero, List.set_cons_succ]
              refine take_at 8 51 (fuel := 0) ?_ rfl rfl (by kernel_rfl) (by kernel_rfl) (by kernel_rfl) (Or.inl ⟨by rfl, ?_⟩) hSw ?_
              rotate_left
              · intro wx hSx
                (try dsimp only at hSx)
                go_split_ands
                go_simp
                (try with_reducible rfl)
              simp only [List.setIfInBounds_toArray, List.set_cons_zero, List.set_cons_succ]
              refine wpAnyH_done (by kernel_rfl) ⟨rfl, ?_⟩ 0
              have hSt2 := hSt.below (Below.drew (Below.refl _ w9))
              have hN2 : w9.drew.cell? ⟨sb, off + j, none⟩ = some (.int .u64 (n : Int)) := hN
              clear hSt y0 hN hSw
              generalize w9.drew = w8 at *
              go_wp2_with fail
              go_roundw
              case rel => exact ⟨j + 1, m, by omega, rfl, rfl, by omega, ⟨c2, HF2.out, HM2.out, hSt2⟩⟩
              case measure => simp [intOf]; omega
            simp only [setL, List.setIfInBounds_toArray, List.set_cons_zero, List.set_cons_succ] at F2_1
            refine keep (fun ops Q S a => ∀ (w : World), St w0 w b q c2 y [] → wpAnyH Try.prog .any ops Q S 2 #[true, true, true, true, true, true, true, false, false] ⟨setL a.tmps [(37, .agg firstV.cs), (42, .agg (c2.told false))], a.defers⟩ w) ?_ (fun F2_0 => ?_)
            · intro  w hS
              simp only [setL, List.setIfInBounds_toArray, List.set_cons_zero, List.set_cons_succ]
              refine wpAnyH_ready (fuel := 1) (rs := [7]) (by kernel_rfl) (by simp) (AllReadyH.cons rfl (fun K hK => ?_) AllReadyH.nil)
              · go_simp
                have hS2 := St.at_ [] [] hS
                refine hK.out _ _ (hel _ hS2.bel) (fun hSw => ?_)
                clear hK K hSw
                simp only [List.setIfInBounds_toArray, List.set_cons_zero, List.set_cons_succ]
                exact F2_1  w.heap.size  _ hS2
            simp only [setL, List.setIfInBounds_toArray, List.set_cons_zero, List.set_cons_succ] at F2_0
            refine keep (fun ops Q S a => ∀ (p0 : Nat) (w : World), St w0 w b q c y [p0] → wpAnyH Try.prog .any ops Q S 2 #[true, true, true, true, true, true, false, true, false] ⟨setL a.tmps [(37, .agg firstV.cs), (9, .pointer (some ⟨p0, 0, none⟩))], a.defers⟩ w) ?_ (fun F1_1 => ?_)
            · intro p0 w hS
              simp only [setL, List.setIfInBounds_toArray, List.set_cons_zero, List.set_cons_succ]
              refine wpAnyH_ready (fuel := 1) (rs := [6]) (by kernel_rfl) (by simp) (AllReadyH.cons rfl (fun K hK => ?_) AllReadyH.nil)
              · go_simp
                refine Calls.mono (hpr w hS) ?_
                rintro e wv ⟨rfl, hc, hk⟩
                have hS2 := hS.kp hc hk
                refine hK.out _ _ (hel _ hS2.bel) (fun hSw => ?_)
                clear hK K hSw
                simp only [List.setIfInBounds_toArray, List.set_cons_zero, List.set_cons_succ]
                exact F2_1 p0 _ hS2
            simp only [setL, List.setIfInBounds_toArray, List.set_cons_zero, List.set_cons_succ] at F1_1
            refine keep (fun ops Q S a => ∀ (w : World), St w0 w b q c y [] → wpAnyH Try.prog .any ops Q S 3 #[true, true, true, true, true, true, false, false, false] ⟨setL a.tmps [(37, .agg firstV.cs)], a.defers⟩ w) ?_ (fun F1_0 => ?_)
            · intro  w hS
              simp only [setL, List.setIfInBounds_toArray, List.set_cons_zero, List.set_cons_succ]
              refine wpAnyH_ready (fuel := 2) (rs := [6, 7]) (by kernel_rfl) (by simp) (AllReadyH.cons rfl (fun K hK => ?_) (AllReadyH.cons rfl (fun K hK => ?_) AllReadyH.nil))
              · go_simp
                refine Calls.mono (hpr w hS) ?_
                rintro e wv ⟨rfl, hc, hk⟩
                have hS2 := hS.kp hc hk
                refine hK.out _ _ (hel _ hS2.bel) (fun hSw => ?_)
                clear hK K hSw
                simp only [List.setIfInBounds_toArray, List.set_cons_zero, List.set_cons_succ]
                exact F2_0  _ hS2
              · go_simp
                have hS2 := St.at_ [] [] hS
                refine hK.out _ _ (hel _ hS2.bel) (fun hSw => ?_)
                clear hK K hSw
                simp only [List.setIfInBounds_toArray, List.set_cons_zero, List.set_cons_succ]
                exact F1_1  w.heap.size  _ hS2
            simp only [setL, List.setIfInBounds_toArray, List.set_cons_zero, List.set_cons_succ] at F1_0
            refine keep (fun ops Q S a => ∀ (p0 : Nat) (w : World), St w0 w b q c y [p0] → wpAnyH Try.prog .any ops Q S 3 #[true, false, true, true, true, true, false, true, false] ⟨setL a.tmps [(9, .pointer (some ⟨p0, 0, none⟩))], a.defers⟩ w) ?_ (fun F0_1 => ?_)
            · intro p0 w hS
              simp only [setL, List.setIfInBounds_toArray, List.set_cons_zero, List.set_cons_succ]
              refine wpAnyH_ready (fuel := 2) (rs := [1]) (by kernel_rfl) (by simp) (AllReadyH.cons rfl (fun K hK => ?_) AllReadyH.nil)
              · go_simp
                refine Calls.mono (first_c _) ?_
                rintro e wv ⟨rfl, hb⟩
                have hS2 := hS.below hb
                refine hK.out _ _ (hel _ hS2.bel) (fun hSw => ?_)
                clear hK K hSw
                simp only [List.setIfInBounds_toArray, List.set_cons_zero, List.set_cons_succ]
                exact F1_1 p0 _ hS2
            simp only [setL, List.setIfInBounds_toArray, List.set_cons_zero, List.set_cons_succ] at F0_1
            refine keep (fun ops Q S a => ∀ (w : World), St w0 w b q c y [] → wpAnyH Try.prog .any ops Q S 4 #[true, false, true, true, true, true, false, false, false] ⟨setL a.tmps [], a.defers⟩ w) ?_ (fun F0_0 => ?_)
            · intro  w hS
              simp only [setL]
              refine wpAnyH_ready (fuel := 3) (rs := [1, 7]) (by kernel_rfl) (by simp) (AllReadyH.cons rfl (fun K hK => ?_) (AllReadyH.cons rfl (fun K hK => ?_) AllReadyH.nil))
              · go_simp
                refine Calls.mono (first_c _) ?_
                rintro e wv ⟨rfl, hb⟩
                have hS2 := hS.below hb
                refine hK.out _ _ (hel _ hS2.bel) (fun hSw => ?_)
                clear hK K hSw
                simp only [List.setIfInBounds_toArray, List.set_cons_zero, List.set_cons_succ]
                exact F1_0  _ hS2
              · go_simp
                have hS2 := St.at_ [] [] hS
                refine hK.out _ _ (hel _ hS2.bel) (fun hSw => ?_)
                clear hK K hSw
                simp only [List.setIfInBounds_toArray, List.set_cons_zero, List.set_cons_succ]
                exact F0_1  w.heap.size  _ hS2
            simp only [setL] at F0_0
            exact F0_0 _ hSd
        · have r1 : Int.tmod (j : Int) 2 = 1 := by rw [Int.tmod_eq_emod_of_nonneg (by omega)]; omega
          have r2 : (j : Int) % 2 = 1 := by omega
          have r3 : (Int.tmod (j : Int) 2 == 0) = false := by rw [r1]; rfl
          have r4 : ((j : Int) % 2 == 0) = false := by rw [r2]; rfl
          by_cases hmy : May y
          · by_cases hmn : m ≤ n
            · by_cases hn0 : 0 < n
              · have hnc := hn0
                obtain ⟨e1, e2⟩ := acc_yes (n := n) HCF.out HY2.out HCM.out hmy hn0 hmn
                obtain ⟨c2, hc2⟩ : ∃ c2, c2 = c.acc y n := ⟨_, rfl⟩
                have HF2 : Hid (c2.ch = firstV) := Lib.hid (by rw [hc2, e2])
                have HM2 : Hid (c2.most = n) := Lib.hid (by rw [hc2, e2])
                have hpr : ∀ {l : List Nat} (w : World), St w0 w b q c y l → Calls Try.prog 11 #[cp b, .agg y.cs, .int .u64 (n : Int)] w fun e w' => e = .returned (.agg (c2.told true)) ∧ Blk w' b CT c2.cs ∧ Kp (fun k => k = b) w w' := fun w h => by
                  have h1 := acc_c (x := y) n h.cell (by rw [HCF.out]; exact first_ne)
                  rw [e1, ← hc2] at h1
                  exact h1
                clear e1 e2 hc2
                have dm : decide (May y) = true := decide_eq_true hmy
                have d1 : decide ((m : Int) ≤ (n : Int)) = true := decide_eq_true (by omega)
                have d2 : decide (m ≤ n) = true := decide_eq_true hmn
                have d3 : decide (0 < n) = true := decide_eq_true hn0
                have d5 : decide (0 < (n : Int)) = true := decide_eq_true (by omega)
                have x0 : wr.cell? ⟨q, 0, none⟩ = some (.int .u64 (y.v : Int)) := hSt.box.cell 0
                have x1 : wr.cell? ⟨q, 1, none⟩ = some (.int .i64 y.pr) := hSt.box.cell 1
                have x2 : wr.cell? ⟨q, 2, none⟩ = some (.int .u64 (y.pl : Int)) := hSt.box.cell 2
                have x3 : wr.cell? ⟨q, 3, none⟩ = some (.int .i64 y.ba) := hSt.box.cell 3
                have x4 : wr.cell? ⟨q, 4, none⟩ = some (.int .u64 (y.bl : Int)) := hSt.box.cell 4
                have x5 : wr.cell? ⟨q, 5, none⟩ = some (.int .u64 (y.ep : Int)) := hSt.box.cell 5
                go_upto_region 13 with (fail)
                have hSd : St w0 wr.drew b q c y [] := hSt.below (Below.drew (Below.refl _ wr))
                clear hSt x0 x1 x2 x3 x4 x5
                refine region_only 9 #[false, false, false, false, false, false, false, false, false] (S := (fun W => W.cell? ⟨q, 0, none⟩ = some (.int .u64 (y.v : Int)) ∧ W.cell? ⟨q, 1, none⟩ = some (.int .i64 y.pr) ∧ W.cell? ⟨q, 2, none⟩ = some (.int .u64 (y.pl : Int)) ∧ W.cell? ⟨q, 3, none⟩ = some (.int .i64 y.ba) ∧ W.cell? ⟨q, 4, none⟩ = some (.int .u64 (y.bl : Int)) ∧ W.cell? ⟨q, 5, none⟩ = some (.int .u64 (y.ep : Int)) ∧ W.cell? ⟨sb, off + j, none⟩ = some (.int .u64 (n : Int)))) rfl rfl (by kernel_rfl) ⟨hSd.box.cell 0, hSd.box.cell 1, hSd.box.cell 2, hSd.box.cell 3, hSd.box.cell 4, hSd.box.cell 5, hel _ hSd.bel⟩ (fun hSw => ?_)
                refine take_at 0 52 (fuel := 8) ?_ rfl rfl (by kernel_rfl) (by kernel_rfl) (by kernel_rfl) (Or.inl ⟨by rfl, ?_⟩) hSw ?_
                rotate_left
                · intro wx hSx
                  (try dsimp only at hSx)
                  go_split_ands
                  go_simp
                  (try with_reducible rfl)
                simp only [List.setIfInBounds_toArray, List.set_cons_zero, List.set_cons_succ]
                refine take_at 1 53 (fuel := 7) ?_ rfl rfl (by kernel_rfl) (by kernel_rfl) (by kernel_rfl) (Or.inl ⟨by rfl, ?_⟩) hSw ?_
                rotate_left
                · intro wx hSx
                  (try dsimp only at hSx)
                  go_split_ands
                  go_simp
                  (try with_reducible rfl)
                simp only [List.setIfInBounds_toArray, List.set_cons_zero, List.set_cons_succ]
                refine take_at 2 54 (fuel := 6) ?_ rfl rfl (by kernel_rfl) (by kernel_rfl) (by kernel_rfl) (Or.inl ⟨by rfl, ?_⟩) hSw ?_
                rotate_left
                · intro wx hSx
                  (try dsimp only at hSx)
                  go_split_ands
                  go_simp
                  (try with_reducible rfl)
                simp only [List.setIfInBounds_toArray, List.set_cons_zero, List.set_cons_succ]
                refine take_at 3 55 (fuel := 5) ?_ rfl rfl (by kernel_rfl) (by kernel_rfl) (by kernel_rfl) (Or.inl ⟨by rfl, ?_⟩) hSw ?_
                rotate_left
                · intro wx hSx
                  (try dsimp only at hSx)
                  go_split_ands
                  go_simp
                  (try with_reducible rfl)
                simp only [List.setIfInBounds_toArray, List.set_cons_zero, List.set_cons_succ]
                refine take_at 4 56 (fuel := 4) ?_ rfl rfl (by kernel_rfl) (by kernel_rfl) (by kernel_rfl) (Or.inl ⟨by rfl, ?_⟩) hSw ?_
                rotate_left
                · intro wx hSx
                  (try dsimp only at hSx)
                  go_split_ands
                  go_simp
                  (try with_reducible rfl)
                simp only [List.setIfInBounds_toArray, List.set_cons_zero, List.set_cons_succ]
                refine take_at 5 57 (fuel := 3) ?_ rfl rfl (by kernel_rfl) (by kernel_rfl) (by kernel_rfl) (Or.inl ⟨by rfl, ?_⟩) hSw ?_
                rotate_left
                · intro wx hSx
                  (try dsimp only at hSx)
                  go_split_ands
                  go_simp
                  (try with_reducible rfl)
                simp only [List.setIfInBounds_toArray, List.set_cons_zero, List.set_cons_succ]
                refine keep (fun ops Q S a => ∀ (p0 : Nat) (w : World), St w0 w b q c2 y [p0] → wpAnyH Try.prog .any ops Q S 1 #[true, true, true, true, true, true, true, true, false] ⟨setL a.tmps [(58, .agg (c2.told true)), (10, .pointer (some ⟨p0, 0, none⟩))], a.defers⟩ w) ?_ (fun F1_1 => ?_)
                · intro p0 w hS
                  simp only [setL, List.setIfInBounds_toArray, List.set_cons_zero, List.set_cons_succ]
                  refine wpAnyH_ready (fuel := 0) (rs := [8]) (by kernel_rfl) (by simp) (AllReadyH.cons rfl (fun K hK => ?_) AllReadyH.nil)
                  have h0 := hS.ps p0 (by simp)
                  refine wp_store PT (.tmp 10) (.tmp 58) ⟨p0, 0, none⟩ (.agg (c2.told true)) rfl rfl rfl rfl (store_row info_PT h0.2.2.2 rfl (all_one (Ce.told_one _ _))) ?_
                  have r0 : Blk (w.setRow p0 (c2.told true)) p0 PT (c2.told true) := setRow_heap w p0 _ _ _ (0, 0) h0.2.2.2
                  have hSt : St w0 (w.setRow p0 (c2.told true)) b q c2 y [] := ⟨(setRow_other _ p0 b _ (Ne.symm h0.2.1)).trans hS.cell, (setRow_other _ p0 q _ (Ne.symm h0.2.2.1)).trans hS.box, row_below hS.bel h0.1 _, hS.lo, fun p hp => (by cases hp), List.nodup_nil⟩
                  refine hK.out _ _ ⟨hSt.box.cell 0, hSt.box.cell 1, hSt.box.cell 2, hSt.box.cell 3, hSt.box.cell 4, hSt.box.cell 5, hel _ hSt.bel⟩ (fun hSw => ?_)
                  clear hK K hSw
                  refine wpAnyH_done (by kernel_rfl) ⟨rfl, ?_⟩ 0
                  clear h0 hS
                  generalize w.setRow p0 (c2.told true) = w9 at *
                  have hN := hel _ hSt.bel
                  have y0 : w9.cell? ⟨p0, 0, none⟩ = some (.bool true) := r0.cell 0
                  have x0 : w9.cell? ⟨q, 0, none⟩ = some (.int .u64 (y.v : Int)) := hSt.box.cell 0
                  have x1 : w9.cell? ⟨q, 1, none⟩ = some (.int .i64 y.pr) := hSt.box.cell 1
                  have x2 : w9.cell? ⟨q, 2, none⟩ = some (.int .u64 (y.pl : Int)) := hSt.box.cell 2
                  have x3 : w9.cell? ⟨q, 3, none⟩ = some (.int .i64 y.ba) := hSt.box.cell 3
                  have x4 : w9.cell? ⟨q, 4, none⟩ = some (.int .u64 (y.bl : Int)) := hSt.box.cell 4
                  have x5 : w9.cell? ⟨q, 5, none⟩ = some (.int .u64 (y.ep : Int)) := hSt.box.cell 5
                  have hlt0 := r0.lt
                  have hltq := hSt.box.lt
                  have mk : ∀ W, Below w9.heap.size w9.drew W → W.cell? ⟨q, 0, none⟩ = some (.int .u64 (y.v : Int)) ∧ W.cell? ⟨q, 1, none⟩ = some (.int .i64 y.pr) ∧ W.cell? ⟨q, 2, none⟩ = some (.int .u64 (y.pl : Int)) ∧ W.cell? ⟨q, 3, none⟩ = some (.int .i64 y.ba) ∧ W.cell? ⟨q, 4, none⟩ = some (.int .u64 (y.bl : Int)) ∧ W.cell? ⟨q, 5, none⟩ = some (.int .u64 (y.ep : Int)) ∧ W.cell? ⟨p0, 0, none⟩ = some (.bool true) ∧ W.cell? ⟨sb, off + j, none⟩ = some (.int .u64 (n : Int)) := fun W hb => by
                    have hX0 : Blk w9.drew q VT y.cs := hSt.box
                    have hP0 : Blk w9.drew p0 PT (c2.told true) := r0
                    have hx := hX0.below hb hltq
                    have hz := hP0.below hb hlt0
                    have hbl : Below w0.heap.size w0 W := hSt.bel.drew.trans (hb.mono hSt.bel.drew.size)
                    exact ⟨(hx.cell 0), (hx.cell 1), (hx.cell 2), (hx.cell 3), (hx.cell 4), (hx.cell 5), hz.cell 0, hel _ hbl⟩
                  clear hpr
                  go_upto_region 14 with (fail)
                  refine region_only 20 #[false, false, false, false, false, false, false, false, false, false, false, false, false, false, false, false, false, false, false, false] (S := (fun W => W.cell? ⟨q, 0, none⟩ = some (.int .u64 (y.v : Int)) ∧ W.cell? ⟨q, 1, none⟩ = some (.int .i64 y.pr) ∧ W.cell? ⟨q, 2, none⟩ = some (.int .u64 (y.pl : Int)) ∧ W.cell? ⟨q, 3, none⟩ = some (.int .i64 y.ba) ∧ W.cell? ⟨q, 4, none⟩ = some (.int .u64 (y.bl : Int)) ∧ W.cell? ⟨q, 5, none⟩ = some (.int .u64 (y.ep : Int)) ∧ W.cell? ⟨p0, 0, none⟩ = some (.bool true) ∧ W.cell? ⟨sb, off + j, none⟩ = some (.int .u64 (n : Int)))) rfl rfl (by kernel_rfl) ⟨x0, x1, x2, x3, x4, x5, y0, hN⟩ (fun hSw => ?_)
                  refine take_at 0 59 (fuel := 19) ?_ rfl rfl (by kernel_rfl) (by kernel_rfl) (by kernel_rfl) (Or.inl ⟨by rfl, ?_⟩) hSw ?_
                  rotate_left
                  · intro wx hSx
                    (try dsimp only at hSx)
                    go_split_ands
                    go_simp
                    (try with_reducible rfl)
                  simp only [List.setIfInBounds_toArray, List.set_cons_zero, List.set_cons_succ]
                  refine take_at 1 60 (fuel := 18) ?_ rfl rfl (by kernel_rfl) (by kernel_rfl) (by kernel_rfl) (Or.inl ⟨by rfl, ?_⟩) hSw ?_
                  rotate_left
                  · intro wx hSx
                    (try dsimp only at hSx)
                    go_split_ands
                    go_simp
                    (try with_reducible rfl)
                  simp only [List.setIfInBounds_toArray, List.set_cons_zero, List.set_cons_succ]
                  refine take_at 2 61 (fuel := 17) ?_ rfl rfl (by kernel_rfl) (by kernel_rfl) (by kernel_rfl) (Or.inl ⟨by rfl, ?_⟩) hSw ?_
                  rotate_left
                  · intro wx hSx
                    (try dsimp only at hSx)
                    go_split_ands
                    go_simp
                    (try with_reducible rfl)
                  simp only [List.setIfInBounds_toArray, List.set_cons_zero, List.set_cons_succ]
                  refine wpAnyH_ready (fuel := 16) (rs := [3]) (by kernel_rfl) (by simp) (AllReadyH.cons rfl (fun K hK => ?_) AllReadyH.nil)
                  go_simp
                  refine Calls.mono (check_c y _) ?_
                  rintro e wv ⟨rfl, hb2⟩
                  rw [dm]
                  refine hK.out _ _ (mk _ hb2) (fun hSw => ?_)
                  clear hK K
                  simp only [List.setIfInBounds_toArray, List.set_cons_zero, List.set_cons_succ]
                  refine take_at 4 63 (fuel := 15) ?_ rfl rfl (by kernel_rfl) (by kernel_rfl) (by kernel_rfl) (Or.inl ⟨by rfl, ?_⟩) hSw ?_
                  rotate_left
                  · intro wx hSx
                    (try dsimp only at hSx)
                    go_split_ands
                    go_simp
                    (try with_reducible rfl)
                  simp only [List.setIfInBounds_toArray, List.set_cons_zero, List.set_cons_succ]
                  refine take_at 5 64 (fuel := 14) ?_ rfl rfl (by kernel_rfl) (by kernel_rfl) (by kernel_rfl) (Or.inl ⟨by rfl, ?_⟩) hSw ?_
                  rotate_left
                  · intro wx hSx
                    (try dsimp only at hSx)
                    go_split_ands
                    go_simp
                    (try with_reducible rfl)
                  simp only [List.setIfInBounds_toArray, List.set_cons_zero, List.set_cons_succ]
                  refine take_at 6 65 (fuel := 13) ?_ rfl rfl (by kernel_rfl) (by kernel_rfl) (by kernel_rfl) (Or.inl ⟨by rfl, ?_⟩) hSw ?_
                  rotate_left
                  · intro wx hSx
                    (try dsimp only at hSx)
                    go_split_ands
                    go_simp
                    (try with_reducible rfl)
                  simp only [List.setIfInBounds_toArray, List.set_cons_zero, List.set_cons_succ]
                  refine take_at 7 66 (fuel := 12) ?_ rfl rfl (by kernel_rfl) (by kernel_rfl) (by kernel_rfl) (Or.inl ⟨by rfl, ?_⟩) hSw ?_
                  rotate_left
                  · intro wx hSx
                    (try dsimp only at hSx)
                    go_split_ands
                    go_simp
                    (try with_reducible rfl)
                  simp only [List.setIfInBounds_toArray, List.set_cons_zero, List.set_cons_succ]
                  refine take_at 8 67 (fuel := 11) ?_ rfl rfl (by kernel_rfl) (by kernel_rfl) (by kernel_rfl) (Or.inl ⟨by rfl, ?_⟩) hSw ?_
                  rotate_left
                  · intro wx hSx
                    (try dsimp only at hSx)
                    go_split_ands
                    go_simp
                    (try with_reducible rfl)
                  simp only [List.setIfInBounds_toArray, List.set_cons_zero, List.set_cons_succ]
                  refine take_at 9 68 (fuel := 10) ?_ rfl rfl (by kernel_rfl) (by kernel_rfl) (by kernel_rfl) (Or.inl ⟨by rfl, ?_⟩) hSw ?_
                  rotate_left
                  · intro wx hSx
                    (try dsimp only at hSx)
                    go_split_ands
                    go_simp
                    (try with_reducible rfl)
                  simp only [List.setIfInBounds_toArray, List.set_cons_zero, List.set_cons_succ]
                  refine take_at 10 69 (fuel := 9) ?_ rfl rfl (by kernel_rfl) (by kernel_rfl) (by kernel_rfl) (Or.inl ⟨by rfl, ?_⟩) hSw ?_
                  rotate_left
                  · intro wx hSx
                    (try dsimp only at hSx)
                    go_split_ands
                    go_simp
                    (try with_reducible rfl)
                  simp only [List.setIfInBounds_toArray, List.set_cons_zero, List.set_cons_succ]
                  refine take_at 11 70 (fuel := 8) ?_ rfl rfl (by kernel_rfl) (by kernel_rfl) (by kernel_rfl) (Or.inl ⟨by rfl, ?_⟩) hSw ?_
                  rotate_left
                  · intro wx hSx
                    (try dsimp only at hSx)
                    go_split_ands
                    go_simp
                    (try with_reducible rfl)
                  simp only [List.setIfInBounds_toArray, List.set_cons_zero, List.set_cons_succ]
                  refine take_at 12 71 (fuel := 7) ?_ rfl rfl (by kernel_rfl) (by kernel_rfl) (by kernel_rfl) (Or.inl ⟨by rfl, ?_⟩) hSw ?_
                  rotate_left
                  · intro wx hSx
                    (try dsimp only at hSx)
                    go_split_ands
                    go_simp
                    (try with_reducible rfl)
                  simp only [List.setIfInBounds_toArray, List.set_cons_zero, List.set_cons_succ]
                  refine take_at 13 72 (fuel := 6) ?_ rfl rfl (by kernel_rfl) (by kernel_rfl) (by kernel_rfl) (Or.inl ⟨by rfl, ?_⟩) hSw ?_
                  rotate_left
                  · intro wx hSx
                    (try dsimp only at hSx)
                    go_split_ands
                    go_simp
                    (try with_reducible rfl)
                  simp only [List.setIfInBounds_toArray, List.set_cons_zero, List.set_cons_succ]
                  refine take_at 14 73 (fuel := 5) ?_ rfl rfl (by kernel_rfl) (by kernel_rfl) (by kernel_rfl) (Or.inl ⟨by rfl, ?_⟩) hSw ?_
                  rotate_left
                  · intro wx hSx
                    (try dsimp only at hSx)
                    go_split_ands
                    go_simp
                    (try with_reducible rfl)
                  simp only [List.setIfInBounds_toArray, List.set_cons_zero, List.set_cons_succ]
                  refine take_at 15 74 (fuel := 4) ?_ rfl rfl (by kernel_rfl) (by kernel_rfl) (by kernel_rfl) (Or.inl ⟨by rfl, ?_⟩) hSw ?_
                  rotate_left
                  · intro wx hSx
                    (try dsimp only at hSx)
                    go_split_ands
                    go_simp
                    (try with_reducible rfl)
                  simp only [List.setIfInBounds_toArray, List.set_cons_zero, List.set_cons_succ]
                  refine take_at 16 75 (fuel := 3) ?_ rfl rfl (by kernel_rfl) (by kernel_rfl) (by kernel_rfl) (Or.inl ⟨by rfl, ?_⟩) hSw ?_
                  rotate_left
                  · intro wx hSx
                    (try dsimp only at hSx)
                    go_split_ands
                    go_simp
                    (try with_reducible rfl)
                  simp only [List.setIfInBounds_toArray, List.set_cons_zero, List.set_cons_succ]
                  refine take_at 17 76 (fuel := 2) ?_ rfl rfl (by kernel_rfl) (by kernel_rfl) (by kernel_rfl) (Or.inl ⟨by rfl, ?_⟩) hSw ?_
                  rotate_left
                  · intro wx hSx
                    (try dsimp only at hSx)
                    go_split_ands
                    go_simp
                    (try with_reducible rfl)
                  simp only [List.setIfInBounds_toArray, List.set_cons_zero, List.set_cons_succ]
                  refine take_at 18 77 (fuel := 1) ?_ rfl rfl (by kernel_rfl) (by kernel_rfl) (by kernel_rfl) (Or.inl ⟨by rfl, ?_⟩) hSw ?_
                  rotate_left
                  · intro wx hSx
                    (try dsimp only at hSx)
                    go_split_ands
                    go_simp
                    (try with_reducible rfl)
                  simp only [List.setIfInBounds_toArray, List.set_cons_zero, List.set_cons_succ]
                  refine take_at 19 78 (fuel := 0) ?_ rfl rfl (by kernel_rfl) (by kernel_rfl) (by kernel_rfl) (Or.inl ⟨by rfl, ?_⟩) hSw ?_
                  rotate_left
                  · intro wx hSx
                    (try dsimp only at hSx)
                    go_split_ands
                    go_simp
                    (try with_reducible rfl)
                  simp only [List.setIfInBounds_toArray, List.set_cons_zero, List.set_cons_succ]
                  refine wpAnyH_done (by kernel_rfl) ⟨rfl, ?_⟩ 0
                  have hSt2 : St w0 wv b q c2 y [] := (hSt.below (Below.drew (Below.refl _ w9))).below hb2
                  have hN2 := hel _ hSt2.bel
                  have y2 : wv.cell? ⟨p0, 0, none⟩ = some (.bool true) := Blk.cell (Blk.below (show Blk w9.drew p0 PT (c2.told true) from r0) hb2 hlt0) 0
                  clear hSt y0 hN hSw hb2 mk r0 x0 x1 x2 x3 x4 x5 hlt0 hltq
                  by_cases hlt : m < n
                  · have d6 : decide ((m : Int) < (n : Int)) = true := decide_eq_true (by omega)
                    have d7 : decide (m < n) = true := decide_eq_true hlt
                    go_wp2_with fail
                    go_roundw
                    case rel => exact ⟨j + 1, n, by omega, rfl, rfl, by omega, ⟨c2, HF2.out, HM2.out, hSt2⟩⟩
                    case measure => simp [intOf]; omega
                  · have d6 : decide ((m : Int) < (n : Int)) = false := decide_eq_false (by omega)
                    have d7 : decide (m < n) = false := decide_eq_false hlt
                    have HMEQ : Hid (n = m) := Lib.hid (by omega)
                    go_wp2_with fail
                    go_roundw
                    case rel => exact ⟨j + 1, m, by omega, rfl, rfl, by omega, ⟨c2, HF2.out, HM2.out.trans HMEQ.out, hSt2⟩⟩
                    case measure => simp [intOf]; omega
                simp only [setL, List.setIfInBounds_toArray, List.set_cons_zero, List.set_cons_succ] at F1_1
                refine keep (fun ops Q S a => ∀ (w : World), St w0 w b q c2 y [] → wpAnyH Try.prog .any ops Q S 2 #[true, true, true, true, true, true, true, false, false] ⟨setL a.tmps [(58, .agg (c2.told true))], a.defers⟩ w) ?_ (fun F1_0 => ?_)
                · intro  w hS
                  simp only [setL, List.setIfInBounds_toArray, List.set_cons_zero, List.set_cons_succ]
                  refine wpAnyH_ready (fuel := 1) (rs := [7]) (by kernel_rfl) (by simp) (AllReadyH.cons rfl (fun K hK => ?_) AllReadyH.nil)
                  · go_simp
                    have hS2 := St.at_ [] [] hS
                    refine hK.out _ _ ⟨hS2.box.cell 0, hS2.box.cell 1, hS2.box.cell 2, hS2.box.cell 3, hS2.box.cell 4, hS2.box.cell 5, hel _ hS2.bel⟩ (fun hSw => ?_)
                    clear hK K hSw
                    simp only [List.setIfInBounds_toArray, List.set_cons_zero, List.set_cons_succ]
                    exact F1_1  w.heap.size  _ hS2
                simp only [setL, List.setIfInBounds_toArray, List.set_cons_zero, List.set_cons_succ] at F1_0
                refine keep (fun ops Q S a => ∀ (p0 : Nat) (w : World), St w0 w b q c y [p0] → wpAnyH Try.prog .any ops Q S 2 #[true, true, true, true, true, true, false, true, false] ⟨setL a.tmps [(10, .pointer (some ⟨p0, 0, none⟩))], a.defers⟩ w) ?_ (fun F0_1 => ?_)
                · intro p0 w hS
                  simp only [setL, List.setIfInBounds_toArray, List.set_cons_zero, List.set_cons_succ]
                  refine wpAnyH_ready (fuel := 1) (rs := [6]) (by kernel_rfl) (by simp) (AllReadyH.cons rfl (fun K hK => ?_) AllReadyH.nil)
                  · go_simp
                    refine Calls.mono (hpr w hS) ?_
                    rintro e wv ⟨rfl, hc, hk⟩
                    have hS2 := hS.kp hc hk
                    refine hK.out _ _ ⟨hS2.box.cell 0, hS2.box.cell 1, hS2.box.cell 2, hS2.box.cell 3, hS2.box.cell 4, hS2.box.cell 5, hel _ hS2.bel⟩ (fun hSw => ?_)
                    clear hK K hSw
                    simp only [List.setIfInBounds_toArray, List.set_cons_zero, List.set_cons_succ]
                    exact F1_1 p0 _ hS2
                simp only [setL, List.setIfInBounds_toArray, List.set_cons_zero, List.set_cons_succ] at F0_1
                refine keep (fun ops Q S a => ∀ (w : World), St w0 w b q c y [] → wpAnyH Try.prog .any ops Q S 3 #[true, true, true, true, true, true, false, false, false] ⟨setL a.tmps [], a.defers⟩ w) ?_ (fun F0_0 => ?_)
                · intro  w hS
                  simp only [setL]
                  refine wpAnyH_ready (fuel := 2) (rs := [6, 7]) (by kernel_rfl) (by simp) (AllReadyH.cons rfl (fun K hK => ?_) (AllReadyH.cons rfl (fun K hK => ?_) AllReadyH.nil))
                  · go_simp
                    refine Calls.mono (hpr w hS) ?_
                    rintro e wv ⟨rfl, hc, hk⟩
                    have hS2 := hS.kp hc hk
                    refine hK.out _ _ ⟨hS2.box.cell 0, hS2.box.cell 1, hS2.box.cell 2, hS2.box.cell 3, hS2.box.cell 4, hS2.box.cell 5, hel _ hS2.bel⟩ (fun hSw => ?_)
                    clear hK K hSw
                    simp only [List.setIfInBounds_toArray, List.set_cons_zero, List.set_cons_succ]
                    exact F1_0  _ hS2
                  · go_simp
                    have hS2 := St.at_ [] [] hS
                    refine hK.out _ _ ⟨hS2.box.cell 0, hS2.box.cell 1, hS2.box.cell 2, hS2.box.cell 3, hS2.box.cell 4, hS2.box.cell 5, hel _ hS2.bel⟩ (fun hSw => ?_)
                    clear hK K hSw
                    simp only [List.setIfInBounds_toArray, List.set_cons_zero, List.set_cons_succ]
                    exact F0_1  w.heap.size  _ hS2
                simp only [setL] at F0_0
                exact F0_0 _ hSd
              · have hnc := hn0
                obtain ⟨e1, e2⟩ := acc_no (n := n) HCF.out HY2.out HCM.out (fun h => hn0 h.2.1)
                obtain ⟨c2, hc2⟩ : ∃ c2, c2 = c.acc y n := ⟨_, rfl⟩
                have HF2 : Hid (c2.ch = firstV) := Lib.hid (by rw [hc2, e2]; exact HCF.out)
                have HM2 : Hid (c2.most = m) := Lib.hid (by rw [hc2, e2]; exact HCM.out)
                have hpr : ∀ {l : List Nat} (w : World), St w0 w b q c y l → Calls Try.prog 11 #[cp b, .agg y.cs, .int .u64 (n : Int)] w fun e w' => e = .returned (.agg (c2.told false)) ∧ Blk w' b CT c2.cs ∧ Kp (fun k => k = b) w w' := fun w h => by
                  have h1 := acc_c (x := y) n h.cell (by rw [HCF.out]; exact first_ne)
                  rw [e1, ← hc2] at h1
                  exact h1
                clear e1 e2 hc2
                have dm : decide (May y) = true := decide_eq_true hmy
                have d1 : decide ((m : Int) ≤ (n : Int)) = true := decide_eq_true (by omega)
                have d2 : decide (m ≤ n) = true := decide_eq_true hmn
                have d3 : decide (0 < n) = false := decide_eq_false hn0
                have d5 : decide (0 < (n : Int)) = false := decide_eq_false (by omega)
                have x0 : wr.cell? ⟨q, 0, none⟩ = some (.int .u64 (y.v : Int)) := hSt.box.cell 0
                have x1 : wr.cell? ⟨q, 1, none⟩ = some (.int .i64 y.pr) := hSt.box.cell 1
                have x2 : wr.cell? ⟨q, 2, none⟩ = some (.int .u64 (y.pl : Int)) := hSt.box.cell 2
                have x3 : wr.cell? ⟨q, 3, none⟩ = some (.int .i64 y.ba) := hSt.box.cell 3
                have x4 : wr.cell? ⟨q, 4, none⟩ = some (.int .u64 (y.bl : Int)) := hSt.box.cell 4
                have x5 : wr.cell? ⟨q, 5, none⟩ = some (.int .u64 (y.ep : Int)) := hSt.box.cell 5
                go_upto_region 13 with (fail)
                have hSd : St w0 wr.drew b q c y [] := hSt.below (Below.drew (Below.refl _ wr))
                clear hSt x0 x1 x2 x3 x4 x5
                refine region_only 9 #[false, false, false, false, false, false, false, false, false] (S := (fun W => W.cell? ⟨q, 0, none⟩ = some (.int .u64 (y.v : Int)) ∧ W.cell? ⟨q, 1, none⟩ = some (.int .i64 y.pr) ∧ W.cell? ⟨q, 2, none⟩ = some (.int .u64 (y.pl : Int)) ∧ W.cell? ⟨q, 3, none⟩ = some (.int .i64 y.ba) ∧ W.cell? ⟨q, 4, none⟩ = some (.int .u64 (y.bl : Int)) ∧ W.cell? ⟨q, 5, none⟩ = some (.int .u64 (y.ep : Int)) ∧ W.cell? ⟨sb, off + j, none⟩ = some (.int .u64 (n : Int)))) rfl rfl (by kernel_rfl) ⟨hSd.box.cell 0, hSd.box.cell 1, hSd.box.cell 2, hSd.box.cell 3, hSd.box.cell 4, hSd.box.cell 5, hel _ hSd.bel⟩ (fun hSw => ?_)
                refine take_at 0 52 (fuel := 8) ?_ rfl rfl (by kernel_rfl) (by kernel_rfl) (by kernel_rfl) (Or.inl ⟨by rfl, ?_⟩) hSw ?_
                rotate_left
                · intro wx hSx
                  (try dsimp only at hSx)
                  go_split_ands
                  go_simp
                  (try with_reducible rfl)
                simp only [List.setIfInBounds_toArray, List.set_cons_zero, List.set_cons_succ]
                refine take_at 1 53 (fuel := 7) ?_ rfl rfl (by kernel_rfl) (by kernel_rfl) (by kernel_rfl) (Or.inl ⟨by rfl, ?_⟩) hSw ?_
                rotate_left
                · intro wx hSx
                  (try dsimp only at hSx)
                  go_split_ands
                  go_simp
                  (try with_reducible rfl)
                simp only [List.setIfInBounds_toArray, List.set_cons_zero, List.set_cons_succ]
                refine take_at 2 54 (fuel := 6) ?_ rfl rfl (by kernel_rfl) (by kernel_rfl) (by kernel_rfl) (Or.inl ⟨by rfl, ?_⟩) hSw ?_
                rotate_left
                · intro wx hSx
                  (try dsimp only at hSx)
                  go_split_ands
                  go_simp
                  (try with_reducible rfl)
                simp only [List.setIfInBounds_toArray, List.set_cons_zero, List.set_cons_succ]
                refine take_at 3 55 (fuel := 5) ?_ rfl rfl (by kernel_rfl) (by kernel_rfl) (by kernel_rfl) (Or.inl ⟨by rfl, ?_⟩) hSw ?_
                rotate_left
                · intro wx hSx
                  (try dsimp only at hSx)
                  go_split_ands
                  go_simp
                  (try with_reducible rfl)
                simp only [List.setIfInBounds_toArray, List.set_cons_zero, List.set_cons_succ]
                refine take_at 4 56 (fuel := 4) ?_ rfl rfl (by kernel_rfl) (by kernel_rfl) (by kernel_rfl) (Or.inl ⟨by rfl, ?_⟩) hSw ?_
                rotate_left
                · intro wx hSx
                  (try dsimp only at hSx)
                  go_split_ands
                  go_simp
                  (try with_reducible rfl)
                simp only [List.setIfInBounds_toArray, List.set_cons_zero, List.set_cons_succ]
                refine take_at 5 57 (fuel := 3) ?_ rfl rfl (by kernel_rfl) (by kernel_rfl) (by kernel_rfl) (Or.inl ⟨by rfl, ?_⟩) hSw ?_
                rotate_left
                · intro wx hSx
                  (try dsimp only at hSx)
                  go_split_ands
                  go_simp
                  (try with_reducible rfl)
                simp only [List.setIfInBounds_toArray, List.set_cons_zero, List.set_cons_succ]
                refine keep (fun ops Q S a => ∀ (p0 : Nat) (w : World), St w0 w b q c2 y [p0] → wpAnyH Try.prog .any ops Q S 1 #[true, true, true, true, true, true, true, true, false] ⟨setL a.tmps [(58, .agg (c2.told false)), (10, .pointer (some ⟨p0, 0, none⟩))], a.defers⟩ w) ?_ (fun F1_1 => ?_)
                · intro p0 w hS
                  simp only [setL, List.setIfInBounds_toArray, List.set_cons_zero, List.set_cons_succ]
                  refine wpAnyH_ready (fuel := 0) (rs := [8]) (by kernel_rfl) (by simp) (AllReadyH.cons rfl (fun K hK => ?_) AllReadyH.nil)
                  have h0 := hS.ps p0 (by simp)
                  refine wp_store PT (.tmp 10) (.tmp 58) ⟨p0, 0, none⟩ (.agg (c2.told false)) rfl rfl rfl rfl (store_row info_PT h0.2.2.2 rfl (all_one (Ce.told_one _ _))) ?_
                  have r0 : Blk (w.setRow p0 (c2.told false)) p0 PT (c2.told false) := setRow_heap w p0 _ _ _ (0, 0) h0.2.2.2
                  have hSt : St w0 (w.setRow p0 (c2.told false)) b q c2 y [] := ⟨(setRow_other _ p0 b _ (Ne.symm h0.2.1)).trans hS.cell, (setRow_other _ p0 q _ (Ne.symm h0.2.2.1)).trans hS.box, row_below hS.bel h0.1 _, hS.lo, fun p hp => (by cases hp), List.nodup_nil⟩
                  refine hK.out _ _ ⟨hSt.box.cell 0, hSt.box.cell 1, hSt.box.cell 2, hSt.box.cell 3, hSt.box.cell 4, hSt.box.cell 5, hel _ hSt.bel⟩ (fun hSw => ?_)
                  clear hK K hSw
                  refine wpAnyH_done (by kernel_rfl) ⟨rfl, ?_⟩ 0
                  clear h0 hS
                  generalize w.setRow p0 (c2.told false) = w9 at *
                  have hN := hel _ hSt.bel
                  have y0 : w9.cell? ⟨p0, 0, none⟩ = some (.bool false) := r0.cell 0
                  have x0 : w9.cell? ⟨q, 0, none⟩ = some (.int .u64 (y.v : Int)) := hSt.box.cell 0
                  have x1 : w9.cell? ⟨q, 1, none⟩ = some (.int .i64 y.pr) := hSt.box.cell 1
                  have x2 : w9.cell? ⟨q, 2, none⟩ = some (.int .u64 (y.pl : Int)) := hSt.box.cell 2
                  have x3 : w9.cell? ⟨q, 3, none⟩ = some (.int .i64 y.ba) := hSt.box.cell 3
                  have x4 : w9.cell? ⟨q, 4, none⟩ = some (.int .u64 (y.bl : Int)) := hSt.box.cell 4
                  have x5 : w9.cell? ⟨q, 5, none⟩ = some (.int .u64 (y.ep : Int)) := hSt.box.cell 5
                  have hlt0 := r0.lt
                  have hltq := hSt.box.lt
                  have mk : ∀ W, Below w9.heap.size w9.drew W → W.cell? ⟨q, 0, none⟩ = some (.int .u64 (y.v : Int)) ∧ W.cell? ⟨q, 1, none⟩ = some (.int .i64 y.pr) ∧ W.cell? ⟨q, 2, none⟩ = some (.int .u64 (y.pl : Int)) ∧ W.cell? ⟨q, 3, none⟩ = some (.int .i64 y.ba) ∧ W.cell? ⟨q, 4, none⟩ = some (.int .u64 (y.bl : Int)) ∧ W.cell? ⟨q, 5, none⟩ = some (.int .u64 (y.ep : Int)) ∧ W.cell? ⟨p0, 0, none⟩ = some (.bool false) ∧ W.cell? ⟨sb, off + j, none⟩ = some (.int .u64 (n : Int)) := fun W hb => by
                    have hX0 : Blk w9.drew q VT y.cs := hSt.box
                    have hP0 : Blk w9.drew p0 PT (c2.told false) := r0
                    have hx := hX0.below hb hltq
                    have hz := hP0.below hb hlt0
                    have hbl : Below w0.heap.size w0 W := hSt.bel.drew.trans (hb.mono hSt.bel.drew.size)
                    exact ⟨(hx.cell 0), (hx.cell 1), (hx.cell 2), (hx.cell 3), (hx.cell 4), (hx.cell 5), hz.cell 0, hel _ hbl⟩
                  clear hpr
                  go_upto_region 14 with (fail)
                  refine region_only 20 #[false, false, false, false, false, false, false, false, false, false, false, false, false, false, false, false, false, false, false, false] (S := (fun W => W.cell? ⟨q, 0, none⟩ = some (.int .u64 (y.v : Int)) ∧ W.cell? ⟨q, 1, none⟩ = some (.int .i64 y.pr) ∧ W.cell? ⟨q, 2, none⟩ = some (.int .u64 (y.pl : Int)) ∧ W.cell? ⟨q, 3, none⟩ = some (.int .i64 y.ba) ∧ W.cell? ⟨q, 4, none⟩ = some (.int .u64 (y.bl : Int)) ∧ W.cell? ⟨q, 5, none⟩ = some (.int .u64 (y.ep : Int)) ∧ W.cell? ⟨p0, 0, none⟩ = some (.bool false) ∧ W.cell? ⟨sb, off + j, none⟩ = some (.int .u64 (n : Int)))) rfl rfl (by kernel_rfl) ⟨x0, x1, x2, x3, x4, x5, y0, hN⟩ (fun hSw => ?_)
                  refine take_at 0 59 (fuel := 19) ?_ rfl rfl (by kernel_rfl) (by kernel_rfl) (by kernel_rfl) (Or.inl ⟨by rfl, ?_⟩) hSw ?_
                  rotate_left
                  · intro wx hSx
                    (try dsimp only at hSx)
                    go_split_ands
                    go_simp
                    (try with_reducible rfl)
                  simp only [List.setIfInBounds_toArray, List.set_cons_zero, List.set_cons_succ]
                  refine take_at 1 60 (fuel := 18) ?_ rfl rfl (by kernel_rfl) (by kernel_rfl) (by kernel_rfl) (Or.inl ⟨by rfl, ?_⟩) hSw ?_
                  rotate_left
                  · intro wx hSx
                    (try dsimp only at hSx)
                    go_split_ands
                    go_simp
                    (try with_reducible rfl)
                  simp only [List.setIfInBounds_toArray, List.set_cons_zero, List.set_cons_succ]
                  refine take_at 2 61 (fuel := 17) ?_ rfl rfl (by kernel_rfl) (by kernel_rfl) (by kernel_rfl) (Or.inl ⟨by rfl, ?_⟩) hSw ?_
                  rotate_left
                  · intro wx hSx
                    (try dsimp only at hSx)
                    go_split_ands
                    go_simp
                    (try with_reducible rfl)
                  simp only [List.setIfInBounds_toArray, List.set_cons_zero, List.set_cons_succ]
                  refine wpAnyH_ready (fuel := 16) (rs := [3]) (by kernel_rfl) (by simp) (AllReadyH.cons rfl (fun K hK => ?_) AllReadyH.nil)
                  go_simp
                  refine Calls.mono (check_c y _) ?_
                  rintro e wv ⟨rfl, hb2⟩
                  rw [dm]
                  refine hK.out _ _ (mk _ hb2) (fun hSw => ?_)
                  clear hK K
                  simp only [List.setIfInBounds_toArray, List.set_cons_zero, List.set_cons_succ]
                  refine take_at 4 63 (fuel := 15) ?_ rfl rfl (by kernel_rfl) (by kernel_rfl) (by kernel_rfl) (Or.inl ⟨by rfl, ?_⟩) hSw ?_
                  rotate_left
                  · intro wx hSx
                    (try dsimp only at hSx)
                    go_split_ands
                    go_simp
                    (try with_reducible rfl)
                  simp only [List.setIfInBounds_toArray, List.set_cons_zero, List.set_cons_succ]
                  refine take_at 5 64 (fuel := 14) ?_ rfl rfl (by kernel_rfl) (by kernel_rfl) (by kernel_rfl) (Or.inl ⟨by rfl, ?_⟩) hSw ?_
                  rotate_left
                  · intro wx hSx
                    (try dsimp only at hSx)
                    go_split_ands
                    go_simp
                    (try with_reducible rfl)
                  simp only [List.setIfInBounds_toArray, List.set_cons_zero, List.set_cons_succ]
                  refine take_at 6 65 (fuel := 13) ?_ rfl rfl (by kernel_rfl) (by kernel_rfl) (by kernel_rfl) (Or.inl ⟨by rfl, ?_⟩) hSw ?_
                  rotate_left
                  · intro wx hSx
                    (try dsimp only at hSx)
                    go_split_ands
                    go_simp
                    (try with_reducible rfl)
                  simp only [List.setIfInBounds_toArray, List.set_cons_zero, List.set_cons_succ]
                  refine take_at 7 66 (fuel := 12) ?_ rfl rfl (by kernel_rfl) (by kernel_rfl) (by kernel_rfl) (Or.inl ⟨by rfl, ?_⟩) hSw ?_
                  rotate_left
                  · intro wx hSx
                    (try dsimp only at hSx)
                    go_split_ands
                    go_simp
                    (try with_reducible rfl)
                  simp only [List.setIfInBounds_toArray, List.set_cons_zero, List.set_cons_succ]
                  refine take_at 8 67 (fuel := 11) ?_ rfl rfl (by kernel_rfl) (by kernel_rfl) (by kernel_rfl) (Or.inl ⟨by rfl, ?_⟩) hSw ?_
                  rotate_left
                  · intro wx hSx
                    (try dsimp only at hSx)
                    go_split_ands
                    go_simp
                    (try with_reducible rfl)
                  simp only [List.setIfInBounds_toArray, List.set_cons_zero, List.set_cons_succ]
                  refine take_at 9 68 (fuel := 10) ?_ rfl rfl (by kernel_rfl) (by kernel_rfl) (by kernel_rfl) (Or.inl ⟨by rfl, ?_⟩) hSw ?_
                  rotate_left
                  · intro wx hSx
                    (try dsimp only at hSx)
                    go_split_ands
                    go_simp
                    (try with_reducible rfl)
                  simp only [List.setIfInBounds_toArray, List.set_cons_zero, List.set_cons_succ]
                  refine take_at 10 69 (fuel := 9) ?_ rfl rfl (by kernel_rfl) (by kernel_rfl) (by kernel_rfl) (Or.inl ⟨by rfl, ?_⟩) hSw ?_
                  rotate_left
                  · intro wx hSx
                    (try dsimp only at hSx)
                    go_split_ands
                    go_simp
                    (try with_reducible rfl)
                  simp only [List.setIfInBounds_toArray, List.set_cons_zero, List.set_cons_succ]
                  refine take_at 11 70 (fuel := 8) ?_ rfl rfl (by kernel_rfl) (by kernel_rfl) (by kernel_rfl) (Or.inl ⟨by rfl, ?_⟩) hSw ?_
                  rotate_left
                  · intro wx hSx
                    (try dsimp only at hSx)
                    go_split_ands
                    go_simp
                    (try with_reducible rfl)
                  simp only [List.setIfInBounds_toArray, List.set_cons_zero, List.set_cons_succ]
                  refine take_at 12 71 (fuel := 7) ?_ rfl rfl (by kernel_rfl) (by kernel_rfl) (by kernel_rfl) (Or.inl ⟨by rfl, ?_⟩) hSw ?_
                  rotate_left
                  · intro wx hSx
                    (try dsimp only at hSx)
                    go_split_ands
                    go_simp
                    (try with_reducible rfl)
                  simp only [List.setIfInBounds_toArray, List.set_cons_zero, List.set_cons_succ]
                  refine take_at 13 72 (fuel := 6) ?_ rfl rfl (by kernel_rfl) (by kernel_rfl) (by kernel_rfl) (Or.inl ⟨by rfl, ?_⟩) hSw ?_
                  rotate_left
                  · intro wx hSx
                    (try dsimp only at hSx)
                    go_split_ands
                    go_simp
                    (try with_reducible rfl)
                  simp only [List.setIfInBounds_toArray, List.set_cons_zero, List.set_cons_succ]
                  refine take_at 14 73 (fuel := 5) ?_ rfl rfl (by kernel_rfl) (by kernel_rfl) (by kernel_rfl) (Or.inl ⟨by rfl, ?_⟩) hSw ?_
                  rotate_left
                  · intro wx hSx
                    (try dsimp only at hSx)
                    go_split_ands
                    go_simp
                    (try with_reducible rfl)
                  simp only [List.setIfInBounds_toArray, List.set_cons_zero, List.set_cons_succ]
                  refine take_at 15 74 (fuel := 4) ?_ rfl rfl (by kernel_rfl) (by kernel_rfl) (by kernel_rfl) (Or.inl ⟨by rfl, ?_⟩) hSw ?_
                  rotate_left
                  · intro wx hSx
                    (try dsimp only at hSx)
                    go_split_ands
                    go_simp
                    (try with_reducible rfl)
                  simp only [List.setIfInBounds_toArray, List.set_cons_zero, List.set_cons_succ]
                  refine take_at 16 75 (fuel := 3) ?_ rfl rfl (by kernel_rfl) (by kernel_rfl) (by kernel_rfl) (Or.inl ⟨by rfl, ?_⟩) hSw ?_
                  rotate_left
                  · intro wx hSx
                    (try dsimp only at hSx)
                    go_split_ands
                    go_simp
                    (try with_reducible rfl)
                  simp only [List.setIfInBounds_toArray, List.set_cons_zero, List.set_cons_succ]
                  refine take_at 17 76 (fuel := 2) ?_ rfl rfl (by kernel_rfl) (by kernel_rfl) (by kernel_rfl) (Or.inl ⟨by rfl, ?_⟩) hSw ?_
                  rotate_left
                  · intro wx hSx
                    (try dsimp only at hSx)
                    go_split_ands
                    go_simp
                    (try with_reducible rfl)
                  simp only [List.setIfInBounds_toArray, List.set_cons_zero, List.set_cons_succ]
                  refine take_at 18 77 (fuel := 1) ?_ rfl rfl (by kernel_rfl) (by kernel_rfl) (by kernel_rfl) (Or.inl ⟨by rfl, ?_⟩) hSw ?_
                  rotate_left
                  · intro wx hSx
                    (try dsimp only at hSx)
                    go_split_ands
                    go_simp
                    (try with_reducible rfl)
                  simp only [List.setIfInBounds_toArray, List.set_cons_zero, List.set_cons_succ]
                  refine take_at 19 78 (fuel := 0) ?_ rfl rfl (by kernel_rfl) (by kernel_rfl) (by kernel_rfl) (Or.inl ⟨by rfl, ?_⟩) hSw ?_
                  rotate_left
                  · intro wx hSx
                    (try dsimp only at hSx)
                    go_split_ands
                    go_simp
                    (try with_reducible rfl)
                  simp only [List.setIfInBounds_toArray, List.set_cons_zero, List.set_cons_succ]
                  refine wpAnyH_done (by kernel_rfl) ⟨rfl, ?_⟩ 0
                  have hSt2 : St w0 wv b q c2 y [] := (hSt.below (Below.drew (Below.refl _ w9))).below hb2
                  have hN2 := hel _ hSt2.bel
                  have y2 : wv.cell? ⟨p0, 0, none⟩ = some (.bool false) := Blk.cell (Blk.below (show Blk w9.drew p0 PT (c2.told false) from r0) hb2 hlt0) 0
                  clear hSt y0 hN hSw hb2 mk r0 x0 x1 x2 x3 x4 x5 hlt0 hltq
                  go_wp2_with fail
                  go_roundw
                  case rel => exact ⟨j + 1, m, by omega, rfl, rfl, by omega, ⟨c2, HF2.out, HM2.out, hSt2⟩⟩
                  case measure => simp [intOf]; omega
                simp only [setL, List.setIfInBounds_toArray, List.set_cons_zero, List.set_cons_succ] at F1_1
                refine keep (fun ops Q S a => ∀ (w : World), St w0 w b q c2 y [] → wpAnyH Try.prog .any ops Q S 2 #[true, true, true, true, true, true, true, false, false] ⟨setL a.tmps [(58, .agg (c2.told false))], a.defers⟩ w) ?_ (fun F1_0 => ?_)
                · intro  w hS
                  simp only [setL, List.setIfInBounds_toArray, List.set_cons_zero, List.set_cons_succ]
                  refine wpAnyH_ready (fuel := 1) (rs := [7]) (by kernel_rfl) (by simp) (AllReadyH.cons rfl (fun K hK => ?_) AllReadyH.nil)
                  · go_simp
                    have hS2 := St.at_ [] [] hS
                    refine hK.out _ _ ⟨hS2.box.cell 0, hS2.box.cell 1, hS2.box.cell 2, hS2.box.cell 3, hS2.box.cell 4, hS2.box.cell 5, hel _ hS2.bel⟩ (fun hSw => ?_)
                    clear hK K hSw
                    simp only [List.setIfInBounds_toArray, List.set_cons_zero, List.set_cons_succ]
                    exact F1_1  w.heap.size  _ hS2
                simp only [setL, List.setIfInBounds_toArray, List.set_cons_zero, List.set_cons_succ] at F1_0
                refine keep (fun ops Q S a => ∀ (p0 : Nat) (w : World), St w0 w b q c y [p0] → wpAnyH Try.prog .any ops Q S 2 #[true, true, true, true, true, true, false, true, false] ⟨setL a.tmps [(10, .pointer (some ⟨p0, 0, none⟩))], a.defers⟩ w) ?_ (fun F0_1 => ?_)
                · intro p0 w hS
                  simp only [setL, List.setIfInBounds_toArray, List.set_cons_zero, List.set_cons_succ]
                  refine wpAnyH_ready (fuel := 1) (rs := [6]) (by kernel_rfl) (by simp) (AllReadyH.cons rfl (fun K hK => ?_) AllReadyH.nil)
                  · go_simp
                    refine Calls.mono (hpr w hS) ?_
                    rintro e wv ⟨rfl, hc, hk⟩
                    have hS2 := hS.kp hc hk
                    refine hK.out _ _ ⟨hS2.box.cell 0, hS2.box.cell 1, hS2.box.cell 2, hS2.box.cell 3, hS2.box.cell 4, hS2.box.cell 5, hel _ hS2.bel⟩ (fun hSw => ?_)
                    clear hK K hSw
                    simp only [List.setIfInBounds_toArray, List.set_cons_zero, List.set_cons_succ]
                    exact F1_1 p0 _ hS2
                simp only [setL, List.setIfInBounds_toArray, List.set_cons_zero, List.set_cons_succ] at F0_1
                refine keep (fun ops Q S a => ∀ (w : World), St w0 w b q c y [] → wpAnyH Try.prog .any ops Q S 3 #[true, true, true, true, true, true, false, false, false] ⟨setL a.tmps [], a.defers⟩ w) ?_ (fun F0_0 => ?_)
                · intro  w hS
                  simp only [setL]
                  refine wpAnyH_ready (fuel := 2) (rs := [6, 7]) (by kernel_rfl) (by simp) (AllReadyH.cons rfl (fun K hK => ?_) (AllReadyH.cons rfl (fun K hK => ?_) AllReadyH.nil))
                  · go_simp
                    refine Calls.mono (hpr w hS) ?_
                    rintro e wv ⟨rfl, hc, hk⟩
                    have hS2 := hS.kp hc hk
                    refine hK.out _ _ ⟨hS2.box.cell 0, hS2.box.cell 1, hS2.box.cell 2, hS2.box.cell 3, hS2.box.cell 4, hS2.box.cell 5, hel _ hS2.bel⟩ (fun hSw => ?_)
                    clear hK K hSw
                    simp only [List.setIfInBounds_toArray, List.set_cons_zero, List.set_cons_succ]
                    exact F1_0  _ hS2
                  · go_simp
                    have hS2 := St.at_ [] [] hS
                    refine hK.out _ _ ⟨hS2.box.cell 0, hS2.box.cell 1, hS2.box.cell 2, hS2.box.cell 3, hS2.box.cell 4, hS2.box.cell 5, hel _ hS2.bel⟩ (fun hSw => ?_)
                    clear hK K hSw
                    simp only [List.setIfInBounds_toArray, List.set_cons_zero, List.set_cons_succ]
                    exact F0_1  w.heap.size  _ hS2
                simp only [setL] at F0_0
                exact F0_0 _ hSd
            · have hnc := hmn
              obtain ⟨e1, e2⟩ := acc_no (n := n) HCF.out HY2.out HCM.out (fun h => hmn h.2.2)
              obtain ⟨c2, hc2⟩ : ∃ c2, c2 = c.acc y n := ⟨_, rfl⟩
              have HF2 : Hid (c2.ch = firstV) := Lib.hid (by rw [hc2, e2]; exact HCF.out)
              have HM2 : Hid (c2.most = m) := Lib.hid (by rw [hc2, e2]; exact HCM.out)
              have hpr : ∀ {l : List Nat} (w : World), St w0 w b q c y l → Calls Try.prog 11 #[cp b, .agg y.cs, .int .u64 (n : Int)] w fun e w' => e = .returned (.agg (c2.told false)) ∧ Blk w' b CT c2.cs ∧ Kp (fun k => k = b) w w' := fun w h => by
                have h1 := acc_c (x := y) n h.cell (by rw [HCF.out]; exact first_ne)
                rw [e1, ← hc2] at h1
                exact h1
              clear e1 e2 hc2
              have dm : decide (May y) = true := decide_eq_true hmy
              have d1 : decide ((m : Int) ≤ (n : Int)) = false := decide_eq_false (by omega)
              have d2 : decide (m ≤ n) = false := decide_eq_false hmn
              have x0 : wr.cell? ⟨q, 0, none⟩ = some (.int .u64 (y.v : Int)) := hSt.box.cell 0
              have x1 : wr.cell? ⟨q, 1, none⟩ = some (.int .i64 y.pr) := hSt.box.cell 1
              have x2 : wr.cell? ⟨q, 2, none⟩ = some (.int .u64 (y.pl : Int)) := hSt.box.cell 2
              have x3 : wr.cell? ⟨q, 3, none⟩ = some (.int .i64 y.ba) := hSt.box.cell 3
              have x4 : wr.cell? ⟨q, 4, none⟩ = some (.int .u64 (y.bl : Int)) := hSt.box.cell 4
              have x5 : wr.cell? ⟨q, 5, none⟩ = some (.int .u64 (y.ep : Int)) := hSt.box.cell 5
              go_upto_region 13 with (fail)
              have hSd : St w0 wr.drew b q c y [] := hSt.below (Below.drew (Below.refl _ wr))
              clear hSt x0 x1 x2 x3 x4 x5
              refine region_only 9 #[false, false, false, false, false, false, false, false, false] (S := (fun W => W.cell? ⟨q, 0, none⟩ = some (.int .u64 (y.v : Int)) ∧ W.cell? ⟨q, 1, none⟩ = some (.int .i64 y.pr) ∧ W.cell? ⟨q, 2, none⟩ = some (.int .u64 (y.pl : Int)) ∧ W.cell? ⟨q, 3, none⟩ = some (.int .i64 y.ba) ∧ W.cell? ⟨q, 4, none⟩ = some (.int .u64 (y.bl : Int)) ∧ W.cell? ⟨q, 5, none⟩ = some (.int .u64 (y.ep : Int)) ∧ W.cell? ⟨sb, off + j, none⟩ = some (.int .u64 (n : Int)))) rfl rfl (by kernel_rfl) ⟨hSd.box.cell 0, hSd.box.cell 1, hSd.box.cell 2, hSd.box.cell 3, hSd.box.cell 4, hSd.box.cell 5, hel _ hSd.bel⟩ (fun hSw => ?_)
              refine take_at 0 52 (fuel := 8) ?_ rfl rfl (by kernel_rfl) (by kernel_rfl) (by kernel_rfl) (Or.inl ⟨by rfl, ?_⟩) hSw ?_
              rotate_left
              · intro wx hSx
                (try dsimp only at hSx)
                go_split_ands
                go_simp
                (try with_reducible rfl)
              simp only [List.setIfInBounds_toArray, List.set_cons_zero, List.set_cons_succ]
              refine take_at 1 53 (fuel := 7) ?_ rfl rfl (by kernel_rfl) (by kernel_rfl) (by kernel_rfl) (Or.inl ⟨by rfl, ?_⟩) hSw ?_
              rotate_left
              · intro wx hSx
                (try dsimp only at hSx)
                go_split_ands
                go_simp
                (try with_reducible rfl)
              simp only [List.setIfInBounds_toArray, List.set_cons_zero, List.set_cons_succ]
              refine take_at 2 54 (fuel := 6) ?_ rfl rfl (by kernel_rfl) (by kernel_rfl) (by kernel_rfl) (Or.inl ⟨by rfl, ?_⟩) hSw ?_
              rotate_left
              · intro wx hSx
                (try dsimp only at hSx)
                go_split_ands
                go_simp
                (try with_reducible rfl)
              simp only [List.setIfInBounds_toArray, List.set_cons_zero, List.set_cons_succ]
              refine take_at 3 55 (fuel := 5) ?_ rfl rfl (by kernel_rfl) (by kernel_rfl) (by kernel_rfl) (Or.inl ⟨by rfl, ?_⟩) hSw ?_
              rotate_left
              · intro wx hSx
                (try dsimp only at hSx)
                go_split_ands
                go_simp
                (try with_reducible rfl)
              simp only [List.setIfInBounds_toArray, List.set_cons_zero, List.set_cons_succ]
              refine take_at 4 56 (fuel := 4) ?_ rfl rfl (by kernel_rfl) (by kernel_rfl) (by kernel_rfl) (Or.inl ⟨by rfl, ?_⟩) hSw ?_
              rotate_left
              · intro wx hSx
                (try dsimp only at hSx)
                go_split_ands
                go_simp
                (try with_reducible rfl)
              simp only [List.setIfInBounds_toArray, List.set_cons_zero, List.set_cons_succ]
              refine take_at 5 57 (fuel := 3) ?_ rfl rfl (by kernel_rfl) (by kernel_rfl) (by kernel_rfl) (Or.inl ⟨by rfl, ?_⟩) hSw ?_
              rotate_left
              · intro wx hSx
                (try dsimp only at hSx)
                go_split_ands
                go_simp
                (try with_reducible rfl)
              simp only [List.setIfInBounds_toArray, List.set_cons_zero, List.set_cons_succ]
              refine keep (fun ops Q S a => ∀ (p0 : Nat) (w : World), St w0 w b q c2 y [p0] → wpAnyH Try.prog .any ops Q S 1 #[true, true, true, true, true, true, true, true, false] ⟨setL a.tmps [(58, .agg (c2.told false)), (10, .pointer (some ⟨p0, 0, none⟩))], a.defers⟩ w) ?_ (fun F1_1 => ?_)
              · intro p0 w hS
                simp only [setL, List.setIfInBounds_toArray, List.set_cons_zero, List.set_cons_succ]
                refine wpAnyH_ready (fuel := 0) (rs := [8]) (by kernel_rfl) (by simp) (AllReadyH.cons rfl (fun K hK => ?_) AllReadyH.nil)
                have h0 := hS.ps p0 (by simp)
                refine wp_store PT (.tmp 10) (.tmp 58) ⟨p0, 0, none⟩ (.agg (c2.told false)) rfl rfl rfl rfl (store_row info_PT h0.2.2.2 rfl (all_one (Ce.told_one _ _))) ?_
                have r0 : Blk (w.setRow p0 (c2.told false)) p0 PT (c2.told false) := setRow_heap w p0 _ _ _ (0, 0) h0.2.2.2
                have hSt : St w0 (w.setRow p0 (c2.told false)) b q c2 y [] := ⟨(setRow_other _ p0 b _ (Ne.symm h0.2.1)).trans hS.cell, (setRow_other _ p0 q _ (Ne.symm h0.2.2.1)).trans hS.box, row_below hS.bel h0.1 _, hS.lo, fun p hp => (by cases hp), List.nodup_nil⟩
                refine hK.out _ _ ⟨hSt.box.cell 0, hSt.box.cell 1, hSt.box.cell 2, hSt.box.cell 3, hSt.box.cell 4, hSt.box.cell 5, hel _ hSt.bel⟩ (fun hSw => ?_)
                clear hK K hSw
                refine wpAnyH_done (by kernel_rfl) ⟨rfl, ?_⟩ 0
                clear h0 hS
                generalize w.setRow p0 (c2.told false) = w9 at *
                have hN := hel _ hSt.bel
                have y0 : w9.cell? ⟨p0, 0, none⟩ = some (.bool false) := r0.cell 0
                have x0 : w9.cell? ⟨q, 0, none⟩ = some (.int .u64 (y.v : Int)) := hSt.box.cell 0
                have x1 : w9.cell? ⟨q, 1, none⟩ = some (.int .i64 y.pr) := hSt.box.cell 1
                have x2 : w9.cell? ⟨q, 2, none⟩ = some (.int .u64 (y.pl : Int)) := hSt.box.cell 2
                have x3 : w9.cell? ⟨q, 3, none⟩ = some (.int .i64 y.ba) := hSt.box.cell 3
                have x4 : w9.cell? ⟨q, 4, none⟩ = some (.int .u64 (y.bl : Int)) := hSt.box.cell 4
                have x5 : w9.cell? ⟨q, 5, none⟩ = some (.int .u64 (y.ep : Int)) := hSt.box.cell 5
                have hlt0 := r0.lt
                have hltq := hSt.box.lt
                have mk : ∀ W, Below w9.heap.size w9.drew W → W.cell? ⟨q, 0, none⟩ = some (.int .u64 (y.v : Int)) ∧ W.cell? ⟨q, 1, none⟩ = some (.int .i64 y.pr) ∧ W.cell? ⟨q, 2, none⟩ = some (.int .u64 (y.pl : Int)) ∧ W.cell? ⟨q, 3, none⟩ = some (.int .i64 y.ba) ∧ W.cell? ⟨q, 4, none⟩ = some (.int .u64 (y.bl : Int)) ∧ W.cell? ⟨q, 5, none⟩ = some (.int .u64 (y.ep : Int)) ∧ W.cell? ⟨p0, 0, none⟩ = some (.bool false) ∧ W.cell? ⟨sb, off + j, none⟩ = some (.int .u64 (n : Int)) := fun W hb => by
                  have hX0 : Blk w9.drew q VT y.cs := hSt.box
                  have hP0 : Blk w9.drew p0 PT (c2.told false) := r0
                  have hx := hX0.below hb hltq
                  have hz := hP0.below hb hlt0
                  have hbl : Below w0.heap.size w0 W := hSt.bel.drew.trans (hb.mono hSt.bel.drew.size)
                  exact ⟨(hx.cell 0), (hx.cell 1), (hx.cell 2), (hx.cell 3), (hx.cell 4), (hx.cell 5), hz.cell 0, hel _ hbl⟩
                clear hpr
                go_upto_region 14 with (fail)
                refine region_only 20 #[false, false, false, false, false, false, false, false, false, false, false, false, false, false, false, false, false, false, false, false] (S := (fun W => W.cell? ⟨q, 0, none⟩ = some (.int .u64 (y.v : Int)) ∧ W.cell? ⟨q, 1, none⟩ = some (.int .i64 y.pr) ∧ W.cell? ⟨q, 2, none⟩ = some (.int .u64 (y.pl : Int)) ∧ W.cell? ⟨q, 3, none⟩ = some (.int .i64 y.ba) ∧ W.cell? ⟨q, 4, none⟩ = some (.int .u64 (y.bl : Int)) ∧ W.cell? ⟨q, 5, none⟩ = some (.int .u64 (y.ep : Int)) ∧ W.cell? ⟨p0, 0, none⟩ = some (.bool false) ∧ W.cell? ⟨sb, off + j, none⟩ = some (.int .u64 (n : Int)))) rfl rfl (by kernel_rfl) ⟨x0, x1, x2, x3, x4, x5, y0, hN⟩ (fun hSw => ?_)
                refine take_at 0 59 (fuel := 19) ?_ rfl rfl (by kernel_rfl) (by kernel_rfl) (by kernel_rfl) (Or.inl ⟨by rfl, ?_⟩) hSw ?_
                rotate_left
                · intro wx hSx
                  (try dsimp only at hSx)
                  go_split_ands
                  go_simp
                  (try with_reducible rfl)
                simp only [List.setIfInBounds_toArray, List.set_cons_zero, List.set_cons_succ]
                refine take_at 1 60 (fuel := 18) ?_ rfl rfl (by kernel_rfl) (by kernel_rfl) (by kernel_rfl) (Or.inl ⟨by rfl, ?_⟩) hSw ?_
                rotate_left
                · intro wx hSx
                  (try dsimp only at hSx)
                  go_split_ands
                  go_simp
                  (try with_reducible rfl)
                simp only [List.setIfInBounds_toArray, List.set_cons_zero, List.set_cons_succ]
                refine take_at 2 61 (fuel := 17) ?_ rfl rfl (by kernel_rfl) (by kernel_rfl) (by kernel_rfl) (Or.inl ⟨by rfl, ?_⟩) hSw ?_
                rotate_left
                · intro wx hSx
                  (try dsimp only at hSx)
                  go_split_ands
                  go_simp
                  (try with_reducible rfl)
                simp only [List.setIfInBounds_toArray, List.set_cons_zero, List.set_cons_succ]
                refine wpAnyH_ready (fuel := 16) (rs := [3]) (by kernel_rfl) (by simp) (AllReadyH.cons rfl (fun K hK => ?_) AllReadyH.nil)
                go_simp
                refine Calls.mono (check_c y _) ?_
                rintro e wv ⟨rfl, hb2⟩
                rw [dm]
                refine hK.out _ _ (mk _ hb2) (fun hSw => ?_)
                clear hK K
                simp only [List.setIfInBounds_toArray, List.set_cons_zero, List.set_cons_succ]
                refine take_at 4 63 (fuel := 15) ?_ rfl rfl (by kernel_rfl) (by kernel_rfl) (by kernel_rfl) (Or.inl ⟨by rfl, ?_⟩) hSw ?_
                rotate_left
                · intro wx hSx
                  (try dsimp only at hSx)
                  go_split_ands
                  go_simp
                  (try with_reducible rfl)
                simp only [List.setIfInBounds_toArray, List.set_cons_zero, List.set_cons_succ]
                refine take_at 5 64 (fuel := 14) ?_ rfl rfl (by kernel_rfl) (by kernel_rfl) (by kernel_rfl) (Or.inl ⟨by rfl, ?_⟩) hSw ?_
                rotate_left
                · intro wx hSx
                  (try dsimp only at hSx)
                  go_split_ands
                  go_simp
                  (try with_reducible rfl)
                simp only [List.setIfInBounds_toArray, List.set_cons_zero, List.set_cons_succ]
                refine take_at 6 65 (fuel := 13) ?_ rfl rfl (by kernel_rfl) (by kernel_rfl) (by kernel_rfl) (Or.inl ⟨by rfl, ?_⟩) hSw ?_
                rotate_left
                · intro wx hSx
                  (try dsimp only at hSx)
                  go_split_ands
                  go_simp
                  (try with_reducible rfl)
                simp only [List.setIfInBounds_toArray, List.set_cons_zero, List.set_cons_succ]
                refine take_at 7 66 (fuel := 12) ?_ rfl rfl (by kernel_rfl) (by kernel_rfl) (by kernel_rfl) (Or.inl ⟨by rfl, ?_⟩) hSw ?_
                rotate_left
                · intro wx hSx
                  (try dsimp only at hSx)
                  go_split_ands
                  go_simp
                  (try with_reducible rfl)
                simp only [List.setIfInBounds_toArray, List.set_cons_zero, List.set_cons_succ]
                refine take_at 8 67 (fuel := 11) ?_ rfl rfl (by kernel_rfl) (by kernel_rfl) (by kernel_rfl) (Or.inl ⟨by rfl, ?_⟩) hSw ?_
                rotate_left
                · intro wx hSx
                  (try dsimp only at hSx)
                  go_split_ands
                  go_simp
                  (try with_reducible rfl)
                simp only [List.setIfInBounds_toArray, List.set_cons_zero, List.set_cons_succ]
                refine take_at 9 68 (fuel := 10) ?_ rfl rfl (by kernel_rfl) (by kernel_rfl) (by kernel_rfl) (Or.inl ⟨by rfl, ?_⟩) hSw ?_
                rotate_left
                · intro wx hSx
                  (try dsimp only at hSx)
                  go_split_ands
                  go_simp
                  (try with_reducible rfl)
                simp only [List.setIfInBounds_toArray, List.set_cons_zero, List.set_cons_succ]
                refine take_at 10 69 (fuel := 9) ?_ rfl rfl (by kernel_rfl) (by kernel_rfl) (by kernel_rfl) (Or.inl ⟨by rfl, ?_⟩) hSw ?_
                rotate_left
                · intro wx hSx
                  (try dsimp only at hSx)
                  go_split_ands
                  go_simp
                  (try with_reducible rfl)
                simp only [List.setIfInBounds_toArray, List.set_cons_zero, List.set_cons_succ]
                refine take_at 11 70 (fuel := 8) ?_ rfl rfl (by kernel_rfl) (by kernel_rfl) (by kernel_rfl) (Or.inl ⟨by rfl, ?_⟩) hSw ?_
                rotate_left
                · intro wx hSx
                  (try dsimp only at hSx)
                  go_split_ands
                  go_simp
                  (try with_reducible rfl)
                simp only [List.setIfInBounds_toArray, List.set_cons_zero, List.set_cons_succ]
                refine take_at 12 71 (fuel := 7) ?_ rfl rfl (by kernel_rfl) (by kernel_rfl) (by kernel_rfl) (Or.inl ⟨by rfl, ?_⟩) hSw ?_
                rotate_left
                · intro wx hSx
                  (try dsimp only at hSx)
                  go_split_ands
                  go_simp
                  (try with_reducible rfl)
                simp only [List.setIfInBounds_toArray, List.set_cons_zero, List.set_cons_succ]
                refine take_at 13 72 undef (fuel := 6) rfl rfl (by kernel_rfl) (by kernel_rfl) (by kernel_rfl) (Or.inr ⟨by rfl, rfl⟩) hSw ?_
                simp only [List.setIfInBounds_toArray, List.set_cons_zero, List.set_cons_succ]
                refine take_at 14 73 undef (fuel := 5) rfl rfl (by kernel_rfl) (by kernel_rfl) (by kernel_rfl) (Or.inr ⟨by rfl, rfl⟩) hSw ?_
                simp only [List.setIfInBounds_toArray, List.set_cons_zero, List.set_cons_succ]
                refine take_at 15 74 undef (fuel := 4) rfl rfl (by kernel_rfl) (by kernel_rfl) (by kernel_rfl) (Or.inr ⟨by rfl, rfl⟩) hSw ?_
                simp only [List.setIfInBounds_toArray, List.set_cons_zero, List.set_cons_succ]
                refine take_at 16 75 undef (fuel := 3) rfl rfl (by kernel_rfl) (by kernel_rfl) (by kernel_rfl) (Or.inr ⟨by rfl, rfl⟩) hSw ?_
                simp only [List.setIfInBounds_toArray, List.set_cons_zero, List.set_cons_succ]
                refine take_at 17 76 undef (fuel := 2) rfl rfl (by kernel_rfl) (by kernel_rfl) (by kernel_rfl) (Or.inr ⟨by rfl, rfl⟩) hSw ?_
                simp only [List.setIfInBounds_toArray, List.set_cons_zero, List.set_cons_succ]
                refine take_at 18 77 (fuel := 1) ?_ rfl rfl (by kernel_rfl) (by kernel_rfl) (by kernel_rfl) (Or.inl ⟨by rfl, ?_⟩) hSw ?_
                rotate_left
                · intro wx hSx
                  (try dsimp only at hSx)
                  go_split_ands
                  go_simp
                  (try with_reducible rfl)
                simp only [List.setIfInBounds_toArray, List.set_cons_zero, List.set_cons_succ]
                refine take_at 19 78 (fuel := 0) ?_ rfl rfl (by kernel_rfl) (by kernel_rfl) (by kernel_rfl) (Or.inl ⟨by rfl, ?_⟩) hSw ?_
                rotate_left
                · intro wx hSx
                  (try dsimp only at hSx)
                  go_split_ands
                  go_simp
                  (try with_reducible rfl)
                simp only [List.setIfInBounds_toArray, List.set_cons_zero, List.set_cons_succ]
                refine wpAnyH_done (by kernel_rfl) ⟨rfl, ?_⟩ 0
                have hSt2 : St w0 wv b q c2 y [] := (hSt.below (Below.drew (Below.refl _ w9))).below hb2
                have hN2 := hel _ hSt2.bel
                have y2 : wv.cell? ⟨p0, 0, none⟩ = some (.bool false) := Blk.cell (Blk.below (show Blk w9.drew p0 PT (c2.told false) from r0) hb2 hlt0) 0
                clear hSt y0 hN hSw hb2 mk r0 x0 x1 x2 x3 x4 x5 hlt0 hltq
                go_wp2_with fail
                go_roundw
                case rel => exact ⟨j + 1, m, by omega, rfl, rfl, by omega, ⟨c2, HF2.out, HM2.out, hSt2⟩⟩
                case measure => simp [intOf]; omega
              simp only [setL, List.setIfInBounds_toArray, List.set_cons_zero, List.set_cons_succ] at F1_1
              refine keep (fun ops Q S a => ∀ (w : World), St w0 w b q c2 y [] → wpAnyH Try.prog .any ops Q S 2 #[true, true, true, true, true, true, true, false, false] ⟨setL a.tmps [(58, .agg (c2.told false))], a.defers⟩ w) ?_ (fun F1_0 => ?_)
              · intro  w hS
                simp only [setL, List.setIfInBounds_toArray, List.set_cons_zero, List.set_cons_succ]
                refine wpAnyH_ready (fuel := 1) (rs := [7]) (by kernel_rfl) (by simp) (AllReadyH.cons rfl (fun K hK => ?_) AllReadyH.nil)
                · go_simp
                  have hS2 := St.at_ [] [] hS
                  refine hK.out _ _ ⟨hS2.box.cell 0, hS2.box.cell 1, hS2.box.cell 2, hS2.box.cell 3, hS2.box.cell 4, hS2.box.cell 5, hel _ hS2.bel⟩ (fun hSw => ?_)
                  clear hK K hSw
                  simp only [List.setIfInBounds_toArray, List.set_cons_zero, List.set_cons_succ]
                  exact F1_1  w.heap.size  _ hS2
              simp only [setL, List.setIfInBounds_toArray, List.set_cons_zero, List.set_cons_succ] at F1_0
              refine keep (fun ops Q S a => ∀ (p0 : Nat) (w : World), St w0 w b q c y [p0] → wpAnyH Try.prog .any ops Q S 2 #[true, true, true, true, true, true, false, true, false] ⟨setL a.tmps [(10, .pointer (some ⟨p0, 0, none⟩))], a.defers⟩ w) ?_ (fun F0_1 => ?_)
              · intro p0 w hS
                simp only [setL, List.setIfInBounds_toArray, List.set_cons_zero, List.set_cons_succ]
                refine wpAnyH_ready (fuel := 1) (rs := [6]) (by kernel_rfl) (by simp) (AllReadyH.cons rfl (fun K hK => ?_) AllReadyH.nil)
                · go_simp
                  refine Calls.mono (hpr w hS) ?_
                  rintro e wv ⟨rfl, hc, hk⟩
                  have hS2 := hS.kp hc hk
                  refine hK.out _ _ ⟨hS2.box.cell 0, hS2.box.cell 1, hS2.box.cell 2, hS2.box.cell 3, hS2.box.cell 4, hS2.box.cell 5, hel _ hS2.bel⟩ (fun hSw => ?_)
                  clear hK K hSw
                  simp only [List.setIfInBounds_toArray, List.set_cons_zero, List.set_cons_succ]
                  exact F1_1 p0 _ hS2
              simp only [setL, List.setIfInBounds_toArray, List.set_cons_zero, List.set_cons_succ] at F0_1
              refine keep (fun ops Q S a => ∀ (w : World), St w0 w b q c y [] → wpAnyH Try.prog .any ops Q S 3 #[true, true, true, true, true, true, false, false, false] ⟨setL a.tmps [], a.defers⟩ w) ?_ (fun F0_0 => ?_)
              · intro  w hS
                simp only [setL]
                refine wpAnyH_ready (fuel := 2) (rs := [6, 7]) (by kernel_rfl) (by simp) (AllReadyH.cons rfl (fun K hK => ?_) (AllReadyH.cons rfl (fun K hK => ?_) AllReadyH.nil))
                · go_simp
                  refine Calls.mono (hpr w hS) ?_
                  rintro e wv ⟨rfl, hc, hk⟩
                  have hS2 := hS.kp hc hk
                  refine hK.out _ _ ⟨hS2.box.cell 0, hS2.box.cell 1, hS2.box.cell 2, hS2.box.cell 3, hS2.box.cell 4, hS2.box.cell 5, hel _ hS2.bel⟩ (fun hSw => ?_)
                  clear hK K hSw
                  simp only [List.setIfInBounds_toArray, List.set_cons_zero, List.set_cons_succ]
                  exact F1_0  _ hS2
                · go_simp
                  have hS2 := St.at_ [] [] hS
                  refine hK.out _ _ ⟨hS2.box.cell 0, hS2.box.cell 1, hS2.box.cell 2, hS2.box.cell 3, hS2.box.cell 4, hS2.box.cell 5, hel _ hS2.bel⟩ (fun hSw => ?_)
                  clear hK K hSw
                  simp only [List.setIfInBounds_toArray, List.set_cons_zero, List.set_cons_succ]
                  exact F0_1  w.heap.size  _ hS2
              simp only [setL] at F0_0
              exact F0_0 _ hSd
          · have hnc := hmy
            obtain ⟨e1, e2⟩ := acc_no (n := n) HCF.out HY2.out HCM.out (fun h => hmy h.1)
            obtain ⟨c2, hc2⟩ : ∃ c2, c2 = c.acc y n := ⟨_, rfl⟩
            have HF2 : Hid (c2.ch = firstV) := Lib.hid (by rw [hc2, e2]; exact HCF.out)
            have HM2 : Hid (c2.most = m) := Lib.hid (by rw [hc2, e2]; exact HCM.out)
            have hpr : ∀ {l : List Nat} (w : World), St w0 w b q c y l → Calls Try.prog 11 #[cp b, .agg y.cs, .int .u64 (n : Int)] w fun e w' => e = .returned (.agg (c2.told false)) ∧ Blk w' b CT c2.cs ∧ Kp (fun k => k = b) w w' := fun w h => by
              have h1 := acc_c (x := y) n h.cell (by rw [HCF.out]; exact first_ne)
              rw [e1, ← hc2] at h1
              exact h1
            clear e1 e2 hc2
            have dm : decide (May y) = false := decide_eq_false hmy
            have x0 : wr.cell? ⟨q, 0, none⟩ = some (.int .u64 (y.v : Int)) := hSt.box.cell 0
            have x1 : wr.cell? ⟨q, 1, none⟩ = some (.int .i64 y.pr) := hSt.box.cell 1
            have x2 : wr.cell? ⟨q, 2, none⟩ = some (.int .u64 (y.pl : Int)) := hSt.box.cell 2
            have x3 : wr.cell? ⟨q, 3, none⟩ = some (.int .i64 y.ba) := hSt.box.cell 3
            have x4 : wr.cell? ⟨q, 4, none⟩ = some (.int .u64 (y.bl : Int)) := hSt.box.cell 4
            have x5 : wr.cell? ⟨q, 5, none⟩ = some (.int .u64 (y.ep : Int)) := hSt.box.cell 5
            go_upto_region 13 with (fail)
            have hSd : St w0 wr.drew b q c y [] := hSt.below (Below.drew (Below.refl _ wr))
            clear hSt x0 x1 x2 x3 x4 x5
            refine region_only 9 #[false, false, false, false, false, false, false, false, false] (S := (fun W => W.cell? ⟨q, 0, none⟩ = some (.int .u64 (y.v : Int)) ∧ W.cell? ⟨q, 1, none⟩ = some (.int .i64 y.pr) ∧ W.cell? ⟨q, 2, none⟩ = some (.int .u64 (y.pl : Int)) ∧ W.cell? ⟨q, 3, none⟩ = some (.int .i64 y.ba) ∧ W.cell? ⟨q, 4, none⟩ = some (.int .u64 (y.bl : Int)) ∧ W.cell? ⟨q, 5, none⟩ = some (.int .u64 (y.ep : Int)) ∧ W.cell? ⟨sb, off + j, none⟩ = some (.int .u64 (n : Int)))) rfl rfl (by kernel_rfl) ⟨hSd.box.cell 0, hSd.box.cell 1, hSd.box.cell 2, hSd.box.cell 3, hSd.box.cell 4, hSd.box.cell 5, hel _ hSd.bel⟩ (fun hSw => ?_)
            refine take_at 0 52 (fuel := 8) ?_ rfl rfl (by kernel_rfl) (by kernel_rfl) (by kernel_rfl) (Or.inl ⟨by rfl, ?_⟩) hSw ?_
            rotate_left
            · intro wx hSx
              (try dsimp only at hSx)
              go_split_ands
              go_simp
              (try with_reducible rfl)
            simp only [List.setIfInBounds_toArray, List.set_cons_zero, List.set_cons_succ]
            refine take_at 1 53 (fuel := 7) ?_ rfl rfl (by kernel_rfl) (by kernel_rfl) (by kernel_rfl) (Or.inl ⟨by rfl, ?_⟩) hSw ?_
            rotate_left
            · intro wx hSx
              (try dsimp only at hSx)
              go_split_ands
              go_simp
              (try with_reducible rfl)
            simp only [List.setIfInBounds_toArray, List.set_cons_zero, List.set_cons_succ]
            refine take_at 2 54 (fuel := 6) ?_ rfl rfl (by kernel_rfl) (by kernel_rfl) (by kernel_rfl) (Or.inl ⟨by rfl, ?_⟩) hSw ?_
            rotate_left
            · intro wx hSx
              (try dsimp only at hSx)
              go_split_ands
              go_simp
              (try with_reducible rfl)
            simp only [List.setIfInBounds_toArray, List.set_cons_zero, List.set_cons_succ]
            refine take_at 3 55 (fuel := 5) ?_ rfl rfl (by kernel_rfl) (by kernel_rfl) (by kernel_rfl) (Or.inl ⟨by rfl, ?_⟩) hSw ?_
            rotate_left
            · intro wx hSx
              (try dsimp only at hSx)
              go_split_ands
              go_simp
              (try with_reducible rfl)
            simp only [List.setIfInBounds_toArray, List.set_cons_zero, List.set_cons_succ]
            refine take_at 4 56 (fuel := 4) ?_ rfl rfl (by kernel_rfl) (by kernel_rfl) (by kernel_rfl) (Or.inl ⟨by rfl, ?_⟩) hSw ?_
            rotate_left
            · intro wx hSx
              (try dsimp only at hSx)
              go_split_ands
              go_simp
              (try with_reducible rfl)
            simp only [List.setIfInBounds_toArray, List.set_cons_zero, List.set_cons_succ]
            refine take_at 5 57 (fuel := 3) ?_ rfl rfl (by kernel_rfl) (by kernel_rfl) (by kernel_rfl) (Or.inl ⟨by rfl, ?_⟩) hSw ?_
            rotate_left
            · intro wx hSx
              (try dsimp only at hSx)
              go_split_ands
              go_simp
              (try with_reducible rfl)
            simp only [List.setIfInBounds_toArray, List.set_cons_zero, List.set_cons_succ]
            refine keep (fun ops Q S a => ∀ (p0 : Nat) (w : World), St w0 w b q c2 y [p0] → wpAnyH Try.prog .any ops Q S 1 #[true, true, true, true, true, true, true, true, false] ⟨setL a.tmps [(58, .agg (c2.told false)), (10, .pointer (some ⟨p0, 0, none⟩))], a.defers⟩ w) ?_ (fun F1_1 => ?_)
            · intro p0 w hS
              simp only [setL, List.setIfInBounds_toArray, List.set_cons_zero, List.set_cons_succ]
              refine wpAnyH_ready (fuel := 0) (rs := [8]) (by kernel_rfl) (by simp) (AllReadyH.cons rfl (fun K hK => ?_) AllReadyH.nil)
              have h0 := hS.ps p0 (by simp)
              refine wp_store PT (.tmp 10) (.tmp 58) ⟨p0, 0, none⟩ (.agg (c2.told false)) rfl rfl rfl rfl (store_row info_PT h0.2.2.2 rfl (all_one (Ce.told_one _ _))) ?_
              have r0 : Blk (w.setRow p0 (c2.told false)) p0 PT (c2.told false) := setRow_heap w p0 _ _ _ (0, 0) h0.2.2.2
              have hSt : St w0 (w.setRow p0 (c2.told false)) b q c2 y [] := ⟨(setRow_other _ p0 b _ (Ne.symm h0.2.1)).trans hS.cell, (setRow_other _ p0 q _ (Ne.symm h0.2.2.1)).trans hS.box, row_below hS.bel h0.1 _, hS.lo, fun p hp => (by cases hp), List.nodup_nil⟩
              refine hK.out _ _ ⟨hSt.box.cell 0, hSt.box.cell 1, hSt.box.cell 2, hSt.box.cell 3, hSt.box.cell 4, hSt.box.cell 5, hel _ hSt.bel⟩ (fun hSw => ?_)
              clear hK K hSw
              refine wpAnyH_done (by kernel_rfl) ⟨rfl, ?_⟩ 0
              clear h0 hS
              generalize w.setRow p0 (c2.told false) = w9 at *
              have hN := hel _ hSt.bel
              have y0 : w9.cell? ⟨p0, 0, none⟩ = some (.bool false) := r0.cell 0
              have x0 : w9.cell? ⟨q, 0, none⟩ = some (.int .u64 (y.v : Int)) := hSt.box.cell 0
              have x1 : w9.cell? ⟨q, 1, none⟩ = some (.int .i64 y.pr) := hSt.box.cell 1
              have x2 : w9.cell? ⟨q, 2, none⟩ = some (.int .u64 (y.pl : Int)) := hSt.box.cell 2
              have x3 : w9.cell? ⟨q, 3, none⟩ = some (.int .i64 y.ba) := hSt.box.cell 3
              have x4 : w9.cell? ⟨q, 4, none⟩ = some (.int .u64 (y.bl : Int)) := hSt.box.cell 4
              have x5 : w9.cell? ⟨q, 5, none⟩ = some (.int .u64 (y.ep : Int)) := hSt.box.cell 5
              have hlt0 := r0.lt
              have hltq := hSt.box.lt
              have mk : ∀ W, Below w9.heap.size w9.drew W → W.cell? ⟨q, 0, none⟩ = some (.int .u64 (y.v : Int)) ∧ W.cell? ⟨q, 1, none⟩ = some (.int .i64 y.pr) ∧ W.cell? ⟨q, 2, none⟩ = some (.int .u64 (y.pl : Int)) ∧ W.cell? ⟨q, 3, none⟩ = some (.int .i64 y.ba) ∧ W.cell? ⟨q, 4, none⟩ = some (.int .u64 (y.bl : Int)) ∧ W.cell? ⟨q, 5, none⟩ = some (.int .u64 (y.ep : Int)) ∧ W.cell? ⟨p0, 0, none⟩ = some (.bool false) ∧ W.cell? ⟨sb, off + j, none⟩ = some (.int .u64 (n : Int)) := fun W hb => by
                have hX0 : Blk w9.drew q VT y.cs := hSt.box
                have hP0 : Blk w9.drew p0 PT (c2.told false) := r0
                have hx := hX0.below hb hltq
                have hz := hP0.below hb hlt0
                have hbl : Below w0.heap.size w0 W := hSt.bel.drew.trans (hb.mono hSt.bel.drew.size)
                exact ⟨(hx.cell 0), (hx.cell 1), (hx.cell 2), (hx.cell 3), (hx.cell 4), (hx.cell 5), hz.cell 0, hel _ hbl⟩
              clear hpr
              go_upto_region 14 with (fail)
              refine region_only 20 #[false, false, false, false, false, false, false, false, false, false, false, false, false, false, false, false, false, false, false, false] (S := (fun W => W.cell? ⟨q, 0, none⟩ = some (.int .u64 (y.v : Int)) ∧ W.cell? ⟨q, 1, none⟩ = some (.int .i64 y.pr) ∧ W.cell? ⟨q, 2, none⟩ = some (.int .u64 (y.pl : Int)) ∧ W.cell? ⟨q, 3, none⟩ = some (.int .i64 y.ba) ∧ W.cell? ⟨q, 4, none⟩ = some (.int .u64 (y.bl : Int)) ∧ W.cell? ⟨q, 5, none⟩ = some (.int .u64 (y.ep : Int)) ∧ W.cell? ⟨p0, 0, none⟩ = some (.bool false) ∧ W.cell? ⟨sb, off + j, none⟩ = some (.int .u64 (n : Int)))) rfl rfl (by kernel_rfl) ⟨x0, x1, x2, x3, x4, x5, y0, hN⟩ (fun hSw => ?_)
              refine take_at 0 59 (fuel := 19) ?_ rfl rfl (by kernel_rfl) (by kernel_rfl) (by kernel_rfl) (Or.inl ⟨by rfl, ?_⟩) hSw ?_
              rotate_left
              · intro wx hSx
                (try dsimp only at hSx)
                go_split_ands
                go_simp
                (try with_reducible rfl)
              simp only [List.setIfInBounds_toArray, List.set_cons_zero, List.set_cons_succ]
              refine take_at 1 60 (fuel := 18) ?_ rfl rfl (by kernel_rfl) (by kernel_rfl) (by kernel_rfl) (Or.inl ⟨by rfl, ?_⟩) hSw ?_
              rotate_left
              · intro wx hSx
                (try dsimp only at hSx)
                go_split_ands
                go_simp
                (try with_reducible rfl)
              simp only [List.setIfInBounds_toArray, List.set_cons_zero, List.set_cons_succ]
              refine take_at 2 61 (fuel := 17) ?_ rfl rfl (by kernel_rfl) (by kernel_rfl) (by kernel_rfl) (Or.inl ⟨by rfl, ?_⟩) hSw ?_
              rotate_left
              · intro wx hSx
                (try dsimp only at hSx)
                go_split_ands
                go_simp
                (try with_reducible rfl)
              simp only [List.setIfInBounds_toArray, List.set_cons_zero, List.set_cons_succ]
              refine wpAnyH_ready (fuel := 16) (rs := [3]) (by kernel_rfl) (by simp) (AllReadyH.cons rfl (fun K hK => ?_) AllReadyH.nil)
              go_simp
              refine Calls.mono (check_c y _) ?_
              rintro e wv ⟨rfl, hb2⟩
              rw [dm]
              refine hK.out _ _ (mk _ hb2) (fun hSw => ?_)
              clear hK K
              simp only [List.setIfInBounds_toArray, List.set_cons_zero, List.set_cons_succ]
              refine take_at 4 63 (fuel := 15) ?_ rfl rfl (by kernel_rfl) (by kernel_rfl) (by kernel_rfl) (Or.inl ⟨by rfl, ?_⟩) hSw ?_
              rotate_left
              · intro wx hSx
                (try dsimp only at hSx)
                go_split_ands
                go_simp
                (try with_reducible rfl)
              simp only [List.setIfInBounds_toArray, List.set_cons_zero, List.set_cons_succ]
              refine take_at 5 64 undef (fuel := 14) rfl rfl (by kernel_rfl) (by kernel_rfl) (by kernel_rfl) (Or.inr ⟨by rfl, rfl⟩) hSw ?_
              simp only [List.setIfInBounds_toArray, List.set_cons_zero, List.set_cons_succ]
              refine take_at 6 65 undef (fuel := 13) rfl rfl (by kernel_rfl) (by kernel_rfl) (by kernel_rfl) (Or.inr ⟨by rfl, rfl⟩) hSw ?_
              simp only [List.setIfInBounds_toArray, List.set_cons_zero, List.set_cons_succ]
              refine take_at 7 66 undef (fuel := 12) rfl rfl (by kernel_rfl) (by kernel_rfl) (by kernel_rfl) (Or.inr ⟨by rfl, rfl⟩) hSw ?_
              simp only [List.setIfInBounds_toArray, List.set_cons_zero, List.set_cons_succ]
              refine take_at 8 67 undef (fuel := 11) rfl rfl (by kernel_rfl) (by kernel_rfl) (by kernel_rfl) (Or.inr ⟨by rfl, rfl⟩) hSw ?_
              simp only [List.setIfInBounds_toArray, List.set_cons_zero, List.set_cons_succ]
              refine take_at 9 68 undef (fuel := 10) rfl rfl (by kernel_rfl) (by kernel_rfl) (by kernel_rfl) (Or.inr ⟨by rfl, rfl⟩) hSw ?_
              simp only [List.setIfInBounds_toArray, List.set_cons_zero, List.set_cons_succ]
              refine take_at 10 69 undef (fuel := 9) rfl rfl (by kernel_rfl) (by kernel_rfl) (by kernel_rfl) (Or.inr ⟨by rfl, rfl⟩) hSw ?_
              simp only [List.setIfInBounds_toArray, List.set_cons_zero, List.set_cons_succ]
              refine take_at 11 70 (fuel := 8) ?_ rfl rfl (by kernel_rfl) (by kernel_rfl) (by kernel_rfl) (Or.inl ⟨by rfl, ?_⟩) hSw ?_
              rotate_left
              · intro wx hSx
                (try dsimp only at hSx)
                go_split_ands
                go_simp
                (try with_reducible rfl)
              simp only [List.setIfInBounds_toArray, List.set_cons_zero, List.set_cons_succ]
              refine take_at 12 71 (fuel := 7) ?_ rfl rfl (by kernel_rfl) (by kernel_rfl) (by kernel_rfl) (Or.inl ⟨by rfl, ?_⟩) hSw ?_
              rotate_left
              · intro wx hSx
                (try dsimp only at hSx)
                go_split_ands
                go_simp
                (try with_reducible rfl)
              simp only [List.setIfInBounds_toArray, List.set_cons_zero, List.set_cons_succ]
              refine take_at 13 72 undef (fuel := 6) rfl rfl (by kernel_rfl) (by kernel_rfl) (by kernel_rfl) (Or.inr ⟨by rfl, rfl⟩) hSw ?_
              simp only [List.setIfInBounds_toArray, List.set_cons_zero, List.set_cons_succ]
              refine take_at 14 73 undef (fuel := 5) rfl rfl (by kernel_rfl) (by kernel_rfl) (by kernel_rfl) (Or.inr ⟨by rfl, rfl⟩) hSw ?_
              simp only [List.setIfInBounds_toArray, List.set_cons_zero, List.set_cons_succ]
              refine take_at 15 74 undef (fuel := 4) rfl rfl (by kernel_rfl) (by kernel_rfl) (by kernel_rfl) (Or.inr ⟨by rfl, rfl⟩) hSw ?_
              simp only [List.setIfInBounds_toArray, List.set_cons_zero, List.set_cons_succ]
              refine take_at 16 75 undef (fuel := 3) rfl rfl (by kernel_rfl) (by kernel_rfl) (by kernel_rfl) (Or.inr ⟨by rfl, rfl⟩) hSw ?_
              simp only [List.setIfInBounds_toArray, List.set_cons_zero, List.set_cons_succ]
              refine take_at 17 76 undef (fuel := 2) rfl rfl (by kernel_rfl) (by kernel_rfl) (by kernel_rfl) (Or.inr ⟨by rfl, rfl⟩) hSw ?_
              simp only [List.setIfInBounds_toArray, List.set_cons_zero, List.set_cons_succ]
              refine take_at 18 77 (fuel := 1) ?_ rfl rfl (by kernel_rfl) (by kernel_rfl) (by kernel_rfl) (Or.inl ⟨by rfl, ?_⟩) hSw ?_
              rotate_left
              · intro wx hSx
                (try dsimp only at hSx)
                go_split_ands
                go_simp
                (try with_reducible rfl)
              simp only [List.setIfInBounds_toArray, List.set_cons_zero, List.set_cons_succ]
              refine take_at 19 78 (fuel := 0) ?_ rfl rfl (by kernel_rfl) (by kernel_rfl) (by kernel_rfl) (Or.inl ⟨by rfl, ?_⟩) hSw ?_
              rotate_left
              · intro wx hSx
                (try dsimp only at hSx)
                go_split_ands
                go_simp
                (try with_reducible rfl)
              simp only [List.setIfInBounds_toArray, List.set_cons_zero, List.set_cons_succ]
              refine wpAnyH_done (by kernel_rfl) ⟨rfl, ?_⟩ 0
              have hSt2 : St w0 wv b q c2 y [] := (hSt.below (Below.drew (Below.refl _ w9))).below hb2
              have hN2 := hel _ hSt2.bel
              have y2 : wv.cell? ⟨p0, 0, none⟩ = some (.bool false) := Blk.cell (Blk.below (show Blk w9.drew p0 PT (c2.told false) from r0) hb2 hlt0) 0
              clear hSt y0 hN hSw hb2 mk r0 x0 x1 x2 x3 x4 x5 hlt0 hltq
              go_wp2_with fail
              go_roundw
              case rel => exact ⟨j + 1, m, by omega, rfl, rfl, by omega, ⟨c2, HF2.out, HM2.out, hSt2⟩⟩
              case measure => simp [intOf]; omega
            simp only [setL, List.setIfInBounds_toArray, List.set_cons_zero, List.set_cons_succ] at F1_1
            refine keep (fun ops Q S a => ∀ (w : World), St w0 w b q c2 y [] → wpAnyH Try.prog .any ops Q S 2 #[true, true, true, true, true, true, true, false, false] ⟨setL a.tmps [(58, .agg (c2.told false))], a.defers⟩ w) ?_ (fun F1_0 => ?_)
            · intro  w hS
              simp only [setL, List.setIfInBounds_toArray, List.set_cons_zero, List.set_cons_succ]
              refine wpAnyH_ready (fuel := 1) (rs := [7]) (by kernel_rfl) (by simp) (AllReadyH.cons rfl (fun K hK => ?_) AllReadyH.nil)
              · go_simp
                have hS2 := St.at_ [] [] hS
                refine hK.out _ _ ⟨hS2.box.cell 0, hS2.box.cell 1, hS2.box.cell 2, hS2.box.cell 3, hS2.box.cell 4, hS2.box.cell 5, hel _ hS2.bel⟩ (fun hSw => ?_)
                clear hK K hSw
                simp only [List.setIfInBounds_toArray, List.set_cons_zero, List.set_cons_succ]
                exact F1_1  w.heap.size  _ hS2
            simp only [setL, List.setIfInBounds_toArray, List.set_cons_zero, List.set_cons_succ] at F1_0
            refine keep (fun ops Q S a => ∀ (p0 : Nat) (w : World), St w0 w b q c y [p0] → wpAnyH Try.prog .any ops Q S 2 #[true, true, true, true, true, true, false, true, false] ⟨setL a.tmps [(10, .pointer (some ⟨p0, 0, none⟩))], a.defers⟩ w) ?_ (fun F0_1 => ?_)
            · intro p0 w hS
              simp only [setL, List.setIfInBounds_toArray, List.set_cons_zero, List.set_cons_succ]
              refine wpAnyH_ready (fuel := 1) (rs := [6]) (by kernel_rfl) (by simp) (AllReadyH.cons rfl (fun K hK => ?_) AllReadyH.nil)
              · go_simp
                refine Calls.mono (hpr w hS) ?_
                rintro e wv ⟨rfl, hc, hk⟩
                have hS2 := hS.kp hc hk
                refine hK.out _ _ ⟨hS2.box.cell 0, hS2.box.cell 1, hS2.box.cell 2, hS2.box.cell 3, hS2.box.cell 4, hS2.box.cell 5, hel _ hS2.bel⟩ (fun hSw => ?_)
                clear hK K hSw
                simp only [List.setIfInBounds_toArray, List.set_cons_zero, List.set_cons_succ]
                exact F1_1 p0 _ hS2
            simp only [setL, List.setIfInBounds_toArray, List.set_cons_zero, List.set_cons_succ] at F0_1
            refine keep (fun ops Q S a => ∀ (w : World), St w0 w b q c y [] → wpAnyH Try.prog .any ops Q S 3 #[true, true, true, true, true, true, false, false, false] ⟨setL a.tmps [], a.defers⟩ w) ?_ (fun F0_0 => ?_)
            · intro  w hS
              simp only [setL]
              refine wpAnyH_ready (fuel := 2) (rs := [6, 7]) (by kernel_rfl) (by simp) (AllReadyH.cons rfl (fun K hK => ?_) (AllReadyH.cons rfl (fun K hK => ?_) AllReadyH.nil))
              · go_simp
                refine Calls.mono (hpr w hS) ?_
                rintro e wv ⟨rfl, hc, hk⟩
                have hS2 := hS.kp hc hk
                refine hK.out _ _ ⟨hS2.box.cell 0, hS2.box.cell 1, hS2.box.cell 2, hS2.box.cell 3, hS2.box.cell 4, hS2.box.cell 5, hel _ hS2.bel⟩ (fun hSw => ?_)
                clear hK K hSw
                simp only [List.setIfInBounds_toArray, List.set_cons_zero, List.set_cons_succ]
                exact F1_0  _ hS2
              · go_simp
                have hS2 := St.at_ [] [] hS
                refine hK.out _ _ ⟨hS2.box.cell 0, hS2.box.cell 1, hS2.box.cell 2, hS2.box.cell 3, hS2.box.cell 4, hS2.box.cell 5, hel _ hS2.bel⟩ (fun hSw => ?_)
                clear hK K hSw
                simp only [List.setIfInBounds_toArray, List.set_cons_zero, List.set_cons_succ]
                exact F0_1  w.heap.size  _ hS2
            simp only [setL] at F0_0
            exact F0_0 _ hSd
      · have h31 : decide ((j : Int) < 30) = false := decide_eq_false (by omega)
        have h32 : decide (j < 30) = false := decide_eq_false h30
        have hb := hSt.bel
        clear hSt
        go_wp2_with fail
        go_ret
        exact ⟨rfl, hb⟩
    · obtain rfl : j = len := by omega
      have hlt1 : decide ((j : Int) < (j : Int)) = false := decide_eq_false (by omega)
      have hb := hSt.bel
      clear hSt
      go_wp2_with fail
      go_ret
      exact ⟨rfl, hb⟩
set_option linter.unusedVariables false in
set_option maxRecDepth 100000 in
theorem cellBallots_lifted (os : Os) (started : os.Started) (H : Type) (enc : TypeId × Value → H) :
    ReturnsInHanded {} Try.checked os 3 .any (Rows.cellBallotsSpec.pre6 enc Try.prog Try.f3 Rows.cellBallotsRow.domain false) (Rows.cellBallotsSpec.post enc Try.prog Try.f3 false true false false) := by
  refine returnsInHanded_of_change (C := Try.checked) Kit.own started (by kernel_rfl) Try.func3
    (ChangeSpec.witness6 (enc := enc) (C := Try.checked) false ⟨#[], #[.slice none 0 0, .agg #[.int .u64 0, .int .i64 0, .int .u64 0, .int .i64 0, .int .u64 0, .int .u64 0]], []⟩ 8 (by kernel_rfl) (by kernel_rfl) (by kernel_rfl) (by kernel_rfl)) ?_
  intro W base args ds gs before hval0 hW hcnd _
  have hval : ∀ (j : Nat) t v, Try.f3.params[j]? = some t → args[j]? = some v → Value.okWide Try.prog W .any base t v := hval0
  have hW' := hW
  obtain ⟨p, q, hA0, hV, rfl, hfz, hnd⟩ := hW
  have hA : DataW.TrodAll enc Try.prog W 0 (fun _ => true) true Try.f3.params.toList args.toList ds p := hA0
  rw [Try.params3] at hA hval
  obtain ⟨v0, vs0, d0, ds0, p0, q0, hargs, rfl, rfl, h0, r0⟩ := trodAll_cons hA
  obtain ⟨v1, vs1, d1, ds1, p1, q1, rfl, rfl, rfl, h1, r1⟩ := trodAll_cons r0
  obtain ⟨rfl, rfl, rfl⟩ := trodAll_nil r1
  obtain ⟨rfl, rfl⟩ := trodVars_none hV
  obtain rfl : args = #[v0, v1] := by cases args; simp_all
  obtain ⟨b0, c0, e0, rfl⟩ := okWide_slice Try.underlying22 (hval 0 22 v0 rfl rfl)
  obtain ⟨fuel0, hf0⟩ := h0
  obtain ⟨ao0, len0, cap0, sb0, off0, X0, hv0, hI0⟩ := open_nums (show DataW.trod enc Try.prog W 0 (fun _ => true) true fuel0 22 [.slice b0 c0 e0] = some _ from hf0)
  injection hv0 with hv0x hv0y hv0z
  subst hv0x hv0y hv0z
  obtain ⟨cs1, rfl, -⟩ := okWide_struct Try.underlying25 (hval 1 25 v1 rfl rfl)
  obtain ⟨fuel1, hf1⟩ := h1
  obtain ⟨x1, e1, b1⟩ := open_vw hf1
  obtain rfl : cs1 = x1.cs := by cases cs1; simpa [Value.cells] using e1
  clear hA0 hval0
  refine (cellBallots_walk _ _ _ _ _ _ x1 b1 W hI0).mono fun e W' ⟨he, hg⟩ => ?_
  subst he
  exact ⟨_, rfl, Kit.law_post hW' rfl (by kernel_rfl) rfl (by kernel_rfl) hg⟩

theorem cellBallots_over : Rows.cellBallotsRow.holds Try.pinned (OpenSpec.ofChange Rows.cellBallotsSpec) :=
  OpenClaim.holds_of_wide 3 Try.f3 rfl rfl rfl rfl rfl rfl rfl ⟨rfl, rfl, rfl, rfl, rfl⟩ rfl rfl rfl rfl rfl (by kernel_rfl) Try.func3 (by kernel_rfl)
    (of_decide_eq_true (by kernel_rfl)) (by unfold Func.isWrapper; first | (rw [if_pos (by decide +kernel)]; kernel_rfl) | (rw [if_neg (by decide +kernel)]; exact ⟨rfl, rfl⟩))
    (fun os started H enc _ => cellBallots_lifted os started H enc)

theorem cellBallots_holds : Rows.CellBallotsSaid :=
  cellBallots_over
end Go.Proofs.Ytigkocdjllfhnaa.Celly
