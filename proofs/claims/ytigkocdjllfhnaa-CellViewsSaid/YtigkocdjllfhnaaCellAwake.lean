/- Layer 16: what its laws begin with. No condition. -/
import Derived.Test.YtigkocdjllfhnaaCellNil
namespace Go.Proofs.Ytigkocdjllfhnaa.Celly
open Go.ChangeShapes Go.WideShapes Go.ChangeAt Go.RowKit
open Wirey (Blk Row Kp)
open Regy
/-- What lies in memory by then: a cell, a view, and promises that are not yet told. -/
structure St (w0 w : World) (b v : Nat) (c : Ce) (y : Vw) (l : List Nat) : Prop where
  cell : Blk w b CT c.cs
  box : Blk w v VT y.cs
  bel : Below w0.heap.size w0 w
  lo : w0.heap.size ≤ b ∧ w0.heap.size ≤ v ∧ b ≠ v
  ps : ∀ p ∈ l, w0.heap.size ≤ p ∧ p ≠ b ∧ p ≠ v ∧ Blk w p PT zP
  nd : l.Nodup
section
variable {w0 w w' : World} {b v : Nat} {c c' : Ce} {y : Vw} {l : List Nat}
theorem St.kp (h : St w0 w b v c y l) (hc : Blk w' b CT c'.cs) (hk : Kp (fun k => k = b) w w') : St w0 w' b v c' y l :=
  ⟨hc, hk.blk h.box (Ne.symm h.lo.2.2), Kp.low hk h.bel (fun k e => by rw [e]; exact h.lo.1), h.lo, fun p hp => ⟨(h.ps p hp).1, (h.ps p hp).2.1, (h.ps p hp).2.2.1, hk.blk (h.ps p hp).2.2.2 (h.ps p hp).2.1⟩, h.nd⟩
theorem St.below (h : St w0 w b v c y l) (hb : Below w.heap.size w w') : St w0 w' b v c y l := h.kp (h.cell.below hb h.cell.lt) (Kp.of_below hb)
theorem St.at_ (l1 l2 : List Nat) (h : St w0 w b v c y (l1 ++ l2)) : St w0 (w.alloc (.cells zP PT)) b v c y (l1 ++ w.heap.size :: l2) := by
  have hb := (Below.refl _ w).alloc (Nat.le_refl _) (.cells zP PT)
  have hlt : ∀ p ∈ l1 ++ l2, p < w.heap.size := fun p hp => (h.ps p hp).2.2.2.lt
  have hcl := h.cell.lt
  have hvl := h.box.lt
  refine ⟨h.cell.alloc _, h.box.alloc _, h.bel.alloc h.bel.size _, h.lo, fun p hp => ?_, ?_⟩
  · by_cases e : p = w.heap.size
    · subst e
      exact ⟨h.bel.size, by omega, by omega, Blk.new w PT zP⟩
    · have hp2 : p ∈ l1 ++ l2 := by
        rcases List.mem_append.1 hp with h1 | h1
        · exact List.mem_append_left _ h1
        · rcases List.mem_cons.1 h1 with h2 | h2
          · exact absurd h2 e
          · exact List.mem_append_right _ h2
      exact ⟨(h.ps p hp2).1, (h.ps p hp2).2.1, (h.ps p hp2).2.2.1, (h.ps p hp2).2.2.2.alloc _⟩
  · have hn : w.heap.size ∉ l1 ++ l2 := fun hm => by have := hlt _ hm; omega
    rw [List.nodup_append] at *
    have h1 := List.nodup_append.1 h.nd
    refine ⟨h1.1, List.nodup_cons.2 ⟨fun hm => hn (List.mem_append_right _ hm), h1.2.1⟩, fun a ha d hd => ?_⟩
    rcases List.mem_cons.1 hd with e | e
    · rintro rfl
      exact hn (List.mem_append_left _ (e ▸ ha))
    · exact h1.2.2 a ha d e
end
def setL (T : Array Value) : List (Nat × Value) → Array Value
  | [] => T
  | (i, v) :: r => setL (T.setIfInBounds i v) r
theorem keep {P : Program} {md : Region.Mode} {ops : Array Oper} {Q : Exit → Act → World → Prop} {S : World → Prop} {n : Nat} {L : Array Bool} {a : Act} {w : World} (X : Array Oper → (Exit → Act → World → Prop) → (World → Prop) → Act → Prop) (h1 : X ops Q S a) (h2 : X ops Q S a → wpAnyH P md ops Q S n L a w) : wpAnyH P md ops Q S n L a w := h2 h1
def secondV : Vw := ⟨2, 1, 1, -1, 0, 1⟩
def ce1 : Ce := ⟨firstV, 5, 0, noV⟩
def ce2 : Ce := ⟨firstV, 5, 5, secondV⟩
def ce3 : Ce := ⟨firstV, 6, 5, secondV⟩
theorem may_second : May secondV := by unfold May Node secondV; decide
theorem first_ne : firstV ≠ noV := by intro h; exact absurd (congrArg Vw.v h) (by decide)
theorem learn_first (c : Ce) (h : c.ch = firstV) : c.learn firstV = c := by
  unfold Ce.learn Ce.learns
  rw [h, decide_eq_false (fun h => by have := h.2; exact absurd this (by decide))]
  rfl
theorem prep_new : (Ce.new firstV).preps firstV 5 = true ∧ (Ce.new firstV).prep firstV 5 = ce1 := by
  have h : (Ce.new firstV).preps firstV 5 = true := by
    unfold Ce.preps
    rw [learn_first _ rfl]
    exact decide_eq_true ⟨rfl, by decide⟩
  refine ⟨h, ?_⟩
  unfold Ce.prep
  rw [h, learn_first _ rfl]
  rfl
theorem wrap_two : IntKind.u64.wrap ((1 : Nat) + 1 : Int) = 2 := by rw [IntKind.wrap_u64]; omega
theorem acc_ce1 : ce1.accs secondV 5 = true ∧ ce1.acc secondV 5 = ce2 := by
  have h0 : ce1.nexts secondV = true := decide_eq_true ⟨may_second, wrap_two.symm⟩
  have h : ce1.accs secondV 5 = true := decide_eq_true ⟨h0, by decide, by decide⟩
  refine ⟨h, ?_⟩
  unfold Ce.acc
  rw [h]
  rfl
theorem prep_ce2 : ce2.preps firstV 6 = true ∧ ce2.prep firstV 6 = ce3 := by
  have h : ce2.preps firstV 6 = true := by
    unfold Ce.preps
    rw [learn_first _ rfl]
    exact decide_eq_true ⟨rfl, by decide⟩
  refine ⟨h, ?_⟩
  unfold Ce.prep
  rw [h, learn_first _ rfl]
  rfl
set_option maxHeartbeats 20000000 in
set_option maxRecDepth 100000 in
theorem awake_c (w0 : World) : Calls Try.prog 9 #[] w0 fun e w' => e = .returned (.bool true) ∧ Below w0.heap.size w0 w' := by
  have hmay : decide (May secondV) = true := decide_eq_true may_second
  go_enter Try.func9, Try.ntmps9
  go_wp2_with fail
  refine (first_c _).mono ?_
  rintro e w1 ⟨rfl, hb1⟩
  go_wp2_with fail
  refine (new_ok (x := firstV) may_first _).mono ?_
  rintro e w2 ⟨b, rfl, hbl, hc, hb2⟩
  have hb3 := hb1.trans (hb2.mono hb1.size)
  have hbl2 : w0.heap.size ≤ b := Nat.le_trans hb1.size hbl
  clear hb1 hb2 hbl
  go_upto_region 2 with (fail)
  have hlt := hc.lt
  have hV := Blk.new w2 VT #[.int .u64 2, .int .i64 1, .int .u64 1, .int .i64 (-1), .int .u64 0, .int .u64 1]
  have hc4 := hc.alloc (.cells #[.int .u64 2, .int .i64 1, .int .u64 1, .int .i64 (-1), .int .u64 0, .int .u64 1] VT)
  have hb4 := hb3.alloc hb3.size (.cells #[.int .u64 2, .int .i64 1, .int .u64 1, .int .i64 (-1), .int .u64 0, .int .u64 1] VT)
  have hv0 : w0.heap.size ≤ w2.heap.size := hb3.size
  have hbv : b ≠ w2.heap.size := by omega
  clear hc hb3 hlt
  go_upto_region 3 with (fail)
  generalize w2.alloc (.cells _ VT) = w3 at *
  generalize w2.heap.size = v at *
  have hS : St w0 w3 b v (Ce.new firstV) secondV [] := ⟨hc4, hV, hb4, ⟨hbl2, hv0, hbv⟩, fun p hp => (by cases hp), List.nodup_nil⟩
  have hSd : St w0 w3.drew b v (Ce.new firstV) secondV [] := hS.below (Below.drew (Below.refl _ w3))
  clear hc4 hV hb4 hbl2 hv0 hbv hS
  have hpr1 : ∀ {l : List Nat} (w : World), St w0 w b v (Ce.new firstV) secondV l → Calls Try.prog 10 #[cp b, .agg firstV.cs, .int .u64 5] w fun e w' => e = .returned (.agg (ce1.told true)) ∧ Blk w' b CT ce1.cs ∧ Kp (fun k => k = b) w w' := fun w h => by
    have h1 := prep_c (x := firstV) 5 h.cell first_ne
    rw [prep_new.1, prep_new.2] at h1
    exact h1
  have hpr2 : ∀ {l : List Nat} (w : World), St w0 w b v ce1 secondV l → Calls Try.prog 11 #[cp b, .agg #[.int .u64 2, .int .i64 1, .int .u64 1, .int .i64 (-1), .int .u64 0, .int .u64 1], .int .u64 5] w fun e w' => e = .returned (.agg (ce2.told true)) ∧ Blk w' b CT ce2.cs ∧ Kp (fun k => k = b) w w' := fun w h => by
    have h1 := acc_c (x := secondV) 5 h.cell first_ne
    rw [acc_ce1.1, acc_ce1.2] at h1
    exact h1
  have hpr3 : ∀ {l : List Nat} (w : World), St w0 w b v ce2 secondV l → Calls Try.prog 10 #[cp b, .agg firstV.cs, .int .u64 6] w fun e w' => e = .returned (.agg (ce3.told true)) ∧ Blk w' b CT ce3.cs ∧ Kp (fun k => k = b) w w' := fun w h => by
    have h1 := prep_c (x := firstV) 6 h.cell first_ne
    rw [prep_ce2.1, prep_ce2.2] at h1
    exact h1
  refine region_only 15 #[false, false, false, false, false, false, false, false, false, false, false, false, false, false, false] (S := (fun W => W.cell? ⟨v, 0, none⟩ = some (.int .u64 2) ∧ W.cell? ⟨v, 1, none⟩ = some (.int .i64 1) ∧ W.cell? ⟨v, 2, none⟩ = some (.int .u64 1) ∧ W.cell? ⟨v, 3, none⟩ = some (.int .i64 (-1)) ∧ W.cell? ⟨v, 4, none⟩ = some (.int .u64 0) ∧ W.cell? ⟨v, 5, none⟩ = some (.int .u64 1))) rfl rfl (by kernel_rfl) ⟨hSd.box.cell 0, hSd.box.cell 1, hSd.box.cell 2, hSd.box.cell 3, hSd.box.cell 4, hSd.box.cell 5⟩ (fun hSw => ?_)
  refine take_at 0 13 (fuel := 14) ?_ rfl rfl (by kernel_rfl) (by kernel_rfl) (by kernel_rfl) (Or.inl ⟨by rfl, ?_⟩) hSw ?_
  rotate_left
  · intro wx hSx
    (try dsimp only at hSx)
    go_split_ands
    go_simp
    (try with_reducible rfl)
  simp only [List.setIfInBounds_toArray, List.set_cons_zero, List.set_cons_succ]
  refine take_at 3 16 (fuel := 13) ?_ rfl rfl (by kernel_rfl) (by kernel_rfl) (by kernel_rfl) (Or.inl ⟨by rfl, ?_⟩) hSw ?_
  rotate_left
  · intro wx hSx
    (try dsimp only at hSx)
    go_split_ands
    go_simp
    (try with_reducible rfl)
  simp only [List.setIfInBounds_toArray, List.set_cons_zero, List.set_cons_succ]
  refine take_at 4 17 (fuel := 12) ?_ rfl rfl (by kernel_rfl) (by kernel_rfl) (by kernel_rfl) (Or.inl ⟨by rfl, ?_⟩) hSw ?_
  rotate_left
  · intro wx hSx
    (try dsimp only at hSx)
    go_split_ands
    go_simp
    (try with_reducible rfl)
  simp only [List.setIfInBounds_toArray, List.set_cons_zero, List.set_cons_succ]
  refine take_at 6 19 (fuel := 11) ?_ rfl rfl (by kernel_rfl) (by kernel_rfl) (by kernel_rfl) (Or.inl ⟨by rfl, ?_⟩) hSw ?_
  rotate_left
  · intro wx hSx
    (try dsimp only at hSx)
    go_split_ands
    go_simp
    (try with_reducible rfl)
  simp only [List.setIfInBounds_toArray, List.set_cons_zero, List.set_cons_succ]
  refine keep (fun ops Q S a => ∀ (p0 p1 p2 : Nat) (w : World), St w0 w b v ce3 secondV [p0, p1, p2] → wpAnyH Try.prog .any ops Q S 3 #[true, true, true, true, true, true, true, true, true, true, true, true, false, false, false] ⟨setL a.tmps [(14, .agg firstV.cs), (15, .agg (ce1.told true)), (18, .agg (ce2.told true)), (20, .agg firstV.cs), (21, .agg (ce3.told true)), (4, .pointer (some ⟨p0, 0, none⟩)), (5, .pointer (some ⟨p1, 0, none⟩)), (6, .pointer (some ⟨p2, 0, none⟩))], a.defers⟩ w) ?_ (fun F5_111 => ?_)
  · intro p0 p1 p2 w hS
    simp only [setL, List.setIfInBounds_toArray, List.set_cons_zero, List.set_cons_succ]
    have h0 := hS.ps p0 (by simp)
    have h1 := hS.ps p1 (by simp)
    have h2 := hS.ps p2 (by simp)
    have hnd := hS.nd
    simp only [List.nodup_cons, List.mem_cons, List.not_mem_nil, or_false, not_or] at hnd
    have hn01 : p0 ≠ p1 := hnd.1.1
    have hn02 : p0 ≠ p2 := hnd.1.2
    have hn12 : p1 ≠ p2 := hnd.2.1
    have a0 := h0.2.2.2
    have a1 := (setRow_other w p0 p1 (ce1.told true) (Ne.symm hn01)).trans h1.2.2.2
    have a2 := (setRow_other (w.setRow p0 (ce1.told true)) p1 p2 (ce2.told true) (Ne.symm hn12)).trans ((setRow_other w p0 p2 (ce1.told true) (Ne.symm hn02)).trans h2.2.2.2)
    have v1 : Blk (w.setRow p0 (ce1.told true)) v VT secondV.cs := (setRow_other _ p0 v _ (Ne.symm h0.2.2.1)).trans hS.box
    have v2 : Blk ((w.setRow p0 (ce1.told true)).setRow p1 (ce2.told true)) v VT secondV.cs := (setRow_other _ p1 v _ (Ne.symm h1.2.2.1)).trans v1
    have v3 : Blk (((w.setRow p0 (ce1.told true)).setRow p1 (ce2.told true)).setRow p2 (ce3.told true)) v VT secondV.cs := (setRow_other _ p2 v _ (Ne.symm h2.2.2.1)).trans v2
    have r0 : Blk (((w.setRow p0 (ce1.told true)).setRow p1 (ce2.told true)).setRow p2 (ce3.told true)) p0 PT (ce1.told true) := (setRow_other _ p2 p0 _ hn02).trans ((setRow_other _ p1 p0 _ hn01).trans (setRow_heap w p0 _ _ _ (0, 0) a0))
    have r1 : Blk (((w.setRow p0 (ce1.told true)).setRow p1 (ce2.told true)).setRow p2 (ce3.told true)) p1 PT (ce2.told true) := (setRow_other _ p2 p1 _ hn12).trans (setRow_heap _ p1 _ _ _ (0, 0) a1)
    have r2 : Blk (((w.setRow p0 (ce1.told true)).setRow p1 (ce2.told true)).setRow p2 (ce3.told true)) p2 PT (ce3.told true) := setRow_heap _ p2 _ _ _ (0, 0) a2
    have hbel : Below w0.heap.size w0 (((w.setRow p0 (ce1.told true)).setRow p1 (ce2.told true)).setRow p2 (ce3.told true)) := row_below (row_below (row_below hS.bel h0.1 _) h1.1 _) h2.1 _
    refine wpAnyH_ready (fuel := 2) (rs := [12]) (by kernel_rfl) (by simp) (AllReadyH.cons rfl (fun K hK => ?_) AllReadyH.nil)
    refine wp_store PT (.tmp 4) (.tmp 15) ⟨p0, 0, none⟩ (.agg (ce1.told true)) rfl rfl rfl rfl (store_row info_PT a0 rfl (all_one (Ce.told_one _ _))) ?_
    refine hK.out _ _ ⟨v1.cell 0, v1.cell 1, v1.cell 2, v1.cell 3, v1.cell 4, v1.cell 5⟩ (fun hSw => ?_)
    clear hK K hSw
    refine wpAnyH_ready (fuel := 1) (rs := [13]) (by kernel_rfl) (by simp) (AllReadyH.cons rfl (fun K hK => ?_) AllReadyH.nil)
    refine wp_store PT (.tmp 5) (.tmp 18) ⟨p1, 0, none⟩ (.agg (ce2.told true)) rfl rfl rfl rfl (store_row info_PT a1 rfl (all_one (Ce.told_one _ _))) ?_
    refine hK.out _ _ ⟨v2.cell 0, v2.cell 1, v2.cell 2, v2.cell 3, v2.cell 4, v2.cell 5⟩ (fun hSw => ?_)
    clear hK K hSw
    refine wpAnyH_ready (fuel := 0) (rs := [14]) (by kernel_rfl) (by simp) (AllReadyH.cons rfl (fun K hK => ?_) AllReadyH.nil)
    refine wp_store PT (.tmp 6) (.tmp 21) ⟨p2, 0, none⟩ (.agg (ce3.told true)) rfl rfl rfl rfl (store_row info_PT a2 rfl (all_one (Ce.told_one _ _))) ?_
    refine hK.out _ _ ⟨v3.cell 0, v3.cell 1, v3.cell 2, v3.cell 3, v3.cell 4, v3.cell 5⟩ (fun hSw => ?_)
    clear hK K hSw
    refine wpAnyH_done (by kernel_rfl) ⟨rfl, ?_⟩ 0
    clear a0 a1 a2 v1 v2 h0 h1 h2 hnd hn01 hn02 hn12
    generalize ((w.setRow p0 (ce1.told true)).setRow p1 (ce2.told true)).setRow p2 (ce3.told true) = w9 at *
    have HB := Lib.hid hbel
    have x0 : w9.cell? ⟨v, 0, none⟩ = some (.int .u64 2) := v3.cell 0
    have x1 : w9.cell? ⟨v, 1, none⟩ = some (.int .i64 1) := v3.cell 1
    have x2 : w9.cell? ⟨v, 2, none⟩ = some (.int .u64 1) := v3.cell 2
    have x3 : w9.cell? ⟨v, 3, none⟩ = some (.int .i64 (-1)) := v3.cell 3
    have x4 : w9.cell? ⟨v, 4, none⟩ = some (.int .u64 0) := v3.cell 4
    have x5 : w9.cell? ⟨v, 5, none⟩ = some (.int .u64 1) := v3.cell 5
    have y0 : w9.cell? ⟨p0, 0, none⟩ = some (.bool true) := r0.cell 0
    have z0 : w9.cell? ⟨p1, 0, none⟩ = some (.bool true) := r1.cell 0
    have u0 : w9.cell? ⟨p2, 0, none⟩ = some (.bool true) := r2.cell 0
    have u3 : w9.cell? ⟨p2, 3, none⟩ = some (.int .u64 5) := r2.cell 3
    have u4 : w9.cell? ⟨p2, 4, none⟩ = some (.int .u64 2) := r2.cell 4
    have u5 : w9.cell? ⟨p2, 5, none⟩ = some (.int .i64 1) := r2.cell 5
    have u6 : w9.cell? ⟨p2, 6, none⟩ = some (.int .u64 1) := r2.cell 6
    have u7 : w9.cell? ⟨p2, 7, none⟩ = some (.int .i64 (-1)) := r2.cell 7
    have u8 : w9.cell? ⟨p2, 8, none⟩ = some (.int .u64 0) := r2.cell 8
    have u9 : w9.cell? ⟨p2, 9, none⟩ = some (.int .u64 1) := r2.cell 9
    have he : ∀ w, (Op.equalIn 10000 VT (.agg #[.int .u64 2, .int .i64 1, .int .u64 1, .int .i64 (-1), .int .u64 0, .int .u64 1]) (.agg #[.int .u64 2, .int .i64 1, .int .u64 1, .int .i64 (-1), .int .u64 0, .int .u64 1])).run Try.prog w = .ok true w := fun w => eq_yes secondV w
    clear hS v3 r0 r1 r2 hbel
    go_wp2_with fail
    refine (check_c secondV _).mono ?_
    rintro e w10 ⟨rfl, hb10⟩
    rw [hmay]
    have hbz := HB.out.trans (hb10.mono HB.out.size)
    clear x0 x1 x2 x3 x4 x5 y0 z0 u0 u3 u4 u5 u6 u7 u8 u9 he hb10 HB
    go_wp2_with fail
    go_ret
    exact ⟨rfl, hbz⟩
  simp only [setL, List.setIfInBounds_toArray, List.set_cons_zero, List.set_cons_succ] at F5_111
  refine keep (fun ops Q S a => ∀ (p0 p1 : Nat) (w : World), St w0 w b v ce3 secondV [p0, p1] → wpAnyH Try.prog .any ops Q S 4 #[true, true, true, true, true, true, true, true, true, true, true, false, false, false, false] ⟨setL a.tmps [(14, .agg firstV.cs), (15, .agg (ce1.told true)), (18, .agg (ce2.told true)), (20, .agg firstV.cs), (21, .agg (ce3.told true)), (4, .pointer (some ⟨p0, 0, none⟩)), (5, .pointer (some ⟨p1, 0, none⟩))], a.defers⟩ w) ?_ (fun F5_110 => ?_)
  · intro p0 p1 w hS
    simp only [setL, List.setIfInBounds_toArray, List.set_cons_zero, List.set_cons_succ]
    refine wpAnyH_ready (fuel := 3) (rs := [11]) (by kernel_rfl) (by simp) (AllReadyH.cons rfl (fun K hK => ?_) AllReadyH.nil)
    · go_simp
      have hS2 := St.at_ [p0, p1] [] hS
      refine hK.out _ _ ⟨hS2.box.cell 0, hS2.box.cell 1, hS2.box.cell 2, hS2.box.cell 3, hS2.box.cell 4, hS2.box.cell 5⟩ (fun hSw => ?_)
      clear hK K hSw
      simp only [List.setIfInBounds_toArray, List.set_cons_zero, List.set_cons_succ]
      exact F5_111 p0 p1 w.heap.size  _ hS2
  simp only [setL, List.setIfInBounds_toArray, List.set_cons_zero, List.set_cons_succ] at F5_110
  refine keep (fun ops Q S a => ∀ (p0 p2 : Nat) (w : World), St w0 w b v ce3 secondV [p0, p2] → wpAnyH Try.prog .any ops Q S 4 #[true, true, true, true, true, true, true, true, true, true, false, true, false, false, false] ⟨setL a.tmps [(14, .agg firstV.cs), (15, .agg (ce1.told true)), (18, .agg (ce2.told true)), (20, .agg firstV.cs), (21, .agg (ce3.told true)), (4, .pointer (some ⟨p0, 0, none⟩)), (6, .pointer (some ⟨p2, 0, none⟩))], a.defers⟩ w) ?_ (fun F5_101 => ?_)
  · intro p0 p2 w hS
    simp only [setL, List.setIfInBounds_toArray, List.set_cons_zero, List.set_cons_succ]
    refine wpAnyH_ready (fuel := 3) (rs := [10]) (by kernel_rfl) (by simp) (AllReadyH.cons rfl (fun K hK => ?_) AllReadyH.nil)
    · go_simp
      have hS2 := St.at_ [p0] [p2] hS
      refine hK.out _ _ ⟨hS2.box.cell 0, hS2.box.cell 1, hS2.box.cell 2, hS2.box.cell 3, hS2.box.cell 4, hS2.box.cell 5⟩ (fun hSw => ?_)
      clear hK K hSw
      simp only [List.setIfInBounds_toArray, List.set_cons_zero, List.set_cons_succ]
      exact F5_111 p0 w.heap.size p2 _ hS2
  simp only [setL, List.setIfInBounds_toArray, List.set_cons_zero, List.set_cons_succ] at F5_101
  refine keep (fun ops Q S a => ∀ (p1 p2 : Nat) (w : World), St w0 w b v ce3 secondV [p1, p2] → wpAnyH Try.prog .any ops Q S 4 #[true, true, true, true, true, true, true, true, true, false, true, true, false, false, false] ⟨setL a.tmps [(14, .agg firstV.cs), (15, .agg (ce1.told true)), (18, .agg (ce2.told true)), (20, .agg firstV.cs), (21, .agg (ce3.told true)), (5, .pointer (some ⟨p1, 0, none⟩)), (6, .pointer (some ⟨p2, 0, none⟩))], a.defers⟩ w) ?_ (fun F5_011 => ?_)
  · intro p1 p2 w hS
    simp only [setL, List.setIfInBounds_toArray, List.set_cons_zero, List.set_cons_succ]
    refine wpAnyH_ready (fuel := 3) (rs := [9]) (by kernel_rfl) (by simp) (AllReadyH.cons rfl (fun K hK => ?_) AllReadyH.nil)
    · go_simp
      have hS2 := St.at_ [] [p1, p2] hS
      refine hK.out _ _ ⟨hS2.box.cell 0, hS2.box.cell 1, hS2.box.cell 2, hS2.box.cell 3, hS2.box.cell 4, hS2.box.cell 5⟩ (fun hSw => ?_)
      clear hK K hSw
      simp only [List.setIfInBounds_toArray, List.set_cons_zero, List.set_cons_succ]
      exact F5_111  w.heap.size p1 p2 _ hS2
  simp only [setL, List.setIfInBounds_toArray, List.set_cons_zero, List.set_cons_succ] at F5_011
  refine keep (fun ops Q S a => ∀ (p0 : Nat) (w : World), St w0 w b v ce3 secondV [p0] → wpAnyH Try.prog .any ops Q S 5 #[true, true, true, true, true, true, true, true, true, true, false, false, false, false, false] ⟨setL a.tmps [(14, .agg firstV.cs), (15, .agg (ce1.told true)), (18, .agg (ce2.told true)), (20, .agg firstV.cs), (21, .agg (ce3.told true)), (4, .pointer (some ⟨p0, 0, none⟩))], a.defers⟩ w) ?_ (fun F5_100 => ?_)
  · intro p0 w hS
    simp only [setL, List.setIfInBounds_toArray, List.set_cons_zero, List.set_cons_succ]
    refine wpAnyH_ready (fuel := 4) (rs := [10, 11]) (by kernel_rfl) (by simp) (AllReadyH.cons rfl (fun K hK => ?_) (AllReadyH.cons rfl (fun K hK => ?_) AllReadyH.nil))
    · go_simp
      have hS2 := St.at_ [p0] [] hS
      refine hK.out _ _ ⟨hS2.box.cell 0, hS2.box.cell 1, hS2.box.cell 2, hS2.box.cell 3, hS2.box.cell 4, hS2.box.cell 5⟩ (fun hSw => ?_)
      clear hK K hSw
      simp only [List.setIfInBounds_toArray, List.set_cons_zero, List.set_cons_succ]
      exact F5_110 p0 w.heap.size  _ hS2
    · go_simp
      have hS2 := St.at_ [p0] [] hS
      refine hK.out _ _ ⟨hS2.box.cell 0, hS2.box.cell 1, hS2.box.cell 2, hS2.box.cell 3, hS2.box.cell 4, hS2.box.cell 5⟩ (fun hSw => ?_)
      clear hK K hSw
      simp only [List.setIfInBounds_toArray, List.set_cons_zero, List.set_cons_succ]
      exact F5_101 p0 w.heap.size  _ hS2
  simp only [setL, List.setIfInBounds_toArray, List.set_cons_zero, List.set_cons_succ] at F5_100
  refine keep (fun ops Q S a => ∀ (p1 : Nat) (w : World), St w0 w b v ce3 secondV [p1] → wpAnyH Try.prog .any ops Q S 5 #[true, true, true, true, true, true, true, true, true, false, true, false, false, false, false] ⟨setL a.tmps [(14, .agg firstV.cs), (15, .agg (ce1.told true)), (18, .agg (ce2.told true)), (20, .agg firstV.cs), (21, .agg (ce3.told true)), (5, .pointer (some ⟨p1, 0, none⟩))], a.defers⟩ w) ?_ (fun F5_010 => ?_)
  · intro p1 w hS
    simp only [setL, List.setIfInBounds_toArray, List.set_cons_zero, List.set_cons_succ]
    refine wpAnyH_ready (fuel := 4) (rs := [9, 11]) (by kernel_rfl) (by simp) (AllReadyH.cons rfl (fun K hK => ?_) (AllReadyH.cons rfl (fun K hK => ?_) AllReadyH.nil))
    · go_simp
      have hS2 := St.at_ [] [p1] hS
      refine hK.out _ _ ⟨hS2.box.cell 0, hS2.box.cell 1, hS2.box.cell 2, hS2.box.cell 3, hS2.box.cell 4, hS2.box.cell 5⟩ (fun hSw => ?_)
      clear hK K hSw
      simp only [List.setIfInBounds_toArray, List.set_cons_zero, List.set_cons_succ]
      exact F5_110  w.heap.size p1 _ hS2
    · go_simp
      have hS2 := St.at_ [p1] [] hS
      refine hK.out _ _ ⟨hS2.box.cell 0, hS2.box.cell 1, hS2.box.cell 2, hS2.box.cell 3, hS2.box.cell 4, hS2.box.cell 5⟩ (fun hSw => ?_)
      clear hK K hSw
      simp only [List.setIfInBounds_toArray, List.set_cons_zero, List.set_cons_succ]
      exact F5_011 p1 w.heap.size  _ hS2
  simp only [setL, List.setIfInBounds_toArray, List.set_cons_zero, List.set_cons_succ] at F5_010
  refine keep (fun ops Q S a => ∀ (p2 : Nat) (w : World), St w0 w b v ce3 secondV [p2] → wpAnyH Try.prog .any ops Q S 5 #[true, true, true, true, true, true, true, true, true, false, false, true, false, false, false] ⟨setL a.tmps [(14, .agg firstV.cs), (15, .agg (ce1.told true)), (18, .agg (ce2.told true)), (20, .agg firstV.cs), (21, .agg (ce3.told true)), (6, .pointer (some ⟨p2, 0, none⟩))], a.defers⟩ w) ?_ (fun F5_001 => ?_)
  · intro p2 w hS
    simp only [setL, List.setIfInBounds_toArray, List.set_cons_zero, List.set_cons_succ]
    refine wpAnyH_ready (fuel := 4) (rs := [9, 10]) (by kernel_rfl) (by simp) (AllReadyH.cons rfl (fun K hK => ?_) (AllReadyH.cons rfl (fun K hK => ?_) AllReadyH.nil))
    · go_simp
      have hS2 := St.at_ [] [p2] hS
      refine hK.out _ _ ⟨hS2.box.cell 0, hS2.box.cell 1, hS2.box.cell 2, hS2.box.cell 3, hS2.box.cell 4, hS2.box.cell 5⟩ (fun hSw => ?_)
      clear hK K hSw
      simp only [List.setIfInBounds_toArray, List.set_cons_zero, List.set_cons_succ]
      exact F5_101  w.heap.size p2 _ hS2
    · go_simp
      have hS2 := St.at_ [] [p2] hS
      refine hK.out _ _ ⟨hS2.box.cell 0, hS2.box.cell 1, hS2.box.cell 2, hS2.box.cell 3, hS2.box.cell 4, hS2.box.cell 5⟩ (fun hSw => ?_)
      clear hK K hSw
      simp only [List.setIfInBounds_toArray, List.set_cons_zero, List.set_cons_succ]
      exact F5_011  w.heap.size p2 _ hS2
  simp only [setL, List.setIfInBounds_toArray, List.set_cons_zero, List.set_cons_succ] at F5_001
  refine keep (fun ops Q S a => ∀ (w : World), St w0 w b v ce3 secondV [] → wpAnyH Try.prog .any ops Q S 6 #[true, true, true, true, true, true, true, true, true, false, false, false, false, false, false] ⟨setL a.tmps [(14, .agg firstV.cs), (15, .agg (ce1.told true)), (18, .agg (ce2.told true)), (20, .agg firstV.cs), (21, .agg (ce3.told true))], a.defers⟩ w) ?_ (fun F5_000 => ?_)
  · intro  w hS
    simp only [setL, List.setIfInBounds_toArray, List.set_cons_zero, List.set_cons_succ]
    refine wpAnyH_ready (fuel := 5) (rs := [9, 10, 11]) (by kernel_rfl) (by simp) (AllReadyH.cons rfl (fun K hK => ?_) (AllReadyH.cons rfl (fun K hK => ?_) (AllReadyH.cons rfl (fun K hK => ?_) AllReadyH.nil)))
    · go_simp
      have hS2 := St.at_ [] [] hS
      refine hK.out _ _ ⟨hS2.box.cell 0, hS2.box.cell 1, hS2.box.cell 2, hS2.box.cell 3, hS2.box.cell 4, hS2.box.cell 5⟩ (fun hSw => ?_)
      clear hK K hSw
      simp only [List.setIfInBounds_toArray, List.set_cons_zero, List.set_cons_succ]
      exact F5_100  w.heap.size  _ hS2
    · go_simp
      have hS2 := St.at_ [] [] hS
      refine hK.out _ _ ⟨hS2.box.cell 0, hS2.box.cell 1, hS2.box.cell 2, hS2.box.cell 3, hS2.box.cell 4, hS2.box.cell 5⟩ (fun hSw => ?_)
      clear hK K hSw
      simp only [List.setIfInBounds_toArray, List.set_cons_zero, List.set_cons_succ]
      exact F5_010  w.heap.size  _ hS2
    · go_simp
      have hS2 := St.at_ [] [] hS
      refine hK.out _ _ ⟨hS2.box.cell 0, hS2.box.cell 1, hS2.box.cell 2, hS2.box.cell 3, hS2.box.cell 4, hS2.box.cell 5⟩ (fun hSw => ?_)
      clear hK K hSw
      simp only [List.setIfInBounds_toArray, List.set_cons_zero, List.set_cons_succ]
      exact F5_001  w.heap.size  _ hS2
  simp only [setL, List.setIfInBounds_toArray, List.set_cons_zero, List.set_cons_succ] at F5_000
  refine keep (fun ops Q S a => ∀ (p0 p1 p2 : Nat) (w : World), St w0 w b v ce2 secondV [p0, p1, p2] → wpAnyH Try.prog .any ops Q S 4 #[true, true, true, true, true, true, true, true, false, true, true, true, false, false, false] ⟨setL a.tmps [(14, .agg firstV.cs), (15, .agg (ce1.told true)), (18, .agg (ce2.told true)), (20, .agg firstV.cs), (4, .pointer (some ⟨p0, 0, none⟩)), (5, .pointer (some ⟨p1, 0, none⟩)), (6, .pointer (some ⟨p2, 0, none⟩))], a.defers⟩ w) ?_ (fun F4_111 => ?_)
  · intro p0 p1 p2 w hS
    simp only [setL, List.setIfInBounds_toArray, List.set_cons_zero, List.set_cons_succ]
    refine wpAnyH_ready (fuel := 3) (rs := [8]) (by kernel_rfl) (by simp) (AllReadyH.cons rfl (fun K hK => ?_) AllReadyH.nil)
    · go_simp
      refine Calls.mono (hpr3 w hS) ?_
      rintro e wv ⟨rfl, hc, hk⟩
      have hS2 := hS.kp hc hk
      refine hK.out _ _ ⟨hS2.box.cell 0, hS2.box.cell 1, hS2.box.cell 2, hS2.box.cell 3, hS2.box.cell 4, hS2.box.cell 5⟩ (fun hSw => ?_)
      clear hK K hSw
      simp only [List.setIfInBounds_toArray, List.set_cons_zero, List.set_cons_succ]
      exact F5_111 p0 p1 p2 _ hS2
  simp only [setL, List.setIfInBounds_toArray, List.set_cons_zero, List.set_cons_succ] at F4_111
  refine keep (fun ops Q S a => ∀ (p0 p1 : Nat) (w : World), St w0 w b v ce2 secondV [p0, p1] → wpAnyH Try.prog .any ops Q S 5 #[true, true, true, true, true, true, true, true, false, true, true, false, false, false, false] ⟨setL a.tmps [(14, .agg firstV.cs), (15, .agg (ce1.told true)), (18, .agg (ce2.told true)), (20, .agg firstV.cs), (4, .pointer (some ⟨p0, 0, none⟩)), (5, .pointer (some ⟨p1, 0, none⟩))], a.defers⟩ w) ?_ (fun F4_110 => ?_)
  · intro p0 p1 w hS
    simp only [setL, List.setIfInBounds_toArray, List.set_cons_zero, List.set_cons_succ]
    refine wpAnyH_ready (fuel := 4) (rs := [8, 11]) (by kernel_rfl) (by simp) (AllReadyH.cons rfl (fun K hK => ?_) (AllReadyH.cons rfl (fun K hK => ?_) AllReadyH.nil))
    · go_simp
      refine Calls.mono (hpr3 w hS) ?_
      rintro e wv ⟨rfl, hc, hk⟩
      have hS2 := hS.kp hc hk
      refine hK.out _ _ ⟨hS2.box.cell 0, hS2.box.cell 1, hS2.box.cell 2, hS2.box.cell 3, hS2.box.cell 4, hS2.box.cell 5⟩ (fun hSw => ?_)
      clear hK K hSw
      simp only [List.setIfInBounds_toArray, List.set_cons_zero, List.set_cons_succ]
      exact F5_110 p0 p1 _ hS2
    · go_simp
      have hS2 := St.at_ [p0, p1] [] hS
      refine hK.out _ _ ⟨hS2.box.cell 0, hS2.box.cell 1, hS2.box.cell 2, hS2.box.cell 3, hS2.box.cell 4, hS2.box.cell 5⟩ (fun hSw => ?_)
      clear hK K hSw
      simp only [List.setIfInBounds_toArray, List.set_cons_zero, List.set_cons_succ]
      exact F4_111 p0 p1 w.heap.size  _ hS2
  simp only [setL, List.setIfInBounds_toArray, List.set_cons_zero, List.set_cons_succ] at F4_110
  refine keep (fun ops Q S a => ∀ (p0 p2 : Nat) (w : World), St w0 w b v ce2 secondV [p0, p2] → wpAnyH Try.prog .any ops Q S 5 #[true, true, true, true, true, true, true, true, false, true, false, true, false, false, false] ⟨setL a.tmps [(14, .agg firstV.cs), (15, .agg (ce1.told true)), (18, .agg (ce2.told true)), (20, .agg firstV.cs), (4, .pointer (some ⟨p0, 0, none⟩)), (6, .pointer (some ⟨p2, 0, none⟩))], a.defers⟩ w) ?_ (fun F4_101 => ?_)
  · intro p0 p2 w hS
    simp only [setL, List.setIfInBounds_toArray, List.set_cons_zero, List.set_cons_succ]
    refine wpAnyH_ready (fuel := 4) (rs := [8, 10]) (by kernel_rfl) (by simp) (AllReadyH.cons rfl (fun K hK => ?_) (AllReadyH.cons rfl (fun K hK => ?_) AllReadyH.nil))
    · go_simp
      refine Calls.mono (hpr3 w hS) ?_
      rintro e wv ⟨rfl, hc, hk⟩
      have hS2 := hS.kp hc hk
      refine hK.out _ _ ⟨hS2.box.cell 0, hS2.box.cell 1, hS2.box.cell 2, hS2.box.cell 3, hS2.box.cell 4, hS2.box.cell 5⟩ (fun hSw => ?_)
      clear hK K hSw
      simp only [List.setIfInBounds_toArray, List.set_cons_zero, List.set_cons_succ]
      exact F5_101 p0 p2 _ hS2
    · go_simp
      have hS2 := St.at_ [p0] [p2] hS
      refine hK.out _ _ ⟨hS2.box.cell 0, hS2.box.cell 1, hS2.box.cell 2, hS2.box.cell 3, hS2.box.cell 4, hS2.box.cell 5⟩ (fun hSw => ?_)
      clear hK K hSw
      simp only [List.setIfInBounds_toArray, List.set_cons_zero, List.set_cons_succ]
      exact F4_111 p0 w.heap.size p2 _ hS2
  simp only [setL, List.setIfInBounds_toArray, List.set_cons_zero, List.set_cons_succ] at F4_101
  refine keep (fun ops Q S a => ∀ (p1 p2 : Nat) (w : World), St w0 w b v ce2 secondV [p1, p2] → wpAnyH Try.prog .any ops Q S 5 #[true, true, true, true, true, true, true, true, false, false, true, true, false, false, false] ⟨setL a.tmps [(14, .agg firstV.cs), (15, .agg (ce1.told true)), (18, .agg (ce2.told true)), (20, .agg firstV.cs), (5, .pointer (some ⟨p1, 0, none⟩)), (6, .pointer (some ⟨p2, 0, none⟩))], a.defers⟩ w) ?_ (fun F4_011 => ?_)
  · intro p1 p2 w hS
    simp only [setL, List.setIfInBounds_toArray, List.set_cons_zero, List.set_cons_succ]
    refine wpAnyH_ready (fuel := 4) (rs := [8, 9]) (by kernel_rfl) (by simp) (AllReadyH.cons rfl (fun K hK => ?_) (AllReadyH.cons rfl (fun K hK => ?_) AllReadyH.nil))
    · go_simp
      refine Calls.mono (hpr3 w hS) ?_
      rintro e wv ⟨rfl, hc, hk⟩
      have hS2 := hS.kp hc hk
      refine hK.out _ _ ⟨hS2.box.cell 0, hS2.box.cell 1, hS2.box.cell 2, hS2.box.cell 3, hS2.box.cell 4, hS2.box.cell 5⟩ (fun hSw => ?_)
      clear hK K hSw
      simp only [List.setIfInBounds_toArray, List.set_cons_zero, List.set_cons_succ]
      exact F5_011 p1 p2 _ hS2
    · go_simp
      have hS2 := St.at_ [] [p1, p2] hS
      refine hK.out _ _ ⟨hS2.box.cell 0, hS2.box.cell 1, hS2.box.cell 2, hS2.box.cell 3, hS2.box.cell 4, hS2.box.cell 5⟩ (fun hSw => ?_)
      clear hK K hSw
      simp only [List.setIfInBounds_toArray, List.set_cons_zero, List.set_cons_succ]
      exact F4_111  w.heap.size p1 p2 _ hS2
  simp only [setL, List.setIfInBounds_toArray, List.set_cons_zero, List.set_cons_succ] at F4_011
  refine keep (fun ops Q S a => ∀ (p0 : Nat) (w : World), St w0 w b v ce2 secondV [p0] → wpAnyH Try.prog .any ops Q S 6 #[true, true, true, true, true, true, true, true, false, true, false, false, false, false, false] ⟨setL a.tmps [(14, .agg firstV.cs), (15, .agg (ce1.told true)), (18, .agg (ce2.told true)), (20, .agg firstV.cs), (4, .pointer (some ⟨p0, 0, none⟩))], a.defers⟩ w) ?_ (fun F4_100 => ?_)
  · intro p0 w hS
    simp only [setL, List.setIfInBounds_toArray, List.set_cons_zero, List.set_cons_succ]
    refine wpAnyH_ready (fuel := 5) (rs := [8, 10, 11]) (by kernel_rfl) (by simp) (AllReadyH.cons rfl (fun K hK => ?_) (AllReadyH.cons rfl (fun K hK => ?_) (AllReadyH.cons rfl (fun K hK => ?_) AllReadyH.nil)))
    · go_simp
      refine Calls.mono (hpr3 w hS) ?_
      rintro e wv ⟨rfl, hc, hk⟩
      have hS2 := hS.kp hc hk
      refine hK.out _ _ ⟨hS2.box.cell 0, hS2.box.cell 1, hS2.box.cell 2, hS2.box.cell 3, hS2.box.cell 4, hS2.box.cell 5⟩ (fun hSw => ?_)
      clear hK K hSw
      simp only [List.setIfInBounds_toArray, List.set_cons_zero, List.set_cons_succ]
      exact F5_100 p0 _ hS2
    · go_simp
      have hS2 := St.at_ [p0] [] hS
      refine hK.out _ _ ⟨hS2.box.cell 0, hS2.box.cell 1, hS2.box.cell 2, hS2.box.cell 3, hS2.box.cell 4, hS2.box.cell 5⟩ (fun hSw => ?_)
      clear hK K hSw
      simp only [List.setIfInBounds_toArray, List.set_cons_zero, List.set_cons_succ]
      exact F4_110 p0 w.heap.size  _ hS2
    · go_simp
      have hS2 := St.at_ [p0] [] hS
      refine hK.out _ _ ⟨hS2.box.cell 0, hS2.box.cell 1, hS2.box.cell 2, hS2.box.cell 3, hS2.box.cell 4, hS2.box.cell 5⟩ (fun hSw => ?_)
      clear hK K hSw
      simp only [List.setIfInBounds_toArray, List.set_cons_zero, List.set_cons_succ]
      exact F4_101 p0 w.heap.size  _ hS2
  simp only [setL, List.setIfInBounds_toArray, List.set_cons_zero, List.set_cons_succ] at F4_100
  refine keep (fun ops Q S a => ∀ (p1 : Nat) (w : World), St w0 w b v ce2 secondV [p1] → wpAnyH Try.prog .any ops Q S 6 #[true, true, true, true, true, true, true, true, false, false, true, false, false, false, false] ⟨setL a.tmps [(14, .agg firstV.cs), (15, .agg (ce1.told true)), (18, .agg (ce2.told true)), (20, .agg firstV.cs), (5, .pointer (some ⟨p1, 0, none⟩))], a.defers⟩ w) ?_ (fun F4_010 => ?_)
  · intro p1 w hS
    simp only [setL, List.setIfInBounds_toArray, List.set_cons_zero, List.set_cons_succ]
    refine wpAnyH_ready (fuel := 5) (rs := [8, 9, 11]) (by kernel_rfl) (by simp) (AllReadyH.cons rfl (fun K hK => ?_) (AllReadyH.cons rfl (fun K hK => ?_) (AllReadyH.cons rfl (fun K hK => ?_) AllReadyH.nil)))
    · go_simp
      refine Calls.mono (hpr3 w hS) ?_
      rintro e wv ⟨rfl, hc, hk⟩
      have hS2 := hS.kp hc hk
      refine hK.out _ _ ⟨hS2.box.cell 0, hS2.box.cell 1, hS2.box.cell 2, hS2.box.cell 3, hS2.box.cell 4, hS2.box.cell 5⟩ (fun hSw => ?_)
      clear hK K hSw
      simp only [List.setIfInBounds_toArray, List.set_cons_zero, List.set_cons_succ]
      exact F5_010 p1 _ hS2
    · go_simp
      have hS2 := St.at_ [] [p1] hS
      refine hK.out _ _ ⟨hS2.box.cell 0, hS2.box.cell 1, hS2.box.cell 2, hS2.box.cell 3, hS2.box.cell 4, hS2.box.cell 5⟩ (fun hSw => ?_)
      clear hK K hSw
      simp only [List.setIfInBounds_toArray, List.set_cons_zero, List.set_cons_succ]
      exact F4_110  w.heap.size p1 _ hS2
    · go_simp
      have hS2 := St.at_ [p1] [] hS
      refine hK.out _ _ ⟨hS2.box.cell 0, hS2.box.cell 1, hS2.box.cell 2, hS2.box.cell 3, hS2.box.cell 4, hS2.box.cell 5⟩ (fun hSw => ?_)
      clear hK K hSw
      simp only [List.setIfInBounds_toArray, List.set_cons_zero, List.set_cons_succ]
      exact F4_011 p1 w.heap.size  _ hS2
  simp only [setL, List.setIfInBounds_toArray, List.set_cons_zero, List.set_cons_succ] at F4_010
  refine keep (fun ops Q S a => ∀ (p2 : Nat) (w : World), St w0 w b v ce2 secondV [p2] → wpAnyH Try.prog .any ops Q S 6 #[true, true, true, true, true, true, true, true, false, false, false, true, false, false, false] ⟨setL a.tmps [(14, .agg firstV.cs), (15, .agg (ce1.told true)), (18, .agg (ce2.told true)), (20, .agg firstV.cs), (6, .pointer (some ⟨p2, 0, none⟩))], a.defers⟩ w) ?_ (fun F4_001 => ?_)
  · intro p2 w hS
    simp only [setL, List.setIfInBounds_toArray, List.set_cons_zero, List.set_cons_succ]
    refine wpAnyH_ready (fuel := 5) (rs := [8, 9, 10]) (by kernel_rfl) (by simp) (AllReadyH.cons rfl (fun K hK => ?_) (AllReadyH.cons rfl (fun K hK => ?_) (AllReadyH.cons rfl (fun K hK => ?_) AllReadyH.nil)))
    · go_simp
      refine Calls.mono (hpr3 w hS) ?_
      rintro e wv ⟨rfl, hc, hk⟩
      have hS2 := hS.kp hc hk
      refine hK.out _ _ ⟨hS2.box.cell 0, hS2.box.cell 1, hS2.box.cell 2, hS2.box.cell 3, hS2.box.cell 4, hS2.box.cell 5⟩ (fun hSw => ?_)
      clear hK K hSw
      simp only [List.setIfInBounds_toArray, List.set_cons_zero, List.set_cons_succ]
      exact F5_001 p2 _ hS2
    · go_simp
      have hS2 := St.at_ [] [p2] hS
      refine hK.out _ _ ⟨hS2.box.cell 0, hS2.box.cell 1, hS2.box.cell 2, hS2.box.cell 3, hS2.box.cell 4, hS2.box.cell 5⟩ (fun hSw => ?_)
      clear hK K hSw
      simp only [List.setIfInBounds_toArray, List.set_cons_zero, List.set_cons_succ]
      exact F4_101  w.heap.size p2 _ hS2
    · go_simp
      have hS2 := St.at_ [] [p2] hS
      refine hK.out _ _ ⟨hS2.box.cell 0, hS2.box.cell 1, hS2.box.cell 2, hS2.box.cell 3, hS2.box.cell 4, hS2.box.cell 5⟩ (fun hSw => ?_)
      clear hK K hSw
      simp only [List.setIfInBounds_toArray, List.set_cons_zero, List.set_cons_succ]
      exact F4_011  w.heap.size p2 _ hS2
  simp only [setL, List.setIfInBounds_toArray, List.set_cons_zero, List.set_cons_succ] at F4_001
  refine keep (fun ops Q S a => ∀ (w : World), St w0 w b v ce2 secondV [] → wpAnyH Try.prog .any ops Q S 7 #[true, true, true, true, true, true, true, true, false, false, false, false, false, false, false] ⟨setL a.tmps [(14, .agg firstV.cs), (15, .agg (ce1.told true)), (18, .agg (ce2.told true)), (20, .agg firstV.cs)], a.defers⟩ w) ?_ (fun F4_000 => ?_)
  · intro  w hS
    simp only [setL, List.setIfInBounds_toArray, List.set_cons_zero, List.set_cons_succ]
    refine wpAnyH_ready (fuel := 6) (rs := [8, 9, 10, 11]) (by kernel_rfl) (by simp) (AllReadyH.cons rfl (fun K hK => ?_) (AllReadyH.cons rfl (fun K hK => ?_) (AllReadyH.cons rfl (fun K hK => ?_) (AllReadyH.cons rfl (fun K hK => ?_) AllReadyH.nil))))
    · go_simp
      refine Calls.mono (hpr3 w hS) ?_
      rintro e wv ⟨rfl, hc, hk⟩
      have hS2 := hS.kp hc hk
      refine hK.out _ _ ⟨hS2.box.cell 0, hS2.box.cell 1, hS2.box.cell 2, hS2.box.cell 3, hS2.box.cell 4, hS2.box.cell 5⟩ (fun hSw => ?_)
      clear hK K hSw
      simp only [List.setIfInBounds_toArray, List.set_cons_zero, List.set_cons_succ]
      exact F5_000  _ hS2
    · go_simp
      have hS2 := St.at_ [] [] hS
      refine hK.out _ _ ⟨hS2.box.cell 0, hS2.box.cell 1, hS2.box.cell 2, hS2.box.cell 3, hS2.box.cell 4, hS2.box.cell 5⟩ (fun hSw => ?_)
      clear hK K hSw
      simp only [List.setIfInBounds_toArray, List.set_cons_zero, List.set_cons_succ]
      exact F4_100  w.heap.size  _ hS2
    · go_simp
      have hS2 := St.at_ [] [] hS
      refine hK.out _ _ ⟨hS2.box.cell 0, hS2.box.cell 1, hS2.box.cell 2, hS2.box.cell 3, hS2.box.cell 4, hS2.box.cell 5⟩ (fun hSw => ?_)
      clear hK K hSw
      simp only [List.setIfInBounds_toArray, List.set_cons_zero, List.set_cons_succ]
      exact F4_010  w.heap.size  _ hS2
    · go_simp
      have hS2 := St.at_ [] [] hS
      refine hK.out _ _ ⟨hS2.box.cell 0, hS2.box.cell 1, hS2.box.cell 2, hS2.box.cell 3, hS2.box.cell 4, hS2.box.cell 5⟩ (fun hSw => ?_)
      clear hK K hSw
      simp only [List.setIfInBounds_toArray, List.set_cons_zero, List.set_cons_succ]
      exact F4_001  w.heap.size  _ hS2
  simp only [setL, List.setIfInBounds_toArray, List.set_cons_zero, List.set_cons_succ] at F4_000
  refine keep (fun ops Q S a => ∀ (p0 p1 p2 : Nat) (w : World), St w0 w b v ce2 secondV [p0, p1, p2] → wpAnyH Try.prog .any ops Q S 5 #[true, true, true, true, true, true, true, false, false, true, true, true, false, false, false] ⟨setL a.tmps [(14, .agg firstV.cs), (15, .agg (ce1.told true)), (18, .agg (ce2.told true)), (4, .pointer (some ⟨p0, 0, none⟩)), (5, .pointer (some ⟨p1, 0, none⟩)), (6, .pointer (some ⟨p2, 0, none⟩))], a.defers⟩ w) ?_ (fun F3_111 => ?_)
  · intro p0 p1 p2 w hS
    simp only [setL, List.setIfInBounds_toArray, List.set_cons_zero, List.set_cons_succ]
    refine wpAnyH_ready (fuel := 4) (rs := [7]) (by kernel_rfl) (by simp) (AllReadyH.cons rfl (fun K hK => ?_) AllReadyH.nil)
    · go_simp
      refine Calls.mono (first_c _) ?_
      rintro e wv ⟨rfl, hb⟩
      have hS2 := hS.below hb
      refine hK.out _ _ ⟨hS2.box.cell 0, hS2.box.cell 1, hS2.box.cell 2, hS2.box.cell 3, hS2.box.cell 4, hS2.box.cell 5⟩ (fun hSw => ?_)
      clear hK K hSw
      simp only [List.setIfInBounds_toArray, List.set_cons_zero, List.set_cons_succ]
      exact F4_111 p0 p1 p2 _ hS2
  simp only [setL, List.setIfInBounds_toArray, List.set_cons_zero, List.set_cons_succ] at F3_111
  refine keep (fun ops Q S a => ∀ (p0 p1 : Nat) (w : World), St w0 w b v ce2 secondV [p0, p1] → wpAnyH Try.prog .any ops Q S 6 #[true, true, true, true, true, true, true, false, false, true, true, false, false, false, false] ⟨setL a.tmps [(14, .agg firstV.cs), (15, .agg (ce1.told true)), (18, .agg (ce2.told true)), (4, .pointer (some ⟨p0, 0, none⟩)), (5, .pointer (some ⟨p1, 0, none⟩))], a.defers⟩ w) ?_ (fun F3_110 => ?_)
  · intro p0 p1 w hS
    simp only [setL, List.setIfInBounds_toArray, List.set_cons_zero, List.set_cons_succ]
    refine wpAnyH_ready (fuel := 5) (rs := [7, 11]) (by kernel_rfl) (by simp) (AllReadyH.cons rfl (fun K hK => ?_) (AllReadyH.cons rfl (fun K hK => ?_) AllReadyH.nil))
    · go_simp
      refine Calls.mono (first_c _) ?_
      rintro e wv ⟨rfl, hb⟩
      have hS2 := hS.below hb
      refine hK.out _ _ ⟨hS2.box.cell 0, hS2.box.cell 1, hS2.box.cell 2, hS2.box.cell 3, hS2.box.cell 4, hS2.box.cell 5⟩ (fun hSw => ?_)
      clear hK K hSw
      simp only [List.setIfInBounds_toArray, List.set_cons_zero, List.set_cons_succ]
      exact F4_110 p0 p1 _ hS2
    · go_simp
      have hS2 := St.at_ [p0, p1] [] hS
      refine hK.out _ _ ⟨hS2.box.cell 0, hS2.box.cell 1, hS2.box.cell 2, hS2.box.cell 3, hS2.box.cell 4, hS2.box.cell 5⟩ (fun hSw => ?_)
      clear hK K hSw
      simp only [List.setIfInBounds_toArray, List.set_cons_zero, List.set_cons_succ]
      exact F3_111 p0 p1 w.heap.size  _ hS2
  simp only [setL, List.setIfInBounds_toArray, List.set_cons_zero, List.set_cons_succ] at F3_110
  refine keep (fun ops Q S a => ∀ (p0 p2 : Nat) (w : World), St w0 w b v ce2 secondV [p0, p2] → wpAnyH Try.prog .any ops Q S 6 #[true, true, true, true, true, true, true, false, false, true, false, true, false, false, false] ⟨setL a.tmps [(14, .agg firstV.cs), (15, .agg (ce1.told true)), (18, .agg (ce2.told true)), (4, .pointer (some ⟨p0, 0, none⟩)), (6, .pointer (some ⟨p2, 0, none⟩))], a.defers⟩ w) ?_ (fun F3_101 => ?_)
  · intro p0 p2 w hS
    simp only [setL, List.setIfInBounds_toArray, List.set_cons_zero, List.set_cons_succ]
    refine wpAnyH_ready (fuel := 5) (rs := [7, 10]) (by kernel_rfl) (by simp) (AllReadyH.cons rfl (fun K hK => ?_) (AllReadyH.cons rfl (fun K hK => ?_) AllReadyH.nil))
    · go_simp
      refine Calls.mono (first_c _) ?_
      rintro e wv ⟨rfl, hb⟩
      have hS2 := hS.below hb
      refine hK.out _ _ ⟨hS2.box.cell 0, hS2.box.cell 1, hS2.box.cell 2, hS2.box.cell 3, hS2.box.cell 4, hS2.box.cell 5⟩ (fun hSw => ?_)
      clear hK K hSw
      simp only [List.setIfInBounds_toArray, List.set_cons_zero, List.set_cons_succ]
      exact F4_101 p0 p2 _ hS2
    · go_simp
      have hS2 := St.at_ [p0] [p2] hS
      refine hK.out _ _ ⟨hS2.box.cell 0, hS2.box.cell 1, hS2.box.cell 2, hS2.box.cell 3, hS2.box.cell 4, hS2.box.cell 5⟩ (fun hSw => ?_)
      clear hK K hSw
      simp only [List.setIfInBounds_toArray, List.set_cons_zero, List.set_cons_succ]
      exact F3_111 p0 w.heap.size p2 _ hS2
  simp only [setL, List.setIfInBounds_toArray, List.set_cons_zero, List.set_cons_succ] at F3_101
  refine keep (fun ops Q S a => ∀ (p1 p2 : Nat) (w : World), St w0 w b v ce2 secondV [p1, p2] → wpAnyH Try.prog .any ops Q S 6 #[true, true, true, true, true, true, true, false, false, false, true, true, false, false, false] ⟨setL a.tmps [(14, .agg firstV.cs), (15, .agg (ce1.told true)), (18, .agg (ce2.told true)), (5, .pointer (some ⟨p1, 0, none⟩)), (6, .pointer (some ⟨p2, 0, none⟩))], a.defers⟩ w) ?_ (fun F3_011 => ?_)
  · intro p1 p2 w hS
    simp only [setL, List.setIfInBounds_toArray, List.set_cons_zero, List.set_cons_succ]
    refine wpAnyH_ready (fuel := 5) (rs := [7, 9]) (by kernel_rfl) (by simp) (AllReadyH.cons rfl (fun K hK => ?_) (AllReadyH.cons rfl (fun K hK => ?_) AllReadyH.nil))
    · go_simp
      refine Calls.mono (first_c _) ?_
      rintro e wv ⟨rfl, hb⟩
      have hS2 := hS.below hb
      refine hK.out _ _ ⟨hS2.box.cell 0, hS2.box.cell 1, hS2.box.cell 2, hS2.box.cell 3, hS2.box.cell 4, hS2.box.cell 5⟩ (fun hSw => ?_)
      clear hK K hSw
      simp only [List.setIfInBounds_toArray, List.set_cons_zero, List.set_cons_succ]
      exact F4_011 p1 p2 _ hS2
    · go_simp
      have hS2 := St.at_ [] [p1, p2] hS
      refine hK.out _ _ ⟨hS2.box.cell 0, hS2.box.cell 1, hS2.box.cell 2, hS2.box.cell 3, hS2.box.cell 4, hS2.box.cell 5⟩ (fun hSw => ?_)
      clear hK K hSw
      simp only [List.setIfInBounds_toArray, List.set_cons_zero, List.set_cons_succ]
      exact F3_111  w.heap.size p1 p2 _ hS2
  simp only [setL, List.setIfInBounds_toArray, List.set_cons_zero, List.set_cons_succ] at F3_011
  refine keep (fun ops Q S a => ∀ (p0 : Nat) (w : World), St w0 w b v ce2 secondV [p0] → wpAnyH Try.prog .any ops Q S 7 #[true, true, true, true, true, true, true, false, false, true, false, false, false, false, false] ⟨setL a.tmps [(14, .agg firstV.cs), (15, .agg (ce1.told true)), (18, .agg (ce2.told true)), (4, .pointer (some ⟨p0, 0, none⟩))], a.defers⟩ w) ?_ (fun F3_100 => ?_)
  · intro p0 w hS
    simp only [setL, List.setIfInBounds_toArray, List.set_cons_zero, List.set_cons_succ]
    refine wpAnyH_ready (fuel := 6) (rs := [7, 10, 11]) (by kernel_rfl) (by simp) (AllReadyH.cons rfl (fun K hK => ?_) (AllReadyH.cons rfl (fun K hK => ?_) (AllReadyH.cons rfl (fun K hK => ?_) AllReadyH.nil)))
    · go_simp
      refine Calls.mono (first_c _) ?_
      rintro e wv ⟨rfl, hb⟩
      have hS2 := hS.below hb
      refine hK.out _ _ ⟨hS2.box.cell 0, hS2.box.cell 1, hS2.box.cell 2, hS2.box.cell 3, hS2.box.cell 4, hS2.box.cell 5⟩ (fun hSw => ?_)
      clear hK K hSw
      simp only [List.setIfInBounds_toArray, List.set_cons_zero, List.set_cons_succ]
      exact F4_100 p0 _ hS2
    · go_simp
      have hS2 := St.at_ [p0] [] hS
      refine hK.out _ _ ⟨hS2.box.cell 0, hS2.box.cell 1, hS2.box.cell 2, hS2.box.cell 3, hS2.box.cell 4, hS2.box.cell 5⟩ (fun hSw => ?_)
      clear hK K hSw
      simp only [List.setIfInBounds_toArray, List.set_cons_zero, List.set_cons_succ]
      exact F3_110 p0 w.heap.size  _ hS2
    · go_simp
      have hS2 := St.at_ [p0] [] hS
      refine hK.out _ _ ⟨hS2.box.cell 0, hS2.box.cell 1, hS2.box.cell 2, hS2.box.cell 3, hS2.box.cell 4, hS2.box.cell 5⟩ (fun hSw => ?_)
      clear hK K hSw
      simp only [List.setIfInBounds_toArray, List.set_cons_zero, List.set_cons_succ]
      exact F3_101 p0 w.heap.size  _ hS2
  simp only [setL, List.setIfInBounds_toArray, List.set_cons_zero, List.set_cons_succ] at F3_100
  refine keep (fun ops Q S a => ∀ (p1 : Nat) (w : World), St w0 w b v ce2 secondV [p1] → wpAnyH Try.prog .any ops Q S 7 #[true, true, true, true, true, true, true, false, false, false, true, false, false, false, false] ⟨setL a.tmps [(14, .agg firstV.cs), (15, .agg (ce1.told true)), (18, .agg (ce2.told true)), (5, .pointer (some ⟨p1, 0, none⟩))], a.defers⟩ w) ?_ (fun F3_010 => ?_)
  · intro p1 w hS
    simp only [setL, List.setIfInBounds_toArray, List.set_cons_zero, List.set_cons_succ]
    refine wpAnyH_ready (fuel := 6) (rs := [7, 9, 11]) (by kernel_rfl) (by simp) (AllReadyH.cons rfl (fun K hK => ?_) (AllReadyH.cons rfl (fun K hK => ?_) (AllReadyH.cons rfl (fun K hK => ?_) AllReadyH.nil)))
    · go_simp
      refine Calls.mono (first_c _) ?_
      rintro e wv ⟨rfl, hb⟩
      have hS2 := hS.below hb
      refine hK.out _ _ ⟨hS2.box.cell 0, hS2.box.cell 1, hS2.box.cell 2, hS2.box.cell 3, hS2.box.cell 4, hS2.box.cell 5⟩ (fun hSw => ?_)
      clear hK K hSw
      simp only [List.setIfInBounds_toArray, List.set_cons_zero, List.set_cons_succ]
      exact F4_010 p1 _ hS2
    · go_simp
      have hS2 := St.at_ [] [p1] hS
      refine hK.out _ _ ⟨hS2.box.cell 0, hS2.box.cell 1, hS2.box.cell 2, hS2.box.cell 3, hS2.box.cell 4, hS2.box.cell 5⟩ (fun hSw => ?_)
      clear hK K hSw
      simp only [List.setIfInBounds_toArray, List.set_cons_zero, List.set_cons_succ]
      exact F3_110  w.heap.size p1 _ hS2
    · go_simp
      have hS2 := St.at_ [p1] [] hS
      refine hK.out _ _ ⟨hS2.box.cell 0, hS2.box.cell 1, hS2.box.cell 2, hS2.box.cell 3, hS2.box.cell 4, hS2.box.cell 5⟩ (fun hSw => ?_)
      clear hK K hSw
      simp only [List.setIfInBounds_toArray, List.set_cons_zero, List.set_cons_succ]
      exact F3_011 p1 w.heap.size  _ hS2
  simp only [setL, List.setIfInBounds_toArray, List.set_cons_zero, List.set_cons_succ] at F3_010
  refine keep (fun ops Q S a => ∀ (p2 : Nat) (w : World), St w0 w b v ce2 secondV [p2] → wpAnyH Try.prog .any ops Q S 7 #[true, true, true, true, true, true, true, false, false, false, false, true, false, false, false] ⟨setL a.tmps [(14, .agg firstV.cs), (15, .agg (ce1.told true)), (18, .agg (ce2.told true)), (6, .pointer (some ⟨p2, 0, none⟩))], a.defers⟩ w) ?_ (fun F3_001 => ?_)
  · intro p2 w hS
    simp only [setL, List.setIfInBounds_toArray, List.set_cons_zero, List.set_cons_succ]
    refine wpAnyH_ready (fuel := 6) (rs := [7, 9, 10]) (by kernel_rfl) (by simp) (AllReadyH.cons rfl (fun K hK => ?_) (AllReadyH.cons rfl (fun K hK => ?_) (AllReadyH.cons rfl (fun K hK => ?_) AllReadyH.nil)))
    · go_simp
      refine Calls.mono (first_c _) ?_
      rintro e wv ⟨rfl, hb⟩
      have hS2 := hS.below hb
      refine hK.out _ _ ⟨hS2.box.cell 0, hS2.box.cell 1, hS2.box.cell 2, hS2.box.cell 3, hS2.box.cell 4, hS2.box.cell 5⟩ (fun hSw => ?_)
      clear hK K hSw
      simp only [List.setIfInBounds_toArray, List.set_cons_zero, List.set_cons_succ]
      exact F4_001 p2 _ hS2
    · go_simp
      have hS2 := St.at_ [] [p2] hS
      refine hK.out _ _ ⟨hS2.box.cell 0, hS2.box.cell 1, hS2.box.cell 2, hS2.box.cell 3, hS2.box.cell 4, hS2.box.cell 5⟩ (fun hSw => ?_)
      clear hK K hSw
      simp only [List.setIfInBounds_toArray, List.set_cons_zero, List.set_cons_succ]
      exact F3_101  w.heap.size p2 _ hS2
    · go_simp
      have hS2 := St.at_ [] [p2] hS
      refine hK.out _ _ ⟨hS2.box.cell 0, hS2.box.cell 1, hS2.box.cell 2, hS2.box.cell 3, hS2.box.cell 4, hS2.box.cell 5⟩ (fun hSw => ?_)
      clear hK K hSw
      simp only [List.setIfInBounds_toArray, List.set_cons_zero, List.set_cons_succ]
      exact F3_011  w.heap.size p2 _ hS2
  simp only [setL, List.setIfInBounds_toArray, List.set_cons_zero, List.set_cons_succ] at F3_001
  refine keep (fun ops Q S a => ∀ (w : World), St w0 w b v ce2 secondV [] → wpAnyH Try.prog .any ops Q S 8 #[true, true, true, true, true, true, true, false, false, false, false, false, false, false, false] ⟨setL a.tmps [(14, .agg firstV.cs), (15, .agg (ce1.told true)), (18, .agg (ce2.told true))], a.defers⟩ w) ?_ (fun F3_000 => ?_)
  · intro  w hS
    simp only [setL, List.setIfInBounds_toArray, List.set_cons_zero, List.set_cons_succ]
    refine wpAnyH_ready (fuel := 7) (rs := [7, 9, 10, 11]) (by kernel_rfl) (by simp) (AllReadyH.cons rfl (fun K hK => ?_) (AllReadyH.cons rfl (fun K hK => ?_) (AllReadyH.cons rfl (fun K hK => ?_) (AllReadyH.cons rfl (fun K hK => ?_) AllReadyH.nil))))
    · go_simp
      refine Calls.mono (first_c _) ?_
      rintro e wv ⟨rfl, hb⟩
      have hS2 := hS.below hb
      refine hK.out _ _ ⟨hS2.box.cell 0, hS2.box.cell 1, hS2.box.cell 2, hS2.box.cell 3, hS2.box.cell 4, hS2.box.cell 5⟩ (fun hSw => ?_)
      clear hK K hSw
      simp only [List.setIfInBounds_toArray, List.set_cons_zero, List.set_cons_succ]
      exact F4_000  _ hS2
    · go_simp
      have hS2 := St.at_ [] [] hS
      refine hK.out _ _ ⟨hS2.box.cell 0, hS2.box.cell 1, hS2.box.cell 2, hS2.box.cell 3, hS2.box.cell 4, hS2.box.cell 5⟩ (fun hSw => ?_)
      clear hK K hSw
      simp only [List.setIfInBounds_toArray, List.set_cons_zero, List.set_cons_succ]
      exact F3_100  w.heap.size  _ hS2
    · go_simp
      have hS2 := St.at_ [] [] hS
      refine hK.out _ _ ⟨hS2.box.cell 0, hS2.box.cell 1, hS2.box.cell 2, hS2.box.cell 3, hS2.box.cell 4, hS2.box.cell 5⟩ (fun hSw => ?_)
      clear hK K hSw
      simp only [List.setIfInBounds_toArray, List.set_cons_zero, List.set_cons_succ]
      exact F3_010  w.heap.size  _ hS2
    · go_simp
      have hS2 := St.at_ [] [] hS
      refine hK.out _ _ ⟨hS2.box.cell 0, hS2.box.cell 1, hS2.box.cell 2, hS2.box.cell 3, hS2.box.cell 4, hS2.box.cell 5⟩ (fun hSw => ?_)
      clear hK K hSw
      simp only [List.setIfInBounds_toArray, List.set_cons_zero, List.set_cons_succ]
      exact F3_001  w.heap.size  _ hS2
  simp only [setL, List.setIfInBounds_toArray, List.set_cons_zero, List.set_cons_succ] at F3_000
  refine keep (fun ops Q S a => ∀ (p0 p1 p2 : Nat) (w : World), St w0 w b v ce1 secondV [p0, p1, p2] → wpAnyH Try.prog .any ops Q S 6 #[true, true, true, true, true, false, true, false, false, true, true, true, false, false, false] ⟨setL a.tmps [(14, .agg firstV.cs), (15, .agg (ce1.told true)), (4, .pointer (some ⟨p0, 0, none⟩)), (5, .pointer (some ⟨p1, 0, none⟩)), (6, .pointer (some ⟨p2, 0, none⟩))], a.defers⟩ w) ?_ (fun F2_111 => ?_)
  · intro p0 p1 p2 w hS
    simp only [setL, List.setIfInBounds_toArray, List.set_cons_zero, List.set_cons_succ]
    refine wpAnyH_ready (fuel := 5) (rs := [5]) (by kernel_rfl) (by simp) (AllReadyH.cons rfl (fun K hK => ?_) AllReadyH.nil)
    · go_simp
      refine Calls.mono (hpr2 w hS) ?_
      rintro e wv ⟨rfl, hc, hk⟩
      have hS2 := hS.kp hc hk
      refine hK.out _ _ ⟨hS2.box.cell 0, hS2.box.cell 1, hS2.box.cell 2, hS2.box.cell 3, hS2.box.cell 4, hS2.box.cell 5⟩ (fun hSw => ?_)
      clear hK K hSw
      simp only [List.setIfInBounds_toArray, List.set_cons_zero, List.set_cons_succ]
      exact F3_111 p0 p1 p2 _ hS2
  simp only [setL, List.setIfInBounds_toArray, List.set_cons_zero, List.set_cons_succ] at F2_111
  refine keep (fun ops Q S a => ∀ (p0 p1 : Nat) (w : World), St w0 w b v ce1 secondV [p0, p1] → wpAnyH Try.prog .any ops Q S 7 #[true, true, true, true, true, false, true, false, false, true, true, false, false, false, false] ⟨setL a.tmps [(14, .agg firstV.cs), (15, .agg (ce1.told true)), (4, .pointer (some ⟨p0, 0, none⟩)), (5, .pointer (some ⟨p1, 0, none⟩))], a.defers⟩ w) ?_ (fun F2_110 => ?_)
  · intro p0 p1 w hS
    simp only [setL, List.setIfInBounds_toArray, List.set_cons_zero, List.set_cons_succ]
    refine wpAnyH_ready (fuel := 6) (rs := [5, 11]) (by kernel_rfl) (by simp) (AllReadyH.cons rfl (fun K hK => ?_) (AllReadyH.cons rfl (fun K hK => ?_) AllReadyH.nil))
    · go_simp
      refine Calls.mono (hpr2 w hS) ?_
      rintro e wv ⟨rfl, hc, hk⟩
      have hS2 := hS.kp hc hk
      refine hK.out _ _ ⟨hS2.box.cell 0, hS2.box.cell 1, hS2.box.cell 2, hS2.box.cell 3, hS2.box.cell 4, hS2.box.cell 5⟩ (fun hSw => ?_)
      clear hK K hSw
      simp only [List.setIfInBounds_toArray, List.set_cons_zero, List.set_cons_succ]
      exact F3_110 p0 p1 _ hS2
    · go_simp
      have hS2 := St.at_ [p0, p1] [] hS
      refine hK.out _ _ ⟨hS2.box.cell 0, hS2.box.cell 1, hS2.box.cell 2, hS2.box.cell 3, hS2.box.cell 4, hS2.box.cell 5⟩ (fun hSw => ?_)
      clear hK K hSw
      simp only [List.setIfInBounds_toArray, List.set_cons_zero, List.set_cons_succ]
      exact F2_111 p0 p1 w.heap.size  _ hS2
  simp only [setL, List.setIfInBounds_toArray, List.set_cons_zero, List.set_cons_succ] at F2_110
  refine keep (fun ops Q S a => ∀ (p0 p2 : Nat) (w : World), St w0 w b v ce1 secondV [p0, p2] → wpAnyH Try.prog .any ops Q S 7 #[true, true, true, true, true, false, true, false, false, true, false, true, false, false, false] ⟨setL a.tmps [(14, .agg firstV.cs), (15, .agg (ce1.told true)), (4, .pointer (some ⟨p0, 0, none⟩)), (6, .pointer (some ⟨p2, 0, none⟩))], a.defers⟩ w) ?_ (fun F2_101 => ?_)
  · intro p0 p2 w hS
    simp only [setL, List.setIfInBounds_toArray, List.set_cons_zero, List.set_cons_succ]
    refine wpAnyH_ready (fuel := 6) (rs := [5, 10]) (by kernel_rfl) (by simp) (AllReadyH.cons rfl (fun K hK => ?_) (AllReadyH.cons rfl (fun K hK => ?_) AllReadyH.nil))
    · go_simp
      refine Calls.mono (hpr2 w hS) ?_
      rintro e wv ⟨rfl, hc, hk⟩
      have hS2 := hS.kp hc hk
      refine hK.out _ _ ⟨hS2.box.cell 0, hS2.box.cell 1, hS2.box.cell 2, hS2.box.cell 3, hS2.box.cell 4, hS2.box.cell 5⟩ (fun hSw => ?_)
      clear hK K hSw
      simp only [List.setIfInBounds_toArray, List.set_cons_zero, List.set_cons_succ]
      exact F3_101 p0 p2 _ hS2
    · go_simp
      have hS2 := St.at_ [p0] [p2] hS
      refine hK.out _ _ ⟨hS2.box.cell 0, hS2.box.cell 1, hS2.box.cell 2, hS2.box.cell 3, hS2.box.cell 4, hS2.box.cell 5⟩ (fun hSw => ?_)
      clear hK K hSw
      simp only [List.setIfInBounds_toArray, List.set_cons_zero, List.set_cons_succ]
      exact F2_111 p0 w.heap.size p2 _ hS2
  simp only [setL, List.setIfInBounds_toArray, List.set_cons_zero, List.set_cons_succ] at F2_101
  refine keep (fun ops Q S a => ∀ (p1 p2 : Nat) (w : World), St w0 w b v ce1 secondV [p1, p2] → wpAnyH Try.prog .any ops Q S 7 #[true, true, true, true, true, false, true, false, false, false, true, true, false, false, false] ⟨setL a.tmps [(14, .agg firstV.cs), (15, .agg (ce1.told true)), (5, .pointer (some ⟨p1, 0, none⟩)), (6, .pointer (some ⟨p2, 0, none⟩))], a.defers⟩ w) ?_ (fun F2_011 => ?_)
  · intro p1 p2 w hS
    simp only [setL, List.setIfInBounds_toArray, List.set_cons_zero, List.set_cons_succ]
    refine wpAnyH_ready (fuel := 6) (rs := [5, 9]) (by kernel_rfl) (by simp) (AllReadyH.cons rfl (fun K hK => ?_) (AllReadyH.cons rfl (fun K hK => ?_) AllReadyH.nil))
    · go_simp
      refine Calls.mono (hpr2 w hS) ?_
      rintro e wv ⟨rfl, hc, hk⟩
      have hS2 := hS.kp hc hk
      refine hK.out _ _ ⟨hS2.box.cell 0, hS2.box.cell 1, hS2.box.cell 2, hS2.box.cell 3, hS2.box.cell 4, hS2.box.cell 5⟩ (fun hSw => ?_)
      clear hK K hSw
      simp only [List.setIfInBounds_toArray, List.set_cons_zero, List.set_cons_succ]
      exact F3_011 p1 p2 _ hS2
    · go_simp
      have hS2 := St.at_ [] [p1, p2] hS
      refine hK.out _ _ ⟨hS2.box.cell 0, hS2.box.cell 1, hS2.box.cell 2, hS2.box.cell 3, hS2.box.cell 4, hS2.box.cell 5⟩ (fun hSw => ?_)
      clear hK K hSw
      simp only [List.setIfInBounds_toArray, List.set_cons_zero, List.set_cons_succ]
      exact F2_111  w.heap.size p1 p2 _ hS2
  simp only [setL, List.setIfInBounds_toArray, List.set_cons_zero, List.set_cons_succ] at F2_011
  refine keep (fun ops Q S a => ∀ (p0 : Nat) (w : World), St w0 w b v ce1 secondV [p0] → wpAnyH Try.prog .any ops Q S 8 #[true, true, true, true, true, false, true, false, false, true, false, false, false, false, false] ⟨setL a.tmps [(14, .agg firstV.cs), (15, .agg (ce1.told true)), (4, .pointer (some ⟨p0, 0, none⟩))], a.defers⟩ w) ?_ (fun F2_100 => ?_)
  · intro p0 w hS
    simp only [setL, List.setIfInBounds_toArray, List.set_cons_zero, List.set_cons_succ]
    refine wpAnyH_ready (fuel := 7) (rs := [5, 10, 11]) (by kernel_rfl) (by simp) (AllReadyH.cons rfl (fun K hK => ?_) (AllReadyH.cons rfl (fun K hK => ?_) (AllReadyH.cons rfl (fun K hK => ?_) AllReadyH.nil)))
    · go_simp
      refine Calls.mono (hpr2 w hS) ?_
      rintro e wv ⟨rfl, hc, hk⟩
      have hS2 := hS.kp hc hk
      refine hK.out _ _ ⟨hS2.box.cell 0, hS2.box.cell 1, hS2.box.cell 2, hS2.box.cell 3, hS2.box.cell 4, hS2.box.cell 5⟩ (fun hSw => ?_)
      clear hK K hSw
      simp only [List.setIfInBounds_toArray, List.set_cons_zero, List.set_cons_succ]
      exact F3_100 p0 _ hS2
    · go_simp
      have hS2 := St.at_ [p0] [] hS
      refine hK.out _ _ ⟨hS2.box.cell 0, hS2.box.cell 1, hS2.box.cell 2, hS2.box.cell 3, hS2.box.cell 4, hS2.box.cell 5⟩ (fun hSw => ?_)
      clear hK K hSw
      simp only [List.setIfInBounds_toArray, List.set_cons_zero, List.set_cons_succ]
      exact F2_110 p0 w.heap.size  _ hS2
    · go_simp
      have hS2 := St.at_ [p0] [] hS
      refine hK.out _ _ ⟨hS2.box.cell 0, hS2.box.cell 1, hS2.box.cell 2, hS2.box.cell 3, hS2.box.cell 4, hS2.box.cell 5⟩ (fun hSw => ?_)
      clear hK K hSw
      simp only [List.setIfInBounds_toArray, List.set_cons_zero, List.set_cons_succ]
      exact F2_101 p0 w.heap.size  _ hS2
  simp only [setL, List.setIfInBounds_toArray, List.set_cons_zero, List.set_cons_succ] at F2_100
  refine keep (fun ops Q S a => ∀ (p1 : Nat) (w : World), St w0 w b v ce1 secondV [p1] → wpAnyH Try.prog .any ops Q S 8 #[true, true, true, true, true, false, true, false, false, false, true, false, false, false, false] ⟨setL a.tmps [(14, .agg firstV.cs), (15, .agg (ce1.told true)), (5, .pointer (some ⟨p1, 0, none⟩))], a.defers⟩ w) ?_ (fun F2_010 => ?_)
  · intro p1 w hS
    simp only [setL, List.setIfInBounds_toArray, List.set_cons_zero, List.set_cons_succ]
    refine wpAnyH_ready (fuel := 7) (rs := [5, 9, 11]) (by kernel_rfl) (by simp) (AllReadyH.cons rfl (fun K hK => ?_) (AllReadyH.cons rfl (fun K hK => ?_) (AllReadyH.cons rfl (fun K hK => ?_) AllReadyH.nil)))
    · go_simp
      refine Calls.mono (hpr2 w hS) ?_
      rintro e wv ⟨rfl, hc, hk⟩
      have hS2 := hS.kp hc hk
      refine hK.out _ _ ⟨hS2.box.cell 0, hS2.box.cell 1, hS2.box.cell 2, hS2.box.cell 3, hS2.box.cell 4, hS2.box.cell 5⟩ (fun hSw => ?_)
      clear hK K hSw
      simp only [List.setIfInBounds_toArray, List.set_cons_zero, List.set_cons_succ]
      exact F3_010 p1 _ hS2
    · go_simp
      have hS2 := St.at_ [] [p1] hS
      refine hK.out _ _ ⟨hS2.box.cell 0, hS2.box.cell 1, hS2.box.cell 2, hS2.box.cell 3, hS2.box.cell 4, hS2.box.cell 5⟩ (fun hSw => ?_)
      clear hK K hSw
      simp only [List.setIfInBounds_toArray, List.set_cons_zero, List.set_cons_succ]
      exact F2_110  w.heap.size p1 _ hS2
    · go_simp
      have hS2 := St.at_ [p1] [] hS
      refine hK.out _ _ ⟨hS2.box.cell 0, hS2.box.cell 1, hS2.box.cell 2, hS2.box.cell 3, hS2.box.cell 4, hS2.box.cell 5⟩ (fun hSw => ?_)
      clear hK K hSw
      simp only [List.setIfInBounds_toArray, List.set_cons_zero, List.set_cons_succ]
      exact F2_011 p1 w.heap.size  _ hS2
  simp only [setL, List.setIfInBounds_toArray, List.set_cons_zero, List.set_cons_succ] at F2_010
  refine keep (fun ops Q S a => ∀ (p2 : Nat) (w : World), St w0 w b v ce1 secondV [p2] → wpAnyH Try.prog .any ops Q S 8 #[true, true, true, true, true, false, true, false, false, false, false, true, false, false, false] ⟨setL a.tmps [(14, .agg firstV.cs), (15, .agg (ce1.told true)), (6, .pointer (some ⟨p2, 0, none⟩))], a.defers⟩ w) ?_ (fun F2_001 => ?_)
  · intro p2 w hS
    simp only [setL, List.setIfInBounds_toArray, List.set_cons_zero, List.set_cons_succ]
    refine wpAnyH_ready (fuel := 7) (rs := [5, 9, 10]) (by kernel_rfl) (by simp) (AllReadyH.cons rfl (fun K hK => ?_) (AllReadyH.cons rfl (fun K hK => ?_) (AllReadyH.cons rfl (fun K hK => ?_) AllReadyH.nil)))
    · go_simp
      refine Calls.mono (hpr2 w hS) ?_
      rintro e wv ⟨rfl, hc, hk⟩
      have hS2 := hS.kp hc hk
      refine hK.out _ _ ⟨hS2.box.cell 0, hS2.box.cell 1, hS2.box.cell 2, hS2.box.cell 3, hS2.box.cell 4, hS2.box.cell 5⟩ (fun hSw => ?_)
      clear hK K hSw
      simp only [List.setIfInBounds_toArray, List.set_cons_zero, List.set_cons_succ]
      exact F3_001 p2 _ hS2
    · go_simp
      have hS2 := St.at_ [] [p2] hS
      refine hK.out _ _ ⟨hS2.box.cell 0, hS2.box.cell 1, hS2.box.cell 2, hS2.box.cell 3, hS2.box.cell 4, hS2.box.cell 5⟩ (fun hSw => ?_)
      clear hK K hSw
      simp only [List.setIfInBounds_toArray, List.set_cons_zero, List.set_cons_succ]
      exact F2_101  w.heap.size p2 _ hS2
    · go_simp
      have hS2 := St.at_ [] [p2] hS
      refine hK.out _ _ ⟨hS2.box.cell 0, hS2.box.cell 1, hS2.box.cell 2, hS2.box.cell 3, hS2.box.cell 4, hS2.box.cell 5⟩ (fun hSw => ?_)
      clear hK K hSw
      simp only [List.setIfInBounds_toArray, List.set_cons_zero, List.set_cons_succ]
      exact F2_011  w.heap.size p2 _ hS2
  simp only [setL, List.setIfInBounds_toArray, List.set_cons_zero, List.set_cons_succ] at F2_001
  refine keep (fun ops Q S a => ∀ (w : World), St w0 w b v ce1 secondV [] → wpAnyH Try.prog .any ops Q S 9 #[true, true, true, true, true, false, true, false, false, false, false, false, false, false, false] ⟨setL a.tmps [(14, .agg firstV.cs), (15, .agg (ce1.told true))], a.defers⟩ w) ?_ (fun F2_000 => ?_)
  · intro  w hS
    simp only [setL, List.setIfInBounds_toArray, List.set_cons_zero, List.set_cons_succ]
    refine wpAnyH_ready (fuel := 8) (rs := [5, 9, 10, 11]) (by kernel_rfl) (by simp) (AllReadyH.cons rfl (fun K hK => ?_) (AllReadyH.cons rfl (fun K hK => ?_) (AllReadyH.cons rfl (fun K hK => ?_) (AllReadyH.cons rfl (fun K hK => ?_) AllReadyH.nil))))
    · go_simp
      refine Calls.mono (hpr2 w hS) ?_
      rintro e wv ⟨rfl, hc, hk⟩
      have hS2 := hS.kp hc hk
      refine hK.out _ _ ⟨hS2.box.cell 0, hS2.box.cell 1, hS2.box.cell 2, hS2.box.cell 3, hS2.box.cell 4, hS2.box.cell 5⟩ (fun hSw => ?_)
      clear hK K hSw
      simp only [List.setIfInBounds_toArray, List.set_cons_zero, List.set_cons_succ]
      exact F3_000  _ hS2
    · go_simp
      have hS2 := St.at_ [] [] hS
      refine hK.out _ _ ⟨hS2.box.cell 0, hS2.box.cell 1, hS2.box.cell 2, hS2.box.cell 3, hS2.box.cell 4, hS2.box.cell 5⟩ (fun hSw => ?_)
      clear hK K hSw
      simp only [List.setIfInBounds_toArray, List.set_cons_zero, List.set_cons_succ]
      exact F2_100  w.heap.size  _ hS2
    · go_simp
      have hS2 := St.at_ [] [] hS
      refine hK.out _ _ ⟨hS2.box.cell 0, hS2.box.cell 1, hS2.box.cell 2, hS2.box.cell 3, hS2.box.cell 4, hS2.box.cell 5⟩ (fun hSw => ?_)
      clear hK K hSw
      simp only [List.setIfInBounds_toArray, List.set_cons_zero, List.set_cons_succ]
      exact F2_010  w.heap.size  _ hS2
    · go_simp
      have hS2 := St.at_ [] [] hS
      refine hK.out _ _ ⟨hS2.box.cell 0, hS2.box.cell 1, hS2.box.cell 2, hS2.box.cell 3, hS2.box.cell 4, hS2.box.cell 5⟩ (fun hSw => ?_)
      clear hK K hSw
      simp only [List.setIfInBounds_toArray, List.set_cons_zero, List.set_cons_succ]
      exact F2_001  w.heap.size  _ hS2
  simp only [setL, List.setIfInBounds_toArray, List.set_cons_zero, List.set_cons_succ] at F2_000
  refine keep (fun ops Q S a => ∀ (p0 p1 p2 : Nat) (w : World), St w0 w b v (Ce.new firstV) secondV [p0, p1, p2] → wpAnyH Try.prog .any ops Q S 7 #[true, true, false, true, true, false, true, false, false, true, true, true, false, false, false] ⟨setL a.tmps [(14, .agg firstV.cs), (4, .pointer (some ⟨p0, 0, none⟩)), (5, .pointer (some ⟨p1, 0, none⟩)), (6, .pointer (some ⟨p2, 0, none⟩))], a.defers⟩ w) ?_ (fun F1_111 => ?_)
  · intro p0 p1 p2 w hS
    simp only [setL, List.setIfInBounds_toArray, List.set_cons_zero, List.set_cons_succ]
    refine wpAnyH_ready (fuel := 6) (rs := [2]) (by kernel_rfl) (by simp) (AllReadyH.cons rfl (fun K hK => ?_) AllReadyH.nil)
    · go_simp
      refine Calls.mono (hpr1 w hS) ?_
      rintro e wv ⟨rfl, hc, hk⟩
      have hS2 := hS.kp hc hk
      refine hK.out _ _ ⟨hS2.box.cell 0, hS2.box.cell 1, hS2.box.cell 2, hS2.box.cell 3, hS2.box.cell 4, hS2.box.cell 5⟩ (fun hSw => ?_)
      clear hK K hSw
      simp only [List.setIfInBounds_toArray, List.set_cons_zero, List.set_cons_succ]
      exact F2_111 p0 p1 p2 _ hS2
  simp only [setL, List.setIfInBounds_toArray, List.set_cons_zero, List.set_cons_succ] at F1_111
  refine keep (fun ops Q S a => ∀ (p0 p1 : Nat) (w : World), St w0 w b v (Ce.new firstV) secondV [p0, p1] → wpAnyH Try.prog .any ops Q S 8 #[true, true, false, true, true, false, true, false, false, true, true, false, false, false, false] ⟨setL a.tmps [(14, .agg firstV.cs), (4, .pointer (some ⟨p0, 0, none⟩)), (5, .pointer (some ⟨p1, 0, none⟩))], a.defers⟩ w) ?_ (fun F1_110 => ?_)
  · intro p0 p1 w hS
    simp only [setL, List.setIfInBounds_toArray, List.set_cons_zero, List.set_cons_succ]
    refine wpAnyH_ready (fuel := 7) (rs := [2, 11]) (by kernel_rfl) (by simp) (AllReadyH.cons rfl (fun K hK => ?_) (AllReadyH.cons rfl (fun K hK => ?_) AllReadyH.nil))
    · go_simp
      refine Calls.mono (hpr1 w hS) ?_
      rintro e wv ⟨rfl, hc, hk⟩
      have hS2 := hS.kp hc hk
      refine hK.out _ _ ⟨hS2.box.cell 0, hS2.box.cell 1, hS2.box.cell 2, hS2.box.cell 3, hS2.box.cell 4, hS2.box.cell 5⟩ (fun hSw => ?_)
      clear hK K hSw
      simp only [List.setIfInBounds_toArray, List.set_cons_zero, List.set_cons_succ]
      exact F2_110 p0 p1 _ hS2
    · go_simp
      have hS2 := St.at_ [p0, p1] [] hS
      refine hK.out _ _ ⟨hS2.box.cell 0, hS2.box.cell 1, hS2.box.cell 2, hS2.box.cell 3, hS2.box.cell 4, hS2.box.cell 5⟩ (fun hSw => ?_)
      clear hK K hSw
      simp only [List.setIfInBounds_toArray, List.set_cons_zero, List.set_cons_succ]
      exact F1_111 p0 p1 w.heap.size  _ hS2
  simp only [setL, List.setIfInBounds_toArray, List.set_cons_zero, List.set_cons_succ] at F1_110
  refine keep (fun ops Q S a => ∀ (p0 p2 : Nat) (w : World), St w0 w b v (Ce.new firstV) secondV [p0, p2] → wpAnyH Try.prog .any ops Q S 8 #[true, true, false, true, true, false, true, false, false, true, false, true, false, false, false] ⟨setL a.tmps [(14, .agg firstV.cs), (4, .pointer (some ⟨p0, 0, none⟩)), (6, .pointer (some ⟨p2, 0, none⟩))], a.defers⟩ w) ?_ (fun F1_101 => ?_)
  · intro p0 p2 w hS
    simp only [setL, List.setIfInBounds_toArray, List.set_cons_zero, List.set_cons_succ]
    refine wpAnyH_ready (fuel := 7) (rs := [2, 10]) (by kernel_rfl) (by simp) (AllReadyH.cons rfl (fun K hK => ?_) (AllReadyH.cons rfl (fun K hK => ?_) AllReadyH.nil))
    · go_simp
      refine Calls.mono (hpr1 w hS) ?_
      rintro e wv ⟨rfl, hc, hk⟩
      have hS2 := hS.kp hc hk
      refine hK.out _ _ ⟨hS2.box.cell 0, hS2.box.cell 1, hS2.box.cell 2, hS2.box.cell 3, hS2.box.cell 4, hS2.box.cell 5⟩ (fun hSw => ?_)
      clear hK K hSw
      simp only [List.setIfInBounds_toArray, List.set_cons_zero, List.set_cons_succ]
      exact F2_101 p0 p2 _ hS2
    · go_simp
      have hS2 := St.at_ [p0] [p2] hS
      refine hK.out _ _ ⟨hS2.box.cell 0, hS2.box.cell 1, hS2.box.cell 2, hS2.box.cell 3, hS2.box.cell 4, hS2.box.cell 5⟩ (fun hSw => ?_)
      clear hK K hSw
      simp only [List.setIfInBounds_toArray, List.set_cons_zero, List.set_cons_succ]
      exact F1_111 p0 w.heap.size p2 _ hS2
  simp only [setL, List.setIfInBounds_toArray, List.set_cons_zero, List.set_cons_succ] at F1_101
  refine keep (fun ops Q S a => ∀ (p1 p2 : Nat) (w : World), St w0 w b v (Ce.new firstV) secondV [p1, p2] → wpAnyH Try.prog .any ops Q S 8 #[true, true, false, true, true, false, true, false, false, false, true, true, false, false, false] ⟨setL a.tmps [(14, .agg firstV.cs), (5, .pointer (some ⟨p1, 0, none⟩)), (6, .pointer (some ⟨p2, 0, none⟩))], a.defers⟩ w) ?_ (fun F1_011 => ?_)
  · intro p1 p2 w hS
    simp only [setL, List.setIfInBounds_toArray, List.set_cons_zero, List.set_cons_succ]
    refine wpAnyH_ready (fuel := 7) (rs := [2, 9]) (by kernel_rfl) (by simp) (AllReadyH.cons rfl (fun K hK => ?_) (AllReadyH.cons rfl (fun K hK => ?_) AllReadyH.nil))
    · go_simp
      refine Calls.mono (hpr1 w hS) ?_
      rintro e wv ⟨rfl, hc, hk⟩
      have hS2 := hS.kp hc hk
      refine hK.out _ _ ⟨hS2.box.cell 0, hS2.box.cell 1, hS2.box.cell 2, hS2.box.cell 3, hS2.box.cell 4, hS2.box.cell 5⟩ (fun hSw => ?_)
      clear hK K hSw
      simp only [List.setIfInBounds_toArray, List.set_cons_zero, List.set_cons_succ]
      exact F2_011 p1 p2 _ hS2
    · go_simp
      have hS2 := St.at_ [] [p1, p2] hS
      refine hK.out _ _ ⟨hS2.box.cell 0, hS2.box.cell 1, hS2.box.cell 2, hS2.box.cell 3, hS2.box.cell 4, hS2.box.cell 5⟩ (fun hSw => ?_)
      clear hK K hSw
      simp only [List.setIfInBounds_toArray, List.set_cons_zero, List.set_cons_succ]
      exact F1_111  w.heap.size p1 p2 _ hS2
  simp only [setL, List.setIfInBounds_toArray, List.set_cons_zero, List.set_cons_succ] at F1_011
  refine keep (fun ops Q S a => ∀ (p0 : Nat) (w : World), St w0 w b v (Ce.new firstV) secondV [p0] → wpAnyH Try.prog .any ops Q S 9 #[true, true, false, true, true, false, true, false, false, true, false, false, false, false, false] ⟨setL a.tmps [(14, .agg firstV.cs), (4, .pointer (some ⟨p0, 0, none⟩))], a.defers⟩ w) ?_ (fun F1_100 => ?_)
  · intro p0 w hS
    simp only [setL, List.setIfInBounds_toArray, List.set_cons_zero, List.set_cons_succ]
    refine wpAnyH_ready (fuel := 8) (rs := [2, 10, 11]) (by kernel_rfl) (by simp) (AllReadyH.cons rfl (fun K hK => ?_) (AllReadyH.cons rfl (fun K hK => ?_) (AllReadyH.cons rfl (fun K hK => ?_) AllReadyH.nil)))
    · go_simp
      refine Calls.mono (hpr1 w hS) ?_
      rintro e wv ⟨rfl, hc, hk⟩
      have hS2 := hS.kp hc hk
      refine hK.out _ _ ⟨hS2.box.cell 0, hS2.box.cell 1, hS2.box.cell 2, hS2.box.cell 3, hS2.box.cell 4, hS2.box.cell 5⟩ (fun hSw => ?_)
      clear hK K hSw
      simp only [List.setIfInBounds_toArray, List.set_cons_zero, List.set_cons_succ]
      exact F2_100 p0 _ hS2
    · go_simp
      have hS2 := St.at_ [p0] [] hS
      refine hK.out _ _ ⟨hS2.box.cell 0, hS2.box.cell 1, hS2.box.cell 2, hS2.box.cell 3, hS2.box.cell 4, hS2.box.cell 5⟩ (fun hSw => ?_)
      clear hK K hSw
      simp only [List.setIfInBounds_toArray, List.set_cons_zero, List.set_cons_succ]
      exact F1_110 p0 w.heap.size  _ hS2
    · go_simp
      have hS2 := St.at_ [p0] [] hS
      refine hK.out _ _ ⟨hS2.box.cell 0, hS2.box.cell 1, hS2.box.cell 2, hS2.box.cell 3, hS2.box.cell 4, hS2.box.cell 5⟩ (fun hSw => ?_)
      clear hK K hSw
      simp only [List.setIfInBounds_toArray, List.set_cons_zero, List.set_cons_succ]
      exact F1_101 p0 w.heap.size  _ hS2
  simp only [setL, List.setIfInBounds_toArray, List.set_cons_zero, List.set_cons_succ] at F1_100
  refine keep (fun ops Q S a => ∀ (p1 : Nat) (w : World), St w0 w b v (Ce.new firstV) secondV [p1] → wpAnyH Try.prog .any ops Q S 9 #[true, true, false, true, true, false, true, false, false, false, true, false, false, false, false] ⟨setL a.tmps [(14, .agg firstV.cs), (5, .pointer (some ⟨p1, 0, none⟩))], a.defers⟩ w) ?_ (fun F1_010 => ?_)
  · intro p1 w hS
    simp only [setL, List.setIfInBounds_toArray, List.set_cons_zero, List.set_cons_succ]
    refine wpAnyH_ready (fuel := 8) (rs := [2, 9, 11]) (by kernel_rfl) (by simp) (AllReadyH.cons rfl (fun K hK => ?_) (AllReadyH.cons rfl (fun K hK => ?_) (AllReadyH.cons rfl (fun K hK => ?_) AllReadyH.nil)))
    · go_simp
      refine Calls.mono (hpr1 w hS) ?_
      rintro e wv ⟨rfl, hc, hk⟩
      have hS2 := hS.kp hc hk
      refine hK.out _ _ ⟨hS2.box.cell 0, hS2.box.cell 1, hS2.box.cell 2, hS2.box.cell 3, hS2.box.cell 4, hS2.box.cell 5⟩ (fun hSw => ?_)
      clear hK K hSw
      simp only [List.setIfInBounds_toArray, List.set_cons_zero, List.set_cons_succ]
      exact F2_010 p1 _ hS2
    · go_simp
      have hS2 := St.at_ [] [p1] hS
      refine hK.out _ _ ⟨hS2.box.cell 0, hS2.box.cell 1, hS2.box.cell 2, hS2.box.cell 3, hS2.box.cell 4, hS2.box.cell 5⟩ (fun hSw => ?_)
      clear hK K hSw
      simp only [List.setIfInBounds_toArray, List.set_cons_zero, List.set_cons_succ]
      exact F1_110  w.heap.size p1 _ hS2
    · go_simp
      have hS2 := St.at_ [p1] [] hS
      refine hK.out _ _ ⟨hS2.box.cell 0, hS2.box.cell 1, hS2.box.cell 2, hS2.box.cell 3, hS2.box.cell 4, hS2.box.cell 5⟩ (fun hSw => ?_)
      clear hK K hSw
      simp only [List.setIfInBounds_toArray, List.set_cons_zero, List.set_cons_succ]
      exact F1_011 p1 w.heap.size  _ hS2
  simp only [setL, List.setIfInBounds_toArray, List.set_cons_zero, List.set_cons_succ] at F1_010
  refine keep (fun ops Q S a => ∀ (p2 : Nat) (w : World), St w0 w b v (Ce.new firstV) secondV [p2] → wpAnyH Try.prog .any ops Q S 9 #[true, true, false, true, true, false, true, false, false, false, false, true, false, false, false] ⟨setL a.tmps [(14, .agg firstV.cs), (6, .pointer (some ⟨p2, 0, none⟩))], a.defers⟩ w) ?_ (fun F1_001 => ?_)
  · intro p2 w hS
    simp only [setL, List.setIfInBounds_toArray, List.set_cons_zero, List.set_cons_succ]
    refine wpAnyH_ready (fuel := 8) (rs := [2, 9, 10]) (by kernel_rfl) (by simp) (AllReadyH.cons rfl (fun K hK => ?_) (AllReadyH.cons rfl (fun K hK => ?_) (AllReadyH.cons rfl (fun K hK => ?_) AllReadyH.nil)))
    · go_simp
      refine Calls.mono (hpr1 w hS) ?_
      rintro e wv ⟨rfl, hc, hk⟩
      have hS2 := hS.kp hc hk
      refine hK.out _ _ ⟨hS2.box.cell 0, hS2.box.cell 1, hS2.box.cell 2, hS2.box.cell 3, hS2.box.cell 4, hS2.box.cell 5⟩ (fun hSw => ?_)
      clear hK K hSw
      simp only [List.setIfInBounds_toArray, List.set_cons_zero, List.set_cons_succ]
      exact F2_001 p2 _ hS2
    · go_simp
      have hS2 := St.at_ [] [p2] hS
      refine hK.out _ _ ⟨hS2.box.cell 0, hS2.box.cell 1, hS2.box.cell 2, hS2.box.cell 3, hS2.box.cell 4, hS2.box.cell 5⟩ (fun hSw => ?_)
      clear hK K hSw
      simp only [List.setIfInBounds_toArray, List.set_cons_zero, List.set_cons_succ]
      exact F1_101  w.heap.size p2 _ hS2
    · go_simp
      have hS2 := St.at_ [] [p2] hS
      refine hK.out _ _ ⟨hS2.box.cell 0, hS2.box.cell 1, hS2.box.cell 2, hS2.box.cell 3, hS2.box.cell 4, hS2.box.cell 5⟩ (fun hSw => ?_)
      clear hK K hSw
      simp only [List.setIfInBounds_toArray, List.set_cons_zero, List.set_cons_succ]
      exact F1_011  w.heap.size p2 _ hS2
  simp only [setL, List.setIfInBounds_toArray, List.set_cons_zero, List.set_cons_succ] at F1_001
  refine keep (fun ops Q S a => ∀ (w : World), St w0 w b v (Ce.new firstV) secondV [] → wpAnyH Try.prog .any ops Q S 10 #[true, true, false, true, true, false, true, false, false, false, false, false, false, false, false] ⟨setL a.tmps [(14, .agg firstV.cs)], a.defers⟩ w) ?_ (fun F1_000 => ?_)
  · intro  w hS
    simp only [setL, List.setIfInBounds_toArray, List.set_cons_zero, List.set_cons_succ]
    refine wpAnyH_ready (fuel := 9) (rs := [2, 9, 10, 11]) (by kernel_rfl) (by simp) (AllReadyH.cons rfl (fun K hK => ?_) (AllReadyH.cons rfl (fun K hK => ?_) (AllReadyH.cons rfl (fun K hK => ?_) (AllReadyH.cons rfl (fun K hK => ?_) AllReadyH.nil))))
    · go_simp
      refine Calls.mono (hpr1 w hS) ?_
      rintro e wv ⟨rfl, hc, hk⟩
      have hS2 := hS.kp hc hk
      refine hK.out _ _ ⟨hS2.box.cell 0, hS2.box.cell 1, hS2.box.cell 2, hS2.box.cell 3, hS2.box.cell 4, hS2.box.cell 5⟩ (fun hSw => ?_)
      clear hK K hSw
      simp only [List.setIfInBounds_toArray, List.set_cons_zero, List.set_cons_succ]
      exact F2_000  _ hS2
    · go_simp
      have hS2 := St.at_ [] [] hS
      refine hK.out _ _ ⟨hS2.box.cell 0, hS2.box.cell 1, hS2.box.cell 2, hS2.box.cell 3, hS2.box.cell 4, hS2.box.cell 5⟩ (fun hSw => ?_)
      clear hK K hSw
      simp only [List.setIfInBounds_toArray, List.set_cons_zero, List.set_cons_succ]
      exact F1_100  w.heap.size  _ hS2
    · go_simp
      have hS2 := St.at_ [] [] hS
      refine hK.out _ _ ⟨hS2.box.cell 0, hS2.box.cell 1, hS2.box.cell 2, hS2.box.cell 3, hS2.box.cell 4, hS2.box.cell 5⟩ (fun hSw => ?_)
      clear hK K hSw
      simp only [List.setIfInBounds_toArray, List.set_cons_zero, List.set_cons_succ]
      exact F1_010  w.heap.size  _ hS2
    · go_simp
      have hS2 := St.at_ [] [] hS
      refine hK.out _ _ ⟨hS2.box.cell 0, hS2.box.cell 1, hS2.box.cell 2, hS2.box.cell 3, hS2.box.cell 4, hS2.box.cell 5⟩ (fun hSw => ?_)
      clear hK K hSw
      simp only [List.setIfInBounds_toArray, List.set_cons_zero, List.set_cons_succ]
      exact F1_001  w.heap.size  _ hS2
  simp only [setL, List.setIfInBounds_toArray, List.set_cons_zero, List.set_cons_succ] at F1_000
  refine keep (fun ops Q S a => ∀ (p0 p1 p2 : Nat) (w : World), St w0 w b v (Ce.new firstV) secondV [p0, p1, p2] → wpAnyH Try.prog .any ops Q S 8 #[true, false, false, true, true, false, true, false, false, true, true, true, false, false, false] ⟨setL a.tmps [(4, .pointer (some ⟨p0, 0, none⟩)), (5, .pointer (some ⟨p1, 0, none⟩)), (6, .pointer (some ⟨p2, 0, none⟩))], a.defers⟩ w) ?_ (fun F0_111 => ?_)
  · intro p0 p1 p2 w hS
    simp only [setL, List.setIfInBounds_toArray, List.set_cons_zero, List.set_cons_succ]
    refine wpAnyH_ready (fuel := 7) (rs := [1]) (by kernel_rfl) (by simp) (AllReadyH.cons rfl (fun K hK => ?_) AllReadyH.nil)
    · go_simp
      refine Calls.mono (first_c _) ?_
      rintro e wv ⟨rfl, hb⟩
      have hS2 := hS.below hb
      refine hK.out _ _ ⟨hS2.box.cell 0, hS2.box.cell 1, hS2.box.cell 2, hS2.box.cell 3, hS2.box.cell 4, hS2.box.cell 5⟩ (fun hSw => ?_)
      clear hK K hSw
      simp only [List.setIfInBounds_toArray, List.set_cons_zero, List.set_cons_succ]
      exact F1_111 p0 p1 p2 _ hS2
  simp only [setL, List.setIfInBounds_toArray, List.set_cons_zero, List.set_cons_succ] at F0_111
  refine keep (fun ops Q S a => ∀ (p0 p1 : Nat) (w : World), St w0 w b v (Ce.new firstV) secondV [p0, p1] → wpAnyH Try.prog .any ops Q S 9 #[true, false, false, true, true, false, true, false, false, true, true, false, false, false, false] ⟨setL a.tmps [(4, .pointer (some ⟨p0, 0, none⟩)), (5, .pointer (some ⟨p1, 0, none⟩))], a.defers⟩ w) ?_ (fun F0_110 => ?_)
  · intro p0 p1 w hS
    simp only [setL, List.setIfInBounds_toArray, List.set_cons_zero, List.set_cons_succ]
    refine wpAnyH_ready (fuel := 8) (rs := [1, 11]) (by kernel_rfl) (by simp) (AllReadyH.cons rfl (fun K hK => ?_) (AllReadyH.cons rfl (fun K hK => ?_) AllReadyH.nil))
    · go_simp
      refine Calls.mono (first_c _) ?_
      rintro e wv ⟨rfl, hb⟩
      have hS2 := hS.below hb
      refine hK.out _ _ ⟨hS2.box.cell 0, hS2.box.cell 1, hS2.box.cell 2, hS2.box.cell 3, hS2.box.cell 4, hS2.box.cell 5⟩ (fun hSw => ?_)
      clear hK K hSw
      simp only [List.setIfInBounds_toArray, List.set_cons_zero, List.set_cons_succ]
      exact F1_110 p0 p1 _ hS2
    · go_simp
      have hS2 := St.at_ [p0, p1] [] hS
      refine hK.out _ _ ⟨hS2.box.cell 0, hS2.box.cell 1, hS2.box.cell 2, hS2.box.cell 3, hS2.box.cell 4, hS2.box.cell 5⟩ (fun hSw => ?_)
      clear hK K hSw
      simp only [List.setIfInBounds_toArray, List.set_cons_zero, List.set_cons_succ]
      exact F0_111 p0 p1 w.heap.size  _ hS2
  simp only [setL, List.setIfInBounds_toArray, List.set_cons_zero, List.set_cons_succ] at F0_110
  refine keep (fun ops Q S a => ∀ (p0 p2 : Nat) (w : World), St w0 w b v (Ce.new firstV) secondV [p0, p2] → wpAnyH Try.prog .any ops Q S 9 #[true, false, false, true, true, false, true, false, false, true, false, true, false, false, false] ⟨setL a.tmps [(4, .pointer (some ⟨p0, 0, none⟩)), (6, .pointer (some ⟨p2, 0, none⟩))], a.defers⟩ w) ?_ (fun F0_101 => ?_)
  · intro p0 p2 w hS
    simp only [setL, List.setIfInBounds_toArray, List.set_cons_zero, List.set_cons_succ]
    refine wpAnyH_ready (fuel := 8) (rs := [1, 10]) (by kernel_rfl) (by simp) (AllReadyH.cons rfl (fun K hK => ?_) (AllReadyH.cons rfl (fun K hK => ?_) AllReadyH.nil))
    · go_simp
      refine Calls.mono (first_c _) ?_
      rintro e wv ⟨rfl, hb⟩
      have hS2 := hS.below hb
      refine hK.out _ _ ⟨hS2.box.cell 0, hS2.box.cell 1, hS2.box.cell 2, hS2.box.cell 3, hS2.box.cell 4, hS2.box.cell 5⟩ (fun hSw => ?_)
      clear hK K hSw
      simp only [List.setIfInBounds_toArray, List.set_cons_zero, List.set_cons_succ]
      exact F1_101 p0 p2 _ hS2
    · go_simp
      have hS2 := St.at_ [p0] [p2] hS
      refine hK.out _ _ ⟨hS2.box.cell 0, hS2.box.cell 1, hS2.box.cell 2, hS2.box.cell 3, hS2.box.cell 4, hS2.box.cell 5⟩ (fun hSw => ?_)
      clear hK K hSw
      simp only [List.setIfInBounds_toArray, List.set_cons_zero, List.set_cons_succ]
      exact F0_111 p0 w.heap.size p2 _ hS2
  simp only [setL, List.setIfInBounds_toArray, List.set_cons_zero, List.set_cons_succ] at F0_101
  refine keep (fun ops Q S a => ∀ (p1 p2 : Nat) (w : World), St w0 w b v (Ce.new firstV) secondV [p1, p2] → wpAnyH Try.prog .any ops Q S 9 #[true, false, false, true, true, false, true, false, false, false, true, true, false, false, false] ⟨setL a.tmps [(5, .pointer (some ⟨p1, 0, none⟩)), (6, .pointer (some ⟨p2, 0, none⟩))], a.defers⟩ w) ?_ (fun F0_011 => ?_)
  · intro p1 p2 w hS
    simp only [setL, List.setIfInBounds_toArray, List.set_cons_zero, List.set_cons_succ]
    refine wpAnyH_ready (fuel := 8) (rs := [1, 9]) (by kernel_rfl) (by simp) (AllReadyH.cons rfl (fun K hK => ?_) (AllReadyH.cons rfl (fun K hK => ?_) AllReadyH.nil))
    · go_simp
      refine Calls.mono (first_c _) ?_
      rintro e wv ⟨rfl, hb⟩
      have hS2 := hS.below hb
      refine hK.out _ _ ⟨hS2.box.cell 0, hS2.box.cell 1, hS2.box.cell 2, hS2.box.cell 3, hS2.box.cell 4, hS2.box.cell 5⟩ (fun hSw => ?_)
      clear hK K hSw
      simp only [List.setIfInBounds_toArray, List.set_cons_zero, List.set_cons_succ]
      exact F1_011 p1 p2 _ hS2
    · go_simp
      have hS2 := St.at_ [] [p1, p2] hS
      refine hK.out _ _ ⟨hS2.box.cell 0, hS2.box.cell 1, hS2.box.cell 2, hS2.box.cell 3, hS2.box.cell 4, hS2.box.cell 5⟩ (fun hSw => ?_)
      clear hK K hSw
      simp only [List.setIfInBounds_toArray, List.set_cons_zero, List.set_cons_succ]
      exact F0_111  w.heap.size p1 p2 _ hS2
  simp only [setL, List.setIfInBounds_toArray, List.set_cons_zero, List.set_cons_succ] at F0_011
  refine keep (fun ops Q S a => ∀ (p0 : Nat) (w : World), St w0 w b v (Ce.new firstV) secondV [p0] → wpAnyH Try.prog .any ops Q S 10 #[true, false, false, true, true, false, true, false, false, true, false, false, false, false, false] ⟨setL a.tmps [(4, .pointer (some ⟨p0, 0, none⟩))], a.defers⟩ w) ?_ (fun F0_100 => ?_)
  · intro p0 w hS
    simp only [setL, List.setIfInBounds_toArray, List.set_cons_zero, List.set_cons_succ]
    refine wpAnyH_ready (fuel := 9) (rs := [1, 10, 11]) (by kernel_rfl) (by simp) (AllReadyH.cons rfl (fun K hK => ?_) (AllReadyH.cons rfl (fun K hK => ?_) (AllReadyH.cons rfl (fun K hK => ?_) AllReadyH.nil)))
    · go_simp
      refine Calls.mono (first_c _) ?_
      rintro e wv ⟨rfl, hb⟩
      have hS2 := hS.below hb
      refine hK.out _ _ ⟨hS2.box.cell 0, hS2.box.cell 1, hS2.box.cell 2, hS2.box.cell 3, hS2.box.cell 4, hS2.box.cell 5⟩ (fun hSw => ?_)
      clear hK K hSw
      simp only [List.setIfInBounds_toArray, List.set_cons_zero, List.set_cons_succ]
      exact F1_100 p0 _ hS2
    · go_simp
      have hS2 := St.at_ [p0] [] hS
      refine hK.out _ _ ⟨hS2.box.cell 0, hS2.box.cell 1, hS2.box.cell 2, hS2.box.cell 3, hS2.box.cell 4, hS2.box.cell 5⟩ (fun hSw => ?_)
      clear hK K hSw
      simp only [List.setIfInBounds_toArray, List.set_cons_zero, List.set_cons_succ]
      exact F0_110 p0 w.heap.size  _ hS2
    · go_simp
      have hS2 := St.at_ [p0] [] hS
      refine hK.out _ _ ⟨hS2.box.cell 0, hS2.box.cell 1, hS2.box.cell 2, hS2.box.cell 3, hS2.box.cell 4, hS2.box.cell 5⟩ (fun hSw => ?_)
      clear hK K hSw
      simp only [List.setIfInBounds_toArray, List.set_cons_zero, List.set_cons_succ]
      exact F0_101 p0 w.heap.size  _ hS2
  simp only [setL, List.setIfInBounds_toArray, List.set_cons_zero, List.set_cons_succ] at F0_100
  refine keep (fun ops Q S a => ∀ (p1 : Nat) (w : World), St w0 w b v (Ce.new firstV) secondV [p1] → wpAnyH Try.prog .any ops Q S 10 #[true, false, false, true, true, false, true, false, false, false, true, false, false, false, false] ⟨setL a.tmps [(5, .pointer (some ⟨p1, 0, none⟩))], a.defers⟩ w) ?_ (fun F0_010 => ?_)
  · intro p1 w hS
    simp only [setL, List.setIfInBounds_toArray, List.set_cons_zero, List.set_cons_succ]
    refine wpAnyH_ready (fuel := 9) (rs := [1, 9, 11]) (by kernel_rfl) (by simp) (AllReadyH.cons rfl (fun K hK => ?_) (AllReadyH.cons rfl (fun K hK => ?_) (AllReadyH.cons rfl (fun K hK => ?_) AllReadyH.nil)))
    · go_simp
      refine Calls.mono (first_c _) ?_
      rintro e wv ⟨rfl, hb⟩
      have hS2 := hS.below hb
      refine hK.out _ _ ⟨hS2.box.cell 0, hS2.box.cell 1, hS2.box.cell 2, hS2.box.cell 3, hS2.box.cell 4, hS2.box.cell 5⟩ (fun hSw => ?_)
      clear hK K hSw
      simp only [List.setIfInBounds_toArray, List.set_cons_zero, List.set_cons_succ]
      exact F1_010 p1 _ hS2
    · go_simp
      have hS2 := St.at_ [] [p1] hS
      refine hK.out _ _ ⟨hS2.box.cell 0, hS2.box.cell 1, hS2.box.cell 2, hS2.box.cell 3, hS2.box.cell 4, hS2.box.cell 5⟩ (fun hSw => ?_)
      clear hK K hSw
      simp only [List.setIfInBounds_toArray, List.set_cons_zero, List.set_cons_succ]
      exact F0_110  w.heap.size p1 _ hS2
    · go_simp
      have hS2 := St.at_ [p1] [] hS
      refine hK.out _ _ ⟨hS2.box.cell 0, hS2.box.cell 1, hS2.box.cell 2, hS2.box.cell 3, hS2.box.cell 4, hS2.box.cell 5⟩ (fun hSw => ?_)
      clear hK K hSw
      simp only [List.setIfInBounds_toArray, List.set_cons_zero, List.set_cons_succ]
      exact F0_011 p1 w.heap.size  _ hS2
  simp only [setL, List.setIfInBounds_toArray, List.set_cons_zero, List.set_cons_succ] at F0_010
  refine keep (fun ops Q S a => ∀ (p2 : Nat) (w : World), St w0 w b v (Ce.new firstV) secondV [p2] → wpAnyH Try.prog .any ops Q S 10 #[true, false, false, true, true, false, true, false, false, false, false, true, false, false, false] ⟨setL a.tmps [(6, .pointer (some ⟨p2, 0, none⟩))], a.defers⟩ w) ?_ (fun F0_001 => ?_)
  · intro p2 w hS
    simp only [setL, List.setIfInBounds_toArray, List.set_cons_zero, List.set_cons_succ]
    refine wpAnyH_ready (fuel := 9) (rs := [1, 9, 10]) (by kernel_rfl) (by simp) (AllReadyH.cons rfl (fun K hK => ?_) (AllReadyH.cons rfl (fun K hK => ?_) (AllReadyH.cons rfl (fun K hK => ?_) AllReadyH.nil)))
    · go_simp
      refine Calls.mono (first_c _) ?_
      rintro e wv ⟨rfl, hb⟩
      have hS2 := hS.below hb
      refine hK.out _ _ ⟨hS2.box.cell 0, hS2.box.cell 1, hS2.box.cell 2, hS2.box.cell 3, hS2.box.cell 4, hS2.box.cell 5⟩ (fun hSw => ?_)
      clear hK K hSw
      simp only [List.setIfInBounds_toArray, List.set_cons_zero, List.set_cons_succ]
      exact F1_001 p2 _ hS2
    · go_simp
      have hS2 := St.at_ [] [p2] hS
      refine hK.out _ _ ⟨hS2.box.cell 0, hS2.box.cell 1, hS2.box.cell 2, hS2.box.cell 3, hS2.box.cell 4, hS2.box.cell 5⟩ (fun hSw => ?_)
      clear hK K hSw
      simp only [List.setIfInBounds_toArray, List.set_cons_zero, List.set_cons_succ]
      exact F0_101  w.heap.size p2 _ hS2
    · go_simp
      have hS2 := St.at_ [] [p2] hS
      refine hK.out _ _ ⟨hS2.box.cell 0, hS2.box.cell 1, hS2.box.cell 2, hS2.box.cell 3, hS2.box.cell 4, hS2.box.cell 5⟩ (fun hSw => ?_)
      clear hK K hSw
      simp only [List.setIfInBounds_toArray, List.set_cons_zero, List.set_cons_succ]
      exact F0_011  w.heap.size p2 _ hS2
  simp only [setL, List.setIfInBounds_toArray, List.set_cons_zero, List.set_cons_succ] at F0_001
  refine keep (fun ops Q S a => ∀ (w : World), St w0 w b v (Ce.new firstV) secondV [] → wpAnyH Try.prog .any ops Q S 11 #[true, false, false, true, true, false, true, false, false, false, false, false, false, false, false] ⟨setL a.tmps [], a.defers⟩ w) ?_ (fun F0_000 => ?_)
  · intro  w hS
    simp only [setL]
    refine wpAnyH_ready (fuel := 10) (rs := [1, 9, 10, 11]) (by kernel_rfl) (by simp) (AllReadyH.cons rfl (fun K hK => ?_) (AllReadyH.cons rfl (fun K hK => ?_) (AllReadyH.cons rfl (fun K hK => ?_) (AllReadyH.cons rfl (fun K hK => ?_) AllReadyH.nil))))
    · go_simp
      refine Calls.mono (first_c _) ?_
      rintro e wv ⟨rfl, hb⟩
      have hS2 := hS.below hb
      refine hK.out _ _ ⟨hS2.box.cell 0, hS2.box.cell 1, hS2.box.cell 2, hS2.box.cell 3, hS2.box.cell 4, hS2.box.cell 5⟩ (fun hSw => ?_)
      clear hK K hSw
      simp only [List.setIfInBounds_toArray, List.set_cons_zero, List.set_cons_succ]
      exact F1_000  _ hS2
    · go_simp
      have hS2 := St.at_ [] [] hS
      refine hK.out _ _ ⟨hS2.box.cell 0, hS2.box.cell 1, hS2.box.cell 2, hS2.box.cell 3, hS2.box.cell 4, hS2.box.cell 5⟩ (fun hSw => ?_)
      clear hK K hSw
      simp only [List.setIfInBounds_toArray, List.set_cons_zero, List.set_cons_succ]
      exact F0_100  w.heap.size  _ hS2
    · go_simp
      have hS2 := St.at_ [] [] hS
      refine hK.out _ _ ⟨hS2.box.cell 0, hS2.box.cell 1, hS2.box.cell 2, hS2.box.cell 3, hS2.box.cell 4, hS2.box.cell 5⟩ (fun hSw => ?_)
      clear hK K hSw
      simp only [List.setIfInBounds_toArray, List.set_cons_zero, List.set_cons_succ]
      exact F0_010  w.heap.size  _ hS2
    · go_simp
      have hS2 := St.at_ [] [] hS
      refine hK.out _ _ ⟨hS2.box.cell 0, hS2.box.cell 1, hS2.box.cell 2, hS2.box.cell 3, hS2.box.cell 4, hS2.box.cell 5⟩ (fun hSw => ?_)
      clear hK K hSw
      simp only [List.setIfInBounds_toArray, List.set_cons_zero, List.set_cons_succ]
      exact F0_001  w.heap.size  _ hS2
  simp only [setL] at F0_000
  exact F0_000 _ hSd
end Go.Proofs.Ytigkocdjllfhnaa.Celly
