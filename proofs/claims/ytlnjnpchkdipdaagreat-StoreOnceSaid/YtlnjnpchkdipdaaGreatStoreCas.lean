/- The program's cache: a value in the place of another one, and any operation. The only condition: the cache may be, and the operation may be. -/
import Derived.Test.YtlnjnpchkdipdaaGreatStoreGet
namespace Go.Proofs.YtlnjnpchkdipdaaGreat.Storey
open Go.ChangeShapes Go.WideShapes Go.ChangeAt Go.RowKit
open Wirey (Blk Row str str_size str_list Kp)
open Taby (En TabAt Tbl tp find ins drop size ended St)
open Policyy (Pv HeldP StepP Tell)
open Ringy (Key)
open Regy

section
variable {w0 w w' w'' : World} {B b T M C S : Nat} {H H' : Nat → Prop} {s t : Sv} {k : Key} {v : Value} {l : List Key} {o : Opn} {x : Rcd}
theorem look_any (hk : k.length ≤ 64) (h : At w0 w b T M C S H s) : Calls Tryz.prog 47 #[tp T, .string (str k)] w fun e w' => e = .returned (.tuple #[.agg ((find k s.m).getD En.none).cs, .bool (find k s.m).isSome]) ∧ Below w.heap.size w w' := Taby.get_t k hk w h.tab
set_option maxHeartbeats 4000000 in
set_option maxRecDepth 100000 in
theorem cas_s (hB : s.Base) (hk : o.key.length ≤ 64) (hk1 : 0 < o.key.length) (hv : o.val.length ≤ 4096) (ht : o.ttl ≤ 1073741824) (h : At w0 w b T M C S H s) :
    Calls Tryz.prog 92 #[tp b, .agg o.cs] w fun e w' => e = .returned (.agg (s.cas o).2.cs) ∧ ∃ H', At w0 w' b T M C S H' (s.cas o).1 ∧ Stp b T M S w H w' H' := by
  have h1 := (h.alloc (.cells o.cs 52)).alloc (.cells rep0 61)
  have hq1 : Loc w.heap.size 52 o.cs b T M S H ((w.alloc (.cells o.cs 52)).alloc (.cells rep0 61)) := (Loc.new h _ _).alloc _
  have hr1 : Loc (w.heap.size + 1) 61 rep0 b T M S H ((w.alloc (.cells o.cs 52)).alloc (.cells rep0 61)) := by
    have := Loc.new (h.alloc (.cells o.cs 52)) 61 rep0
    rwa [show (w.alloc (.cells o.cs 52)).heap.size = w.heap.size + 1 by simp] at this
  have s1 : Stp b T M S w H ((w.alloc (.cells o.cs 52)).alloc (.cells rep0 61)) H := .of_below (((Below.refl _ w).alloc (Nat.le_refl _) _).alloc (by simp) _) (Nat.le_refl _)
  go_enter Tryz.func92, Tryz.ntmps92
  go_upto_region 1 with (fail)
  generalize (w.alloc (.cells o.cs 52)).alloc (.cells rep0 61) = w1 at *
  have hrq : w.heap.size ≤ w.heap.size + 1 := by omega
  have hqr : w.heap.size ≠ w.heap.size + 1 := by omega
  generalize hr : w.heap.size + 1 = r at *
  generalize hq : w.heap.size = q at hq1 hqr ⊢
  have hF : Fr w0 w b T M C S H q 52 o.cs r 61 rep0 w1 H s := ⟨h1, s1, hq1, hr1⟩
  clear h1 s1 hq1 hr1
  have h0 := h.since.size
  have mk : ∀ W, Fr w0 w b T M C S H q 52 o.cs r 61 rep0 W H s → W.cell? ⟨b, 9, none⟩ = some (tp T) ∧ W.cell? ⟨q, 1, none⟩ = some (.string (str o.key)) := fun W h => ⟨h.at_.c rfl, h.lq.c rfl⟩
  generalize hy : (find o.key s.m).getD En.none = y at *
  generalize hi : (find o.key s.m).isSome = is at *
  have hlk := fun W (hF : Fr w0 w b T M C S H q 52 o.cs r 61 rep0 W H s) => look_any hk hF.at_
  rw [hy, hi] at hlk
  go_cut [5, 6] from 7 (fun v5 v6 wx => ∃ p, v5 = .pointer (some ⟨p, 0, none⟩) ∧ v6 = .bool is ∧ Fr w0 w b T M C S H q 52 o.cs r 61 rep0 wx H s ∧ Loc p 81 y.cs b T M S H wx)
  case first =>
    refine region_only 13 #[false, false, false, false, false, false, false, false, false, false, false, false, false] (S := fun W => W.cell? ⟨b, 9, none⟩ = some (tp T) ∧ W.cell? ⟨q, 1, none⟩ = some (.string (str o.key))) rfl rfl (by kernel_rfl) (mk _ hF.drew) (fun hSw => ?_)
    replace hF := hF.drew
    generalize w1.drew = w2 at *
    refine take_at 0 8 (fuel := 12) ?_ rfl rfl (by kernel_rfl) (by kernel_rfl) (by kernel_rfl) (Or.inl ⟨by rfl, ?_⟩) hSw ?_
    rotate_left
    · intro wx hSx
      (try dsimp only at hSx)
      go_split_ands
      go_simp
      (try with_reducible rfl)
    simp only [List.setIfInBounds_toArray, List.set_cons_zero, List.set_cons_succ]
    refine take_at 1 9 (fuel := 11) ?_ rfl rfl (by kernel_rfl) (by kernel_rfl) (by kernel_rfl) (Or.inl ⟨by rfl, ?_⟩) hSw ?_
    rotate_left
    · intro wx hSx
      (try dsimp only at hSx)
      go_split_ands
      go_simp
      (try with_reducible rfl)
    simp only [List.setIfInBounds_toArray, List.set_cons_zero, List.set_cons_succ]
    refine take_at 2 10 (fuel := 10) ?_ rfl rfl (by kernel_rfl) (by kernel_rfl) (by kernel_rfl) (Or.inl ⟨by rfl, ?_⟩) hSw ?_
    rotate_left
    · intro wx hSx
      (try dsimp only at hSx)
      go_split_ands
      go_simp
      (try with_reducible rfl)
    simp only [List.setIfInBounds_toArray, List.set_cons_zero, List.set_cons_succ]
    refine take_at 3 11 (fuel := 9) ?_ rfl rfl (by kernel_rfl) (by kernel_rfl) (by kernel_rfl) (Or.inl ⟨by rfl, ?_⟩) hSw ?_
    rotate_left
    · intro wx hSx
      (try dsimp only at hSx)
      go_split_ands
      go_simp
      (try with_reducible rfl)
    simp only [List.setIfInBounds_toArray, List.set_cons_zero, List.set_cons_succ]
    refine take_at 4 12 (fuel := 8) ?_ rfl rfl (by kernel_rfl) (by kernel_rfl) (by kernel_rfl) (Or.inl ⟨by rfl, ?_⟩) hSw ?_
    rotate_left
    · intro wx hSx
      (try dsimp only at hSx)
      go_split_ands
      go_simp
      (try with_reducible rfl)
    simp only [List.setIfInBounds_toArray, List.set_cons_zero, List.set_cons_succ]
    refine take_at 5 13 (fuel := 7) ?_ rfl rfl (by kernel_rfl) (by kernel_rfl) (by kernel_rfl) (Or.inl ⟨by rfl, ?_⟩) hSw ?_
    rotate_left
    · intro wx hSx
      (try dsimp only at hSx)
      go_split_ands
      go_simp
      (try with_reducible rfl)
    simp only [List.setIfInBounds_toArray, List.set_cons_zero, List.set_cons_succ]
    refine wpAnyH_ready (fuel := 6) (rs := [6, 10]) (by kernel_rfl) (by simp) (AllReadyH.cons rfl (fun K hK => ?_) (AllReadyH.cons rfl (fun K hK => ?_) AllReadyH.nil))
    · go_simp
      refine (hlk _ hF).mono ?_
      rintro e wv ⟨rfl, hbv⟩
      have hFv := hF.below hbv
      refine hK.out _ _ (mk _ hFv) (fun hSw => ?_)
      clear hK K
      simp only [List.setIfInBounds_toArray, List.set_cons_zero, List.set_cons_succ]
      refine take_at 7 7 (fuel := 5) ?_ rfl rfl (by kernel_rfl) (by kernel_rfl) (by kernel_rfl) (Or.inl ⟨by rfl, ?_⟩) hSw ?_
      rotate_left
      · intro wx hSx
        (try dsimp only at hSx)
        go_split_ands
        go_simp
        (try with_reducible rfl)
      simp only [List.setIfInBounds_toArray, List.set_cons_zero, List.set_cons_succ]
      refine take_at 8 15 (fuel := 4) ?_ rfl rfl (by kernel_rfl) (by kernel_rfl) (by kernel_rfl) (Or.inl ⟨by rfl, ?_⟩) hSw ?_
      rotate_left
      · intro wx hSx
        (try dsimp only at hSx)
        go_split_ands
        go_simp
        (try with_reducible rfl)
      simp only [List.setIfInBounds_toArray, List.set_cons_zero, List.set_cons_succ]
      refine take_at 9 16 (fuel := 3) ?_ rfl rfl (by kernel_rfl) (by kernel_rfl) (by kernel_rfl) (Or.inl ⟨by rfl, ?_⟩) hSw ?_
      rotate_left
      · intro wx hSx
        (try dsimp only at hSx)
        go_split_ands
        go_simp
        (try with_reducible rfl)
      simp only [List.setIfInBounds_toArray, List.set_cons_zero, List.set_cons_succ]
      refine wpAnyH_ready (fuel := 2) (rs := [10]) (by kernel_rfl) (by simp) (AllReadyH.cons rfl (fun K hK => ?_) AllReadyH.nil)
      go_simp
      have hpv := Loc.new hFv.at_ 81 #[.string ⟨#[]⟩, .string ⟨#[]⟩, .int .u64 0, .int .u64 0]
      have hne := hFv.ne (Nat.le_refl wv.heap.size)
      have hFw := hFv.alloc (.cells #[.string ⟨#[]⟩, .string ⟨#[]⟩, .int .u64 0, .int .u64 0] 81)
      refine hK.out _ _ (mk _ hFw) (fun hSw => ?_)
      clear hK K
      simp only [List.setIfInBounds_toArray, List.set_cons_zero, List.set_cons_succ]
      refine wpAnyH_ready (fuel := 1) (rs := [11]) (by kernel_rfl) (by simp) (AllReadyH.cons rfl (fun K hK => ?_) AllReadyH.nil)
      go_simp
      have hF3 := hFv.alloc (.cells y.cs 81)
      have hp3 := Loc.new hFv.at_ 81 y.cs
      refine hK.out _ _ (mk _ hF3) (fun hSw => ?_)
      clear hK K
      simp only [List.setIfInBounds_toArray, List.set_cons_zero, List.set_cons_succ]
      refine take_at 12 6 (fuel := 0) ?_ rfl rfl (by kernel_rfl) (by kernel_rfl) (by kernel_rfl) (Or.inl ⟨by rfl, ?_⟩) hSw ?_
      rotate_left
      · intro wx hSx
        (try dsimp only at hSx)
        go_split_ands
        go_simp
        (try with_reducible rfl)
      simp only [List.setIfInBounds_toArray, List.set_cons_zero, List.set_cons_succ]
      refine wpAnyH_done (by kernel_rfl) ⟨rfl, ?_⟩ 0
      go_wp2_with fail
      go_meet
      exact ⟨_, rfl, rfl, hF3, hp3⟩
    · go_simp
      have hp := Loc.new hF.at_ 81 #[.string ⟨#[]⟩, .string ⟨#[]⟩, .int .u64 0, .int .u64 0]
      have hne := hF.ne (Nat.le_refl w2.heap.size)
      have hF2 := hF.alloc (.cells #[.string ⟨#[]⟩, .string ⟨#[]⟩, .int .u64 0, .int .u64 0] 81)
      refine hK.out _ _ (mk _ hF2) (fun hSw => ?_)
      clear hK K
      simp only [List.setIfInBounds_toArray, List.set_cons_zero, List.set_cons_succ]
      refine wpAnyH_ready (fuel := 5) (rs := [6]) (by kernel_rfl) (by simp) (AllReadyH.cons rfl (fun K hK => ?_) AllReadyH.nil)
      go_simp
      refine (hlk _ hF2).mono ?_
      rintro e wv ⟨rfl, hbv⟩
      have hFv := hF2.below hbv
      have hpv := hp.below hbv
      refine hK.out _ _ (mk _ hFv) (fun hSw => ?_)
      clear hK K
      simp only [List.setIfInBounds_toArray, List.set_cons_zero, List.set_cons_succ]
      refine take_at 7 7 (fuel := 4) ?_ rfl rfl (by kernel_rfl) (by kernel_rfl) (by kernel_rfl) (Or.inl ⟨by rfl, ?_⟩) hSw ?_
      rotate_left
      · intro wx hSx
        (try dsimp only at hSx)
        go_split_ands
        go_simp
        (try with_reducible rfl)
      simp only [List.setIfInBounds_toArray, List.set_cons_zero, List.set_cons_succ]
      refine take_at 8 15 (fuel := 3) ?_ rfl rfl (by kernel_rfl) (by kernel_rfl) (by kernel_rfl) (Or.inl ⟨by rfl, ?_⟩) hSw ?_
      rotate_left
      · intro wx hSx
        (try dsimp only at hSx)
        go_split_ands
        go_simp
        (try with_reducible rfl)
      simp only [List.setIfInBounds_toArray, List.set_cons_zero, List.set_cons_succ]
      refine take_at 9 16 (fuel := 2) ?_ rfl rfl (by kernel_rfl) (by kernel_rfl) (by kernel_rfl) (Or.inl ⟨by rfl, ?_⟩) hSw ?_
      rotate_left
      · intro wx hSx
        (try dsimp only at hSx)
        go_split_ands
        go_simp
        (try with_reducible rfl)
      simp only [List.setIfInBounds_toArray, List.set_cons_zero, List.set_cons_succ]
      refine wpAnyH_ready (fuel := 1) (rs := [11]) (by kernel_rfl) (by simp) (AllReadyH.cons rfl (fun K hK => ?_) AllReadyH.nil)
      go_simp
      have g0 := hpv.f 0
      have g1 := hpv.f 1
      have g2 := hpv.f 2
      have g3 := hpv.f 3
      have c0 : wv.cell? ⟨w2.heap.size, 0, none⟩ = some (.string ⟨#[]⟩) := hpv.c rfl
      have c1 : wv.cell? ⟨w2.heap.size, 1, none⟩ = some (.string ⟨#[]⟩) := hpv.c rfl
      have c2 : wv.cell? ⟨w2.heap.size, 2, none⟩ = some (.int .u64 0) := hpv.c rfl
      have c3 : wv.cell? ⟨w2.heap.size, 3, none⟩ = some (.int .u64 0) := hpv.c rfl
      go_simp
      have hF3 := (((hFv.set h0 hpv.no hne.1 hne.2.1 hne.2.2 0 (.string (str y.key))).set h0 hpv.no hne.1 hne.2.1 hne.2.2 1 (.string (str y.val))).set h0 hpv.no hne.1 hne.2.1 hne.2.2 2 (.int .u64 (y.ver : Int))).set h0 hpv.no hne.1 hne.2.1 hne.2.2 3 (.int .u64 (y.fin : Int))
      have hp3 : Loc w2.heap.size 81 y.cs b T M S H ((((wv.setCell ⟨w2.heap.size, 0, none⟩ (.string (str y.key))).setCell ⟨w2.heap.size, 1, none⟩ (.string (str y.val))).setCell ⟨w2.heap.size, 2, none⟩ (.int .u64 (y.ver : Int))).setCell ⟨w2.heap.size, 3, none⟩ (.int .u64 (y.fin : Int))) := ⟨(((hpv.blk.put 0 _).put 1 _).put 2 _).put 3 _, hpv.no⟩
      refine hK.out _ _ (mk _ hF3) (fun hSw => ?_)
      clear hK K
      simp only [List.setIfInBounds_toArray, List.set_cons_zero, List.set_cons_succ]
      refine take_at 12 6 (fuel := 0) ?_ rfl rfl (by kernel_rfl) (by kernel_rfl) (by kernel_rfl) (Or.inl ⟨by rfl, ?_⟩) hSw ?_
      rotate_left
      · intro wx hSx
        (try dsimp only at hSx)
        go_split_ands
        go_simp
        (try with_reducible rfl)
      simp only [List.setIfInBounds_toArray, List.set_cons_zero, List.set_cons_succ]
      refine wpAnyH_done (by kernel_rfl) ⟨rfl, ?_⟩ 0
      go_wp2_with fail
      go_meet
      exact ⟨_, rfl, rfl, hF3, hp3⟩
  case rest =>
    obtain ⟨p, rfl, rfl, hF, hp⟩ := hcut
    clear mk hlk
    cases e : find o.key s.m with
    | none =>
      rw [e] at hi
      have hi' : false = is := hi
      subst hi'
      have hP : s.cas o = (s, .of 2) := by unfold Sv.cas; rw [e]
      have HP := Lib.hid hP
      clear hP hi hy e
      have z0 := hF.lr.f 0
      have z1 := hF.lr.f 1
      have z2 := hF.lr.f 2
      have z3 : wc.cell? ⟨r, 0, none⟩ = some (.int .i64 0) := hF.lr.c rfl
      have z4 : wc.cell? ⟨r, 1, none⟩ = some (.string ⟨#[]⟩) := hF.lr.c rfl
      have z5 : wc.cell? ⟨r, 2, none⟩ = some (.int .u64 0) := hF.lr.c rfl
      go_wp2_with fail
      obtain ⟨zB, zA, zS⟩ := rep3 h hF.at_ hF.st hF.lr (by omega) (.int .i64 2) (.string ⟨#[]⟩) (.int .u64 0)
      exact bodyPost_ret (results_cell_row rfl _ _ r 61 _ _ _ rfl zB Tryz.underlying61 rfl (by kernel_rfl)) rfl ⟨by rw [HP.out]; rfl, H, by rw [HP.out]; exact zA, zS⟩
    | some z =>
      rw [e] at hi hy
      have hi' : true = is := hi
      have hy' : z = y := hy
      subst hi' hy'
      have x2 : wc.cell? ⟨p, 2, none⟩ = some (.int .u64 (z.ver : Int)) := hp.c rfl
      have x4 : wc.cell? ⟨q, 4, none⟩ = some (.int .u64 (o.ver : Int)) := hF.lq.c rfl
      by_cases hv2 : z.ver = o.ver
      · have hP : s.cas o = s.put o := by unfold Sv.cas; rw [e]; exact if_pos hv2
        have HP := Lib.hid hP
        have d1 : ((z.ver : Int) == (o.ver : Int)) = true := by rw [hv2]; exact beq_self_eq_true _
        clear hP hi hy e
        have y0 : wc.cell? ⟨q, 0, none⟩ = some (.int .i64 o.kind) := hF.lq.c rfl
        have y1 : wc.cell? ⟨q, 1, none⟩ = some (.string (str o.key)) := hF.lq.c rfl
        have y2 : wc.cell? ⟨q, 2, none⟩ = some (.string (str o.val)) := hF.lq.c rfl
        have y3 : wc.cell? ⟨q, 3, none⟩ = some (.int .u64 (o.ttl : Int)) := hF.lq.c rfl
        have hcall := put_s hB hk hk1 hv ht hF.at_
        have HV2 := Lib.hid hv2
        clear hv2
        generalize hrr : (s.put o).2 = rr at *
        go_wp2_with fail
        refine hcall.mono ?_
        rintro e' w5 ⟨rfl, H5, h5, s5⟩
        have hF5 := hF.step h5 s5
        have hr5 := hF5.lr
        clear hcall
        have z0 := hr5.f 0
        have z1 := hr5.f 1
        have z2 := hr5.f 2
        have z3 : w5.cell? ⟨r, 0, none⟩ = some (.int .i64 0) := hr5.c rfl
        have z4 : w5.cell? ⟨r, 1, none⟩ = some (.string ⟨#[]⟩) := hr5.c rfl
        have z5 : w5.cell? ⟨r, 2, none⟩ = some (.int .u64 0) := hr5.c rfl
        go_wp2_with fail
        obtain ⟨zB, zA, zS⟩ := rep3 h hF5.at_ hF5.st hF5.lr (by omega) (.int .i64 (rr.e : Int)) (.string (str rr.val)) (.int .u64 (rr.ver : Int))
        exact bodyPost_ret (results_cell_row rfl _ _ r 61 _ _ _ rfl zB Tryz.underlying61 rfl (by kernel_rfl)) rfl ⟨by rw [HP.out, hrr], H5, by rw [HP.out]; exact zA, zS⟩
      · have hP : s.cas o = (s, ⟨121, [], z.ver⟩) := by unfold Sv.cas; rw [e]; exact if_neg hv2
        have HP := Lib.hid hP
        have d1 : ((z.ver : Int) == (o.ver : Int)) = false := beq_eq_false_iff_ne.2 (by omega)
        have d2 : ¬ (z.ver : Int) = (o.ver : Int) := by omega
        clear hP hi hy e
        have z0 := hF.lr.f 0
        have z1 := hF.lr.f 1
        have z2 := hF.lr.f 2
        have z3 : wc.cell? ⟨r, 0, none⟩ = some (.int .i64 0) := hF.lr.c rfl
        have z4 : wc.cell? ⟨r, 1, none⟩ = some (.string ⟨#[]⟩) := hF.lr.c rfl
        have z5 : wc.cell? ⟨r, 2, none⟩ = some (.int .u64 0) := hF.lr.c rfl
        go_wp2_with fail
        obtain ⟨zB, zA, zS⟩ := rep3 h hF.at_ hF.st hF.lr (by omega) (.int .i64 121) (.string ⟨#[]⟩) (.int .u64 (z.ver : Int))
        exact bodyPost_ret (results_cell_row rfl _ _ r 61 _ _ _ rfl zB Tryz.underlying61 rfl (by kernel_rfl)) rfl ⟨by rw [HP.out]; rfl, H, by rw [HP.out]; exact zA, zS⟩
set_option maxHeartbeats 4000000 in
set_option maxRecDepth 100000 in
theorem act_s (hB : s.Base) (hk : o.key.length ≤ 64) (hk1 : 0 < o.key.length) (hv : o.val.length ≤ 4096) (ht : o.ttl ≤ 1073741824) (h : At w0 w b T M C S H s) :
    Calls Tryz.prog 54 #[tp b, .agg o.cs] w fun e w' => e = .returned (.agg (s.act o).2.cs) ∧ ∃ H', At w0 w' b T M C S H' (s.act o).1 ∧ Stp b T M S w H w' H' := by
  have h1 := (h.alloc (.cells o.cs 52)).alloc (.cells rep0 61)
  have hq1 : Loc w.heap.size 52 o.cs b T M S H ((w.alloc (.cells o.cs 52)).alloc (.cells rep0 61)) := (Loc.new h _ _).alloc _
  have hr1 : Loc (w.heap.size + 1) 61 rep0 b T M S H ((w.alloc (.cells o.cs 52)).alloc (.cells rep0 61)) := by
    have := Loc.new (h.alloc (.cells o.cs 52)) 61 rep0
    rwa [show (w.alloc (.cells o.cs 52)).heap.size = w.heap.size + 1 by simp] at this
  have s1 : Stp b T M S w H ((w.alloc (.cells o.cs 52)).alloc (.cells rep0 61)) H := .of_below (((Below.refl _ w).alloc (Nat.le_refl _) _).alloc (by simp) _) (Nat.le_refl _)
  go_enter Tryz.func54, Tryz.ntmps54
  go_upto_region 1 with (fail)
  generalize (w.alloc (.cells o.cs 52)).alloc (.cells rep0 61) = w1 at *
  have hrq : w.heap.size ≤ w.heap.size + 1 := by omega
  have hqr : w.heap.size ≠ w.heap.size + 1 := by omega
  generalize hr : w.heap.size + 1 = r at *
  generalize hq : w.heap.size = q at hq1 hqr ⊢
  have hF : Fr w0 w b T M C S H q 52 o.cs r 61 rep0 w1 H s := ⟨h1, s1, hq1, hr1⟩
  clear h1 s1 hq1 hr1
  have y0 : w1.cell? ⟨q, 0, none⟩ = some (.int .i64 o.kind) := hF.lq.c rfl
  have y1 : w1.cell? ⟨q, 1, none⟩ = some (.string (str o.key)) := hF.lq.c rfl
  have y2 : w1.cell? ⟨q, 2, none⟩ = some (.string (str o.val)) := hF.lq.c rfl
  have y3 : w1.cell? ⟨q, 3, none⟩ = some (.int .u64 (o.ttl : Int)) := hF.lq.c rfl
  have y4 : w1.cell? ⟨q, 4, none⟩ = some (.int .u64 (o.ver : Int)) := hF.lq.c rfl
  by_cases a1 : o.kind = 1
  · have e1 : (o.kind == 1) = true := by rw [a1]; rfl
    have hP : s.act o = s.get o.key := by unfold Sv.act; rw [if_pos a1]
    have HP := Lib.hid hP
    clear hP
    have hcall := get_s hB hk hF.at_
    generalize hrr : (s.get o.key).2 = rr at *
    go_wp2_with fail
    refine hcall.mono ?_
    rintro e' w5 ⟨rfl, H5, h5, s5⟩
    have hF5 := hF.step h5 s5
    have hr5 := hF5.lr
    clear hcall
    have z0 := hr5.f 0
    have z1 := hr5.f 1
    have z2 := hr5.f 2
    have z3 : w5.cell? ⟨r, 0, none⟩ = some (.int .i64 0) := hr5.c rfl
    have z4 : w5.cell? ⟨r, 1, none⟩ = some (.string ⟨#[]⟩) := hr5.c rfl
    have z5 : w5.cell? ⟨r, 2, none⟩ = some (.int .u64 0) := hr5.c rfl
    go_wp2_with fail
    obtain ⟨zB, zA, zS⟩ := rep3 h hF5.at_ hF5.st hF5.lr (by omega) (.int .i64 (rr.e : Int)) (.string (str rr.val)) (.int .u64 (rr.ver : Int))
    exact bodyPost_ret (results_cell_row rfl _ _ r 61 _ _ _ rfl zB Tryz.underlying61 rfl (by kernel_rfl)) rfl ⟨by rw [HP.out, hrr], H5, by rw [HP.out]; exact zA, zS⟩
  have e1 : (o.kind == 1) = false := beq_eq_false_iff_ne.2 a1
  by_cases a3 : o.kind = 3
  · have e3 : (o.kind == 3) = true := by rw [a3]; rfl
    have hP : s.act o = s.del o.key := by unfold Sv.act; rw [if_neg a1, if_pos a3]
    have HP := Lib.hid hP
    clear hP
    have hcall := del_s hB hk hF.at_
    generalize hrr : (s.del o.key).2 = rr at *
    go_wp2_with fail
    refine hcall.mono ?_
    rintro e' w5 ⟨rfl, H5, h5, s5⟩
    have hF5 := hF.step h5 s5
    have hr5 := hF5.lr
    clear hcall
    have z0 := hr5.f 0
    have z1 := hr5.f 1
    have z2 := hr5.f 2
    have z3 : w5.cell? ⟨r, 0, none⟩ = some (.int .i64 0) := hr5.c rfl
    have z4 : w5.cell? ⟨r, 1, none⟩ = some (.string ⟨#[]⟩) := hr5.c rfl
    have z5 : w5.cell? ⟨r, 2, none⟩ = some (.int .u64 0) := hr5.c rfl
    go_wp2_with fail
    obtain ⟨zB, zA, zS⟩ := rep3 h hF5.at_ hF5.st hF5.lr (by omega) (.int .i64 (rr.e : Int)) (.string (str rr.val)) (.int .u64 (rr.ver : Int))
    exact bodyPost_ret (results_cell_row rfl _ _ r 61 _ _ _ rfl zB Tryz.underlying61 rfl (by kernel_rfl)) rfl ⟨by rw [HP.out, hrr], H5, by rw [HP.out]; exact zA, zS⟩
  have e3 : (o.kind == 3) = false := beq_eq_false_iff_ne.2 a3
  by_cases a4 : o.kind = 4
  · have e4 : (o.kind == 4) = true := by rw [a4]; rfl
    have hP : s.act o = s.cas o := by unfold Sv.act; rw [if_neg a1, if_neg a3, if_pos a4]
    have HP := Lib.hid hP
    clear hP
    have hcall := cas_s hB hk hk1 hv ht hF.at_
    clear a4
    generalize hrr : (s.cas o).2 = rr at *
    go_wp2_with fail
    refine hcall.mono ?_
    rintro e' w5 ⟨rfl, H5, h5, s5⟩
    have hF5 := hF.step h5 s5
    have hr5 := hF5.lr
    clear hcall
    have z0 := hr5.f 0
    have z1 := hr5.f 1
    have z2 := hr5.f 2
    have z3 : w5.cell? ⟨r, 0, none⟩ = some (.int .i64 0) := hr5.c rfl
    have z4 : w5.cell? ⟨r, 1, none⟩ = some (.string ⟨#[]⟩) := hr5.c rfl
    have z5 : w5.cell? ⟨r, 2, none⟩ = some (.int .u64 0) := hr5.c rfl
    go_wp2_with fail
    obtain ⟨zB, zA, zS⟩ := rep3 h hF5.at_ hF5.st hF5.lr (by omega) (.int .i64 (rr.e : Int)) (.string (str rr.val)) (.int .u64 (rr.ver : Int))
    exact bodyPost_ret (results_cell_row rfl _ _ r 61 _ _ _ rfl zB Tryz.underlying61 rfl (by kernel_rfl)) rfl ⟨by rw [HP.out, hrr], H5, by rw [HP.out]; exact zA, zS⟩
  have e4 : (o.kind == 4) = false := beq_eq_false_iff_ne.2 a4
  have hP : s.act o = s.put o := by unfold Sv.act; rw [if_neg a1, if_neg a3, if_neg a4]
  have HP := Lib.hid hP
  clear hP
  have hcall := put_s hB hk hk1 hv ht hF.at_
  generalize hrr : (s.put o).2 = rr at *
  go_wp2_with fail
  refine hcall.mono ?_
  rintro e' w5 ⟨rfl, H5, h5, s5⟩
  have hF5 := hF.step h5 s5
  have hr5 := hF5.lr
  clear hcall
  have z0 := hr5.f 0
  have z1 := hr5.f 1
  have z2 := hr5.f 2
  have z3 : w5.cell? ⟨r, 0, none⟩ = some (.int .i64 0) := hr5.c rfl
  have z4 : w5.cell? ⟨r, 1, none⟩ = some (.string ⟨#[]⟩) := hr5.c rfl
  have z5 : w5.cell? ⟨r, 2, none⟩ = some (.int .u64 0) := hr5.c rfl
  go_wp2_with fail
  obtain ⟨zB, zA, zS⟩ := rep3 h hF5.at_ hF5.st hF5.lr (by omega) (.int .i64 (rr.e : Int)) (.string (str rr.val)) (.int .u64 (rr.ver : Int))
  exact bodyPost_ret (results_cell_row rfl _ _ r 61 _ _ _ rfl zB Tryz.underlying61 rfl (by kernel_rfl)) rfl ⟨by rw [HP.out, hrr], H5, by rw [HP.out]; exact zA, zS⟩
end
end Go.Proofs.YtlnjnpchkdipdaaGreat.Storey
