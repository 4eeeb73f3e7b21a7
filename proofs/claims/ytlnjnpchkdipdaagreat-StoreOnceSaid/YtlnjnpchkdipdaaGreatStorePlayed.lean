/- The laws' own 'played': a cache to which acts came. The only condition: the acts are as they may be handed in. -/
import Derived.Test.YtlnjnpchkdipdaaGreatStorePl
namespace Go.Proofs.YtlnjnpchkdipdaaGreat.Storey
open Go.ChangeShapes Go.WideShapes Go.ChangeAt Go.RowKit
open Wirey (Blk Row str str_size str_list Kp)
open Taby (En TabAt Tbl tp find ins drop size ended St)
open Policyy (Pv HeldP StepP Tell)
open Ringy (Key)
open Regy

section
variable {w0 w w' w'' : World} {B b T M C S : Nat} {H H' : Nat → Prop} {s t : Sv} {k : Key} {v : Value} {l : List Key} {o : Opn} {x : Rcd}
set_option maxHeartbeats 4000000 in
set_option maxRecDepth 100000 in
theorem played_c (p n b : Int) {seed : Nat} (hsd : seed < 18446744073709551616) (ao : Option Addr) (len cap sb off : Nat) (X : Nat → Ac) (w : World) (hX : Acs w ao len sb off X) :
    Calls Tryz.prog 20 #[.agg #[.int .i64 p, .int .i64 n, .int .i64 b, .int .u64 (seed : Int)], .slice ao len cap] w fun e w' => ∃ b_ T M C S H, e = .returned (.tuple #[tp b_, .int .u64 ((pl X (cfgS p n b seed) (min len 60)).2 : Int), .bool true]) ∧ At w w' b_ T M C S H (pl X (cfgS p n b seed) (min len 60)).1 := by
  have h1 := and1_lt p
  have h2 := and15_lt n
  have h3 := and1023_lt b
  have hfr := cfg_fresh p n b hsd
  have hinv := pl_inv (X := X) (n := min len 60) hfr (fun i hi => hX.big i (by omega)) (by omega)
  have hmost := hX.most
  unfold maxLen at hmost
  have hN := fun W => newS_c (kind := 1 + and1 p) (n := 1 + and15 n) (bytes := 1 + and1023 b) (seed := seed) (by omega) (by omega) (by omega) (by omega) (by omega) hsd W
  have hcf := fun W => config_c p n b (seed : Int) W
  have hs0 : Sv.new (1 + and1 p) (1 + and15 n) (1 + and1023 b) seed = cfgS p n b seed := rfl
  rw [hs0] at hN
  clear hs0
  generalize cfgS p n b seed = s0 at *
  generalize 1 + and1 p = q1 at *
  generalize 1 + and15 n = q2 at *
  generalize 1 + and1023 b = q3 at *
  have hb0 := (Below.refl _ w).alloc (Nat.le_refl _) (.cells #[.int .i64 p, .int .i64 n, .int .i64 b, .int .u64 (seed : Int)] 24)
  have hA0 := Blk.new w 24 #[.int .i64 p, .int .i64 n, .int .i64 b, .int .u64 (seed : Int)]
  clear h1 h2 h3
  go_enter Tryz.func20, Tryz.ntmps20
  go_wp2_with fail
  refine (hcf _).mono ?_
  rintro e w1 ⟨rfl, hb1⟩
  have hbA := hb0.trans (hb1.mono hb0.size)
  go_wp2_with fail
  refine (hN w1).mono ?_
  rintro e w3 ⟨bb, T, M, C, S, H, rfl, h3⟩
  replace h3 : At w w3 bb T M C S H s0 := h3.from_ hbA
  clear hN hcf hb0 hb1 hA0 hbA
  go_wp2_with fail
  go_loopw [9, 10] (fun v i wr => ∃ (j : Nat) (H' : Nat → Prop), j ≤ len ∧ j ≤ 60 ∧ i = .int .i64 j ∧ v = .int .u64 ((pl X s0 j).2 : Int) ∧ At w wr bb T M C S H' (pl X s0 j).1) (fun v i _ => len - (intOf i).toNat)
  case atStart => exact ⟨0, H, by omega, by omega, rfl, rfl, h3⟩
  case round =>
    clear h3
    obtain ⟨j, H1, hj, hj60, rfl, rfl, hA⟩ := hrel
    by_cases h3 : j < len ∧ j < 60
    · have hlt : (j : Int) < (len : Int) := by omega
      have h60 : (j : Int) < 60 := by omega
      have d1 : decide ((j : Int) < (len : Int)) = true := decide_eq_true hlt
      have d2 : decide ((j : Int) < 60) = true := decide_eq_true h60
      obtain ⟨rfl, hsb⟩ := hX.is (by omega)
      have hP := hinv j (by omega)
      have haj := hX.big j h3.1
      have hat : ∀ {W : World}, Below w.heap.size w W → acAt W sb off j (X j) := fun hb => (hX.below hb).at_ h3.1
      have hnx1 : (pl X s0 (j + 1)).1 = ((pl X s0 j).1.apply (recOf (pl X s0 j).1.seq (pl X s0 j).2 (X j))).1 := rfl
      have hnx2 : (pl X s0 (j + 1)).2 = nextOf (pl X s0 j).2 (X j) := rfl
      have HX1 := Lib.hid hnx1
      have HX2 := Lib.hid hnx2
      clear hnx1 hnx2 hinv
      generalize (pl X s0 j).1 = s at *
      generalize (pl X s0 j).2 = nw at *
      generalize X j = aj at *
      have q1_ := hP.seq
      have q2_ := hP.at_
      have hyy := recOf_ok (seq := s.seq) (now := nw) (by omega) (by omega) haj
      have hrec := fun W => record_c (seq := s.seq) (now := nw) (a := aj) (by omega) (by omega) haj W
      generalize hy : recOf s.seq nw aj = yy at *
      generalize hn2 : nextOf nw aj = nw2 at *
      clear hy hn2
      have hap := fun {W : World} {H : Nat → Prop} (h : At w W bb T M C S H s) => apply1_a (x := yy) (t := (s.apply yy).1) (r := (s.apply yy).2.1) (n := (s.apply yy).2.2) hP.ok hyy rfl rfl h
      have hseq := fun (W : World) (hb : Below wr.heap.size wr W) => seq_s (hA.below hb)
      have hwl := hA.since
      have mk : ∀ W, Below wr.heap.size wr W → W.cell? ⟨sb, off + j * 9, none⟩ = some (.int .u64 (aj.ticks : Int)) ∧ W.cell? ⟨sb, off + j * 9 + 1, none⟩ = some (.int .u64 (aj.ses : Int)) ∧ W.cell? ⟨sb, off + j * 9 + 2, none⟩ = some (.int .u64 (aj.num : Int)) ∧ W.cell? ⟨sb, off + j * 9 + 3, none⟩ = some (.int .i64 aj.op.kind) ∧ W.cell? ⟨sb, off + j * 9 + 4, none⟩ = some (.string (str aj.op.key)) ∧ W.cell? ⟨sb, off + j * 9 + 5, none⟩ = some (.string (str aj.op.val)) ∧ W.cell? ⟨sb, off + j * 9 + 6, none⟩ = some (.int .u64 (aj.op.ttl : Int)) ∧ W.cell? ⟨sb, off + j * 9 + 7, none⟩ = some (.int .u64 (aj.op.ver : Int)) ∧ W.cell? ⟨sb, off + j * 9 + 8, none⟩ = some (.int .i64 aj.skip) := fun W hb => hat (hwl.trans (hb.mono hwl.size))
      have hb2 : Below wr.heap.size wr wr.drew := ⟨rfl, rfl, rfl, Nat.le_refl _, fun _ _ => rfl⟩
      generalize hrr : (s.apply yy).2.1 = rr at *
      generalize hne : (s.apply yy).2.2 = ne at *
      clear hrr hne
      go_upto_region 6 with (fail)
      go_cut [11, 12] from 27 to 43 (fun v11 v12 wx => ∃ q, v11 = .pointer (some ⟨q, 0, none⟩) ∧ v12 = .int .u64 (nw2 : Int) ∧ Below wr.heap.size wr wx ∧ Blk wx q 54 yy.cs)
      case first =>
        refine region_only 14 #[false, false, false, false, false, false, false, false, false, false, false, false, false, false] (S := fun W => W.cell? ⟨sb, off + j * 9, none⟩ = some (.int .u64 (aj.ticks : Int)) ∧ W.cell? ⟨sb, off + j * 9 + 1, none⟩ = some (.int .u64 (aj.ses : Int)) ∧ W.cell? ⟨sb, off + j * 9 + 2, none⟩ = some (.int .u64 (aj.num : Int)) ∧ W.cell? ⟨sb, off + j * 9 + 3, none⟩ = some (.int .i64 aj.op.kind) ∧ W.cell? ⟨sb, off + j * 9 + 4, none⟩ = some (.string (str aj.op.key)) ∧ W.cell? ⟨sb, off + j * 9 + 5, none⟩ = some (.string (str aj.op.val)) ∧ W.cell? ⟨sb, off + j * 9 + 6, none⟩ = some (.int .u64 (aj.op.ttl : Int)) ∧ W.cell? ⟨sb, off + j * 9 + 7, none⟩ = some (.int .u64 (aj.op.ver : Int)) ∧ W.cell? ⟨sb, off + j * 9 + 8, none⟩ = some (.int .i64 aj.skip)) rfl rfl (by kernel_rfl) (mk _ hb2) (fun hSw => ?_)
        generalize wr.drew = w2 at *
        refine take_at 0 30 (fuel := 13) ?_ rfl rfl (by kernel_rfl) (by kernel_rfl) (by kernel_rfl) (Or.inl ⟨by rfl, ?_⟩) hSw ?_
        rotate_left
        · intro wx hSx
          (try dsimp only at hSx)
          go_split_ands
          go_simp
          (try with_reducible rfl)
        simp only [List.setIfInBounds_toArray, List.set_cons_zero, List.set_cons_succ]
        refine take_at 2 32 (fuel := 12) ?_ rfl rfl (by kernel_rfl) (by kernel_rfl) (by kernel_rfl) (Or.inl ⟨by rfl, ?_⟩) hSw ?_
        rotate_left
        · intro wx hSx
          (try dsimp only at hSx)
          go_split_ands
          go_simp
          (try with_reducible rfl)
        simp only [List.setIfInBounds_toArray, List.set_cons_zero, List.set_cons_succ]
        refine take_at 3 33 (fuel := 11) ?_ rfl rfl (by kernel_rfl) (by kernel_rfl) (by kernel_rfl) (Or.inl ⟨by rfl, ?_⟩) hSw ?_
        rotate_left
        · intro wx hSx
          (try dsimp only at hSx)
          go_split_ands
          go_simp
          (try with_reducible rfl)
        simp only [List.setIfInBounds_toArray, List.set_cons_zero, List.set_cons_succ]
        refine take_at 4 34 (fuel := 10) ?_ rfl rfl (by kernel_rfl) (by kernel_rfl) (by kernel_rfl) (Or.inl ⟨by rfl, ?_⟩) hSw ?_
        rotate_left
        · intro wx hSx
          (try dsimp only at hSx)
          go_split_ands
          go_simp
          (try with_reducible rfl)
        simp only [List.setIfInBounds_toArray, List.set_cons_zero, List.set_cons_succ]
        refine take_at 5 35 (fuel := 9) ?_ rfl rfl (by kernel_rfl) (by kernel_rfl) (by kernel_rfl) (Or.inl ⟨by rfl, ?_⟩) hSw ?_
        rotate_left
        · intro wx hSx
          (try dsimp only at hSx)
          go_split_ands
          go_simp
          (try with_reducible rfl)
        simp only [List.setIfInBounds_toArray, List.set_cons_zero, List.set_cons_succ]
        refine take_at 6 36 (fuel := 8) ?_ rfl rfl (by kernel_rfl) (by kernel_rfl) (by kernel_rfl) (Or.inl ⟨by rfl, ?_⟩) hSw ?_
        rotate_left
        · intro wx hSx
          (try dsimp only at hSx)
          go_split_ands
          go_simp
          (try with_reducible rfl)
        simp only [List.setIfInBounds_toArray, List.set_cons_zero, List.set_cons_succ]
        refine wpAnyH_ready (fuel := 7) (rs := [1, 11]) (by kernel_rfl) (by simp) (AllReadyH.cons rfl (fun K hK => ?_) (AllReadyH.cons rfl (fun K hK => ?_) AllReadyH.nil))
        · go_simp
          refine (hseq _ hb2).mono ?_
          rintro e wq ⟨rfl, rfl⟩
          refine hK.out _ _ (mk _ hb2) (fun hSw => ?_)
          clear hK K
          simp only [List.setIfInBounds_toArray, List.set_cons_zero, List.set_cons_succ]
          refine wpAnyH_ready (fuel := 6) (rs := [7, 11]) (by kernel_rfl) (by simp) (AllReadyH.cons rfl (fun K hK => ?_) (AllReadyH.cons rfl (fun K hK => ?_) AllReadyH.nil))
          · go_simp
            refine (hrec _).mono ?_
            rintro e wv ⟨rfl, hbv⟩
            have hbv2 := hb2.trans (hbv.mono hb2.size)
            refine hK.out _ _ (mk _ hbv2) (fun hSw => ?_)
            clear hK K
            simp only [List.setIfInBounds_toArray, List.set_cons_zero, List.set_cons_succ]
            refine take_at 8 29 (fuel := 5) ?_ rfl rfl (by kernel_rfl) (by kernel_rfl) (by kernel_rfl) (Or.inl ⟨by rfl, ?_⟩) hSw ?_
            rotate_left
            · intro wx hSx
              (try dsimp only at hSx)
              go_split_ands
              go_simp
              (try with_reducible rfl)
            simp only [List.setIfInBounds_toArray, List.set_cons_zero, List.set_cons_succ]
            refine take_at 9 38 (fuel := 4) ?_ rfl rfl (by kernel_rfl) (by kernel_rfl) (by kernel_rfl) (Or.inl ⟨by rfl, ?_⟩) hSw ?_
            rotate_left
            · intro wx hSx
              (try dsimp only at hSx)
              go_split_ands
              go_simp
              (try with_reducible rfl)
            simp only [List.setIfInBounds_toArray, List.set_cons_zero, List.set_cons_succ]
            refine take_at 10 39 (fuel := 3) ?_ rfl rfl (by kernel_rfl) (by kernel_rfl) (by kernel_rfl) (Or.inl ⟨by rfl, ?_⟩) hSw ?_
            rotate_left
            · intro wx hSx
              (try dsimp only at hSx)
              go_split_ands
              go_simp
              (try with_reducible rfl)
            simp only [List.setIfInBounds_toArray, List.set_cons_zero, List.set_cons_succ]
            refine wpAnyH_ready (fuel := 2) (rs := [11]) (by kernel_rfl) (by simp) (AllReadyH.cons rfl (fun K hK => ?_) AllReadyH.nil)
            go_simp
            have hp0 := Blk.new wv 54 #[.int .u64 0, .int .u64 0, .int .u64 0, .int .u64 0, .int .i64 0, .string ⟨#[]⟩, .string ⟨#[]⟩, .int .u64 0, .int .u64 0]
            have hba := hbv2.alloc hbv2.size (.cells #[.int .u64 0, .int .u64 0, .int .u64 0, .int .u64 0, .int .i64 0, .string ⟨#[]⟩, .string ⟨#[]⟩, .int .u64 0, .int .u64 0] 54)
            refine hK.out _ _ (mk _ hba) (fun hSw => ?_)
            clear hK K
            simp only [List.setIfInBounds_toArray, List.set_cons_zero, List.set_cons_succ]
            refine wpAnyH_ready (fuel := 1) (rs := [12]) (by kernel_rfl) (by simp) (AllReadyH.cons rfl (fun K hK => ?_) AllReadyH.nil)
            go_simp
            have hp3 := Blk.new wv 54 yy.cs
            have hb3 := hbv2.alloc hbv2.size (.cells yy.cs 54)
            refine hK.out _ _ (mk _ hb3) (fun hSw => ?_)
            clear hK K
            simp only [List.setIfInBounds_toArray, List.set_cons_zero, List.set_cons_succ]
            refine take_at 13 12 (fuel := 0) ?_ rfl rfl (by kernel_rfl) (by kernel_rfl) (by kernel_rfl) (Or.inl ⟨by rfl, ?_⟩) hSw ?_
            rotate_left
            · intro wx hSx
              (try dsimp only at hSx)
              go_split_ands
              go_simp
              (try with_reducible rfl)
            simp only [List.setIfInBounds_toArray, List.set_cons_zero, List.set_cons_succ]
            refine wpAnyH_done (by kernel_rfl) ⟨rfl, ?_⟩ 0
            go_wp2_with fail
            go_meet
            exact ⟨_, rfl, rfl, hb3, hp3⟩
          · go_simp
            have hp0 := Blk.new w2 54 #[.int .u64 0, .int .u64 0, .int .u64 0, .int .u64 0, .int .i64 0, .string ⟨#[]⟩, .string ⟨#[]⟩, .int .u64 0, .int .u64 0]
            have hba := hb2.alloc hb2.size (.cells #[.int .u64 0, .int .u64 0, .int .u64 0, .int .u64 0, .int .i64 0, .string ⟨#[]⟩, .string ⟨#[]⟩, .int .u64 0, .int .u64 0] 54)
            refine hK.out _ _ (mk _ hba) (fun hSw => ?_)
            clear hK K
            simp only [List.setIfInBounds_toArray, List.set_cons_zero, List.set_cons_succ]
            refine wpAnyH_ready (fuel := 5) (rs := [7]) (by kernel_rfl) (by simp) (AllReadyH.cons rfl (fun K hK => ?_) AllReadyH.nil)
            go_simp
            refine (hrec _).mono ?_
            rintro e wv ⟨rfl, hbv⟩
            have hbv2 := hba.trans (hbv.mono hba.size)
            have hpv := hp0.below hbv hp0.lt
            refine hK.out _ _ (mk _ hbv2) (fun hSw => ?_)
            clear hK K
            simp only [List.setIfInBounds_toArray, List.set_cons_zero, List.set_cons_succ]
            refine take_at 8 29 (fuel := 4) ?_ rfl rfl (by kernel_rfl) (by kernel_rfl) (by kernel_rfl) (Or.inl ⟨by rfl, ?_⟩) hSw ?_
            rotate_left
            · intro wx hSx
              (try dsimp only at hSx)
              go_split_ands
              go_simp
              (try with_reducible rfl)
            simp only [List.setIfInBounds_toArray, List.set_cons_zero, List.set_cons_succ]
            refine take_at 9 38 (fuel := 3) ?_ rfl rfl (by kernel_rfl) (by kernel_rfl) (by kernel_rfl) (Or.inl ⟨by rfl, ?_⟩) hSw ?_
            rotate_left
            · intro wx hSx
              (try dsimp only at hSx)
              go_split_ands
              go_simp
              (try with_reducible rfl)
            simp only [List.setIfInBounds_toArray, List.set_cons_zero, List.set_cons_succ]
            refine take_at 10 39 (fuel := 2) ?_ rfl rfl (by kernel_rfl) (by kernel_rfl) (by kernel_rfl) (Or.inl ⟨by rfl, ?_⟩) hSw ?_
            rotate_left
            · intro wx hSx
              (try dsimp only at hSx)
              go_split_ands
              go_simp
              (try with_reducible rfl)
            simp only [List.setIfInBounds_toArray, List.set_cons_zero, List.set_cons_succ]
            refine wpAnyH_ready (fuel := 1) (rs := [12]) (by kernel_rfl) (by simp) (AllReadyH.cons rfl (fun K hK => ?_) AllReadyH.nil)
            go_simp
            have hle : wr.heap.size ≤ w2.heap.size := hb2.size
            have g0 := hpv.free 0
            have g1 := hpv.free 1
            have g2 := hpv.free 2
            have g3 := hpv.free 3
            have g4 := hpv.free 4
            have g5 := hpv.free 5
            have g6 := hpv.free 6
            have g7 := hpv.free 7
            have g8 := hpv.free 8
            have c0 : wv.cell? ⟨w2.heap.size, 0, none⟩ = some (.int .u64 0) := hpv.cell 0
            have c1 : wv.cell? ⟨w2.heap.size, 1, none⟩ = some (.int .u64 0) := hpv.cell 1
            have c2 : wv.cell? ⟨w2.heap.size, 2, none⟩ = some (.int .u64 0) := hpv.cell 2
            have c3 : wv.cell? ⟨w2.heap.size, 3, none⟩ = some (.int .u64 0) := hpv.cell 3
            have c4 : wv.cell? ⟨w2.heap.size, 4, none⟩ = some (.int .i64 0) := hpv.cell 4
            have c5 : wv.cell? ⟨w2.heap.size, 5, none⟩ = some (.string ⟨#[]⟩) := hpv.cell 5
            have c6 : wv.cell? ⟨w2.heap.size, 6, none⟩ = some (.string ⟨#[]⟩) := hpv.cell 6
            have c7 : wv.cell? ⟨w2.heap.size, 7, none⟩ = some (.int .u64 0) := hpv.cell 7
            have c8 : wv.cell? ⟨w2.heap.size, 8, none⟩ = some (.int .u64 0) := hpv.cell 8
            go_simp
            have hp3 := put9 hpv (.int .u64 (yy.seq : Int)) (.int .u64 (yy.now : Int)) (.int .u64 (yy.ses : Int)) (.int .u64 (yy.num : Int)) (.int .i64 yy.op.kind) (.string (str yy.op.key)) (.string (str yy.op.val)) (.int .u64 (yy.op.ttl : Int)) (.int .u64 (yy.op.ver : Int))
            have hb3 := below9 hbv2 (g := w2.heap.size) hle (.int .u64 (yy.seq : Int)) (.int .u64 (yy.now : Int)) (.int .u64 (yy.ses : Int)) (.int .u64 (yy.num : Int)) (.int .i64 yy.op.kind) (.string (str yy.op.key)) (.string (str yy.op.val)) (.int .u64 (yy.op.ttl : Int)) (.int .u64 (yy.op.ver : Int))
            refine hK.out _ _ (mk _ hb3) (fun hSw => ?_)
            clear hK K
            simp only [List.setIfInBounds_toArray, List.set_cons_zero, List.set_cons_succ]
            refine take_at 13 12 (fuel := 0) ?_ rfl rfl (by kernel_rfl) (by kernel_rfl) (by kernel_rfl) (Or.inl ⟨by rfl, ?_⟩) hSw ?_
            rotate_left
            · intro wx hSx
              (try dsimp only at hSx)
              go_split_ands
              go_simp
              (try with_reducible rfl)
            simp only [List.setIfInBounds_toArray, List.set_cons_zero, List.set_cons_succ]
            refine wpAnyH_done (by kernel_rfl) ⟨rfl, ?_⟩ 0
            go_wp2_with fail
            go_meet
            exact ⟨_, rfl, rfl, hb3, hp3⟩
        · go_simp
          have hp0 := Blk.new w2 54 #[.int .u64 0, .int .u64 0, .int .u64 0, .int .u64 0, .int .i64 0, .string ⟨#[]⟩, .string ⟨#[]⟩, .int .u64 0, .int .u64 0]
          have hba := hb2.alloc hb2.size (.cells #[.int .u64 0, .int .u64 0, .int .u64 0, .int .u64 0, .int .i64 0, .string ⟨#[]⟩, .string ⟨#[]⟩, .int .u64 0, .int .u64 0] 54)
          refine hK.out _ _ (mk _ hba) (fun hSw => ?_)
          clear hK K
          simp only [List.setIfInBounds_toArray, List.set_cons_zero, List.set_cons_succ]
          refine wpAnyH_ready (fuel := 6) (rs := [1]) (by kernel_rfl) (by simp) (AllReadyH.cons rfl (fun K hK => ?_) AllReadyH.nil)
          go_simp
          refine (hseq _ hba).mono ?_
          rintro e wq ⟨rfl, rfl⟩
          refine hK.out _ _ (mk _ hba) (fun hSw => ?_)
          clear hK K
          simp only [List.setIfInBounds_toArray, List.set_cons_zero, List.set_cons_succ]
          refine wpAnyH_ready (fuel := 5) (rs := [7]) (by kernel_rfl) (by simp) (AllReadyH.cons rfl (fun K hK => ?_) AllReadyH.nil)
          go_simp
          refine (hrec _).mono ?_
          rintro e wv ⟨rfl, hbv⟩
          have hbv2 := hba.trans (hbv.mono hba.size)
          have hpv := hp0.below hbv hp0.lt
          refine hK.out _ _ (mk _ hbv2) (fun hSw => ?_)
          clear hK K
          simp only [List.setIfInBounds_toArray, List.set_cons_zero, List.set_cons_succ]
          refine take_at 8 29 (fuel := 4) ?_ rfl rfl (by kernel_rfl) (by kernel_rfl) (by kernel_rfl) (Or.inl ⟨by rfl, ?_⟩) hSw ?_
          rotate_left
          · intro wx hSx
            (try dsimp only at hSx)
            go_split_ands
            go_simp
            (try with_reducible rfl)
          simp only [List.setIfInBounds_toArray, List.set_cons_zero, List.set_cons_succ]
          refine take_at 9 38 (fuel := 3) ?_ rfl rfl (by kernel_rfl) (by kernel_rfl) (by kernel_rfl) (Or.inl ⟨by rfl, ?_⟩) hSw ?_
          rotate_left
          · intro wx hSx
            (try dsimp only at hSx)
            go_split_ands
            go_simp
            (try with_reducible rfl)
          simp only [List.setIfInBounds_toArray, List.set_cons_zero, List.set_cons_succ]
          refine take_at 10 39 (fuel := 2) ?_ rfl rfl (by kernel_rfl) (by kernel_rfl) (by kernel_rfl) (Or.inl ⟨by rfl, ?_⟩) hSw ?_
          rotate_left
          · intro wx hSx
            (try dsimp only at hSx)
            go_split_ands
            go_simp
            (try with_reducible rfl)
          simp only [List.setIfInBounds_toArray, List.set_cons_zero, List.set_cons_succ]
          refine wpAnyH_ready (fuel := 1) (rs := [12]) (by kernel_rfl) (by simp) (AllReadyH.cons rfl (fun K hK => ?_) AllReadyH.nil)
          go_simp
          have hle : wr.heap.size ≤ w2.heap.size := hb2.size
          have g0 := hpv.free 0
          have g1 := hpv.free 1
          have g2 := hpv.free 2
          have g3 := hpv.free 3
          have g4 := hpv.free 4
          have g5 := hpv.free 5
          have g6 := hpv.free 6
          have g7 := hpv.free 7
          have g8 := hpv.free 8
          have c0 : wv.cell? ⟨w2.heap.size, 0, none⟩ = some (.int .u64 0) := hpv.cell 0
          have c1 : wv.cell? ⟨w2.heap.size, 1, none⟩ = some (.int .u64 0) := hpv.cell 1
          have c2 : wv.cell? ⟨w2.heap.size, 2, none⟩ = some (.int .u64 0) := hpv.cell 2
          have c3 : wv.cell? ⟨w2.heap.size, 3, none⟩ = some (.int .u64 0) := hpv.cell 3
          have c4 : wv.cell? ⟨w2.heap.size, 4, none⟩ = some (.int .i64 0) := hpv.cell 4
          have c5 : wv.cell? ⟨w2.heap.size, 5, none⟩ = some (.string ⟨#[]⟩) := hpv.cell 5
          have c6 : wv.cell? ⟨w2.heap.size, 6, none⟩ = some (.string ⟨#[]⟩) := hpv.cell 6
          have c7 : wv.cell? ⟨w2.heap.size, 7, none⟩ = some (.int .u64 0) := hpv.cell 7
          have c8 : wv.cell? ⟨w2.heap.size, 8, none⟩ = some (.int .u64 0) := hpv.cell 8
          go_simp
          have hp3 := put9 hpv (.int .u64 (yy.seq : Int)) (.int .u64 (yy.now : Int)) (.int .u64 (yy.ses : Int)) (.int .u64 (yy.num : Int)) (.int .i64 yy.op.kind) (.string (str yy.op.key)) (.string (str yy.op.val)) (.int .u64 (yy.op.ttl : Int)) (.int .u64 (yy.op.ver : Int))
          have hb3 := below9 hbv2 (g := w2.heap.size) hle (.int .u64 (yy.seq : Int)) (.int .u64 (yy.now : Int)) (.int .u64 (yy.ses : Int)) (.int .u64 (yy.num : Int)) (.int .i64 yy.op.kind) (.string (str yy.op.key)) (.string (str yy.op.val)) (.int .u64 (yy.op.ttl : Int)) (.int .u64 (yy.op.ver : Int))
          refine hK.out _ _ (mk _ hb3) (fun hSw => ?_)
          clear hK K
          simp only [List.setIfInBounds_toArray, List.set_cons_zero, List.set_cons_succ]
          refine take_at 13 12 (fuel := 0) ?_ rfl rfl (by kernel_rfl) (by kernel_rfl) (by kernel_rfl) (Or.inl ⟨by rfl, ?_⟩) hSw ?_
          rotate_left
          · intro wx hSx
            (try dsimp only at hSx)
            go_split_ands
            go_simp
            (try with_reducible rfl)
          simp only [List.setIfInBounds_toArray, List.set_cons_zero, List.set_cons_succ]
          refine wpAnyH_done (by kernel_rfl) ⟨rfl, ?_⟩ 0
          go_wp2_with fail
          go_meet
          exact ⟨_, rfl, rfl, hb3, hp3⟩
      case rest =>
        obtain ⟨q, rfl, rfl, hbx, hpx⟩ := hcut
        have hAx := hA.below hbx
        clear hA mk hseq hrec hat hb2 hbx
        have y0 : wc.cell? ⟨q, 0, none⟩ = some (.int .u64 (yy.seq : Int)) := hpx.cell 0
        have y1 : wc.cell? ⟨q, 1, none⟩ = some (.int .u64 (yy.now : Int)) := hpx.cell 1
        have y2 : wc.cell? ⟨q, 2, none⟩ = some (.int .u64 (yy.ses : Int)) := hpx.cell 2
        have y3 : wc.cell? ⟨q, 3, none⟩ = some (.int .u64 (yy.num : Int)) := hpx.cell 3
        have y4 : wc.cell? ⟨q, 4, none⟩ = some (.int .i64 yy.op.kind) := hpx.cell 4
        have y5 : wc.cell? ⟨q, 5, none⟩ = some (.string (str yy.op.key)) := hpx.cell 5
        have y6 : wc.cell? ⟨q, 6, none⟩ = some (.string (str yy.op.val)) := hpx.cell 6
        have y7 : wc.cell? ⟨q, 7, none⟩ = some (.int .u64 (yy.op.ttl : Int)) := hpx.cell 7
        have y8 : wc.cell? ⟨q, 8, none⟩ = some (.int .u64 (yy.op.ver : Int)) := hpx.cell 8
        go_wp2_with fail
        refine (hap hAx).mono ?_
        rintro e w7 ⟨rfl, H7, h7, s7⟩
        rw [← HX1.out] at h7
        clear hap hAx hpx s7 y0 y1 y2 y3 y4 y5 y6 y7 y8
        have HX3 := HX2
        go_wp2_with fail
        go_roundw
        case rel => exact ⟨j + 1, H7, by omega, by omega, rfl, by rw [HX3.out], h7⟩
        case measure => simp [intOf]; omega
    · obtain rfl : j = min len 60 := by omega
      clear hinv
      generalize hE1 : (pl X s0 (min len 60)).1 = s at *
      generalize hE2 : (pl X s0 (min len 60)).2 = nw at *
      have HE1 := Lib.hid hE1
      have HE2 := Lib.hid hE2
      have hcc : ¬ min len 60 < len ∨ (min len 60 < len ∧ ¬ min len 60 < 60) := by omega
      generalize hJ : min len 60 = j at *
      have HJ := Lib.hid hJ
      clear hE1 hE2 h3
      rcases hcc with hc1 | ⟨hc1, hc2⟩
      · have d1 : decide ((j : Int) < (len : Int)) = false := decide_eq_false (by omega)
        have d2 : ¬ (j : Int) < (len : Int) := by omega
        clear hJ
        go_wp2_with fail
        go_ret3
        exact ⟨bb, by rw [HJ.out, HE2.out]; rfl, T, M, C, S, H1, by rw [HJ.out, HE1.out]; exact hA⟩
      · have d1 : decide ((j : Int) < (len : Int)) = true := decide_eq_true (by omega)
        have d2 : (j : Int) < (len : Int) := by omega
        have d3 : decide ((j : Int) < 60) = false := decide_eq_false (by omega)
        have d4 : ¬ (j : Int) < 60 := by omega
        clear hJ
        go_wp2_with fail
        go_ret3
        exact ⟨bb, by rw [HJ.out, HE2.out]; rfl, T, M, C, S, H1, by rw [HJ.out, HE1.out]; exact hA⟩
end
end Go.Proofs.YtlnjnpchkdipdaaGreat.Storey
