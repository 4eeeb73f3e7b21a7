/- Layer 12 (store): for every input the call returns true and leaves what it was given as it was: at no time there are more entries, or bytes, than the cache keeps, and none that has ended (StoreBounds). No condition. -/
import Derived.Test.YtlnjnpchkdipdaaGreatKit
import Derived.Test.YtlnjnpchkdipdaaGreatStoreToldAll
import Derived.Lib.SmallJoins
import Derived.Test.YtlnjnpchkdipdaaGreatStorePlayed
namespace Go.Proofs.YtlnjnpchkdipdaaGreat.Storey
open Go.ChangeShapes Go.WideShapes Go.ChangeAt Go.RowKit
open Wirey (Blk Row str str_size str_list Kp)
open Taby (En TabAt Tbl tp find ins drop size ended St)
open Policyy (Pv HeldP StepP Tell)
open Ringy (Key)
open Regy

section
variable {w0 w w' w'' : World} {B b T M C S : Nat} {H H' : Nat → Prop} {s t : Sv} {k : Key} {v : Value} {l : List Key} {o : Opn} {x : Rcd}
theorem size_take2 {l : List En} {j : Nat} {x : En} (h : l[j]? = some x) : size (l.take (j + 1)) = size (l.take j) + (x.key.length + x.val.length) := by
  rw [List.take_add_one, h, Option.toList_some, Taby.size_append]; rfl
theorem size_part : ∀ (l : List En) (j : Nat), size (l.take j) ≤ size l
  | [], j => by simp
  | x :: l, 0 => by simp [size]
  | x :: l, j + 1 => by have := size_part l j; rw [List.take_succ_cons]; simp only [size]; omega
set_option maxHeartbeats 4000000 in
set_option maxRecDepth 100000 in
theorem storeBounds_walk (p : Int) (_ : (Lit.int .i64 p).wf = true) (n : Int) (_ : (Lit.int .i64 n).wf = true) (bb0 : Int) (_ : (Lit.int .i64 bb0).wf = true) (seed0 : Int) (wsd : (Lit.int .u64 seed0).wf = true) (ao : Option Addr) (len cap sb off : Nat) (X : Nat → Ac) (w : World) (hX : Acs w ao len sb off X) :
    Calls Tryz.prog 5 #[.agg #[.int .i64 p, .int .i64 n, .int .i64 bb0, .int .u64 seed0], .slice ao len cap] w fun e w' => e = .returned (.bool true) ∧ Below w.heap.size w w' := by
  obtain ⟨seed, rfl, hsd⟩ := Arry.u64_nat wsd
  have h1 := and1_lt p
  have h2 := and15_lt n
  have h3 := and1023_lt bb0
  have hfr := cfg_fresh p n bb0 hsd
  have hmost := hX.most
  unfold maxLen at hmost
  have hinv := pl_inv (X := X) (n := min len 80) hfr (fun i hi => hX.big i (by omega)) (by omega)
  have hN := fun W => newS_c (kind := 1 + and1 p) (n := 1 + and15 n) (bytes := 1 + and1023 bb0) (seed := seed) (by omega) (by omega) (by omega) (by omega) (by omega) hsd W
  have hcf := fun W => config_c p n bb0 (seed : Int) W
  have hs0 : Sv.new (1 + and1 p) (1 + and15 n) (1 + and1023 bb0) seed = cfgS p n bb0 seed := rfl
  have hs1 : (cfgS p n bb0 seed).n = 1 + and15 n := rfl
  have hs2 : (cfgS p n bb0 seed).bytes = 1 + and1023 bb0 := rfl
  rw [hs0] at hN
  clear hs0
  generalize cfgS p n bb0 seed = s0 at *
  generalize 1 + and1 p = q1 at *
  generalize 1 + and15 n = q2 at *
  generalize 1 + and1023 bb0 = q3 at *
  have hb0 := (Below.refl _ w).alloc (Nat.le_refl _) (.cells #[.int .i64 p, .int .i64 n, .int .i64 bb0, .int .u64 (seed : Int)] 24)
  clear h1 h2 h3
  go_enter Tryz.func5, Tryz.ntmps5
  go_wp2_with fail
  refine (hcf _).mono ?_
  rintro e w1 ⟨rfl, hb1⟩
  have hbA := hb0.trans (hb1.mono hb0.size)
  have hbB := hbA.alloc hbA.size (.cells #[.int .i64 (q1 : Int), .int .i64 (q2 : Int), .int .i64 (q3 : Int), .int .u64 (seed : Int)] 24)
  have hC := Blk.new w1 24 #[.int .i64 (q1 : Int), .int .i64 (q2 : Int), .int .i64 (q3 : Int), .int .u64 (seed : Int)]
  clear hb0 hb1 hbA hcf
  go_upto_region 2 with (fail)
  generalize w1.alloc (.cells #[.int .i64 (q1 : Int), .int .i64 (q2 : Int), .int .i64 (q3 : Int), .int .u64 (seed : Int)] 24) = wB at *
  generalize w1.heap.size = cb at *
  have e0 : wB.cell? ⟨cb, 0, none⟩ = some (.int .i64 (q1 : Int)) := hC.cell 0
  have e1 : wB.cell? ⟨cb, 1, none⟩ = some (.int .i64 (q2 : Int)) := hC.cell 1
  have e2 : wB.cell? ⟨cb, 2, none⟩ = some (.int .i64 (q3 : Int)) := hC.cell 2
  have e3 : wB.cell? ⟨cb, 3, none⟩ = some (.int .u64 (seed : Int)) := hC.cell 3
  go_wp2_with fail
  refine (hN wB).mono ?_
  rintro e w3 ⟨bb, T, M, C, S, H, rfl, h3⟩
  have hXB := hX.below hbB
  clear hN e0 e1 e2 e3 hX
  go_wp2_with fail
  refine (awake_c _).mono ?_
  rintro e w4 ⟨rfl, hb4⟩
  replace h3 := h3.below hb4
  clear hb4
  go_wp2_with fail
  go_loopw [8, 9] (fun v i wr => ∃ (j : Nat) (H' : Nat → Prop), j ≤ len ∧ j ≤ 80 ∧ i = .int .i64 j ∧ v = .int .u64 ((pl X s0 j).2 : Int) ∧ At wB wr bb T M C S H' (pl X s0 j).1) (fun v i _ => len - (intOf i).toNat)
  case atStart => exact ⟨0, H, by omega, by omega, rfl, rfl, h3⟩
  case round =>
    clear h3
    obtain ⟨j, H1, hj, hj80, rfl, rfl, hA⟩ := hrel
    by_cases h3 : j < len ∧ j < 80
    · have hlt : (j : Int) < (len : Int) := by omega
      have h80 : (j : Int) < 80 := by omega
      have d1 : decide ((j : Int) < (len : Int)) = true := decide_eq_true hlt
      have d2 : decide ((j : Int) < 80) = true := decide_eq_true h80
      obtain ⟨rfl, hsb⟩ := hXB.is (by omega)
      have hP := hinv j (by omega)
      have hP1 := hinv (j + 1) (by omega)
      have haj := hXB.big j h3.1
      have hat : ∀ {W : World}, Below wB.heap.size wB W → acAt W sb off j (X j) := fun hb => (hXB.below hb).at_ h3.1
      have hnx1 : (pl X s0 (j + 1)).1 = ((pl X s0 j).1.apply (recOf (pl X s0 j).1.seq (pl X s0 j).2 (X j))).1 := rfl
      have hnx2 : (pl X s0 (j + 1)).2 = nextOf (pl X s0 j).2 (X j) := rfl
      have HX2 := Lib.hid hnx2
      have hap := fun {W : World} {H : Nat → Prop} (h : At wB W bb T M C S H (pl X s0 j).1) => apply1_a (x := recOf (pl X s0 j).1.seq (pl X s0 j).2 (X j)) (t := (pl X s0 (j + 1)).1) (r := ((pl X s0 j).1.apply (recOf (pl X s0 j).1.seq (pl X s0 j).2 (X j))).2.1) (n := ((pl X s0 j).1.apply (recOf (pl X s0 j).1.seq (pl X s0 j).2 (X j))).2.2) hP.ok (recOf_ok (by have := hP.seq; omega) (by have := hP.at_; omega) haj) hnx1.symm rfl h
      clear hnx1 hnx2 hinv
      have HPL : Hid ((pl X s0 (j + 1)).1 = (pl X s0 (j + 1)).1) := Lib.hid rfl
      generalize hT1 : (pl X s0 (j + 1)).1 = t at *
      have HT1 := Lib.hid hT1
      clear hT1 HPL
      generalize (pl X s0 j).1 = s at *
      generalize (pl X s0 j).2 = nw at *
      generalize X j = aj at *
      have q1_ := hP.seq
      have q2_ := hP.at_
      have hrec := fun W => record_c (seq := s.seq) (now := nw) (a := aj) (by omega) (by omega) haj W
      have hOt := hP1.ok
      have hcn : t.n = q2 := hP1.cfg.2.1.trans hs1
      have hcb : t.bytes = q3 := hP1.cfg.2.2.1.trans hs2
      generalize (s.apply (recOf s.seq nw aj)).2.1 = rr at *
      generalize (s.apply (recOf s.seq nw aj)).2.2 = ne at *
      generalize hy : recOf s.seq nw aj = yy at *
      generalize hn2 : nextOf nw aj = nw2 at *
      clear hy hn2 hP hP1
      have hseq := fun (W : World) (hb : Below wr.heap.size wr W) => seq_s (hA.below hb)
      have hwl := hA.since
      have mk : ∀ W, Below wr.heap.size wr W → W.cell? ⟨sb, off + j * 9, none⟩ = some (.int .u64 (aj.ticks : Int)) ∧ W.cell? ⟨sb, off + j * 9 + 1, none⟩ = some (.int .u64 (aj.ses : Int)) ∧ W.cell? ⟨sb, off + j * 9 + 2, none⟩ = some (.int .u64 (aj.num : Int)) ∧ W.cell? ⟨sb, off + j * 9 + 3, none⟩ = some (.int .i64 aj.op.kind) ∧ W.cell? ⟨sb, off + j * 9 + 4, none⟩ = some (.string (str aj.op.key)) ∧ W.cell? ⟨sb, off + j * 9 + 5, none⟩ = some (.string (str aj.op.val)) ∧ W.cell? ⟨sb, off + j * 9 + 6, none⟩ = some (.int .u64 (aj.op.ttl : Int)) ∧ W.cell? ⟨sb, off + j * 9 + 7, none⟩ = some (.int .u64 (aj.op.ver : Int)) ∧ W.cell? ⟨sb, off + j * 9 + 8, none⟩ = some (.int .i64 aj.skip) := fun W hb => hat (hwl.trans (hb.mono hwl.size))
      have hb2 : Below wr.heap.size wr wr.drew := ⟨rfl, rfl, rfl, Nat.le_refl _, fun _ _ => rfl⟩
      go_upto_region 9 with (fail)
      go_cut [10, 11] from 28 (fun v10 v11 wx => ∃ q, v10 = .pointer (some ⟨q, 0, none⟩) ∧ v11 = .int .u64 (nw2 : Int) ∧ Below wr.heap.size wr wx ∧ Blk wx q 54 yy.cs)
      case first =>
        refine region_only 14 #[false, false, false, false, false, false, false, false, false, false, false, false, false, false] (S := fun W => W.cell? ⟨sb, off + j * 9, none⟩ = some (.int .u64 (aj.ticks : Int)) ∧ W.cell? ⟨sb, off + j * 9 + 1, none⟩ = some (.int .u64 (aj.ses : Int)) ∧ W.cell? ⟨sb, off + j * 9 + 2, none⟩ = some (.int .u64 (aj.num : Int)) ∧ W.cell? ⟨sb, off + j * 9 + 3, none⟩ = some (.int .i64 aj.op.kind) ∧ W.cell? ⟨sb, off + j * 9 + 4, none⟩ = some (.string (str aj.op.key)) ∧ W.cell? ⟨sb, off + j * 9 + 5, none⟩ = some (.string (str aj.op.val)) ∧ W.cell? ⟨sb, off + j * 9 + 6, none⟩ = some (.int .u64 (aj.op.ttl : Int)) ∧ W.cell? ⟨sb, off + j * 9 + 7, none⟩ = some (.int .u64 (aj.op.ver : Int)) ∧ W.cell? ⟨sb, off + j * 9 + 8, none⟩ = some (.int .i64 aj.skip)) rfl rfl (by kernel_rfl) (mk _ hb2) (fun hSw => ?_)
        generalize wr.drew = w2 at *
        refine take_at 0 39 (fuel := 13) ?_ rfl rfl (by kernel_rfl) (by kernel_rfl) (by kernel_rfl) (Or.inl ⟨by rfl, ?_⟩) hSw ?_
        rotate_left
        · intro wx hSx
          (try dsimp only at hSx)
          go_split_ands
          go_simp
          (try with_reducible rfl)
        simp only [List.setIfInBounds_toArray, List.set_cons_zero, List.set_cons_succ]
        refine take_at 2 41 (fuel := 12) ?_ rfl rfl (by kernel_rfl) (by kernel_rfl) (by kernel_rfl) (Or.inl ⟨by rfl, ?_⟩) hSw ?_
        rotate_left
        · intro wx hSx
          (try dsimp only at hSx)
          go_split_ands
          go_simp
          (try with_reducible rfl)
        simp only [List.setIfInBounds_toArray, List.set_cons_zero, List.set_cons_succ]
        refine take_at 3 42 (fuel := 11) ?_ rfl rfl (by kernel_rfl) (by kernel_rfl) (by kernel_rfl) (Or.inl ⟨by rfl, ?_⟩) hSw ?_
        rotate_left
        · intro wx hSx
          (try dsimp only at hSx)
          go_split_ands
          go_simp
          (try with_reducible rfl)
        simp only [List.setIfInBounds_toArray, List.set_cons_zero, List.set_cons_succ]
        refine take_at 4 43 (fuel := 10) ?_ rfl rfl (by kernel_rfl) (by kernel_rfl) (by kernel_rfl) (Or.inl ⟨by rfl, ?_⟩) hSw ?_
        rotate_left
        · intro wx hSx
          (try dsimp only at hSx)
          go_split_ands
          go_simp
          (try with_reducible rfl)
        simp only [List.setIfInBounds_toArray, List.set_cons_zero, List.set_cons_succ]
        refine take_at 5 44 (fuel := 9) ?_ rfl rfl (by kernel_rfl) (by kernel_rfl) (by kernel_rfl) (Or.inl ⟨by rfl, ?_⟩) hSw ?_
        rotate_left
        · intro wx hSx
          (try dsimp only at hSx)
          go_split_ands
          go_simp
          (try with_reducible rfl)
        simp only [List.setIfInBounds_toArray, List.set_cons_zero, List.set_cons_succ]
        refine take_at 6 45 (fuel := 8) ?_ rfl rfl (by kernel_rfl) (by kernel_rfl) (by kernel_rfl) (Or.inl ⟨by rfl, ?_⟩) hSw ?_
        rotate_left
        · intro wx hSx
          (try dsimp only at hSx)
          go_split_ands
          go_simp
          (try with_reducible rfl)
        simp only [List.setIfInBounds_toArray, List.set_cons_zero, List.set_cons_succ]
        refine wpAnyH_ready (fuel := 7) (rs := [1, 11]) (by kernel_rfl) (by simp) (AllReadyH.cons rfl (fun K hK => ?_) (AllReadyH.cons rfl (fun K hK => ?_) AllReadyH.nil))
        · go_simp
          refine (hseq _ hb2).mono ?_
          rintro e wq ⟨rfl, rfl⟩
          refine hK.out _ _ (mk _ hb2) (fun hSw => ?_)
          clear hK K
          simp only [List.setIfInBounds_toArray, List.set_cons_zero, List.set_cons_succ]
          refine wpAnyH_ready (fuel := 6) (rs := [7, 11]) (by kernel_rfl) (by simp) (AllReadyH.cons rfl (fun K hK => ?_) (AllReadyH.cons rfl (fun K hK => ?_) AllReadyH.nil))
          · go_simp
            refine (hrec _).mono ?_
            rintro e wv ⟨rfl, hbv⟩
            have hbv2 := hb2.trans (hbv.mono hb2.size)
            refine hK.out _ _ (mk _ hbv2) (fun hSw => ?_)
            clear hK K
            simp only [List.setIfInBounds_toArray, List.set_cons_zero, List.set_cons_succ]
            refine take_at 8 38 (fuel := 5) ?_ rfl rfl (by kernel_rfl) (by kernel_rfl) (by kernel_rfl) (Or.inl ⟨by rfl, ?_⟩) hSw ?_
            rotate_left
            · intro wx hSx
              (try dsimp only at hSx)
              go_split_ands
              go_simp
              (try with_reducible rfl)
            simp only [List.setIfInBounds_toArray, List.set_cons_zero, List.set_cons_succ]
            refine take_at 9 47 (fuel := 4) ?_ rfl rfl (by kernel_rfl) (by kernel_rfl) (by kernel_rfl) (Or.inl ⟨by rfl, ?_⟩) hSw ?_
            rotate_left
            · intro wx hSx
              (try dsimp only at hSx)
              go_split_ands
              go_simp
              (try with_reducible rfl)
            simp only [List.setIfInBounds_toArray, List.set_cons_zero, List.set_cons_succ]
            refine take_at 10 48 (fuel := 3) ?_ rfl rfl (by kernel_rfl) (by kernel_rfl) (by kernel_rfl) (Or.inl ⟨by rfl, ?_⟩) hSw ?_
            rotate_left
            · intro wx hSx
              (try dsimp only at hSx)
              go_split_ands
              go_simp
              (try with_reducible rfl)
            simp only [List.setIfInBounds_toArray, List.set_cons_zero, List.set_cons_succ]
            refine wpAnyH_ready (fuel := 2) (rs := [11]) (by kernel_rfl) (by simp) (AllReadyH.cons rfl (fun K hK => ?_) AllReadyH.nil)
            go_simp
            have hp0 := Blk.new wv 54 #[.int .u64 0, .int .u64 0, .int .u64 0, .int .u64 0, .int .i64 0, .string ⟨#[]⟩, .string ⟨#[]⟩, .int .u64 0, .int .u64 0]
            have hba := hbv2.alloc hbv2.size (.cells #[.int .u64 0, .int .u64 0, .int .u64 0, .int .u64 0, .int .i64 0, .string ⟨#[]⟩, .string ⟨#[]⟩, .int .u64 0, .int .u64 0] 54)
            refine hK.out _ _ (mk _ hba) (fun hSw => ?_)
            clear hK K
            simp only [List.setIfInBounds_toArray, List.set_cons_zero, List.set_cons_succ]
            refine wpAnyH_ready (fuel := 1) (rs := [12]) (by kernel_rfl) (by simp) (AllReadyH.cons rfl (fun K hK => ?_) AllReadyH.nil)
            go_simp
            have hp3 := Blk.new wv 54 yy.cs
            have hb3 := hbv2.alloc hbv2.size (.cells yy.cs 54)
            refine hK.out _ _ (mk _ hb3) (fun hSw => ?_)
            clear hK K
            simp only [List.setIfInBounds_toArray, List.set_cons_zero, List.set_cons_succ]
            refine take_at 13 11 (fuel := 0) ?_ rfl rfl (by kernel_rfl) (by kernel_rfl) (by kernel_rfl) (Or.inl ⟨by rfl, ?_⟩) hSw ?_
            rotate_left
            · intro wx hSx
              (try dsimp only at hSx)
              go_split_ands
              go_simp
              (try with_reducible rfl)
            simp only [List.setIfInBounds_toArray, List.set_cons_zero, List.set_cons_succ]
            refine wpAnyH_done (by kernel_rfl) ⟨rfl, ?_⟩ 0
            go_wp2_with fail
            go_meet
            exact ⟨_, rfl, rfl, hb3, hp3⟩
          · go_simp
            have hp0 := Blk.new w2 54 #[.int .u64 0, .int .u64 0, .int .u64 0, .int .u64 0, .int .i64 0, .string ⟨#[]⟩, .string ⟨#[]⟩, .int .u64 0, .int .u64 0]
            have hba := hb2.alloc hb2.size (.cells #[.int .u64 0, .int .u64 0, .int .u64 0, .int .u64 0, .int .i64 0, .string ⟨#[]⟩, .string ⟨#[]⟩, .int .u64 0, .int .u64 0] 54)
            refine hK.out _ _ (mk _ hba) (fun hSw => ?_)
            clear hK K
            simp only [List.setIfInBounds_toArray, List.set_cons_zero, List.set_cons_succ]
            refine wpAnyH_ready (fuel := 5) (rs := [7]) (by kernel_rfl) (by simp) (AllReadyH.cons rfl (fun K hK => ?_) AllReadyH.nil)
            go_simp
            refine (hrec _).mono ?_
            rintro e wv ⟨rfl, hbv⟩
            have hbv2 := hba.trans (hbv.mono hba.size)
            have hpv := hp0.below hbv hp0.lt
            refine hK.out _ _ (mk _ hbv2) (fun hSw => ?_)
            clear hK K
            simp only [List.setIfInBounds_toArray, List.set_cons_zero, List.set_cons_succ]
            refine take_at 8 38 (fuel := 4) ?_ rfl rfl (by kernel_rfl) (by kernel_rfl) (by kernel_rfl) (Or.inl ⟨by rfl, ?_⟩) hSw ?_
            rotate_left
            · intro wx hSx
              (try dsimp only at hSx)
              go_split_ands
              go_simp
              (try with_reducible rfl)
            simp only [List.setIfInBounds_toArray, List.set_cons_zero, List.set_cons_succ]
            refine take_at 9 47 (fuel := 3) ?_ rfl rfl (by kernel_rfl) (by kernel_rfl) (by kernel_rfl) (Or.inl ⟨by rfl, ?_⟩) hSw ?_
            rotate_left
            · intro wx hSx
              (try dsimp only at hSx)
              go_split_ands
              go_simp
              (try with_reducible rfl)
            simp only [List.setIfInBounds_toArray, List.set_cons_zero, List.set_cons_succ]
            refine take_at 10 48 (fuel := 2) ?_ rfl rfl (by kernel_rfl) (by kernel_rfl) (by kernel_rfl) (Or.inl ⟨by rfl, ?_⟩) hSw ?_
            rotate_left
            · intro wx hSx
              (try dsimp only at hSx)
              go_split_ands
              go_simp
              (try with_reducible rfl)
            simp only [List.setIfInBounds_toArray, List.set_cons_zero, List.set_cons_succ]
            refine wpAnyH_ready (fuel := 1) (rs := [12]) (by kernel_rfl) (by simp) (AllReadyH.cons rfl (fun K hK => ?_) AllReadyH.nil)
            go_simp
            have hle : wr.heap.size ≤ w2.heap.size := hb2.size
            have g0 := hpv.free 0
            have g1 := hpv.free 1
            have g2 := hpv.free 2
            have g3 := hpv.free 3
            have g4 := hpv.free 4
            have g5 := hpv.free 5
            have g6 := hpv.free 6
            have g7 := hpv.free 7
            have g8 := hpv.free 8
            have c0 : wv.cell? ⟨w2.heap.size, 0, none⟩ = some (.int .u64 0) := hpv.cell 0
            have c1 : wv.cell? ⟨w2.heap.size, 1, none⟩ = some (.int .u64 0) := hpv.cell 1
            have c2 : wv.cell? ⟨w2.heap.size, 2, none⟩ = some (.int .u64 0) := hpv.cell 2
            have c3 : wv.cell? ⟨w2.heap.size, 3, none⟩ = some (.int .u64 0) := hpv.cell 3
            have c4 : wv.cell? ⟨w2.heap.size, 4, none⟩ = some (.int .i64 0) := hpv.cell 4
            have c5 : wv.cell? ⟨w2.heap.size, 5, none⟩ = some (.string ⟨#[]⟩) := hpv.cell 5
            have c6 : wv.cell? ⟨w2.heap.size, 6, none⟩ = some (.string ⟨#[]⟩) := hpv.cell 6
            have c7 : wv.cell? ⟨w2.heap.size, 7, none⟩ = some (.int .u64 0) := hpv.cell 7
            have c8 : wv.cell? ⟨w2.heap.size, 8, none⟩ = some (.int .u64 0) := hpv.cell 8
            go_simp
            have hp3 := put9 hpv (.int .u64 (yy.seq : Int)) (.int .u64 (yy.now : Int)) (.int .u64 (yy.ses : Int)) (.int .u64 (yy.num : Int)) (.int .i64 yy.op.kind) (.string (str yy.op.key)) (.string (str yy.op.val)) (.int .u64 (yy.op.ttl : Int)) (.int .u64 (yy.op.ver : Int))
            have hb3 := below9 hbv2 (g := w2.heap.size) hle (.int .u64 (yy.seq : Int)) (.int .u64 (yy.now : Int)) (.int .u64 (yy.ses : Int)) (.int .u64 (yy.num : Int)) (.int .i64 yy.op.kind) (.string (str yy.op.key)) (.string (str yy.op.val)) (.int .u64 (yy.op.ttl : Int)) (.int .u64 (yy.op.ver : Int))
            refine hK.out _ _ (mk _ hb3) (fun hSw => ?_)
            clear hK K
            simp only [List.setIfInBounds_toArray, List.set_cons_zero, List.set_cons_succ]
            refine take_at 13 11 (fuel := 0) ?_ rfl rfl (by kernel_rfl) (by kernel_rfl) (by kernel_rfl) (Or.inl ⟨by rfl, ?_⟩) hSw ?_
            rotate_left
            · intro wx hSx
              (try dsimp only at hSx)
              go_split_ands
              go_simp
              (try with_reducible rfl)
            simp only [List.setIfInBounds_toArray, List.set_cons_zero, List.set_cons_succ]
            refine wpAnyH_done (by kernel_rfl) ⟨rfl, ?_⟩ 0
            go_wp2_with fail
            go_meet
            exact ⟨_, rfl, rfl, hb3, hp3⟩
        · go_simp
          have hp0 := Blk.new w2 54 #[.int .u64 0, .int .u64 0, .int .u64 0, .int .u64 0, .int .i64 0, .string ⟨#[]⟩, .string ⟨#[]⟩, .int .u64 0, .int .u64 0]
          have hba := hb2.alloc hb2.size (.cells #[.int .u64 0, .int .u64 0, .int .u64 0, .int .u64 0, .int .i64 0, .string ⟨#[]⟩, .string ⟨#[]⟩, .int .u64 0, .int .u64 0] 54)
          refine hK.out _ _ (mk _ hba) (fun hSw => ?_)
          clear hK K
          simp only [List.setIfInBounds_toArray, List.set_cons_zero, List.set_cons_succ]
          refine wpAnyH_ready (fuel := 6) (rs := [1]) (by kernel_rfl) (by simp) (AllReadyH.cons rfl (fun K hK => ?_) AllReadyH.nil)
          go_simp
          refine (hseq _ hba).mono ?_
          rintro e wq ⟨rfl, rfl⟩
          refine hK.out _ _ (mk _ hba) (fun hSw => ?_)
          clear hK K
          simp only [List.setIfInBounds_toArray, List.set_cons_zero, List.set_cons_succ]
          refine wpAnyH_ready (fuel := 5) (rs := [7]) (by kernel_rfl) (by simp) (AllReadyH.cons rfl (fun K hK => ?_) AllReadyH.nil)
          go_simp
          refine (hrec _).mono ?_
          rintro e wv ⟨rfl, hbv⟩
          have hbv2 := hba.trans (hbv.mono hba.size)
          have hpv := hp0.below hbv hp0.lt
          refine hK.out _ _ (mk _ hbv2) (fun hSw => ?_)
          clear hK K
          simp only [List.setIfInBounds_toArray, List.set_cons_zero, List.set_cons_succ]
          refine take_at 8 38 (fuel := 4) ?_ rfl rfl (by kernel_rfl) (by kernel_rfl) (by kernel_rfl) (Or.inl ⟨by rfl, ?_⟩) hSw ?_
          rotate_left
          · intro wx hSx
            (try dsimp only at hSx)
            go_split_ands
            go_simp
            (try with_reducible rfl)
          simp only [List.setIfInBounds_toArray, List.set_cons_zero, List.set_cons_succ]
          refine take_at 9 47 (fuel := 3) ?_ rfl rfl (by kernel_rfl) (by kernel_rfl) (by kernel_rfl) (Or.inl ⟨by rfl, ?_⟩) hSw ?_
          rotate_left
          · intro wx hSx
            (try dsimp only at hSx)
            go_split_ands
            go_simp
            (try with_reducible rfl)
          simp only [List.setIfInBounds_toArray, List.set_cons_zero, List.set_cons_succ]
          refine take_at 10 48 (fuel := 2) ?_ rfl rfl (by kernel_rfl) (by kernel_rfl) (by kernel_rfl) (Or.inl ⟨by rfl, ?_⟩) hSw ?_
          rotate_left
          · intro wx hSx
            (try dsimp only at hSx)
            go_split_ands
            go_simp
            (try with_reducible rfl)
          simp only [List.setIfInBounds_toArray, List.set_cons_zero, List.set_cons_succ]
          refine wpAnyH_ready (fuel := 1) (rs := [12]) (by kernel_rfl) (by simp) (AllReadyH.cons rfl (fun K hK => ?_) AllReadyH.nil)
          go_simp
          have hle : wr.heap.size ≤ w2.heap.size := hb2.size
          have g0 := hpv.free 0
          have g1 := hpv.free 1
          have g2 := hpv.free 2
          have g3 := hpv.free 3
          have g4 := hpv.free 4
          have g5 := hpv.free 5
          have g6 := hpv.free 6
          have g7 := hpv.free 7
          have g8 := hpv.free 8
          have c0 : wv.cell? ⟨w2.heap.size, 0, none⟩ = some (.int .u64 0) := hpv.cell 0
          have c1 : wv.cell? ⟨w2.heap.size, 1, none⟩ = some (.int .u64 0) := hpv.cell 1
          have c2 : wv.cell? ⟨w2.heap.size, 2, none⟩ = some (.int .u64 0) := hpv.cell 2
          have c3 : wv.cell? ⟨w2.heap.size, 3, none⟩ = some (.int .u64 0) := hpv.cell 3
          have c4 : wv.cell? ⟨w2.heap.size, 4, none⟩ = some (.int .i64 0) := hpv.cell 4
          have c5 : wv.cell? ⟨w2.heap.size, 5, none⟩ = some (.string ⟨#[]⟩) := hpv.cell 5
          have c6 : wv.cell? ⟨w2.heap.size, 6, none⟩ = some (.string ⟨#[]⟩) := hpv.cell 6
          have c7 : wv.cell? ⟨w2.heap.size, 7, none⟩ = some (.int .u64 0) := hpv.cell 7
          have c8 : wv.cell? ⟨w2.heap.size, 8, none⟩ = some (.int .u64 0) := hpv.cell 8
          go_simp
          have hp3 := put9 hpv (.int .u64 (yy.seq : Int)) (.int .u64 (yy.now : Int)) (.int .u64 (yy.ses : Int)) (.int .u64 (yy.num : Int)) (.int .i64 yy.op.kind) (.string (str yy.op.key)) (.string (str yy.op.val)) (.int .u64 (yy.op.ttl : Int)) (.int .u64 (yy.op.ver : Int))
          have hb3 := below9 hbv2 (g := w2.heap.size) hle (.int .u64 (yy.seq : Int)) (.int .u64 (yy.now : Int)) (.int .u64 (yy.ses : Int)) (.int .u64 (yy.num : Int)) (.int .i64 yy.op.kind) (.string (str yy.op.key)) (.string (str yy.op.val)) (.int .u64 (yy.op.ttl : Int)) (.int .u64 (yy.op.ver : Int))
          refine hK.out _ _ (mk _ hb3) (fun hSw => ?_)
          clear hK K
          simp only [List.setIfInBounds_toArray, List.set_cons_zero, List.set_cons_succ]
          refine take_at 13 11 (fuel := 0) ?_ rfl rfl (by kernel_rfl) (by kernel_rfl) (by kernel_rfl) (Or.inl ⟨by rfl, ?_⟩) hSw ?_
          rotate_left
          · intro wx hSx
            (try dsimp only at hSx)
            go_split_ands
            go_simp
            (try with_reducible rfl)
          simp only [List.setIfInBounds_toArray, List.set_cons_zero, List.set_cons_succ]
          refine wpAnyH_done (by kernel_rfl) ⟨rfl, ?_⟩ 0
          go_wp2_with fail
          go_meet
          exact ⟨_, rfl, rfl, hb3, hp3⟩
      case rest =>
        obtain ⟨q, rfl, rfl, hbx, hpx⟩ := hcut
        have hAx := hA.below hbx
        clear hA mk hseq hrec hat hb2 hbx
        have y0 : wc.cell? ⟨q, 0, none⟩ = some (.int .u64 (yy.seq : Int)) := hpx.cell 0
        have y1 : wc.cell? ⟨q, 1, none⟩ = some (.int .u64 (yy.now : Int)) := hpx.cell 1
        have y2 : wc.cell? ⟨q, 2, none⟩ = some (.int .u64 (yy.ses : Int)) := hpx.cell 2
        have y3 : wc.cell? ⟨q, 3, none⟩ = some (.int .u64 (yy.num : Int)) := hpx.cell 3
        have y4 : wc.cell? ⟨q, 4, none⟩ = some (.int .i64 yy.op.kind) := hpx.cell 4
        have y5 : wc.cell? ⟨q, 5, none⟩ = some (.string (str yy.op.key)) := hpx.cell 5
        have y6 : wc.cell? ⟨q, 6, none⟩ = some (.string (str yy.op.val)) := hpx.cell 6
        have y7 : wc.cell? ⟨q, 7, none⟩ = some (.int .u64 (yy.op.ttl : Int)) := hpx.cell 7
        have y8 : wc.cell? ⟨q, 8, none⟩ = some (.int .u64 (yy.op.ver : Int)) := hpx.cell 8
        go_wp2_with fail
        refine (hap hAx).mono ?_
        rintro e w7 ⟨rfl, H7, h7, s7⟩
        clear hap hAx hpx s7 y0 y1 y2 y3 y4 y5 y6 y7 y8
        have hlen := hOt.toBase.len.2
        have hn2 := hOt.n2
        have hsz := hOt.size
        have hb2 := hOt.b2
        go_wp2_with fail
        refine (entries_s (by omega) h7).mono ?_
        rintro e w8 ⟨v, rfl, hsl, hb8⟩
        have h8 := h7.below hb8
        obtain ⟨va, vc, rfl⟩ := hsl.form
        clear h7 hb8
        go_wp2_with fail
        go_loopw [13, 14] (fun vs vk wx => ∃ k : Nat, k ≤ t.m.length ∧ vk = .int .i64 k ∧ vs = .int .i64 (size (t.m.take k) : Nat) ∧ Below w8.heap.size w8 wx) (fun _ vk _ => t.m.length - (intOf vk).toNat)
        case atStart => exact ⟨0, Nat.zero_le _, rfl, rfl, Below.refl _ _⟩
        case round =>
          obtain ⟨k, hk, rfl, rfl, hbk⟩ := hrel
          have hAk := h8.below hbk
          have hslk := hsl.below hbk
          by_cases h3k : k < t.m.length
          · obtain ⟨y, hy⟩ : ∃ y, t.m[k]? = some y := ⟨_, List.getElem?_eq_getElem h3k⟩
            have hym := List.mem_of_getElem? hy
            have hlive := hOt.live y hym
            have hyv := hOt.ent y hym
            obtain ⟨g, rfl, -, hg, hcell⟩ := hslk.at_ hy
            have hltk : (k : Int) < (t.m.length : Int) := by omega
            have hsn := size_take2 hy
            have hsp := size_part t.m (k + 1)
            clear hslk hy hym hsl
            generalize size (t.m.take k) = sk at *
            have hk1 : (str y.key).size = y.key.length := str_size _
            have hk2 : (str y.val).size = y.val.length := str_size _
            have hwa : IntKind.i64.wrap ((y.key.length : Int) + (y.val.length : Int)) = (y.key.length : Int) + (y.val.length : Int) := IntWalk.i64_in _ (by omega)
            have hwb : IntKind.i64.wrap ((sk : Int) + ((y.key.length : Int) + (y.val.length : Int))) = (sk : Int) + ((y.key.length : Int) + (y.val.length : Int)) := IntWalk.i64_in _ (by omega)
            have hcell2 : ∀ W, Below wr.heap.size wr W → (fun W => W.cell? ⟨g, k * 4, none⟩ = some (.string (str y.key)) ∧ W.cell? ⟨g, k * 4 + 1, none⟩ = some (.string (str y.val)) ∧ W.cell? ⟨g, k * 4 + 2, none⟩ = some (.int .u64 (y.ver : Int)) ∧ W.cell? ⟨g, k * 4 + 3, none⟩ = some (.int .u64 (y.fin : Int))) W := fun W hb => hcell W (hb.block g hg)
            go_wp2_with fail
            refine region_only 16 #[false, false, false, false, false, false, false, false, false, false, false, false, false, false, false, false] (S := (fun W => W.cell? ⟨g, k * 4, none⟩ = some (.string (str y.key)) ∧ W.cell? ⟨g, k * 4 + 1, none⟩ = some (.string (str y.val)) ∧ W.cell? ⟨g, k * 4 + 2, none⟩ = some (.int .u64 (y.ver : Int)) ∧ W.cell? ⟨g, k * 4 + 3, none⟩ = some (.int .u64 (y.fin : Int)))) rfl rfl (by kernel_rfl) (hcell2 _ (Below.refl _ _).drew) (fun hSw => ?_)
            refine take_at 0 61 (fuel := 15) ?_ rfl rfl (by kernel_rfl) (by kernel_rfl) (by kernel_rfl) (Or.inl ⟨by rfl, ?_⟩) hSw ?_
            rotate_left
            · intro wx hSx
              (try dsimp only at hSx)
              go_split_ands
              go_simp
              (try with_reducible rfl)
            simp only [List.setIfInBounds_toArray, List.set_cons_zero, List.set_cons_succ]
            refine take_at 1 62 (fuel := 14) ?_ rfl rfl (by kernel_rfl) (by kernel_rfl) (by kernel_rfl) (Or.inl ⟨by rfl, ?_⟩) hSw ?_
            rotate_left
            · intro wx hSx
              (try dsimp only at hSx)
              go_split_ands
              go_simp
              (try with_reducible rfl)
            simp only [List.setIfInBounds_toArray, List.set_cons_zero, List.set_cons_succ]
            refine take_at 2 63 (fuel := 13) ?_ rfl rfl (by kernel_rfl) (by kernel_rfl) (by kernel_rfl) (Or.inl ⟨by rfl, ?_⟩) hSw ?_
            rotate_left
            · intro wx hSx
              (try dsimp only at hSx)
              go_split_ands
              go_simp
              (try with_reducible rfl)
            simp only [List.setIfInBounds_toArray, List.set_cons_zero, List.set_cons_succ]
            refine take_at 3 64 (fuel := 12) ?_ rfl rfl (by kernel_rfl) (by kernel_rfl) (by kernel_rfl) (Or.inl ⟨by rfl, ?_⟩) hSw ?_
            rotate_left
            · intro wx hSx
              (try dsimp only at hSx)
              go_split_ands
              go_simp
              (try with_reducible rfl)
            simp only [List.setIfInBounds_toArray, List.set_cons_zero, List.set_cons_succ]
            refine take_at 4 65 (fuel := 11) ?_ rfl rfl (by kernel_rfl) (by kernel_rfl) (by kernel_rfl) (Or.inl ⟨by rfl, ?_⟩) hSw ?_
            rotate_left
            · intro wx hSx
              (try dsimp only at hSx)
              go_split_ands
              go_simp
              (try with_reducible rfl)
            simp only [List.setIfInBounds_toArray, List.set_cons_zero, List.set_cons_succ]
            refine take_at 5 66 (fuel := 10) ?_ rfl rfl (by kernel_rfl) (by kernel_rfl) (by kernel_rfl) (Or.inl ⟨by rfl, ?_⟩) hSw ?_
            rotate_left
            · intro wx hSx
              (try dsimp only at hSx)
              go_split_ands
              go_simp
              (try with_reducible rfl)
            simp only [List.setIfInBounds_toArray, List.set_cons_zero, List.set_cons_succ]
            refine take_at 6 67 (fuel := 9) ?_ rfl rfl (by kernel_rfl) (by kernel_rfl) (by kernel_rfl) (Or.inl ⟨by rfl, ?_⟩) hSw ?_
            rotate_left
            · intro wx hSx
              (try dsimp only at hSx)
              go_split_ands
              go_simp
              (try with_reducible rfl)
            simp only [List.setIfInBounds_toArray, List.set_cons_zero, List.set_cons_succ]
            refine take_at 7 68 (fuel := 8) ?_ rfl rfl (by kernel_rfl) (by kernel_rfl) (by kernel_rfl) (Or.inl ⟨by rfl, ?_⟩) hSw ?_
            rotate_left
            · intro wx hSx
              (try dsimp only at hSx)
              go_split_ands
              go_simp
              (try with_reducible rfl)
            simp only [List.setIfInBounds_toArray, List.set_cons_zero, List.set_cons_succ]
            refine take_at 8 69 (fuel := 7) ?_ rfl rfl (by kernel_rfl) (by kernel_rfl) (by kernel_rfl) (Or.inl ⟨by rfl, ?_⟩) hSw ?_
            rotate_left
            · intro wx hSx
              (try dsimp only at hSx)
              go_split_ands
              go_simp
              (try with_reducible rfl)
            simp only [List.setIfInBounds_toArray, List.set_cons_zero, List.set_cons_succ]
            refine take_at 9 70 (fuel := 6) ?_ rfl rfl (by kernel_rfl) (by kernel_rfl) (by kernel_rfl) (Or.inl ⟨by rfl, ?_⟩) hSw ?_
            rotate_left
            · intro wx hSx
              (try dsimp only at hSx)
              go_split_ands
              go_simp
              (try with_reducible rfl)
            simp only [List.setIfInBounds_toArray, List.set_cons_zero, List.set_cons_succ]
            refine take_at 10 71 (fuel := 5) ?_ rfl rfl (by kernel_rfl) (by kernel_rfl) (by kernel_rfl) (Or.inl ⟨by rfl, ?_⟩) hSw ?_
            rotate_left
            · intro wx hSx
              (try dsimp only at hSx)
              go_split_ands
              go_simp
              (try with_reducible rfl)
            simp only [List.setIfInBounds_toArray, List.set_cons_zero, List.set_cons_succ]
            refine take_at 11 72 (fuel := 4) ?_ rfl rfl (by kernel_rfl) (by kernel_rfl) (by kernel_rfl) (Or.inl ⟨by rfl, ?_⟩) hSw ?_
            rotate_left
            · intro wx hSx
              (try dsimp only at hSx)
              go_split_ands
              go_simp
              (try with_reducible rfl)
            simp only [List.setIfInBounds_toArray, List.set_cons_zero, List.set_cons_succ]
            refine take_at 12 73 (fuel := 3) ?_ rfl rfl (by kernel_rfl) (by kernel_rfl) (by kernel_rfl) (Or.inl ⟨by rfl, ?_⟩) hSw ?_
            rotate_left
            · intro wx hSx
              (try dsimp only at hSx)
              go_split_ands
              go_simp
              (try with_reducible rfl)
            simp only [List.setIfInBounds_toArray, List.set_cons_zero, List.set_cons_succ]
            refine take_at 13 74 (fuel := 2) ?_ rfl rfl (by kernel_rfl) (by kernel_rfl) (by kernel_rfl) (Or.inl ⟨by rfl, ?_⟩) hSw ?_
            rotate_left
            · intro wx hSx
              (try dsimp only at hSx)
              go_split_ands
              go_simp
              (try with_reducible rfl)
            simp only [List.setIfInBounds_toArray, List.set_cons_zero, List.set_cons_succ]
            refine take_at 14 75 (fuel := 1) ?_ rfl rfl (by kernel_rfl) (by kernel_rfl) (by kernel_rfl) (Or.inl ⟨by rfl, ?_⟩) hSw ?_
            rotate_left
            · intro wx hSx
              (try dsimp only at hSx)
              go_split_ands
              go_simp
              (try with_reducible rfl)
            simp only [List.setIfInBounds_toArray, List.set_cons_zero, List.set_cons_succ]
            refine take_at 15 13 (fuel := 0) ?_ rfl rfl (by kernel_rfl) (by kernel_rfl) (by kernel_rfl) (Or.inl ⟨by rfl, ?_⟩) hSw ?_
            rotate_left
            · intro wx hSx
              (try dsimp only at hSx)
              go_split_ands
              go_simp
              (try with_reducible rfl)
            simp only [List.setIfInBounds_toArray, List.set_cons_zero, List.set_cons_succ]
            refine wpAnyH_done (by kernel_rfl) ⟨rfl, ?_⟩ 0
            have hAk0 := hAk.drew
            have hbk0 := hbk.drew
            have hcell3 : ∀ W, Below wr.drew.heap.size wr.drew W → (fun W => W.cell? ⟨g, k * 4, none⟩ = some (.string (str y.key)) ∧ W.cell? ⟨g, k * 4 + 1, none⟩ = some (.string (str y.val)) ∧ W.cell? ⟨g, k * 4 + 2, none⟩ = some (.int .u64 (y.ver : Int)) ∧ W.cell? ⟨g, k * 4 + 3, none⟩ = some (.int .u64 (y.fin : Int)) ∧ Below wr.drew.heap.size wr.drew W) W := fun W hb => by
              have h := hcell W (hb.block g hg)
              exact ⟨h.1, h.2.1, h.2.2.1, h.2.2.2, hb⟩
            have HS := Lib.hid hsn
            have dv : decide ((y.ver : Int) < 1) = false := decide_eq_false (by omega)
            have dv2 : ¬ (y.ver : Int) < 1 := by omega
            clear hSw hcell2 hcell hk1 hk2 hwa hwb hAk hbk hsn hsp
            generalize wr.drew = wk at *
            go_upto_region 17 with (fail)
            by_cases f0 : y.fin = 0
            · have d1 : ((y.fin : Int) != 0) = false := by rw [f0]; rfl
              clear f0 hlive
              refine region_only 24 #[false, false, false, false, false, false, false, false, false, false, false, false, false, false, false, false, false, false, false, false, false, false, false, false] (S := (fun W => W.cell? ⟨g, k * 4, none⟩ = some (.string (str y.key)) ∧ W.cell? ⟨g, k * 4 + 1, none⟩ = some (.string (str y.val)) ∧ W.cell? ⟨g, k * 4 + 2, none⟩ = some (.int .u64 (y.ver : Int)) ∧ W.cell? ⟨g, k * 4 + 3, none⟩ = some (.int .u64 (y.fin : Int)) ∧ Below wk.heap.size wk W)) rfl rfl (by kernel_rfl) (hcell3 _ (Below.refl _ _).drew) (fun hSw => ?_)
              refine take_at 0 76 (fuel := 23) ?_ rfl rfl (by kernel_rfl) (by kernel_rfl) (by kernel_rfl) (Or.inl ⟨by rfl, ?_⟩) hSw ?_
              rotate_left
              · intro wx hSx
                (try dsimp only at hSx)
                go_split_ands
                go_simp
                (try with_reducible rfl)
              simp only [List.setIfInBounds_toArray, List.set_cons_zero, List.set_cons_succ]
              refine take_at 1 77 (fuel := 22) ?_ rfl rfl (by kernel_rfl) (by kernel_rfl) (by kernel_rfl) (Or.inl ⟨by rfl, ?_⟩) hSw ?_
              rotate_left
              · intro wx hSx
                (try dsimp only at hSx)
                go_split_ands
                go_simp
                (try with_reducible rfl)
              simp only [List.setIfInBounds_toArray, List.set_cons_zero, List.set_cons_succ]
              refine take_at 2 78 (fuel := 21) ?_ rfl rfl (by kernel_rfl) (by kernel_rfl) (by kernel_rfl) (Or.inl ⟨by rfl, ?_⟩) hSw ?_
              rotate_left
              · intro wx hSx
                (try dsimp only at hSx)
                go_split_ands
                go_simp
                (try with_reducible rfl)
              simp only [List.setIfInBounds_toArray, List.set_cons_zero, List.set_cons_succ]
              refine take_at 3 79 (fuel := 20) ?_ rfl rfl (by kernel_rfl) (by kernel_rfl) (by kernel_rfl) (Or.inl ⟨by rfl, ?_⟩) hSw ?_
              rotate_left
              · intro wx hSx
                (try dsimp only at hSx)
                go_split_ands
                go_simp
                (try with_reducible rfl)
              simp only [List.setIfInBounds_toArray, List.set_cons_zero, List.set_cons_succ]
              refine take_at 4 80 (fuel := 19) ?_ rfl rfl (by kernel_rfl) (by kernel_rfl) (by kernel_rfl) (Or.inl ⟨by rfl, ?_⟩) hSw ?_
              rotate_left
              · intro wx hSx
                (try dsimp only at hSx)
                go_split_ands
                go_simp
                (try with_reducible rfl)
              simp only [List.setIfInBounds_toArray, List.set_cons_zero, List.set_cons_succ]
              refine take_at 5 81 (fuel := 18) ?_ rfl rfl (by kernel_rfl) (by kernel_rfl) (by kernel_rfl) (Or.inl ⟨by rfl, ?_⟩) hSw ?_
              rotate_left
              · intro wx hSx
                (try dsimp only at hSx)
                go_split_ands
                go_simp
                (try with_reducible rfl)
              simp only [List.setIfInBounds_toArray, List.set_cons_zero, List.set_cons_succ]
              refine take_at 6 82 (fuel := 17) ?_ rfl rfl (by kernel_rfl) (by kernel_rfl) (by kernel_rfl) (Or.inl ⟨by rfl, ?_⟩) hSw ?_
              rotate_left
              · intro wx hSx
                (try dsimp only at hSx)
                go_split_ands
                go_simp
                (try with_reducible rfl)
              simp only [List.setIfInBounds_toArray, List.set_cons_zero, List.set_cons_succ]
              refine take_at 7 83 undef (fuel := 16) rfl rfl (by kernel_rfl) (by kernel_rfl) (by kernel_rfl) (Or.inr ⟨by rfl, rfl⟩) hSw ?_
              simp only [List.setIfInBounds_toArray, List.set_cons_zero, List.set_cons_succ]
              refine take_at 8 84 undef (fuel := 15) rfl rfl (by kernel_rfl) (by kernel_rfl) (by kernel_rfl) (Or.inr ⟨by rfl, rfl⟩) hSw ?_
              simp only [List.setIfInBounds_toArray, List.set_cons_zero, List.set_cons_succ]
              refine take_at 9 85 undef (fuel := 14) rfl rfl (by kernel_rfl) (by kernel_rfl) (by kernel_rfl) (Or.inr ⟨by rfl, rfl⟩) hSw ?_
              simp only [List.setIfInBounds_toArray, List.set_cons_zero, List.set_cons_succ]
              refine take_at 10 86 undef (fuel := 13) rfl rfl (by kernel_rfl) (by kernel_rfl) (by kernel_rfl) (Or.inr ⟨by rfl, rfl⟩) hSw ?_
              simp only [List.setIfInBounds_toArray, List.set_cons_zero, List.set_cons_succ]
              refine take_at 11 87 undef (fuel := 12) rfl rfl (by kernel_rfl) (by kernel_rfl) (by kernel_rfl) (Or.inr ⟨by rfl, rfl⟩) hSw ?_
              simp only [List.setIfInBounds_toArray, List.set_cons_zero, List.set_cons_succ]
              refine take_at 12 88 undef (fuel := 11) rfl rfl (by kernel_rfl) (by kernel_rfl) (by kernel_rfl) (Or.inr ⟨by rfl, rfl⟩) hSw ?_
              simp only [List.setIfInBounds_toArray, List.set_cons_zero, List.set_cons_succ]
              refine take_at 13 89 undef (fuel := 10) rfl rfl (by kernel_rfl) (by kernel_rfl) (by kernel_rfl) (Or.inr ⟨by rfl, rfl⟩) hSw ?_
              simp only [List.setIfInBounds_toArray, List.set_cons_zero, List.set_cons_succ]
              refine take_at 14 90 undef (fuel := 9) rfl rfl (by kernel_rfl) (by kernel_rfl) (by kernel_rfl) (Or.inr ⟨by rfl, rfl⟩) hSw ?_
              simp only [List.setIfInBounds_toArray, List.set_cons_zero, List.set_cons_succ]
              refine take_at 15 91 (fuel := 8) ?_ rfl rfl (by kernel_rfl) (by kernel_rfl) (by kernel_rfl) (Or.inl ⟨by rfl, ?_⟩) hSw ?_
              rotate_left
              · intro wx hSx
                (try dsimp only at hSx)
                go_split_ands
                go_simp
                (try with_reducible rfl)
              simp only [List.setIfInBounds_toArray, List.set_cons_zero, List.set_cons_succ]
              refine take_at 16 92 (fuel := 7) ?_ rfl rfl (by kernel_rfl) (by kernel_rfl) (by kernel_rfl) (Or.inl ⟨by rfl, ?_⟩) hSw ?_
              rotate_left
              · intro wx hSx
                (try dsimp only at hSx)
                go_split_ands
                go_simp
                (try with_reducible rfl)
              simp only [List.setIfInBounds_toArray, List.set_cons_zero, List.set_cons_succ]
              refine take_at 17 93 (fuel := 6) ?_ rfl rfl (by kernel_rfl) (by kernel_rfl) (by kernel_rfl) (Or.inl ⟨by rfl, ?_⟩) hSw ?_
              rotate_left
              · intro wx hSx
                (try dsimp only at hSx)
                go_split_ands
                go_simp
                (try with_reducible rfl)
              simp only [List.setIfInBounds_toArray, List.set_cons_zero, List.set_cons_succ]
              refine take_at 18 94 (fuel := 5) ?_ rfl rfl (by kernel_rfl) (by kernel_rfl) (by kernel_rfl) (Or.inl ⟨by rfl, ?_⟩) hSw ?_
              rotate_left
              · intro wx hSx
                (try dsimp only at hSx)
                go_split_ands
                go_simp
                (try with_reducible rfl)
              simp only [List.setIfInBounds_toArray, List.set_cons_zero, List.set_cons_succ]
              refine take_at 19 95 (fuel := 4) ?_ rfl rfl (by kernel_rfl) (by kernel_rfl) (by kernel_rfl) (Or.inl ⟨by rfl, ?_⟩) hSw ?_
              rotate_left
              · intro wx hSx
                (try dsimp only at hSx)
                go_split_ands
                go_simp
                (try with_reducible rfl)
              simp only [List.setIfInBounds_toArray, List.set_cons_zero, List.set_cons_succ]
              refine take_at 20 96 (fuel := 3) ?_ rfl rfl (by kernel_rfl) (by kernel_rfl) (by kernel_rfl) (Or.inl ⟨by rfl, ?_⟩) hSw ?_
              rotate_left
              · intro wx hSx
                (try dsimp only at hSx)
                go_split_ands
                go_simp
                (try with_reducible rfl)
              simp only [List.setIfInBounds_toArray, List.set_cons_zero, List.set_cons_succ]
              refine take_at 21 97 (fuel := 2) ?_ rfl rfl (by kernel_rfl) (by kernel_rfl) (by kernel_rfl) (Or.inl ⟨by rfl, ?_⟩) hSw ?_
              rotate_left
              · intro wx hSx
                (try dsimp only at hSx)
                go_split_ands
                go_simp
                (try with_reducible rfl)
              simp only [List.setIfInBounds_toArray, List.set_cons_zero, List.set_cons_succ]
              refine take_at 22 98 (fuel := 1) ?_ rfl rfl (by kernel_rfl) (by kernel_rfl) (by kernel_rfl) (Or.inl ⟨by rfl, ?_⟩) hSw ?_
              rotate_left
              · intro wx hSx
                (try dsimp only at hSx)
                go_split_ands
                go_simp
                (try with_reducible rfl)
              simp only [List.setIfInBounds_toArray, List.set_cons_zero, List.set_cons_succ]
              refine take_at 23 99 (fuel := 0) ?_ rfl rfl (by kernel_rfl) (by kernel_rfl) (by kernel_rfl) (Or.inl ⟨by rfl, ?_⟩) hSw ?_
              rotate_left
              · intro wx hSx
                (try dsimp only at hSx)
                go_split_ands
                go_simp
                (try with_reducible rfl)
              simp only [List.setIfInBounds_toArray, List.set_cons_zero, List.set_cons_succ]
              refine wpAnyH_done (by kernel_rfl) ⟨rfl, ?_⟩ 0
              have hbn := hbk0.trans (hSw.2.2.2.2.mono hbk0.size)
              clear hSw hcell3 hAk0 hbk0
              go_wp2_with fail
              go_roundw
              case rel => exact ⟨k + 1, by omega, rfl, by rw [HS.out]; rfl, hbn⟩
              case measure => simp [intOf]; omega
            · have d1 : ((y.fin : Int) != 0) = true := bne_iff_ne.2 (by omega)
              have d2 : decide ((y.fin : Int) ≤ (t.now : Int)) = false := decide_eq_false (by omega)
              have d3 : ¬ (y.fin : Int) ≤ (t.now : Int) := by omega
              clear f0 hlive
              refine region_only 24 #[false, false, false, false, false, false, false, false, false, false, false, false, false, false, false, false, false, false, false, false, false, false, false, false] (S := (fun W => W.cell? ⟨g, k * 4, none⟩ = some (.string (str y.key)) ∧ W.cell? ⟨g, k * 4 + 1, none⟩ = some (.string (str y.val)) ∧ W.cell? ⟨g, k * 4 + 2, none⟩ = some (.int .u64 (y.ver : Int)) ∧ W.cell? ⟨g, k * 4 + 3, none⟩ = some (.int .u64 (y.fin : Int)) ∧ Below wk.heap.size wk W)) rfl rfl (by kernel_rfl) (hcell3 _ (Below.refl _ _).drew) (fun hSw => ?_)
              refine take_at 0 76 (fuel := 23) ?_ rfl rfl (by kernel_rfl) (by kernel_rfl) (by kernel_rfl) (Or.inl ⟨by rfl, ?_⟩) hSw ?_
              rotate_left
              · intro wx hSx
                (try dsimp only at hSx)
                go_split_ands
                go_simp
                (try with_reducible rfl)
              simp only [List.setIfInBounds_toArray, List.set_cons_zero, List.set_cons_succ]
              refine take_at 1 77 (fuel := 22) ?_ rfl rfl (by kernel_rfl) (by kernel_rfl) (by kernel_rfl) (Or.inl ⟨by rfl, ?_⟩) hSw ?_
              rotate_left
              · intro wx hSx
                (try dsimp only at hSx)
                go_split_ands
                go_simp
                (try with_reducible rfl)
              simp only [List.setIfInBounds_toArray, List.set_cons_zero, List.set_cons_succ]
              refine take_at 2 78 (fuel := 21) ?_ rfl rfl (by kernel_rfl) (by kernel_rfl) (by kernel_rfl) (Or.inl ⟨by rfl, ?_⟩) hSw ?_
              rotate_left
              · intro wx hSx
                (try dsimp only at hSx)
                go_split_ands
                go_simp
                (try with_reducible rfl)
              simp only [List.setIfInBounds_toArray, List.set_cons_zero, List.set_cons_succ]
              refine take_at 3 79 (fuel := 20) ?_ rfl rfl (by kernel_rfl) (by kernel_rfl) (by kernel_rfl) (Or.inl ⟨by rfl, ?_⟩) hSw ?_
              rotate_left
              · intro wx hSx
                (try dsimp only at hSx)
                go_split_ands
                go_simp
                (try with_reducible rfl)
              simp only [List.setIfInBounds_toArray, List.set_cons_zero, List.set_cons_succ]
              refine take_at 4 80 (fuel := 19) ?_ rfl rfl (by kernel_rfl) (by kernel_rfl) (by kernel_rfl) (Or.inl ⟨by rfl, ?_⟩) hSw ?_
              rotate_left
              · intro wx hSx
                (try dsimp only at hSx)
                go_split_ands
                go_simp
                (try with_reducible rfl)
              simp only [List.setIfInBounds_toArray, List.set_cons_zero, List.set_cons_succ]
              refine take_at 5 81 (fuel := 18) ?_ rfl rfl (by kernel_rfl) (by kernel_rfl) (by kernel_rfl) (Or.inl ⟨by rfl, ?_⟩) hSw ?_
              rotate_left
              · intro wx hSx
                (try dsimp only at hSx)
                go_split_ands
                go_simp
                (try with_reducible rfl)
              simp only [List.setIfInBounds_toArray, List.set_cons_zero, List.set_cons_succ]
              refine take_at 6 82 (fuel := 17) ?_ rfl rfl (by kernel_rfl) (by kernel_rfl) (by kernel_rfl) (Or.inl ⟨by rfl, ?_⟩) hSw ?_
              rotate_left
              · intro wx hSx
                (try dsimp only at hSx)
                go_split_ands
                go_simp
                (try with_reducible rfl)
              simp only [List.setIfInBounds_toArray, List.set_cons_zero, List.set_cons_succ]
              refine take_at 7 83 (fuel := 16) ?_ rfl rfl (by kernel_rfl) (by kernel_rfl) (by kernel_rfl) (Or.inl ⟨by rfl, ?_⟩) hSw ?_
              rotate_left
              · intro wx hSx
                (try dsimp only at hSx)
                go_split_ands
                go_simp
                (try with_reducible rfl)
              simp only [List.setIfInBounds_toArray, List.set_cons_zero, List.set_cons_succ]
              refine take_at 8 84 (fuel := 15) ?_ rfl rfl (by kernel_rfl) (by kernel_rfl) (by kernel_rfl) (Or.inl ⟨by rfl, ?_⟩) hSw ?_
              rotate_left
              · intro wx hSx
                (try dsimp only at hSx)
                go_split_ands
                go_simp
                (try with_reducible rfl)
              simp only [List.setIfInBounds_toArray, List.set_cons_zero, List.set_cons_succ]
              refine take_at 9 85 (fuel := 14) ?_ rfl rfl (by kernel_rfl) (by kernel_rfl) (by kernel_rfl) (Or.inl ⟨by rfl, ?_⟩) hSw ?_
              rotate_left
              · intro wx hSx
                (try dsimp only at hSx)
                go_split_ands
                go_simp
                (try with_reducible rfl)
              simp only [List.setIfInBounds_toArray, List.set_cons_zero, List.set_cons_succ]
              refine take_at 10 86 (fuel := 13) ?_ rfl rfl (by kernel_rfl) (by kernel_rfl) (by kernel_rfl) (Or.inl ⟨by rfl, ?_⟩) hSw ?_
              rotate_left
              · intro wx hSx
                (try dsimp only at hSx)
                go_split_ands
                go_simp
                (try with_reducible rfl)
              simp only [List.setIfInBounds_toArray, List.set_cons_zero, List.set_cons_succ]
              refine take_at 11 87 (fuel := 12) ?_ rfl rfl (by kernel_rfl) (by kernel_rfl) (by kernel_rfl) (Or.inl ⟨by rfl, ?_⟩) hSw ?_
              rotate_left
              · intro wx hSx
                (try dsimp only at hSx)
                go_split_ands
                go_simp
                (try with_reducible rfl)
              simp only [List.setIfInBounds_toArray, List.set_cons_zero, List.set_cons_succ]
              refine take_at 12 88 (fuel := 11) ?_ rfl rfl (by kernel_rfl) (by kernel_rfl) (by kernel_rfl) (Or.inl ⟨by rfl, ?_⟩) hSw ?_
              rotate_left
              · intro wx hSx
                (try dsimp only at hSx)
                go_split_ands
                go_simp
                (try with_reducible rfl)
              simp only [List.setIfInBounds_toArray, List.set_cons_zero, List.set_cons_succ]
              refine wpAnyH_ready (fuel := 10) (rs := [13]) (by kernel_rfl) (by simp) (AllReadyH.cons rfl (fun K hK => ?_) AllReadyH.nil)
              go_simp
              refine Calls.mono (now_s (hAk0.below hSw.2.2.2.2)) ?_
              rintro e wv ⟨rfl, rfl⟩
              refine hK.out _ _ hSw (fun hSw => ?_)
              clear hK K
              simp only [List.setIfInBounds_toArray, List.set_cons_zero, List.set_cons_succ]
              refine take_at 14 90 (fuel := 9) ?_ rfl rfl (by kernel_rfl) (by kernel_rfl) (by kernel_rfl) (Or.inl ⟨by rfl, ?_⟩) hSw ?_
              rotate_left
              · intro wx hSx
                (try dsimp only at hSx)
                go_split_ands
                go_simp
                (try with_reducible rfl)
              simp only [List.setIfInBounds_toArray, List.set_cons_zero, List.set_cons_succ]
              refine take_at 15 91 (fuel := 8) ?_ rfl rfl (by kernel_rfl) (by kernel_rfl) (by kernel_rfl) (Or.inl ⟨by rfl, ?_⟩) hSw ?_
              rotate_left
              · intro wx hSx
                (try dsimp only at hSx)
                go_split_ands
                go_simp
                (try with_reducible rfl)
              simp only [List.setIfInBounds_toArray, List.set_cons_zero, List.set_cons_succ]
              refine take_at 16 92 (fuel := 7) ?_ rfl rfl (by kernel_rfl) (by kernel_rfl) (by kernel_rfl) (Or.inl ⟨by rfl, ?_⟩) hSw ?_
              rotate_left
              · intro wx hSx
                (try dsimp only at hSx)
                go_split_ands
                go_simp
                (try with_reducible rfl)
              simp only [List.setIfInBounds_toArray, List.set_cons_zero, List.set_cons_succ]
              refine take_at 17 93 (fuel := 6) ?_ rfl rfl (by kernel_rfl) (by kernel_rfl) (by kernel_rfl) (Or.inl ⟨by rfl, ?_⟩) hSw ?_
              rotate_left
              · intro wx hSx
                (try dsimp only at hSx)
                go_split_ands
                go_simp
                (try with_reducible rfl)
              simp only [List.setIfInBounds_toArray, List.set_cons_zero, List.set_cons_succ]
              refine take_at 18 94 (fuel := 5) ?_ rfl rfl (by kernel_rfl) (by kernel_rfl) (by kernel_rfl) (Or.inl ⟨by rfl, ?_⟩) hSw ?_
              rotate_left
              · intro wx hSx
                (try dsimp only at hSx)
                go_split_ands
                go_simp
                (try with_reducible rfl)
              simp only [List.setIfInBounds_toArray, List.set_cons_zero, List.set_cons_succ]
              refine take_at 19 95 (fuel := 4) ?_ rfl rfl (by kernel_rfl) (by kernel_rfl) (by kernel_rfl) (Or.inl ⟨by rfl, ?_⟩) hSw ?_
              rotate_left
              · intro wx hSx
                (try dsimp only at hSx)
                go_split_ands
                go_simp
                (try with_reducible rfl)
              simp only [List.setIfInBounds_toArray, List.set_cons_zero, List.set_cons_succ]
              refine take_at 20 96 (fuel := 3) ?_ rfl rfl (by kernel_rfl) (by kernel_rfl) (by kernel_rfl) (Or.inl ⟨by rfl, ?_⟩) hSw ?_
              rotate_left
              · intro wx hSx
                (try dsimp only at hSx)
                go_split_ands
                go_simp
                (try with_reducible rfl)
              simp only [List.setIfInBounds_toArray, List.set_cons_zero, List.set_cons_succ]
              refine take_at 21 97 (fuel := 2) ?_ rfl rfl (by kernel_rfl) (by kernel_rfl) (by kernel_rfl) (Or.inl ⟨by rfl, ?_⟩) hSw ?_
              rotate_left
              · intro wx hSx
                (try dsimp only at hSx)
                go_split_ands
                go_simp
                (try with_reducible rfl)
              simp only [List.setIfInBounds_toArray, List.set_cons_zero, List.set_cons_succ]
              refine take_at 22 98 (fuel := 1) ?_ rfl rfl (by kernel_rfl) (by kernel_rfl) (by kernel_rfl) (Or.inl ⟨by rfl, ?_⟩) hSw ?_
              rotate_left
              · intro wx hSx
                (try dsimp only at hSx)
                go_split_ands
                go_simp
                (try with_reducible rfl)
              simp only [List.setIfInBounds_toArray, List.set_cons_zero, List.set_cons_succ]
              refine take_at 23 99 (fuel := 0) ?_ rfl rfl (by kernel_rfl) (by kernel_rfl) (by kernel_rfl) (Or.inl ⟨by rfl, ?_⟩) hSw ?_
              rotate_left
              · intro wx hSx
                (try dsimp only at hSx)
                go_split_ands
                go_simp
                (try with_reducible rfl)
              simp only [List.setIfInBounds_toArray, List.set_cons_zero, List.set_cons_succ]
              refine wpAnyH_done (by kernel_rfl) ⟨rfl, ?_⟩ 0
              have hbn := hbk0.trans (hSw.2.2.2.2.mono hbk0.size)
              clear hSw hcell3 hAk0 hbk0
              go_wp2_with fail
              go_roundw
              case rel => exact ⟨k + 1, by omega, rfl, by rw [HS.out]; rfl, hbn⟩
              case measure => simp [intOf]; omega
          · obtain rfl : k = t.m.length := by omega
            have c1 : wr.cell? ⟨cb, 1, none⟩ = some (.int .i64 (q2 : Int)) := (hC.below hAk.since hC.lt).cell 1
            have c2 : wr.cell? ⟨cb, 2, none⟩ = some (.int .i64 (q3 : Int)) := (hC.below hAk.since hC.lt).cell 2
            have d3 : decide ((q2 : Int) < (t.m.length : Int)) = false := decide_eq_false (by omega)
            have d4 : ¬ (q2 : Int) < (t.m.length : Int) := by omega
            rw [List.take_length]
            generalize size t.m = sz at *
            have d5 : decide ((q3 : Int) < (sz : Int)) = false := decide_eq_false (by omega)
            have d6 : ¬ (q3 : Int) < (sz : Int) := by omega
            have hge : ¬ (t.m.length : Int) < (t.m.length : Int) := by omega
            clear hslk hsl hbk
            go_wp2_with fail
            refine ⟨⟨j + 1, H7, by omega, by omega, rfl, by rw [HX2.out], by rw [HT1.out]; exact hAk⟩, ?_⟩
            simp [intOf]; omega
    · have hbel := hbB.trans (hA.since.mono hbB.size)
      have hcc : ¬ j < len ∨ (j < len ∧ ¬ j < 80) := by omega
      clear hA hinv h3
      rcases hcc with hc1 | ⟨hc1, hc2⟩
      · have d1 : decide ((j : Int) < (len : Int)) = false := decide_eq_false (by omega)
        have d2 : ¬ (j : Int) < (len : Int) := by omega
        go_wp2_with fail
        go_ret
        exact ⟨rfl, hbel⟩
      · have d1 : decide ((j : Int) < (len : Int)) = true := decide_eq_true (by omega)
        have d2 : (j : Int) < (len : Int) := by omega
        have d3 : decide ((j : Int) < 80) = false := decide_eq_false (by omega)
        have d4 : ¬ (j : Int) < 80 := by omega
        go_wp2_with fail
        go_ret
        exact ⟨rfl, hbel⟩
set_option linter.unusedVariables false in
set_option maxRecDepth 100000 in
theorem storeBounds_lifted (os : Os) (started : os.Started) (H : Type) (enc : TypeId × Value → H) :
    ReturnsInHanded {} Tryz.checked os 5 .any (Rows.storeBoundsSpec.pre6 enc Tryz.prog Tryz.f5 Rows.storeBoundsRow.domain false) (Rows.storeBoundsSpec.post enc Tryz.prog Tryz.f5 false true false false) := by
  refine returnsInHanded_of_change (C := Tryz.checked) Kit.own started (by kernel_rfl) Tryz.func5
    (ChangeSpec.witness6 (enc := enc) (C := Tryz.checked) false ⟨#[], #[.agg #[.int .i64 0, .int .i64 0, .int .i64 0, .int .u64 0], .slice none 0 0], []⟩ 8 (by kernel_rfl) (by kernel_rfl) (by kernel_rfl) (by kernel_rfl)) ?_
  intro W base args ds gs before hval0 hW hcnd _
  have hval : ∀ (j : Nat) t v, Tryz.f5.params[j]? = some t → args[j]? = some v → Value.okWide Tryz.prog W .any base t v := hval0
  have hW' := hW
  obtain ⟨p, q, hA0, hV, rfl, hfz, hnd⟩ := hW
  have hA : DataW.TrodAll enc Tryz.prog W 0 (fun _ => true) true Tryz.f5.params.toList args.toList ds p := hA0
  rw [Tryz.params5] at hA hval
  obtain ⟨v0, vs0, d0, ds0, p0, q0, hargs, rfl, rfl, h0, r0⟩ := trodAll_cons hA
  obtain ⟨v1, vs1, d1, ds1, p1, q1, rfl, rfl, rfl, h1, r1⟩ := trodAll_cons r0
  obtain ⟨rfl, rfl, rfl⟩ := trodAll_nil r1
  obtain ⟨rfl, rfl⟩ := trodVars_none hV
  obtain rfl : args = #[v0, v1] := by cases args; simp_all
  obtain ⟨c0_0, c0_1, c0_2, c0_3, y0_0, y0_1, y0_2, y0_3, m0, rfl, rfl, rfl, hy0_0, hy0_1, hy0_2, hy0_3⟩ := Joins.open_agg4 Tryz.underlying24 (by kernel_rfl) (by kernel_rfl) (hval 0 24 v0 rfl rfl) h0
  obtain ⟨a0_0, e0_0, rfl, w0_0⟩ := DataW.trod_int Tryz.underlying3 hy0_0
  obtain rfl := (List.cons.inj e0_0).1
  obtain ⟨a0_1, e0_1, rfl, w0_1⟩ := DataW.trod_int Tryz.underlying3 hy0_1
  obtain rfl := (List.cons.inj e0_1).1
  obtain ⟨a0_2, e0_2, rfl, w0_2⟩ := DataW.trod_int Tryz.underlying3 hy0_2
  obtain rfl := (List.cons.inj e0_2).1
  obtain ⟨a0_3, e0_3, rfl, w0_3⟩ := DataW.trod_int Tryz.underlying22 hy0_3
  obtain rfl := (List.cons.inj e0_3).1
  obtain ⟨b1, c1, e1, rfl⟩ := okWide_slice Tryz.underlying25 (hval 1 25 v1 rfl rfl)
  obtain ⟨fuel1, hf1⟩ := h1
  obtain ⟨ao1, len1, cap1, sb1, off1, tx1, hv1, ht1⟩ := open_acs (show DataW.trod enc Tryz.prog W 0 (fun _ => true) true fuel1 25 [.slice b1 c1 e1] = some _ from hf1)
  injection hv1 with hv1x hv1y hv1z
  subst hv1x hv1y hv1z
  clear hA0 hval0
  refine (storeBounds_walk a0_0 w0_0 a0_1 w0_1 a0_2 w0_2 a0_3 w0_3 _ _ _ _ _ _ W ht1).mono fun e W' ⟨he, hg⟩ => ?_
  subst he
  exact ⟨_, rfl, Kit.law_post hW' rfl (by kernel_rfl) rfl (by kernel_rfl) hg⟩

theorem storeBounds_over : Rows.storeBoundsRow.holds Tryz.pinned (OpenSpec.ofChange Rows.storeBoundsSpec) :=
  OpenClaim.holds_of_wide 5 Tryz.f5 rfl rfl rfl rfl rfl rfl rfl ⟨rfl, rfl, rfl, rfl, rfl⟩ rfl rfl rfl rfl rfl (by kernel_rfl) Tryz.func5 (by kernel_rfl)
    (of_decide_eq_true (by kernel_rfl)) (by unfold Func.isWrapper; first | (rw [if_pos (by decide +kernel)]; kernel_rfl) | (rw [if_neg (by decide +kernel)]; exact ⟨rfl, rfl⟩))
    (fun os started H enc _ => storeBounds_lifted os started H enc)

theorem storeBounds_holds : Rows.StoreBoundsSaid :=
  storeBounds_over

end
end Go.Proofs.YtlnjnpchkdipdaaGreat.Storey
