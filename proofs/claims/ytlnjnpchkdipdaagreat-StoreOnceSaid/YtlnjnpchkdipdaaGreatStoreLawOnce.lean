/- Layer 12 (store): for every input the call returns true and leaves what it was given as it was: an operation that is asked for again by the same session, with the same number, is told what was told, and changes nothing but the place and the tick; one that is older is told that (StoreOnce). No condition. -/
import Derived.Test.YtlnjnpchkdipdaaGreatKit
import Derived.Test.YtlnjnpchkdipdaaGreatStoreToldAll
import Derived.Lib.SmallJoins
import Derived.Test.YtlnjnpchkdipdaaGreatStorePlayed
import Derived.Test.YtlnjnpchkdipdaaGreatStoreOnceMath
namespace Go.Proofs.YtlnjnpchkdipdaaGreat.Storey
open Go.ChangeShapes Go.WideShapes Go.ChangeAt Go.RowKit
open Wirey (Blk Row str str_size str_list Kp)
open Taby (En TabAt Tbl tp find ins drop size ended St)
open Policyy (Pv HeldP StepP Tell)
open Ringy (Key)
open Regy

section
variable {w0 w w' w'' : World} {B b T M C S : Nat} {H H' : Nat → Prop} {s t : Sv} {k : Key} {v : Value} {l : List Key} {o : Opn} {x : Rcd}
/-- Entries that were told, beside the cache. -/
structure Ent (b T M S : Nat) (H : Nat → Prop) (v : Value) (l : List En) (W : World) : Prop where
  sl : Taby.Sl W 0 v l
  no : ∀ g, v.ownBlock = some g → ¬ Own b T M S H g
theorem own_step {q : Nat} (hs : Stp b T M S w H w' H') (hlt : q < w.heap.size) (no : ¬ Own b T M S H q) : ¬ Own b T M S H' q := fun ho => by
  rcases ho with h1 | h1 | h1 | h1 | h1
  · exact no (.inl h1)
  · exact no (.inr (.inl h1))
  · exact no (.inr (.inr (.inl h1)))
  · exact no (.inr (.inr (.inr (.inl h1))))
  · rcases hs.new q h1 with h2 | h2
    · exact no (.inr (.inr (.inr (.inr h2))))
    · omega
theorem Ent.step {l : List En} (h : Ent b T M S H v l w) (hs : Stp b T M S w H w' H') : Ent b T M S H' v l w' :=
  ⟨h.sl.stay fun g hg => hs.kp.block g (h.sl.lt g hg).2 (h.no g hg), fun g hg => own_step hs (h.sl.lt g hg).2 (h.no g hg)⟩
theorem Ent.below {l : List En} (h : Ent b T M S H v l w) (hb : Below w.heap.size w w') : Ent b T M S H v l w' := h.step (.of_below hb (Nat.le_refl _))
theorem Ent.new {l : List En} (h : At w0 w b T M C S H s) (hl : Taby.Sl w' w.heap.size v l) : Ent b T M S H v l w' := ⟨hl.low (Nat.zero_le _), fun g hg => h.not (hl.lt g hg).1⟩
theorem Ent.far {l : List En} {r : Nat} (h : Ent b T M S H v l w) (hne : ∀ g, v.ownBlock = some g → g ≠ r) (i : Nat) (u : Value) : Ent b T M S H v l (w.setCell ⟨r, i, none⟩ u) :=
  ⟨h.sl.stay fun g hg => Below.heap_setCell _ _ _ _ (hne g hg), h.no⟩
set_option maxHeartbeats 4000000 in
set_option maxRecDepth 100000 in
theorem storeOnce_walk (p : Int) (_ : (Lit.int .i64 p).wf = true) (n : Int) (_ : (Lit.int .i64 n).wf = true) (bb : Int) (_ : (Lit.int .i64 bb).wf = true) (seed0 : Int) (wsd : (Lit.int .u64 seed0).wf = true) (ao : Option Addr) (len cap sb off : Nat) (X : Nat → Ac) (aa : Ac) (haa : aa.Big) (w : World) (hX : Acs w ao len sb off X) :
    Calls Tryz.prog 4 #[.agg #[.int .i64 p, .int .i64 n, .int .i64 bb, .int .u64 seed0], .slice ao len cap, .agg aa.cs] w fun e w' => e = .returned (.bool true) ∧ Below w.heap.size w w' := by
  obtain ⟨seed, rfl, hsd⟩ := Arry.u64_nat wsd
  have hfr := cfg_fresh p n bb hsd
  have hmost := hX.most
  unfold maxLen at hmost
  have hpl := pl_inv (X := X) (n := min len 60) hfr (fun i hi => hX.big i (by omega)) (by omega) (min len 60) (Nat.le_refl _)
  have hpc := fun {W : World} (hb : Below w.heap.size w W) => played_c p n bb hsd ao len cap sb off X W (hX.below hb)
  generalize (pl X (cfgS p n bb seed) (min len 60)).1 = s at *
  generalize (pl X (cfgS p n bb seed) (min len 60)).2 = nw at *
  have q1_ := hpl.seq
  have q2_ := hpl.at_
  have hss := hpl.ss
  have hO := hpl.ok
  clear hpl hfr hX
  have hrec := fun W => record_c (seq := s.seq) (now := nw) (a := aa) (by omega) (by omega) haa W
  have hyk := recOf_ok (seq := s.seq) (now := nw) (by omega) (by omega) haa
  generalize recOf s.seq nw aa = yy at *
  generalize nextOf nw aa = nw2 at *
  have hx1 : (⟨s.seq + 1, yy.now, yy.ses, 40, yy.op⟩ : Rcd).Ok := ⟨(by show s.seq + 1 < _; omega), hyk.now, hyk.ses, (by show (40 : Nat) < _; omega), hyk.key, hyk.val, hyk.ttl, hyk.ver⟩
  have hap := fun {W : World} {b T M C S : Nat} {H : Nat → Prop} (h : At w W b T M C S H s) => (show Calls Tryz.prog 13 #[tp b, .agg #[.int .u64 ((s.seq : Int) + 1), .int .u64 (yy.now : Int), .int .u64 (yy.ses : Int), .int .u64 40, .int .i64 yy.op.kind, .string (str yy.op.key), .string (str yy.op.val), .int .u64 (yy.op.ttl : Int), .int .u64 (yy.op.ver : Int)]] W fun e w' => e = .returned (.tuple #[.agg (s.apply ⟨s.seq + 1, yy.now, yy.ses, 40, yy.op⟩).2.1.cs, .int .i64 ((s.apply ⟨s.seq + 1, yy.now, yy.ses, 40, yy.op⟩).2.2 : Int)]) ∧ ∃ H', At w w' b T M C S H' (s.apply ⟨s.seq + 1, yy.now, yy.ses, 40, yy.op⟩).1 ∧ Stp b T M S W H w' H' from apply1_a (x := ⟨s.seq + 1, yy.now, yy.ses, 40, yy.op⟩) hO hx1 rfl rfl h)
  have hfs := first_spec hO hx1 (fun y hy => (hss y hy).2) rfl
  have hk1 : (⟨s.seq + 1, yy.now, yy.ses, 40, yy.op⟩ : Rcd).op.kind = yy.op.kind := rfl
  rw [hk1] at hfs
  clear hk1
  have hrok := (hO.apply hx1).2.1
  generalize (s.apply ⟨s.seq + 1, yy.now, yy.ses, 40, yy.op⟩).1 = t1 at *
  generalize (s.apply ⟨s.seq + 1, yy.now, yy.ses, 40, yy.op⟩).2.1 = rr at *
  generalize (s.apply ⟨s.seq + 1, yy.now, yy.ses, 40, yy.op⟩).2.2 = ne at *
  have hw1 : IntKind.u64.wrap ((s.seq : Int) + 1) = (s.seq : Int) + 1 := IntWalk.u64_in _ (by omega)
  have hw2 : IntKind.u64.wrap ((s.seq : Int) + 1 + 1) = (s.seq : Int) + 1 + 1 := IntWalk.u64_in _ (by omega)
  have hw3 : IntKind.u64.wrap ((s.seq : Int) + 1 + 1 + 1) = (s.seq : Int) + 1 + 1 + 1 := IntWalk.u64_in _ (by omega)
  have hbc := (Below.refl _ w).alloc (Nat.le_refl _) (.cells #[.int .i64 p, .int .i64 n, .int .i64 bb, .int .u64 (seed : Int)] 24)
  have hb0 := hbc.alloc hbc.size (.cells aa.cs 59)
  have hA0 : Blk ((w.alloc (.cells #[.int .i64 p, .int .i64 n, .int .i64 bb, .int .u64 (seed : Int)] 24)).alloc (.cells aa.cs 59)) (w.heap.size + 1) 59 aa.cs := by
    have h := Blk.new (w.alloc (.cells #[.int .i64 p, .int .i64 n, .int .i64 bb, .int .u64 (seed : Int)] 24)) 59 aa.cs
    rwa [show (w.alloc (.cells #[.int .i64 p, .int .i64 n, .int .i64 bb, .int .u64 (seed : Int)] 24)).heap.size = w.heap.size + 1 by simp] at h
  go_enter Tryz.func4, Tryz.ntmps4
  go_wp2_with fail
  generalize (w.alloc (.cells #[.int .i64 p, .int .i64 n, .int .i64 bb, .int .u64 (seed : Int)] 24)).alloc (.cells aa.cs 59) = w0' at *
  generalize w.heap.size + 1 = qa at *
  have hw0 := hb0
  refine (hpc hb0).mono ?_
  rintro e w1 ⟨b, T, M, C, S, H, rfl, h1⟩
  have hA1 := hA0.below h1.since hA0.lt
  replace h1 : At w w1 b T M C S H s := h1.from_ hb0
  clear hpc hb0 hbc hA0 hw0
  go_wp2_with fail
  refine (awake_c _).mono ?_
  rintro e wr ⟨rfl, hbr⟩
  have hA := h1.below hbr
  have hAr := hA1.below hbr hA1.lt
  clear h1 hbr hA1
  go_upto_region 4 with (fail)
  have hseq := fun (W : World) (hb : Below wr.heap.size wr W) => seq_s (hA.below hb)
  have mk : ∀ W, Below wr.heap.size wr W → W.cell? ⟨qa, 0, none⟩ = some (.int .u64 (aa.ticks : Int)) ∧ W.cell? ⟨qa, 1, none⟩ = some (.int .u64 (aa.ses : Int)) ∧ W.cell? ⟨qa, 2, none⟩ = some (.int .u64 (aa.num : Int)) ∧ W.cell? ⟨qa, 3, none⟩ = some (.int .i64 aa.op.kind) ∧ W.cell? ⟨qa, 4, none⟩ = some (.string (str aa.op.key)) ∧ W.cell? ⟨qa, 5, none⟩ = some (.string (str aa.op.val)) ∧ W.cell? ⟨qa, 6, none⟩ = some (.int .u64 (aa.op.ttl : Int)) ∧ W.cell? ⟨qa, 7, none⟩ = some (.int .u64 (aa.op.ver : Int)) ∧ W.cell? ⟨qa, 8, none⟩ = some (.int .i64 aa.skip) := fun W hb => by
    have h := hAr.below hb hAr.lt
    exact ⟨h.cell 0, h.cell 1, h.cell 2, h.cell 3, h.cell 4, h.cell 5, h.cell 6, h.cell 7, h.cell 8⟩
  have hb2 : Below wr.heap.size wr wr.drew := ⟨rfl, rfl, rfl, Nat.le_refl _, fun _ _ => rfl⟩
  go_cut [10, 11] from 35 (fun v10 v11 wx => ∃ q, v10 = .pointer (some ⟨q, 0, none⟩) ∧ v11 = .int .u64 (nw2 : Int) ∧ Below wr.heap.size wr wx ∧ Blk wx q 54 yy.cs ∧ wr.heap.size ≤ q)
  case first =>
    refine region_only 11 #[false, false, false, false, false, false, false, false, false, false, false] (S := fun W => W.cell? ⟨qa, 0, none⟩ = some (.int .u64 (aa.ticks : Int)) ∧ W.cell? ⟨qa, 1, none⟩ = some (.int .u64 (aa.ses : Int)) ∧ W.cell? ⟨qa, 2, none⟩ = some (.int .u64 (aa.num : Int)) ∧ W.cell? ⟨qa, 3, none⟩ = some (.int .i64 aa.op.kind) ∧ W.cell? ⟨qa, 4, none⟩ = some (.string (str aa.op.key)) ∧ W.cell? ⟨qa, 5, none⟩ = some (.string (str aa.op.val)) ∧ W.cell? ⟨qa, 6, none⟩ = some (.int .u64 (aa.op.ttl : Int)) ∧ W.cell? ⟨qa, 7, none⟩ = some (.int .u64 (aa.op.ver : Int)) ∧ W.cell? ⟨qa, 8, none⟩ = some (.int .i64 aa.skip)) rfl rfl (by kernel_rfl) (mk _ hb2) (fun hSw => ?_)
    generalize wr.drew = w2 at *
    refine take_at 0 36 (fuel := 10) ?_ rfl rfl (by kernel_rfl) (by kernel_rfl) (by kernel_rfl) (Or.inl ⟨by rfl, ?_⟩) hSw ?_
    rotate_left
    · intro wx hSx
      (try dsimp only at hSx)
      go_split_ands
      go_simp
      (try with_reducible rfl)
    simp only [List.setIfInBounds_toArray, List.set_cons_zero, List.set_cons_succ]
    refine take_at 2 38 (fuel := 9) ?_ rfl rfl (by kernel_rfl) (by kernel_rfl) (by kernel_rfl) (Or.inl ⟨by rfl, ?_⟩) hSw ?_
    rotate_left
    · intro wx hSx
      (try dsimp only at hSx)
      go_split_ands
      go_simp
      (try with_reducible rfl)
    simp only [List.setIfInBounds_toArray, List.set_cons_zero, List.set_cons_succ]
    refine take_at 3 39 (fuel := 8) ?_ rfl rfl (by kernel_rfl) (by kernel_rfl) (by kernel_rfl) (Or.inl ⟨by rfl, ?_⟩) hSw ?_
    rotate_left
    · intro wx hSx
      (try dsimp only at hSx)
      go_split_ands
      go_simp
      (try with_reducible rfl)
    simp only [List.setIfInBounds_toArray, List.set_cons_zero, List.set_cons_succ]
    refine wpAnyH_ready (fuel := 7) (rs := [1, 8]) (by kernel_rfl) (by simp) (AllReadyH.cons rfl (fun K hK => ?_) (AllReadyH.cons rfl (fun K hK => ?_) AllReadyH.nil))
    · go_simp
      refine (hseq _ hb2).mono ?_
      rintro e wq ⟨rfl, rfl⟩
      refine hK.out _ _ (mk _ hb2) (fun hSw => ?_)
      clear hK K
      simp only [List.setIfInBounds_toArray, List.set_cons_zero, List.set_cons_succ]
      refine wpAnyH_ready (fuel := 6) (rs := [4, 8]) (by kernel_rfl) (by simp) (AllReadyH.cons rfl (fun K hK => ?_) (AllReadyH.cons rfl (fun K hK => ?_) AllReadyH.nil))
      · go_simp
        refine (hrec _).mono ?_
        rintro e wv ⟨rfl, hbv⟩
        have hbv2 := hb2.trans (hbv.mono hb2.size)
        refine hK.out _ _ (mk _ hbv2) (fun hSw => ?_)
        clear hK K
        simp only [List.setIfInBounds_toArray, List.set_cons_zero, List.set_cons_succ]
        refine take_at 5 35 (fuel := 5) ?_ rfl rfl (by kernel_rfl) (by kernel_rfl) (by kernel_rfl) (Or.inl ⟨by rfl, ?_⟩) hSw ?_
        rotate_left
        · intro wx hSx
          (try dsimp only at hSx)
          go_split_ands
          go_simp
          (try with_reducible rfl)
        simp only [List.setIfInBounds_toArray, List.set_cons_zero, List.set_cons_succ]
        refine take_at 6 41 (fuel := 4) ?_ rfl rfl (by kernel_rfl) (by kernel_rfl) (by kernel_rfl) (Or.inl ⟨by rfl, ?_⟩) hSw ?_
        rotate_left
        · intro wx hSx
          (try dsimp only at hSx)
          go_split_ands
          go_simp
          (try with_reducible rfl)
        simp only [List.setIfInBounds_toArray, List.set_cons_zero, List.set_cons_succ]
        refine take_at 7 42 (fuel := 3) ?_ rfl rfl (by kernel_rfl) (by kernel_rfl) (by kernel_rfl) (Or.inl ⟨by rfl, ?_⟩) hSw ?_
        rotate_left
        · intro wx hSx
          (try dsimp only at hSx)
          go_split_ands
          go_simp
          (try with_reducible rfl)
        simp only [List.setIfInBounds_toArray, List.set_cons_zero, List.set_cons_succ]
        refine wpAnyH_ready (fuel := 2) (rs := [8]) (by kernel_rfl) (by simp) (AllReadyH.cons rfl (fun K hK => ?_) AllReadyH.nil)
        go_simp
        have hp0 := Blk.new wv 54 #[.int .u64 0, .int .u64 0, .int .u64 0, .int .u64 0, .int .i64 0, .string ⟨#[]⟩, .string ⟨#[]⟩, .int .u64 0, .int .u64 0]
        have hba := hbv2.alloc hbv2.size (.cells #[.int .u64 0, .int .u64 0, .int .u64 0, .int .u64 0, .int .i64 0, .string ⟨#[]⟩, .string ⟨#[]⟩, .int .u64 0, .int .u64 0] 54)
        refine hK.out _ _ (mk _ hba) (fun hSw => ?_)
        clear hK K
        simp only [List.setIfInBounds_toArray, List.set_cons_zero, List.set_cons_succ]
        refine wpAnyH_ready (fuel := 1) (rs := [9]) (by kernel_rfl) (by simp) (AllReadyH.cons rfl (fun K hK => ?_) AllReadyH.nil)
        go_simp
        have hp3 := Blk.new wv 54 yy.cs
        have hb3 := hbv2.alloc hbv2.size (.cells yy.cs 54)
        refine hK.out _ _ (mk _ hb3) (fun hSw => ?_)
        clear hK K
        simp only [List.setIfInBounds_toArray, List.set_cons_zero, List.set_cons_succ]
        refine take_at 10 11 (fuel := 0) ?_ rfl rfl (by kernel_rfl) (by kernel_rfl) (by kernel_rfl) (Or.inl ⟨by rfl, ?_⟩) hSw ?_
        rotate_left
        · intro wx hSx
          (try dsimp only at hSx)
          go_split_ands
          go_simp
          (try with_reducible rfl)
        simp only [List.setIfInBounds_toArray, List.set_cons_zero, List.set_cons_succ]
        refine wpAnyH_done (by kernel_rfl) ⟨rfl, ?_⟩ 0
        go_wp2_with fail
        go_meet
        exact ⟨_, rfl, rfl, hb3, hp3, by first | exact hb2.size | exact hbv2.size⟩
      · go_simp
        have hp0 := Blk.new w2 54 #[.int .u64 0, .int .u64 0, .int .u64 0, .int .u64 0, .int .i64 0, .string ⟨#[]⟩, .string ⟨#[]⟩, .int .u64 0, .int .u64 0]
        have hba := hb2.alloc hb2.size (.cells #[.int .u64 0, .int .u64 0, .int .u64 0, .int .u64 0, .int .i64 0, .string ⟨#[]⟩, .string ⟨#[]⟩, .int .u64 0, .int .u64 0] 54)
        refine hK.out _ _ (mk _ hba) (fun hSw => ?_)
        clear hK K
        simp only [List.setIfInBounds_toArray, List.set_cons_zero, List.set_cons_succ]
        refine wpAnyH_ready (fuel := 5) (rs := [4]) (by kernel_rfl) (by simp) (AllReadyH.cons rfl (fun K hK => ?_) AllReadyH.nil)
        go_simp
        refine (hrec _).mono ?_
        rintro e wv ⟨rfl, hbv⟩
        have hbv2 := hba.trans (hbv.mono hba.size)
        have hpv := hp0.below hbv hp0.lt
        refine hK.out _ _ (mk _ hbv2) (fun hSw => ?_)
        clear hK K
        simp only [List.setIfInBounds_toArray, List.set_cons_zero, List.set_cons_succ]
        refine take_at 5 35 (fuel := 4) ?_ rfl rfl (by kernel_rfl) (by kernel_rfl) (by kernel_rfl) (Or.inl ⟨by rfl, ?_⟩) hSw ?_
        rotate_left
        · intro wx hSx
          (try dsimp only at hSx)
          go_split_ands
          go_simp
          (try with_reducible rfl)
        simp only [List.setIfInBounds_toArray, List.set_cons_zero, List.set_cons_succ]
        refine take_at 6 41 (fuel := 3) ?_ rfl rfl (by kernel_rfl) (by kernel_rfl) (by kernel_rfl) (Or.inl ⟨by rfl, ?_⟩) hSw ?_
        rotate_left
        · intro wx hSx
          (try dsimp only at hSx)
          go_split_ands
          go_simp
          (try with_reducible rfl)
        simp only [List.setIfInBounds_toArray, List.set_cons_zero, List.set_cons_succ]
        refine take_at 7 42 (fuel := 2) ?_ rfl rfl (by kernel_rfl) (by kernel_rfl) (by kernel_rfl) (Or.inl ⟨by rfl, ?_⟩) hSw ?_
        rotate_left
        · intro wx hSx
          (try dsimp only at hSx)
          go_split_ands
          go_simp
          (try with_reducible rfl)
        simp only [List.setIfInBounds_toArray, List.set_cons_zero, List.set_cons_succ]
        refine wpAnyH_ready (fuel := 1) (rs := [9]) (by kernel_rfl) (by simp) (AllReadyH.cons rfl (fun K hK => ?_) AllReadyH.nil)
        go_simp
        have hle : wr.heap.size ≤ w2.heap.size := hb2.size
        have g0 := hpv.free 0
        have g1 := hpv.free 1
        have g2 := hpv.free 2
        have g3 := hpv.free 3
        have g4 := hpv.free 4
        have g5 := hpv.free 5
        have g6 := hpv.free 6
        have g7 := hpv.free 7
        have g8 := hpv.free 8
        have c0 : wv.cell? ⟨w2.heap.size, 0, none⟩ = some (.int .u64 0) := hpv.cell 0
        have c1 : wv.cell? ⟨w2.heap.size, 1, none⟩ = some (.int .u64 0) := hpv.cell 1
        have c2 : wv.cell? ⟨w2.heap.size, 2, none⟩ = some (.int .u64 0) := hpv.cell 2
        have c3 : wv.cell? ⟨w2.heap.size, 3, none⟩ = some (.int .u64 0) := hpv.cell 3
        have c4 : wv.cell? ⟨w2.heap.size, 4, none⟩ = some (.int .i64 0) := hpv.cell 4
        have c5 : wv.cell? ⟨w2.heap.size, 5, none⟩ = some (.string ⟨#[]⟩) := hpv.cell 5
        have c6 : wv.cell? ⟨w2.heap.size, 6, none⟩ = some (.string ⟨#[]⟩) := hpv.cell 6
        have c7 : wv.cell? ⟨w2.heap.size, 7, none⟩ = some (.int .u64 0) := hpv.cell 7
        have c8 : wv.cell? ⟨w2.heap.size, 8, none⟩ = some (.int .u64 0) := hpv.cell 8
        go_simp
        have hp3 := put9 hpv (.int .u64 (yy.seq : Int)) (.int .u64 (yy.now : Int)) (.int .u64 (yy.ses : Int)) (.int .u64 (yy.num : Int)) (.int .i64 yy.op.kind) (.string (str yy.op.key)) (.string (str yy.op.val)) (.int .u64 (yy.op.ttl : Int)) (.int .u64 (yy.op.ver : Int))
        have hb3 := below9 hbv2 (g := w2.heap.size) hle (.int .u64 (yy.seq : Int)) (.int .u64 (yy.now : Int)) (.int .u64 (yy.ses : Int)) (.int .u64 (yy.num : Int)) (.int .i64 yy.op.kind) (.string (str yy.op.key)) (.string (str yy.op.val)) (.int .u64 (yy.op.ttl : Int)) (.int .u64 (yy.op.ver : Int))
        refine hK.out _ _ (mk _ hb3) (fun hSw => ?_)
        clear hK K
        simp only [List.setIfInBounds_toArray, List.set_cons_zero, List.set_cons_succ]
        refine take_at 10 11 (fuel := 0) ?_ rfl rfl (by kernel_rfl) (by kernel_rfl) (by kernel_rfl) (Or.inl ⟨by rfl, ?_⟩) hSw ?_
        rotate_left
        · intro wx hSx
          (try dsimp only at hSx)
          go_split_ands
          go_simp
          (try with_reducible rfl)
        simp only [List.setIfInBounds_toArray, List.set_cons_zero, List.set_cons_succ]
        refine wpAnyH_done (by kernel_rfl) ⟨rfl, ?_⟩ 0
        go_wp2_with fail
        go_meet
        exact ⟨_, rfl, rfl, hb3, hp3, by first | exact hb2.size | exact hbv2.size⟩
    · go_simp
      have hp0 := Blk.new w2 54 #[.int .u64 0, .int .u64 0, .int .u64 0, .int .u64 0, .int .i64 0, .string ⟨#[]⟩, .string ⟨#[]⟩, .int .u64 0, .int .u64 0]
      have hba := hb2.alloc hb2.size (.cells #[.int .u64 0, .int .u64 0, .int .u64 0, .int .u64 0, .int .i64 0, .string ⟨#[]⟩, .string ⟨#[]⟩, .int .u64 0, .int .u64 0] 54)
      refine hK.out _ _ (mk _ hba) (fun hSw => ?_)
      clear hK K
      simp only [List.setIfInBounds_toArray, List.set_cons_zero, List.set_cons_succ]
      refine wpAnyH_ready (fuel := 6) (rs := [1]) (by kernel_rfl) (by simp) (AllReadyH.cons rfl (fun K hK => ?_) AllReadyH.nil)
      go_simp
      refine (hseq _ hba).mono ?_
      rintro e wq ⟨rfl, rfl⟩
      refine hK.out _ _ (mk _ hba) (fun hSw => ?_)
      clear hK K
      simp only [List.setIfInBounds_toArray, List.set_cons_zero, List.set_cons_succ]
      refine wpAnyH_ready (fuel := 5) (rs := [4]) (by kernel_rfl) (by simp) (AllReadyH.cons rfl (fun K hK => ?_) AllReadyH.nil)
      go_simp
      refine (hrec _).mono ?_
      rintro e wv ⟨rfl, hbv⟩
      have hbv2 := hba.trans (hbv.mono hba.size)
      have hpv := hp0.below hbv hp0.lt
      refine hK.out _ _ (mk _ hbv2) (fun hSw => ?_)
      clear hK K
      simp only [List.setIfInBounds_toArray, List.set_cons_zero, List.set_cons_succ]
      refine take_at 5 35 (fuel := 4) ?_ rfl rfl (by kernel_rfl) (by kernel_rfl) (by kernel_rfl) (Or.inl ⟨by rfl, ?_⟩) hSw ?_
      rotate_left
      · intro wx hSx
        (try dsimp only at hSx)
        go_split_ands
        go_simp
        (try with_reducible rfl)
      simp only [List.setIfInBounds_toArray, List.set_cons_zero, List.set_cons_succ]
      refine take_at 6 41 (fuel := 3) ?_ rfl rfl (by kernel_rfl) (by kernel_rfl) (by kernel_rfl) (Or.inl ⟨by rfl, ?_⟩) hSw ?_
      rotate_left
      · intro wx hSx
        (try dsimp only at hSx)
        go_split_ands
        go_simp
        (try with_reducible rfl)
      simp only [List.setIfInBounds_toArray, List.set_cons_zero, List.set_cons_succ]
      refine take_at 7 42 (fuel := 2) ?_ rfl rfl (by kernel_rfl) (by kernel_rfl) (by kernel_rfl) (Or.inl ⟨by rfl, ?_⟩) hSw ?_
      rotate_left
      · intro wx hSx
        (try dsimp only at hSx)
        go_split_ands
        go_simp
        (try with_reducible rfl)
      simp only [List.setIfInBounds_toArray, List.set_cons_zero, List.set_cons_succ]
      refine wpAnyH_ready (fuel := 1) (rs := [9]) (by kernel_rfl) (by simp) (AllReadyH.cons rfl (fun K hK => ?_) AllReadyH.nil)
      go_simp
      have hle : wr.heap.size ≤ w2.heap.size := hb2.size
      have g0 := hpv.free 0
      have g1 := hpv.free 1
      have g2 := hpv.free 2
      have g3 := hpv.free 3
      have g4 := hpv.free 4
      have g5 := hpv.free 5
      have g6 := hpv.free 6
      have g7 := hpv.free 7
      have g8 := hpv.free 8
      have c0 : wv.cell? ⟨w2.heap.size, 0, none⟩ = some (.int .u64 0) := hpv.cell 0
      have c1 : wv.cell? ⟨w2.heap.size, 1, none⟩ = some (.int .u64 0) := hpv.cell 1
      have c2 : wv.cell? ⟨w2.heap.size, 2, none⟩ = some (.int .u64 0) := hpv.cell 2
      have c3 : wv.cell? ⟨w2.heap.size, 3, none⟩ = some (.int .u64 0) := hpv.cell 3
      have c4 : wv.cell? ⟨w2.heap.size, 4, none⟩ = some (.int .i64 0) := hpv.cell 4
      have c5 : wv.cell? ⟨w2.heap.size, 5, none⟩ = some (.string ⟨#[]⟩) := hpv.cell 5
      have c6 : wv.cell? ⟨w2.heap.size, 6, none⟩ = some (.string ⟨#[]⟩) := hpv.cell 6
      have c7 : wv.cell? ⟨w2.heap.size, 7, none⟩ = some (.int .u64 0) := hpv.cell 7
      have c8 : wv.cell? ⟨w2.heap.size, 8, none⟩ = some (.int .u64 0) := hpv.cell 8
      go_simp
      have hp3 := put9 hpv (.int .u64 (yy.seq : Int)) (.int .u64 (yy.now : Int)) (.int .u64 (yy.ses : Int)) (.int .u64 (yy.num : Int)) (.int .i64 yy.op.kind) (.string (str yy.op.key)) (.string (str yy.op.val)) (.int .u64 (yy.op.ttl : Int)) (.int .u64 (yy.op.ver : Int))
      have hb3 := below9 hbv2 (g := w2.heap.size) hle (.int .u64 (yy.seq : Int)) (.int .u64 (yy.now : Int)) (.int .u64 (yy.ses : Int)) (.int .u64 (yy.num : Int)) (.int .i64 yy.op.kind) (.string (str yy.op.key)) (.string (str yy.op.val)) (.int .u64 (yy.op.ttl : Int)) (.int .u64 (yy.op.ver : Int))
      refine hK.out _ _ (mk _ hb3) (fun hSw => ?_)
      clear hK K
      simp only [List.setIfInBounds_toArray, List.set_cons_zero, List.set_cons_succ]
      refine take_at 10 11 (fuel := 0) ?_ rfl rfl (by kernel_rfl) (by kernel_rfl) (by kernel_rfl) (Or.inl ⟨by rfl, ?_⟩) hSw ?_
      rotate_left
      · intro wx hSx
        (try dsimp only at hSx)
        go_split_ands
        go_simp
        (try with_reducible rfl)
      simp only [List.setIfInBounds_toArray, List.set_cons_zero, List.set_cons_succ]
      refine wpAnyH_done (by kernel_rfl) ⟨rfl, ?_⟩ 0
      go_wp2_with fail
      go_meet
      exact ⟨_, rfl, rfl, hb3, hp3, by first | exact hb2.size | exact hbv2.size⟩
  case rest =>
  obtain ⟨q, rfl, rfl, hbx, hpx, hql⟩ := hcut
  have hwl := hA.since
  have hnot := hA.not hql
  have hqw := Nat.le_trans hwl.size hql
  have hAx := hA.below hbx
  have c0 : wc.cell? ⟨q, 0, none⟩ = some (.int .u64 (yy.seq : Int)) := hpx.cell 0
  have c3 : wc.cell? ⟨q, 3, none⟩ = some (.int .u64 (yy.num : Int)) := hpx.cell 3
  have f0 := hpx.free 0
  have f3 := hpx.free 3
  have hL5 : Loc q 54 #[.int .u64 ((s.seq : Int) + 1), .int .u64 (yy.now : Int), .int .u64 (yy.ses : Int), .int .u64 40, .int .i64 yy.op.kind, .string (str yy.op.key), .string (str yy.op.val), .int .u64 (yy.op.ttl : Int), .int .u64 (yy.op.ver : Int)] b T M S H ((wc.setCell ⟨q, 0, none⟩ (.int .u64 ((s.seq : Int) + 1))).setCell ⟨q, 3, none⟩ (.int .u64 40)) := ⟨(hpx.put 0 _).put 3 _, hnot⟩
  have h5 : At w ((wc.setCell ⟨q, 0, none⟩ (.int .u64 ((s.seq : Int) + 1))).setCell ⟨q, 3, none⟩ (.int .u64 40)) b T M C S H s := (hAx.beside hnot hqw 0 _).beside hnot hqw 3 _
  clear hA hAr mk hseq hrec hb2 hbx hpx hwl
  go_wp2_with fail
  refine (seq_s hAx).mono ?_
  rintro e wq ⟨rfl, rfl⟩
  go_upto_region 6 with (fail)
  clear hAx c0 c3 f0 f3
  generalize (wc.setCell ⟨q, 0, none⟩ (.int .u64 ((s.seq : Int) + 1))).setCell ⟨q, 3, none⟩ (.int .u64 40) = w5 at *
  have y0 : w5.cell? ⟨q, 0, none⟩ = some (.int .u64 ((s.seq : Int) + 1)) := hL5.c rfl
  have y1 : w5.cell? ⟨q, 1, none⟩ = some (.int .u64 (yy.now : Int)) := hL5.c rfl
  have y2 : w5.cell? ⟨q, 2, none⟩ = some (.int .u64 (yy.ses : Int)) := hL5.c rfl
  have y3 : w5.cell? ⟨q, 3, none⟩ = some (.int .u64 40) := hL5.c rfl
  have y4 : w5.cell? ⟨q, 4, none⟩ = some (.int .i64 yy.op.kind) := hL5.c rfl
  have y5 : w5.cell? ⟨q, 5, none⟩ = some (.string (str yy.op.key)) := hL5.c rfl
  have y6 : w5.cell? ⟨q, 6, none⟩ = some (.string (str yy.op.val)) := hL5.c rfl
  have y7 : w5.cell? ⟨q, 7, none⟩ = some (.int .u64 (yy.op.ttl : Int)) := hL5.c rfl
  have y8 : w5.cell? ⟨q, 8, none⟩ = some (.int .u64 (yy.op.ver : Int)) := hL5.c rfl
  go_wp2_with fail
  refine (hap h5).mono ?_
  rintro e w6 ⟨rfl, H6, h6, s6⟩
  have hqr : q < w6.heap.size := (hL5.step s6).blk.lt
  have hL6 := (hL5.step s6).alloc (.cells rr.cs 61)
  have hR6 := Loc.new h6 61 rr.cs
  replace h6 := h6.alloc (.cells rr.cs 61)
  clear hap h5 hL5 s6 y0 y1 y2 y3 y4 y5 y6 y7 y8
  go_upto_region 7 with (fail)
  generalize w6.alloc (.cells rr.cs 61) = w7 at *
  generalize w6.heap.size = r at *
  have hbel := h6.since
  have k4 : w7.cell? ⟨q, 4, none⟩ = some (.int .i64 yy.op.kind) := hL6.c rfl
  have k0 : w7.cell? ⟨r, 0, none⟩ = some (.int .i64 (rr.e : Int)) := hR6.c rfl
  by_cases c1 : ne = 0
  rotate_left
  · have d1 : ((ne : Int) == 0) = false := beq_eq_false_iff_ne.2 (by omega)
    have d2 : ¬ (ne : Int) = 0 := by omega
    clear hfs h6 hL6 hR6
    go_wp2_with fail
    go_ret
    exact ⟨rfl, hbel⟩
  by_cases c2 : yy.op.kind = 5
  · have d1 : ((ne : Int) == 0) = true := by rw [c1]; rfl
    have d2 : (ne : Int) = 0 := by omega
    rw [c2] at k4
    clear hfs h6 hL6 hR6 c1
    go_wp2_with fail
    go_ret
    exact ⟨rfl, hbel⟩
  by_cases c3 : rr.e = 3
  · have d1 : ((ne : Int) == 0) = true := by rw [c1]; rfl
    have d2 : (ne : Int) = 0 := by omega
    have d3 : (yy.op.kind == 5) = false := beq_eq_false_iff_ne.2 c2
    have k1 : w7.cell? ⟨r, 0, none⟩ = some (.int .i64 3) := by rw [k0, c3]; rfl
    clear hfs h6 hL6 hR6 c1 k0
    go_wp2_with fail
    go_ret
    exact ⟨rfl, hbel⟩
  obtain ⟨hchk, hO1, hs1, hn1, hsk⟩ := hfs c1 c2 c3
  have d1 : ((ne : Int) == 0) = true := by rw [c1]; rfl
  have d2 : (ne : Int) = 0 := by omega
  have d3 : (yy.op.kind == 5) = false := beq_eq_false_iff_ne.2 c2
  have d4 : ((rr.e : Int) == 3) = false := beq_eq_false_iff_ne.2 (by omega)
  have d5 : ¬ (rr.e : Int) = 3 := by omega
  have hlen1 := hO1.toBase.len.2
  have hnn1 := hO1.n2
  obtain ⟨t2, a21, a22, hO2, m2, as2, ht2, hs2, hn2, ss2⟩ := again_spec hO1 (x := ⟨s.seq + 1 + 1, yy.now, yy.ses, 40, yy.op⟩) ⟨(by show s.seq + 1 + 1 < _; omega), hyk.now, hyk.ses, (by show (40 : Nat) < _; omega), hyk.key, hyk.val, hyk.ttl, hyk.ver⟩ hchk c2 (by show s.seq + 1 + 1 = t1.seq + 1; rw [hs1]) hn1 hsk (Nat.le_refl _)
  obtain ⟨t3, a31, a32, hO3, m3, as3, ht3, hs3, hn3, ss3⟩ := again_spec hO2 (x := ⟨s.seq + 1 + 1 + 1, yy.now, yy.ses, 39, yy.op⟩) ⟨(by show s.seq + 1 + 1 + 1 < _; omega), hyk.now, hyk.ses, (by show (39 : Nat) < _; omega), hyk.key, hyk.val, hyk.ttl, hyk.ver⟩ hchk c2 (by show s.seq + 1 + 1 + 1 = t2.seq + 1; rw [hs2, hs1]) (by show yy.now ≤ t2.now; rw [hn2]; exact hn1) (by show seek yy.ses t2.ss = _; rw [ss2]; exact hsk) (by show (39 : Nat) ≤ 40; omega)
  have hap2 := fun {W : World} {H : Nat → Prop} (h : At w W b T M C S H t1) => (show Calls Tryz.prog 13 #[tp b, .agg #[.int .u64 ((s.seq : Int) + 1 + 1), .int .u64 (yy.now : Int), .int .u64 (yy.ses : Int), .int .u64 40, .int .i64 yy.op.kind, .string (str yy.op.key), .string (str yy.op.val), .int .u64 (yy.op.ttl : Int), .int .u64 (yy.op.ver : Int)]] W fun e w' => e = .returned (.tuple #[.agg rr.cs, .int .i64 0]) ∧ ∃ H', At w w' b T M C S H' t2 ∧ Stp b T M S W H w' H' from apply1_a (x := ⟨s.seq + 1 + 1, yy.now, yy.ses, 40, yy.op⟩) hO1 ⟨(by show s.seq + 1 + 1 < _; omega), hyk.now, hyk.ses, (by show (40 : Nat) < _; omega), hyk.key, hyk.val, hyk.ttl, hyk.ver⟩ a21 (a22.trans (by rw [if_pos rfl])) h)
  have hap3 := fun {W : World} {H : Nat → Prop} (h : At w W b T M C S H t2) => (show Calls Tryz.prog 13 #[tp b, .agg #[.int .u64 ((s.seq : Int) + 1 + 1 + 1), .int .u64 (yy.now : Int), .int .u64 (yy.ses : Int), .int .u64 39, .int .i64 yy.op.kind, .string (str yy.op.key), .string (str yy.op.val), .int .u64 (yy.op.ttl : Int), .int .u64 (yy.op.ver : Int)]] W fun e w' => e = .returned (.tuple #[.agg #[.int .i64 122, .string ⟨#[]⟩, .int .u64 0], .int .i64 0]) ∧ ∃ H', At w w' b T M C S H' t3 ∧ Stp b T M S W H w' H' from apply1_a (x := ⟨s.seq + 1 + 1 + 1, yy.now, yy.ses, 39, yy.op⟩) (r := Rep.of 122) (n := 0) hO2 ⟨(by show s.seq + 1 + 1 + 1 < _; omega), hyk.now, hyk.ses, (by show (39 : Nat) < _; omega), hyk.key, hyk.val, hyk.ttl, hyk.ver⟩ a31 (a32.trans (by rw [if_neg (by show ¬ (39 : Nat) = 40; omega)])) h)
  have hta := fun {W : World} {H : Nat → Prop} (h : At w W b T M C S H t3) => (show Calls Tryz.prog 22 #[tp b] W fun e w' => e = .returned (.agg #[.int .i64 (t1.asked : Int), .int .i64 (t1.hits : Int)]) ∧ Below W.heap.size W w' from by have h9 := tally_t h; rw [as3, ht3, as2, ht2] at h9; exact h9)
  have hen := fun {W : World} {H : Nat → Prop} (h : At w W b T M C S H t3) => (show Calls Tryz.prog 21 #[tp b] W fun e w' => ∃ v, e = .returned v ∧ Taby.Sl w' W.heap.size v t1.m ∧ Below W.heap.size W w' from by have h9 := entries_s (by rw [m3, m2]; omega) h; rw [m3, m2] at h9; exact h9)
  clear hfs hchk hs1 hn1 hsk a21 a22 hO2 m2 as2 ht2 hs2 hn2 ss2 a31 a32 hO3 m3 as3 ht3 hs3 hn3 ss3 hx1 hyk hss hrok hO c1
  go_wp2_with fail
  refine (entries_s (by omega) h6).mono ?_
  rintro e w8 ⟨v, rfl, hsl, hb8⟩
  have hrlt := hR6.blk.lt
  have h8 := h6.below hb8
  have hL8 := hL6.below hb8
  have hR8 := hR6.below hb8
  have hE8 := Ent.new h6 hsl
  have hvq : ∀ g, v.ownBlock = some g → g ≠ q := fun g hg => by have := (hsl.lt g hg).1; omega
  have hr8 : r < w8.heap.size := Nat.lt_of_lt_of_le hrlt hb8.size
  obtain ⟨va, vc, rfl⟩ := hsl.form
  clear h6 hL6 hR6 hsl hb8 k4 k0
  go_wp2_with fail
  refine (tally_t h8).mono ?_
  rintro e w9 ⟨rfl, hb9⟩
  have hB9 := (Below.refl _ w9).alloc (Nat.le_refl _) (.cells #[.int .i64 (t1.asked : Int), .int .i64 (t1.hits : Int)] 78)
  have hT10 := Loc.new (h8.below hb9) 78 #[.int .i64 (t1.asked : Int), .int .i64 (t1.hits : Int)]
  have h10 := (h8.below hb9).below hB9
  have hL10 := (hL8.below hb9).below hB9
  have hR10 := (hR8.below hb9).below hB9
  have hE10 := (hE8.below hb9).below hB9
  have hq9 : q < w9.heap.size := Nat.lt_of_lt_of_le hL8.blk.lt hb9.size
  clear h8 hL8 hR8 hE8 hb9 hB9
  go_upto_region 10 with (fail)
  generalize w9.alloc (.cells #[.int .i64 (t1.asked : Int), .int .i64 (t1.hits : Int)] 78) = w10 at *
  generalize w9.heap.size = qt at *
  have y0 : w10.cell? ⟨q, 0, none⟩ = some (.int .u64 ((s.seq : Int) + 1)) := hL10.c rfl
  have f0 := hL10.f 0
  have hL11 : Loc q 54 #[.int .u64 ((s.seq : Int) + 1 + 1), .int .u64 (yy.now : Int), .int .u64 (yy.ses : Int), .int .u64 40, .int .i64 yy.op.kind, .string (str yy.op.key), .string (str yy.op.val), .int .u64 (yy.op.ttl : Int), .int .u64 (yy.op.ver : Int)] b T M S H6 (w10.setCell ⟨q, 0, none⟩ (.int .u64 ((s.seq : Int) + 1 + 1))) := ⟨hL10.blk.put 0 _, hL10.no⟩
  have h11 : At w (w10.setCell ⟨q, 0, none⟩ (.int .u64 ((s.seq : Int) + 1 + 1))) b T M C S H6 t1 := h10.beside hL10.no hqw 0 _
  have hR11 := hR10.far (r := q) (by omega) 0 (.int .u64 ((s.seq : Int) + 1 + 1))
  have hT11 := hT10.far (r := q) (by omega) 0 (.int .u64 ((s.seq : Int) + 1 + 1))
  have hE11 := hE10.far hvq 0 (.int .u64 ((s.seq : Int) + 1 + 1))
  clear h10 hL10 hR10 hT10 hE10
  go_upto_region 11 with (fail)
  clear y0 f0
  generalize w10.setCell ⟨q, 0, none⟩ (.int .u64 ((s.seq : Int) + 1 + 1)) = w11 at *
  have y0 : w11.cell? ⟨q, 0, none⟩ = some (.int .u64 ((s.seq : Int) + 1 + 1)) := hL11.c rfl
  have y1 : w11.cell? ⟨q, 1, none⟩ = some (.int .u64 (yy.now : Int)) := hL11.c rfl
  have y2 : w11.cell? ⟨q, 2, none⟩ = some (.int .u64 (yy.ses : Int)) := hL11.c rfl
  have y3 : w11.cell? ⟨q, 3, none⟩ = some (.int .u64 40) := hL11.c rfl
  have y4 : w11.cell? ⟨q, 4, none⟩ = some (.int .i64 yy.op.kind) := hL11.c rfl
  have y5 : w11.cell? ⟨q, 5, none⟩ = some (.string (str yy.op.key)) := hL11.c rfl
  have y6 : w11.cell? ⟨q, 6, none⟩ = some (.string (str yy.op.val)) := hL11.c rfl
  have y7 : w11.cell? ⟨q, 7, none⟩ = some (.int .u64 (yy.op.ttl : Int)) := hL11.c rfl
  have y8 : w11.cell? ⟨q, 8, none⟩ = some (.int .u64 (yy.op.ver : Int)) := hL11.c rfl
  go_wp2_with fail
  refine (hap2 h11).mono ?_
  rintro e w12 ⟨rfl, H12, h12, s12⟩
  have hq12 : q < w12.heap.size := (hL11.step s12).blk.lt
  have hB12 := (Below.refl _ w12).alloc (Nat.le_refl _) (.cells rr.cs 61)
  have hL13 := (hL11.step s12).below hB12
  have hR13 := (hR11.step s12).below hB12
  have hT13 := (hT11.step s12).below hB12
  have hE13 := (hE11.step s12).below hB12
  have hP13 := Loc.new h12 61 rr.cs
  have h13 := h12.below hB12
  clear hap2 h11 hL11 hR11 hT11 hE11 s12 h12 hB12 y0 y1 y2 y3 y4 y5 y6 y7 y8
  go_upto_region 12 with (fail)
  generalize w12.alloc (.cells rr.cs 61) = w13 at *
  generalize w12.heap.size = q16 at *
  have y0 : w13.cell? ⟨q, 0, none⟩ = some (.int .u64 ((s.seq : Int) + 1 + 1)) := hL13.c rfl
  have y3 : w13.cell? ⟨q, 3, none⟩ = some (.int .u64 40) := hL13.c rfl
  have f0 := hL13.f 0
  have f3 := hL13.f 3
  have hL14 : Loc q 54 #[.int .u64 ((s.seq : Int) + 1 + 1 + 1), .int .u64 (yy.now : Int), .int .u64 (yy.ses : Int), .int .u64 39, .int .i64 yy.op.kind, .string (str yy.op.key), .string (str yy.op.val), .int .u64 (yy.op.ttl : Int), .int .u64 (yy.op.ver : Int)] b T M S H12 ((w13.setCell ⟨q, 0, none⟩ (.int .u64 ((s.seq : Int) + 1 + 1 + 1))).setCell ⟨q, 3, none⟩ (.int .u64 39)) := ⟨(hL13.blk.put 0 _).put 3 _, hL13.no⟩
  have h14 : At w ((w13.setCell ⟨q, 0, none⟩ (.int .u64 ((s.seq : Int) + 1 + 1 + 1))).setCell ⟨q, 3, none⟩ (.int .u64 39)) b T M C S H12 t2 := (h13.beside hL13.no hqw 0 _).beside hL13.no hqw 3 _
  have hR14 := (hR13.far (r := q) (by omega) 0 (.int .u64 ((s.seq : Int) + 1 + 1 + 1))).far (r := q) (by omega) 3 (.int .u64 39)
  have hT14 := (hT13.far (r := q) (by omega) 0 (.int .u64 ((s.seq : Int) + 1 + 1 + 1))).far (r := q) (by omega) 3 (.int .u64 39)
  have hP14 := (hP13.far (r := q) (by omega) 0 (.int .u64 ((s.seq : Int) + 1 + 1 + 1))).far (r := q) (by omega) 3 (.int .u64 39)
  have hE14 := (hE13.far hvq 0 (.int .u64 ((s.seq : Int) + 1 + 1 + 1))).far hvq 3 (.int .u64 39)
  clear h13 hL13 hR13 hT13 hP13 hE13
  go_upto_region 13 with (fail)
  clear y0 y3 f0 f3
  generalize (w13.setCell ⟨q, 0, none⟩ (.int .u64 ((s.seq : Int) + 1 + 1 + 1))).setCell ⟨q, 3, none⟩ (.int .u64 39) = w14 at *
  have y0 : w14.cell? ⟨q, 0, none⟩ = some (.int .u64 ((s.seq : Int) + 1 + 1 + 1)) := hL14.c rfl
  have y1 : w14.cell? ⟨q, 1, none⟩ = some (.int .u64 (yy.now : Int)) := hL14.c rfl
  have y2 : w14.cell? ⟨q, 2, none⟩ = some (.int .u64 (yy.ses : Int)) := hL14.c rfl
  have y3 : w14.cell? ⟨q, 3, none⟩ = some (.int .u64 39) := hL14.c rfl
  have y4 : w14.cell? ⟨q, 4, none⟩ = some (.int .i64 yy.op.kind) := hL14.c rfl
  have y5 : w14.cell? ⟨q, 5, none⟩ = some (.string (str yy.op.key)) := hL14.c rfl
  have y6 : w14.cell? ⟨q, 6, none⟩ = some (.string (str yy.op.val)) := hL14.c rfl
  have y7 : w14.cell? ⟨q, 7, none⟩ = some (.int .u64 (yy.op.ttl : Int)) := hL14.c rfl
  have y8 : w14.cell? ⟨q, 8, none⟩ = some (.int .u64 (yy.op.ver : Int)) := hL14.c rfl
  go_wp2_with fail
  refine (hap3 h14).mono ?_
  rintro e w15 ⟨rfl, H15, h15, s15⟩
  have hB15 := (Below.refl _ w15).alloc (Nat.le_refl _) (.cells #[.int .i64 122, .string ⟨#[]⟩, .int .u64 0] 61)
  have hR16 := (hR14.step s15).below hB15
  have hT16 := (hT14.step s15).below hB15
  have hP16 := (hP14.step s15).below hB15
  have hE16 := (hE14.step s15).below hB15
  have hO16 := Loc.new h15 61 #[.int .i64 122, .string ⟨#[]⟩, .int .u64 0]
  have h16 := h15.below hB15
  clear hap3 h14 hL14 hR14 hT14 hP14 hE14 s15 h15 hB15 y0 y1 y2 y3 y4 y5 y6 y7 y8
  go_upto_region 14 with (fail)
  generalize w15.alloc (.cells #[.int .i64 122, .string ⟨#[]⟩, .int .u64 0] 61) = w16 at *
  generalize w15.heap.size = q18 at *
  go_wp2_with fail
  refine (hen h16).mono ?_
  rintro e w17 ⟨v2, rfl, hsl2, hb17⟩
  have h17 := h16.below hb17
  have hR17 := hR16.below hb17
  have hT17 := hT16.below hb17
  have hP17 := hP16.below hb17
  have hE17 := hE16.below hb17
  have hO17 := hO16.below hb17
  obtain ⟨va2, vc2, rfl⟩ := hsl2.form
  clear h16 hR16 hT16 hP16 hE16 hO16 hb17 hen
  go_upto_region 15 with (fail)
  have mk : ∀ W, Below w17.heap.size w17 W → (fun W => W.cell? ⟨q16, 0, none⟩ = some (.int .i64 (rr.e : Int)) ∧ W.cell? ⟨q16, 1, none⟩ = some (.string (str rr.val)) ∧ W.cell? ⟨q16, 2, none⟩ = some (.int .u64 (rr.ver : Int)) ∧ W.cell? ⟨r, 0, none⟩ = some (.int .i64 (rr.e : Int)) ∧ W.cell? ⟨r, 1, none⟩ = some (.string (str rr.val)) ∧ W.cell? ⟨r, 2, none⟩ = some (.int .u64 (rr.ver : Int)) ∧ W.cell? ⟨q18, 0, none⟩ = some (.int .i64 122) ∧ W.cell? ⟨qt, 0, none⟩ = some (.int .i64 (t1.asked : Int)) ∧ W.cell? ⟨qt, 1, none⟩ = some (.int .i64 (t1.hits : Int)) ∧ Below w17.heap.size w17 W) W := fun W hb => by
    have l1 := hP17.below hb
    have l2 := hR17.below hb
    have l3 := hO17.below hb
    have l4 := hT17.below hb
    exact ⟨l1.c rfl, l1.c rfl, l1.c rfl, l2.c rfl, l2.c rfl, l2.c rfl, l3.c rfl, l4.c rfl, l4.c rfl, hb⟩
  refine region_only 29 #[false, false, false, false, false, false, false, false, false, false, false, false, false, false, false, false, false, false, false, false, false, false, false, false, false, false, false, false, false] (S := (fun W => W.cell? ⟨q16, 0, none⟩ = some (.int .i64 (rr.e : Int)) ∧ W.cell? ⟨q16, 1, none⟩ = some (.string (str rr.val)) ∧ W.cell? ⟨q16, 2, none⟩ = some (.int .u64 (rr.ver : Int)) ∧ W.cell? ⟨r, 0, none⟩ = some (.int .i64 (rr.e : Int)) ∧ W.cell? ⟨r, 1, none⟩ = some (.string (str rr.val)) ∧ W.cell? ⟨r, 2, none⟩ = some (.int .u64 (rr.ver : Int)) ∧ W.cell? ⟨q18, 0, none⟩ = some (.int .i64 122) ∧ W.cell? ⟨qt, 0, none⟩ = some (.int .i64 (t1.asked : Int)) ∧ W.cell? ⟨qt, 1, none⟩ = some (.int .i64 (t1.hits : Int)) ∧ Below w17.heap.size w17 W)) rfl rfl (by kernel_rfl) (mk _ (Below.refl _ _).drew) (fun hSw => ?_)
  refine take_at 0 94 (fuel := 28) ?_ rfl rfl (by kernel_rfl) (by kernel_rfl) (by kernel_rfl) (Or.inl ⟨by rfl, ?_⟩) hSw ?_
  rotate_left
  · intro wx hSx
    (try dsimp only at hSx)
    go_split_ands
    go_simp
    (try with_reducible rfl)
  simp only [List.setIfInBounds_toArray, List.set_cons_zero, List.set_cons_succ]
  refine take_at 1 95 (fuel := 27) ?_ rfl rfl (by kernel_rfl) (by kernel_rfl) (by kernel_rfl) (Or.inl ⟨by rfl, ?_⟩) hSw ?_
  rotate_left
  · intro wx hSx
    (try dsimp only at hSx)
    go_split_ands
    go_simp
    (try with_reducible rfl)
  simp only [List.setIfInBounds_toArray, List.set_cons_zero, List.set_cons_succ]
  refine take_at 2 96 (fuel := 26) ?_ rfl rfl (by kernel_rfl) (by kernel_rfl) (by kernel_rfl) (Or.inl ⟨by rfl, ?_⟩) hSw ?_
  rotate_left
  · intro wx hSx
    (try dsimp only at hSx)
    go_split_ands
    go_simp
    (try with_reducible rfl)
  simp only [List.setIfInBounds_toArray, List.set_cons_zero, List.set_cons_succ]
  refine take_at 3 97 (fuel := 25) ?_ rfl rfl (by kernel_rfl) (by kernel_rfl) (by kernel_rfl) (Or.inl ⟨by rfl, ?_⟩) hSw ?_
  rotate_left
  · intro wx hSx
    (try dsimp only at hSx)
    go_split_ands
    go_simp
    (try with_reducible rfl)
  simp only [List.setIfInBounds_toArray, List.set_cons_zero, List.set_cons_succ]
  refine take_at 4 98 (fuel := 24) ?_ rfl rfl (by kernel_rfl) (by kernel_rfl) (by kernel_rfl) (Or.inl ⟨by rfl, ?_⟩) hSw ?_
  rotate_left
  · intro wx hSx
    (try dsimp only at hSx)
    go_split_ands
    go_simp
    (try with_reducible rfl)
  simp only [List.setIfInBounds_toArray, List.set_cons_zero, List.set_cons_succ]
  refine take_at 5 99 (fuel := 23) ?_ rfl rfl (by kernel_rfl) (by kernel_rfl) (by kernel_rfl) (Or.inl ⟨by rfl, ?_⟩) hSw ?_
  rotate_left
  · intro wx hSx
    (try dsimp only at hSx)
    go_split_ands
    go_simp
    (try with_reducible rfl)
  simp only [List.setIfInBounds_toArray, List.set_cons_zero, List.set_cons_succ]
  refine take_at 6 100 (fuel := 22) ?_ rfl rfl (by kernel_rfl) (by kernel_rfl) (by kernel_rfl) (Or.inl ⟨by rfl, ?_⟩) hSw ?_
  rotate_left
  · intro wx hSx
    (try dsimp only at hSx)
    go_split_ands
    go_simp
    (try with_reducible rfl)
  simp only [List.setIfInBounds_toArray, List.set_cons_zero, List.set_cons_succ]
  refine take_at 7 101 (fuel := 21) ?_ rfl rfl (by kernel_rfl) (by kernel_rfl) (by kernel_rfl) (Or.inl ⟨by rfl, ?_⟩) hSw ?_
  rotate_left
  · intro wx hSx
    (try dsimp only at hSx)
    go_split_ands
    go_simp
    (try with_reducible rfl)
  simp only [List.setIfInBounds_toArray, List.set_cons_zero, List.set_cons_succ]
  refine take_at 8 102 (fuel := 20) ?_ rfl rfl (by kernel_rfl) (by kernel_rfl) (by kernel_rfl) (Or.inl ⟨by rfl, ?_⟩) hSw ?_
  rotate_left
  · intro wx hSx
    (try dsimp only at hSx)
    go_split_ands
    go_simp
    (try with_reducible rfl)
  simp only [List.setIfInBounds_toArray, List.set_cons_zero, List.set_cons_succ]
  refine take_at 9 103 (fuel := 19) ?_ rfl rfl (by kernel_rfl) (by kernel_rfl) (by kernel_rfl) (Or.inl ⟨by rfl, ?_⟩) hSw ?_
  rotate_left
  · intro wx hSx
    (try dsimp only at hSx)
    go_split_ands
    go_simp
    (try with_reducible rfl)
  simp only [List.setIfInBounds_toArray, List.set_cons_zero, List.set_cons_succ]
  refine take_at 10 104 (fuel := 18) ?_ rfl rfl (by kernel_rfl) (by kernel_rfl) (by kernel_rfl) (Or.inl ⟨by rfl, ?_⟩) hSw ?_
  rotate_left
  · intro wx hSx
    (try dsimp only at hSx)
    go_split_ands
    go_simp
    (try with_reducible rfl)
  simp only [List.setIfInBounds_toArray, List.set_cons_zero, List.set_cons_succ]
  refine take_at 11 105 (fuel := 17) ?_ rfl rfl (by kernel_rfl) (by kernel_rfl) (by kernel_rfl) (Or.inl ⟨by rfl, ?_⟩) hSw ?_
  rotate_left
  · intro wx hSx
    (try dsimp only at hSx)
    go_split_ands
    go_simp
    (try with_reducible rfl)
  simp only [List.setIfInBounds_toArray, List.set_cons_zero, List.set_cons_succ]
  refine take_at 12 106 (fuel := 16) ?_ rfl rfl (by kernel_rfl) (by kernel_rfl) (by kernel_rfl) (Or.inl ⟨by rfl, ?_⟩) hSw ?_
  rotate_left
  · intro wx hSx
    (try dsimp only at hSx)
    go_split_ands
    go_simp
    (try with_reducible rfl)
  simp only [List.setIfInBounds_toArray, List.set_cons_zero, List.set_cons_succ]
  refine take_at 13 107 (fuel := 15) ?_ rfl rfl (by kernel_rfl) (by kernel_rfl) (by kernel_rfl) (Or.inl ⟨by rfl, ?_⟩) hSw ?_
  rotate_left
  · intro wx hSx
    (try dsimp only at hSx)
    go_split_ands
    go_simp
    (try with_reducible rfl)
  simp only [List.setIfInBounds_toArray, List.set_cons_zero, List.set_cons_succ]
  refine take_at 14 108 (fuel := 14) ?_ rfl rfl (by kernel_rfl) (by kernel_rfl) (by kernel_rfl) (Or.inl ⟨by rfl, ?_⟩) hSw ?_
  rotate_left
  · intro wx hSx
    (try dsimp only at hSx)
    go_split_ands
    go_simp
    (try with_reducible rfl)
  simp only [List.setIfInBounds_toArray, List.set_cons_zero, List.set_cons_succ]
  refine take_at 15 109 (fuel := 13) ?_ rfl rfl (by kernel_rfl) (by kernel_rfl) (by kernel_rfl) (Or.inl ⟨by rfl, ?_⟩) hSw ?_
  rotate_left
  · intro wx hSx
    (try dsimp only at hSx)
    go_split_ands
    go_simp
    (try with_reducible rfl)
  simp only [List.setIfInBounds_toArray, List.set_cons_zero, List.set_cons_succ]
  refine take_at 16 110 (fuel := 12) ?_ rfl rfl (by kernel_rfl) (by kernel_rfl) (by kernel_rfl) (Or.inl ⟨by rfl, ?_⟩) hSw ?_
  rotate_left
  · intro wx hSx
    (try dsimp only at hSx)
    go_split_ands
    go_simp
    (try with_reducible rfl)
  simp only [List.setIfInBounds_toArray, List.set_cons_zero, List.set_cons_succ]
  refine take_at 17 111 (fuel := 11) ?_ rfl rfl (by kernel_rfl) (by kernel_rfl) (by kernel_rfl) (Or.inl ⟨by rfl, ?_⟩) hSw ?_
  rotate_left
  · intro wx hSx
    (try dsimp only at hSx)
    go_split_ands
    go_simp
    (try with_reducible rfl)
  simp only [List.setIfInBounds_toArray, List.set_cons_zero, List.set_cons_succ]
  refine take_at 19 113 (fuel := 10) ?_ rfl rfl (by kernel_rfl) (by kernel_rfl) (by kernel_rfl) (Or.inl ⟨by rfl, ?_⟩) hSw ?_
  rotate_left
  · intro wx hSx
    (try dsimp only at hSx)
    go_split_ands
    go_simp
    (try with_reducible rfl)
  simp only [List.setIfInBounds_toArray, List.set_cons_zero, List.set_cons_succ]
  refine wpAnyH_ready (fuel := 9) (rs := [18]) (by kernel_rfl) (by simp) (AllReadyH.cons rfl (fun K hK => ?_) AllReadyH.nil)
  go_simp
  refine Calls.mono (hta (h17.below hSw.2.2.2.2.2.2.2.2.2)) ?_
  rintro e u18 ⟨rfl, hbv⟩
  refine hK.out _ _ (mk _ (hSw.2.2.2.2.2.2.2.2.2.trans (hbv.mono hSw.2.2.2.2.2.2.2.2.2.size))) (fun hSw => ?_)
  clear hK K
  simp only [List.setIfInBounds_toArray, List.set_cons_zero, List.set_cons_succ]
  refine take_at 20 114 (fuel := 8) ?_ rfl rfl (by kernel_rfl) (by kernel_rfl) (by kernel_rfl) (Or.inl ⟨by rfl, ?_⟩) hSw ?_
  rotate_left
  · intro wx hSx
    (try dsimp only at hSx)
    go_split_ands
    go_simp
    (try with_reducible rfl)
  simp only [List.setIfInBounds_toArray, List.set_cons_zero, List.set_cons_succ]
  refine take_at 21 115 (fuel := 7) ?_ rfl rfl (by kernel_rfl) (by kernel_rfl) (by kernel_rfl) (Or.inl ⟨by rfl, ?_⟩) hSw ?_
  rotate_left
  · intro wx hSx
    (try dsimp only at hSx)
    go_split_ands
    go_simp
    (try with_reducible rfl)
  simp only [List.setIfInBounds_toArray, List.set_cons_zero, List.set_cons_succ]
  refine take_at 22 116 (fuel := 6) ?_ rfl rfl (by kernel_rfl) (by kernel_rfl) (by kernel_rfl) (Or.inl ⟨by rfl, ?_⟩) hSw ?_
  rotate_left
  · intro wx hSx
    (try dsimp only at hSx)
    go_split_ands
    go_simp
    (try with_reducible rfl)
  simp only [List.setIfInBounds_toArray, List.set_cons_zero, List.set_cons_succ]
  refine take_at 23 117 (fuel := 5) ?_ rfl rfl (by kernel_rfl) (by kernel_rfl) (by kernel_rfl) (Or.inl ⟨by rfl, ?_⟩) hSw ?_
  rotate_left
  · intro wx hSx
    (try dsimp only at hSx)
    go_split_ands
    go_simp
    (try with_reducible rfl)
  simp only [List.setIfInBounds_toArray, List.set_cons_zero, List.set_cons_succ]
  refine take_at 24 118 (fuel := 4) ?_ rfl rfl (by kernel_rfl) (by kernel_rfl) (by kernel_rfl) (Or.inl ⟨by rfl, ?_⟩) hSw ?_
  rotate_left
  · intro wx hSx
    (try dsimp only at hSx)
    go_split_ands
    go_simp
    (try with_reducible rfl)
  simp only [List.setIfInBounds_toArray, List.set_cons_zero, List.set_cons_succ]
  refine take_at 25 119 (fuel := 3) ?_ rfl rfl (by kernel_rfl) (by kernel_rfl) (by kernel_rfl) (Or.inl ⟨by rfl, ?_⟩) hSw ?_
  rotate_left
  · intro wx hSx
    (try dsimp only at hSx)
    go_split_ands
    go_simp
    (try with_reducible rfl)
  simp only [List.setIfInBounds_toArray, List.set_cons_zero, List.set_cons_succ]
  refine take_at 26 120 (fuel := 2) ?_ rfl rfl (by kernel_rfl) (by kernel_rfl) (by kernel_rfl) (Or.inl ⟨by rfl, ?_⟩) hSw ?_
  rotate_left
  · intro wx hSx
    (try dsimp only at hSx)
    go_split_ands
    go_simp
    (try with_reducible rfl)
  simp only [List.setIfInBounds_toArray, List.set_cons_zero, List.set_cons_succ]
  refine take_at 27 121 (fuel := 1) ?_ rfl rfl (by kernel_rfl) (by kernel_rfl) (by kernel_rfl) (Or.inl ⟨by rfl, ?_⟩) hSw ?_
  rotate_left
  · intro wx hSx
    (try dsimp only at hSx)
    go_split_ands
    go_simp
    (try with_reducible rfl)
  simp only [List.setIfInBounds_toArray, List.set_cons_zero, List.set_cons_succ]
  refine take_at 28 122 (fuel := 0) ?_ rfl rfl (by kernel_rfl) (by kernel_rfl) (by kernel_rfl) (Or.inl ⟨by rfl, ?_⟩) hSw ?_
  rotate_left
  · intro wx hSx
    (try dsimp only at hSx)
    go_split_ands
    go_simp
    (try with_reducible rfl)
  simp only [List.setIfInBounds_toArray, List.set_cons_zero, List.set_cons_succ]
  refine wpAnyH_done (by kernel_rfl) ⟨rfl, ?_⟩ 0
  have h18 := h17.below hSw.2.2.2.2.2.2.2.2.2
  have hE18 := hE17.below hSw.2.2.2.2.2.2.2.2.2
  have hsl18 := hsl2.below hSw.2.2.2.2.2.2.2.2.2
  have hbel18 := h18.since
  clear mk h17 hR17 hT17 hP17 hE17 hO17 hsl2 hta h18
  clear hSw
  go_wp2_with fail
  go_loopw [21] (fun vi wx => ∃ j : Nat, j ≤ t1.m.length ∧ vi = .int .i64 j ∧ Below u18.heap.size u18 wx) (fun vi _ => t1.m.length - (intOf vi).toNat)
  case atStart => exact ⟨0, Nat.zero_le _, rfl, Below.refl _ _⟩
  case round =>
    obtain ⟨j, hj, rfl, hbx⟩ := hrel
    have hEj := hE18.below hbx
    have hsj := hsl18.below hbx
    have hbj := hbel18.trans (hbx.mono hbel18.size)
    by_cases h3 : j < t1.m.length
    · obtain ⟨y, hy⟩ : ∃ y, t1.m[j]? = some y := ⟨_, List.getElem?_eq_getElem h3⟩
      obtain ⟨g, rfl, -, hg, hcell⟩ := hEj.sl.at_ hy
      obtain ⟨g2, rfl, -, hg2, hcell2⟩ := hsj.at_ hy
      have hlt1 : (j : Int) < (t1.m.length : Int) := by omega
      have hcc : ∀ W, Below wr.heap.size wr W → (fun W => W.cell? ⟨g, j * 4, none⟩ = some (.string (str y.key)) ∧ W.cell? ⟨g, j * 4 + 1, none⟩ = some (.string (str y.val)) ∧ W.cell? ⟨g, j * 4 + 2, none⟩ = some (.int .u64 (y.ver : Int)) ∧ W.cell? ⟨g, j * 4 + 3, none⟩ = some (.int .u64 (y.fin : Int)) ∧ W.cell? ⟨g2, j * 4, none⟩ = some (.string (str y.key)) ∧ W.cell? ⟨g2, j * 4 + 1, none⟩ = some (.string (str y.val)) ∧ W.cell? ⟨g2, j * 4 + 2, none⟩ = some (.int .u64 (y.ver : Int)) ∧ W.cell? ⟨g2, j * 4 + 3, none⟩ = some (.int .u64 (y.fin : Int))) W := fun W hb => by
        obtain ⟨a0, a1, a2, a3⟩ := hcell W (hb.block g hg)
        obtain ⟨b0, b1, b2, b3⟩ := hcell2 W (hb.block g2 hg2)
        exact ⟨a0, a1, a2, a3, b0, b1, b2, b3⟩
      have HBX := Lib.hid hbx
      clear hEj hsj hcell hcell2 hy hbx hbj
      go_wp2_with fail
      refine region_only 9 #[false, false, false, false, false, false, false, false, false] (S := (fun W => W.cell? ⟨g, j * 4, none⟩ = some (.string (str y.key)) ∧ W.cell? ⟨g, j * 4 + 1, none⟩ = some (.string (str y.val)) ∧ W.cell? ⟨g, j * 4 + 2, none⟩ = some (.int .u64 (y.ver : Int)) ∧ W.cell? ⟨g, j * 4 + 3, none⟩ = some (.int .u64 (y.fin : Int)) ∧ W.cell? ⟨g2, j * 4, none⟩ = some (.string (str y.key)) ∧ W.cell? ⟨g2, j * 4 + 1, none⟩ = some (.string (str y.val)) ∧ W.cell? ⟨g2, j * 4 + 2, none⟩ = some (.int .u64 (y.ver : Int)) ∧ W.cell? ⟨g2, j * 4 + 3, none⟩ = some (.int .u64 (y.fin : Int)))) rfl rfl (by kernel_rfl) (hcc _ (Below.refl _ _).drew) (fun hSw => ?_)
      refine take_at 0 129 (fuel := 8) ?_ rfl rfl (by kernel_rfl) (by kernel_rfl) (by kernel_rfl) (Or.inl ⟨by rfl, ?_⟩) hSw ?_
      rotate_left
      · intro wx hSx
        (try dsimp only at hSx)
        go_split_ands
        go_simp
        (try with_reducible rfl)
      simp only [List.setIfInBounds_toArray, List.set_cons_zero, List.set_cons_succ]
      refine take_at 1 130 (fuel := 7) ?_ rfl rfl (by kernel_rfl) (by kernel_rfl) (by kernel_rfl) (Or.inl ⟨by rfl, ?_⟩) hSw ?_
      rotate_left
      · intro wx hSx
        (try dsimp only at hSx)
        go_split_ands
        go_simp
        (try with_reducible rfl)
      simp only [List.setIfInBounds_toArray, List.set_cons_zero, List.set_cons_succ]
      refine take_at 2 131 (fuel := 6) ?_ rfl rfl (by kernel_rfl) (by kernel_rfl) (by kernel_rfl) (Or.inl ⟨by rfl, ?_⟩) hSw ?_
      rotate_left
      · intro wx hSx
        (try dsimp only at hSx)
        go_split_ands
        go_simp
        (try with_reducible rfl)
      simp only [List.setIfInBounds_toArray, List.set_cons_zero, List.set_cons_succ]
      refine take_at 3 132 (fuel := 5) ?_ rfl rfl (by kernel_rfl) (by kernel_rfl) (by kernel_rfl) (Or.inl ⟨by rfl, ?_⟩) hSw ?_
      rotate_left
      · intro wx hSx
        (try dsimp only at hSx)
        go_split_ands
        go_simp
        (try with_reducible rfl)
      simp only [List.setIfInBounds_toArray, List.set_cons_zero, List.set_cons_succ]
      refine take_at 4 133 (fuel := 4) ?_ rfl rfl (by kernel_rfl) (by kernel_rfl) (by kernel_rfl) (Or.inl ⟨by rfl, ?_⟩) hSw ?_
      rotate_left
      · intro wx hSx
        (try dsimp only at hSx)
        go_split_ands
        go_simp
        (try with_reducible rfl)
      simp only [List.setIfInBounds_toArray, List.set_cons_zero, List.set_cons_succ]
      refine take_at 5 134 (fuel := 3) ?_ rfl rfl (by kernel_rfl) (by kernel_rfl) (by kernel_rfl) (Or.inl ⟨by rfl, ?_⟩) hSw ?_
      rotate_left
      · intro wx hSx
        (try dsimp only at hSx)
        go_split_ands
        go_simp
        (try with_reducible rfl)
      simp only [List.setIfInBounds_toArray, List.set_cons_zero, List.set_cons_succ]
      refine take_at 6 135 (fuel := 2) ?_ rfl rfl (by kernel_rfl) (by kernel_rfl) (by kernel_rfl) (Or.inl ⟨by rfl, ?_⟩) hSw ?_
      rotate_left
      · intro wx hSx
        (try dsimp only at hSx)
        go_split_ands
        go_simp
        (try with_reducible rfl)
      simp only [List.setIfInBounds_toArray, List.set_cons_zero, List.set_cons_succ]
      refine take_at 7 136 (fuel := 1) ?_ rfl rfl (by kernel_rfl) (by kernel_rfl) (by kernel_rfl) (Or.inl ⟨by rfl, ?_⟩) hSw ?_
      rotate_left
      · intro wx hSx
        (try dsimp only at hSx)
        go_split_ands
        go_simp
        (try with_reducible rfl)
      simp only [List.setIfInBounds_toArray, List.set_cons_zero, List.set_cons_succ]
      refine take_at 8 137 (fuel := 0) ?_ rfl rfl (by kernel_rfl) (by kernel_rfl) (by kernel_rfl) (Or.inl ⟨by rfl, ?_⟩) hSw ?_
      rotate_left
      · intro wx hSx
        (try dsimp only at hSx)
        go_split_ands
        go_simp
        (try with_reducible rfl)
      simp only [List.setIfInBounds_toArray, List.set_cons_zero, List.set_cons_succ]
      refine wpAnyH_done (by kernel_rfl) ⟨rfl, ?_⟩ 0
      clear hSw hcc
      go_wp2_with fail
      go_roundw
      case rel => exact ⟨j + 1, by omega, rfl, HBX.out.drew⟩
      case measure => simp [intOf]; omega
    · obtain rfl : j = t1.m.length := by omega
      have hge : ¬ (t1.m.length : Int) < (t1.m.length : Int) := by omega
      clear hEj hsj hbx
      go_wp2_with fail
      go_ret
      exact ⟨rfl, hbj⟩
set_option linter.unusedVariables false in
set_option maxRecDepth 100000 in
theorem storeOnce_lifted (os : Os) (started : os.Started) (H : Type) (enc : TypeId × Value → H) :
    ReturnsInHanded {} Tryz.checked os 4 .any (Rows.storeOnceSpec.pre6 enc Tryz.prog Tryz.f4 Rows.storeOnceRow.domain false) (Rows.storeOnceSpec.post enc Tryz.prog Tryz.f4 false true false false) := by
  refine returnsInHanded_of_change (C := Tryz.checked) Kit.own started (by kernel_rfl) Tryz.func4
    (ChangeSpec.witness6 (enc := enc) (C := Tryz.checked) false ⟨#[], #[.agg #[.int .i64 0, .int .i64 0, .int .i64 0, .int .u64 0], .slice none 0 0, .agg #[.int .u64 0, .int .u64 0, .int .u64 0, .int .i64 0, .string ⟨#[]⟩, .string ⟨#[]⟩, .int .u64 0, .int .u64 0, .int .i64 0]], []⟩ 8 (by kernel_rfl) (by kernel_rfl) (by kernel_rfl) (by kernel_rfl)) ?_
  intro W base args ds gs before hval0 hW hcnd _
  have hval : ∀ (j : Nat) t v, Tryz.f4.params[j]? = some t → args[j]? = some v → Value.okWide Tryz.prog W .any base t v := hval0
  have hW' := hW
  obtain ⟨p, q, hA0, hV, rfl, hfz, hnd⟩ := hW
  have hA : DataW.TrodAll enc Tryz.prog W 0 (fun _ => true) true Tryz.f4.params.toList args.toList ds p := hA0
  rw [Tryz.params4] at hA hval
  obtain ⟨v0, vs0, d0, ds0, p0, q0, hargs, rfl, rfl, h0, r0⟩ := trodAll_cons hA
  obtain ⟨v1, vs1, d1, ds1, p1, q1, rfl, rfl, rfl, h1, r1⟩ := trodAll_cons r0
  obtain ⟨v2, vs2, d2, ds2, p2, q2, rfl, rfl, rfl, h2, r2⟩ := trodAll_cons r1
  obtain ⟨rfl, rfl, rfl⟩ := trodAll_nil r2
  obtain ⟨rfl, rfl⟩ := trodVars_none hV
  obtain rfl : args = #[v0, v1, v2] := by cases args; simp_all
  obtain ⟨c0_0, c0_1, c0_2, c0_3, y0_0, y0_1, y0_2, y0_3, m0, rfl, rfl, rfl, hy0_0, hy0_1, hy0_2, hy0_3⟩ := Joins.open_agg4 Tryz.underlying24 (by kernel_rfl) (by kernel_rfl) (hval 0 24 v0 rfl rfl) h0
  obtain ⟨a0_0, e0_0, rfl, w0_0⟩ := DataW.trod_int Tryz.underlying3 hy0_0
  obtain rfl := (List.cons.inj e0_0).1
  obtain ⟨a0_1, e0_1, rfl, w0_1⟩ := DataW.trod_int Tryz.underlying3 hy0_1
  obtain rfl := (List.cons.inj e0_1).1
  obtain ⟨a0_2, e0_2, rfl, w0_2⟩ := DataW.trod_int Tryz.underlying3 hy0_2
  obtain rfl := (List.cons.inj e0_2).1
  obtain ⟨a0_3, e0_3, rfl, w0_3⟩ := DataW.trod_int Tryz.underlying22 hy0_3
  obtain rfl := (List.cons.inj e0_3).1
  obtain ⟨b1, c1, e1, rfl⟩ := okWide_slice Tryz.underlying25 (hval 1 25 v1 rfl rfl)
  obtain ⟨fuel1, hf1⟩ := h1
  obtain ⟨ao1, len1, cap1, sb1, off1, tx1, hv1, ht1⟩ := open_acs (show DataW.trod enc Tryz.prog W 0 (fun _ => true) true fuel1 25 [.slice b1 c1 e1] = some _ from hf1)
  injection hv1 with hv1x hv1y hv1z
  subst hv1x hv1y hv1z
  obtain ⟨cs2, rfl, -⟩ := okWide_struct Tryz.underlying59 (hval 2 59 v2 rfl rfl)
  obtain ⟨fuel2, hf2⟩ := h2
  obtain ⟨a2, e2x, ha2, -⟩ := open_ac hf2
  obtain rfl : cs2 = a2.cs := by cases cs2; simpa [Value.cells, Ac.row] using e2x
  clear hA0 hval0
  refine (storeOnce_walk a0_0 w0_0 a0_1 w0_1 a0_2 w0_2 a0_3 w0_3 _ _ _ _ _ _ a2 ha2 W ht1).mono fun e W' ⟨he, hg⟩ => ?_
  subst he
  exact ⟨_, rfl, Kit.law_post hW' rfl (by kernel_rfl) rfl (by kernel_rfl) hg⟩

theorem storeOnce_over : Rows.storeOnceRow.holds Tryz.pinned (OpenSpec.ofChange Rows.storeOnceSpec) :=
  OpenClaim.holds_of_wide 4 Tryz.f4 rfl rfl rfl rfl rfl rfl rfl ⟨rfl, rfl, rfl, rfl, rfl⟩ rfl rfl rfl rfl rfl (by kernel_rfl) Tryz.func4 (by kernel_rfl)
    (of_decide_eq_true (by kernel_rfl)) (by unfold Func.isWrapper; first | (rw [if_pos (by decide +kernel)]; kernel_rfl) | (rw [if_neg (by decide +kernel)]; exact ⟨rfl, rfl⟩))
    (fun os started H enc _ => storeOnce_lifted os started H enc)

theorem storeOnce_holds : Rows.StoreOnceSaid :=
  storeOnce_over

end
end Go.Proofs.YtlnjnpchkdipdaaGreat.Storey
