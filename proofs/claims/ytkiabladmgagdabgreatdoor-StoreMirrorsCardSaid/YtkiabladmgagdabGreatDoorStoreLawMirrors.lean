/- Layer 12 (store): for every input the call returns true and leaves what it was given as it was: a cache that was read of another one's bytes, or copied, does the same from then on: the same replies, the same keys go, the same bytes (StoreMirrors). Condition: the variables of layer 4 hold what the program's text lays (the card ties it). -/
import Derived.Test.YtkiabladmgagdabGreatDoorMemAll
import Derived.Test.YtkiabladmgagdabGreatDoorOpPutAll
import Derived.Lib.SmallJoins
import Derived.Test.YtkiabladmgagdabGreatDoorStorePlayedAll
import Derived.Test.YtkiabladmgagdabGreatDoorStoreOutAll
import Derived.Test.YtkiabladmgagdabGreatDoorStoreTakeAll
import Derived.Test.YtkiabladmgagdabGreatDoorBlakeLaid
import Derived.Test.YtkiabladmgagdabGreatDoorSq
namespace Go.Proofs.YtkiabladmgagdabGreatDoor.Storey
open Go.ChangeShapes Go.WideShapes Go.ChangeAt Go.RowKit
open Wirey (Blk Row str str_size str_list str_cat str_inj Kp Glob sumL sumP_c laidAll glob_of door_met)
open Taby (En TabAt Tbl tp find ins drop size ended St)
open Policyy (Pv HeldP StepP Tell)
open Ringy (Key)
open Regy

section
variable {w0 w w' w'' : World} {B b T M C S : Nat} {H H' : Nat → Prop} {s t : Sv} {k : Key} {v : Value} {l : List Key} {o : Opn} {x : Rcd}
theorem out_pl {X : Nat → Ac} {s0 : Sv} (h : s0.p.Out) : ∀ i, (pl X s0 i).1.p.Out
 | 0 => h
 | i + 1 => out_apply (out_pl h i)
theorem beside2 {W W' : World} {b1 T1 M1 C1 S1 b2 T2 M2 C2 S2 : Nat} {H1 H1' H2 : Nat → Prop} {s1 s2 : Sv} (hB : At w W b2 T2 M2 C2 S2 H2 s2) (hA : At w W b1 T1 M1 C1 S1 H1 s1) (hs : Stp b1 T1 M1 S1 W H1 W' H1') (hd : ∀ k, Own b1 T1 M1 S1 H1 k → ¬ Own b2 T2 M2 S2 H2 k) :
  At w W' b2 T2 M2 C2 S2 H2 s2 ∧ ∀ k, Own b1 T1 M1 S1 H1' k → ¬ Own b2 T2 M2 S2 H2 k := by
 refine ⟨hB.kp hs.kp fun k hk => ⟨(hA.low k hk).1, hd k hk⟩, fun k hk h2 => ?_⟩
 rcases hk with h | h | h | h | h
 ·exact hd k (.inl h) h2
 ·exact hd k (.inr (.inl h)) h2
 ·exact hd k (.inr (.inr (.inl h))) h2
 ·exact hd k (.inr (.inr (.inr (.inl h)))) h2
 ·rcases hs.new k h with h | h
  ·exact hd k (.inr (.inr (.inr (.inr h)))) h2
  ·have := (hB.low k h2).2
   omega
theorem far_own {W W' : World} {q : Nat} (hs : Stp b T M S W H W' H') (hq : q < W.heap.size) (hn : ¬ Own b T M S H q) : ¬ Own b T M S H' q := by
 rintro (h | h | h | h | h)
 ·exact hn (.inl h)
 ·exact hn (.inr (.inl h))
 ·exact hn (.inr (.inr (.inl h)))
 ·exact hn (.inr (.inr (.inr (.inl h))))
 ·rcases hs.new q h with h | h
  ·exact hn (.inr (.inr (.inr (.inr h))))
  ·omega
structure Tri (w W : World) (b1 T1 M1 C1 S1 : Nat) (H1 : Nat → Prop) (b2 T2 M2 C2 S2 : Nat) (H2 : Nat → Prop) (b3 T3 M3 C3 S3 : Nat) (H3 : Nat → Prop) (s : Sv) : Prop where
 a : At w W b1 T1 M1 C1 S1 H1 s
 b : At w W b2 T2 M2 C2 S2 H2 s
 c : At w W b3 T3 M3 C3 S3 H3 s
 ab : ∀ k, Own b1 T1 M1 S1 H1 k → ¬ Own b2 T2 M2 S2 H2 k
 ac : ∀ k, Own b1 T1 M1 S1 H1 k → ¬ Own b3 T3 M3 S3 H3 k
 bc : ∀ k, Own b2 T2 M2 S2 H2 k → ¬ Own b3 T3 M3 S3 H3 k
variable {W W' : World} {b1 T1 M1 C1 S1 b2 T2 M2 C2 S2 b3 T3 M3 C3 S3 : Nat} {H1 H2 H3 : Nat → Prop}
theorem Tri.below (h : Tri w W b1 T1 M1 C1 S1 H1 b2 T2 M2 C2 S2 H2 b3 T3 M3 C3 S3 H3 s) (hb : Below W.heap.size W W') : Tri w W' b1 T1 M1 C1 S1 H1 b2 T2 M2 C2 S2 H2 b3 T3 M3 C3 S3 H3 s :=
 ⟨h.a.below hb, h.b.below hb, h.c.below hb, h.ab, h.ac, h.bc⟩
theorem Tri.no (h : Tri w W b1 T1 M1 C1 S1 H1 b2 T2 M2 C2 S2 H2 b3 T3 M3 C3 S3 H3 s) {q : Nat} (hq : W.heap.size ≤ q) : ¬ Own b1 T1 M1 S1 H1 q ∧ ¬ Own b2 T2 M2 S2 H2 q ∧ ¬ Own b3 T3 M3 S3 H3 q :=
 ⟨fun h1 => by have := (h.a.low q h1).2; omega, fun h1 => by have := (h.b.low q h1).2; omega, fun h1 => by have := (h.c.low q h1).2; omega⟩
set_option maxHeartbeats 8000000 in
set_option maxRecDepth 100000 in
theorem storeMirrors_walk (p : Int) (_ : (Lit.int .i64 p).wf = true) (n : Int) (_ : (Lit.int .i64 n).wf = true) (bb : Int) (_ : (Lit.int .i64 bb).wf = true) (seed0 : Int) (wsd : (Lit.int .u64 seed0).wf = true) (ao1 : Option Addr) (len1 cap1 sb1 off1 : Nat) (X : Nat → Ac) (ao : Option Addr) (len cap sb off : Nat) (Y : Nat → Ac) (w : World) (hX : Acs w ao1 len1 sb1 off1 X) (hY : Acs w ao len sb off Y) (hG : Glob w) :
  Calls Tryz.prog 3 #[.agg #[.int .i64 p, .int .i64 n, .int .i64 bb, .int .u64 seed0], .slice ao1 len1 cap1, .slice ao len cap] w fun e w' => e = .returned (.bool true) ∧ Below w.heap.size w w' := by
 obtain ⟨seed, rfl, hsd⟩ := Arry.u64_nat wsd
 have hfr := cfg_fresh p n bb hsd
 have hmost := hX.most
 unfold maxLen at hmost
 have hpl := pl_inv (X := X) (n := min len1 60) hfr (fun i hi => hX.big i (by omega)) (by omega) (min len1 60) (Nat.le_refl _)
 have hpc := fun {W : World} (hb : Below w.heap.size w W) => played_c p n bb hsd ao1 len1 cap1 sb1 off1 X W (hX.below hb)
 have hPo : (pl X (cfgS p n bb seed) (min len1 60)).1.p.Out := by
  have := and15_lt n
  exact out_pl (s0 := cfgS p n bb seed) (outP_new (1 + and1 p) (1 + and15 n) seed (by omega) (by omega) hsd) _
 have hle60 : min len1 60 ≤ 60 := Nat.min_le_right _ _
 generalize (pl X (cfgS p n bb seed) (min len1 60)).1 = s at *
 generalize (pl X (cfgS p n bb seed) (min len1 60)).2 = nw at *
 generalize cfgS p n bb seed = s0 at *
 generalize min len1 60 = i0 at *
 have hO := hpl.ok
 have h12 : s.ss.length ≤ 12 := by have := up_len hO.up (n := 8) fun y hy => (hpl.ss y hy).1; omega
 have HPL : Hid (Pld s0 s nw (i0 + 0)) := Lib.hid hpl
 have HPO := Lib.hid hPo
 clear hfr hX hpl hmost
 have hb0 := (Below.refl _ w).alloc (Nat.le_refl _) (.cells #[.int .i64 p, .int .i64 n, .int .i64 bb, .int .u64 seed] 24)
 go_enter Tryz.func3, Tryz.ntmps3
 go_wp2_with fail
 generalize w.alloc (.cells #[.int .i64 p, .int .i64 n, .int .i64 bb, .int .u64 seed] 24) = w0' at *
 refine (hpc hb0).mono ?_
 rintro e w1 ⟨b1, T1, M1, C1, S1, H1, rfl, h1⟩
 replace h1 : At w w1 b1 T1 M1 C1 S1 H1 s := h1.from_ hb0
 clear hpc hb0
 go_wp2_with fail
 refine (export_s h1 hO hPo h12).mono ?_
 rintro e w2 ⟨rfl, hb2⟩
 have h2 := h1.below hb2
 clear h1 hb2
 go_wp2_with fail
 refine (import_s hO hPo h12 w2).mono ?_
 rintro e w3 ⟨b2, T2, M2, C2, S2, H2, rfl, hB, hb3⟩
 have h3 := h2.below hb3
 have hab : ∀ k, Own b1 T1 M1 S1 H1 k → ¬ Own b2 T2 M2 S2 H2 k := fun k hk1 hk2 => by have := (h2.low k hk1).2; have := (hB.low k hk2).1; omega
 replace hB : At w w3 b2 T2 M2 C2 S2 H2 s := hB.from_ h2.since
 clear h2 hb3
 go_wp2_with fail
 refine (copy_s h3 hO hPo).mono ?_
 rintro e w4 ⟨b3, T3, M3, C3, S3, H3, rfl, hC, hb4⟩
 have h4 := h3.below hb4
 have hB4 := hB.below hb4
 have hac : ∀ k, Own b1 T1 M1 S1 H1 k → ¬ Own b3 T3 M3 S3 H3 k := fun k hk1 hk2 => by have := (h3.low k hk1).2; have := (hC.low k hk2).1; omega
 have hbc : ∀ k, Own b2 T2 M2 S2 H2 k → ¬ Own b3 T3 M3 S3 H3 k := fun k hk1 hk2 => by have := (hB.low k hk1).2; have := (hC.low k hk2).1; omega
 replace hC : At w w4 b3 T3 M3 C3 S3 H3 s := hC.from_ h3.since
 clear h3 hB hb4 hO hPo h12
 go_wp2_with fail
 refine (awake_c _).mono ?_
 rintro e w5 ⟨rfl, hb5⟩
 have HT := Lib.hid (show Tri w w5 b1 T1 M1 C1 S1 H1 b2 T2 M2 C2 S2 H2 b3 T3 M3 C3 S3 H3 s from ⟨h4.below hb5, hB4.below hb5, hC.below hb5, hab, hac, hbc⟩)
 clear h4 hB4 hC hb5 hab hac hbc
 go_wp2_with fail
 go_loopw [8, 13] (fun v i wr => ∃ (j : Nat) (H1 H2 H3 : Nat → Prop) (s : Sv) (nw : Nat), j ≤ len ∧ j ≤ 60 ∧ i = .int .i64 j ∧ v = .int .u64 nw ∧ Hid (Tri w wr b1 T1 M1 C1 S1 H1 b2 T2 M2 C2 S2 H2 b3 T3 M3 C3 S3 H3 s) ∧ Hid (Pld s0 s nw (i0 + j)) ∧ Hid s.p.Out) (fun v i _ => len - (intOf i).toNat)
 case atStart => exact ⟨0, H1, H2, H3, s, nw, by omega, by omega, rfl, rfl, HT, HPL, HPO⟩
 case round =>
  clear HT HPL HPO
  obtain ⟨j, H1, H2, H3, s, nw, hj, hj60, rfl, rfl, HT, HPL, HPO⟩ := hrel
  have hP := HPL.out
  by_cases h3 : j < len ∧ j < 60
  ·have hlt : (j : Int) < (len : Int) := by omega
   have h60 : (j : Int) < 60 := by omega
   have d1 : decide ((j : Int) < (len : Int)) = true := decide_eq_true hlt
   have d2 : decide ((j : Int) < 60) = true := decide_eq_true h60
   obtain ⟨rfl, hsb⟩ := hY.is (by omega)
   have haj := hY.big j h3.1
   have hat : ∀ {W : World}, Below w.heap.size w W → acAt W sb off j (Y j) := fun hb => (hY.below hb).at_ h3.1
   have hP1 : Pld s0 (s.apply (recOf s.seq nw (Y j))).1 (nextOf nw (Y j)) (i0 + (j + 1)) := hP.next (by omega) haj
   have hPo2 : (s.apply (recOf s.seq nw (Y j))).1.p.Out := out_apply HPO.out
   have hyk : (recOf s.seq nw (Y j)).Ok := by have h1 := hP.seq; have h2 := hP.at_; exact recOf_ok (by omega) (by omega) haj
   have q1_ := hP.seq
   have q2_ := hP.at_
   have hrec := fun W => record_c (seq := s.seq) (now := nw) (a := Y j) (by omega) (by omega) haj W
   have hO := hP.ok
   generalize Y j = aj at *
   generalize recOf s.seq nw aj = yy at *
   generalize nextOf nw aj = nw2 at *
   have hap := fun {W w0 : World} {b T M C S : Nat} {H : Nat → Prop} (h : At w0 W b T M C S H s) => apply_s hO hyk h
   clear hP hyk hO
   generalize (s.apply yy).1 = t at *
   generalize (s.apply yy).2.1 = rr at *
   generalize (s.apply yy).2.2 = ne at *
   have HP1 := Lib.hid hP1
   have HPO2 := Lib.hid hPo2
   have hT := HT.out
   have hwl := hT.a.since
   clear hP1 hPo2 HT HPL HPO
   have hseq := fun (W : World) (hb : Below wr.heap.size wr W) => seq_s (hT.a.below hb)
   have mk : ∀ W, Below wr.heap.size wr W → W.cell? ⟨sb, off + j * 9, none⟩ = some (.int .u64 aj.ticks) ∧ W.cell? ⟨sb, off + j * 9 + 1, none⟩ = some (.int .u64 aj.ses) ∧ W.cell? ⟨sb, off + j * 9 + 2, none⟩ = some (.int .u64 aj.num) ∧ W.cell? ⟨sb, off + j * 9 + 3, none⟩ = some (.int .i64 aj.op.kind) ∧ W.cell? ⟨sb, off + j * 9 + 4, none⟩ = some (.string (str aj.op.key)) ∧ W.cell? ⟨sb, off + j * 9 + 5, none⟩ = some (.string (str aj.op.val)) ∧ W.cell? ⟨sb, off + j * 9 + 6, none⟩ = some (.int .u64 aj.op.ttl) ∧ W.cell? ⟨sb, off + j * 9 + 7, none⟩ = some (.int .u64 aj.op.ver) ∧ W.cell? ⟨sb, off + j * 9 + 8, none⟩ = some (.int .i64 aj.skip) := fun W hb => hat (hwl.trans (hb.mono hwl.size))
   have hb2 : Below wr.heap.size wr wr.drew := ⟨rfl, rfl, rfl, Nat.le_refl _, fun _ _ => rfl⟩
   go_upto_region 9 with (fail)
   go_cut [14, 15] from 47 to 68 (fun v14 v15 wx => ∃ q, v14 = .pointer (some ⟨q, 0, none⟩) ∧ v15 = .int .u64 nw2 ∧ Below wr.heap.size wr wx ∧ Blk wx q 38 yy.cs ∧ wr.heap.size ≤ q)
   case first =>
    refine region_only 14 #[false, false, false, false, false, false, false, false, false, false, false, false, false, false] (S := fun W => W.cell? ⟨sb, off + j * 9, none⟩ = some (.int .u64 aj.ticks) ∧ W.cell? ⟨sb, off + j * 9 + 1, none⟩ = some (.int .u64 aj.ses) ∧ W.cell? ⟨sb, off + j * 9 + 2, none⟩ = some (.int .u64 aj.num) ∧ W.cell? ⟨sb, off + j * 9 + 3, none⟩ = some (.int .i64 aj.op.kind) ∧ W.cell? ⟨sb, off + j * 9 + 4, none⟩ = some (.string (str aj.op.key)) ∧ W.cell? ⟨sb, off + j * 9 + 5, none⟩ = some (.string (str aj.op.val)) ∧ W.cell? ⟨sb, off + j * 9 + 6, none⟩ = some (.int .u64 aj.op.ttl) ∧ W.cell? ⟨sb, off + j * 9 + 7, none⟩ = some (.int .u64 aj.op.ver) ∧ W.cell? ⟨sb, off + j * 9 + 8, none⟩ = some (.int .i64 aj.skip)) rfl rfl (by kernel_rfl) (mk _ hb2) (fun hSw => ?_)
    generalize wr.drew = w2 at *
    refine tkA 0 58 13 ?_ rfl rfl ?_ hSw ?_
    rotate_left
    ·intro wx hSx; (try dsimp only at hSx); go_split_ands; go_simp; (try with_reducible rfl)
    simp only [sA, List.set_cons_zero, sC]
    refine tkA 2 60 12 ?_ rfl rfl ?_ hSw ?_
    rotate_left
    ·intro wx hSx; (try dsimp only at hSx); go_split_ands; go_simp; (try with_reducible rfl)
    simp only [sA, List.set_cons_zero, sC]
    refine tkA 3 61 11 ?_ rfl rfl ?_ hSw ?_
    rotate_left
    ·intro wx hSx; (try dsimp only at hSx); go_split_ands; go_simp; (try with_reducible rfl)
    simp only [sA, List.set_cons_zero, sC]
    refine tkA 4 62 10 ?_ rfl rfl ?_ hSw ?_
    rotate_left
    ·intro wx hSx; (try dsimp only at hSx); go_split_ands; go_simp; (try with_reducible rfl)
    simp only [sA, List.set_cons_zero, sC]
    refine tkA 5 63 9 ?_ rfl rfl ?_ hSw ?_
    rotate_left
    ·intro wx hSx; (try dsimp only at hSx); go_split_ands; go_simp; (try with_reducible rfl)
    simp only [sA, List.set_cons_zero, sC]
    refine tkA 6 64 8 ?_ rfl rfl ?_ hSw ?_
    rotate_left
    ·intro wx hSx; (try dsimp only at hSx); go_split_ands; go_simp; (try with_reducible rfl)
    simp only [sA, List.set_cons_zero, sC]
    refine wpAnyH_ready (fuel := 7) (rs := [1, 11]) (by kernel_rfl) (by simp) (AllReadyH.cons rfl (fun K hK => ?_) (AllReadyH.cons rfl (fun K hK => ?_) AllReadyH.nil))
    ·go_simp
     refine (hseq _ hb2).mono ?_
     rintro e wq ⟨rfl, rfl⟩
     refine hK.out _ _ (mk _ hb2) (fun hSw => ?_)
     clear hK K
     simp only [sA, List.set_cons_zero, sC]
     refine wpAnyH_ready (fuel := 6) (rs := [7, 11]) (by kernel_rfl) (by simp) (AllReadyH.cons rfl (fun K hK => ?_) (AllReadyH.cons rfl (fun K hK => ?_) AllReadyH.nil))
     ·go_simp
      refine (hrec _).mono ?_
      rintro e wv ⟨rfl, hbv⟩
      have hbv2 := hb2.trans (hbv.mono hb2.size)
      refine hK.out _ _ (mk _ hbv2) (fun hSw => ?_)
      clear hK K
      simp only [sA, List.set_cons_zero, sC]
      refine tkA 8 57 5 ?_ rfl rfl ?_ hSw ?_
      rotate_left
      ·intro wx hSx; (try dsimp only at hSx); go_split_ands; go_simp; (try with_reducible rfl)
      simp only [sA, List.set_cons_zero, sC]
      refine tkA 9 66 4 ?_ rfl rfl ?_ hSw ?_
      rotate_left
      ·intro wx hSx; (try dsimp only at hSx); go_split_ands; go_simp; (try with_reducible rfl)
      simp only [sA, List.set_cons_zero, sC]
      refine tkA 10 67 3 ?_ rfl rfl ?_ hSw ?_
      rotate_left
      ·intro wx hSx; (try dsimp only at hSx); go_split_ands; go_simp; (try with_reducible rfl)
      simp only [sA, List.set_cons_zero, sC]
      refine rdA 2 11 rfl fun K hK => ?_
      go_simp
      have hp0 := Blk.new wv 38 #[.int .u64 0, .int .u64 0, .int .u64 0, .int .u64 0, .int .i64 0, .string ⟨#[]⟩, .string ⟨#[]⟩, .int .u64 0, .int .u64 0]
      have hba := hbv2.alloc hbv2.size (.cells #[.int .u64 0, .int .u64 0, .int .u64 0, .int .u64 0, .int .i64 0, .string ⟨#[]⟩, .string ⟨#[]⟩, .int .u64 0, .int .u64 0] 38)
      refine hK.out _ _ (mk _ hba) (fun hSw => ?_)
      clear hK K
      simp only [sA, List.set_cons_zero, sC]
      refine rdA 1 12 rfl fun K hK => ?_
      go_simp
      have hp3 := Blk.new wv 38 yy.cs
      have hb3 := hbv2.alloc hbv2.size (.cells yy.cs 38)
      refine hK.out _ _ (mk _ hb3) (fun hSw => ?_)
      clear hK K
      simp only [sA, List.set_cons_zero, sC]
      refine tkA 13 15 0 ?_ rfl rfl ?_ hSw ?_
      rotate_left
      ·intro wx hSx; (try dsimp only at hSx); go_split_ands; go_simp; (try with_reducible rfl)
      simp only [sA, List.set_cons_zero, sC]
      refine wpAnyH_done (by kernel_rfl) ⟨rfl, ?_⟩ 0
      go_wp2_with fail
      go_meet
      exact ⟨_, rfl, rfl, hb3, hp3, by have := hb2.size; first | exact hb2.size | exact hbv2.size⟩
     ·go_simp
      have hp0 := Blk.new w2 38 #[.int .u64 0, .int .u64 0, .int .u64 0, .int .u64 0, .int .i64 0, .string ⟨#[]⟩, .string ⟨#[]⟩, .int .u64 0, .int .u64 0]
      have hba := hb2.alloc hb2.size (.cells #[.int .u64 0, .int .u64 0, .int .u64 0, .int .u64 0, .int .i64 0, .string ⟨#[]⟩, .string ⟨#[]⟩, .int .u64 0, .int .u64 0] 38)
      refine hK.out _ _ (mk _ hba) (fun hSw => ?_)
      clear hK K
      simp only [sA, List.set_cons_zero, sC]
      refine rdA 5 7 rfl fun K hK => ?_
      go_simp
      refine (hrec _).mono ?_
      rintro e wv ⟨rfl, hbv⟩
      have hbv2 := hba.trans (hbv.mono hba.size)
      have hpv := hp0.below hbv hp0.lt
      refine hK.out _ _ (mk _ hbv2) (fun hSw => ?_)
      clear hK K
      simp only [sA, List.set_cons_zero, sC]
      refine tkA 8 57 4 ?_ rfl rfl ?_ hSw ?_
      rotate_left
      ·intro wx hSx; (try dsimp only at hSx); go_split_ands; go_simp; (try with_reducible rfl)
      simp only [sA, List.set_cons_zero, sC]
      refine tkA 9 66 3 ?_ rfl rfl ?_ hSw ?_
      rotate_left
      ·intro wx hSx; (try dsimp only at hSx); go_split_ands; go_simp; (try with_reducible rfl)
      simp only [sA, List.set_cons_zero, sC]
      refine tkA 10 67 2 ?_ rfl rfl ?_ hSw ?_
      rotate_left
      ·intro wx hSx; (try dsimp only at hSx); go_split_ands; go_simp; (try with_reducible rfl)
      simp only [sA, List.set_cons_zero, sC]
      refine rdA 1 12 rfl fun K hK => ?_
      go_simp
      have hle : wr.heap.size ≤ w2.heap.size := hb2.size
      have g0 := hpv.free 0
      have g1 := hpv.free 1
      have g2 := hpv.free 2
      have g3 := hpv.free 3
      have g4 := hpv.free 4
      have g5 := hpv.free 5
      have g6 := hpv.free 6
      have g7 := hpv.free 7
      have g8 := hpv.free 8
      have c0 : wv.cell? ⟨w2.heap.size, 0, none⟩ = some (.int .u64 0) := hpv.cell 0
      have c1 : wv.cell? ⟨w2.heap.size, 1, none⟩ = some (.int .u64 0) := hpv.cell 1
      have c2 : wv.cell? ⟨w2.heap.size, 2, none⟩ = some (.int .u64 0) := hpv.cell 2
      have c3 : wv.cell? ⟨w2.heap.size, 3, none⟩ = some (.int .u64 0) := hpv.cell 3
      have c4 : wv.cell? ⟨w2.heap.size, 4, none⟩ = some (.int .i64 0) := hpv.cell 4
      have c5 : wv.cell? ⟨w2.heap.size, 5, none⟩ = some (.string ⟨#[]⟩) := hpv.cell 5
      have c6 : wv.cell? ⟨w2.heap.size, 6, none⟩ = some (.string ⟨#[]⟩) := hpv.cell 6
      have c7 : wv.cell? ⟨w2.heap.size, 7, none⟩ = some (.int .u64 0) := hpv.cell 7
      have c8 : wv.cell? ⟨w2.heap.size, 8, none⟩ = some (.int .u64 0) := hpv.cell 8
      go_simp
      have hp3 := put9 hpv (.int .u64 yy.seq) (.int .u64 yy.now) (.int .u64 yy.ses) (.int .u64 yy.num) (.int .i64 yy.op.kind) (.string (str yy.op.key)) (.string (str yy.op.val)) (.int .u64 yy.op.ttl) (.int .u64 yy.op.ver)
      have hb3 := below9 hbv2 (g := w2.heap.size) hle (.int .u64 yy.seq) (.int .u64 yy.now) (.int .u64 yy.ses) (.int .u64 yy.num) (.int .i64 yy.op.kind) (.string (str yy.op.key)) (.string (str yy.op.val)) (.int .u64 yy.op.ttl) (.int .u64 yy.op.ver)
      refine hK.out _ _ (mk _ hb3) (fun hSw => ?_)
      clear hK K
      simp only [sA, List.set_cons_zero, sC]
      refine tkA 13 15 0 ?_ rfl rfl ?_ hSw ?_
      rotate_left
      ·intro wx hSx; (try dsimp only at hSx); go_split_ands; go_simp; (try with_reducible rfl)
      simp only [sA, List.set_cons_zero, sC]
      refine wpAnyH_done (by kernel_rfl) ⟨rfl, ?_⟩ 0
      go_wp2_with fail
      go_meet
      exact ⟨_, rfl, rfl, hb3, hp3, by have := hb2.size; first | exact hb2.size | exact hbv2.size⟩
    ·go_simp
     have hp0 := Blk.new w2 38 #[.int .u64 0, .int .u64 0, .int .u64 0, .int .u64 0, .int .i64 0, .string ⟨#[]⟩, .string ⟨#[]⟩, .int .u64 0, .int .u64 0]
     have hba := hb2.alloc hb2.size (.cells #[.int .u64 0, .int .u64 0, .int .u64 0, .int .u64 0, .int .i64 0, .string ⟨#[]⟩, .string ⟨#[]⟩, .int .u64 0, .int .u64 0] 38)
     refine hK.out _ _ (mk _ hba) (fun hSw => ?_)
     clear hK K
     simp only [sA, List.set_cons_zero, sC]
     refine rdA 6 1 rfl fun K hK => ?_
     go_simp
     refine (hseq _ hba).mono ?_
     rintro e wq ⟨rfl, rfl⟩
     refine hK.out _ _ (mk _ hba) (fun hSw => ?_)
     clear hK K
     simp only [sA, List.set_cons_zero, sC]
     refine rdA 5 7 rfl fun K hK => ?_
     go_simp
     refine (hrec _).mono ?_
     rintro e wv ⟨rfl, hbv⟩
     have hbv2 := hba.trans (hbv.mono hba.size)
     have hpv := hp0.below hbv hp0.lt
     refine hK.out _ _ (mk _ hbv2) (fun hSw => ?_)
     clear hK K
     simp only [sA, List.set_cons_zero, sC]
     refine tkA 8 57 4 ?_ rfl rfl ?_ hSw ?_
     rotate_left
     ·intro wx hSx; (try dsimp only at hSx); go_split_ands; go_simp; (try with_reducible rfl)
     simp only [sA, List.set_cons_zero, sC]
     refine tkA 9 66 3 ?_ rfl rfl ?_ hSw ?_
     rotate_left
     ·intro wx hSx; (try dsimp only at hSx); go_split_ands; go_simp; (try with_reducible rfl)
     simp only [sA, List.set_cons_zero, sC]
     refine tkA 10 67 2 ?_ rfl rfl ?_ hSw ?_
     rotate_left
     ·intro wx hSx; (try dsimp only at hSx); go_split_ands; go_simp; (try with_reducible rfl)
     simp only [sA, List.set_cons_zero, sC]
     refine rdA 1 12 rfl fun K hK => ?_
     go_simp
     have hle : wr.heap.size ≤ w2.heap.size := hb2.size
     have g0 := hpv.free 0
     have g1 := hpv.free 1
     have g2 := hpv.free 2
     have g3 := hpv.free 3
     have g4 := hpv.free 4
     have g5 := hpv.free 5
     have g6 := hpv.free 6
     have g7 := hpv.free 7
     have g8 := hpv.free 8
     have c0 : wv.cell? ⟨w2.heap.size, 0, none⟩ = some (.int .u64 0) := hpv.cell 0
     have c1 : wv.cell? ⟨w2.heap.size, 1, none⟩ = some (.int .u64 0) := hpv.cell 1
     have c2 : wv.cell? ⟨w2.heap.size, 2, none⟩ = some (.int .u64 0) := hpv.cell 2
     have c3 : wv.cell? ⟨w2.heap.size, 3, none⟩ = some (.int .u64 0) := hpv.cell 3
     have c4 : wv.cell? ⟨w2.heap.size, 4, none⟩ = some (.int .i64 0) := hpv.cell 4
     have c5 : wv.cell? ⟨w2.heap.size, 5, none⟩ = some (.string ⟨#[]⟩) := hpv.cell 5
     have c6 : wv.cell? ⟨w2.heap.size, 6, none⟩ = some (.string ⟨#[]⟩) := hpv.cell 6
     have c7 : wv.cell? ⟨w2.heap.size, 7, none⟩ = some (.int .u64 0) := hpv.cell 7
     have c8 : wv.cell? ⟨w2.heap.size, 8, none⟩ = some (.int .u64 0) := hpv.cell 8
     go_simp
     have hp3 := put9 hpv (.int .u64 yy.seq) (.int .u64 yy.now) (.int .u64 yy.ses) (.int .u64 yy.num) (.int .i64 yy.op.kind) (.string (str yy.op.key)) (.string (str yy.op.val)) (.int .u64 yy.op.ttl) (.int .u64 yy.op.ver)
     have hb3 := below9 hbv2 (g := w2.heap.size) hle (.int .u64 yy.seq) (.int .u64 yy.now) (.int .u64 yy.ses) (.int .u64 yy.num) (.int .i64 yy.op.kind) (.string (str yy.op.key)) (.string (str yy.op.val)) (.int .u64 yy.op.ttl) (.int .u64 yy.op.ver)
     refine hK.out _ _ (mk _ hb3) (fun hSw => ?_)
     clear hK K
     simp only [sA, List.set_cons_zero, sC]
     refine tkA 13 15 0 ?_ rfl rfl ?_ hSw ?_
     rotate_left
     ·intro wx hSx; (try dsimp only at hSx); go_split_ands; go_simp; (try with_reducible rfl)
     simp only [sA, List.set_cons_zero, sC]
     refine wpAnyH_done (by kernel_rfl) ⟨rfl, ?_⟩ 0
     go_wp2_with fail
     go_meet
     exact ⟨_, rfl, rfl, hb3, hp3, by have := hb2.size; first | exact hb2.size | exact hbv2.size⟩
   case rest =>
    obtain ⟨q, rfl, rfl, hbx, hpx, hql⟩ := hcut
    obtain ⟨nq1, nq2, nq3⟩ := hT.no hql
    have hTx := hT.below hbx
    clear hT mk hseq hrec hat hb2 hbx hwl
    have y0 : wc.cell? ⟨q, 0, none⟩ = some (.int .u64 yy.seq) := hpx.cell 0
    have y1 : wc.cell? ⟨q, 1, none⟩ = some (.int .u64 yy.now) := hpx.cell 1
    have y2 : wc.cell? ⟨q, 2, none⟩ = some (.int .u64 yy.ses) := hpx.cell 2
    have y3 : wc.cell? ⟨q, 3, none⟩ = some (.int .u64 yy.num) := hpx.cell 3
    have y4 : wc.cell? ⟨q, 4, none⟩ = some (.int .i64 yy.op.kind) := hpx.cell 4
    have y5 : wc.cell? ⟨q, 5, none⟩ = some (.string (str yy.op.key)) := hpx.cell 5
    have y6 : wc.cell? ⟨q, 6, none⟩ = some (.string (str yy.op.val)) := hpx.cell 6
    have y7 : wc.cell? ⟨q, 7, none⟩ = some (.int .u64 yy.op.ttl) := hpx.cell 7
    have y8 : wc.cell? ⟨q, 8, none⟩ = some (.int .u64 yy.op.ver) := hpx.cell 8
    go_wp2_with fail
    refine (hap hTx.a).mono ?_
    rintro e w6 ⟨rfl, G1, hA6, s6⟩
    have hq6 : Blk w6 q 38 yy.cs := s6.kp.blk hpx nq1
    obtain ⟨hB6, dab6⟩ := beside2 hTx.b hTx.a s6 hTx.ab
    obtain ⟨hC6, dac6⟩ := beside2 hTx.c hTx.a s6 hTx.ac
    have hbc6 := hTx.bc
    have hr7 := Blk.new w6 45 rr.cs
    have hal := (Below.refl _ w6).alloc (Nat.le_refl _) (.cells rr.cs 45)
    have hA7 := hA6.below hal
    have hB7 := hB6.below hal
    have hC7 := hC6.below hal
    have hq7 := hq6.alloc (.cells rr.cs 45)
    have nr2 : ¬ Own b2 T2 M2 S2 H2 w6.heap.size := fun h => by have := (hB6.low _ h).2; omega
    have nr3 : ¬ Own b3 T3 M3 S3 H3 w6.heap.size := fun h => by have := (hC6.low _ h).2; omega
    clear hTx hpx s6 hA6 hB6 hC6 hq6 hal nq1 y0 y1 y2 y3 y4 y5 y6 y7 y8
    go_upto_region 12 with (fail)
    generalize w6.alloc (.cells rr.cs 45) = w7 at *
    generalize w6.heap.size = r1 at *
    have y0 : w7.cell? ⟨q, 0, none⟩ = some (.int .u64 yy.seq) := hq7.cell 0
    have y1 : w7.cell? ⟨q, 1, none⟩ = some (.int .u64 yy.now) := hq7.cell 1
    have y2 : w7.cell? ⟨q, 2, none⟩ = some (.int .u64 yy.ses) := hq7.cell 2
    have y3 : w7.cell? ⟨q, 3, none⟩ = some (.int .u64 yy.num) := hq7.cell 3
    have y4 : w7.cell? ⟨q, 4, none⟩ = some (.int .i64 yy.op.kind) := hq7.cell 4
    have y5 : w7.cell? ⟨q, 5, none⟩ = some (.string (str yy.op.key)) := hq7.cell 5
    have y6 : w7.cell? ⟨q, 6, none⟩ = some (.string (str yy.op.val)) := hq7.cell 6
    have y7 : w7.cell? ⟨q, 7, none⟩ = some (.int .u64 yy.op.ttl) := hq7.cell 7
    have y8 : w7.cell? ⟨q, 8, none⟩ = some (.int .u64 yy.op.ver) := hq7.cell 8
    go_wp2_with fail
    refine (hap hB7).mono ?_
    rintro e w8 ⟨rfl, G2, hB8, s8⟩
    have hq8 : Blk w8 q 38 yy.cs := s8.kp.blk hq7 nq2
    have hr8 : Blk w8 r1 45 rr.cs := s8.kp.blk hr7 nr2
    obtain ⟨hA8, dba8⟩ := beside2 hA7 hB7 s8 (fun k h2 h1 => dab6 k h1 h2)
    obtain ⟨hC8, dbc8⟩ := beside2 hC7 hB7 s8 hbc6
    have hr9 := Blk.new w8 45 rr.cs
    have hal := (Below.refl _ w8).alloc (Nat.le_refl _) (.cells rr.cs 45)
    have hA9 := hA8.below hal
    have hB9 := hB8.below hal
    have hC9 := hC8.below hal
    have hq9 := hq8.alloc (.cells rr.cs 45)
    have hr19 := hr8.alloc (.cells rr.cs 45)
    have ns3 : ¬ Own b3 T3 M3 S3 H3 w8.heap.size := fun h => by have := (hC8.low _ h).2; omega
    clear s8 hA8 hB8 hC8 hq8 hr8 hal nq2 nr2 hA7 hB7 hC7 hq7 hr7 dab6 hbc6 y0 y1 y2 y3 y4 y5 y6 y7 y8
    go_upto_region 13 with (fail)
    generalize w8.alloc (.cells rr.cs 45) = w9 at *
    generalize w8.heap.size = r2 at *
    have y0 : w9.cell? ⟨q, 0, none⟩ = some (.int .u64 yy.seq) := hq9.cell 0
    have y1 : w9.cell? ⟨q, 1, none⟩ = some (.int .u64 yy.now) := hq9.cell 1
    have y2 : w9.cell? ⟨q, 2, none⟩ = some (.int .u64 yy.ses) := hq9.cell 2
    have y3 : w9.cell? ⟨q, 3, none⟩ = some (.int .u64 yy.num) := hq9.cell 3
    have y4 : w9.cell? ⟨q, 4, none⟩ = some (.int .i64 yy.op.kind) := hq9.cell 4
    have y5 : w9.cell? ⟨q, 5, none⟩ = some (.string (str yy.op.key)) := hq9.cell 5
    have y6 : w9.cell? ⟨q, 6, none⟩ = some (.string (str yy.op.val)) := hq9.cell 6
    have y7 : w9.cell? ⟨q, 7, none⟩ = some (.int .u64 yy.op.ttl) := hq9.cell 7
    have y8 : w9.cell? ⟨q, 8, none⟩ = some (.int .u64 yy.op.ver) := hq9.cell 8
    go_wp2_with fail
    refine (hap hC9).mono ?_
    rintro e w10 ⟨rfl, G3, hC10, s10⟩
    have hr110 : Blk w10 r1 45 rr.cs := s10.kp.blk hr19 nr3
    have hr210 : Blk w10 r2 45 rr.cs := s10.kp.blk hr9 ns3
    obtain ⟨hA10, dca10⟩ := beside2 hA9 hC9 s10 (fun k h2 h1 => dac6 k h1 h2)
    obtain ⟨hB10, dcb10⟩ := beside2 hB9 hC9 s10 (fun k h2 h1 => dbc8 k h1 h2)
    have hT10 : Tri w w10 b1 T1 M1 C1 S1 G1 b2 T2 M2 C2 S2 G2 b3 T3 M3 C3 S3 G3 t := ⟨hA10, hB10, hC10, fun k h1 h2 => dba8 k h2 h1, fun k h1 h2 => dca10 k h2 h1, fun k h1 h2 => dcb10 k h2 h1⟩
    have hr3 := Blk.new w10 45 rr.cs
    have hal := (Below.refl _ w10).alloc (Nat.le_refl _) (.cells rr.cs 45)
    have hT11 := hT10.below hal
    have hr111 := hr110.alloc (.cells rr.cs 45)
    have hr211 := hr210.alloc (.cells rr.cs 45)
    clear s10 hA10 hB10 hC10 hT10 hal nq3 nr3 ns3 hA9 hB9 hC9 hq9 hr9 hr19 hr110 hr210 dac6 dba8 dbc8 dca10 dcb10 hap y0 y1 y2 y3 y4 y5 y6 y7 y8
    go_upto_region 14 with (fail)
    generalize w10.alloc (.cells rr.cs 45) = w11 at *
    generalize w10.heap.size = r3 at *
    have a0 : w11.cell? ⟨r1, 0, none⟩ = some (.int .i64 rr.e) := hr111.cell 0
    have a1 : w11.cell? ⟨r1, 1, none⟩ = some (.string (str rr.val)) := hr111.cell 1
    have a2 : w11.cell? ⟨r1, 2, none⟩ = some (.int .u64 rr.ver) := hr111.cell 2
    have c0 : w11.cell? ⟨r2, 0, none⟩ = some (.int .i64 rr.e) := hr211.cell 0
    have c1 : w11.cell? ⟨r2, 1, none⟩ = some (.string (str rr.val)) := hr211.cell 1
    have c2 : w11.cell? ⟨r2, 2, none⟩ = some (.int .u64 rr.ver) := hr211.cell 2
    have e0 : w11.cell? ⟨r3, 0, none⟩ = some (.int .i64 rr.e) := hr3.cell 0
    have e1 : w11.cell? ⟨r3, 1, none⟩ = some (.string (str rr.val)) := hr3.cell 1
    have e2 : w11.cell? ⟨r3, 2, none⟩ = some (.int .u64 rr.ver) := hr3.cell 2
    have htl : ∀ l : List UInt8, (str l).toList = l := fun l => ByteArray.toList_eq (str l)
    have hsA := seq_s hT11.a
    have hsB := seq_s hT11.b
    have HT := Lib.hid hT11
    clear hr111 hr211 hr3 hT11
    go_wp2_with fail
    refine hsA.mono ?_
    rintro e wz ⟨rfl, rfl⟩
    go_wp2_with fail
    refine hsB.mono ?_
    rintro e wz ⟨rfl, rfl⟩
    clear hsA hsB a0 a1 a2 c0 c1 c2 e0 e1 e2
    go_wp2_with fail
    go_roundw
    case rel => exact ⟨j + 1, G1, G2, G3, t, nw2, by omega, by omega, rfl, rfl, HT, HP1, HPO2⟩
    case measure => simp [intOf]; omega
  ·have hO := hP.ok
   have h12 : s.ss.length ≤ 12 := by have := up_len hO.up (n := 8) fun y hy => (hP.ss y hy).1; omega
   have hPo := HPO.out
   have hT := HT.out
   clear HT HPL HPO hP hY
   have htl : ∀ l : List UInt8, (str l).toList = l := fun l => ByteArray.toList_eq (str l)
   by_cases h4 : j < len
   ·obtain rfl : j = 60 := by omega
    have d1 : decide (((60 : Nat) : Int) < (len : Int)) = true := decide_eq_true (by omega)
    have d1' : ((60 : Nat) : Int) < (len : Int) := by omega
    clear h3 h4 hj hj60
    go_wp2_with fail
    refine (export_s hT.a hO hPo h12).mono ?_
    rintro e z1 ⟨rfl, hb1⟩
    have hT1 := hT.below hb1
    clear hT hb1
    go_wp2_with fail
    refine (export_s hT1.b hO hPo h12).mono ?_
    rintro e z2 ⟨rfl, hb1⟩
    have hT2 := hT1.below hb1
    clear hT1 hb1
    go_wp2_with fail
    refine (export_s hT2.a hO hPo h12).mono ?_
    rintro e z3 ⟨rfl, hb1⟩
    have hT3 := hT2.below hb1
    clear hT2 hb1
    go_wp2_with fail
    refine (export_s hT3.c hO hPo h12).mono ?_
    rintro e z4 ⟨rfl, hb1⟩
    have hT4 := hT3.below hb1
    clear hT3 hb1
    go_wp2_with fail
    refine (digest_s hT4.a hO hPo h12 (hG.below hT4.a.since)).mono ?_
    rintro e z5 ⟨rfl, hb1⟩
    have hT5 := hT4.below hb1
    clear hT4 hb1
    go_wp2_with fail
    refine (digest_s hT5.b hO hPo h12 (hG.below hT5.b.since)).mono ?_
    rintro e z6 ⟨rfl, hb1⟩
    have hfin := (hT5.below hb1).a.since
    clear hT5 hb1 hO hPo h12
    go_wp2_with fail
    go_ret
    exact ⟨rfl, hfin⟩
   ·obtain rfl : j = len := by omega
    have d1 : decide ((j : Int) < (j : Int)) = false := decide_eq_false (by omega)
    have d1' : ¬ ((j : Int) < (j : Int)) := by omega
    clear h3 h4 hj hj60
    go_wp2_with fail
    refine (export_s hT.a hO hPo h12).mono ?_
    rintro e z1 ⟨rfl, hb1⟩
    have hT1 := hT.below hb1
    clear hT hb1
    go_wp2_with fail
    refine (export_s hT1.b hO hPo h12).mono ?_
    rintro e z2 ⟨rfl, hb1⟩
    have hT2 := hT1.below hb1
    clear hT1 hb1
    go_wp2_with fail
    refine (export_s hT2.a hO hPo h12).mono ?_
    rintro e z3 ⟨rfl, hb1⟩
    have hT3 := hT2.below hb1
    clear hT2 hb1
    go_wp2_with fail
    refine (export_s hT3.c hO hPo h12).mono ?_
    rintro e z4 ⟨rfl, hb1⟩
    have hT4 := hT3.below hb1
    clear hT3 hb1
    go_wp2_with fail
    refine (digest_s hT4.a hO hPo h12 (hG.below hT4.a.since)).mono ?_
    rintro e z5 ⟨rfl, hb1⟩
    have hT5 := hT4.below hb1
    clear hT4 hb1
    go_wp2_with fail
    refine (digest_s hT5.b hO hPo h12 (hG.below hT5.b.since)).mono ?_
    rintro e z6 ⟨rfl, hb1⟩
    have hfin := (hT5.below hb1).a.since
    clear hT5 hb1 hO hPo h12
    go_wp2_with fail
    go_ret
    exact ⟨rfl, hfin⟩

set_option linter.unusedVariables false in
set_option maxRecDepth 100000 in
theorem storeMirrors_lifted (os : Os) (started : os.Started) (H : Type) (enc : TypeId × Value → H) :
  ReturnsInHanded {} Tryz.checked os 3 .any (fun w args => (Rows.storeMirrorsSpec.pre enc Tryz.prog Tryz.f3 [] false w args ∧ laidMetH Tryz.prog laidAll w) ∧ sizedMet enc Tryz.prog Tryz.f3 (OpenSpec.ofChange Rows.storeMirrorsSpec) false w args) (Rows.storeMirrorsSpec.post enc Tryz.prog Tryz.f3 false true false false) := by
 refine returnsInHanded_of_change_and (C := Tryz.checked) (X := fun w _ => laidMetH Tryz.prog laidAll w) (fun _ _ _ hh h => h.of_heap hh) Kit.own started (by kernel_rfl) Tryz.func3
  (ChangeSpec.witness_shaped (enc := enc) (C := Tryz.checked) (os := os) (X := fun w _ => laidMetH Tryz.prog laidAll w) false (World.doorLaid Tryz.prog 400 os) #[.agg #[.int .i64 0, .int .i64 0, .int .i64 0, .int .u64 0], .slice none 0 0, .slice none 0 0] 8 rfl (World.shaped_of_RefB (by kernel_rfl) (by kernel_rfl)) (by kernel_rfl) (by kernel_rfl) (by kernel_rfl) (door_met os _)) ?_
 intro W base args ds gs before hval0 hW _ _ hL _
 have hval : ∀ (j : Nat) t v, Tryz.f3.params[j]? = some t → args[j]? = some v → Value.okWide Tryz.prog W .any base t v := hval0
 have hW' := hW
 obtain ⟨p, q, hA0, hV, rfl, hfz, hnd⟩ := hW
 have hA : DataW.TrodAll enc Tryz.prog W 0 (fun _ => true) true Tryz.f3.params.toList args.toList ds p := hA0
 rw [Tryz.params3] at hA hval
 obtain ⟨v0, vs0, d0, ds0, p0, q0, hargs, rfl, rfl, h0, r0⟩ := trodAll_cons hA
 obtain ⟨v1, vs1, d1, ds1, p1, q1, rfl, rfl, rfl, h1, r1⟩ := trodAll_cons r0
 obtain ⟨v2, vs2, d2, ds2, p2, q2, rfl, rfl, rfl, h2, r2⟩ := trodAll_cons r1
 obtain ⟨rfl, rfl, rfl⟩ := trodAll_nil r2
 obtain ⟨rfl, rfl⟩ := trodVars_none hV
 obtain rfl : args = #[v0, v1, v2] := by cases args; simp_all
 obtain ⟨c0_0, c0_1, c0_2, c0_3, y0_0, y0_1, y0_2, y0_3, m0, rfl, rfl, rfl, hy0_0, hy0_1, hy0_2, hy0_3⟩ := Joins.open_agg4 Tryz.underlying24 (by kernel_rfl) (by kernel_rfl) (hval 0 24 v0 rfl rfl) h0
 obtain ⟨a0_0, e0_0, rfl, w0_0⟩ := DataW.trod_int Tryz.underlying3 hy0_0
 obtain rfl := (List.cons.inj e0_0).1
 obtain ⟨a0_1, e0_1, rfl, w0_1⟩ := DataW.trod_int Tryz.underlying3 hy0_1
 obtain rfl := (List.cons.inj e0_1).1
 obtain ⟨a0_2, e0_2, rfl, w0_2⟩ := DataW.trod_int Tryz.underlying3 hy0_2
 obtain rfl := (List.cons.inj e0_2).1
 obtain ⟨a0_3, e0_3, rfl, w0_3⟩ := DataW.trod_int Tryz.underlying22 hy0_3
 obtain rfl := (List.cons.inj e0_3).1
 obtain ⟨b1, c1, e1, rfl⟩ := okWide_slice Tryz.underlying25 (hval 1 25 v1 rfl rfl)
 obtain ⟨fuel1, hf1⟩ := h1
 obtain ⟨ao1, len1, cap1, sb1, off1, tx1, hv1, ht1⟩ := open_acs (show DataW.trod enc Tryz.prog W 0 (fun _ => true) true fuel1 25 [.slice b1 c1 e1] = some _ from hf1)
 injection hv1 with hv1x hv1y hv1z
 subst hv1x hv1y hv1z
 obtain ⟨b2, c2, e2, rfl⟩ := okWide_slice Tryz.underlying25 (hval 2 25 v2 rfl rfl)
 obtain ⟨fuel2, hf2⟩ := h2
 obtain ⟨ao2, len2, cap2, sb2, off2, tx2, hv2, ht2⟩ := open_acs (show DataW.trod enc Tryz.prog W 0 (fun _ => true) true fuel2 25 [.slice b2 c2 e2] = some _ from hf2)
 injection hv2 with hv2x hv2y hv2z
 subst hv2x hv2y hv2z
 clear hA0 hval0
 refine (storeMirrors_walk a0_0 w0_0 a0_1 w0_1 a0_2 w0_2 a0_3 w0_3 _ _ _ _ _ _ _ _ _ _ _ _ W ht1 ht2 (glob_of hL)).mono fun e W' ⟨he, hg⟩ => ?_
 subst he
 exact ⟨_, rfl, Kit.law_post hW' rfl (by kernel_rfl) rfl (by kernel_rfl) hg⟩

theorem storeMirrors_holds : Rows.StoreMirrorsSaid :=
 OpenClaim.holds_of_wide 3 Tryz.f3 rfl rfl rfl rfl rfl rfl rfl ⟨rfl, rfl, rfl, rfl, rfl⟩ rfl rfl rfl rfl rfl (by kernel_rfl) Tryz.func3 (by kernel_rfl)
  (of_decide_eq_true (by kernel_rfl)) (by unfold Func.isWrapper; first | (rw [if_pos (by decide +kernel)]; kernel_rfl) | (rw [if_neg (by decide +kernel)]; exact ⟨rfl, rfl⟩))
  (fun os started H enc _ => storeMirrors_lifted os started H enc)

theorem storeMirrors_card : Rows.StoreMirrorsCardSaid :=
 Claim7.holds_tied_plain_at .later [] Rows.storeMirrorsCard.laidKinds true Rows.storeMirrorsCard.stood.harness Rows.storeMirrorsCard.stood.looks
  storeMirrors_holds (fun _ h => by cases h) (by kernel_rfl) (fun _ h => by cases h) storeMirrors_row_tie rfl ⟨rfl, rfl⟩ (by kernel_rfl) rfl
  (fun f fn hf hfn => by
    obtain rfl : f = 3 := Option.some.inj ((show Tryz.prog.funcNamed "hawthorn/hawthornlaw12.StoreMirrors" = some 3 by kernel_rfl).symm.trans hf) |>.symm
    obtain rfl : fn = Tryz.f3 := (Option.some.inj (Tryz.func3.symm.trans hfn)).symm
    exact ⟨by kernel_rfl, fun j t ht => by
      rw [Tryz.params3] at ht
      have hm : t ∈ [24, 25, 25] := by simpa using Array.mem_of_getElem? ht
      have hall : ([24, 25, 25].all fun u => !Tryz.prog.wantsStandIn u) = true := by kernel_rfl
      exact (show Tryz.prog.wantsStandIn t = false by simpa using List.all_eq_true.1 hall t hm)⟩)
  (by kernel_rfl)

end
end Go.Proofs.YtkiabladmgagdabGreatDoor.Storey
