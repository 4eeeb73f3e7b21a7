/- slices.Sort of at most twelve numbers of 64 bits: they are sorted where they lie. The only condition: there are not more than twelve. -/
import Derived.Test.YtahmpggaicjgoaaGreatDoorSort64All
import Derived.Test.YtahmpggaicjgoaaGreatDoorWireFlyAll
import Derived.Lib.Hide
import Derived.BigQuiet
import Derived.Test.YtahmpggaicjgoaaGreatDoorSq
namespace Go.Proofs.YtahmpggaicjgoaaGreatDoor.Numsy
open Go.ChangeShapes Go.WideShapes Go.ChangeAt Go.RowKit
open Wirey (Blk Row str Kp)
open Regy
set_option maxHeartbeats 4000000 in
set_option maxRecDepth 100000 in
theorem ins_c {n c : Nat} {d0 : Array Nat} {g : Nat} (hs : d0.size = n) (hn : n ≤ 1000) (_hc : n ≤ c) (w : World) (h : Nums w g d0) :
  Calls Tryz.prog 144 #[.slice (some ⟨g, 0, none⟩) n c, .int .i64 0, .int .i64 n] w fun e w' => e = .returned (.tuple #[]) ∧ ∃ d, Nums w' g d ∧ d.size = n ∧ d.toList.Perm d0.toList ∧ Upto d n ∧ Kp (fun k => k = g) w w' := by
 go_enter Tryz.func144, Tryz.ntmps144
 go_wp2_with fail
 go_loopw [6] (fun v wr => ∃ (i : Nat) (d : Array Nat), 1 ≤ i ∧ (i ≤ n ∨ i = 1) ∧ v = .int .i64 i ∧ Nums wr g d ∧ d.size = n ∧ d.toList.Perm d0.toList ∧ Upto d i ∧ Kp (fun k => k = g) w wr) (fun v _ => n + 1 - (intOf v).toNat)
 case atStart => exact ⟨1, d0, by omega, .inr rfl, rfl, h, hs, List.Perm.refl _, fun a b h1 h2 => by omega, Kp.refl _ _⟩
 case round =>
  clear h hs
  obtain ⟨i, d, hi1, hin, rfl, hN, hds, hp, hu, hk⟩ := hrel
  by_cases h3 : i < n
  ·have hlt : (i : Int) < (n : Int) := by omega
   go_wp2_with fail
   go_loopw [7] (fun v wx => ∃ (j : Nat) (e : Array Nat), j ≤ i ∧ v = .int .i64 j ∧ Nums wx g e ∧ e.size = n ∧ e.toList.Perm d0.toList ∧ But e i j ∧ Kp (fun k => k = g) w wx) (fun v _ => (intOf v).toNat)
   case atStart => exact ⟨i, d, Nat.le_refl _, rfl, hN, hds, hp, But.start hu, hk⟩
   case round =>
    clear hN hds hp hu hk d
    obtain ⟨j, d, hji, rfl, hN, hds, hp, hb, hk⟩ := hrel
    by_cases hj0 : j = 0
    ·subst hj0
     have d1 : decide ((0 : Int) < ((0 : Nat) : Int)) = false := rfl
     have hz := hb.zero
     go_wp2_with fail
     refine region_only 15 #[false, false, false, false, false, false, false, false, false, false, false, false, false, false, false] (S := (fun _ => True)) rfl rfl (by kernel_rfl) trivial (fun hSw => ?_)
     refine tkA 0 16 14 ?_ rfl rfl ?_ hSw ?_
     rotate_left
     ·intro wx hSx; (try dsimp only at hSx); go_split_ands; go_simp; (try with_reducible rfl)
     simp only [sA, List.set_cons_zero, sC]
     refine tkA 1 17 13 ?_ rfl rfl ?_ hSw ?_
     rotate_left
     ·intro wx hSx; (try dsimp only at hSx); go_split_ands; go_simp; (try with_reducible rfl)
     simp only [sA, List.set_cons_zero, sC]
     refine tkA 2 18 12 ?_ rfl rfl ?_ hSw ?_
     rotate_left
     ·intro wx hSx; (try dsimp only at hSx); go_split_ands; go_simp; (try with_reducible rfl)
     simp only [sA, List.set_cons_zero, sC]
     refine tkA 3 19 11 ?_ rfl rfl ?_ hSw ?_
     rotate_left
     ·intro wx hSx; (try dsimp only at hSx); go_split_ands; go_simp; (try with_reducible rfl)
     simp only [sA, List.set_cons_zero, sC]
     refine take_at 4 20 undef (fuel := 10) rfl rfl (by kernel_rfl) (by kernel_rfl) (by kernel_rfl) (Or.inr ⟨by rfl, rfl⟩) hSw ?_
     simp only [sA, List.set_cons_zero, sC]
     refine take_at 5 21 undef (fuel := 9) rfl rfl (by kernel_rfl) (by kernel_rfl) (by kernel_rfl) (Or.inr ⟨by rfl, rfl⟩) hSw ?_
     simp only [sA, List.set_cons_zero, sC]
     refine take_at 6 22 undef (fuel := 8) rfl rfl (by kernel_rfl) (by kernel_rfl) (by kernel_rfl) (Or.inr ⟨by rfl, rfl⟩) hSw ?_
     simp only [sA, List.set_cons_zero, sC]
     refine take_at 7 23 undef (fuel := 7) rfl rfl (by kernel_rfl) (by kernel_rfl) (by kernel_rfl) (Or.inr ⟨by rfl, rfl⟩) hSw ?_
     simp only [sA, List.set_cons_zero, sC]
     refine take_at 8 24 undef (fuel := 6) rfl rfl (by kernel_rfl) (by kernel_rfl) (by kernel_rfl) (Or.inr ⟨by rfl, rfl⟩) hSw ?_
     simp only [sA, List.set_cons_zero, sC]
     refine take_at 9 25 undef (fuel := 5) rfl rfl (by kernel_rfl) (by kernel_rfl) (by kernel_rfl) (Or.inr ⟨by rfl, rfl⟩) hSw ?_
     simp only [sA, List.set_cons_zero, sC]
     refine take_at 10 26 undef (fuel := 4) rfl rfl (by kernel_rfl) (by kernel_rfl) (by kernel_rfl) (Or.inr ⟨by rfl, rfl⟩) hSw ?_
     simp only [sA, List.set_cons_zero, sC]
     refine take_at 11 27 undef (fuel := 3) rfl rfl (by kernel_rfl) (by kernel_rfl) (by kernel_rfl) (Or.inr ⟨by rfl, rfl⟩) hSw ?_
     simp only [sA, List.set_cons_zero, sC]
     refine take_at 12 28 undef (fuel := 2) rfl rfl (by kernel_rfl) (by kernel_rfl) (by kernel_rfl) (Or.inr ⟨by rfl, rfl⟩) hSw ?_
     simp only [sA, List.set_cons_zero, sC]
     refine take_at 13 29 undef (fuel := 1) rfl rfl (by kernel_rfl) (by kernel_rfl) (by kernel_rfl) (Or.inr ⟨by rfl, rfl⟩) hSw ?_
     simp only [sA, List.set_cons_zero, sC]
     refine tkA 14 30 0 ?_ rfl rfl ?_ hSw ?_
     rotate_left
     ·intro wx hSx; (try dsimp only at hSx); go_split_ands; go_simp; (try with_reducible rfl)
     simp only [sA, List.set_cons_zero, sC]
     refine wpAnyH_done (by kernel_rfl) ⟨rfl, ?_⟩ 0
     have hk2 := hk.trans (Kp.trans (b := wr) (Kp.refl _ _) ⟨rfl, rfl, rfl, Nat.le_refl _, fun _ _ _ => rfl⟩ : Kp (fun k => k = g) wr wr.drew)
     have hN2 := hN.drew
     clear hSw hN hk hb
     go_wp2_with fail
     refine ⟨⟨i + 1, d, by omega, by omega, rfl, hN2, hds, hp, hz, hk2⟩, ?_⟩
     simp [intOf]; omega
    ·have hjp : (0 : Int) < (j : Int) := by omega
     have d1 : decide ((0 : Int) < (j : Int)) = true := decide_eq_true hjp
     have d2 : decide (0 < j) = true := decide_eq_true (by omega)
     have hjs : j < d.size := by omega
     have hks : j - 1 < d.size := by omega
     have hjn : j < n := by omega
     have hkn : j - 1 < n := by omega
     have hsub : IntKind.i64.wrap ((j : Int) - 1) = ((j - 1 : Nat) : Int) := by rw [IntWalk.i64_in _ (by omega)]; omega
     have yj : wr.drew.cell? ⟨g, j, none⟩ = some (enc d[j]!) := hN.drew.at_ hjs
     have yk : wr.drew.cell? ⟨g, j - 1, none⟩ = some (enc d[j - 1]!) := hN.drew.at_ hks
     have hst := fun (hl : d[j]! < d[j - 1]!) => But.step hb (by omega) hji (by omega) hl
     have hsp := fun (hl : ¬ d[j]! < d[j - 1]!) => But.stop hb (by omega) hji hl
     have hsw := hN.drew.drew.swap_ (j := j) (by omega) hjs
     generalize d[j]! = dj at *
     generalize d[j - 1]! = dk at *
     go_wp2_with fail
     refine region_only 15 #[false, false, false, false, false, false, false, false, false, false, false, false, false, false, false] (S := (fun W => W.cell? ⟨g, j, none⟩ = some (enc dj) ∧ W.cell? ⟨g, j - 1, none⟩ = some (enc dk))) rfl rfl (by kernel_rfl) ⟨yj, yk⟩ (fun hSw => ?_)
     refine tkA 0 16 14 ?_ rfl rfl ?_ hSw ?_
     rotate_left
     ·intro wx hSx; (try dsimp only at hSx); go_split_ands; go_simp; (try with_reducible rfl)
     simp only [sA, List.set_cons_zero, sC]
     refine tkA 1 17 13 ?_ rfl rfl ?_ hSw ?_
     rotate_left
     ·intro wx hSx; (try dsimp only at hSx); go_split_ands; go_simp; (try with_reducible rfl)
     simp only [sA, List.set_cons_zero, sC]
     refine tkA 2 18 12 ?_ rfl rfl ?_ hSw ?_
     rotate_left
     ·intro wx hSx; (try dsimp only at hSx); go_split_ands; go_simp; (try with_reducible rfl)
     simp only [sA, List.set_cons_zero, sC]
     refine tkA 3 19 11 ?_ rfl rfl ?_ hSw ?_
     rotate_left
     ·intro wx hSx; (try dsimp only at hSx); go_split_ands; go_simp; (try with_reducible rfl)
     simp only [sA, List.set_cons_zero, sC]
     refine tkA 4 20 10 ?_ rfl rfl ?_ hSw ?_
     rotate_left
     ·intro wx hSx; (try dsimp only at hSx); go_split_ands; go_simp; (try with_reducible rfl)
     simp only [sA, List.set_cons_zero, sC]
     refine tkA 5 21 9 ?_ rfl rfl ?_ hSw ?_
     rotate_left
     ·intro wx hSx; (try dsimp only at hSx); go_split_ands; go_simp; (try with_reducible rfl)
     simp only [sA, List.set_cons_zero, sC]
     refine tkA 6 22 8 ?_ rfl rfl ?_ hSw ?_
     rotate_left
     ·intro wx hSx; (try dsimp only at hSx); go_split_ands; go_simp; (try with_reducible rfl)
     simp only [sA, List.set_cons_zero, sC]
     refine tkA 7 23 7 ?_ rfl rfl ?_ hSw ?_
     rotate_left
     ·intro wx hSx; (try dsimp only at hSx); go_split_ands; go_simp; (try with_reducible rfl)
     simp only [sA, List.set_cons_zero, sC]
     refine tkA 8 24 6 ?_ rfl rfl ?_ hSw ?_
     rotate_left
     ·intro wx hSx; (try dsimp only at hSx); go_split_ands; go_simp; (try with_reducible rfl)
     simp only [sA, List.set_cons_zero, sC]
     refine tkA 9 25 5 ?_ rfl rfl ?_ hSw ?_
     rotate_left
     ·intro wx hSx; (try dsimp only at hSx); go_split_ands; go_simp; (try with_reducible rfl)
     simp only [sA, List.set_cons_zero, sC]
     refine tkA 10 26 4 ?_ rfl rfl ?_ hSw ?_
     rotate_left
     ·intro wx hSx; (try dsimp only at hSx); go_split_ands; go_simp; (try with_reducible rfl)
     simp only [sA, List.set_cons_zero, sC]
     refine tkA 11 27 3 ?_ rfl rfl ?_ hSw ?_
     rotate_left
     ·intro wx hSx; (try dsimp only at hSx); go_split_ands; go_simp; (try with_reducible rfl)
     simp only [sA, List.set_cons_zero, sC]
     refine tkA 12 28 2 ?_ rfl rfl ?_ hSw ?_
     rotate_left
     ·intro wx hSx; (try dsimp only at hSx); go_split_ands; go_simp; (try with_reducible rfl)
     simp only [sA, List.set_cons_zero, sC]
     refine rdA 1 13 rfl fun K hK => ?_
     go_simp
     refine Calls.mono (less_c _ _ _) ?_
     rintro e wv ⟨rfl, rfl⟩
     refine hK.out _ _ hSw (fun hSw => ?_)
     clear hK K
     simp only [sA, List.set_cons_zero, sC]
     refine tkA 14 30 0 ?_ rfl rfl ?_ hSw ?_
     rotate_left
     ·intro wx hSx; (try dsimp only at hSx); go_split_ands; go_simp; (try with_reducible rfl)
     simp only [sA, List.set_cons_zero, sC]
     refine wpAnyH_done (by kernel_rfl) ⟨rfl, ?_⟩ 0
     have hkd : Kp (fun k => k = g) wr wr.drew := ⟨rfl, rfl, rfl, Nat.le_refl _, fun _ _ _ => rfl⟩
     by_cases hl : dj < dk
     ·have dl : decide (dj < dk) = true := decide_eq_true hl
      have hb2 := hst hl
      have hp2 : (d.swap (j - 1) j (by omega) hjs).toList.Perm d0.toList := (Array.swap_perm (by omega) hjs).toList.trans hp
      have hs2 : (d.swap (j - 1) j (by omega) hjs).size = n := by rw [Array.size_swap]; exact hds
      clear hst hsp hb hp
      go_upto_region 6 with (fail)
      have zj : wr.drew.drew.cell? ⟨g, j, none⟩ = some (enc dj) := yj
      have zk : wr.drew.drew.cell? ⟨g, j - 1, none⟩ = some (enc dk) := yk
      have fj : wr.drew.drew.frozen? ⟨g, j, none⟩ = false := hN.drew.free_ hjs
      have fk : wr.drew.drew.frozen? ⟨g, j - 1, none⟩ = false := hN.drew.free_ hks
      have hne : ¬ j = j - 1 := by omega
      have hkk : Kp (fun k => k = g) w ((wr.drew.drew.setCell ⟨g, j, none⟩ (enc dk)).setCell ⟨g, j - 1, none⟩ (enc dj)) :=
       ((hk.trans (hkd.trans (c := wr.drew.drew) ⟨rfl, rfl, rfl, Nat.le_refl _, fun _ _ _ => rfl⟩)).set (p := ⟨g, j, none⟩) rfl _).set (p := ⟨g, j - 1, none⟩) rfl _
      clear hkd hk hN hSw yj yk
      refine regionK_only 18 #[false, false, false, false, false, false, false, false, false, false, false, false, false, false, false, false, false, false] 15 (V := (fun W : World => W.cell? ⟨g, j, none⟩ = some (enc dj) ∧ W.cell? ⟨g, j - 1, none⟩ = some (enc dk))) rfl rfl (by kernel_rfl) ⟨zj, zk⟩ (fun hSw => ?_)
      generalize wr.drew.drew = wd at *
      refine early_at 15 0 33 (fuel := 17) ?_ rfl rfl (by kernel_rfl) (by kernel_rfl) (by kernel_rfl) (by decide) rfl (by kernel_rfl) (by kernel_rfl) (Or.inl ⟨by rfl, ?_⟩) hSw ?_
      rotate_left
      ·intro wx hSx
       (try dsimp only at hSx)
       go_split_ands
       go_simp
       (try with_reducible rfl)
      simp only [sA, List.set_cons_zero, sC]
      refine early_at 15 1 34 (fuel := 16) ?_ rfl rfl (by kernel_rfl) (by kernel_rfl) (by kernel_rfl) (by decide) rfl (by kernel_rfl) (by kernel_rfl) (Or.inl ⟨by rfl, ?_⟩) hSw ?_
      rotate_left
      ·intro wx hSx
       (try dsimp only at hSx)
       go_split_ands
       go_simp
       (try with_reducible rfl)
      simp only [sA, List.set_cons_zero, sC]
      refine takeK_at 15 2 35 (fuel := 15) ?_ rfl rfl (by kernel_rfl) (by kernel_rfl) (by kernel_rfl) (by decide) (Or.inl ⟨by rfl, ?_⟩) hSw ?_
      rotate_left
      ·intro wx hSx
       (try dsimp only at hSx)
       go_split_ands
       go_simp
       (try with_reducible rfl)
      simp only [sA, List.set_cons_zero, sC]
      refine takeK_at 15 3 36 (fuel := 14) ?_ rfl rfl (by kernel_rfl) (by kernel_rfl) (by kernel_rfl) (by decide) (Or.inl ⟨by rfl, ?_⟩) hSw ?_
      rotate_left
      ·intro wx hSx
       (try dsimp only at hSx)
       go_split_ands
       go_simp
       (try with_reducible rfl)
      simp only [sA, List.set_cons_zero, sC]
      refine takeK_at 15 4 37 (fuel := 13) ?_ rfl rfl (by kernel_rfl) (by kernel_rfl) (by kernel_rfl) (by decide) (Or.inl ⟨by rfl, ?_⟩) hSw ?_
      rotate_left
      ·intro wx hSx
       (try dsimp only at hSx)
       go_split_ands
       go_simp
       (try with_reducible rfl)
      simp only [sA, List.set_cons_zero, sC]
      refine early_at 15 5 38 (fuel := 12) ?_ rfl rfl (by kernel_rfl) (by kernel_rfl) (by kernel_rfl) (by decide) rfl (by kernel_rfl) (by kernel_rfl) (Or.inl ⟨by rfl, ?_⟩) hSw ?_
      rotate_left
      ·intro wx hSx
       (try dsimp only at hSx)
       go_split_ands
       go_simp
       (try with_reducible rfl)
      simp only [sA, List.set_cons_zero, sC]
      refine early_at 15 6 39 (fuel := 11) ?_ rfl rfl (by kernel_rfl) (by kernel_rfl) (by kernel_rfl) (by decide) rfl (by kernel_rfl) (by kernel_rfl) (Or.inl ⟨by rfl, ?_⟩) hSw ?_
      rotate_left
      ·intro wx hSx
       (try dsimp only at hSx)
       go_split_ands
       go_simp
       (try with_reducible rfl)
      simp only [sA, List.set_cons_zero, sC]
      refine early_at 15 7 40 (fuel := 10) ?_ rfl rfl (by kernel_rfl) (by kernel_rfl) (by kernel_rfl) (by decide) rfl (by kernel_rfl) (by kernel_rfl) (Or.inl ⟨by rfl, ?_⟩) hSw ?_
      rotate_left
      ·intro wx hSx
       (try dsimp only at hSx)
       go_split_ands
       go_simp
       (try with_reducible rfl)
      simp only [sA, List.set_cons_zero, sC]
      refine early_at 15 8 41 (fuel := 9) ?_ rfl rfl (by kernel_rfl) (by kernel_rfl) (by kernel_rfl) (by decide) rfl (by kernel_rfl) (by kernel_rfl) (Or.inl ⟨by rfl, ?_⟩) hSw ?_
      rotate_left
      ·intro wx hSx
       (try dsimp only at hSx)
       go_split_ands
       go_simp
       (try with_reducible rfl)
      simp only [sA, List.set_cons_zero, sC]
      refine early_at 15 9 42 (fuel := 8) ?_ rfl rfl (by kernel_rfl) (by kernel_rfl) (by kernel_rfl) (by decide) rfl (by kernel_rfl) (by kernel_rfl) (Or.inl ⟨by rfl, ?_⟩) hSw ?_
      rotate_left
      ·intro wx hSx
       (try dsimp only at hSx)
       go_split_ands
       go_simp
       (try with_reducible rfl)
      simp only [sA, List.set_cons_zero, sC]
      refine takeK_at 15 10 43 (fuel := 7) ?_ rfl rfl (by kernel_rfl) (by kernel_rfl) (by kernel_rfl) (by decide) (Or.inl ⟨by rfl, ?_⟩) hSw ?_
      rotate_left
      ·intro wx hSx
       (try dsimp only at hSx)
       go_split_ands
       go_simp
       (try with_reducible rfl)
      simp only [sA, List.set_cons_zero, sC]
      refine takeK_at 15 11 44 (fuel := 6) ?_ rfl rfl (by kernel_rfl) (by kernel_rfl) (by kernel_rfl) (by decide) (Or.inl ⟨by rfl, ?_⟩) hSw ?_
      rotate_left
      ·intro wx hSx
       (try dsimp only at hSx)
       go_split_ands
       go_simp
       (try with_reducible rfl)
      simp only [sA, List.set_cons_zero, sC]
      refine takeK_at 15 12 45 (fuel := 5) ?_ rfl rfl (by kernel_rfl) (by kernel_rfl) (by kernel_rfl) (by decide) (Or.inl ⟨by rfl, ?_⟩) hSw ?_
      rotate_left
      ·intro wx hSx
       (try dsimp only at hSx)
       go_split_ands
       go_simp
       (try with_reducible rfl)
      simp only [sA, List.set_cons_zero, sC]
      refine early_at 15 13 46 (fuel := 4) ?_ rfl rfl (by kernel_rfl) (by kernel_rfl) (by kernel_rfl) (by decide) rfl (by kernel_rfl) (by kernel_rfl) (Or.inl ⟨by rfl, ?_⟩) hSw ?_
      rotate_left
      ·intro wx hSx
       (try dsimp only at hSx)
       go_split_ands
       go_simp
       (try with_reducible rfl)
      simp only [sA, List.set_cons_zero, sC]
      refine early_at 15 14 47 (fuel := 3) ?_ rfl rfl (by kernel_rfl) (by kernel_rfl) (by kernel_rfl) (by decide) rfl (by kernel_rfl) (by kernel_rfl) (Or.inl ⟨by rfl, ?_⟩) hSw ?_
      rotate_left
      ·intro wx hSx
       (try dsimp only at hSx)
       go_split_ands
       go_simp
       (try with_reducible rfl)
      simp only [sA, List.set_cons_zero, sC]
      refine Wirey.wpAnyK_one 15 (by kernel_rfl) rfl (fun K hK => ?_)
      go_simp
      refine hK.out _ _ trivial (fun h9 => absurd h9 (by decide)) ?_
      clear hK K
      simp only [sA, List.set_cons_zero, sC]
      refine Wirey.wpAnyK_take (v := ?_) 16 (some 48) rfl (by kernel_rfl) (by kernel_rfl) (by kernel_rfl) (by decide) (fun _ _ _ h => h.panic) trivial (fun h9 => absurd h9 (by decide)) (Or.inl ⟨by rfl, ?_⟩) rfl ?_
      rotate_left
      ·intro wx hSx
       go_simp
       (try with_reducible rfl)
      simp only [sA, List.set_cons_zero, sC]
      refine Wirey.wpAnyK_one 17 (by kernel_rfl) rfl (fun K hK => ?_)
      go_simp
      refine hK.out _ _ trivial (fun h9 => absurd h9 (by decide)) ?_
      clear hK K
      simp only [sA, List.set_cons_zero, sC]
      refine Wirey.wpAnyK_done (by kernel_rfl) ⟨rfl, ?_⟩
      have hj1 : j - 1 ≤ i := by omega
      clear zj zk fj fk hSw
      go_wp2_with fail
      go_roundw
      case rel => exact ⟨j - 1, _, hj1, rfl, hsw, hs2, hp2, hb2, hkk⟩
      case measure => simp [intOf]; omega
     ·have dl : decide (dj < dk) = false := decide_eq_false hl
      have hz := hsp hl
      have hN2 := hN.drew
      have hk2 := hk.trans hkd
      clear hst hsp hb hsw hSw yj yk
      go_wp2_with fail
      refine ⟨⟨i + 1, d, by omega, by omega, rfl, hN2, hds, hp, hz, hk2⟩, ?_⟩
      simp [intOf]; omega
  ·go_wp2_with fail
   exact bodyPost_end (v := .tuple #[]) (results_none rfl _ _ _) rfl ⟨rfl, d, hN, hds, hp, fun a b h1 h2 => hu a b h1 (by omega), hk⟩
end Go.Proofs.YtahmpggaicjgoaaGreatDoor.Numsy
