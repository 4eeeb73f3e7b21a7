/- Layer 15 (bucket): for every input the call returns true and leaves what it was given as it was: lists that have not as many sums differ in all buckets, others in those whose sums differ (BucketLists). Condition: the variables first, orders and columns of layer 4 hold what the program's text lays (the card ties it). -/
import Derived.Test.YteopkdmlcjndcaaDoorBuckAwake
import Derived.Test.YteopkdmlcjndcaaDoorBlakeLaid
import Derived.Test.YteopkdmlcjndcaaDoorKit
import Derived.Deep.DeepCutAuto
import Derived.Deep.CutBlock
namespace Go.Proofs.YteopkdmlcjndcaaDoor.Bucky
open Go.ChangeShapes Go.WideShapes Go.ChangeAt Go.RowKit Go.ChangeMaps Go.Deep
open Wirey Regy

theorem Texts.cut {w : World} {ao : Option Addr} {n m sb off : Nat} {T : Nat → Bs} (h : Texts w ao n sb off T) (hm : m ≤ n) : Texts w ao m sb off T :=
  ⟨by have := h.n63; omega, fun h0 => h.ao (by omega), fun i hi => h.cell i (by omega), fun i hi => h.size i (by omega), fun h0 => h.lt (by omega)⟩
theorem open_textsC {H : Type} {enc : TypeId × Value → H} {w : World} {base : Nat} {spare : Nat → Bool} {held : Bool} {fuel : Nat} {v : Value} {x : DataW H × List MemPlace}
    (h : DataW.trod enc Tryd.prog w base spare held fuel 25 [v] = some x) :
    ∃ (ao : Option Addr) (len cap sb off : Nat) (T : Nat → Bs), v = .slice ao len cap ∧ Texts w ao len sb off T ∧ len ≤ cap := by
  obtain ⟨ao, len, cap, sb, off, T, rfl, hT⟩ := open_texts h
  refine ⟨ao, len, cap, sb, off, T, rfl, hT, ?_⟩
  rcases open_strs Tryd.underlying25 Tryd.underlying9 str_cells h with ⟨h0, _⟩ | ⟨a, len', cap', m, Sx, h0, _, hl, _⟩
  · injection h0 with h1
    injection h1 with _ h2 h3
    omega
  · injection h0 with h1
    injection h1 with _ h2 h3
    omega
theorem told_at {p : Nat → Bool} {k j : Nat} (h : j < (told p k).length) : ∃ x, (told p k)[j]? = some x := ⟨_, List.getElem?_eq_getElem h⟩
set_option maxHeartbeats 8000000 in
set_option maxRecDepth 100000 in
theorem bucketLists_walk (ao bo : Option Addr) (na ca sa oa nb cb sb ob : Nat) (TA TB : Nat → Bs) (w : World) (hA : Texts w ao na sa oa TA) (hca : na ≤ ca) (hB : Texts w bo nb sb ob TB) (hcb : nb ≤ cb) (hG : Glob w) :
    Calls Tryd.prog 4 #[.slice ao na ca, .slice bo nb cb] w fun e w' => e = .returned (.bool true) ∧ Below w.heap.size w w' := by
  obtain ⟨i0, hi0, hz0, hz1, hz2⟩ := info_parts int_info
  have htl := Wirey.toList_str
  have HG := Lib.hid hG
  have HA := Lib.hid hA
  have HB := Lib.hid hB
  clear hA hB hG
  go_enter Tryd.func4, Tryd.ntmps4
  go_upto_if 15 with (fail)
  go_cut [5] from 13 to 17 (fun s5 wx => ∃ n, s5 = .slice ao n ca ∧ Hid (n ≤ 20 ∧ n ≤ na) ∧ w = wx)
  case first =>
    by_cases e : 20 < na
    · have f1 : decide ((20 : Int) < (na : Int)) = true := decide_eq_true (by omega)
      have f2 : (20 : Int) ≤ (ca : Int) := by omega
      go_wp2_with fail
      go_meet
      exact ⟨20, rfl, Lib.hid (by omega), rfl⟩
    · have f1 : decide ((20 : Int) < (na : Int)) = false := decide_eq_false (by omega)
      go_wp2_with fail
      go_meet
      exact ⟨na, rfl, Lib.hid (by omega), rfl⟩
  case rest =>
    obtain ⟨nx, rfl, HNX, rfl⟩ := hcut
    go_upto_if 20 with (fail)
    go_cut [6] from 18 to 22 (fun s6 wx => ∃ n, s6 = .slice bo n cb ∧ Hid (n ≤ 20 ∧ n ≤ nb) ∧ w = wx)
    case first =>
      by_cases e : 20 < nb
      · have f1 : decide ((20 : Int) < (nb : Int)) = true := decide_eq_true (by omega)
        have f2 : (20 : Int) ≤ (cb : Int) := by omega
        go_wp2_with fail
        go_meet
        exact ⟨20, rfl, Lib.hid (by omega), rfl⟩
      · have f1 : decide ((20 : Int) < (nb : Int)) = false := decide_eq_false (by omega)
        go_wp2_with fail
        go_meet
        exact ⟨nb, rfl, Lib.hid (by omega), rfl⟩
    case rest =>
      obtain ⟨ny, rfl, HNY, rfl⟩ := hcut
      have hX := Texts.cut HA.out HNX.out.2
      have hY := Texts.cut HB.out HNY.out.2
      clear HA HB hca hcb
      have hD := differ_c ca cb hX hY
      have HX := Lib.hid hX
      have HY := Lib.hid hY
      obtain ⟨P, hP⟩ : ∃ P, P = apart nx ny TA TB := ⟨_, rfl⟩
      rw [← hP] at hD
      have HPK := Lib.hid (show ∀ k, P k = decide (¬ (nx = 16 ∧ ny = 16) ∨ TA k ≠ TB k) from fun k => by rw [hP]; rfl)
      clear hP hX hY
      go_wp2_with fail
      refine hD.mono ?_
      rintro e w1 ⟨vg, rfl, hO0, hb⟩
      obtain ⟨ga, gc, rfl⟩ := hO0.form
      have HO0 := Lib.hid hO0
      have HB1 := Lib.hid hb
      have hW0 : Own (w1.alloc (.cells #[] 3)) w1.heap.size (.slice (some ⟨w1.heap.size, 0, none⟩) 0 0) (told P 0) := World.ownsRow_made w1 #[] 0 (Nat.le_refl _) (Nat.zero_le _) rfl
      have hW1 : Below w1.heap.size w1 (w1.alloc (.cells #[] 3)) := (Below.refl _ w1).alloc (Nat.le_refl _) _
      clear hD hO0 hb
      go_wp2_with fail
      go_loopw [8, 9] (fun l s wr => ∃ (k : Nat) (v : Value), k ≤ 16 ∧ s = .int .i64 k ∧ (l = v ∧ Own wr w1.heap.size v (told P k)) ∧ Below w1.heap.size w1 wr) (fun _ s _ => 16 - (intOf s).toNat)
      case atStart => exact ⟨0, _, by omega, rfl, ⟨rfl, hW0⟩, hW1⟩
      case round =>
        clear hW0 hW1
        obtain ⟨k, v, hk, rfl, ⟨rfl, hO⟩, hb⟩ := hrel
        obtain ⟨va, vc, rfl⟩ := hO.form
        have hkl := told_len P k
        by_cases h : k < 16
        · have hlt : (k : Int) < 16 := by omega
          have hO := hO.below (Below.drew (Below.refl _ wr))
          have HBB := hb.drew
          by_cases h1 : nx = 16
          · subst h1
            by_cases h2 : ny = 16
            · subst h2
              obtain rfl : ao = some ⟨sa, oa, none⟩ := HX.out.ao (by decide)
              obtain rfl : bo = some ⟨sb, ob, none⟩ := HY.out.ao (by decide)
              have xa : wr.drew.cell? ⟨sa, oa + k, none⟩ = some (.string (str (TA k))) := (((HX.out.below HB1.out (fun _ => HX.out.lt (by decide)))).below hb (fun _ => by have := HX.out.lt (by decide); have := HB1.out.size; omega)).cell k h
              have xb : wr.drew.cell? ⟨sb, ob + k, none⟩ = some (.string (str (TB k))) := (((HY.out.below HB1.out (fun _ => HY.out.lt (by decide)))).below hb (fun _ => by have := HY.out.lt (by decide); have := HB1.out.size; omega)).cell k h
              go_upto_region 10 with (fail)
              by_cases e : TA k = TB k
              · have f1 : (TA k == TB k) = true := by simpa using e
                have HP := Lib.hid (show P k = false by rw [HPK.out, decide_eq_false (by simp [e])])
                clear e
                refine region_only 19 #[false, false, false, false, false, false, false, false, false, false, false, false, false, false, false, false, false, false, false] (S := (fun W => W.cell? ⟨sa, oa + k, none⟩ = some (.string (str (TA k))) ∧ W.cell? ⟨sb, ob + k, none⟩ = some (.string (str (TB k))))) rfl rfl (by kernel_rfl) ⟨xa, xb⟩ (fun hSw => ?_)
                refine take_at 0 31 (fuel := 18) ?_ rfl rfl (by kernel_rfl) (by kernel_rfl) (by kernel_rfl) (Or.inl ⟨by rfl, ?_⟩) hSw ?_
                rotate_left
                · intro wx hSx
                  (try dsimp only at hSx)
                  go_split_ands
                  go_simp
                  (try with_reducible rfl)
                simp only [List.setIfInBounds_toArray, List.set_cons_zero, List.set_cons_succ]
                refine take_at 1 32 (fuel := 17) ?_ rfl rfl (by kernel_rfl) (by kernel_rfl) (by kernel_rfl) (Or.inl ⟨by rfl, ?_⟩) hSw ?_
                rotate_left
                · intro wx hSx
                  (try dsimp only at hSx)
                  go_split_ands
                  go_simp
                  (try with_reducible rfl)
                simp only [List.setIfInBounds_toArray, List.set_cons_zero, List.set_cons_succ]
                refine take_at 2 33 (fuel := 16) ?_ rfl rfl (by kernel_rfl) (by kernel_rfl) (by kernel_rfl) (Or.inl ⟨by rfl, ?_⟩) hSw ?_
                rotate_left
                · intro wx hSx
                  (try dsimp only at hSx)
                  go_split_ands
                  go_simp
                  (try with_reducible rfl)
                simp only [List.setIfInBounds_toArray, List.set_cons_zero, List.set_cons_succ]
                refine take_at 3 34 (fuel := 15) ?_ rfl rfl (by kernel_rfl) (by kernel_rfl) (by kernel_rfl) (Or.inl ⟨by rfl, ?_⟩) hSw ?_
                rotate_left
                · intro wx hSx
                  (try dsimp only at hSx)
                  go_split_ands
                  go_simp
                  (try with_reducible rfl)
                simp only [List.setIfInBounds_toArray, List.set_cons_zero, List.set_cons_succ]
                refine take_at 4 35 (fuel := 14) ?_ rfl rfl (by kernel_rfl) (by kernel_rfl) (by kernel_rfl) (Or.inl ⟨by rfl, ?_⟩) hSw ?_
                rotate_left
                · intro wx hSx
                  (try dsimp only at hSx)
                  go_split_ands
                  go_simp
                  (try with_reducible rfl)
                simp only [List.setIfInBounds_toArray, List.set_cons_zero, List.set_cons_succ]
                refine take_at 5 36 (fuel := 13) ?_ rfl rfl (by kernel_rfl) (by kernel_rfl) (by kernel_rfl) (Or.inl ⟨by rfl, ?_⟩) hSw ?_
                rotate_left
                · intro wx hSx
                  (try dsimp only at hSx)
                  go_split_ands
                  go_simp
                  (try with_reducible rfl)
                simp only [List.setIfInBounds_toArray, List.set_cons_zero, List.set_cons_succ]
                refine take_at 6 37 (fuel := 12) ?_ rfl rfl (by kernel_rfl) (by kernel_rfl) (by kernel_rfl) (Or.inl ⟨by rfl, ?_⟩) hSw ?_
                rotate_left
                · intro wx hSx
                  (try dsimp only at hSx)
                  go_split_ands
                  go_simp
                  (try with_reducible rfl)
                simp only [List.setIfInBounds_toArray, List.set_cons_zero, List.set_cons_succ]
                refine take_at 7 38 (fuel := 11) ?_ rfl rfl (by kernel_rfl) (by kernel_rfl) (by kernel_rfl) (Or.inl ⟨by rfl, ?_⟩) hSw ?_
                rotate_left
                · intro wx hSx
                  (try dsimp only at hSx)
                  go_split_ands
                  go_simp
                  (try with_reducible rfl)
                simp only [List.setIfInBounds_toArray, List.set_cons_zero, List.set_cons_succ]
                refine take_at 8 39 (fuel := 10) ?_ rfl rfl (by kernel_rfl) (by kernel_rfl) (by kernel_rfl) (Or.inl ⟨by rfl, ?_⟩) hSw ?_
                rotate_left
                · intro wx hSx
                  (try dsimp only at hSx)
                  go_split_ands
                  go_simp
                  (try with_reducible rfl)
                simp only [List.setIfInBounds_toArray, List.set_cons_zero, List.set_cons_succ]
                refine take_at 9 40 (fuel := 9) ?_ rfl rfl (by kernel_rfl) (by kernel_rfl) (by kernel_rfl) (Or.inl ⟨by rfl, ?_⟩) hSw ?_
                rotate_left
                · intro wx hSx
                  (try dsimp only at hSx)
                  go_split_ands
                  go_simp
                  (try with_reducible rfl)
                simp only [List.setIfInBounds_toArray, List.set_cons_zero, List.set_cons_succ]
                refine take_at 10 41 (fuel := 8) ?_ rfl rfl (by kernel_rfl) (by kernel_rfl) (by kernel_rfl) (Or.inl ⟨by rfl, ?_⟩) hSw ?_
                rotate_left
                · intro wx hSx
                  (try dsimp only at hSx)
                  go_split_ands
                  go_simp
                  (try with_reducible rfl)
                simp only [List.setIfInBounds_toArray, List.set_cons_zero, List.set_cons_succ]
                refine take_at 11 42 (fuel := 7) ?_ rfl rfl (by kernel_rfl) (by kernel_rfl) (by kernel_rfl) (Or.inl ⟨by rfl, ?_⟩) hSw ?_
                rotate_left
                · intro wx hSx
                  (try dsimp only at hSx)
                  go_split_ands
                  go_simp
                  (try with_reducible rfl)
                simp only [List.setIfInBounds_toArray, List.set_cons_zero, List.set_cons_succ]
                refine take_at 12 43 (fuel := 6) ?_ rfl rfl (by kernel_rfl) (by kernel_rfl) (by kernel_rfl) (Or.inl ⟨by rfl, ?_⟩) hSw ?_
                rotate_left
                · intro wx hSx
                  (try dsimp only at hSx)
                  go_split_ands
                  go_simp
                  (try with_reducible rfl)
                simp only [List.setIfInBounds_toArray, List.set_cons_zero, List.set_cons_succ]
                refine take_at 13 44 (fuel := 5) ?_ rfl rfl (by kernel_rfl) (by kernel_rfl) (by kernel_rfl) (Or.inl ⟨by rfl, ?_⟩) hSw ?_
                rotate_left
                · intro wx hSx
                  (try dsimp only at hSx)
                  go_split_ands
                  go_simp
                  (try with_reducible rfl)
                simp only [List.setIfInBounds_toArray, List.set_cons_zero, List.set_cons_succ]
                refine take_at 14 45 (fuel := 4) ?_ rfl rfl (by kernel_rfl) (by kernel_rfl) (by kernel_rfl) (Or.inl ⟨by rfl, ?_⟩) hSw ?_
                rotate_left
                · intro wx hSx
                  (try dsimp only at hSx)
                  go_split_ands
                  go_simp
                  (try with_reducible rfl)
                simp only [List.setIfInBounds_toArray, List.set_cons_zero, List.set_cons_succ]
                refine take_at 15 46 (fuel := 3) ?_ rfl rfl (by kernel_rfl) (by kernel_rfl) (by kernel_rfl) (Or.inl ⟨by rfl, ?_⟩) hSw ?_
                rotate_left
                · intro wx hSx
                  (try dsimp only at hSx)
                  go_split_ands
                  go_simp
                  (try with_reducible rfl)
                simp only [List.setIfInBounds_toArray, List.set_cons_zero, List.set_cons_succ]
                refine take_at 16 47 (fuel := 2) ?_ rfl rfl (by kernel_rfl) (by kernel_rfl) (by kernel_rfl) (Or.inl ⟨by rfl, ?_⟩) hSw ?_
                rotate_left
                · intro wx hSx
                  (try dsimp only at hSx)
                  go_split_ands
                  go_simp
                  (try with_reducible rfl)
                simp only [List.setIfInBounds_toArray, List.set_cons_zero, List.set_cons_succ]
                refine take_at 17 48 (fuel := 1) ?_ rfl rfl (by kernel_rfl) (by kernel_rfl) (by kernel_rfl) (Or.inl ⟨by rfl, ?_⟩) hSw ?_
                rotate_left
                · intro wx hSx
                  (try dsimp only at hSx)
                  go_split_ands
                  go_simp
                  (try with_reducible rfl)
                simp only [List.setIfInBounds_toArray, List.set_cons_zero, List.set_cons_succ]
                refine take_at 18 49 (fuel := 0) ?_ rfl rfl (by kernel_rfl) (by kernel_rfl) (by kernel_rfl) (Or.inl ⟨by rfl, ?_⟩) hSw ?_
                rotate_left
                · intro wx hSx
                  (try dsimp only at hSx)
                  go_split_ands
                  go_simp
                  (try with_reducible rfl)
                simp only [List.setIfInBounds_toArray, List.set_cons_zero, List.set_cons_succ]
                refine wpAnyH_done (by kernel_rfl) ⟨rfl, ?_⟩ 0
                clear hSw xa xb
                go_wp2_with fail
                have hO2 : Own wr.drew w1.heap.size (.slice va (told P k).length vc) (told P (k + 1)) := by rw [told_no (p := P) HP.out]; exact hO
                go_roundw
                case rel => exact ⟨k + 1, _, by omega, rfl, ⟨rfl, hO2⟩, HBB⟩
                case measure => simp [intOf]; omega
              · have f1 : (TA k == TB k) = false := by simpa using e
                have HP := Lib.hid (show P k = true by rw [HPK.out, decide_eq_true (Or.inr e)])
                clear e
                refine region_only 19 #[false, false, false, false, false, false, false, false, false, false, false, false, false, false, false, false, false, false, false] (S := (fun W => W.cell? ⟨sa, oa + k, none⟩ = some (.string (str (TA k))) ∧ W.cell? ⟨sb, ob + k, none⟩ = some (.string (str (TB k))))) rfl rfl (by kernel_rfl) ⟨xa, xb⟩ (fun hSw => ?_)
                refine take_at 0 31 (fuel := 18) ?_ rfl rfl (by kernel_rfl) (by kernel_rfl) (by kernel_rfl) (Or.inl ⟨by rfl, ?_⟩) hSw ?_
                rotate_left
                · intro wx hSx
                  (try dsimp only at hSx)
                  go_split_ands
                  go_simp
                  (try with_reducible rfl)
                simp only [List.setIfInBounds_toArray, List.set_cons_zero, List.set_cons_succ]
                refine take_at 1 32 (fuel := 17) ?_ rfl rfl (by kernel_rfl) (by kernel_rfl) (by kernel_rfl) (Or.inl ⟨by rfl, ?_⟩) hSw ?_
                rotate_left
                · intro wx hSx
                  (try dsimp only at hSx)
                  go_split_ands
                  go_simp
                  (try with_reducible rfl)
                simp only [List.setIfInBounds_toArray, List.set_cons_zero, List.set_cons_succ]
                refine take_at 2 33 (fuel := 16) ?_ rfl rfl (by kernel_rfl) (by kernel_rfl) (by kernel_rfl) (Or.inl ⟨by rfl, ?_⟩) hSw ?_
                rotate_left
                · intro wx hSx
                  (try dsimp only at hSx)
                  go_split_ands
                  go_simp
                  (try with_reducible rfl)
                simp only [List.setIfInBounds_toArray, List.set_cons_zero, List.set_cons_succ]
                refine take_at 3 34 (fuel := 15) ?_ rfl rfl (by kernel_rfl) (by kernel_rfl) (by kernel_rfl) (Or.inl ⟨by rfl, ?_⟩) hSw ?_
                rotate_left
                · intro wx hSx
                  (try dsimp only at hSx)
                  go_split_ands
                  go_simp
                  (try with_reducible rfl)
                simp only [List.setIfInBounds_toArray, List.set_cons_zero, List.set_cons_succ]
                refine take_at 4 35 (fuel := 14) ?_ rfl rfl (by kernel_rfl) (by kernel_rfl) (by kernel_rfl) (Or.inl ⟨by rfl, ?_⟩) hSw ?_
                rotate_left
                · intro wx hSx
                  (try dsimp only at hSx)
                  go_split_ands
                  go_simp
                  (try with_reducible rfl)
                simp only [List.setIfInBounds_toArray, List.set_cons_zero, List.set_cons_succ]
                refine take_at 5 36 (fuel := 13) ?_ rfl rfl (by kernel_rfl) (by kernel_rfl) (by kernel_rfl) (Or.inl ⟨by rfl, ?_⟩) hSw ?_
                rotate_left
                · intro wx hSx
                  (try dsimp only at hSx)
                  go_split_ands
                  go_simp
                  (try with_reducible rfl)
                simp only [List.setIfInBounds_toArray, List.set_cons_zero, List.set_cons_succ]
                refine take_at 6 37 (fuel := 12) ?_ rfl rfl (by kernel_rfl) (by kernel_rfl) (by kernel_rfl) (Or.inl ⟨by rfl, ?_⟩) hSw ?_
                rotate_left
                · intro wx hSx
                  (try dsimp only at hSx)
                  go_split_ands
                  go_simp
                  (try with_reducible rfl)
                simp only [List.setIfInBounds_toArray, List.set_cons_zero, List.set_cons_succ]
                refine take_at 7 38 (fuel := 11) ?_ rfl rfl (by kernel_rfl) (by kernel_rfl) (by kernel_rfl) (Or.inl ⟨by rfl, ?_⟩) hSw ?_
                rotate_left
                · intro wx hSx
                  (try dsimp only at hSx)
                  go_split_ands
                  go_simp
                  (try with_reducible rfl)
                simp only [List.setIfInBounds_toArray, List.set_cons_zero, List.set_cons_succ]
                refine take_at 8 39 (fuel := 10) ?_ rfl rfl (by kernel_rfl) (by kernel_rfl) (by kernel_rfl) (Or.inl ⟨by rfl, ?_⟩) hSw ?_
                rotate_left
                · intro wx hSx
                  (try dsimp only at hSx)
                  go_split_ands
                  go_simp
                  (try with_reducible rfl)
                simp only [List.setIfInBounds_toArray, List.set_cons_zero, List.set_cons_succ]
                refine take_at 9 40 (fuel := 9) ?_ rfl rfl (by kernel_rfl) (by kernel_rfl) (by kernel_rfl) (Or.inl ⟨by rfl, ?_⟩) hSw ?_
                rotate_left
                · intro wx hSx
                  (try dsimp only at hSx)
                  go_split_ands
                  go_simp
                  (try with_reducible rfl)
                simp only [List.setIfInBounds_toArray, List.set_cons_zero, List.set_cons_succ]
                refine take_at 10 41 (fuel := 8) ?_ rfl rfl (by kernel_rfl) (by kernel_rfl) (by kernel_rfl) (Or.inl ⟨by rfl, ?_⟩) hSw ?_
                rotate_left
                · intro wx hSx
                  (try dsimp only at hSx)
                  go_split_ands
                  go_simp
                  (try with_reducible rfl)
                simp only [List.setIfInBounds_toArray, List.set_cons_zero, List.set_cons_succ]
                refine take_at 11 42 (fuel := 7) ?_ rfl rfl (by kernel_rfl) (by kernel_rfl) (by kernel_rfl) (Or.inl ⟨by rfl, ?_⟩) hSw ?_
                rotate_left
                · intro wx hSx
                  (try dsimp only at hSx)
                  go_split_ands
                  go_simp
                  (try with_reducible rfl)
                simp only [List.setIfInBounds_toArray, List.set_cons_zero, List.set_cons_succ]
                refine take_at 12 43 (fuel := 6) ?_ rfl rfl (by kernel_rfl) (by kernel_rfl) (by kernel_rfl) (Or.inl ⟨by rfl, ?_⟩) hSw ?_
                rotate_left
                · intro wx hSx
                  (try dsimp only at hSx)
                  go_split_ands
                  go_simp
                  (try with_reducible rfl)
                simp only [List.setIfInBounds_toArray, List.set_cons_zero, List.set_cons_succ]
                refine take_at 13 44 (fuel := 5) ?_ rfl rfl (by kernel_rfl) (by kernel_rfl) (by kernel_rfl) (Or.inl ⟨by rfl, ?_⟩) hSw ?_
                rotate_left
                · intro wx hSx
                  (try dsimp only at hSx)
                  go_split_ands
                  go_simp
                  (try with_reducible rfl)
                simp only [List.setIfInBounds_toArray, List.set_cons_zero, List.set_cons_succ]
                refine take_at 14 45 (fuel := 4) ?_ rfl rfl (by kernel_rfl) (by kernel_rfl) (by kernel_rfl) (Or.inl ⟨by rfl, ?_⟩) hSw ?_
                rotate_left
                · intro wx hSx
                  (try dsimp only at hSx)
                  go_split_ands
                  go_simp
                  (try with_reducible rfl)
                simp only [List.setIfInBounds_toArray, List.set_cons_zero, List.set_cons_succ]
                refine take_at 15 46 (fuel := 3) ?_ rfl rfl (by kernel_rfl) (by kernel_rfl) (by kernel_rfl) (Or.inl ⟨by rfl, ?_⟩) hSw ?_
                rotate_left
                · intro wx hSx
                  (try dsimp only at hSx)
                  go_split_ands
                  go_simp
                  (try with_reducible rfl)
                simp only [List.setIfInBounds_toArray, List.set_cons_zero, List.set_cons_succ]
                refine take_at 16 47 (fuel := 2) ?_ rfl rfl (by kernel_rfl) (by kernel_rfl) (by kernel_rfl) (Or.inl ⟨by rfl, ?_⟩) hSw ?_
                rotate_left
                · intro wx hSx
                  (try dsimp only at hSx)
                  go_split_ands
                  go_simp
                  (try with_reducible rfl)
                simp only [List.setIfInBounds_toArray, List.set_cons_zero, List.set_cons_succ]
                refine take_at 17 48 (fuel := 1) ?_ rfl rfl (by kernel_rfl) (by kernel_rfl) (by kernel_rfl) (Or.inl ⟨by rfl, ?_⟩) hSw ?_
                rotate_left
                · intro wx hSx
                  (try dsimp only at hSx)
                  go_split_ands
                  go_simp
                  (try with_reducible rfl)
                simp only [List.setIfInBounds_toArray, List.set_cons_zero, List.set_cons_succ]
                refine take_at 18 49 (fuel := 0) ?_ rfl rfl (by kernel_rfl) (by kernel_rfl) (by kernel_rfl) (Or.inl ⟨by rfl, ?_⟩) hSw ?_
                rotate_left
                · intro wx hSx
                  (try dsimp only at hSx)
                  go_split_ands
                  go_simp
                  (try with_reducible rfl)
                simp only [List.setIfInBounds_toArray, List.set_cons_zero, List.set_cons_succ]
                refine wpAnyH_done (by kernel_rfl) ⟨rfl, ?_⟩ 0
                clear hSw xa xb
                generalize wr.drew = wq at *
                have hbs := HBB.size
                go_wp2_with (first | (refine wpList_append_lies _ (by rfl) _ _ _ (by rfl) w1.heap.size 3 i0 _ 1 8 Tryd.underlying26 hi0 hz0 hz1 hz2 rfl (by omega) (.slice va (told P k).length vc) (told P k).length (ints (told P k)) (by rfl) (World.ownsRow.alloc hO _) ⟨wq.heap.size, 0, none⟩ 1 1 [.int .i64 (k : Int)] (by rfl) (by rfl) (World.news_of_block (cs := #[.int .i64 (k : Int)]) (t := 3) (fr := (0, 0)) (heap_alloc_new wq _)) (by simp [Value.oneCell']) (by omega) (by simp [maxLen]; omega) (by omega) (by simp; omega) (wq.heap.size + 1) (by simp) ?_; intro gg cp w30 hown3 hgrow hat hlt3))
                have hO3 := Own.snoc hown3
                have hB3 : Below w1.heap.size w1 w30 := (HBB.alloc HBB.size (.cells #[.int .i64 (k : Int)] 3)).trans ⟨hgrow.os, hgrow.tape, hgrow.output, hgrow.size, fun i hi => hgrow.block i (by have := HBB.size; simp; omega) (fun e => by have := (Own.lt hO i e.symm).1; omega)⟩
                have hT1 := told_yes (p := P) HP.out
                rw [← hT1] at hO3
                go_roundw
                case rel => exact ⟨k + 1, _, by omega, rfl, ⟨rfl, hO3⟩, hB3⟩
                case measure => simp [intOf]; omega
            · have hno : ¬ (16 = 16 ∧ ny = 16) := fun e => h2 e.2
              have HP := Lib.hid (show P k = true by rw [HPK.out, decide_eq_true (Or.inl hno)])
              clear hno
              have f2 : ((ny : Int) != 16) = true := by simp; omega
              go_upto_region 10 with (fail)
              refine region_only 19 #[false, false, false, false, false, false, false, false, false, false, false, false, false, false, false, false, false, false, false] (S := (fun _ => True)) rfl rfl (by kernel_rfl) trivial (fun hSw => ?_)
              refine take_at 0 31 (fuel := 18) ?_ rfl rfl (by kernel_rfl) (by kernel_rfl) (by kernel_rfl) (Or.inl ⟨by rfl, ?_⟩) hSw ?_
              rotate_left
              · intro wx hSx
                (try dsimp only at hSx)
                go_split_ands
                go_simp
                (try with_reducible rfl)
              simp only [List.setIfInBounds_toArray, List.set_cons_zero, List.set_cons_succ]
              refine take_at 1 32 (fuel := 17) ?_ rfl rfl (by kernel_rfl) (by kernel_rfl) (by kernel_rfl) (Or.inl ⟨by rfl, ?_⟩) hSw ?_
              rotate_left
              · intro wx hSx
                (try dsimp only at hSx)
                go_split_ands
                go_simp
                (try with_reducible rfl)
              simp only [List.setIfInBounds_toArray, List.set_cons_zero, List.set_cons_succ]
              refine take_at 2 33 (fuel := 16) ?_ rfl rfl (by kernel_rfl) (by kernel_rfl) (by kernel_rfl) (Or.inl ⟨by rfl, ?_⟩) hSw ?_
              rotate_left
              · intro wx hSx
                (try dsimp only at hSx)
                go_split_ands
                go_simp
                (try with_reducible rfl)
              simp only [List.setIfInBounds_toArray, List.set_cons_zero, List.set_cons_succ]
              refine take_at 3 34 (fuel := 15) ?_ rfl rfl (by kernel_rfl) (by kernel_rfl) (by kernel_rfl) (Or.inl ⟨by rfl, ?_⟩) hSw ?_
              rotate_left
              · intro wx hSx
                (try dsimp only at hSx)
                go_split_ands
                go_simp
                (try with_reducible rfl)
              simp only [List.setIfInBounds_toArray, List.set_cons_zero, List.set_cons_succ]
              refine take_at 4 35 (fuel := 14) ?_ rfl rfl (by kernel_rfl) (by kernel_rfl) (by kernel_rfl) (Or.inl ⟨by rfl, ?_⟩) hSw ?_
              rotate_left
              · intro wx hSx
                (try dsimp only at hSx)
                go_split_ands
                go_simp
                (try with_reducible rfl)
              simp only [List.setIfInBounds_toArray, List.set_cons_zero, List.set_cons_succ]
              refine take_at 5 36 (fuel := 13) ?_ rfl rfl (by kernel_rfl) (by kernel_rfl) (by kernel_rfl) (Or.inl ⟨by rfl, ?_⟩) hSw ?_
              rotate_left
              · intro wx hSx
                (try dsimp only at hSx)
                go_split_ands
                go_simp
                (try with_reducible rfl)
              simp only [List.setIfInBounds_toArray, List.set_cons_zero, List.set_cons_succ]
              refine take_at 6 37 (fuel := 12) ?_ rfl rfl (by kernel_rfl) (by kernel_rfl) (by kernel_rfl) (Or.inl ⟨by rfl, ?_⟩) hSw ?_
              rotate_left
              · intro wx hSx
                (try dsimp only at hSx)
                go_split_ands
                go_simp
                (try with_reducible rfl)
              simp only [List.setIfInBounds_toArray, List.set_cons_zero, List.set_cons_succ]
              refine take_at 7 38 (fuel := 11) ?_ rfl rfl (by kernel_rfl) (by kernel_rfl) (by kernel_rfl) (Or.inl ⟨by rfl, ?_⟩) hSw ?_
              rotate_left
              · intro wx hSx
                (try dsimp only at hSx)
                go_split_ands
                go_simp
                (try with_reducible rfl)
              simp only [List.setIfInBounds_toArray, List.set_cons_zero, List.set_cons_succ]
              refine take_at 8 39 (fuel := 10) ?_ rfl rfl (by kernel_rfl) (by kernel_rfl) (by kernel_rfl) (Or.inl ⟨by rfl, ?_⟩) hSw ?_
              rotate_left
              · intro wx hSx
                (try dsimp only at hSx)
                go_split_ands
                go_simp
                (try with_reducible rfl)
              simp only [List.setIfInBounds_toArray, List.set_cons_zero, List.set_cons_succ]
              refine take_at 9 40 undef (fuel := 9) rfl rfl (by kernel_rfl) (by kernel_rfl) (by kernel_rfl) (Or.inr ⟨by rfl, rfl⟩) hSw ?_
              simp only [List.setIfInBounds_toArray, List.set_cons_zero, List.set_cons_succ]
              refine take_at 10 41 undef (fuel := 8) rfl rfl (by kernel_rfl) (by kernel_rfl) (by kernel_rfl) (Or.inr ⟨by rfl, rfl⟩) hSw ?_
              simp only [List.setIfInBounds_toArray, List.set_cons_zero, List.set_cons_succ]
              refine take_at 11 42 undef (fuel := 7) rfl rfl (by kernel_rfl) (by kernel_rfl) (by kernel_rfl) (Or.inr ⟨by rfl, rfl⟩) hSw ?_
              simp only [List.setIfInBounds_toArray, List.set_cons_zero, List.set_cons_succ]
              refine take_at 12 43 undef (fuel := 6) rfl rfl (by kernel_rfl) (by kernel_rfl) (by kernel_rfl) (Or.inr ⟨by rfl, rfl⟩) hSw ?_
              simp only [List.setIfInBounds_toArray, List.set_cons_zero, List.set_cons_succ]
              refine take_at 13 44 undef (fuel := 5) rfl rfl (by kernel_rfl) (by kernel_rfl) (by kernel_rfl) (Or.inr ⟨by rfl, rfl⟩) hSw ?_
              simp only [List.setIfInBounds_toArray, List.set_cons_zero, List.set_cons_succ]
              refine take_at 14 45 undef (fuel := 4) rfl rfl (by kernel_rfl) (by kernel_rfl) (by kernel_rfl) (Or.inr ⟨by rfl, rfl⟩) hSw ?_
              simp only [List.setIfInBounds_toArray, List.set_cons_zero, List.set_cons_succ]
              refine take_at 15 46 undef (fuel := 3) rfl rfl (by kernel_rfl) (by kernel_rfl) (by kernel_rfl) (Or.inr ⟨by rfl, rfl⟩) hSw ?_
              simp only [List.setIfInBounds_toArray, List.set_cons_zero, List.set_cons_succ]
              refine take_at 16 47 undef (fuel := 2) rfl rfl (by kernel_rfl) (by kernel_rfl) (by kernel_rfl) (Or.inr ⟨by rfl, rfl⟩) hSw ?_
              simp only [List.setIfInBounds_toArray, List.set_cons_zero, List.set_cons_succ]
              refine take_at 17 48 undef (fuel := 1) rfl rfl (by kernel_rfl) (by kernel_rfl) (by kernel_rfl) (Or.inr ⟨by rfl, rfl⟩) hSw ?_
              simp only [List.setIfInBounds_toArray, List.set_cons_zero, List.set_cons_succ]
              refine take_at 18 49 (fuel := 0) ?_ rfl rfl (by kernel_rfl) (by kernel_rfl) (by kernel_rfl) (Or.inl ⟨by rfl, ?_⟩) hSw ?_
              rotate_left
              · intro wx hSx
                (try dsimp only at hSx)
                go_split_ands
                go_simp
                (try with_reducible rfl)
              simp only [List.setIfInBounds_toArray, List.set_cons_zero, List.set_cons_succ]
              refine wpAnyH_done (by kernel_rfl) ⟨rfl, ?_⟩ 0
              clear hSw
              generalize wr.drew = wq at *
              have hbs := HBB.size
              go_wp2_with (first | (refine wpList_append_lies _ (by rfl) _ _ _ (by rfl) w1.heap.size 3 i0 _ 1 8 Tryd.underlying26 hi0 hz0 hz1 hz2 rfl (by omega) (.slice va (told P k).length vc) (told P k).length (ints (told P k)) (by rfl) (World.ownsRow.alloc hO _) ⟨wq.heap.size, 0, none⟩ 1 1 [.int .i64 (k : Int)] (by rfl) (by rfl) (World.news_of_block (cs := #[.int .i64 (k : Int)]) (t := 3) (fr := (0, 0)) (heap_alloc_new wq _)) (by simp [Value.oneCell']) (by omega) (by simp [maxLen]; omega) (by omega) (by simp; omega) (wq.heap.size + 1) (by simp) ?_; intro gg cp w30 hown3 hgrow hat hlt3))
              have hO3 := Own.snoc hown3
              have hB3 : Below w1.heap.size w1 w30 := (HBB.alloc HBB.size (.cells #[.int .i64 (k : Int)] 3)).trans ⟨hgrow.os, hgrow.tape, hgrow.output, hgrow.size, fun i hi => hgrow.block i (by have := HBB.size; simp; omega) (fun e => by have := (Own.lt hO i e.symm).1; omega)⟩
              have hT1 := told_yes (p := P) HP.out
              rw [← hT1] at hO3
              go_roundw
              case rel => exact ⟨k + 1, _, by omega, rfl, ⟨rfl, hO3⟩, hB3⟩
              case measure => simp [intOf]; omega
          · have hno : ¬ (nx = 16 ∧ ny = 16) := fun e => h1 e.1
            have HP := Lib.hid (show P k = true by rw [HPK.out, decide_eq_true (Or.inl hno)])
            clear hno
            have f2 : ((nx : Int) != 16) = true := by simp; omega
            go_upto_region 10 with (fail)
            refine region_only 19 #[false, false, false, false, false, false, false, false, false, false, false, false, false, false, false, false, false, false, false] (S := (fun _ => True)) rfl rfl (by kernel_rfl) trivial (fun hSw => ?_)
            refine take_at 0 31 (fuel := 18) ?_ rfl rfl (by kernel_rfl) (by kernel_rfl) (by kernel_rfl) (Or.inl ⟨by rfl, ?_⟩) hSw ?_
            rotate_left
            · intro wx hSx
              (try dsimp only at hSx)
              go_split_ands
              go_simp
              (try with_reducible rfl)
            simp only [List.setIfInBounds_toArray, List.set_cons_zero, List.set_cons_succ]
            refine take_at 1 32 (fuel := 17) ?_ rfl rfl (by kernel_rfl) (by kernel_rfl) (by kernel_rfl) (Or.inl ⟨by rfl, ?_⟩) hSw ?_
            rotate_left
            · intro wx hSx
              (try dsimp only at hSx)
              go_split_ands
              go_simp
              (try with_reducible rfl)
            simp only [List.setIfInBounds_toArray, List.set_cons_zero, List.set_cons_succ]
            refine take_at 2 33 (fuel := 16) ?_ rfl rfl (by kernel_rfl) (by kernel_rfl) (by kernel_rfl) (Or.inl ⟨by rfl, ?_⟩) hSw ?_
            rotate_left
            · intro wx hSx
              (try dsimp only at hSx)
              go_split_ands
              go_simp
              (try with_reducible rfl)
            simp only [List.setIfInBounds_toArray, List.set_cons_zero, List.set_cons_succ]
            refine take_at 3 34 (fuel := 15) ?_ rfl rfl (by kernel_rfl) (by kernel_rfl) (by kernel_rfl) (Or.inl ⟨by rfl, ?_⟩) hSw ?_
            rotate_left
            · intro wx hSx
              (try dsimp only at hSx)
              go_split_ands
              go_simp
              (try with_reducible rfl)
            simp only [List.setIfInBounds_toArray, List.set_cons_zero, List.set_cons_succ]
            refine take_at 4 35 undef (fuel := 14) rfl rfl (by kernel_rfl) (by kernel_rfl) (by kernel_rfl) (Or.inr ⟨by rfl, rfl⟩) hSw ?_
            simp only [List.setIfInBounds_toArray, List.set_cons_zero, List.set_cons_succ]
            refine take_at 5 36 undef (fuel := 13) rfl rfl (by kernel_rfl) (by kernel_rfl) (by kernel_rfl) (Or.inr ⟨by rfl, rfl⟩) hSw ?_
            simp only [List.setIfInBounds_toArray, List.set_cons_zero, List.set_cons_succ]
            refine take_at 6 37 undef (fuel := 12) rfl rfl (by kernel_rfl) (by kernel_rfl) (by kernel_rfl) (Or.inr ⟨by rfl, rfl⟩) hSw ?_
            simp only [List.setIfInBounds_toArray, List.set_cons_zero, List.set_cons_succ]
            refine take_at 7 38 (fuel := 11) ?_ rfl rfl (by kernel_rfl) (by kernel_rfl) (by kernel_rfl) (Or.inl ⟨by rfl, ?_⟩) hSw ?_
            rotate_left
            · intro wx hSx
              (try dsimp only at hSx)
              go_split_ands
              go_simp
              (try with_reducible rfl)
            simp only [List.setIfInBounds_toArray, List.set_cons_zero, List.set_cons_succ]
            refine take_at 8 39 (fuel := 10) ?_ rfl rfl (by kernel_rfl) (by kernel_rfl) (by kernel_rfl) (Or.inl ⟨by rfl, ?_⟩) hSw ?_
            rotate_left
            · intro wx hSx
              (try dsimp only at hSx)
              go_split_ands
              go_simp
              (try with_reducible rfl)
            simp only [List.setIfInBounds_toArray, List.set_cons_zero, List.set_cons_succ]
            refine take_at 9 40 undef (fuel := 9) rfl rfl (by kernel_rfl) (by kernel_rfl) (by kernel_rfl) (Or.inr ⟨by rfl, rfl⟩) hSw ?_
            simp only [List.setIfInBounds_toArray, List.set_cons_zero, List.set_cons_succ]
            refine take_at 10 41 undef (fuel := 8) rfl rfl (by kernel_rfl) (by kernel_rfl) (by kernel_rfl) (Or.inr ⟨by rfl, rfl⟩) hSw ?_
            simp only [List.setIfInBounds_toArray, List.set_cons_zero, List.set_cons_succ]
            refine take_at 11 42 undef (fuel := 7) rfl rfl (by kernel_rfl) (by kernel_rfl) (by kernel_rfl) (Or.inr ⟨by rfl, rfl⟩) hSw ?_
            simp only [List.setIfInBounds_toArray, List.set_cons_zero, List.set_cons_succ]
            refine take_at 12 43 undef (fuel := 6) rfl rfl (by kernel_rfl) (by kernel_rfl) (by kernel_rfl) (Or.inr ⟨by rfl, rfl⟩) hSw ?_
            simp only [List.setIfInBounds_toArray, List.set_cons_zero, List.set_cons_succ]
            refine take_at 13 44 undef (fuel := 5) rfl rfl (by kernel_rfl) (by kernel_rfl) (by kernel_rfl) (Or.inr ⟨by rfl, rfl⟩) hSw ?_
            simp only [List.setIfInBounds_toArray, List.set_cons_zero, List.set_cons_succ]
            refine take_at 14 45 undef (fuel := 4) rfl rfl (by kernel_rfl) (by kernel_rfl) (by kernel_rfl) (Or.inr ⟨by rfl, rfl⟩) hSw ?_
            simp only [List.setIfInBounds_toArray, List.set_cons_zero, List.set_cons_succ]
            refine take_at 15 46 undef (fuel := 3) rfl rfl (by kernel_rfl) (by kernel_rfl) (by kernel_rfl) (Or.inr ⟨by rfl, rfl⟩) hSw ?_
            simp only [List.setIfInBounds_toArray, List.set_cons_zero, List.set_cons_succ]
            refine take_at 16 47 undef (fuel := 2) rfl rfl (by kernel_rfl) (by kernel_rfl) (by kernel_rfl) (Or.inr ⟨by rfl, rfl⟩) hSw ?_
            simp only [List.setIfInBounds_toArray, List.set_cons_zero, List.set_cons_succ]
            refine take_at 17 48 undef (fuel := 1) rfl rfl (by kernel_rfl) (by kernel_rfl) (by kernel_rfl) (Or.inr ⟨by rfl, rfl⟩) hSw ?_
            simp only [List.setIfInBounds_toArray, List.set_cons_zero, List.set_cons_succ]
            refine take_at 18 49 (fuel := 0) ?_ rfl rfl (by kernel_rfl) (by kernel_rfl) (by kernel_rfl) (Or.inl ⟨by rfl, ?_⟩) hSw ?_
            rotate_left
            · intro wx hSx
              (try dsimp only at hSx)
              go_split_ands
              go_simp
              (try with_reducible rfl)
            simp only [List.setIfInBounds_toArray, List.set_cons_zero, List.set_cons_succ]
            refine wpAnyH_done (by kernel_rfl) ⟨rfl, ?_⟩ 0
            clear hSw
            generalize wr.drew = wq at *
            have hbs := HBB.size
            go_wp2_with (first | (refine wpList_append_lies _ (by rfl) _ _ _ (by rfl) w1.heap.size 3 i0 _ 1 8 Tryd.underlying26 hi0 hz0 hz1 hz2 rfl (by omega) (.slice va (told P k).length vc) (told P k).length (ints (told P k)) (by rfl) (World.ownsRow.alloc hO _) ⟨wq.heap.size, 0, none⟩ 1 1 [.int .i64 (k : Int)] (by rfl) (by rfl) (World.news_of_block (cs := #[.int .i64 (k : Int)]) (t := 3) (fr := (0, 0)) (heap_alloc_new wq _)) (by simp [Value.oneCell']) (by omega) (by simp [maxLen]; omega) (by omega) (by simp; omega) (wq.heap.size + 1) (by simp) ?_; intro gg cp w30 hown3 hgrow hat hlt3))
            have hO3 := Own.snoc hown3
            have hB3 : Below w1.heap.size w1 w30 := (HBB.alloc HBB.size (.cells #[.int .i64 (k : Int)] 3)).trans ⟨hgrow.os, hgrow.tape, hgrow.output, hgrow.size, fun i hi => hgrow.block i (by have := HBB.size; simp; omega) (fun e => by have := (Own.lt hO i e.symm).1; omega)⟩
            have hT1 := told_yes (p := P) HP.out
            rw [← hT1] at hO3
            go_roundw
            case rel => exact ⟨k + 1, _, by omega, rfl, ⟨rfl, hO3⟩, hB3⟩
            case measure => simp [intOf]; omega
        · obtain rfl : k = 16 := by omega
          have hlt : ¬ ((16 : Int) < 16) := by omega
          have hG3 := HG.out.below (HB1.out.trans (hb.mono HB1.out.size))
          have hw3 := HB1.out.trans (hb.mono HB1.out.size)
          have hOg : Own wr w.heap.size (.slice ga (told P 16).length gc) (told P 16) := World.ownsRow.kept (row := none) HO0.out ⟨hb.os, hb.tape, hb.output, hb.size, fun k hk _ => hb.block k hk⟩ (by cases (Value.slice ga (told P 16).length gc).ownBlock <;> simp)
          have HW3 := Lib.hid hw3
          have HOG := Lib.hid hOg
          have HO := Lib.hid hO
          clear hb hw3 hOg hO HPK HX HY HO0 HB1
          generalize hLe : told P 16 = L at *
          clear hLe
          go_wp2_with fail
          refine (awake_c _ hG3).mono ?_
          rintro e w4 ⟨rfl, hb4⟩
          have hOg := HOG.out.below hb4
          have hO := HO.out.below hb4
          have hB4 := HW3.out.trans (hb4.mono HW3.out.size)
          clear hb4 hG3 HW3 HOG HO
          go_wp2_with fail
          go_loopw [10] (fun s wr => ∃ j : Nat, j ≤ L.length ∧ s = .int .i64 j ∧ Own wr w.heap.size (.slice ga L.length gc) L ∧ Own wr w1.heap.size (.slice va L.length vc) L ∧ Below w.heap.size w wr) (fun s _ => L.length - (intOf s).toNat)
          case atStart => exact ⟨0, by omega, rfl, hOg, hO, hB4⟩
          case round =>
            clear hOg hO hB4
            obtain ⟨j, hj, rfl, hOg, hO, hB⟩ := hrel
            by_cases hjl : j < L.length
            · have hlt2 : (j : Int) < (L.length : Int) := by omega
              obtain ⟨x, hx⟩ : ∃ x, L[j]? = some x := ⟨_, List.getElem?_eq_getElem hjl⟩
              obtain ⟨g1, rfl, c1⟩ := Own.at_ hOg hx
              obtain ⟨g2, rfl, c2⟩ := Own.at_ hO hx
              have HOG := Lib.hid (hOg.below (Below.drew (Below.refl _ wr)))
              have HO := Lib.hid (hO.below (Below.drew (Below.refl _ wr)))
              have HB5 := Lib.hid hB.drew
              have d1 : wr.drew.cell? ⟨g1, j, none⟩ = some (.int .i64 (x : Int)) := c1
              have d2 : wr.drew.cell? ⟨g2, j, none⟩ = some (.int .i64 (x : Int)) := c2
              clear hOg hO hB hx c1 c2
              go_upto_region 17 with (fail)
              refine region_only 9 #[false, false, false, false, false, false, false, false, false] (S := (fun W => W.cell? ⟨g1, j, none⟩ = some (.int .i64 (x : Int)) ∧ W.cell? ⟨g2, j, none⟩ = some (.int .i64 (x : Int)))) rfl rfl (by kernel_rfl) ⟨d1, d2⟩ (fun hSw => ?_)
              refine take_at 0 69 (fuel := 8) ?_ rfl rfl (by kernel_rfl) (by kernel_rfl) (by kernel_rfl) (Or.inl ⟨by rfl, ?_⟩) hSw ?_
              rotate_left
              · intro wx hSx
                (try dsimp only at hSx)
                go_split_ands
                go_simp
                (try with_reducible rfl)
              simp only [List.setIfInBounds_toArray, List.set_cons_zero, List.set_cons_succ]
              refine take_at 1 70 (fuel := 7) ?_ rfl rfl (by kernel_rfl) (by kernel_rfl) (by kernel_rfl) (Or.inl ⟨by rfl, ?_⟩) hSw ?_
              rotate_left
              · intro wx hSx
                (try dsimp only at hSx)
                go_split_ands
                go_simp
                (try with_reducible rfl)
              simp only [List.setIfInBounds_toArray, List.set_cons_zero, List.set_cons_succ]
              refine take_at 2 71 (fuel := 6) ?_ rfl rfl (by kernel_rfl) (by kernel_rfl) (by kernel_rfl) (Or.inl ⟨by rfl, ?_⟩) hSw ?_
              rotate_left
              · intro wx hSx
                (try dsimp only at hSx)
                go_split_ands
                go_simp
                (try with_reducible rfl)
              simp only [List.setIfInBounds_toArray, List.set_cons_zero, List.set_cons_succ]
              refine take_at 3 72 (fuel := 5) ?_ rfl rfl (by kernel_rfl) (by kernel_rfl) (by kernel_rfl) (Or.inl ⟨by rfl, ?_⟩) hSw ?_
              rotate_left
              · intro wx hSx
                (try dsimp only at hSx)
                go_split_ands
                go_simp
                (try with_reducible rfl)
              simp only [List.setIfInBounds_toArray, List.set_cons_zero, List.set_cons_succ]
              refine take_at 4 73 (fuel := 4) ?_ rfl rfl (by kernel_rfl) (by kernel_rfl) (by kernel_rfl) (Or.inl ⟨by rfl, ?_⟩) hSw ?_
              rotate_left
              · intro wx hSx
                (try dsimp only at hSx)
                go_split_ands
                go_simp
                (try with_reducible rfl)
              simp only [List.setIfInBounds_toArray, List.set_cons_zero, List.set_cons_succ]
              refine take_at 5 74 (fuel := 3) ?_ rfl rfl (by kernel_rfl) (by kernel_rfl) (by kernel_rfl) (Or.inl ⟨by rfl, ?_⟩) hSw ?_
              rotate_left
              · intro wx hSx
                (try dsimp only at hSx)
                go_split_ands
                go_simp
                (try with_reducible rfl)
              simp only [List.setIfInBounds_toArray, List.set_cons_zero, List.set_cons_succ]
              refine take_at 6 75 (fuel := 2) ?_ rfl rfl (by kernel_rfl) (by kernel_rfl) (by kernel_rfl) (Or.inl ⟨by rfl, ?_⟩) hSw ?_
              rotate_left
              · intro wx hSx
                (try dsimp only at hSx)
                go_split_ands
                go_simp
                (try with_reducible rfl)
              simp only [List.setIfInBounds_toArray, List.set_cons_zero, List.set_cons_succ]
              refine take_at 7 76 (fuel := 1) ?_ rfl rfl (by kernel_rfl) (by kernel_rfl) (by kernel_rfl) (Or.inl ⟨by rfl, ?_⟩) hSw ?_
              rotate_left
              · intro wx hSx
                (try dsimp only at hSx)
                go_split_ands
                go_simp
                (try with_reducible rfl)
              simp only [List.setIfInBounds_toArray, List.set_cons_zero, List.set_cons_succ]
              refine take_at 8 77 (fuel := 0) ?_ rfl rfl (by kernel_rfl) (by kernel_rfl) (by kernel_rfl) (Or.inl ⟨by rfl, ?_⟩) hSw ?_
              rotate_left
              · intro wx hSx
                (try dsimp only at hSx)
                go_split_ands
                go_simp
                (try with_reducible rfl)
              simp only [List.setIfInBounds_toArray, List.set_cons_zero, List.set_cons_succ]
              refine wpAnyH_done (by kernel_rfl) ⟨rfl, ?_⟩ 0
              clear hSw d1 d2
              go_wp2_with fail
              go_roundw
              case rel => exact ⟨j + 1, by omega, rfl, HOG.out, HO.out, HB5.out⟩
              case measure => simp [intOf]; omega
            · obtain rfl : j = L.length := by omega
              have hlt2 : ¬ ((L.length : Int) < (L.length : Int)) := by omega
              go_wp2_with fail
              go_ret
              exact ⟨rfl, hB⟩

set_option linter.unusedVariables false in
set_option maxRecDepth 100000 in
theorem bucketLists_lifted (os : Os) (started : os.Started) (H : Type) (enc : TypeId × Value → H) :
    ReturnsInHanded {} Tryd.checked os 4 .any (fun w args => (Rows.bucketListsSpec.pre enc Tryd.prog Tryd.f4 [] false w args ∧ laidMetH Tryd.prog laidAll w) ∧ sizedMet enc Tryd.prog Tryd.f4 (OpenSpec.ofChange Rows.bucketListsSpec) false w args) (Rows.bucketListsSpec.post enc Tryd.prog Tryd.f4 false true false false) := by
  refine returnsInHanded_of_change_and (C := Tryd.checked) (X := fun w _ => laidMetH Tryd.prog laidAll w) (fun _ _ _ hh h => h.of_heap hh) Kit.own started (by kernel_rfl) Tryd.func4
    (ChangeSpec.witness_shaped (enc := enc) (C := Tryd.checked) (os := os) (X := fun w _ => laidMetH Tryd.prog laidAll w) false (World.doorLaid Tryd.prog 400 os) #[.slice none 0 0, .slice none 0 0] 8 rfl (World.shaped_of_RefB (by kernel_rfl) (by kernel_rfl)) (by kernel_rfl) (by kernel_rfl) (by kernel_rfl) (door_met os _)) ?_
  intro W base args ds gs before hval0 hW _ _ hL _
  have hval : ∀ (j : Nat) t v, Tryd.f4.params[j]? = some t → args[j]? = some v → Value.okWide Tryd.prog W .any base t v := hval0
  have hW' := hW
  obtain ⟨p, q, hA0, hV, rfl, hfz, hnd⟩ := hW
  have hA : DataW.TrodAll enc Tryd.prog W 0 (fun _ => true) true Tryd.f4.params.toList args.toList ds p := hA0
  rw [Tryd.params4] at hA hval
  obtain ⟨v0, vs0, d0, ds0, p0, q0, hargs, rfl, rfl, h0, r0⟩ := trodAll_cons hA
  obtain ⟨v1, vs1, d1, ds1, p1, q1, rfl, rfl, rfl, h1, r1⟩ := trodAll_cons r0
  obtain ⟨rfl, rfl, rfl⟩ := trodAll_nil r1
  obtain ⟨rfl, rfl⟩ := trodVars_none hV
  obtain rfl : args = #[v0, v1] := by cases args; simp_all
  obtain ⟨b0, c0, e0, rfl⟩ := okWide_slice Tryd.underlying25 (hval 0 25 v0 rfl rfl)
  obtain ⟨fuel0, hf0⟩ := h0
  obtain ⟨ao0, len0, cap0, sb0, off0, X0, hv0, hI0, hC0⟩ := open_textsC (show DataW.trod enc Tryd.prog W 0 (fun _ => true) true fuel0 25 [.slice b0 c0 e0] = some _ from hf0)
  injection hv0 with hv0x hv0y hv0z
  subst hv0x hv0y hv0z
  obtain ⟨b1, c1, e1, rfl⟩ := okWide_slice Tryd.underlying25 (hval 1 25 v1 rfl rfl)
  obtain ⟨fuel1, hf1⟩ := h1
  obtain ⟨ao1, len1, cap1, sb1, off1, X1, hv1, hI1, hC1⟩ := open_textsC (show DataW.trod enc Tryd.prog W 0 (fun _ => true) true fuel1 25 [.slice b1 c1 e1] = some _ from hf1)
  injection hv1 with hv1x hv1y hv1z
  subst hv1x hv1y hv1z
  clear hA0 hval0
  refine (bucketLists_walk _ _ _ _ _ _ _ _ _ _ _ _ W hI0 hC0 hI1 hC1 (glob_of hL)).mono fun e W' ⟨he, hg⟩ => ?_
  subst he
  exact ⟨_, rfl, Kit.law_post hW' rfl (by kernel_rfl) rfl (by kernel_rfl) hg⟩

theorem bucketLists_holds : Rows.BucketListsSaid :=
  OpenClaim.holds_of_wide 4 Tryd.f4 rfl rfl rfl rfl rfl rfl rfl ⟨rfl, rfl, rfl, rfl, rfl⟩ rfl rfl rfl rfl rfl (by kernel_rfl) Tryd.func4 (by kernel_rfl)
    (of_decide_eq_true (by kernel_rfl)) (by unfold Func.isWrapper; first | (rw [if_pos (by decide +kernel)]; kernel_rfl) | (rw [if_neg (by decide +kernel)]; exact ⟨rfl, rfl⟩))
    (fun os started H enc _ => bucketLists_lifted os started H enc)

theorem bucketLists_card : Rows.BucketListsCardSaid :=
  Claim7.holds_tied_plain_at .later [] Rows.bucketListsCard.laidKinds true Rows.bucketListsCard.stood.harness Rows.bucketListsCard.stood.looks
    bucketLists_holds (fun _ h => by cases h) (by kernel_rfl) (fun _ h => by cases h) bucketLists_row_tie rfl ⟨rfl, rfl⟩ (by kernel_rfl) rfl
    (fun f fn hf hfn => by
      obtain rfl : f = 4 := Option.some.inj ((show Tryd.prog.funcNamed "hawthorn/hawthornlaw15.BucketLists" = some 4 by kernel_rfl).symm.trans hf) |>.symm
      obtain rfl : fn = Tryd.f4 := (Option.some.inj (Tryd.func4.symm.trans hfn)).symm
      exact ⟨by kernel_rfl, fun j t ht => by
        rw [Tryd.params4] at ht
        have hm : t ∈ [25, 25] := by simpa using Array.mem_of_getElem? ht
        have hall : ([25, 25].all fun u => !Tryd.prog.wantsStandIn u) = true := by kernel_rfl
        exact (show Tryd.prog.wantsStandIn t = false by simpa using List.all_eq_true.1 hall t hm)⟩)
    (by kernel_rfl)

end Go.Proofs.YteopkdmlcjndcaaDoor.Bucky
