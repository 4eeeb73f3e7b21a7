/- Layer 5 (sketch): for every input the call returns true and leaves what it was given as it was: until it ages a key is never said to be seen less often than it was, up to sixteen times (SketchLeast). No condition. -/
import Derived.Test.YtlimoelknmbcgaaKit
import Derived.Test.YtlimoelknmbcgaaTexts
import Derived.Test.YtlimoelknmbcgaaSketchRuns
namespace Go.Proofs.Ytlimoelknmbcgaa.Sketchy
open Go.ChangeShapes Go.WideShapes Go.ChangeAt Go.RowKit Go.ChangeMaps
open Wirey (Blk Row str str_size str_list str_of str_take str_inj Kp Texts)

set_option maxHeartbeats 4000000 in
set_option maxRecDepth 100000 in
theorem sketchLeast_walk (a0 : Int) (w0 : (Lit.int .u64 a0).wf = true) (ao : Option Addr) (n cap sb off : Nat) (T : Nat → List UInt8) (w : World) (ht : Texts w ao n sb off T) (a2 : ByteArray) (w2 : a2.size ≤ maxLen) :
    Calls Try.prog 5 #[.int .u64 a0, .slice ao n cap, .string a2] w fun e w' => e = .returned (.bool true) ∧ Below w.heap.size w w' := by
  obtain ⟨key, rfl⟩ : ∃ l, a2 = str l := ⟨_, str_of a2⟩
  rw [str_size] at w2
  have hb0 := bounds_u64 w0
  obtain ⟨seed, rfl⟩ : ∃ k : Nat, a0 = (k : Int) := ⟨a0.toNat, by omega⟩
  have h3 : seed < 18446744073709551616 := by omega
  have hn63 := ht.n63
  go_enter Try.func5, Try.ntmps5
  go_wp2_with fail
  refine (new_c (n := 64) (seed := seed) (by omega) (by omega) _).mono ?_
  rintro e v1 ⟨rfl, hA, hb1, -⟩
  go_wp2_with fail
  refine (awake_c _).mono ?_
  rintro e v2 ⟨rfl, hb2⟩
  have hA2 := hA.below hb2 hA.lt
  have hB2 := hb1.trans (hb2.mono hb1.size)
  clear hA hb1 hb2 hb0 w0
  go_wp2_with fail
  go_loopw [9, 10] (fun m i wr => ∃ j : Nat, j ≤ n ∧ j ≤ 300 ∧ i = .int .i64 j ∧ m = .int .i64 (times T key j) ∧ At wr w.heap.size (runs 64 seed T j) ∧ Below w.heap.size w wr) (fun _ i _ => 300 - (intOf i).toNat)
  case atStart => exact ⟨0, by omega, by omega, rfl, rfl, hA2, hB2⟩
  case round =>
    obtain ⟨j, hj, hj3, rfl, rfl, hU, hW⟩ := hrel
    have htl := times_le (T := T) key j
    have hwt := ht.below hW (fun h => ht.lt h)
    by_cases hin : j < n ∧ j < 300
    · obtain ⟨h1, h2⟩ := hin
      have hao := ht.ao (by omega)
      subst hao
      have hcell := hwt.cell j h1
      have hsize := ht.size j h1
      have d1 : decide ((j : Int) < (n : Int)) = true := decide_eq_true (by omega)
      have d2 : decide ((j : Int) < 300) = true := decide_eq_true (by omega)
      go_wp2_with fail
      refine (few_c _ hsize _).mono ?_
      rintro e w' ⟨rfl, rfl⟩
      go_wp2_with fail
      refine (add_run (T := T) (by omega) (by omega) h3 j _ hU).mono ?_
      rintro e w4 ⟨rfl, hU4, hK4⟩
      have hB4 := hW.trans (six_below hK4 (Nat.le_refl _) hW.size)
      have hcell4 := (ht.below hB4 (fun h => ht.lt h)).cell j h1
      go_wp2_with fail
      refine (few_c _ hsize _).mono ?_
      rintro e w' ⟨rfl, rfl⟩
      go_wp2_with fail
      refine (few_c key w2 _).mono ?_
      rintro e w' ⟨rfl, rfl⟩
      by_cases e : fewL (T j) = fewL key
      · have htl := Wirey.toList_str
        have hs2 : (fewL (T j) == fewL key) = true := beq_iff_eq.2 e
        have htj : times T key (j + 1) = times T key j + 1 := by rw [times, if_pos e]
        have HT := Lib.hid htj
        clear e htj
        go_wp2_with fail
        go_roundw
        case rel => exact ⟨j + 1, by omega, by omega, rfl, by rw [HT.out]; rfl, hU4, hB4⟩
        case measure => simp [intOf]; omega
      · have htl := Wirey.toList_str
        have hs2 : (fewL (T j) == fewL key) = false := beq_eq_false_iff_ne.2 e
        have htj : times T key (j + 1) = times T key j := by rw [times, if_neg e]; rfl
        have HT := Lib.hid htj
        clear e htj
        go_wp2_with fail
        go_roundw
        case rel => exact ⟨j + 1, by omega, by omega, rfl, by rw [HT.out], hU4, hB4⟩
        case measure => simp [intOf]; omega
    · have hfin := runs_seen (T := T) (wide := 64) (by omega) (by omega) h3 key (i := j) (by omega)
      have h0 : ¬ ((j : Int) < (n : Int) ∧ (j : Int) < 300) := by omega
      by_cases h1 : j < n
      · have d1 : decide ((j : Int) < (n : Int)) = true := decide_eq_true (by omega)
        have d2 : decide ((j : Int) < 300) = false := decide_eq_false (by omega)
        by_cases h16 : 16 < times T key j
        · have h17 : (16 : Int) < (times T key j : Int) := by omega
          go_wp2_with fail
          refine (few_c key w2 _).mono ?_
          rintro e w' ⟨rfl, rfl⟩
          go_wp2_with fail
          refine (seen_run (T := T) (by omega) (by omega) h3 j key _ hU).mono ?_
          rintro e w' ⟨rfl, m, rfl⟩
          have hd : decide ((16 : Int) ≤ ((runs 64 seed T j).seen (keyOf seed 64 key) : Int)) = true := decide_eq_true (by omega)
          go_wp2_with fail
          go_ret
          exact ⟨rfl, hW.os, hW.tape, hW.output, hW.size, hW.block⟩
        · have h17 : ¬ (16 : Int) < (times T key j : Int) := by omega
          go_wp2_with fail
          refine (few_c key w2 _).mono ?_
          rintro e w' ⟨rfl, rfl⟩
          go_wp2_with fail
          refine (seen_run (T := T) (by omega) (by omega) h3 j key _ hU).mono ?_
          rintro e w' ⟨rfl, m, rfl⟩
          have hd : decide (times T key j ≤ (runs 64 seed T j).seen (keyOf seed 64 key)) = true := decide_eq_true (by omega)
          go_wp2_with fail
          go_ret
          exact ⟨rfl, hW.os, hW.tape, hW.output, hW.size, hW.block⟩
      · have d1 : decide ((j : Int) < (n : Int)) = false := decide_eq_false (by omega)
        by_cases h16 : 16 < times T key j
        · have h17 : (16 : Int) < (times T key j : Int) := by omega
          go_wp2_with fail
          refine (few_c key w2 _).mono ?_
          rintro e w' ⟨rfl, rfl⟩
          go_wp2_with fail
          refine (seen_run (T := T) (by omega) (by omega) h3 j key _ hU).mono ?_
          rintro e w' ⟨rfl, m, rfl⟩
          have hd : decide ((16 : Int) ≤ ((runs 64 seed T j).seen (keyOf seed 64 key) : Int)) = true := decide_eq_true (by omega)
          go_wp2_with fail
          go_ret
          exact ⟨rfl, hW.os, hW.tape, hW.output, hW.size, hW.block⟩
        · have h17 : ¬ (16 : Int) < (times T key j : Int) := by omega
          go_wp2_with fail
          refine (few_c key w2 _).mono ?_
          rintro e w' ⟨rfl, rfl⟩
          go_wp2_with fail
          refine (seen_run (T := T) (by omega) (by omega) h3 j key _ hU).mono ?_
          rintro e w' ⟨rfl, m, rfl⟩
          have hd : decide (times T key j ≤ (runs 64 seed T j).seen (keyOf seed 64 key)) = true := decide_eq_true (by omega)
          go_wp2_with fail
          go_ret
          exact ⟨rfl, hW.os, hW.tape, hW.output, hW.size, hW.block⟩

set_option linter.unusedVariables false in
set_option maxRecDepth 100000 in
theorem sketchLeast_lifted (os : Os) (started : os.Started) (H : Type) (enc : TypeId × Value → H) :
    ReturnsInHanded {} Try.checked os 5 .any (Rows.sketchLeastSpec.pre6 enc Try.prog Try.f5 Rows.sketchLeastRow.domain false) (Rows.sketchLeastSpec.post enc Try.prog Try.f5 false true false false) := by
  refine returnsInHanded_of_change (C := Try.checked) Kit.own started (by kernel_rfl) Try.func5
    (ChangeSpec.witness6 (enc := enc) (C := Try.checked) false ⟨#[], #[.int .u64 0, .slice none 0 0, .string ⟨#[]⟩], []⟩ 8 (by kernel_rfl) (by kernel_rfl) (by kernel_rfl) (by kernel_rfl)) ?_
  intro W base args ds gs before hval0 hW hcnd _
  have hval : ∀ (j : Nat) t v, Try.f5.params[j]? = some t → args[j]? = some v → Value.okWide Try.prog W .any base t v := hval0
  have hW' := hW
  obtain ⟨p, q, hA0, hV, rfl, hfz, hnd⟩ := hW
  have hA : DataW.TrodAll enc Try.prog W 0 (fun _ => true) true Try.f5.params.toList args.toList ds p := hA0
  rw [Try.params5] at hA hval
  obtain ⟨v0, vs0, d0, ds0, p0, q0, hargs, rfl, rfl, h0, r0⟩ := trodAll_cons hA
  obtain ⟨v1, vs1, d1, ds1, p1, q1, rfl, rfl, rfl, h1, r1⟩ := trodAll_cons r0
  obtain ⟨v2, vs2, d2, ds2, p2, q2, rfl, rfl, rfl, h2, r2⟩ := trodAll_cons r1
  obtain ⟨rfl, rfl, rfl⟩ := trodAll_nil r2
  obtain ⟨rfl, rfl⟩ := trodVars_none hV
  obtain rfl : args = #[v0, v1, v2] := by cases args; simp_all
  obtain ⟨a0, rfl, rfl, rfl, w0⟩ := open_int Try.underlying22 (hval 0 22 v0 rfl rfl) h0
  obtain ⟨b1, c1, e1, rfl⟩ := okWide_slice Try.underlying23 (hval 1 23 v1 rfl rfl)
  obtain ⟨fuel1, hf1⟩ := h1
  obtain ⟨ao1, len1, cap1, sb1, off1, tx1, hv1, ht1⟩ := Wirey.open_texts (show DataW.trod enc Try.prog W 0 (fun _ => true) true fuel1 23 [.slice b1 c1 e1] = some _ from hf1)
  injection hv1 with hv1x hv1y hv1z
  subst hv1x hv1y hv1z
  obtain ⟨a2, rfl, rfl, rfl, w2⟩ := open_string Try.underlying9 (hval 2 9 v2 rfl rfl) h2
  clear hA0 hval0
  refine (sketchLeast_walk a0 w0 _ _ _ _ _ _ W ht1 a2 w2).mono fun e W' ⟨he, hg⟩ => ?_
  subst he
  exact ⟨_, rfl, Kit.law_post hW' rfl (by kernel_rfl) rfl (by kernel_rfl) hg⟩

theorem sketchLeast_over : Rows.sketchLeastRow.holds Try.pinned (OpenSpec.ofChange Rows.sketchLeastSpec) :=
  OpenClaim.holds_of_wide 5 Try.f5 rfl rfl rfl rfl rfl rfl rfl ⟨rfl, rfl, rfl, rfl, rfl⟩ rfl rfl rfl rfl rfl (by kernel_rfl) Try.func5 (by kernel_rfl)
    (of_decide_eq_true (by kernel_rfl)) (by unfold Func.isWrapper; first | (rw [if_pos (by decide +kernel)]; kernel_rfl) | (rw [if_neg (by decide +kernel)]; exact ⟨rfl, rfl⟩))
    (fun os started H enc _ => sketchLeast_lifted os started H enc)

theorem sketchLeast_holds : Rows.SketchLeastSaid :=
  sketchLeast_over

end Go.Proofs.Ytlimoelknmbcgaa.Sketchy
