/- Layer 5 (sketch): for every input the call returns true and leaves what it was given as it was: one that was read of its bytes goes on as the one that was written (SketchGoesOn). No condition. -/
import Derived.Test.YtlimoelknmbcgaaKit
import Derived.Test.YtlimoelknmbcgaaTexts
import Derived.Test.YtlimoelknmbcgaaSketchPair
import Derived.Test.YtlimoelknmbcgaaSketchImport
namespace Go.Proofs.Ytlimoelknmbcgaa.Sketchy
open Go.ChangeShapes Go.WideShapes Go.ChangeAt Go.RowKit Go.ChangeMaps
open Wirey (Blk Row str str_size str_list str_of str_take str_inj Kp Texts)

set_option maxHeartbeats 8000000 in
set_option maxRecDepth 100000 in
theorem sketchGoesOn_walk (a0 : Int) (_w0 : (Lit.int .i64 a0).wf = true) (a1 : Int) (w1 : (Lit.int .u64 a1).wf = true) (ao : Option Addr) (n cap sb off : Nat) (T : Nat → List UInt8) (w : World) (ht : Texts w ao n sb off T) :
    Calls Try.prog 6 #[.int .i64 a0, .int .u64 a1, .slice ao n cap] w fun e w' => e = .returned (.bool true) ∧ Below w.heap.size w w' := by
  have hb1 := bounds_u64 w1
  obtain ⟨seed, rfl⟩ : ∃ k : Nat, a1 = (k : Int) := ⟨a1.toNat, by omega⟩
  have h3 : seed < 18446744073709551616 := by omega
  obtain ⟨N, hN, hN2⟩ : ∃ k : Nat, bits .and .i64 a0 31 = (k : Int) ∧ k < 32 := ⟨(a0 % 32).toNat, by rw [i64_and31]; omega, by omega⟩
  have hn63 := ht.n63
  go_enter Try.func6, Try.ntmps6
  go_wp2_with fail
  refine (both_c a0 N seed hN hN2 _).mono ?_
  rintro e v1 ⟨B, R, cp, D, G, rfl, hA, hR, hlo, hAp, hb1⟩
  have q1 : 1 ≤ N + 1 := by omega
  have q2 : N + 1 ≤ 4096 := by omega
  generalize N + 1 = W at hA hR q1 q2
  have hA1 : At (v1.alloc (.cells (boxV R cp D (runs W seed T 0)) 28)) B (runs W seed T 0) := hA.alloc _
  have hB1 := hb1.alloc hb1.size (.cells (boxV R cp D (runs W seed T 0)) 28)
  generalize hv2 : v1.alloc (.cells (boxV R cp D (runs W seed T 0)) 28) = v2 at hA1 hB1
  have HV2 := Lib.hid hv2
  unfold boxV at HV2
  clear hA hR hAp hv2 hb1
  rw [show Sk.new W seed = runs W seed T 0 from rfl]
  unfold refV
  go_upto_region 2 with (fail)
  rw [HV2.out]
  go_wp2_with fail
  refine (awake_c _).mono ?_
  rintro e v3 ⟨rfl, hb3⟩
  have hA3 := hA1.below hb3 hA1.lt
  have hB3 := below_step hB1 hb3
  clear hA1 hB1 hb3 HV2
  go_wp2_with fail
  go_loopw [10] (fun i wr => ∃ j : Nat, j ≤ n ∧ j ≤ 100 ∧ i = .int .i64 j ∧ At wr B (runs W seed T j) ∧ Below w.heap.size w wr) (fun i _ => 100 - (intOf i).toNat)
  case atStart => exact ⟨0, by omega, by omega, rfl, hA3, hB3⟩
  case round =>
    clear hA3 hB3
    obtain ⟨j, hj, hj2, rfl, hU, hW⟩ := hrel
    by_cases hin : j < n ∧ j < 100
    · obtain ⟨h1, h2⟩ := hin
      have hao := ht.ao (by omega)
      subst hao
      have hsize := ht.size j h1
      have hwf := runs_wf (T := T) q1 q2 h3 j
      have d1 : decide ((j : Int) < (n : Int)) = true := decide_eq_true (by omega)
      have d2 : decide ((j : Int) < 100) = true := decide_eq_true (by omega)
      by_cases hm : j % 7 = 3
      · have m1 : ((j : Int) % 7 == 3) = true := by rw [beq_iff_eq]; omega
        go_wp2_with fail
        refine (export_c _ hU hwf.pre).mono ?_
        rintro e v4 ⟨rfl, hb4⟩
        have hU4 := hU.below hb4 hU.lt
        have hW4 := below_step hW hb4
        go_wp2_with fail
        refine (import_c hwf _).mono ?_
        rintro e v5 ⟨B2, rfl, hI5, hB2, hb5⟩
        have hU5 := hU4.below hb5 hU4.lt
        have hW5 := below_step hW4 hb5
        have hsep : B + 5 < B2 := by have := hU4.lt; omega
        have hcell5 := (ht.below hW5 (fun h => ht.lt h)).cell j h1
        clear hU hW hb4 hU4 hW4 hb5
        go_wp2_with fail
        refine (few_c _ hsize _).mono ?_
        rintro e w' ⟨rfl, rfl⟩
        go_wp2_with fail
        refine (add_run (T := T) q1 q2 h3 j _ hI5).mono ?_
        rintro e v6 ⟨rfl, hI6, hK6⟩
        have hU6 : At v6 B (runs W seed T j) := ⟨hK6.blk hU5.hd (fun e => by have := e.1; omega), hK6.blk hU5.door (fun e => by have := e.1; omega), fun i hi => hK6.blk (hU5.row i hi) (fun e => by have := e.1; omega)⟩
        have hW6 := hW5.trans (six_below hK6 (by have := hW5.size; omega) hW5.size)
        have hcell6 := (ht.below hW6 (fun h => ht.lt h)).cell j h1
        clear hI5 hU5 hK6 hW5 hcell5
        go_wp2_with fail
        refine (few_c _ hsize _).mono ?_
        rintro e w' ⟨rfl, rfl⟩
        go_wp2_with fail
        refine (add_run (T := T) q1 q2 h3 j _ hU6).mono ?_
        rintro e v7 ⟨rfl, hU7, hK7⟩
        have hI7 : At v7 B2 (runs W seed T (j + 1)) := ⟨hK7.blk hI6.hd (fun e => by have := e.2; omega), hK7.blk hI6.door (fun e => by have := e.2; omega), fun i hi => hK7.blk (hI6.row i hi) (fun e => by have := e.2; omega)⟩
        have hW7 := hW6.trans (six_below hK7 hlo hW6.size)
        have hwf7 := runs_wf (T := T) q1 q2 h3 (j + 1)
        clear hI6 hU6 hK7 hW6 hcell6
        have htl := Wirey.toList_str
        have hbq : ((runs W seed T (j + 1)).put != (runs W seed T (j + 1)).put) = false := by simp
        go_wp2_with fail
        refine (export_c _ hU7 hwf7.pre).mono ?_
        rintro e v8 ⟨rfl, hb8⟩
        have hU8 := hU7.below hb8 hU7.lt
        have hI8 := hI7.below hb8 hI7.lt
        have hW8 := below_step hW7 hb8
        clear hU7 hI7 hW7 hb8
        go_wp2_with fail
        refine (export_c _ hI8 hwf7.pre).mono ?_
        rintro e v9 ⟨rfl, hb9⟩
        have hU9 := hU8.below hb9 hU8.lt
        have hW9 := below_step hW8 hb9
        clear hU8 hI8 hW8 hb9
        go_wp2_with fail
        go_roundw
        case rel => exact ⟨j + 1, by omega, by omega, rfl, hU9, hW9⟩
        case measure => simp [intOf]; omega
      · have m1 : ((j : Int) % 7 == 3) = false := by rw [beq_eq_false_iff_ne]; omega
        have hcell := (ht.below hW (fun h => ht.lt h)).cell j h1
        go_wp2_with fail
        refine (few_c _ hsize _).mono ?_
        rintro e w' ⟨rfl, rfl⟩
        go_wp2_with fail
        refine (add_run (T := T) q1 q2 h3 j _ hU).mono ?_
        rintro e v4 ⟨rfl, hU4, hK4⟩
        have hW4 := hW.trans (six_below hK4 hlo hW.size)
        clear hU hW hK4 hcell
        go_wp2_with fail
        go_roundw
        case rel => exact ⟨j + 1, by omega, by omega, rfl, hU4, hW4⟩
        case measure => simp [intOf]; omega
    · by_cases h1 : j < n
      · have d1 : decide ((j : Int) < (n : Int)) = true := decide_eq_true (by omega)
        have d2 : decide ((j : Int) < 100) = false := decide_eq_false (by omega)
        go_wp2_with fail
        go_ret
        exact ⟨rfl, hW⟩
      · have d1 : decide ((j : Int) < (n : Int)) = false := decide_eq_false (by omega)
        go_wp2_with fail
        go_ret
        exact ⟨rfl, hW⟩

set_option linter.unusedVariables false in
set_option maxRecDepth 100000 in
theorem sketchGoesOn_lifted (os : Os) (started : os.Started) (H : Type) (enc : TypeId × Value → H) :
    ReturnsInHanded {} Try.checked os 6 .any (Rows.sketchGoesOnSpec.pre6 enc Try.prog Try.f6 Rows.sketchGoesOnRow.domain false) (Rows.sketchGoesOnSpec.post enc Try.prog Try.f6 false true false false) := by
  refine returnsInHanded_of_change (C := Try.checked) Kit.own started (by kernel_rfl) Try.func6
    (ChangeSpec.witness6 (enc := enc) (C := Try.checked) false ⟨#[], #[.int .i64 0, .int .u64 0, .slice none 0 0], []⟩ 8 (by kernel_rfl) (by kernel_rfl) (by kernel_rfl) (by kernel_rfl)) ?_
  intro W base args ds gs before hval0 hW hcnd _
  have hval : ∀ (j : Nat) t v, Try.f6.params[j]? = some t → args[j]? = some v → Value.okWide Try.prog W .any base t v := hval0
  have hW' := hW
  obtain ⟨p, q, hA0, hV, rfl, hfz, hnd⟩ := hW
  have hA : DataW.TrodAll enc Try.prog W 0 (fun _ => true) true Try.f6.params.toList args.toList ds p := hA0
  rw [Try.params6] at hA hval
  obtain ⟨v0, vs0, d0, ds0, p0, q0, hargs, rfl, rfl, h0, r0⟩ := trodAll_cons hA
  obtain ⟨v1, vs1, d1, ds1, p1, q1, rfl, rfl, rfl, h1, r1⟩ := trodAll_cons r0
  obtain ⟨v2, vs2, d2, ds2, p2, q2, rfl, rfl, rfl, h2, r2⟩ := trodAll_cons r1
  obtain ⟨rfl, rfl, rfl⟩ := trodAll_nil r2
  obtain ⟨rfl, rfl⟩ := trodVars_none hV
  obtain rfl : args = #[v0, v1, v2] := by cases args; simp_all
  obtain ⟨a0, rfl, rfl, rfl, w0⟩ := open_int Try.underlying3 (hval 0 3 v0 rfl rfl) h0
  obtain ⟨a1, rfl, rfl, rfl, w1⟩ := open_int Try.underlying22 (hval 1 22 v1 rfl rfl) h1
  obtain ⟨b2, c2, e2, rfl⟩ := okWide_slice Try.underlying23 (hval 2 23 v2 rfl rfl)
  obtain ⟨fuel2, hf2⟩ := h2
  obtain ⟨ao2, len2, cap2, sb2, off2, tx2, hv2, ht2⟩ := Wirey.open_texts (show DataW.trod enc Try.prog W 0 (fun _ => true) true fuel2 23 [.slice b2 c2 e2] = some _ from hf2)
  injection hv2 with hv2x hv2y hv2z
  subst hv2x hv2y hv2z
  clear hA0 hval0
  refine (sketchGoesOn_walk a0 w0 a1 w1 _ _ _ _ _ _ W ht2).mono fun e W' ⟨he, hg⟩ => ?_
  subst he
  exact ⟨_, rfl, Kit.law_post hW' rfl (by kernel_rfl) rfl (by kernel_rfl) hg⟩

theorem sketchGoesOn_over : Rows.sketchGoesOnRow.holds Try.pinned (OpenSpec.ofChange Rows.sketchGoesOnSpec) :=
  OpenClaim.holds_of_wide 6 Try.f6 rfl rfl rfl rfl rfl rfl rfl ⟨rfl, rfl, rfl, rfl, rfl⟩ rfl rfl rfl rfl rfl (by kernel_rfl) Try.func6 (by kernel_rfl)
    (of_decide_eq_true (by kernel_rfl)) (by unfold Func.isWrapper; first | (rw [if_pos (by decide +kernel)]; kernel_rfl) | (rw [if_neg (by decide +kernel)]; exact ⟨rfl, rfl⟩))
    (fun os started H enc _ => sketchGoesOn_lifted os started H enc)

theorem sketchGoesOn_holds : Rows.SketchGoesOnSaid :=
  sketchGoesOn_over

end Go.Proofs.Ytlimoelknmbcgaa.Sketchy
