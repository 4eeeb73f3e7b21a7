/- Layer 5 (sketch): for every input the call returns true and leaves what it was given as it was: aged it has the halves of all, and nobody at the door (SketchAges). No condition. -/
import Derived.Test.YtlimoelknmbcgaaKit
import Derived.Test.YtlimoelknmbcgaaTexts
import Derived.Test.YtlimoelknmbcgaaSketchBeside
import Derived.StillTailTactics
namespace Go.Proofs.Ytlimoelknmbcgaa.Sketchy
open Go.ChangeShapes Go.WideShapes Go.ChangeAt Go.RowKit Go.ChangeMaps
open Wirey (Blk Row str str_size str_list str_of str_take str_inj Kp Texts)

theorem ages_and7 (n : Int) : bits .and .i64 n 7 = n % 8 := by
  have h3 : (BitVec.ofInt 64 7).toNat = 2 ^ 3 - 1 := by decide
  have key : (BitVec.ofInt 64 n &&& BitVec.ofInt 64 7).toNat = (n % ((2 ^ 64 : Nat) : Int)).toNat % 2 ^ 3 := by
    rw [BitVec.toNat_and, BitVec.toNat_ofInt, h3, Nat.and_two_pow_sub_one_eq_mod]
  show IntKind.i64.wrap ((BitVec.ofInt 64 n &&& BitVec.ofInt 64 7).toNat : Nat) = n % 8
  rw [key, IntKind.wrap_i64]
  omega
/-- So many ageings. -/
def aged (s : Sk) : Nat → Sk
  | 0 => s
  | i + 1 => (aged s i).age
theorem aged_wf {s : Sk} (h : s.Wf) : ∀ i, (aged s i).Wf
  | 0 => h
  | i + 1 => (aged_wf h i).pre.age

set_option maxHeartbeats 8000000 in
set_option maxRecDepth 100000 in
theorem sketchAges_walk (a0 : Int) (_w0 : (Lit.int .i64 a0).wf = true) (ao : Option Addr) (n cap sb off : Nat) (T : Nat → List UInt8) (w : World) (ht : Texts w ao n sb off T) (a2 : Int) (_w2 : (Lit.int .i64 a2).wf = true) :
    Calls Try.prog 4 #[.int .i64 a0, .slice ao n cap, .int .i64 a2] w fun e w' => e = .returned (.bool true) ∧ Below w.heap.size w w' := by
  obtain ⟨N, hN, hN2⟩ : ∃ k : Nat, bits .and .i64 a0 31 = (k : Int) ∧ k < 32 := ⟨(a0 % 32).toNat, by rw [i64_and31]; omega, by omega⟩
  obtain ⟨Q, hQ7, hQ2⟩ : ∃ k : Nat, bits .and .i64 a2 7 = (k : Int) ∧ k < 8 := ⟨(a2 % 8).toNat, by rw [ages_and7]; omega, by omega⟩
  have hn63 := ht.n63
  have h3 : 5 < 18446744073709551616 := by omega
  have hboth := both_c a0 N 5 hN hN2
  go_enter Try.func4, Try.ntmps4
  go_wp2_with fail
  refine (hboth _).mono ?_
  rintro e v1 ⟨B, R, cp, D, G, rfl, hA, hR, hlo, hAp, hb1⟩
  have q1 : 1 ≤ N + 1 := by omega
  have q2 : N + 1 ≤ 4096 := by omega
  clear hboth
  generalize N + 1 = W at hA hR q1 q2
  obtain ⟨seed, hse⟩ : ∃ k : Nat, k = 5 := ⟨_, rfl⟩
  rw [← hse] at hA hR h3 ⊢
  clear hse
  have hP : Pair w B v1.heap.size R cp D G (runs W seed T 0) (runs W seed T 0) (v1.alloc (.cells (boxV R cp D (runs W seed T 0)) 28)) :=
    ⟨hA.alloc _, hR.alloc _, Blk.new _ _ _, hb1.alloc hb1.size _, hlo, by have := hA.lt; omega, ⟨by have := hAp.hR; omega, by have := hR.lt; omega⟩, ⟨by have := hAp.hD; omega, by have := hR.door.lt; omega⟩, fun i hi => ⟨by have := hAp.hG i hi; omega, by have := (hR.row i hi).lt; omega⟩⟩
  generalize hv2 : v1.alloc (.cells (boxV R cp D (runs W seed T 0)) 28) = v2 at hP
  have HV2 := Lib.hid hv2
  unfold boxV at HV2
  clear hA hR hAp hlo hv2
  rw [show Sk.new W seed = runs W seed T 0 from rfl]
  unfold refV
  go_upto_region 2 with (fail)
  rw [HV2.out]
  go_wp2_with fail
  refine (awake_c _).mono ?_
  rintro e v3 ⟨rfl, hb3⟩
  have hP3 := hP.onto hb3
  clear hP hb3 HV2 hb1
  go_wp2_with fail
  go_loopw [10] (fun i wr => ∃ (j R cp D : Nat) (G : Nat → Nat), j ≤ n ∧ j ≤ 100 ∧ i = .int .i64 j ∧ Pair w B v1.heap.size R cp D G (runs W seed T j) (runs W seed T j) wr) (fun i _ => 100 - (intOf i).toNat)
  case atStart => exact ⟨0, R, cp, D, G, by omega, by omega, rfl, hP3⟩
  case round =>
    clear hP3
    obtain ⟨j, R, cp, D, G, hj, hj2, rfl, hQ⟩ := hrel
    have hwt := ht.below hQ.below (fun h => ht.lt h)
    by_cases hin : j < n ∧ j < 100
    · obtain ⟨h1, h2⟩ := hin
      have hao := ht.ao (by omega)
      subst hao
      have hcell := hwt.cell j h1
      have hsize := ht.size j h1
      have d1 : decide ((j : Int) < (n : Int)) = true := decide_eq_true (by omega)
      have d2 : decide ((j : Int) < 100) = true := decide_eq_true (by omega)
      go_wp2_with fail
      refine (few_c _ hsize _).mono ?_
      rintro e w' ⟨rfl, rfl⟩
      go_wp2_with fail
      refine (add_run (T := T) q1 q2 h3 j _ hQ.sk).mono ?_
      rintro e v4 ⟨rfl, hA4, hK4⟩
      have hP4 := hQ.prog hA4 hK4
      have hcell4 := (ht.below hP4.below (fun h => ht.lt h)).cell j h1
      have hfew : ∀ W : World, Calls Try.prog 10 #[.string (str (T j))] W fun e w' => e = .returned (.string (str (fewL (T j)))) ∧ w' = W := fun W => (few_c _ hsize W).mono fun _ _ h => ⟨h.1, h.2.symm⟩
      have HT := Lib.hid hfew
      clear hQ hA4 hK4 hwt hcell hsize hfew
      obtain ⟨x0, x1, x2, x3, x4⟩ := box_cells hP4.box
      go_wp2_with fail
      refine wp_region_still_tail 6 (by kernel_rfl) (by kernel_rfl) ?_
      simp only [List.take_succ_cons, List.take_zero, List.drop_succ_cons, List.drop_zero]
      repeat still_step
      refine wpStill_step (fun K hK => ?_)
      go_simp
      refine ⟨_, HT.out _, hK _ ?_⟩
      clear hK K
      repeat still_step
      refine wpStill_nil ?_
      change wpList _ _ _ _ _ v4.drew
      replace hP4 := hP4.drew
      generalize v4.drew = v6 at hP4 ⊢
      clear x0 x1 x2 x3 x4 hcell4
      go_wp2_with fail
      refine (radd_run (T := T) q1 q2 h3 j _ hP4.rf).mono ?_
      rintro e v5 ⟨R2, cp2, D2, G2, rfl, hR5, hA5, hb5⟩
      have hP5 := hP4.onto hb5
      have hP6 := hP4.ref (cap' := cp2) hb5 hR5 hA5
      obtain ⟨x0, x1, x2, x3, x4⟩ := box_cells hP5.box
      have f0 := hP5.box.free 0
      have f1 := hP5.box.free 1
      have f2 := hP5.box.free 2
      have f3 := hP5.box.free 3
      have f4 := hP5.box.free 4
      generalize hu : fill5 v5 v1.heap.size (.int .i64 ((runs W seed T (j + 1)).wide : Int)) (.int .u64 ((runs W seed T (j + 1)).seed : Int)) (.slice (some ⟨R2, 0, none⟩) 4 cp2) (.slice (some ⟨D2, 0, none⟩) (runs W seed T (j + 1)).wide (runs W seed T (j + 1)).wide) (.int .i64 ((runs W seed T (j + 1)).added : Int)) = u at hP6
      have HU := Lib.hid hu
      unfold fill5 at HU
      clear hu hP4 hP5 hR5 hA5 hb5
      unfold refV
      go_upto_region 6 with (fail)
      rw [HU.out]
      go_wp2_with fail
      go_roundw
      case rel => exact ⟨j + 1, R2, cp2, D2, G2, by omega, by omega, rfl, hP6⟩
      case measure => simp [intOf]; omega
    · by_cases h1 : j < n
      · have d1 : decide ((j : Int) < (n : Int)) = true := decide_eq_true (by omega)
        have d2 : decide ((j : Int) < 100) = false := decide_eq_false (by omega)
        have hP0 : Pair w B v1.heap.size R cp D G (aged (runs W seed T j) 0) (aged (runs W seed T j) 0) wr := hQ
        have hwf := runs_wf (T := T) q1 q2 h3 j
        generalize runs W seed T j = s0 at hP0 hwf
        clear hQ hwt
        go_wp2_with fail
        go_loopw [11] (fun i wr => ∃ (k R cp D : Nat) (G : Nat → Nat), k ≤ Q ∧ i = .int .i64 k ∧ Pair w B v1.heap.size R cp D G (aged s0 k) (aged s0 k) wr) (fun i _ => Q - (intOf i).toNat)
        case atStart => exact ⟨0, R, cp, D, G, by omega, rfl, hP0⟩
        case round =>
          clear hP0
          obtain ⟨k, R, cp, D, G, hk, rfl, hQ⟩ := hrel
          obtain ⟨x0, x1, x2, x3, x4⟩ := box_cells hQ.box
          have hwk := aged_wf hwf k
          by_cases hkQ : k < Q
          · clear x0 x1 x2 x3 x4
            go_wp2_with fail
            refine (age_c _ hQ.sk hwk.pre).mono ?_
            rintro e v4 ⟨rfl, hA4, hK4⟩
            have hP4 := hQ.prog hA4 hK4
            clear hQ hA4 hK4
            obtain ⟨x0, x1, x2, x3, x4⟩ := box_cells hP4.box
            go_wp2_with fail
            refine (rage_c (s := aged s0 k) hwk.pre (cap := cp) _ hP4.rf).mono ?_
            rintro e v5 ⟨R2, cp2, D2, G2, rfl, hR5, hA5, hb5⟩
            have hP5 := hP4.onto hb5
            have hP6 := hP4.ref (cap' := cp2) hb5 hR5 hA5
            clear x0 x1 x2 x3 x4
            obtain ⟨x0, x1, x2, x3, x4⟩ := box_cells hP5.box
            have f0 := hP5.box.free 0
            have f1 := hP5.box.free 1
            have f2 := hP5.box.free 2
            have f3 := hP5.box.free 3
            have f4 := hP5.box.free 4
            generalize hu : fill5 v5 v1.heap.size (.int .i64 ((aged s0 k).age.wide : Int)) (.int .u64 ((aged s0 k).age.seed : Int)) (.slice (some ⟨R2, 0, none⟩) 4 cp2) (.slice (some ⟨D2, 0, none⟩) (aged s0 k).age.wide (aged s0 k).age.wide) (.int .i64 ((aged s0 k).age.added : Int)) = u at hP6
            have HU := Lib.hid hu
            unfold fill5 at HU
            clear hu hP4 hP5 hR5 hA5 hb5
            unfold refV
            go_upto_region 11 with (fail)
            rw [HU.out]
            go_wp2_with fail
            go_roundw
            case rel =>
              first
                | exact ⟨k + 1, R2, cp2, D2, G2, by omega, rfl, hP6⟩
                | ((repeat apply Exists.intro); exact ⟨⟨k + 1, R2, cp2, D2, G2, by omega, rfl, hP6⟩, rfl⟩)
            case measure => simp [intOf]; omega
          · have hpd := hQ.drew
            have htl := Wirey.toList_str
            have hexp := fun (v : World) (h : At v B (aged s0 k)) => export_c v h hwk.pre
            have hput := fun (v : World) (h : Ref v R D G (aged s0 k)) => rput_c hwk.pre (cap := cp) v h
            have hbq : ((aged s0 k).put == (aged s0 k).put) = true := beq_self_eq_true _
            have hkk : ¬ (k : Int) < (Q : Int) := by omega
            go_wp2_with fail
            go_region_held3 (fun w' => w'.cell? ⟨v1.heap.size, 0, none⟩ = some (.int .i64 ((aged s0 k).wide : Int)) ∧ w'.cell? ⟨v1.heap.size, 1, none⟩ = some (.int .u64 ((aged s0 k).seed : Int)) ∧ w'.cell? ⟨v1.heap.size, 2, none⟩ = some (.slice (some ⟨R, 0, none⟩) 4 cp) ∧ w'.cell? ⟨v1.heap.size, 3, none⟩ = some (.slice (some ⟨D, 0, none⟩) (aged s0 k).wide (aged s0 k).wide) ∧ w'.cell? ⟨v1.heap.size, 4, none⟩ = some (.int .i64 ((aged s0 k).added : Int)) ∧ Pair w B v1.heap.size R cp D G (aged s0 k) (aged s0 k) w')
              (first | exact ⟨x0, x1, x2, x3, x4, hpd⟩ | exact keepP (by assumption) (by assumption) | exact keepPd (by assumption) | go_keep)
              (first | (go_at_call 16; refine (hexp _ (sP (by assumption)).sk).mono ?_; rintro e v ⟨rfl, hv⟩) | (go_at_call 17; refine (hput _ (sP (by assumption)).rf).mono ?_; rintro e v ⟨rfl, hv⟩))
            have hPv : Pair w B v1.heap.size R cp D G (aged s0 k) (aged s0 k) v := sP (by assumption)
            go_wp2_with fail
            go_ret
            exact ⟨rfl, hPv.below⟩
      · have d1 : decide ((j : Int) < (n : Int)) = false := decide_eq_false (by omega)
        have hP0 : Pair w B v1.heap.size R cp D G (aged (runs W seed T j) 0) (aged (runs W seed T j) 0) wr := hQ
        have hwf := runs_wf (T := T) q1 q2 h3 j
        generalize runs W seed T j = s0 at hP0 hwf
        clear hQ hwt
        go_wp2_with fail
        go_loopw [11] (fun i wr => ∃ (k R cp D : Nat) (G : Nat → Nat), k ≤ Q ∧ i = .int .i64 k ∧ Pair w B v1.heap.size R cp D G (aged s0 k) (aged s0 k) wr) (fun i _ => Q - (intOf i).toNat)
        case atStart => exact ⟨0, R, cp, D, G, by omega, rfl, hP0⟩
        case round =>
          clear hP0
          obtain ⟨k, R, cp, D, G, hk, rfl, hQ⟩ := hrel
          obtain ⟨x0, x1, x2, x3, x4⟩ := box_cells hQ.box
          have hwk := aged_wf hwf k
          by_cases hkQ : k < Q
          · clear x0 x1 x2 x3 x4
            go_wp2_with fail
            refine (age_c _ hQ.sk hwk.pre).mono ?_
            rintro e v4 ⟨rfl, hA4, hK4⟩
            have hP4 := hQ.prog hA4 hK4
            clear hQ hA4 hK4
            obtain ⟨x0, x1, x2, x3, x4⟩ := box_cells hP4.box
            go_wp2_with fail
            refine (rage_c (s := aged s0 k) hwk.pre (cap := cp) _ hP4.rf).mono ?_
            rintro e v5 ⟨R2, cp2, D2, G2, rfl, hR5, hA5, hb5⟩
            have hP5 := hP4.onto hb5
            have hP6 := hP4.ref (cap' := cp2) hb5 hR5 hA5
            clear x0 x1 x2 x3 x4
            obtain ⟨x0, x1, x2, x3, x4⟩ := box_cells hP5.box
            have f0 := hP5.box.free 0
            have f1 := hP5.box.free 1
            have f2 := hP5.box.free 2
            have f3 := hP5.box.free 3
            have f4 := hP5.box.free 4
            generalize hu : fill5 v5 v1.heap.size (.int .i64 ((aged s0 k).age.wide : Int)) (.int .u64 ((aged s0 k).age.seed : Int)) (.slice (some ⟨R2, 0, none⟩) 4 cp2) (.slice (some ⟨D2, 0, none⟩) (aged s0 k).age.wide (aged s0 k).age.wide) (.int .i64 ((aged s0 k).age.added : Int)) = u at hP6
            have HU := Lib.hid hu
            unfold fill5 at HU
            clear hu hP4 hP5 hR5 hA5 hb5
            unfold refV
            go_upto_region 11 with (fail)
            rw [HU.out]
            go_wp2_with fail
            go_roundw
            case rel =>
              first
                | exact ⟨k + 1, R2, cp2, D2, G2, by omega, rfl, hP6⟩
                | ((repeat apply Exists.intro); exact ⟨⟨k + 1, R2, cp2, D2, G2, by omega, rfl, hP6⟩, rfl⟩)
            case measure => simp [intOf]; omega
          · have hpd := hQ.drew
            have htl := Wirey.toList_str
            have hexp := fun (v : World) (h : At v B (aged s0 k)) => export_c v h hwk.pre
            have hput := fun (v : World) (h : Ref v R D G (aged s0 k)) => rput_c hwk.pre (cap := cp) v h
            have hbq : ((aged s0 k).put == (aged s0 k).put) = true := beq_self_eq_true _
            have hkk : ¬ (k : Int) < (Q : Int) := by omega
            go_wp2_with fail
            go_region_held3 (fun w' => w'.cell? ⟨v1.heap.size, 0, none⟩ = some (.int .i64 ((aged s0 k).wide : Int)) ∧ w'.cell? ⟨v1.heap.size, 1, none⟩ = some (.int .u64 ((aged s0 k).seed : Int)) ∧ w'.cell? ⟨v1.heap.size, 2, none⟩ = some (.slice (some ⟨R, 0, none⟩) 4 cp) ∧ w'.cell? ⟨v1.heap.size, 3, none⟩ = some (.slice (some ⟨D, 0, none⟩) (aged s0 k).wide (aged s0 k).wide) ∧ w'.cell? ⟨v1.heap.size, 4, none⟩ = some (.int .i64 ((aged s0 k).added : Int)) ∧ Pair w B v1.heap.size R cp D G (aged s0 k) (aged s0 k) w')
              (first | exact ⟨x0, x1, x2, x3, x4, hpd⟩ | exact keepP (by assumption) (by assumption) | exact keepPd (by assumption) | go_keep)
              (first | (go_at_call 16; refine (hexp _ (sP (by assumption)).sk).mono ?_; rintro e v ⟨rfl, hv⟩) | (go_at_call 17; refine (hput _ (sP (by assumption)).rf).mono ?_; rintro e v ⟨rfl, hv⟩))
            have hPv : Pair w B v1.heap.size R cp D G (aged s0 k) (aged s0 k) v := sP (by assumption)
            go_wp2_with fail
            go_ret
            exact ⟨rfl, hPv.below⟩

set_option linter.unusedVariables false in
set_option maxRecDepth 100000 in
theorem sketchAges_lifted (os : Os) (started : os.Started) (H : Type) (enc : TypeId × Value → H) :
    ReturnsInHanded {} Try.checked os 4 .any (Rows.sketchAgesSpec.pre6 enc Try.prog Try.f4 Rows.sketchAgesRow.domain false) (Rows.sketchAgesSpec.post enc Try.prog Try.f4 false true false false) := by
  refine returnsInHanded_of_change (C := Try.checked) Kit.own started (by kernel_rfl) Try.func4
    (ChangeSpec.witness6 (enc := enc) (C := Try.checked) false ⟨#[], #[.int .i64 0, .slice none 0 0, .int .i64 0], []⟩ 8 (by kernel_rfl) (by kernel_rfl) (by kernel_rfl) (by kernel_rfl)) ?_
  intro W base args ds gs before hval0 hW hcnd _
  have hval : ∀ (j : Nat) t v, Try.f4.params[j]? = some t → args[j]? = some v → Value.okWide Try.prog W .any base t v := hval0
  have hW' := hW
  obtain ⟨p, q, hA0, hV, rfl, hfz, hnd⟩ := hW
  have hA : DataW.TrodAll enc Try.prog W 0 (fun _ => true) true Try.f4.params.toList args.toList ds p := hA0
  rw [Try.params4] at hA hval
  obtain ⟨v0, vs0, d0, ds0, p0, q0, hargs, rfl, rfl, h0, r0⟩ := trodAll_cons hA
  obtain ⟨v1, vs1, d1, ds1, p1, q1, rfl, rfl, rfl, h1, r1⟩ := trodAll_cons r0
  obtain ⟨v2, vs2, d2, ds2, p2, q2, rfl, rfl, rfl, h2, r2⟩ := trodAll_cons r1
  obtain ⟨rfl, rfl, rfl⟩ := trodAll_nil r2
  obtain ⟨rfl, rfl⟩ := trodVars_none hV
  obtain rfl : args = #[v0, v1, v2] := by cases args; simp_all
  obtain ⟨a0, rfl, rfl, rfl, w0⟩ := open_int Try.underlying3 (hval 0 3 v0 rfl rfl) h0
  obtain ⟨b1, c1, e1, rfl⟩ := okWide_slice Try.underlying23 (hval 1 23 v1 rfl rfl)
  obtain ⟨fuel1, hf1⟩ := h1
  obtain ⟨ao1, len1, cap1, sb1, off1, tx1, hv1, ht1⟩ := Wirey.open_texts (show DataW.trod enc Try.prog W 0 (fun _ => true) true fuel1 23 [.slice b1 c1 e1] = some _ from hf1)
  injection hv1 with hv1x hv1y hv1z
  subst hv1x hv1y hv1z
  obtain ⟨a2, rfl, rfl, rfl, w2⟩ := open_int Try.underlying3 (hval 2 3 v2 rfl rfl) h2
  clear hA0 hval0
  refine (sketchAges_walk a0 w0 _ _ _ _ _ _ W ht1 a2 w2).mono fun e W' ⟨he, hg⟩ => ?_
  subst he
  exact ⟨_, rfl, Kit.law_post hW' rfl (by kernel_rfl) rfl (by kernel_rfl) hg⟩

theorem sketchAges_over : Rows.sketchAgesRow.holds Try.pinned (OpenSpec.ofChange Rows.sketchAgesSpec) :=
  OpenClaim.holds_of_wide 4 Try.f4 rfl rfl rfl rfl rfl rfl rfl ⟨rfl, rfl, rfl, rfl, rfl⟩ rfl rfl rfl rfl rfl (by kernel_rfl) Try.func4 (by kernel_rfl)
    (of_decide_eq_true (by kernel_rfl)) (by unfold Func.isWrapper; first | (rw [if_pos (by decide +kernel)]; kernel_rfl) | (rw [if_neg (by decide +kernel)]; exact ⟨rfl, rfl⟩))
    (fun os started H enc _ => sketchAges_lifted os started H enc)

theorem sketchAges_holds : Rows.SketchAgesSaid :=
  sketchAges_over

end Go.Proofs.Ytlimoelknmbcgaa.Sketchy
