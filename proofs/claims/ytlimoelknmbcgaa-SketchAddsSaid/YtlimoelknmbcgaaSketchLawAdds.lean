/- Layer 5 (sketch): for every input the call returns true and leaves what it was given as it was: key by key a sketch is what the document says: its counters, its door, its additions; it ages when it must (SketchAdds). No condition. -/
import Derived.Test.YtlimoelknmbcgaaKit
import Derived.Test.YtlimoelknmbcgaaTexts
import Derived.Test.YtlimoelknmbcgaaSketchBeside
namespace Go.Proofs.Ytlimoelknmbcgaa.Sketchy
open Go.ChangeShapes Go.WideShapes Go.ChangeAt Go.RowKit Go.ChangeMaps
open Wirey (Blk Row str str_size str_list str_of str_take str_inj Kp Texts)

set_option maxHeartbeats 8000000 in
set_option maxRecDepth 100000 in
theorem sketchAdds_walk (a0 : Int) (_w0 : (Lit.int .i64 a0).wf = true) (a1 : Int) (w1 : (Lit.int .u64 a1).wf = true) (ao : Option Addr) (n cap sb off : Nat) (T : Nat → List UInt8) (w : World) (ht : Texts w ao n sb off T) :
    Calls Try.prog 3 #[.int .i64 a0, .int .u64 a1, .slice ao n cap] w fun e w' => e = .returned (.bool true) ∧ Below w.heap.size w w' := by
  have hb1 := bounds_u64 w1
  obtain ⟨seed, rfl⟩ : ∃ k : Nat, a1 = (k : Int) := ⟨a1.toNat, by omega⟩
  have h3 : seed < 18446744073709551616 := by omega
  obtain ⟨N, hN, hN2⟩ : ∃ k : Nat, bits .and .i64 a0 31 = (k : Int) ∧ k < 32 := ⟨(a0 % 32).toNat, by rw [i64_and31]; omega, by omega⟩
  have hn63 := ht.n63
  go_enter Try.func3, Try.ntmps3
  go_wp2_with fail
  refine (both_c a0 N seed hN hN2 _).mono ?_
  rintro e v1 ⟨B, R, cp, D, G, rfl, hA, hR, hlo, hAp, hb1⟩
  have q1 : 1 ≤ N + 1 := by omega
  have q2 : N + 1 ≤ 4096 := by omega
  generalize N + 1 = W at hA hR q1 q2
  have hP : Pair w B v1.heap.size R cp D G (runs W seed T 0) (runs W seed T 0) (v1.alloc (.cells (boxV R cp D (runs W seed T 0)) 28)) :=
    ⟨hA.alloc _, hR.alloc _, Blk.new _ _ _, hb1.alloc hb1.size _, hlo, by have := hA.lt; omega, ⟨by have := hAp.hR; omega, by have := hR.lt; omega⟩, ⟨by have := hAp.hD; omega, by have := hR.door.lt; omega⟩, fun i hi => ⟨by have := hAp.hG i hi; omega, by have := (hR.row i hi).lt; omega⟩⟩
  generalize hv2 : v1.alloc (.cells (boxV R cp D (runs W seed T 0)) 28) = v2 at hP
  have HV2 := Lib.hid hv2
  unfold boxV at HV2
  clear hA hR hAp hlo hv2
  rw [show Sk.new W seed = runs W seed T 0 from rfl]
  unfold refV
  go_upto_region 2 with (fail)
  rw [HV2.out]
  go_wp2_with fail
  refine (awake_c _).mono ?_
  rintro e v3 ⟨rfl, hb3⟩
  have hP3 := hP.onto hb3
  clear hP hb3 HV2 hb1 w1
  go_wp2_with fail
  go_loopw [10] (fun i wr => ∃ (j R cp D : Nat) (G : Nat → Nat), j ≤ n ∧ j ≤ 200 ∧ i = .int .i64 j ∧ Pair w B v1.heap.size R cp D G (runs W seed T j) (runs W seed T j) wr) (fun i _ => 200 - (intOf i).toNat)
  case atStart => exact ⟨0, R, cp, D, G, by omega, by omega, rfl, hP3⟩
  case round =>
    clear hP3

    obtain ⟨j, R, cp, D, G, hj, hj2, rfl, hQ⟩ := hrel
    have hwt := ht.below hQ.below (fun h => ht.lt h)
    by_cases hin : j < n ∧ j < 200
    · obtain ⟨h1, h2⟩ := hin
      have hao := ht.ao (by omega)
      subst hao
      have hcell := hwt.cell j h1
      have hsize := ht.size j h1
      have d1 : decide ((j : Int) < (n : Int)) = true := decide_eq_true (by omega)
      have d2 : decide ((j : Int) < 200) = true := decide_eq_true (by omega)
      go_wp2_with fail
      refine (few_c _ hsize _).mono ?_
      rintro e w' ⟨rfl, rfl⟩
      obtain ⟨x0, x1, x2, x3, x4⟩ := box_cells hQ.box
      have hpd := hQ.drew
      go_wp2_with fail
      go_region_held3 (fun w' => w'.cell? ⟨v1.heap.size, 0, none⟩ = some (.int .i64 ((runs W seed T j).wide : Int)) ∧ w'.cell? ⟨v1.heap.size, 1, none⟩ = some (.int .u64 ((runs W seed T j).seed : Int)) ∧ w'.cell? ⟨v1.heap.size, 2, none⟩ = some (.slice (some ⟨R, 0, none⟩) 4 cp) ∧ w'.cell? ⟨v1.heap.size, 3, none⟩ = some (.slice (some ⟨D, 0, none⟩) (runs W seed T j).wide (runs W seed T j).wide) ∧ w'.cell? ⟨v1.heap.size, 4, none⟩ = some (.int .i64 ((runs W seed T j).added : Int)) ∧ Pair w B v1.heap.size R cp D G (runs W seed T j) (runs W seed T j) w')
        (first | exact ⟨x0, x1, x2, x3, x4, hpd⟩ | exact keepP (by assumption) (by assumption) | exact keepPd (by assumption) | exact keepPn _ ⟨x0, x1, x2, x3, x4, hQ⟩ | exact keepPn _ (by assumption) | go_keep)
        (first | (go_at_call 11; refine (seen_run (T := T) q1 q2 h3 j (T j) _ (sP (by assumption)).sk).mono ?_; rintro e v ⟨rfl, m, rfl⟩) | (go_at_call 12; refine (rseen_run (T := T) q1 q2 h3 j (T j) _ (sP (by assumption)).rf).mono ?_; rintro e v ⟨rfl, hv⟩))
      have hPv : Pair w B v1.heap.size R cp D G (runs W seed T j) (runs W seed T j) v := sP (by assumption)
      clear x0 x1 x2 x3 x4 hpd hQ hwt hcell hsize
      go_wp2_with fail
      refine (add_run (T := T) q1 q2 h3 j _ hPv.sk).mono ?_
      rintro e v4 ⟨rfl, hA4, hK4⟩
      have hP4 := hPv.prog hA4 hK4
      clear hPv hA4 hK4
      obtain ⟨x0, x1, x2, x3, x4⟩ := box_cells hP4.box
      go_wp2_with fail
      refine (radd_run (T := T) q1 q2 h3 j _ hP4.rf).mono ?_
      rintro e v5 ⟨R2, cp2, D2, G2, rfl, hR5, hA5, hb5⟩
      have hP5 := hP4.onto hb5
      have hP6 := hP4.ref (cap' := cp2) hb5 hR5 hA5
      clear x0 x1 x2 x3 x4
      obtain ⟨x0, x1, x2, x3, x4⟩ := box_cells hP5.box
      have f0 := hP5.box.free 0
      have f1 := hP5.box.free 1
      have f2 := hP5.box.free 2
      have f3 := hP5.box.free 3
      have f4 := hP5.box.free 4
      generalize hu : fill5 v5 v1.heap.size (.int .i64 ((runs W seed T (j + 1)).wide : Int)) (.int .u64 ((runs W seed T (j + 1)).seed : Int)) (.slice (some ⟨R2, 0, none⟩) 4 cp2) (.slice (some ⟨D2, 0, none⟩) (runs W seed T (j + 1)).wide (runs W seed T (j + 1)).wide) (.int .i64 ((runs W seed T (j + 1)).added : Int)) = u at hP6
      have HU := Lib.hid hu
      unfold fill5 at HU
      clear hu hP4 hP5 hR5 hA5 hb5
      unfold refV
      go_upto_region 12 with (fail)
      rw [HU.out]
      clear x0 x1 x2 x3 x4 f0 f1 f2 f3 f4 HU
      obtain ⟨x0, x1, x2, x3, x4⟩ := box_cells hP6.box
      have hpd := hP6.drew
      have hpn := hP6
      go_region_held3 (fun w' => w'.cell? ⟨v1.heap.size, 0, none⟩ = some (.int .i64 ((runs W seed T (j + 1)).wide : Int)) ∧ w'.cell? ⟨v1.heap.size, 1, none⟩ = some (.int .u64 ((runs W seed T (j + 1)).seed : Int)) ∧ w'.cell? ⟨v1.heap.size, 2, none⟩ = some (.slice (some ⟨R2, 0, none⟩) 4 cp2) ∧ w'.cell? ⟨v1.heap.size, 3, none⟩ = some (.slice (some ⟨D2, 0, none⟩) (runs W seed T (j + 1)).wide (runs W seed T (j + 1)).wide) ∧ w'.cell? ⟨v1.heap.size, 4, none⟩ = some (.int .i64 ((runs W seed T (j + 1)).added : Int)) ∧ Pair w B v1.heap.size R2 cp2 D2 G2 (runs W seed T (j + 1)) (runs W seed T (j + 1)) w')
        (first | exact ⟨x0, x1, x2, x3, x4, hpd⟩ | exact keepP (by assumption) (by assumption) | exact keepPd (by assumption) | exact keepPn _ ⟨x0, x1, x2, x3, x4, hpn⟩ | exact keepPn _ (by assumption) | go_keep)
        (first | (go_at_call 11; refine (seen_run (T := T) q1 q2 h3 (j + 1) (T j) _ (sP (by assumption)).sk).mono ?_; rintro e v ⟨rfl, m, rfl⟩) | (go_at_call 12; refine (rseen_run (T := T) q1 q2 h3 (j + 1) (T j) _ (sP (by assumption)).rf).mono ?_; rintro e v ⟨rfl, hv⟩) | (go_at_call 15; refine (added_c _ (sP (by assumption)).sk).mono ?_; rintro e v' ⟨rfl, rfl⟩))
      have hPw : Pair w B v1.heap.size R2 cp2 D2 G2 (runs W seed T (j + 1)) (runs W seed T (j + 1)) v := sP (by assumption)
      clear x0 x1 x2 x3 x4 hpd hpn hP6
      go_wp2_with fail
      go_roundw
      case rel => exact ⟨j + 1, R2, cp2, D2, G2, by omega, by omega, rfl, hPw⟩
      case measure => simp [intOf]; omega
    · by_cases h1 : j < n
      · have d1 : decide ((j : Int) < (n : Int)) = true := decide_eq_true (by omega)
        have d2 : decide ((j : Int) < 200) = false := decide_eq_false (by omega)
        obtain ⟨x0, x1, x2, x3, x4⟩ := box_cells hQ.box
        have hpd := hQ.drew
        have htl := Wirey.toList_str
        have hexp := fun (v : World) (h : At v B (runs W seed T j)) => export_c v h (runs_wf (T := T) q1 q2 h3 j).pre
        have hput := fun (v : World) (h : Ref v R D G (runs W seed T j)) => rput_c (runs_wf (T := T) q1 q2 h3 j).pre (cap := cp) v h
        have hbq : ((runs W seed T j).put == (runs W seed T j).put) = true := beq_self_eq_true _
        go_wp2_with fail
        go_region_held3 (fun w' => w'.cell? ⟨v1.heap.size, 0, none⟩ = some (.int .i64 ((runs W seed T j).wide : Int)) ∧ w'.cell? ⟨v1.heap.size, 1, none⟩ = some (.int .u64 ((runs W seed T j).seed : Int)) ∧ w'.cell? ⟨v1.heap.size, 2, none⟩ = some (.slice (some ⟨R, 0, none⟩) 4 cp) ∧ w'.cell? ⟨v1.heap.size, 3, none⟩ = some (.slice (some ⟨D, 0, none⟩) (runs W seed T j).wide (runs W seed T j).wide) ∧ w'.cell? ⟨v1.heap.size, 4, none⟩ = some (.int .i64 ((runs W seed T j).added : Int)) ∧ Pair w B v1.heap.size R cp D G (runs W seed T j) (runs W seed T j) w')
          (first | exact ⟨x0, x1, x2, x3, x4, hpd⟩ | exact keepP (by assumption) (by assumption) | exact keepPd (by assumption) | exact keepPn _ ⟨x0, x1, x2, x3, x4, hQ⟩ | exact keepPn _ (by assumption) | go_keep)
          (first | (go_at_call 16; refine (hexp _ (sP (by assumption)).sk).mono ?_; rintro e v ⟨rfl, hv⟩) | (go_at_call 17; refine (hput _ (sP (by assumption)).rf).mono ?_; rintro e v ⟨rfl, hv⟩))
        have hPv : Pair w B v1.heap.size R cp D G (runs W seed T j) (runs W seed T j) v := sP (by assumption)
        go_wp2_with fail
        go_ret
        exact ⟨rfl, hPv.below⟩
      · have d1 : decide ((j : Int) < (n : Int)) = false := decide_eq_false (by omega)
        obtain ⟨x0, x1, x2, x3, x4⟩ := box_cells hQ.box
        have hpd := hQ.drew
        have htl := Wirey.toList_str
        have hexp := fun (v : World) (h : At v B (runs W seed T j)) => export_c v h (runs_wf (T := T) q1 q2 h3 j).pre
        have hput := fun (v : World) (h : Ref v R D G (runs W seed T j)) => rput_c (runs_wf (T := T) q1 q2 h3 j).pre (cap := cp) v h
        have hbq : ((runs W seed T j).put == (runs W seed T j).put) = true := beq_self_eq_true _
        go_wp2_with fail
        go_region_held3 (fun w' => w'.cell? ⟨v1.heap.size, 0, none⟩ = some (.int .i64 ((runs W seed T j).wide : Int)) ∧ w'.cell? ⟨v1.heap.size, 1, none⟩ = some (.int .u64 ((runs W seed T j).seed : Int)) ∧ w'.cell? ⟨v1.heap.size, 2, none⟩ = some (.slice (some ⟨R, 0, none⟩) 4 cp) ∧ w'.cell? ⟨v1.heap.size, 3, none⟩ = some (.slice (some ⟨D, 0, none⟩) (runs W seed T j).wide (runs W seed T j).wide) ∧ w'.cell? ⟨v1.heap.size, 4, none⟩ = some (.int .i64 ((runs W seed T j).added : Int)) ∧ Pair w B v1.heap.size R cp D G (runs W seed T j) (runs W seed T j) w')
          (first | exact ⟨x0, x1, x2, x3, x4, hpd⟩ | exact keepP (by assumption) (by assumption) | exact keepPd (by assumption) | exact keepPn _ ⟨x0, x1, x2, x3, x4, hQ⟩ | exact keepPn _ (by assumption) | go_keep)
          (first | (go_at_call 16; refine (hexp _ (sP (by assumption)).sk).mono ?_; rintro e v ⟨rfl, hv⟩) | (go_at_call 17; refine (hput _ (sP (by assumption)).rf).mono ?_; rintro e v ⟨rfl, hv⟩))
        have hPv : Pair w B v1.heap.size R cp D G (runs W seed T j) (runs W seed T j) v := sP (by assumption)
        go_wp2_with fail
        go_ret
        exact ⟨rfl, hPv.below⟩

set_option linter.unusedVariables false in
set_option maxRecDepth 100000 in
theorem sketchAdds_lifted (os : Os) (started : os.Started) (H : Type) (enc : TypeId × Value → H) :
    ReturnsInHanded {} Try.checked os 3 .any (Rows.sketchAddsSpec.pre6 enc Try.prog Try.f3 Rows.sketchAddsRow.domain false) (Rows.sketchAddsSpec.post enc Try.prog Try.f3 false true false false) := by
  refine returnsInHanded_of_change (C := Try.checked) Kit.own started (by kernel_rfl) Try.func3
    (ChangeSpec.witness6 (enc := enc) (C := Try.checked) false ⟨#[], #[.int .i64 0, .int .u64 0, .slice none 0 0], []⟩ 8 (by kernel_rfl) (by kernel_rfl) (by kernel_rfl) (by kernel_rfl)) ?_
  intro W base args ds gs before hval0 hW hcnd _
  have hval : ∀ (j : Nat) t v, Try.f3.params[j]? = some t → args[j]? = some v → Value.okWide Try.prog W .any base t v := hval0
  have hW' := hW
  obtain ⟨p, q, hA0, hV, rfl, hfz, hnd⟩ := hW
  have hA : DataW.TrodAll enc Try.prog W 0 (fun _ => true) true Try.f3.params.toList args.toList ds p := hA0
  rw [Try.params3] at hA hval
  obtain ⟨v0, vs0, d0, ds0, p0, q0, hargs, rfl, rfl, h0, r0⟩ := trodAll_cons hA
  obtain ⟨v1, vs1, d1, ds1, p1, q1, rfl, rfl, rfl, h1, r1⟩ := trodAll_cons r0
  obtain ⟨v2, vs2, d2, ds2, p2, q2, rfl, rfl, rfl, h2, r2⟩ := trodAll_cons r1
  obtain ⟨rfl, rfl, rfl⟩ := trodAll_nil r2
  obtain ⟨rfl, rfl⟩ := trodVars_none hV
  obtain rfl : args = #[v0, v1, v2] := by cases args; simp_all
  obtain ⟨a0, rfl, rfl, rfl, w0⟩ := open_int Try.underlying3 (hval 0 3 v0 rfl rfl) h0
  obtain ⟨a1, rfl, rfl, rfl, w1⟩ := open_int Try.underlying22 (hval 1 22 v1 rfl rfl) h1
  obtain ⟨b2, c2, e2, rfl⟩ := okWide_slice Try.underlying23 (hval 2 23 v2 rfl rfl)
  obtain ⟨fuel2, hf2⟩ := h2
  obtain ⟨ao2, len2, cap2, sb2, off2, tx2, hv2, ht2⟩ := Wirey.open_texts (show DataW.trod enc Try.prog W 0 (fun _ => true) true fuel2 23 [.slice b2 c2 e2] = some _ from hf2)
  injection hv2 with hv2x hv2y hv2z
  subst hv2x hv2y hv2z
  clear hA0 hval0
  refine (sketchAdds_walk a0 w0 a1 w1 _ _ _ _ _ _ W ht2).mono fun e W' ⟨he, hg⟩ => ?_
  subst he
  exact ⟨_, rfl, Kit.law_post hW' rfl (by kernel_rfl) rfl (by kernel_rfl) hg⟩

theorem sketchAdds_over : Rows.sketchAddsRow.holds Try.pinned (OpenSpec.ofChange Rows.sketchAddsSpec) :=
  OpenClaim.holds_of_wide 3 Try.f3 rfl rfl rfl rfl rfl rfl rfl ⟨rfl, rfl, rfl, rfl, rfl⟩ rfl rfl rfl rfl rfl (by kernel_rfl) Try.func3 (by kernel_rfl)
    (of_decide_eq_true (by kernel_rfl)) (by unfold Func.isWrapper; first | (rw [if_pos (by decide +kernel)]; kernel_rfl) | (rw [if_neg (by decide +kernel)]; exact ⟨rfl, rfl⟩))
    (fun os started H enc _ => sketchAdds_lifted os started H enc)

theorem sketchAdds_holds : Rows.SketchAddsSaid :=
  sketchAdds_over

end Go.Proofs.Ytlimoelknmbcgaa.Sketchy
