/- Layer 7 (arc): for every input the call returns true and leaves what it was given as it was: at most so many are kept; of those once asked for, with those that went from these, as many at most; of all twice as many; the target is among these (ArcBounds). No condition. -/
import Derived.Test.YtmmbenddganlmaaKit
import Derived.Test.YtmmbenddganlmaaArcLawNone
import Derived.Test.YtmmbenddganlmaaArcLists
import Derived.Test.YtmmbenddganlmaaArcActs
import Derived.Deep.CutBlock
import Derived.Deep.CutRange
import Derived.Deep.RegionHeld3
import Derived.Deep.QuietTactic
import Derived.BigQuiet
namespace Go.Proofs.Ytmmbenddganlmaa.Arcy
open Go.ChangeShapes Go.WideShapes Go.ChangeAt Go.RowKit Go.Shelf
open Wirey (Blk Row str str_size str_list str_of str_take Kp)
open Ringy Go.ChangeMaps Go.Maps

/-- Four rows in a block, beside an Arc. -/
structure Four (w0 : World) (A P g : Nat) (m : Rm) (v : Av) (a b c d : Value) (w : World) : Prop where
  h : HeldA w0 A P w m v
  b : Blk w g 63 #[a, b, c, d]
section
variable {w0 w : World} {A P g : Nat} {m : Rm} {v : Av} {a b c d : Value}
theorem Four.alloc (h : Four w0 A P g m v a b c d w) (o : Obj) : Four w0 A P g m v a b c d (w.alloc o) := ⟨h.h.alloc o, h.b.alloc o⟩
theorem Four.drewN (h : Four w0 A P g m v a b c d w) (n : Nat) : Four w0 A P g m v a b c d (w.drewN n) := ⟨h.h.drewN n, h.b⟩
theorem Four.drew (h : Four w0 A P g m v a b c d w) : Four w0 A P g m v a b c d w.drew := h.drewN 1
theorem Four.all (h : Four w0 A P g m v a b c d w) : w.cell? ⟨g, 0, none⟩ = some a ∧ w.cell? ⟨g, 1, none⟩ = some b ∧ w.cell? ⟨g, 2, none⟩ = some c ∧ w.cell? ⟨g, 3, none⟩ = some d ∧ Four w0 A P g m v a b c d w :=
  ⟨h.b.cell 0, h.b.cell 1, h.b.cell 2, h.b.cell 3, h⟩
theorem Four.last {x y z u : Prop} (h : x ∧ y ∧ z ∧ u ∧ Four w0 A P g m v a b c d w) : Four w0 A P g m v a b c d w := h.2.2.2.2
theorem four_len (h4 : Four w0 A P g m v a b c d w) :
    Calls Try.prog 36 #[.pointer (some ⟨A, 0, none⟩)] w fun e w' => e = .returned (.int .i64 ((v.len 0 : Int) + (v.len 1 : Int))) ∧ Four w0 A P g m v a b c d w' := by
  refine (lenA_c h4.h).mono ?_
  rintro e w' ⟨rfl, o, rfl⟩
  exact ⟨by unfold Av.kept; simp, h4.alloc o⟩
theorem four_target (h4 : Four w0 A P g m v a b c d w) :
    Calls Try.prog 37 #[.pointer (some ⟨A, 0, none⟩)] w fun e w' => e = .returned (.int .i64 (v.tgt : Int)) ∧ Four w0 A P g m v a b c d w' := by
  refine (target_c h4.h).mono ?_
  rintro e w' ⟨rfl, rfl⟩
  exact ⟨rfl, h4⟩
end
set_option maxHeartbeats 40000000 in
set_option maxRecDepth 100000 in
theorem arcBounds_walk (a0 : Int) (_w0 : (Lit.int .i64 a0).wf = true) (ao : Option Addr) (n cap sb off : Nat) (K : Nat → Int) (T : Nat → List UInt8) (w : World) (ht : Acts w ao n sb off K T) :
    Calls Try.prog 5 #[.int .i64 a0, .slice ao n cap] w fun e w' => e = .returned (.bool true) ∧ Below w.heap.size w w' := by
  obtain ⟨x, hx, hx2⟩ := and_nat a0 15 4 (by decide) (by omega)
  have hx : bits .and .i64 a0 15 = (x : Int) := hx
  have hn63 := ht.n63
  have hN := newA_c (n := 1 + x) (by omega) (by omega) w
  rw [Int.natCast_add] at hN
  have hm0 : (Av.new (1 + x)).most = 1 + x := rfl
  go_enter Try.func5, Try.ntmps5
  go_wp2_with fail
  refine hN.mono ?_
  rintro e w1 ⟨A, m, rfl, h1⟩
  go_wp2_with fail
  refine (awakeA_c _).mono ?_
  rintro e w2 ⟨rfl, hb2⟩
  have h2 := h1.later hb2 (Nat.le_refl _)
  clear h1 hb2 hN
  go_wp2_with fail
  go_loopw [8] (fun i wr => ∃ (j : Nat) (m : Rm) (v : Av), j ≤ n ∧ j ≤ 120 ∧ i = .int .i64 j ∧ HeldA w A (w.heap.size + 2) wr m v ∧ v.most = 1 + x) (fun i _ => 120 - (intOf i).toNat)
  case atStart => exact ⟨0, m, _, by omega, by omega, rfl, h2, hm0⟩
  case round =>
    obtain ⟨j, m, v, hjn, hj120, rfl, hH, hmo⟩ := hrel
    clear h2 hm0
    by_cases h1 : j < n ∧ j < 120
    · obtain ⟨h1, h120⟩ := h1
      have d1 : decide ((j : Int) < (n : Int)) = true := decide_eq_true (by omega)
      have d2 : decide ((j : Int) < 120) = true := decide_eq_true (by omega)
      have hao := ht.ao (by omega)
      have htw := ht.below hH.below (fun h => ht.lt h)
      have hcell := htw.key j h1
      have hkind := htw.kind j h1
      have hsize := ht.size j h1
      clear htw
      subst hao
      go_wp2_with fail
      refine (fewA_c (T j) hsize _).mono ?_
      rintro e w' ⟨rfl, rfl⟩
      have hfl := fewL_max (T j)
      generalize hkk : fewL (T j) = k at *
      clear hkk hcell hsize
      generalize K j = q at *
      go_upto_block 2 with (fail)
      go_cut [] from 46 to 57 (fun wx => ∃ (m' : Rm) (v' : Av), HeldA w A (w.heap.size + 2) wx m' v' ∧ v'.most = 1 + x)
      case first =>
        by_cases h6 : q = 6
        · subst h6
          go_wp2_with fail
          refine (remove_c hfl hH).mono ?_
          rintro e w3 ⟨rfl, m3, h3, -⟩
          go_wp2_with fail
          go_meet
          exact ⟨m3, _, h3, hmo⟩
        · have b6 : (q == 6) = false := beq_eq_false_iff_ne.2 h6
          by_cases h7 : q = 7
          · subst h7
            go_wp2_with fail
            refine (evict_c hH).mono ?_
            rintro e w3 ⟨rfl, m3, h3, -⟩
            go_wp2_with fail
            go_meet
            exact ⟨m3, _, h3, by rw [← hmo]; unfold Av.repl; split <;> rfl⟩
          · have b7 : (q == 7) = false := beq_eq_false_iff_ne.2 h7
            go_wp2_with fail
            refine (insert_c hfl hH).mono ?_
            rintro e w3 ⟨val, m3, rfl, h3, -, -⟩
            go_wp2_with fail
            go_meet
            exact ⟨m3, _, h3, (Av.insert_ok hH.ok k).2.trans hmo⟩
      case rest =>
        obtain ⟨m3, v3, h3, hmo3⟩ := hcut
        clear hH hmo v
        go_wp2_with fail
        refine (listsA_c h3).mono ?_
        rintro e w4 ⟨V, rfl, hR, hb4⟩
        have h4 := h3.later hb4 (Nat.le_refl _)
        obtain ⟨a0', c0, v0⟩ := own_form (hR 0 (by omega))
        obtain ⟨a1', c1, v1⟩ := own_form (hR 1 (by omega))
        obtain ⟨a2', c2, v2⟩ := own_form (hR 2 (by omega))
        obtain ⟨a3', c3, v3e⟩ := own_form (hR 3 (by omega))
        have hF : Four w A (w.heap.size + 2) w4.heap.size m3 v3 (V 0) (V 1) (V 2) (V 3) (w4.alloc (.cells #[V 0, V 1, V 2, V 3] 63)) := ⟨h4.alloc _, Blk.new w4 _ _⟩
        have hok := h4.ok
        have q1 : v3.len 0 + v3.len 1 ≤ 1 + x := by rw [← hmo3]; exact hok.kept
        have q2 : v3.len 0 + v3.len 2 ≤ 1 + x := by rw [← hmo3]; exact hok.one
        have q3 : v3.len 0 + v3.len 1 + v3.len 2 + v3.len 3 ≤ 2 * (1 + x) := by rw [← hmo3]; exact hok.all
        have q4 : v3.tgt ≤ 1 + x := by rw [← hmo3]; exact hok.t
        have fl := fun W (h : Four w A (w.heap.size + 2) w4.heap.size m3 v3 (V 0) (V 1) (V 2) (V 3) W) => four_len h
        have ft := fun W (h : Four w A (w.heap.size + 2) w4.heap.size m3 v3 (V 0) (V 1) (V 2) (V 3) W) => four_target h
        have HMO := Lib.hid hmo3
        clear hR h3 hb4 h4 hok hmo3
        rw [v0, v1, v2, v3e] at hF fl ft
        go_upto_region 16 with (fail)
        clear v0 v1 v2 v3e
        generalize w4.alloc (.cells #[.slice a0' (v3.len 0) c0, .slice a1' (v3.len 1) c1, .slice a2' (v3.len 2) c2, .slice a3' (v3.len 3) c3] 63) = w5 at *
        have hFd := hF.drew
        have hFa := hFd.all
        have HF := Lib.hid hF
        generalize v3.len 0 = p0 at *
        generalize v3.len 1 = p1 at *
        generalize v3.len 2 = p2 at *
        generalize v3.len 3 = p3 at *
        generalize v3.tgt = tg at *
        have e1 : decide (1 + (x : Int) < (p0 : Int) + (p1 : Int)) = false := decide_eq_false (by omega)
        have e2 : decide (1 + (x : Int) < (p0 : Int) + (p2 : Int)) = false := decide_eq_false (by omega)
        have e3 : decide (2 * (1 + (x : Int)) < (p0 : Int) + (p1 : Int) + (p2 : Int) + (p3 : Int)) = false := decide_eq_false (by omega)
        have e4 : decide ((tg : Int) < 0) = false := decide_eq_false (by omega)
        have e5 : decide (1 + (x : Int) < (tg : Int)) = false := decide_eq_false (by omega)
        have u1 : IntKind.i64.wrap ((p0 : Int) + (p1 : Int)) = (p0 : Int) + (p1 : Int) := by rw [IntKind.wrap_i64]; omega
        have u2 : IntKind.i64.wrap ((p0 : Int) + (p2 : Int)) = (p0 : Int) + (p2 : Int) := by rw [IntKind.wrap_i64]; omega
        have u3 : IntKind.i64.wrap ((p0 : Int) + (p1 : Int) + (p2 : Int)) = (p0 : Int) + (p1 : Int) + (p2 : Int) := by rw [IntKind.wrap_i64]; omega
        have u4' : IntKind.i64.wrap ((p0 : Int) + (p1 : Int) + (p2 : Int) + (p3 : Int)) = (p0 : Int) + (p1 : Int) + (p2 : Int) + (p3 : Int) := by rw [IntKind.wrap_i64]; omega
        have u5' : IntKind.i64.wrap (2 * (1 + (x : Int))) = 2 * (1 + (x : Int)) := by rw [IntKind.wrap_i64]; omega
        go_region_held3 (fun W => W.cell? ⟨w4.heap.size, 0, none⟩ = some (.slice a0' p0 c0) ∧ W.cell? ⟨w4.heap.size, 1, none⟩ = some (.slice a1' p1 c1) ∧ W.cell? ⟨w4.heap.size, 2, none⟩ = some (.slice a2' p2 c2) ∧ W.cell? ⟨w4.heap.size, 3, none⟩ = some (.slice a3' p3 c3) ∧ Four w A (w.heap.size + 2) w4.heap.size m3 v3 (.slice a0' p0 c0) (.slice a1' p1 c1) (.slice a2' p2 c2) (.slice a3' p3 c3) W)
          (first | exact hFa | exact Four.all (by assumption) | exact (Four.drewN hF _).all)
          (first | (go_at_call 36; refine (fl _ (Four.last (by assumption))).mono ?_; rintro e wv ⟨rfl, hwv⟩) | (go_at_call 37; refine (ft _ (Four.last (by assumption))).mono ?_; rintro e wv ⟨rfl, hwv⟩))
        have hx4 := Four.last (by assumption : _ ∧ _ ∧ _ ∧ _ ∧ Four w A (w.heap.size + 2) w4.heap.size m3 v3 (.slice a0' p0 c0) (.slice a1' p1 c1) (.slice a2' p2 c2) (.slice a3' p3 c3) _)
        have hx5 := hx4.h
        clear u1 u2 u3 u4' u5' hx4 hFa hFd hF fl ft
        go_wp2_with fail
        go_roundw
        case rel => exact ⟨j + 1, m3, v3, by omega, by omega, by simp, hx5, HMO.out⟩
        case measure => simp [intOf]; omega
    · have hend : (j < n ∧ ¬ j < 120 ∧ decide ((j : Int) < (n : Int)) = true ∧ decide ((j : Int) < 120) = false) ∨ (¬ j < n ∧ decide ((j : Int) < (n : Int)) = false) := by
        by_cases h : j < n
        · exact .inl ⟨h, by omega, decide_eq_true (by omega), decide_eq_false (by omega)⟩
        · exact .inr ⟨h, decide_eq_false (by omega)⟩
      clear h1
      rcases hend with ⟨h2, h3, d1, d2⟩ | ⟨h2, d1⟩
      all_goals
        go_wp2_with fail
        go_ret
        exact ⟨rfl, hH.below⟩
set_option linter.unusedVariables false in
set_option maxRecDepth 100000 in
theorem arcBounds_lifted (os : Os) (started : os.Started) (H : Type) (enc : TypeId × Value → H) :
    ReturnsInHanded {} Try.checked os 5 .any (Rows.arcBoundsSpec.pre6 enc Try.prog Try.f5 Rows.arcBoundsRow.domain false) (Rows.arcBoundsSpec.post enc Try.prog Try.f5 false true false false) := by
  refine returnsInHanded_of_change (C := Try.checked) Kit.own started (by kernel_rfl) Try.func5
    (ChangeSpec.witness6 (enc := enc) (C := Try.checked) false ⟨#[], #[.int .i64 0, .slice none 0 0], []⟩ 8 (by kernel_rfl) (by kernel_rfl) (by kernel_rfl) (by kernel_rfl)) ?_
  intro W base args ds gs before hval0 hW hcnd _
  have hval : ∀ (j : Nat) t v, Try.f5.params[j]? = some t → args[j]? = some v → Value.okWide Try.prog W .any base t v := hval0
  have hW' := hW
  obtain ⟨p, q, hA0, hV, rfl, hfz, hnd⟩ := hW
  have hA : DataW.TrodAll enc Try.prog W 0 (fun _ => true) true Try.f5.params.toList args.toList ds p := hA0
  rw [Try.params5] at hA hval
  obtain ⟨v0, vs0, d0, ds0, p0, q0, hargs, rfl, rfl, h0, r0⟩ := trodAll_cons hA
  obtain ⟨v1, vs1, d1, ds1, p1, q1, rfl, rfl, rfl, h1, r1⟩ := trodAll_cons r0
  obtain ⟨rfl, rfl, rfl⟩ := trodAll_nil r1
  obtain ⟨rfl, rfl⟩ := trodVars_none hV
  obtain rfl : args = #[v0, v1] := by cases args; simp_all
  obtain ⟨a0, rfl, rfl, rfl, w0⟩ := open_int Try.underlying3 (hval 0 3 v0 rfl rfl) h0
  obtain ⟨b1, c1, e1, rfl⟩ := okWide_slice Try.underlying46 (hval 1 46 v1 rfl rfl)
  obtain ⟨fuel1, hf1⟩ := h1
  obtain ⟨ao1, len1, cap1, sb1, off1, kx1, tx1, hv1, ht1⟩ := open_acts (show DataW.trod enc Try.prog W 0 (fun _ => true) true fuel1 46 [.slice b1 c1 e1] = some _ from hf1)
  injection hv1 with hv1x hv1y hv1z
  subst hv1x hv1y hv1z
  clear hA0 hval0
  refine (arcBounds_walk a0 w0 _ _ _ _ _ _ _ W ht1).mono fun e W' ⟨he, hg⟩ => ?_
  subst he
  exact ⟨_, rfl, Kit.law_post hW' rfl (by kernel_rfl) rfl (by kernel_rfl) hg⟩

theorem arcBounds_over : Rows.arcBoundsRow.holds Try.pinned (OpenSpec.ofChange Rows.arcBoundsSpec) :=
  OpenClaim.holds_of_wide 5 Try.f5 rfl rfl rfl rfl rfl rfl rfl ⟨rfl, rfl, rfl, rfl, rfl⟩ rfl rfl rfl rfl rfl (by kernel_rfl) Try.func5 (by kernel_rfl)
    (of_decide_eq_true (by kernel_rfl)) (by unfold Func.isWrapper; first | (rw [if_pos (by decide +kernel)]; kernel_rfl) | (rw [if_neg (by decide +kernel)]; exact ⟨rfl, rfl⟩))
    (fun os started H enc _ => arcBounds_lifted os started H enc)

theorem arcBounds_holds : Rows.ArcBoundsSaid :=
  arcBounds_over

end Go.Proofs.Ytmmbenddganlmaa.Arcy
