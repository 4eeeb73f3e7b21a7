/- Layer 6 (ring): for every input the call returns true and leaves what it was given as it was: who goes over keys may stop anywhere (RingStops). No condition. -/
import Derived.Test.YtcainhhjmgjfcaaKit
import Derived.Test.YtcainhhjmgjfcaaTexts
import Derived.Test.YtcainhhjmgjfcaaRingHeld
import Derived.Deep.QuietTactic
import Derived.BigQuiet
import Derived.Test.YtcainhhjmgjfcaaRingLawNone
namespace Go.Proofs.Ytcainhhjmgjfcaa.Ringy
open Go.ChangeShapes Go.WideShapes Go.ChangeAt Go.RowKit Go.Shelf
open Wirey (Blk Row str str_size str_list str_of str_take Kp Texts)
open Go.ChangeMaps Go.Maps

attribute [local go_sem] Oper.semAt_some

set_option maxHeartbeats 4000000 in
set_option maxRecDepth 100000 in
theorem ringStops_walk (ao : Option Addr) (n cap sb off : Nat) (T : Nat → List UInt8) (w : World) (ht : Texts w ao n sb off T) (a1 : Int) (_w1 : (Lit.int .i64 a1).wf = true) :
    Calls Try.prog 5 #[.slice ao n cap, .int .i64 a1] w fun e w' => e = .returned (.bool true) ∧ Below w.heap.size w w' := by
  obtain ⟨q, hq, hq2⟩ := and_nat a1 31 5 (by decide) (by omega)
  have hq : bits .and .i64 a1 31 = (q : Int) := hq
  have hn63 := ht.n63
  have hnew := fun W : World => new_h (n := 1) (places := 40) (by omega) (by omega) (by omega) W
  have hb1 := (Below.refl _ w).alloc (Nat.le_refl _) (.cells #[.int .i64 a1] 3)
  have hbox1 := Blk.new w 3 #[.int .i64 a1]
  have hs1 : (w.alloc (.cells #[.int .i64 a1] 3)).heap.size = w.heap.size + 1 := by simp
  refine calls_marks Try.func5 rfl ?_
  simp only [Try.ntmps5, List.size_toArray, List.length_cons, List.length_nil, Nat.reduceAdd, Nat.reduceSub, Array.replicate_succ, Array.replicate_zero, List.push_toArray, List.append_toArray, List.nil_append, List.cons_append]
  go_wp2_with fail
  have HB1 := Lib.hid hb1
  have HS1 := Lib.hid hs1
  clear hb1 hs1
  generalize w.alloc (.cells #[.int .i64 a1] 3) = w1 at *
  refine (hnew _).mono ?_
  clear hnew
  rintro e w2 ⟨rfl, m, hH⟩
  go_wp2_with fail
  refine (awake_c _).mono ?_
  rintro e w3 ⟨rfl, hb3⟩
  have hH3 := hH.later hb3 (Nat.le_refl _)
  clear hH hb3
  go_wp2_with fail
  go_loopw [7] (fun i wr => ∃ (j : Nat) (m : Rm) (r : Rg), j ≤ n ∧ j ≤ 30 ∧ i = .int .i64 j ∧ Held w1 (w1.heap.size + 2) wr m r ∧ r.n = 1) (fun i _ => 30 - (intOf i).toNat)
  case atStart => exact ⟨0, m, _, by omega, by omega, rfl, hH3, rfl⟩
  case round =>
    obtain ⟨j, m, r, hjn, hj30, rfl, hU, hrn⟩ := hrel
    clear hH3
    have hW : Below w.heap.size w wr := HB1.out.trans (hU.below.mono (by have := HS1.out; omega))
    have HRN := Lib.hid hrn
    clear hrn
    by_cases h1 : j < n ∧ j < 30
    · obtain ⟨h1, h30⟩ := h1
      have d1 : decide ((j : Int) < (n : Int)) = true := decide_eq_true (by omega)
      have d2 : decide ((j : Int) < 30) = true := decide_eq_true (by omega)
      have hao := ht.ao (by omega)
      have hcell := (ht.below hW (fun h => ht.lt h)).cell j h1
      have hsize := ht.size j h1
      subst hao
      go_wp2_with fail
      refine (few_c (T j) hsize _).mono ?_
      rintro e w' ⟨rfl, rfl⟩
      go_wp2_with fail
      refine (front_h 0 (fewL_max _) hU).mono ?_
      rintro e w4 ⟨rfl, m', hU', -⟩
      go_wp2_with fail
      go_roundw
      case rel => exact ⟨j + 1, m', _, by omega, by omega, rfl, hU', (Rg.fr_n r 0 _).1.trans HRN.out⟩
      case measure => simp [intOf]; omega
    · have hend : (j < n ∧ ¬ j < 30 ∧ decide ((j : Int) < (n : Int)) = true ∧ decide ((j : Int) < 30) = false) ∨ (¬ j < n ∧ decide ((j : Int) < (n : Int)) = false) := by
        by_cases h : j < n
        · exact .inl ⟨h, by omega, decide_eq_true (by omega), decide_eq_false (by omega)⟩
        · exact .inr ⟨h, decide_eq_false (by omega)⟩
      have hr0 : 0 < r.n := by have := HRN.out; omega
      have hll := hU.len_le hr0
      have HR0 := Lib.hid hr0
      clear h1 hr0
      rcases hend with ⟨h2, h3, d1, d2⟩ | ⟨h2, d1⟩
      all_goals
        go_wp2_with fail
        refine (keys_h 0 HR0.out (hU.alloc (.cells #[.int .i64 0] 3))).mono ?_
        rintro e w5 ⟨B, rfl, hbox, hb5, hH5⟩
        have bk : Blk w5 wr.heap.size 3 #[.int .i64 ((0 : Nat) : Int)] := (Blk.new wr 3 #[.int .i64 0]).below hb5 (by simp)
        have bn : Blk w5 w.heap.size 3 #[.int .i64 a1] := hbox1.below hH5.below (by have := HS1.out; omega)
        have hlt5 : wr.heap.size < w5.heap.size := bk.lt
        have hltn : w.heap.size < wr.heap.size := by have := hU.below.size; have := HS1.out; omega
        have HO := Lib.hid (fun b (hb : b = wr.heap.size) => (⟨by have := hU.below.size; omega, fun ho => by have := hU.lt b ho; omega⟩ : w1.heap.size ≤ b ∧ ¬ m.own b))
        go_wp2_with fail
        apply range_keys (B := B) (l := r.l 0) (I := fun pre W => pre.length ≤ q ∧ Blk W wr.heap.size 3 #[.int .i64 (pre.length : Int)] ∧ Kp (fun b => b = wr.heap.size) w5 W) (Ix := fun c pre W => c = .exit 2 ∧ pre.length = q + 1 ∧ Blk W wr.heap.size 3 #[.int .i64 (q : Int)] ∧ Kp (fun b => b = wr.heap.size) w5 W)
        case hg => rfl
        case hbox => exact hbox
        case hlen => omega
        case hps => rfl
        case hI => exact own_kp (O := fun b => b = wr.heap.size) (fun s W h => h.2.2) (fun s W W' h hk hb => ⟨h.1, (hb _ hlt5).trans h.2.1, hk⟩)
        case hIx => exact fun c => own_kp (O := fun b => b = wr.heap.size) (fun s W h => h.2.2.2) (fun s W W' h hk hb => ⟨h.1, h.2.1, (hb _ hlt5).trans h.2.2.1, hk⟩)
        case h0 => exact ⟨Nat.zero_le _, bk, Kp.refl _ _⟩
        case hassign =>
          intro r x W K hK
          gi_wp2
          exact hK
        case hbody =>
          rintro v hv rr pre x W ⟨hpq, hbk, hkp⟩ hlen
          have ck := hbk.cell 0
          have fk := hbk.free 0
          have cn := (hkp.blk bn (by omega)).cell 0
          simp only [List.getElem?_toArray, List.getElem?_cons_zero] at ck cn
          gi_wp2
          · rename_i hx
            have e : pre.length = q := by have := eq_of_beq hx; omega
            exact ⟨KeepsFrom.refl _ _, rfl, by simp [e], by rw [← e]; exact hbk, hkp⟩
          · rename_i hx
            have e : pre.length ≠ q := fun e => by rw [e] at hx; simp at hx
            refine ⟨(KeepsOthers.setCell _ _ _).from _, rowK_set (fun g hg => by have := (hv g hg).1; simp at this; show g ≠ wr.heap.size; omega) _, by simp; omega, ?_, hkp.set (p := ⟨wr.heap.size, 0, none⟩) rfl _⟩
            have := blk_put1 (v := .int .i64 ((pre.length : Int) + 1)) hbk
            simpa using this
        case hstop =>
          rintro D c pre W hD hpre ⟨rfl, hpl, hbk, hkp⟩ hK
          have hle := hpre.length_le
          have hmin : min (q : Int) ((r.l 0).length : Int) = (q : Int) := by omega
          have hH := hH5.kp hkp HO.out
          have HK := Lib.hid hK
          have HD : Hid (w.heap.size ≤ D) := Lib.hid (by omega)
          have HB : Below w.heap.size w W := HB1.out.trans (hH.below.mono (by have := HS1.out; omega))
          clear hK hD
          have cn := (hkp.blk bn (by omega)).cell 0
          have ck := hbk.cell 0
          simp only [List.getElem?_toArray, List.getElem?_cons_zero] at ck cn
          have hlen0 := fun n => flop (len_h 0 HR0.out (hH.drewN n))
          go_wp2_with fail
          go_quiet (first | (go_at_call 23; exact Calls.quiet_of_same (hlen0 _)))
          go_wp2_with fail
          all_goals refine leave_marks (B := w.heap.size) (fun _ => results_tmp rfl _ _ _) _ _ ⟨⟨D, rfl, HD.out, HK.out, by simp⟩, trivial⟩ (fun W' hb' => ⟨?_, Below.trans (b := W.drewN nq) ⟨HB.os, HB.tape, HB.output, HB.size, HB.block⟩ hb'⟩)
          all_goals first | rfl | (refine congrArg Ending.returned (congrArg Value.bool ?_); show (((r.l 0).length : Int) == (q : Int)) = true; rw [beq_iff_eq]; omega)
        case hdone =>
          rintro D W hD ⟨hpq, hbk, hkp⟩ hK
          have hmin : min (q : Int) ((r.l 0).length : Int) = ((r.l 0).length : Int) := by omega
          have hH := hH5.kp hkp HO.out
          have HK := Lib.hid hK
          have HD : Hid (w.heap.size ≤ D) := Lib.hid (by omega)
          have HB : Below w.heap.size w W := HB1.out.trans (hH.below.mono (by have := HS1.out; omega))
          clear hK hD
          have cn := (hkp.blk bn (by omega)).cell 0
          have ck := hbk.cell 0
          simp only [List.getElem?_toArray, List.getElem?_cons_zero] at ck cn
          have hlen0 := fun n => flop (len_h 0 HR0.out (hH.drewN n))
          go_wp2_with fail
          go_quiet (first | (go_at_call 23; exact Calls.quiet_of_same (hlen0 _)))
          go_wp2_with fail
          all_goals refine leave_marks (B := w.heap.size) (fun _ => results_tmp rfl _ _ _) _ _ ⟨⟨D, rfl, HD.out, HK.out, by simp⟩, trivial⟩ (fun W' hb' => ⟨?_, Below.trans (b := W.drewN nq) ⟨HB.os, HB.tape, HB.output, HB.size, HB.block⟩ hb'⟩)
          all_goals first | rfl | (refine congrArg Ending.returned (congrArg Value.bool ?_); show (((r.l 0).length : Int) == (q : Int)) = true; rw [beq_iff_eq]; omega)

set_option linter.unusedVariables false in
set_option maxRecDepth 100000 in
theorem ringStops_lifted (os : Os) (started : os.Started) (H : Type) (enc : TypeId × Value → H) :
    ReturnsInHanded {} Try.checked os 5 .any (Rows.ringStopsSpec.pre6 enc Try.prog Try.f5 Rows.ringStopsRow.domain false) (Rows.ringStopsSpec.post enc Try.prog Try.f5 false true false false) := by
  refine returnsInHanded_of_change (C := Try.checked) Kit.own started (by kernel_rfl) Try.func5
    (ChangeSpec.witness6 (enc := enc) (C := Try.checked) false ⟨#[], #[.slice none 0 0, .int .i64 0], []⟩ 8 (by kernel_rfl) (by kernel_rfl) (by kernel_rfl) (by kernel_rfl)) ?_
  intro W base args ds gs before hval0 hW hcnd _
  have hval : ∀ (j : Nat) t v, Try.f5.params[j]? = some t → args[j]? = some v → Value.okWide Try.prog W .any base t v := hval0
  have hW' := hW
  obtain ⟨p, q, hA0, hV, rfl, hfz, hnd⟩ := hW
  have hA : DataW.TrodAll enc Try.prog W 0 (fun _ => true) true Try.f5.params.toList args.toList ds p := hA0
  rw [Try.params5] at hA hval
  obtain ⟨v0, vs0, d0, ds0, p0, q0, hargs, rfl, rfl, h0, r0⟩ := trodAll_cons hA
  obtain ⟨v1, vs1, d1, ds1, p1, q1, rfl, rfl, rfl, h1, r1⟩ := trodAll_cons r0
  obtain ⟨rfl, rfl, rfl⟩ := trodAll_nil r1
  obtain ⟨rfl, rfl⟩ := trodVars_none hV
  obtain rfl : args = #[v0, v1] := by cases args; simp_all
  obtain ⟨b0, c0, e0, rfl⟩ := okWide_slice Try.underlying49 (hval 0 49 v0 rfl rfl)
  obtain ⟨fuel0, hf0⟩ := h0
  obtain ⟨ao0, len0, cap0, sb0, off0, tx0, hv0, ht0⟩ := Wirey.open_texts (show DataW.trod enc Try.prog W 0 (fun _ => true) true fuel0 49 [.slice b0 c0 e0] = some _ from hf0)
  injection hv0 with hv0x hv0y hv0z
  subst hv0x hv0y hv0z
  obtain ⟨a1, rfl, rfl, rfl, w1⟩ := open_int Try.underlying3 (hval 1 3 v1 rfl rfl) h1
  clear hA0 hval0
  refine (ringStops_walk _ _ _ _ _ _ W ht0 a1 w1).mono fun e W' ⟨he, hg⟩ => ?_
  subst he
  exact ⟨_, rfl, Kit.law_post hW' rfl (by kernel_rfl) rfl (by kernel_rfl) hg⟩

theorem ringStops_over : Rows.ringStopsRow.holds Try.pinned (OpenSpec.ofChange Rows.ringStopsSpec) :=
  OpenClaim.holds_of_wide 5 Try.f5 rfl rfl rfl rfl rfl rfl rfl ⟨rfl, rfl, rfl, rfl, rfl⟩ rfl rfl rfl rfl rfl (by kernel_rfl) Try.func5 (by kernel_rfl)
    (of_decide_eq_true (by kernel_rfl)) (by unfold Func.isWrapper; first | (rw [if_pos (by decide +kernel)]; kernel_rfl) | (rw [if_neg (by decide +kernel)]; exact ⟨rfl, rfl⟩))
    (fun os started H enc _ => ringStops_lifted os started H enc)

theorem ringStops_holds : Rows.RingStopsSaid :=
  ringStops_over

end Go.Proofs.Ytcainhhjmgjfcaa.Ringy
