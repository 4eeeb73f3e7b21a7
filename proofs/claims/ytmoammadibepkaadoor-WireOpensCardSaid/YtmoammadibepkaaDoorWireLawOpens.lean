/- Layer 3 (wire): for every input the call returns true and leaves what it was given as it was: whatever bytes there are, they are a frame, or refused with the first error (WireOpens). Condition: the table of halves holds what the program's text lays (the card ties it). -/
import Derived.Test.YtmoammadibepkaaDoorWireLaid
import Derived.Test.YtmoammadibepkaaDoorWireSame
import Derived.Test.YtmoammadibepkaaDoorWireRefOpen
namespace Go.Proofs.YtmoammadibepkaaDoor.Wirey
open Go.ChangeShapes Go.WideShapes Go.ChangeAt Go.RowKit Go.ChangeMaps

/-- What bytes have, if they are a frame, and why they are none: as the document has it. -/
def openF : List UInt8 → List UInt8 × Nat
  | [] => ([], 4)
  | v :: l1 =>
    if v ≠ 49 then ([], 6)
    else if nErr l1 65536 ≠ 0 then ([], nErr l1 65536)
    else if l1.length < (numF l1).2.1 + (numF l1).1 then ([], 4)
    else if (l1.drop ((numF l1).2.1 + (numF l1).1)).length < 4 then ([], 4)
    else if (l1.drop ((numF l1).2.1 + (numF l1).1)).take 4 ≠ four (chk ((49 :: l1).take (l1.length + 1 - (l1.drop ((numF l1).2.1 + (numF l1).1)).length))) then ([], 6)
    else if (l1.drop ((numF l1).2.1 + (numF l1).1)).drop 4 ≠ [] then ([], 5)
    else ((l1.drop (numF l1).2.1).take (numF l1).1, 0)
theorem openF_eq (hSame : ∀ l, numR l = numF l) (f : List UInt8) : openR f = openF f := by
  rcases f with _ | ⟨v, l1⟩
  · rfl
  · unfold openR openF
    dsimp only
    rw [hSame l1]
    by_cases hv : v ≠ 49
    · rw [if_pos hv, if_pos hv]
    rw [if_neg hv, if_neg hv]
    unfold nErr
    by_cases h2 : (numF l1).2.2 ≠ 0
    · rw [if_pos h2, if_pos h2, if_pos h2]
    rw [if_neg h2, if_neg h2]
    by_cases h3 : 65536 < (numF l1).1
    · rw [if_pos h3, if_pos h3, if_pos (show (3 : Nat) ≠ 0 by decide)]
    · rw [if_neg h3, if_neg h3, if_neg (show ¬ ((0 : Nat) ≠ 0) by decide)]
theorem refopen_c (f : List UInt8) (hl : f.length < 549755813888) (w : World) :
    Calls Tryd.prog 30 #[.string (str f)] w fun e w' => e = .returned (.tuple #[.string (str (openF f).1), .int .i64 ((openF f).2 : Int)]) ∧ Below w.heap.size w w' := by
  rcases f with _ | ⟨v, l1⟩
  · exact ropen_none w
  · rw [List.length_cons] at hl
    unfold openF
    dsimp only
    by_cases hv : v ≠ 49
    · rw [if_pos hv]; exact ropen_version hv w
    rw [if_neg hv]
    obtain rfl : v = 49 := Classical.not_not.1 hv
    by_cases he : nErr l1 65536 ≠ 0
    · rw [if_pos he]; exact ropen_bad (by omega) he w
    rw [if_neg he]
    obtain ⟨n, k, e0, hF⟩ : ∃ n k e0, numF l1 = (n, k, e0) := ⟨_, _, _, rfl⟩
    have he0 : nErr l1 65536 = 0 := Classical.not_not.1 he
    have h5 : e0 = 0 ∧ ¬ 65536 < n := by
      unfold nErr at he0
      rw [hF] at he0
      by_cases h : e0 ≠ 0
      · rw [if_pos h] at he0; exact absurd he0 h
      · rw [if_neg h] at he0
        refine ⟨by omega, fun ht => ?_⟩
        rw [if_pos ht] at he0; simp at he0
    obtain ⟨rfl, ht⟩ := h5
    rw [hF]
    dsimp only
    by_cases hs : l1.length < k + n
    · rw [if_pos hs]; exact ropen_tshort (by omega) hF (by omega) hs w
    rw [if_neg hs]
    by_cases h4 : (l1.drop (k + n)).length < 4
    · rw [if_pos h4]; exact ropen_short (by omega) hF (by omega) (by omega) h4 w
    rw [if_neg h4]
    by_cases hc : (l1.drop (k + n)).take 4 ≠ four (chk ((49 :: l1).take (l1.length + 1 - (l1.drop (k + n)).length)))
    · rw [if_pos hc]; exact ropen_check (by omega) hF (by omega) (by omega) (by omega) hc w
    rw [if_neg hc]
    have hc' := Classical.not_not.1 hc
    by_cases hm : (l1.drop (k + n)).drop 4 ≠ []
    · rw [if_pos hm]; exact ropen_left (by omega) hF (by omega) (by omega) (by omega) hc' hm w
    rw [if_neg hm]
    exact ropen_ok (by omega) hF (by omega) (by omega) (by omega) hc' (Classical.not_not.1 hm) w

set_option maxHeartbeats 4000000 in
theorem wireOpens_gen (hSame : ∀ l, numR l = numF l) (a0 : ByteArray) (w0 : a0.size ≤ maxLen) (w : World) (hT : Halves w) :
    Calls Tryd.prog 7 #[.string a0] w fun e w' => e = .returned (.bool true) ∧ Below w.heap.size w w' := by
  obtain ⟨l, rfl⟩ : ∃ l, a0 = str l := ⟨_, str_of a0⟩
  rw [str_size] at w0
  have hsz := str_size
  have htl := toList_str
  have HT := Lib.hid hT
  have hle := fewL_le l
  have HE := Lib.hid (openF_eq hSame (fewL l))
  clear hT hSame
  go_enter Tryd.func7, Tryd.ntmps7
  go_wp2_with fail
  refine (few_c l w0 _).mono ?_
  rintro e w' ⟨rfl, rfl⟩
  go_wp2_with fail
  refine (open_c _ (by omega) _ HT.out).mono ?_
  rintro e v1 ⟨rfl, hb1⟩
  rw [HE.out]
  go_wp2_with fail
  refine (few_c l w0 _).mono ?_
  rintro e w' ⟨rfl, rfl⟩
  go_wp2_with fail
  refine (refopen_c _ (by omega) _).mono ?_
  rintro e v2 ⟨rfl, hb2⟩
  have hb12 := hb1.trans (hb2.mono hb1.size)
  go_wp2_with fail
  refine (awake_c _ (HT.out.below hb12 HT.out.lt)).mono ?_
  rintro e v3 ⟨rfl, hb3⟩
  go_wp2_with fail
  go_ret
  exact ⟨by simp, hb12.trans (hb3.mono hb12.size)⟩

set_option linter.unusedVariables false in
set_option maxRecDepth 100000 in
theorem wireOpens_lifted (os : Os) (started : os.Started) (H : Type) (enc : TypeId × Value → H) :
    ReturnsInHanded {} Tryd.checked os 7 .any (fun w args => (Rows.wireOpensSpec.pre enc Tryd.prog Tryd.f7 [] false w args ∧ laidMetH Tryd.prog laidAll w) ∧ sizedMet enc Tryd.prog Tryd.f7 (OpenSpec.ofChange Rows.wireOpensSpec) false w args) (Rows.wireOpensSpec.post enc Tryd.prog Tryd.f7 false true false false) := by
  refine returnsInHanded_of_change_and (C := Tryd.checked) (X := fun w _ => laidMetH Tryd.prog laidAll w) (fun _ _ _ hh h => h.of_heap hh) Kit.own started (by kernel_rfl) Tryd.func7
    (ChangeSpec.witness_shaped (enc := enc) (C := Tryd.checked) (os := os) (X := fun w _ => laidMetH Tryd.prog laidAll w) false (World.doorLaid Tryd.prog 400 os) #[.string ⟨#[]⟩] 8 rfl (World.shaped_of_RefB (by kernel_rfl) (by kernel_rfl)) (by kernel_rfl) (by kernel_rfl) (by kernel_rfl) (door_met os _)) ?_
  intro W base args ds gs before hval0 hW _ _ hL _
  have hval : ∀ (j : Nat) t v, Tryd.f7.params[j]? = some t → args[j]? = some v → Value.okWide Tryd.prog W .any base t v := hval0
  have hW' := hW
  obtain ⟨p, q, hA0, hV, rfl, hfz, hnd⟩ := hW
  have hA : DataW.TrodAll enc Tryd.prog W 0 (fun _ => true) true Tryd.f7.params.toList args.toList ds p := hA0
  rw [Tryd.params7] at hA hval
  obtain ⟨v0, vs0, d0, ds0, p0, q0, hargs, rfl, rfl, h0, r0⟩ := trodAll_cons hA
  obtain ⟨rfl, rfl, rfl⟩ := trodAll_nil r0
  obtain ⟨rfl, rfl⟩ := trodVars_none hV
  obtain rfl : args = #[v0] := by cases args; simp_all
  obtain ⟨a0, rfl, rfl, rfl, w0⟩ := open_string Tryd.underlying9 (hval 0 9 v0 rfl rfl) h0
  clear hA0 hval0
  refine (wireOpens_gen numSame a0 w0 W (halves_of hL)).mono fun e W' ⟨he, hg⟩ => ?_
  subst he
  exact ⟨_, rfl, Kit.law_post hW' rfl (by kernel_rfl) rfl (by kernel_rfl) hg⟩

theorem wireOpens_holds : Rows.WireOpensSaid :=
  OpenClaim.holds_of_wide 7 Tryd.f7 rfl rfl rfl rfl rfl rfl rfl ⟨rfl, rfl, rfl, rfl, rfl⟩ rfl rfl rfl rfl rfl (by kernel_rfl) Tryd.func7 (by kernel_rfl)
    (of_decide_eq_true (by kernel_rfl)) (by unfold Func.isWrapper; first | (rw [if_pos (by decide +kernel)]; kernel_rfl) | (rw [if_neg (by decide +kernel)]; exact ⟨rfl, rfl⟩))
    (fun os started H enc _ => wireOpens_lifted os started H enc)

theorem wireOpens_card : Rows.WireOpensCardSaid :=
  Claim7.holds_tied_plain_at .later [] Rows.wireOpensCard.laidKinds true Rows.wireOpensCard.stood.harness Rows.wireOpensCard.stood.looks
    wireOpens_holds (fun _ h => by cases h) (by kernel_rfl) (fun _ h => by cases h) wireOpens_row_tie rfl ⟨rfl, rfl⟩ (by kernel_rfl) rfl
    (fun f fn hf hfn => by
      obtain rfl : f = 7 := Option.some.inj ((show Tryd.prog.funcNamed "hawthorn/hawthornlaw03.WireOpens" = some 7 by kernel_rfl).symm.trans hf) |>.symm
      obtain rfl : fn = Tryd.f7 := (Option.some.inj (Tryd.func7.symm.trans hfn)).symm
      exact ⟨by kernel_rfl, fun j t ht => by
        rw [Tryd.params7] at ht
        have hm : t ∈ [9] := by simpa using Array.mem_of_getElem? ht
        have hall : ([9].all fun u => !Tryd.prog.wantsStandIn u) = true := by kernel_rfl
        exact (show Tryd.prog.wantsStandIn t = false by simpa using List.all_eq_true.1 hall t hm)⟩)
    (by kernel_rfl)
end Go.Proofs.YtmoammadibepkaaDoor.Wirey
