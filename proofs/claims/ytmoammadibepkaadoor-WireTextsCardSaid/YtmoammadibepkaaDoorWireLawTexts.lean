/- Layer 3 (wire): for every input the call returns true and leaves what it was given as it was: texts and yes or no have the document's bytes, and are read again; whatever bytes there are they are such, or refused with the first error (WireTexts). Condition: the table of halves holds what the program's text lays (the card ties it). -/
import Derived.Test.YtmoammadibepkaaDoorWireLaid
import Derived.Test.YtmoammadibepkaaDoorWireSame
import Derived.Test.YtmoammadibepkaaDoorWireRefOpen
namespace Go.Proofs.YtmoammadibepkaaDoor.Wirey
open Go.ChangeShapes Go.WideShapes Go.ChangeAt Go.RowKit Go.ChangeMaps

theorem tErr_txt (u : List UInt8) (h : u.length < 1099511627776) : tErr (txt u) (u.length : Int) = 0 ∧ tVal (txt u) (u.length : Int) = u ∧ tEnd (txt u) (u.length : Int) = 0 := by
  have hF : numF (txt u) = (u.length, (enc u.length).length, 0) := numF_enc (by omega) u
  have ht : topN (u.length : Int) = u.length := by unfold topN; rw [if_neg (by omega)]; omega
  have hl : (txt u).length = (enc u.length).length + u.length := by unfold txt; simp
  have h0 : nErr (txt u) u.length = 0 := by unfold nErr; rw [hF, if_neg (by simp), if_neg (by simp)]
  have h1 : tErr (txt u) (u.length : Int) = 0 := by unfold tErr; rw [ht, h0, if_neg (by simp), hF, if_neg (by rw [hl]; simp)]
  refine ⟨h1, ?_, ?_⟩
  · unfold tVal; rw [h1, if_pos rfl, hF]
    unfold txt; simp
  · unfold tEnd; rw [h1, if_pos rfl, hF, List.drop_of_length_le (by rw [hl]; exact Nat.le_refl _)]; rfl

set_option maxHeartbeats 8000000 in
set_option maxRecDepth 100000 in
theorem wireTexts_gen (hSame : ∀ l, numR l = numF l) (a0 : ByteArray) (w0 : a0.size ≤ maxLen) (a1 : ByteArray) (w1 : a1.size ≤ maxLen) (a2 : Int) (w2 : (Lit.int .i64 a2).wf = true) (w : World) (hT : Halves w) :
    Calls Tryd.prog 4 #[.string a0, .string a1, .int .i64 a2] w fun e w' => e = .returned (.bool true) ∧ Below w.heap.size w w' := by
  obtain ⟨l0, rfl⟩ : ∃ l, a0 = str l := ⟨_, str_of a0⟩
  obtain ⟨l1, rfl⟩ : ∃ l, a1 = str l := ⟨_, str_of a1⟩
  rw [str_size] at w0 w1
  have hi := bounds_i64 w2
  have hsz := str_size
  have htl := toList_str
  have o1 : ByteArray.mk #[1] = str [1] := rfl
  have o0 : ByteArray.mk #[0] = str [0] := rfl
  have HT := Lib.hid hT
  have hle0 := fewL_le l0
  have hle1 := fewL_le l1
  have hlt := txt_len (fewL l0) (by omega)
  obtain ⟨q1, q2, q3⟩ := tErr_txt (fewL l0) (by omega)
  have Q2 := Lib.hid q2
  have Q3 := Lib.hid q3
  have HS := Lib.hid hSame
  clear hT hSame q1 q2 q3
  go_enter Tryd.func4, Tryd.ntmps4
  go_wp2_with fail
  refine (few_c l0 w0 _).mono ?_
  rintro e w' ⟨rfl, rfl⟩
  go_wp2_with fail
  refine (few_c l1 w1 _).mono ?_
  rintro e w' ⟨rfl, rfl⟩
  go_wp2_with fail
  refine (ltext_c HS.out (fewL l1) a2 (by omega) (by omega) _).mono ?_
  rintro e v1 ⟨rfl, hb1⟩
  go_wp2_with fail
  refine (lflag_c (fewL l1) (by omega) _).mono ?_
  rintro e v2 ⟨rfl, hb2⟩
  go_wp2_with fail
  refine (atext_c (fewL l1) a2 (by omega) (by omega) _).mono ?_
  rintro e v3 ⟨hb3, m, rfl, hE⟩
  have HE := Lib.hid hE
  have hb13 := (hb1.trans (hb2.mono hb1.size)).trans (hb3.mono (Nat.le_trans hb1.size hb2.size))
  have H1 := Has.new hb13 m (tErr (fewL l1) a2 : Int)
  generalize hne : tErr (fewL l1) a2 = ne at HE H1 ⊢
  unfold atV
  clear hne hE
  go_wp2_with fail
  generalize v3.alloc (.cells #[.string (str m), .int .i64 (ne : Int)] 28) = x1 at H1 ⊢
  generalize v3.heap.size = Q at H1 ⊢
  clear hb1 hb2 hb3 hb13
  refine (aflag_c (fewL l1) _).mono ?_
  rintro e v4 ⟨hb4, m', rfl, hE⟩
  have HF := Lib.hid hE
  have H4 := H1.on hb4
  have J1 := Has.new H4.below m' (fErr (fewL l1) : Int)
  have H5 := H4.on (v := v4.alloc (.cells #[.string (str m'), .int .i64 (fErr (fewL l1) : Int)] 28)) ((Below.refl _ _).alloc (Nat.le_refl _) _)
  generalize hfe : fErr (fewL l1) = fe at HF J1 H5 ⊢
  unfold atV
  clear hfe hE
  go_wp2_with fail
  generalize v4.alloc (.cells #[.string (str m'), .int .i64 (fe : Int)] 28) = x2 at H5 J1 ⊢
  generalize v4.heap.size = P at J1 ⊢
  clear hb4 H4 H1
  refine (text_c (fewL l0) (by omega) _).mono ?_
  rintro e v5 ⟨rfl, hb5⟩
  have H6 := H5.on hb5
  have J6 := J1.on hb5
  go_wp2_with fail
  refine (ltext_c HS.out (txt (fewL l0)) ((fewL l0).length : Int) (by omega) (by omega) _).mono ?_
  rintro e v6 ⟨rfl, hb6⟩
  rw [Q2.out, Q3.out]
  have H7 := H6.on hb6
  have J7 := J6.on hb6
  go_wp2_with fail
  refine (awake_c _ (HT.out.below H7.below HT.out.lt)).mono ?_
  rintro e v7 ⟨rfl, hb7⟩
  have H8 := H7.on hb7
  have J8 := J7.on hb7
  go_wp2_with fail
  refine (text_c (fewL l0) (by omega) _).mono ?_
  rintro e v8 ⟨rfl, hb8⟩
  have H9 := H8.on hb8
  have J9 := J8.on hb8
  go_wp2_with fail
  refine (reftext_c (fewL l0) (by omega) _).mono ?_
  rintro e v9 ⟨rfl, hb9⟩
  have HA := H9.on hb9
  have JA := J9.on hb9
  go_wp2_with fail
  refine (wflag_true _).mono ?_
  rintro e w' ⟨rfl, rfl⟩
  go_wp2_with fail
  refine (wflag_false _).mono ?_
  rintro e w' ⟨rfl, rfl⟩
  obtain ⟨c0, c1, z0, z1⟩ := HA.cells
  go_wp2_with fail
  refine (aend_c m ne _).mono ?_
  rintro e vb ⟨rfl, hbb⟩
  rw [HE.out]
  have HB := HA.on hbb
  have JB := JA.on hbb
  clear c0 c1 z0 z1
  obtain ⟨c0, c1, z0, z1⟩ := HB.cells
  obtain ⟨d0, d1, y0, y1⟩ := JB.cells
  by_cases hne : ne = 0
  · have hn1 : ((ne : Int) != 0) = false := by simp [hne]
    clear hne
    go_wp2_with fail
    refine (aend_c m' fe _).mono ?_
    rintro e vc ⟨rfl, hbc⟩
    rw [HF.out]
    have JC := JB.on hbc
    clear c0 c1 z0 z1 d0 d1 y0 y1
    obtain ⟨d0, d1, y0, y1⟩ := JC.cells
    go_wp2_with fail
    all_goals
      go_ret
      exact ⟨by simp, JC.below⟩
  · have hn1 : ((ne : Int) != 0) = true := by rw [bne_iff_ne]; omega
    clear hne
    go_wp2_with fail
    refine (aend_c m' fe _).mono ?_
    rintro e vc ⟨rfl, hbc⟩
    rw [HF.out]
    have JC := JB.on hbc
    clear c0 c1 z0 z1 d0 d1 y0 y1
    obtain ⟨d0, d1, y0, y1⟩ := JC.cells
    go_wp2_with fail
    all_goals
      go_ret
      exact ⟨by simp, JC.below⟩

set_option linter.unusedVariables false in
set_option maxRecDepth 100000 in
theorem wireTexts_lifted (os : Os) (started : os.Started) (H : Type) (enc : TypeId × Value → H) :
    ReturnsInHanded {} Tryd.checked os 4 .any (fun w args => (Rows.wireTextsSpec.pre enc Tryd.prog Tryd.f4 [] false w args ∧ laidMetH Tryd.prog laidAll w) ∧ sizedMet enc Tryd.prog Tryd.f4 (OpenSpec.ofChange Rows.wireTextsSpec) false w args) (Rows.wireTextsSpec.post enc Tryd.prog Tryd.f4 false true false false) := by
  refine returnsInHanded_of_change_and (C := Tryd.checked) (X := fun w _ => laidMetH Tryd.prog laidAll w) (fun _ _ _ hh h => h.of_heap hh) Kit.own started (by kernel_rfl) Tryd.func4
    (ChangeSpec.witness_shaped (enc := enc) (C := Tryd.checked) (os := os) (X := fun w _ => laidMetH Tryd.prog laidAll w) false (World.doorLaid Tryd.prog 400 os) #[.string ⟨#[]⟩, .string ⟨#[]⟩, .int .i64 0] 8 rfl (World.shaped_of_RefB (by kernel_rfl) (by kernel_rfl)) (by kernel_rfl) (by kernel_rfl) (by kernel_rfl) (door_met os _)) ?_
  intro W base args ds gs before hval0 hW _ _ hL _
  have hval : ∀ (j : Nat) t v, Tryd.f4.params[j]? = some t → args[j]? = some v → Value.okWide Tryd.prog W .any base t v := hval0
  have hW' := hW
  obtain ⟨p, q, hA0, hV, rfl, hfz, hnd⟩ := hW
  have hA : DataW.TrodAll enc Tryd.prog W 0 (fun _ => true) true Tryd.f4.params.toList args.toList ds p := hA0
  rw [Tryd.params4] at hA hval
  obtain ⟨v0, vs0, d0, ds0, p0, q0, hargs, rfl, rfl, h0, r0⟩ := trodAll_cons hA
  obtain ⟨v1, vs1, d1, ds1, p1, q1, rfl, rfl, rfl, h1, r1⟩ := trodAll_cons r0
  obtain ⟨v2, vs2, d2, ds2, p2, q2, rfl, rfl, rfl, h2, r2⟩ := trodAll_cons r1
  obtain ⟨rfl, rfl, rfl⟩ := trodAll_nil r2
  obtain ⟨rfl, rfl⟩ := trodVars_none hV
  obtain rfl : args = #[v0, v1, v2] := by cases args; simp_all
  obtain ⟨a0, rfl, rfl, rfl, w0⟩ := open_string Tryd.underlying9 (hval 0 9 v0 rfl rfl) h0
  obtain ⟨a1, rfl, rfl, rfl, w1⟩ := open_string Tryd.underlying9 (hval 1 9 v1 rfl rfl) h1
  obtain ⟨a2, rfl, rfl, rfl, w2⟩ := open_int Tryd.underlying3 (hval 2 3 v2 rfl rfl) h2
  clear hA0 hval0
  refine (wireTexts_gen numSame a0 w0 a1 w1 a2 w2 W (halves_of hL)).mono fun e W' ⟨he, hg⟩ => ?_
  subst he
  exact ⟨_, rfl, Kit.law_post hW' rfl (by kernel_rfl) rfl (by kernel_rfl) hg⟩

theorem wireTexts_holds : Rows.WireTextsSaid :=
  OpenClaim.holds_of_wide 4 Tryd.f4 rfl rfl rfl rfl rfl rfl rfl ⟨rfl, rfl, rfl, rfl, rfl⟩ rfl rfl rfl rfl rfl (by kernel_rfl) Tryd.func4 (by kernel_rfl)
    (of_decide_eq_true (by kernel_rfl)) (by unfold Func.isWrapper; first | (rw [if_pos (by decide +kernel)]; kernel_rfl) | (rw [if_neg (by decide +kernel)]; exact ⟨rfl, rfl⟩))
    (fun os started H enc _ => wireTexts_lifted os started H enc)

theorem wireTexts_card : Rows.WireTextsCardSaid :=
  Claim7.holds_tied_plain_at .later [] Rows.wireTextsCard.laidKinds true Rows.wireTextsCard.stood.harness Rows.wireTextsCard.stood.looks
    wireTexts_holds (fun _ h => by cases h) (by kernel_rfl) (fun _ h => by cases h) wireTexts_row_tie rfl ⟨rfl, rfl⟩ (by kernel_rfl) rfl
    (fun f fn hf hfn => by
      obtain rfl : f = 4 := Option.some.inj ((show Tryd.prog.funcNamed "hawthorn/hawthornlaw03.WireTexts" = some 4 by kernel_rfl).symm.trans hf) |>.symm
      obtain rfl : fn = Tryd.f4 := (Option.some.inj (Tryd.func4.symm.trans hfn)).symm
      exact ⟨by kernel_rfl, fun j t ht => by
        rw [Tryd.params4] at ht
        have hm : t ∈ [9, 9, 3] := by simpa using Array.mem_of_getElem? ht
        have hall : ([9, 9, 3].all fun u => !Tryd.prog.wantsStandIn u) = true := by kernel_rfl
        exact (show Tryd.prog.wantsStandIn t = false by simpa using List.all_eq_true.1 hall t hm)⟩)
    (by kernel_rfl)
end Go.Proofs.YtmoammadibepkaaDoor.Wirey
