/- Layer 3 (wire): for every input the call returns true and leaves what it was given as it was: each number has the document's bytes, and is read again; whatever bytes there are, they are a number, or refused with the first error (WireNums). Condition: the table of halves holds what the program's text lays (the card ties it). -/
import Derived.Test.YtmoammadibepkaaDoorWireLaid
import Derived.Test.YtmoammadibepkaaDoorWireSame
import Derived.Test.YtmoammadibepkaaDoorWireRefOpen
namespace Go.Proofs.YtmoammadibepkaaDoor.Wirey
open Go.ChangeShapes Go.WideShapes Go.ChangeAt Go.RowKit Go.ChangeMaps

theorem nat64_of {n : Int} (h : (Lit.int .u64 n).wf = true) : ∃ k : Nat, n = (k : Int) ∧ k < 18446744073709551616 := by
  have := bounds_u64 h
  exact ⟨n.toNat, by omega, by omega⟩
theorem nErr_enc {n : Nat} (h : n < 18446744073709551616) : nErr (enc n) n = 0 ∧ nVal (enc n) n = n ∧ nEnd (enc n) n = 0 := by
  have hF := numF_enc h []
  rw [List.append_nil] at hF
  have h1 : nErr (enc n) n = 0 := by unfold nErr; rw [hF, if_neg (by simp), if_neg (by simp)]
  refine ⟨h1, by unfold nVal; rw [h1, if_pos rfl, hF], ?_⟩
  unfold nEnd
  rw [h1, if_pos rfl, hF, List.drop_of_length_le (Nat.le_refl _)]; rfl

set_option maxHeartbeats 8000000 in
theorem wireNums_gen (hSame : ∀ l, numR l = numF l) (a0 : Int) (w0 : (Lit.int .u64 a0).wf = true) (a1 : Int) (w1 : (Lit.int .u64 a1).wf = true) (a2 : ByteArray) (w2 : a2.size ≤ maxLen) (w : World) (hT : Halves w) :
    Calls Tryd.prog 3 #[.int .u64 a0, .int .u64 a1, .string a2] w fun e w' => e = .returned (.bool true) ∧ Below w.heap.size w w' := by
  obtain ⟨n, rfl, hn⟩ := nat64_of w0
  obtain ⟨top, rfl, _⟩ := nat64_of w1
  obtain ⟨l, rfl⟩ : ∃ l, a2 = str l := ⟨_, str_of a2⟩
  rw [str_size] at w2
  have hsz := str_size
  have htl := toList_str
  have HT := Lib.hid hT
  have hle := fewL_le l
  have hel := (enc_len hn).2
  obtain ⟨q1, q2, q3⟩ := nErr_enc hn
  have Q1 := Lib.hid q1
  have Q2 := Lib.hid q2
  have Q3 := Lib.hid q3
  have HS := Lib.hid hSame
  clear hT hSame q1 q2 q3
  go_enter Tryd.func3, Tryd.ntmps3
  go_wp2_with fail
  refine (few_c l w2 _).mono ?_
  rintro e w' ⟨rfl, rfl⟩
  go_wp2_with fail
  refine (lnum_c HS.out (fewL l) top (by omega) _).mono ?_
  rintro e v1 ⟨rfl, hb1⟩
  go_wp2_with fail
  refine (few_c l w2 _).mono ?_
  rintro e w' ⟨rfl, rfl⟩
  go_wp2_with fail
  refine (anum_c (l := fewL l) top (by omega) _).mono ?_
  rintro e v2 ⟨hb2, m, rfl, hm⟩
  have hE := nEnd_eq hm
  have HE := Lib.hid hE
  clear hm hE
  have hb12 := hb1.trans (hb2.mono hb1.size)
  have H1 := Has.new hb12 m (nErr (fewL l) top : Int)
  generalize hne : nErr (fewL l) top = ne at HE H1 ⊢
  unfold atV
  clear hne
  go_wp2_with fail
  generalize v2.alloc (.cells #[.string (str m), .int .i64 (ne : Int)] 28) = x1 at H1 ⊢
  generalize v2.heap.size = Q at H1 ⊢
  clear hb1 hb2 hb12
  go_wp2_with fail
  refine (num_c n hn _).mono ?_
  rintro e v3 ⟨rfl, hb3⟩
  have H3 := H1.on hb3
  go_wp2_with fail
  refine (lnum_c HS.out (enc n) n (by omega) _).mono ?_
  rintro e v4 ⟨rfl, hb4⟩
  rw [Q2.out, Q3.out]
  have H4 := H3.on hb4
  go_wp2_with fail
  refine (awake_c _ (HT.out.below H4.below HT.out.lt)).mono ?_
  rintro e v5 ⟨rfl, hb5⟩
  have H5 := H4.on hb5
  go_wp2_with fail
  refine (num_c n hn _).mono ?_
  rintro e v6 ⟨rfl, hb6⟩
  have H6 := H5.on hb6
  go_wp2_with fail
  refine (refnum_c n hn _).mono ?_
  rintro e v7 ⟨rfl, hb7⟩
  have H7 := H6.on hb7
  obtain ⟨c0, c1, z0, z1⟩ := H7.cells
  go_wp2_with fail
  refine (aend_c m ne _).mono ?_
  rintro e v8 ⟨rfl, hb8⟩
  rw [HE.out]
  have H8 := H7.on hb8
  clear c0 c1 z0 z1
  obtain ⟨c0, c1, z0, z1⟩ := H8.cells
  go_wp2_with fail
  all_goals
    go_ret
    exact ⟨by simp, H8.below⟩

set_option linter.unusedVariables false in
set_option maxRecDepth 100000 in
theorem wireNums_lifted (os : Os) (started : os.Started) (H : Type) (enc : TypeId × Value → H) :
    ReturnsInHanded {} Tryd.checked os 3 .any (fun w args => (Rows.wireNumsSpec.pre enc Tryd.prog Tryd.f3 [] false w args ∧ laidMetH Tryd.prog laidAll w) ∧ sizedMet enc Tryd.prog Tryd.f3 (OpenSpec.ofChange Rows.wireNumsSpec) false w args) (Rows.wireNumsSpec.post enc Tryd.prog Tryd.f3 false true false false) := by
  refine returnsInHanded_of_change_and (C := Tryd.checked) (X := fun w _ => laidMetH Tryd.prog laidAll w) (fun _ _ _ hh h => h.of_heap hh) Kit.own started (by kernel_rfl) Tryd.func3
    (ChangeSpec.witness_shaped (enc := enc) (C := Tryd.checked) (os := os) (X := fun w _ => laidMetH Tryd.prog laidAll w) false (World.doorLaid Tryd.prog 400 os) #[.int .u64 0, .int .u64 0, .string ⟨#[]⟩] 8 rfl (World.shaped_of_RefB (by kernel_rfl) (by kernel_rfl)) (by kernel_rfl) (by kernel_rfl) (by kernel_rfl) (door_met os _)) ?_
  intro W base args ds gs before hval0 hW _ _ hL _
  have hval : ∀ (j : Nat) t v, Tryd.f3.params[j]? = some t → args[j]? = some v → Value.okWide Tryd.prog W .any base t v := hval0
  have hW' := hW
  obtain ⟨p, q, hA0, hV, rfl, hfz, hnd⟩ := hW
  have hA : DataW.TrodAll enc Tryd.prog W 0 (fun _ => true) true Tryd.f3.params.toList args.toList ds p := hA0
  rw [Tryd.params3] at hA hval
  obtain ⟨v0, vs0, d0, ds0, p0, q0, hargs, rfl, rfl, h0, r0⟩ := trodAll_cons hA
  obtain ⟨v1, vs1, d1, ds1, p1, q1, rfl, rfl, rfl, h1, r1⟩ := trodAll_cons r0
  obtain ⟨v2, vs2, d2, ds2, p2, q2, rfl, rfl, rfl, h2, r2⟩ := trodAll_cons r1
  obtain ⟨rfl, rfl, rfl⟩ := trodAll_nil r2
  obtain ⟨rfl, rfl⟩ := trodVars_none hV
  obtain rfl : args = #[v0, v1, v2] := by cases args; simp_all
  obtain ⟨a0, rfl, rfl, rfl, w0⟩ := open_int Tryd.underlying22 (hval 0 22 v0 rfl rfl) h0
  obtain ⟨a1, rfl, rfl, rfl, w1⟩ := open_int Tryd.underlying22 (hval 1 22 v1 rfl rfl) h1
  obtain ⟨a2, rfl, rfl, rfl, w2⟩ := open_string Tryd.underlying9 (hval 2 9 v2 rfl rfl) h2
  clear hA0 hval0
  refine (wireNums_gen numSame a0 w0 a1 w1 a2 w2 W (halves_of hL)).mono fun e W' ⟨he, hg⟩ => ?_
  subst he
  exact ⟨_, rfl, Kit.law_post hW' rfl (by kernel_rfl) rfl (by kernel_rfl) hg⟩

theorem wireNums_holds : Rows.WireNumsSaid :=
  OpenClaim.holds_of_wide 3 Tryd.f3 rfl rfl rfl rfl rfl rfl rfl ⟨rfl, rfl, rfl, rfl, rfl⟩ rfl rfl rfl rfl rfl (by kernel_rfl) Tryd.func3 (by kernel_rfl)
    (of_decide_eq_true (by kernel_rfl)) (by unfold Func.isWrapper; first | (rw [if_pos (by decide +kernel)]; kernel_rfl) | (rw [if_neg (by decide +kernel)]; exact ⟨rfl, rfl⟩))
    (fun os started H enc _ => wireNums_lifted os started H enc)

theorem wireNums_card : Rows.WireNumsCardSaid :=
  Claim7.holds_tied_plain_at .later [] Rows.wireNumsCard.laidKinds true Rows.wireNumsCard.stood.harness Rows.wireNumsCard.stood.looks
    wireNums_holds (fun _ h => by cases h) (by kernel_rfl) (fun _ h => by cases h) wireNums_row_tie rfl ⟨rfl, rfl⟩ (by kernel_rfl) rfl
    (fun f fn hf hfn => by
      obtain rfl : f = 3 := Option.some.inj ((show Tryd.prog.funcNamed "hawthorn/hawthornlaw03.WireNums" = some 3 by kernel_rfl).symm.trans hf) |>.symm
      obtain rfl : fn = Tryd.f3 := (Option.some.inj (Tryd.func3.symm.trans hfn)).symm
      exact ⟨by kernel_rfl, fun j t ht => by
        rw [Tryd.params3] at ht
        have hm : t ∈ [22, 22, 9] := by simpa using Array.mem_of_getElem? ht
        have hall : ([22, 22, 9].all fun u => !Tryd.prog.wantsStandIn u) = true := by kernel_rfl
        exact (show Tryd.prog.wantsStandIn t = false by simpa using List.all_eq_true.1 hall t hm)⟩)
    (by kernel_rfl)
end Go.Proofs.YtmoammadibepkaaDoor.Wirey
