/- Layer 3 (wire): for every input the call returns true and leaves what it was given as it was: a frame is the document's, and opened again; one that is too long is refused (WireFrames). Condition: the table of halves holds what the program's text lays (the card ties it). -/
import Derived.Test.YtmoammadibepkaaDoorWireLaid
namespace Go.Proofs.YtmoammadibepkaaDoor.Wirey
open Go.ChangeShapes Go.WideShapes Go.ChangeAt Go.RowKit Go.ChangeMaps

theorem i64_and3 (n : Int) : bits .and .i64 n 3 = n % 4 := by
  have h3 : (BitVec.ofInt 64 3).toNat = 2 ^ 2 - 1 := by decide
  have key : (BitVec.ofInt 64 n &&& BitVec.ofInt 64 3).toNat = (n % ((2 ^ 64 : Nat) : Int)).toNat % 2 ^ 2 := by
    rw [BitVec.toNat_and, BitVec.toNat_ofInt, h3, Nat.and_two_pow_sub_one_eq_mod]
  show IntKind.i64.wrap ((BitVec.ofInt 64 n &&& BitVec.ofInt 64 3).toNat : Nat) = n % 4
  rw [key, IntKind.wrap_i64]
  omega
/-- 'make([]byte, k)', and the text of it. -/
theorem make_bytes (k : Nat) (hk : k < 281474976710656) : ∃ M : Array Value, (∀ W : World, (Instr.makeSlice 49 (.int .i64 (k : Int)) (.int .i64 (k : Int))).run Tryd.prog W = .ok (.slice (some ⟨W.heap.size, 0, none⟩) k k) (W.alloc (.cells M 5))) ∧
    (∀ W : World, (convert 49 9 (.slice (some ⟨W.heap.size, 0, none⟩) k k)).run Tryd.prog (W.alloc (.cells M 5)) = .ok (.string (str (List.replicate k 0))) (W.alloc (.cells M 5))) := by
  obtain ⟨i0, hi, hz0, hz1, hz2⟩ := info_parts u8_info
  refine ⟨madeCells (Value.int .u8 0).cells (((k : Nat) : Int).toNat * i0.size), fun W => ?_, fun W => ?_⟩
  · have h := run_make (P := Tryd.prog) W 49 5 i0 (.int .u8 0) Tryd.underlying49 hi hz0 .i64 .i64 (k : Int) (k : Int) (by omega) (by omega) (by rw [hz2]; omega) (by omega)
    simpa using h
  · have h := row_str W (List.replicate k 0) (madeCells (Value.int .u8 0).cells (((k : Nat) : Int).toNat * i0.size)) (by
      rw [hz1, Int.toNat_natCast, Nat.mul_one]
      apply Array.toList_inj.1
      have := toList_madeCells_one (.int .u8 0) k
      rw [show (Value.int .u8 0).cells = #[.int .u8 0] from rfl, this]
      simp) k
    rw [List.length_replicate] at h
    exact h

set_option maxHeartbeats 4000000 in
theorem wireFrames_walk (a0 : ByteArray) (w0 : a0.size ≤ maxLen) (a1 : Int) (_ : (Lit.int .i64 a1).wf = true) (w : World) (hT : Halves w) :
    Calls Tryd.prog 6 #[.string a0, .int .i64 a1] w fun e w' => e = .returned (.bool true) ∧ Below w.heap.size w w' := by
  obtain ⟨l, rfl⟩ : ∃ l, a0 = str l := ⟨_, str_of a0⟩
  rw [str_size] at w0
  have hsz := str_size
  have htl := toList_str
  have HT := Lib.hid hT
  have HO := Lib.hid (openR_frm (fewL l) (by have := fewL_le l; omega))
  have hle := fewL_le l
  have hand := i64_and3 a1
  have hes : ByteArray.mk #[] = str [] := rfl
  obtain ⟨k, hk⟩ : ∃ k : Nat, 65535 + a1 % 4 = (k : Int) := ⟨(65535 + a1 % 4).toNat, by omega⟩
  have hkb : k ≤ 65538 := by omega
  obtain ⟨M, hmk, hcv⟩ := make_bytes k (by omega)
  clear hT
  go_enter Tryd.func6, Tryd.ntmps6
  go_wp2_with fail
  refine (few_c l w0 _).mono ?_
  rintro e w' ⟨rfl, rfl⟩
  go_wp2_with fail
  refine (frame_c _ (by omega) _ HT.out).mono ?_
  rintro e w1 ⟨rfl, hb1⟩
  have HT1 : Hid (Halves w1) := HT.out.below hb1 HT.out.lt
  go_wp2_with fail
  refine (open_c _ (by rw [frm_eq]; simp [four_len]; have := (enc_len (n := (fewL l).length) (by omega)).2; omega) _ HT1.out).mono ?_
  rintro e w2 ⟨rfl, hb2⟩
  rw [HO.out]
  have HT2 : Hid (Halves w2) := HT1.out.below hb2 HT1.out.lt
  go_wp2_with fail
  have hb2' : Below w.heap.size w (w2.alloc (.cells M 5)) := (hb1.trans (hb2.mono hb1.size)).alloc (by have := hb1.size; have := hb2.size; omega) _
  have HB := Lib.hid hb2'
  have HT2' : Hid (Halves (w2.alloc (.cells M 5))) := HT.out.below hb2' HT.out.lt
  clear hb2'
  generalize hw2 : w2.alloc (.cells M 5) = w2' at HB HT2' ⊢
  clear hw2 hmk hcv
  by_cases h6 : k ≤ 65536
  · refine (frame_c _ (by rw [List.length_replicate]; exact h6) _ HT2'.out).mono ?_
    rintro e w3 ⟨rfl, hb3⟩
    have HT3 : Hid (Halves w3) := HT2'.out.below hb3 HT2'.out.lt
    go_wp2_with fail
    refine (awake_c _ HT3.out).mono ?_
    rintro e w4 ⟨rfl, hb4⟩
    go_wp2_with fail
    refine (few_c l w0 _).mono ?_
    rintro e w' ⟨rfl, rfl⟩
    go_wp2_with fail
    refine (refframe_c _ (by omega) _).mono ?_
    rintro e w5 ⟨rfl, hb5⟩
    go_wp2_with fail
    refine (few_c l w0 _).mono ?_
    rintro e w' ⟨rfl, rfl⟩
    go_wp2_with fail
    go_ret
    exact ⟨by simp, ((HB.out.trans (hb3.mono HB.out.size)).trans (hb4.mono (by have := HB.out.size; have := hb3.size; omega))).trans (hb5.mono (by have := HB.out.size; have := hb3.size; have := hb4.size; omega))⟩
  · refine (frame_over _ (by rw [List.length_replicate]; omega) (by rw [List.length_replicate]; omega) _).mono ?_
    rintro e w3 ⟨rfl, rfl⟩
    have HT3 := HT2'
    go_wp2_with fail
    refine (awake_c _ HT3.out).mono ?_
    rintro e w4 ⟨rfl, hb4⟩
    go_wp2_with fail
    refine (few_c l w0 _).mono ?_
    rintro e w' ⟨rfl, rfl⟩
    go_wp2_with fail
    refine (refframe_c _ (by omega) _).mono ?_
    rintro e w5 ⟨rfl, hb5⟩
    go_wp2_with fail
    refine (few_c l w0 _).mono ?_
    rintro e w' ⟨rfl, rfl⟩
    go_wp2_with fail
    go_ret
    exact ⟨by simp; omega, (HB.out.trans (hb4.mono HB.out.size)).trans (hb5.mono (by have := HB.out.size; have := hb4.size; omega))⟩

set_option linter.unusedVariables false in
set_option maxRecDepth 100000 in
theorem wireFrames_lifted (os : Os) (started : os.Started) (H : Type) (enc : TypeId × Value → H) :
    ReturnsInHanded {} Tryd.checked os 6 .any (fun w args => (Rows.wireFramesSpec.pre enc Tryd.prog Tryd.f6 [] false w args ∧ laidMetH Tryd.prog laidAll w) ∧ sizedMet enc Tryd.prog Tryd.f6 (OpenSpec.ofChange Rows.wireFramesSpec) false w args) (Rows.wireFramesSpec.post enc Tryd.prog Tryd.f6 false true false false) := by
  refine returnsInHanded_of_change_and (C := Tryd.checked) (X := fun w _ => laidMetH Tryd.prog laidAll w) (fun _ _ _ hh h => h.of_heap hh) Kit.own started (by kernel_rfl) Tryd.func6
    (ChangeSpec.witness_shaped (enc := enc) (C := Tryd.checked) (os := os) (X := fun w _ => laidMetH Tryd.prog laidAll w) false (World.doorLaid Tryd.prog 400 os) #[.string ⟨#[]⟩, .int .i64 0] 8 rfl (World.shaped_of_RefB (by kernel_rfl) (by kernel_rfl)) (by kernel_rfl) (by kernel_rfl) (by kernel_rfl) (door_met os _)) ?_
  intro W base args ds gs before hval0 hW _ _ hL _
  have hval : ∀ (j : Nat) t v, Tryd.f6.params[j]? = some t → args[j]? = some v → Value.okWide Tryd.prog W .any base t v := hval0
  have hW' := hW
  obtain ⟨p, q, hA0, hV, rfl, hfz, hnd⟩ := hW
  have hA : DataW.TrodAll enc Tryd.prog W 0 (fun _ => true) true Tryd.f6.params.toList args.toList ds p := hA0
  rw [Tryd.params6] at hA hval
  obtain ⟨v0, vs0, d0, ds0, p0, q0, hargs, rfl, rfl, h0, r0⟩ := trodAll_cons hA
  obtain ⟨v1, vs1, d1, ds1, p1, q1, rfl, rfl, rfl, h1, r1⟩ := trodAll_cons r0
  obtain ⟨rfl, rfl, rfl⟩ := trodAll_nil r1
  obtain ⟨rfl, rfl⟩ := trodVars_none hV
  obtain rfl : args = #[v0, v1] := by cases args; simp_all
  obtain ⟨a0, rfl, rfl, rfl, w0⟩ := open_string Tryd.underlying9 (hval 0 9 v0 rfl rfl) h0
  obtain ⟨a1, rfl, rfl, rfl, w1⟩ := open_int Tryd.underlying3 (hval 1 3 v1 rfl rfl) h1
  clear hA0 hval0
  refine (wireFrames_walk a0 w0 a1 w1 W (halves_of hL)).mono fun e W' ⟨he, hg⟩ => ?_
  subst he
  exact ⟨_, rfl, Kit.law_post hW' rfl (by kernel_rfl) rfl (by kernel_rfl) hg⟩

theorem wireFrames_holds : Rows.WireFramesSaid :=
  OpenClaim.holds_of_wide 6 Tryd.f6 rfl rfl rfl rfl rfl rfl rfl ⟨rfl, rfl, rfl, rfl, rfl⟩ rfl rfl rfl rfl rfl (by kernel_rfl) Tryd.func6 (by kernel_rfl)
    (of_decide_eq_true (by kernel_rfl)) (by unfold Func.isWrapper; first | (rw [if_pos (by decide +kernel)]; kernel_rfl) | (rw [if_neg (by decide +kernel)]; exact ⟨rfl, rfl⟩))
    (fun os started H enc _ => wireFrames_lifted os started H enc)

theorem wireFrames_card : Rows.WireFramesCardSaid :=
  Claim7.holds_tied_plain_at .later [] Rows.wireFramesCard.laidKinds true Rows.wireFramesCard.stood.harness Rows.wireFramesCard.stood.looks
    wireFrames_holds (fun _ h => by cases h) (by kernel_rfl) (fun _ h => by cases h) wireFrames_row_tie rfl ⟨rfl, rfl⟩ (by kernel_rfl) rfl
    (fun f fn hf hfn => by
      obtain rfl : f = 6 := Option.some.inj ((show Tryd.prog.funcNamed "hawthorn/hawthornlaw03.WireFrames" = some 6 by kernel_rfl).symm.trans hf) |>.symm
      obtain rfl : fn = Tryd.f6 := (Option.some.inj (Tryd.func6.symm.trans hfn)).symm
      exact ⟨by kernel_rfl, fun j t ht => by
        rw [Tryd.params6] at ht
        have hm : t ∈ [9, 3] := by simpa using Array.mem_of_getElem? ht
        have hall : ([9, 3].all fun u => !Tryd.prog.wantsStandIn u) = true := by kernel_rfl
        exact (show Tryd.prog.wantsStandIn t = false by simpa using List.all_eq_true.1 hall t hm)⟩)
    (by kernel_rfl)

end Go.Proofs.YtmoammadibepkaaDoor.Wirey
