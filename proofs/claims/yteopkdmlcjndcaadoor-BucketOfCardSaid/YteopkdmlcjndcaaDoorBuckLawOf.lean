/- Layer 15 (bucket): for every input the call returns true and leaves what it was given as it was: each key is in the document's bucket (BucketOf). Condition: the variables first, orders and columns of layer 4 hold what the program's text lays (the card ties it). -/
import Derived.Test.YteopkdmlcjndcaaDoorBuckAwake
import Derived.Test.YteopkdmlcjndcaaDoorBlakeLaid
import Derived.Test.YteopkdmlcjndcaaDoorKit
namespace Go.Proofs.YteopkdmlcjndcaaDoor.Bucky
open Go.ChangeShapes Go.WideShapes Go.ChangeAt Go.RowKit Go.ChangeMaps
open Wirey Regy

set_option maxHeartbeats 4000000 in
set_option maxRecDepth 100000 in
theorem bucketOf_walk (s : Bs) (hs : s.length ≤ maxLen) (w : World) (hG : Glob w) :
    Calls Tryd.prog 3 #[.string (str s)] w fun e w' => e = .returned (.bool true) ∧ Below w.heap.size w w' := by
  have hsz := str_size
  have htk := str_take
  have hA := awake_c w hG
  by_cases e1 : 100 < s.length
  · have f1 : (100 : Int) < (s.length : Int) := by omega
    have ht : (s.take 100).length ≤ maxLen := by rw [List.length_take]; omega
    have hB := fun W => bof_c (s.take 100) ht W
    have hL := fun W => lof_c (s.take 100) ht W
    have hlt := bkt_lt (s.take 100)
    generalize bkt (s.take 100) = b at *
    clear e1 ht hG hs
    go_enter Tryd.func3, Tryd.ntmps3
    go_wp2_with fail
    refine hA.mono ?_
    rintro e w1 ⟨rfl, hb⟩
    have HBW := Lib.hid hb
    clear hA hb
    have i0 : (0 : Int) ≤ (b : Int) := by omega
    have i1 : (b : Int) < 16 := by omega
    go_wp2_with fail
    refine (hB _).mono ?_
    rintro e w2 ⟨rfl, rfl⟩
    go_wp2_with fail
    refine (hL _).mono ?_
    rintro e w2 ⟨rfl, rfl⟩
    go_wp2_with fail
    refine (hL _).mono ?_
    rintro e w2 ⟨rfl, rfl⟩
    go_wp2_with fail
    refine (hL _).mono ?_
    rintro e w2 ⟨rfl, rfl⟩
    go_wp2_with fail
    go_ret
    exact ⟨rfl, HBW.out⟩
  · have f1 : ¬ ((100 : Int) < (s.length : Int)) := by omega
    have hB := fun W => bof_c s hs W
    have hL := fun W => lof_c s hs W
    have hlt := bkt_lt s
    generalize bkt s = b at *
    clear e1 hG hs
    go_enter Tryd.func3, Tryd.ntmps3
    go_wp2_with fail
    refine hA.mono ?_
    rintro e w1 ⟨rfl, hb⟩
    have HBW := Lib.hid hb
    clear hA hb
    have i0 : (0 : Int) ≤ (b : Int) := by omega
    have i1 : (b : Int) < 16 := by omega
    go_wp2_with fail
    refine (hB _).mono ?_
    rintro e w2 ⟨rfl, rfl⟩
    go_wp2_with fail
    refine (hL _).mono ?_
    rintro e w2 ⟨rfl, rfl⟩
    go_wp2_with fail
    refine (hL _).mono ?_
    rintro e w2 ⟨rfl, rfl⟩
    go_wp2_with fail
    refine (hL _).mono ?_
    rintro e w2 ⟨rfl, rfl⟩
    go_wp2_with fail
    go_ret
    exact ⟨rfl, HBW.out⟩

set_option linter.unusedVariables false in
set_option maxRecDepth 100000 in
theorem bucketOf_lifted (os : Os) (started : os.Started) (H : Type) (enc : TypeId × Value → H) :
    ReturnsInHanded {} Tryd.checked os 3 .any (fun w args => (Rows.bucketOfSpec.pre enc Tryd.prog Tryd.f3 [] false w args ∧ laidMetH Tryd.prog laidAll w) ∧ sizedMet enc Tryd.prog Tryd.f3 (OpenSpec.ofChange Rows.bucketOfSpec) false w args) (Rows.bucketOfSpec.post enc Tryd.prog Tryd.f3 false true false false) := by
  refine returnsInHanded_of_change_and (C := Tryd.checked) (X := fun w _ => laidMetH Tryd.prog laidAll w) (fun _ _ _ hh h => h.of_heap hh) Kit.own started (by kernel_rfl) Tryd.func3
    (ChangeSpec.witness_shaped (enc := enc) (C := Tryd.checked) (os := os) (X := fun w _ => laidMetH Tryd.prog laidAll w) false (World.doorLaid Tryd.prog 400 os) #[.string ⟨#[]⟩] 8 rfl (World.shaped_of_RefB (by kernel_rfl) (by kernel_rfl)) (by kernel_rfl) (by kernel_rfl) (by kernel_rfl) (door_met os _)) ?_
  intro W base args ds gs before hval0 hW _ _ hL _
  have hval : ∀ (j : Nat) t v, Tryd.f3.params[j]? = some t → args[j]? = some v → Value.okWide Tryd.prog W .any base t v := hval0
  have hW' := hW
  obtain ⟨p, q, hA0, hV, rfl, hfz, hnd⟩ := hW
  have hA : DataW.TrodAll enc Tryd.prog W 0 (fun _ => true) true Tryd.f3.params.toList args.toList ds p := hA0
  rw [Tryd.params3] at hA hval
  obtain ⟨v0, vs0, d0, ds0, p0, q0, hargs, rfl, rfl, h0, r0⟩ := trodAll_cons hA
  obtain ⟨rfl, rfl, rfl⟩ := trodAll_nil r0
  obtain ⟨rfl, rfl⟩ := trodVars_none hV
  obtain rfl : args = #[v0] := by cases args; simp_all
  obtain ⟨a0, rfl, rfl, rfl, w0⟩ := open_string Tryd.underlying9 (hval 0 9 v0 rfl rfl) h0
  obtain ⟨l0, rfl⟩ : ∃ l, a0 = str l := ⟨_, str_of a0⟩
  rw [str_size] at w0
  clear hA0 hval0
  refine (bucketOf_walk l0 w0 W  (glob_of hL)).mono fun e W' ⟨he, hg⟩ => ?_
  subst he
  exact ⟨_, rfl, Kit.law_post hW' rfl (by kernel_rfl) rfl (by kernel_rfl) hg⟩

theorem bucketOf_holds : Rows.BucketOfSaid :=
  OpenClaim.holds_of_wide 3 Tryd.f3 rfl rfl rfl rfl rfl rfl rfl ⟨rfl, rfl, rfl, rfl, rfl⟩ rfl rfl rfl rfl rfl (by kernel_rfl) Tryd.func3 (by kernel_rfl)
    (of_decide_eq_true (by kernel_rfl)) (by unfold Func.isWrapper; first | (rw [if_pos (by decide +kernel)]; kernel_rfl) | (rw [if_neg (by decide +kernel)]; exact ⟨rfl, rfl⟩))
    (fun os started H enc _ => bucketOf_lifted os started H enc)

theorem bucketOf_card : Rows.BucketOfCardSaid :=
  Claim7.holds_tied_plain_at .later [] Rows.bucketOfCard.laidKinds true Rows.bucketOfCard.stood.harness Rows.bucketOfCard.stood.looks
    bucketOf_holds (fun _ h => by cases h) (by kernel_rfl) (fun _ h => by cases h) bucketOf_row_tie rfl ⟨rfl, rfl⟩ (by kernel_rfl) rfl
    (fun f fn hf hfn => by
      obtain rfl : f = 3 := Option.some.inj ((show Tryd.prog.funcNamed "hawthorn/hawthornlaw15.BucketOf" = some 3 by kernel_rfl).symm.trans hf) |>.symm
      obtain rfl : fn = Tryd.f3 := (Option.some.inj (Tryd.func3.symm.trans hfn)).symm
      exact ⟨by kernel_rfl, fun j t ht => by
        rw [Tryd.params3] at ht
        have hm : t ∈ [9] := by simpa using Array.mem_of_getElem? ht
        have hall : ([9].all fun u => !Tryd.prog.wantsStandIn u) = true := by kernel_rfl
        exact (show Tryd.prog.wantsStandIn t = false by simpa using List.all_eq_true.1 hall t hm)⟩)
    (by kernel_rfl)

end Go.Proofs.YteopkdmlcjndcaaDoor.Bucky
