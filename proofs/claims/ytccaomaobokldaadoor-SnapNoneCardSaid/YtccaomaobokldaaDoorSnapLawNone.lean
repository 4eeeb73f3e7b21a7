/- Layer 14 (snap): for every input the call returns true and leaves what it was given as it was: nothing gathers nothing; sums that are none, and too many pieces, may not be (SnapNone). Condition: the variables first, orders and columns of layer 4 hold what the program's text lays (the card ties it). -/
import Derived.Test.YtccaomaobokldaaDoorSnapAwake
import Derived.Test.YtccaomaobokldaaDoorSnapOpen
import Derived.Test.YtccaomaobokldaaDoorBlakeLaid
namespace Go.Proofs.YtccaomaobokldaaDoor.Snapy
open Go.ChangeShapes Go.WideShapes Go.ChangeAt Go.RowKit Go.ChangeMaps
open Wirey Slsy

set_option maxHeartbeats 4000000 in
set_option maxRecDepth 100000 in
theorem snapNone_walk (s : Bs) (hs : s.length ≤ maxLen) (n : Int) (_hn : (Lit.int .i64 n).wf = true) (p : Pc) (_hp : p.Big) (w : World) (hG : Glob w) :
    Calls Tryd.prog 5 #[.string (str s), .int .i64 n, .agg p.cs] w fun e w' => e = .returned (.bool true) ∧ Below w.heap.size w w' := by
  have hX := Blk.new w PT #[.int .i64 p.n, .int .i64 p.of_, .string (str p.data), .string (str p.sum), .string (str p.whole)]
  have hb1 : Below w.heap.size w (w.alloc (.cells #[.int .i64 p.n, .int .i64 p.of_, .string (str p.data), .string (str p.sum), .string (str p.whole)] PT)) := (Below.refl _ w).alloc (Nat.le_refl _) _
  have hG1 := hG.below hb1
  have hsz := str_size
  have HGG := Lib.hid hG
  clear hG
  go_enter Tryd.func5, Tryd.ntmps5
  go_upto_region 1 with (fail)
  generalize w.alloc (.cells #[.int .i64 p.n, .int .i64 p.of_, .string (str p.data), .string (str p.sum), .string (str p.whole)] PT) = w1 at *
  have HB := Lib.hid hb1
  clear hb1
  generalize w.heap.size = q at hX ⊢
  have q0 := hX.cell 0
  have q1 := hX.cell 1
  have q2 := hX.cell 2
  have q3 := hX.cell 3
  have q4 := hX.cell 4
  simp only [List.getElem?_toArray, List.getElem?_cons_zero, List.getElem?_cons_succ] at q0 q1 q2 q3 q4
  clear hX
  by_cases e1 : 100 < s.length
  · have f1 : decide ((100 : Int) < (s.length : Int)) = true := decide_eq_true (by omega)
    clear e1
    go_wp2_with fail
    refine (awake_c _ hG1).mono ?_
    rintro e w2 ⟨rfl, hb⟩
    have HB2 := Lib.hid (HB.out.trans (hb.mono HB.out.size))
    clear hb q0 q1 q2 q3 q4
    go_wp2_with fail
    go_ret
    exact ⟨rfl, HB2.out⟩
  · have f1 : decide ((100 : Int) < (s.length : Int)) = false := decide_eq_false (by omega)
    have hs100 : s.length ≤ 100 := by omega
    clear e1
    by_cases e2 : 2000 < p.data.length
    · have f2 : decide ((2000 : Int) < (p.data.length : Int)) = true := decide_eq_true (by omega)
      clear e2
      go_wp2_with fail
      refine (awake_c _ hG1).mono ?_
      rintro e w2 ⟨rfl, hb⟩
      have HB2 := Lib.hid (HB.out.trans (hb.mono HB.out.size))
      clear hb q0 q1 q2 q3 q4
      go_wp2_with fail
      go_ret
      exact ⟨rfl, HB2.out⟩
    · have f2 : decide ((2000 : Int) < (p.data.length : Int)) = false := decide_eq_false (by omega)
      clear e2
      go_wp2_with fail
      refine (add_nil p _).mono ?_
      rintro e w2 ⟨rfl, hb⟩
      have HB2 := Lib.hid (HB.out.trans (hb.mono HB.out.size))
      clear hb q0 q1 q2 q3 q4 hG1 HB
      go_wp2_with fail
      refine (next_nil _).mono ?_
      rintro e w3 ⟨rfl, rfl⟩
      go_wp2_with fail
      refine (whole_nil _).mono ?_
      rintro e w3 ⟨rfl, rfl⟩
      go_wp2_with fail
      by_cases e3 : s.length = 32 ∧ 1 ≤ n ∧ n ≤ 8192
      · obtain ⟨e31, e32, e33⟩ := e3
        obtain ⟨m, rfl⟩ : ∃ m : Nat, n = (m : Int) := ⟨n.toNat, by omega⟩
        have g1 : ((s.length : Int) == 32) = true := by rw [e31]; rfl
        have g2 : decide ((1 : Int) ≤ (m : Int)) = true := decide_eq_true e32
        have g3 : decide ((m : Int) ≤ 8192) = true := decide_eq_true e33
        refine (new_ok e31 (n := m) (by omega) (by omega) _).mono ?_
        rintro e w4 ⟨b, gd, gt, rfl, -, -, -, -, hb⟩
        have HB3 := Lib.hid (HB2.out.trans (hb.mono HB2.out.size))
        have hG3 := HGG.out.below HB3.out
        clear hb HB2 e31 e32 e33
        go_wp2_with fail
        refine (awake_c _ hG3).mono ?_
        rintro e w5 ⟨rfl, hb⟩
        have HB4 := Lib.hid (HB3.out.trans (hb.mono HB3.out.size))
        clear hb HB3 hG3
        go_wp2_with fail
        go_ret
        exact ⟨rfl, HB4.out⟩
      · refine (new_no hs (n := n) (by omega) _).mono ?_
        rintro e w4 ⟨rfl, rfl⟩
        have hG3 := HGG.out.below HB2.out
        by_cases e31 : s.length = 32
        · have g1 : ((s.length : Int) == 32) = true := by rw [e31]; rfl
          by_cases e32 : 1 ≤ n
          · have g2 : decide (1 ≤ n) = true := decide_eq_true e32
            have g3 : decide (n ≤ 8192) = false := decide_eq_false (by omega)
            clear e3 e31 e32
            go_wp2_with fail
            refine (awake_c _ hG3).mono ?_
            rintro e w5 ⟨rfl, hb⟩
            have HB4 := Lib.hid (HB2.out.trans (hb.mono HB2.out.size))
            clear hb HB2 hG3
            go_wp2_with fail
            go_ret
            exact ⟨rfl, HB4.out⟩
          · have g2 : decide (1 ≤ n) = false := decide_eq_false e32
            clear e3 e31 e32
            go_wp2_with fail
            refine (awake_c _ hG3).mono ?_
            rintro e w5 ⟨rfl, hb⟩
            have HB4 := Lib.hid (HB2.out.trans (hb.mono HB2.out.size))
            clear hb HB2 hG3
            go_wp2_with fail
            go_ret
            exact ⟨rfl, HB4.out⟩
        · have g1 : ((s.length : Int) == 32) = false := by rw [beq_eq_false_iff_ne]; omega
          clear e3 e31
          go_wp2_with fail
          refine (awake_c _ hG3).mono ?_
          rintro e w5 ⟨rfl, hb⟩
          have HB4 := Lib.hid (HB2.out.trans (hb.mono HB2.out.size))
          clear hb HB2 hG3
          go_wp2_with fail
          go_ret
          exact ⟨rfl, HB4.out⟩
set_option linter.unusedVariables false in
set_option maxRecDepth 100000 in
theorem snapNone_lifted (os : Os) (started : os.Started) (H : Type) (enc : TypeId × Value → H) :
    ReturnsInHanded {} Tryd.checked os 5 .any (fun w args => (Rows.snapNoneSpec.pre enc Tryd.prog Tryd.f5 [] false w args ∧ laidMetH Tryd.prog laidAll w) ∧ sizedMet enc Tryd.prog Tryd.f5 (OpenSpec.ofChange Rows.snapNoneSpec) false w args) (Rows.snapNoneSpec.post enc Tryd.prog Tryd.f5 false true false false) := by
  refine returnsInHanded_of_change_and (C := Tryd.checked) (X := fun w _ => laidMetH Tryd.prog laidAll w) (fun _ _ _ hh h => h.of_heap hh) Kit.own started (by kernel_rfl) Tryd.func5
    (ChangeSpec.witness_shaped (enc := enc) (C := Tryd.checked) (os := os) (X := fun w _ => laidMetH Tryd.prog laidAll w) false (World.doorLaid Tryd.prog 400 os) #[.string ⟨#[]⟩, .int .i64 0, .agg #[.int .i64 0, .int .i64 0, .string ⟨#[]⟩, .string ⟨#[]⟩, .string ⟨#[]⟩]] 8 rfl (World.shaped_of_RefB (by kernel_rfl) (by kernel_rfl)) (by kernel_rfl) (by kernel_rfl) (by kernel_rfl) (door_met os _)) ?_
  intro W base args ds gs before hval0 hW _ _ hL _
  have hval : ∀ (j : Nat) t v, Tryd.f5.params[j]? = some t → args[j]? = some v → Value.okWide Tryd.prog W .any base t v := hval0
  have hW' := hW
  obtain ⟨p, q, hA0, hV, rfl, hfz, hnd⟩ := hW
  have hA : DataW.TrodAll enc Tryd.prog W 0 (fun _ => true) true Tryd.f5.params.toList args.toList ds p := hA0
  rw [Tryd.params5] at hA hval
  obtain ⟨v0, vs0, d0, ds0, p0, q0, hargs, rfl, rfl, h0, r0⟩ := trodAll_cons hA
  obtain ⟨v1, vs1, d1, ds1, p1, q1, rfl, rfl, rfl, h1, r1⟩ := trodAll_cons r0
  obtain ⟨v2, vs2, d2, ds2, p2, q2, rfl, rfl, rfl, h2, r2⟩ := trodAll_cons r1
  obtain ⟨rfl, rfl, rfl⟩ := trodAll_nil r2
  obtain ⟨rfl, rfl⟩ := trodVars_none hV
  obtain rfl : args = #[v0, v1, v2] := by cases args; simp_all
  obtain ⟨a0, rfl, rfl, rfl, w0⟩ := open_string Tryd.underlying9 (hval 0 9 v0 rfl rfl) h0
  obtain ⟨l0, rfl⟩ : ∃ l, a0 = str l := ⟨_, str_of a0⟩
  rw [str_size] at w0
  obtain ⟨a1, rfl, rfl, rfl, w1⟩ := open_int Tryd.underlying3 (hval 1 3 v1 rfl rfl) h1
  obtain ⟨cs2, rfl, -⟩ := okWide_struct Tryd.underlying33 (hval 2 33 v2 rfl rfl)
  obtain ⟨fuel2, hf2⟩ := h2
  obtain ⟨x2, e2, b2⟩ := open_pc hf2
  obtain rfl : cs2 = x2.cs := by cases cs2; simpa [Value.cells] using e2
  clear hA0 hval0
  refine (snapNone_walk l0 w0 a1 w1 x2 b2 W (glob_of hL)).mono fun e W' ⟨he, hg⟩ => ?_
  subst he
  exact ⟨_, rfl, Kit.law_post hW' rfl (by kernel_rfl) rfl (by kernel_rfl) hg⟩

theorem snapNone_holds : Rows.SnapNoneSaid :=
  OpenClaim.holds_of_wide 5 Tryd.f5 rfl rfl rfl rfl rfl rfl rfl ⟨rfl, rfl, rfl, rfl, rfl⟩ rfl rfl rfl rfl rfl (by kernel_rfl) Tryd.func5 (by kernel_rfl)
    (of_decide_eq_true (by kernel_rfl)) (by unfold Func.isWrapper; first | (rw [if_pos (by decide +kernel)]; kernel_rfl) | (rw [if_neg (by decide +kernel)]; exact ⟨rfl, rfl⟩))
    (fun os started H enc _ => snapNone_lifted os started H enc)

theorem snapNone_card : Rows.SnapNoneCardSaid :=
  Claim7.holds_tied_plain_at .later [] Rows.snapNoneCard.laidKinds true Rows.snapNoneCard.stood.harness Rows.snapNoneCard.stood.looks
    snapNone_holds (fun _ h => by cases h) (by kernel_rfl) (fun _ h => by cases h) snapNone_row_tie rfl ⟨rfl, rfl⟩ (by kernel_rfl) rfl
    (fun f fn hf hfn => by
      obtain rfl : f = 5 := Option.some.inj ((show Tryd.prog.funcNamed "hawthorn/hawthornlaw14.SnapNone" = some 5 by kernel_rfl).symm.trans hf) |>.symm
      obtain rfl : fn = Tryd.f5 := (Option.some.inj (Tryd.func5.symm.trans hfn)).symm
      exact ⟨by kernel_rfl, fun j t ht => by
        rw [Tryd.params5] at ht
        have hm : t ∈ [9, 3, 33] := by simpa using Array.mem_of_getElem? ht
        have hall : ([9, 3, 33].all fun u => !Tryd.prog.wantsStandIn u) = true := by kernel_rfl
        exact (show Tryd.prog.wantsStandIn t = false by simpa using List.all_eq_true.1 hall t hm)⟩)
    (by kernel_rfl)

end Go.Proofs.YtccaomaobokldaaDoor.Snapy
