/- Layer 14 (snap): for every input the call returns true and leaves what it was given as it was: pieces that are right by themselves, and say that they are of other bytes than they are of, are found out when none lacks (SnapOther). Condition: the variables first, orders and columns of layer 4 hold what the program's text lays (the card ties it). -/
import Derived.Test.YtccaomaobokldaaDoorSnapAwake
import Derived.Test.YtccaomaobokldaaDoorSnapOpen
import Derived.Test.YtccaomaobokldaaDoorBlakeLaid
namespace Go.Proofs.YtccaomaobokldaaDoor.Snapy
open Go.ChangeShapes Go.WideShapes Go.ChangeAt Go.RowKit Go.ChangeMaps
open Wirey Slsy

/-- The first j are there. -/
def tr (j M : Nat) : List Bool := List.replicate j true ++ List.replicate (M - j) false
theorem tr_len {j M : Nat} (h : j ≤ M) : (tr j M).length = M := by unfold tr; rw [List.length_append, List.length_replicate, List.length_replicate]; omega
theorem tr_at {j M : Nat} (h : j < M) : (tr j M)[j]? = some false := by
  unfold tr; rw [List.getElem?_append_right (by simp), List.getElem?_replicate, List.length_replicate, if_pos (by omega)]
theorem tr_set {j M : Nat} (h : j < M) : (tr j M).set j true = tr (j + 1) M := by
  unfold tr
  rw [List.set_append_right _ _ (by simp), List.length_replicate, Nat.sub_self, show M - j = (M - (j + 1)) + 1 by omega, List.replicate_succ, List.set_cons_zero, List.replicate_succ', List.append_assoc]
  rfl
theorem tr_none (M : Nat) : lk (tr M M) = none := by
  unfold tr
  rw [Nat.sub_self, List.replicate_zero, List.append_nil]
  exact lk_none fun j hj => by rw [List.length_replicate] at hj; rw [List.getElem?_replicate, if_pos hj]
theorem mayB_as {t W : Bs} {k : Nat} (hk : k < many t) : mayB W (many t) ⟨(k : Int), (many t : Int), chunk t k, sumL (chunk t k), W⟩ = true := by
  have h := mayB_at hk
  unfold mayB pcAt at h
  unfold mayB
  simp only [Bool.and_eq_true, Bool.or_eq_true, decide_eq_true_eq] at h ⊢
  exact ⟨⟨⟨⟨h.1.1.1.1, trivial⟩, h.1.1.2⟩, h.1.2⟩, h.2⟩
set_option maxHeartbeats 4000000 in
set_option maxRecDepth 100000 in
theorem snapOther_walk (n : Int) (_hn : (Lit.int .i64 n).wf = true) (s : Bs) (hs : s.length ≤ maxLen) (other : Bs) (ho : other.length ≤ maxLen) (w : World) (hG : Glob w) :
    Calls Tryd.prog 6 #[.int .i64 n, .string (str s), .string (str other)] w fun e w' => e = .returned (.bool true) ∧ Below w.heap.size w w' := by
  obtain ⟨m, hm, hmb⟩ := Bity.i64_cut 8191 13 rfl (by omega) n
  have hT := text_c n m hmb (by omega) s hs w
  obtain ⟨t, ht⟩ : ∃ t, t = textL m s := ⟨_, rfl⟩
  rw [← ht] at hT
  have hl : t.length ≤ 8191 := by rw [ht, textL_len]; omega
  have hsz := str_size
  have htl := Wirey.toList_str
  have HGG := Lib.hid hG
  clear hG hmb hm ht
  go_enter Tryd.func6, Tryd.ntmps6
  by_cases h200 : 200 < other.length
  case' pos =>
    have f1 : decide ((200 : Int) < (other.length : Int)) = true := decide_eq_true (by omega)
    have htk := str_take other 200
    have hlt : (other.take 200).length = 200 := by rw [List.length_take]; omega
    obtain ⟨u, hu⟩ : ∃ u, u = other.take 200 := ⟨_, rfl⟩
    rw [← hu] at htk hlt
    have hu2 : u.length ≤ 200 := by omega
    clear hu hlt
    go_upto_region 3 with (fail)
    clear htk h200 ho f1
  case' neg =>
    have f1 : decide ((200 : Int) < (other.length : Int)) = false := decide_eq_false (by omega)
    go_upto_region 3 with (fail)
    have hu2 : other.length ≤ 200 := by omega
    obtain ⟨u, rfl⟩ : ∃ u, u = other := ⟨other, rfl⟩
    clear h200 ho f1
  all_goals
    have hu40 : u.length < 1099511627776 := by omega
    clear hs
    go_wp2_with fail
    refine hT.mono ?_
    rintro e w1 ⟨rfl, hb⟩
    have hG1 := HGG.out.below hb
    have HB := Lib.hid hb
    clear hb hT
    go_wp2_with fail
    refine (cut_c t hl _ hG1).mono ?_
    rintro e w2 ⟨q, rfl, hX, hql, hb⟩
    have HB2 := Lib.hid (HB.out.trans (hb.mono HB.out.size))
    have HX := Lib.hid hX
    clear hb HB hG1 hX
    go_wp2_with fail
    refine (sum_c u hu40 _).mono ?_
    rintro e w3 ⟨rfl, hb⟩
    have HX3 := Lib.hid (HX.out.below hb HX.out.lt)
    have HB3 := Lib.hid (HB2.out.trans (hb.mono HB2.out.size))
    have hG3 := HGG.out.below HB3.out
    clear hb HX HB2
    go_wp2_with fail
    refine (awake_c _ hG3).mono ?_
    rintro e w4 ⟨rfl, hb⟩
    have HX4 := Lib.hid (HX3.out.below hb HX3.out.lt)
    have HB4 := Lib.hid (HB3.out.trans (hb.mono HB3.out.size))
    have hmp := many_pos t
    have hm8 : many t ≤ 8192 := by unfold many; omega
    have hz : ((many t : Int) == 0) = false := by rw [beq_eq_false_iff_ne]; omega
    clear hb HX3 HB3 hG3
    go_wp2_with fail
    refine (new_ok (W := sumL u) (sumL_len u) (n := many t) hmp hm8 _).mono ?_
    rintro e w5 ⟨b, gd, gt, rfl, hH, l1, l2, l3, hb⟩
    have HX5 := Lib.hid (HX4.out.below hb HX4.out.lt)
    have HB5 := Lib.hid (HB4.out.trans (hb.mono HB4.out.size))
    have HLOW : Hid (w.heap.size ≤ gd ∧ w.heap.size ≤ gt ∧ q ≠ gd ∧ q ≠ gt) := Lib.hid (by have := HB4.out.size; have := HX4.out.lt; omega)
    rw [← dataF_none t (many t)] at hH
    have HH := Lib.hid hH
    clear hb HX4 HB4 hH l1 l2 l3 hql
    generalize hM : many t = M at *
    have HM := Lib.hid hM
    clear hM
    go_wp2_with fail
    go_loopw [13] (fun i wr => ∃ j : Nat, j ≤ M ∧ i = .int .i64 j ∧ Hid (Blk wr q PT (rws Pc.enc (cutL t)).toArray) ∧ Hid (Below w.heap.size w wr) ∧ Hid (HeldG wr b gd gt (sumL u) (dataF t (tr j M)) (tr j M))) (fun i _ => M - (intOf i).toNat)
    case atStart => exact ⟨0, by omega, rfl, HX5, HB5, by have e : tr 0 M = List.replicate M false := rfl
                                                          rw [e]; exact HH⟩
    case round =>
      obtain ⟨j, hj, rfl, HX, HB, HH⟩ := hrel
      by_cases h : j < M
      · have hlt : (j : Int) < (M : Int) := by omega
        obtain ⟨a0, a1, a2, a3, a4⟩ := pc_cells HX.out (k := j) (by rw [HM.out]; exact h)
        rw [HM.out] at a1
        go_upto_region 16 with (fail)
        have hP := Blk.new wr PT #[.int .i64 (j : Int), .int .i64 (M : Int), .string (str (chunk t j)), .string (str (sumL (chunk t j))), .string (str (sumL u))]
        have hB1 := (Below.refl _ wr).alloc (Nat.le_refl _) (.cells #[.int .i64 (j : Int), .int .i64 (M : Int), .string (str (chunk t j)), .string (str (sumL (chunk t j))), .string (str (sumL u))] PT)
        have HX1 := Lib.hid (HX.out.below hB1 HX.out.lt)
        have HB1 := Lib.hid (HB.out.trans (hB1.mono HB.out.size))
        have hH1 := HH.out.below hB1
        have hG1 := HGG.out.below HB1.out
        clear hB1 HX HB HH a0 a1 a2 a3 a4
        generalize wr.alloc (.cells #[.int .i64 (j : Int), .int .i64 (M : Int), .string (str (chunk t j)), .string (str (sumL (chunk t j))), .string (str (sumL u))] PT) = w6 at *
        generalize wr.heap.size = g at *
        have hA := add_new (⟨(j : Int), (M : Int), chunk t j, sumL (chunk t j), sumL u⟩ : Pc) (by rw [dataF_len, tr_len hj, ← HM.out]; exact mayB_as (by rw [HM.out]; exact h)) rfl j rfl (tr_at h) hG1 hH1
        rw [dataF_set t (tr j M) j (by rw [tr_len hj]; exact h), tr_set h] at hA
        have p0 := hP.cell 0
        have p1 := hP.cell 1
        have p2 := hP.cell 2
        have p3 := hP.cell 3
        have p4 := hP.cell 4
        simp only [List.getElem?_toArray, List.getElem?_cons_zero, List.getElem?_cons_succ] at p0 p1 p2 p3 p4
        clear hP hH1 hG1
        go_wp2_with fail
        refine hA.mono ?_
        rintro e w7 ⟨rfl, hH7, hk⟩
        have HH7 := Lib.hid hH7
        have HX7 := Lib.hid (hk.blk HX1.out (by have := HLOW.out; omega))
        have HB7 := Lib.hid (hk.below HB1.out (by have := HLOW.out; omega))
        clear hA hH7 hk HX1 HB1 p0 p1 p2 p3 p4
        go_wp2_with fail
        go_roundw
        case rel => exact ⟨j + 1, by omega, rfl, HX7, HB7, HH7⟩
        case measure => simp [intOf]; omega
      · obtain rfl : j = M := by omega
        have hge : ¬ ((j : Int) < (j : Int)) := by omega
        have hfl : (dataF t (tr j j)).flatten = t := dataF_all (by rw [tr_len (Nat.le_refl _), HM.out]) (tr_none j)
        have hG1 := HGG.out.below HB.out
        obtain ⟨a0, a1, a2, a3, a4⟩ := pc_cells HX.out (k := 0) (by rw [HM.out]; omega)
        rw [HM.out] at a1
        simp only [Nat.zero_mul, Nat.zero_add] at a0 a1 a2 a3 a4
        by_cases e1 : sumL t = sumL u
        · have g1 : (sumL u == sumL t) = true := by simpa using e1.symm
          have hA := whole_ok (tr_none j) (by rw [hfl]; exact e1) hG1 HH.out
          rw [hfl] at hA
          clear hfl e1 hG1
          go_wp2_with fail
          refine hA.mono ?_
          rintro e w7 ⟨rfl, hb⟩
          have HB7 := Lib.hid (HB.out.trans (hb.mono HB.out.size))
          obtain ⟨a0, a1, a2, a3, a4⟩ := pc_cells (HX.out.below hb HX.out.lt) (k := 0) (by rw [HM.out]; omega)
          rw [HM.out] at a1
          simp only [Nat.zero_mul, Nat.zero_add] at a0 a1 a2 a3 a4
          clear hb hA HX HB HH
          go_wp2_with fail
          go_ret
          exact ⟨rfl, HB7.out⟩
        · have g1 : (sumL u == sumL t) = false := by simpa using fun x => e1 x.symm
          have hA := whole_bad (tr_none j) (by rw [hfl]; exact e1) hG1 HH.out
          clear hfl e1 hG1
          go_wp2_with fail
          refine hA.mono ?_
          rintro e w7 ⟨rfl, hb⟩
          have HB7 := Lib.hid (HB.out.trans (hb.mono HB.out.size))
          obtain ⟨a0, a1, a2, a3, a4⟩ := pc_cells (HX.out.below hb HX.out.lt) (k := 0) (by rw [HM.out]; omega)
          rw [HM.out] at a1
          simp only [Nat.zero_mul, Nat.zero_add] at a0 a1 a2 a3 a4
          clear hb hA HX HB HH
          go_wp2_with fail
          go_ret
          exact ⟨rfl, HB7.out⟩
set_option linter.unusedVariables false in
set_option maxRecDepth 100000 in
theorem snapOther_lifted (os : Os) (started : os.Started) (H : Type) (enc : TypeId × Value → H) :
    ReturnsInHanded {} Tryd.checked os 6 .any (fun w args => (Rows.snapOtherSpec.pre enc Tryd.prog Tryd.f6 [] false w args ∧ laidMetH Tryd.prog laidAll w) ∧ sizedMet enc Tryd.prog Tryd.f6 (OpenSpec.ofChange Rows.snapOtherSpec) false w args) (Rows.snapOtherSpec.post enc Tryd.prog Tryd.f6 false true false false) := by
  refine returnsInHanded_of_change_and (C := Tryd.checked) (X := fun w _ => laidMetH Tryd.prog laidAll w) (fun _ _ _ hh h => h.of_heap hh) Kit.own started (by kernel_rfl) Tryd.func6
    (ChangeSpec.witness_shaped (enc := enc) (C := Tryd.checked) (os := os) (X := fun w _ => laidMetH Tryd.prog laidAll w) false (World.doorLaid Tryd.prog 400 os) #[.int .i64 0, .string ⟨#[]⟩, .string ⟨#[]⟩] 8 rfl (World.shaped_of_RefB (by kernel_rfl) (by kernel_rfl)) (by kernel_rfl) (by kernel_rfl) (by kernel_rfl) (door_met os _)) ?_
  intro W base args ds gs before hval0 hW _ _ hL _
  have hval : ∀ (j : Nat) t v, Tryd.f6.params[j]? = some t → args[j]? = some v → Value.okWide Tryd.prog W .any base t v := hval0
  have hW' := hW
  obtain ⟨p, q, hA0, hV, rfl, hfz, hnd⟩ := hW
  have hA : DataW.TrodAll enc Tryd.prog W 0 (fun _ => true) true Tryd.f6.params.toList args.toList ds p := hA0
  rw [Tryd.params6] at hA hval
  obtain ⟨v0, vs0, d0, ds0, p0, q0, hargs, rfl, rfl, h0, r0⟩ := trodAll_cons hA
  obtain ⟨v1, vs1, d1, ds1, p1, q1, rfl, rfl, rfl, h1, r1⟩ := trodAll_cons r0
  obtain ⟨v2, vs2, d2, ds2, p2, q2, rfl, rfl, rfl, h2, r2⟩ := trodAll_cons r1
  obtain ⟨rfl, rfl, rfl⟩ := trodAll_nil r2
  obtain ⟨rfl, rfl⟩ := trodVars_none hV
  obtain rfl : args = #[v0, v1, v2] := by cases args; simp_all
  obtain ⟨a0, rfl, rfl, rfl, w0⟩ := open_int Tryd.underlying3 (hval 0 3 v0 rfl rfl) h0
  obtain ⟨a1, rfl, rfl, rfl, w1⟩ := open_string Tryd.underlying9 (hval 1 9 v1 rfl rfl) h1
  obtain ⟨l1, rfl⟩ : ∃ l, a1 = str l := ⟨_, str_of a1⟩
  rw [str_size] at w1
  obtain ⟨a2, rfl, rfl, rfl, w2⟩ := open_string Tryd.underlying9 (hval 2 9 v2 rfl rfl) h2
  obtain ⟨l2, rfl⟩ : ∃ l, a2 = str l := ⟨_, str_of a2⟩
  rw [str_size] at w2
  clear hA0 hval0
  refine (snapOther_walk a0 w0 l1 w1 l2 w2 W (glob_of hL)).mono fun e W' ⟨he, hg⟩ => ?_
  subst he
  exact ⟨_, rfl, Kit.law_post hW' rfl (by kernel_rfl) rfl (by kernel_rfl) hg⟩

theorem snapOther_holds : Rows.SnapOtherSaid :=
  OpenClaim.holds_of_wide 6 Tryd.f6 rfl rfl rfl rfl rfl rfl rfl ⟨rfl, rfl, rfl, rfl, rfl⟩ rfl rfl rfl rfl rfl (by kernel_rfl) Tryd.func6 (by kernel_rfl)
    (of_decide_eq_true (by kernel_rfl)) (by unfold Func.isWrapper; first | (rw [if_pos (by decide +kernel)]; kernel_rfl) | (rw [if_neg (by decide +kernel)]; exact ⟨rfl, rfl⟩))
    (fun os started H enc _ => snapOther_lifted os started H enc)

theorem snapOther_card : Rows.SnapOtherCardSaid :=
  Claim7.holds_tied_plain_at .later [] Rows.snapOtherCard.laidKinds true Rows.snapOtherCard.stood.harness Rows.snapOtherCard.stood.looks
    snapOther_holds (fun _ h => by cases h) (by kernel_rfl) (fun _ h => by cases h) snapOther_row_tie rfl ⟨rfl, rfl⟩ (by kernel_rfl) rfl
    (fun f fn hf hfn => by
      obtain rfl : f = 6 := Option.some.inj ((show Tryd.prog.funcNamed "hawthorn/hawthornlaw14.SnapOther" = some 6 by kernel_rfl).symm.trans hf) |>.symm
      obtain rfl : fn = Tryd.f6 := (Option.some.inj (Tryd.func6.symm.trans hfn)).symm
      exact ⟨by kernel_rfl, fun j t ht => by
        rw [Tryd.params6] at ht
        have hm : t ∈ [3, 9, 9] := by simpa using Array.mem_of_getElem? ht
        have hall : ([3, 9, 9].all fun u => !Tryd.prog.wantsStandIn u) = true := by kernel_rfl
        exact (show Tryd.prog.wantsStandIn t = false by simpa using List.all_eq_true.1 hall t hm)⟩)
    (by kernel_rfl)

end Go.Proofs.YtccaomaobokldaaDoor.Snapy
