/- Layer 14 (snap): for every input the call returns true and leaves what it was given as it was: in whatever order pieces come, and however often, the bytes are there when none lacks, and not ahead of that; the first that lacks is told (SnapGathers). Condition: the variables first, orders and columns of layer 4 hold what the program's text lays (the card ties it). -/
import Derived.Test.YtccaomaobokldaaDoorSnapAwake
import Derived.Test.YtccaomaobokldaaDoorSnapOpen
import Derived.Test.YtccaomaobokldaaDoorBlakeLaid
namespace Go.Proofs.YtccaomaobokldaaDoor.Snapy
open Go.ChangeShapes Go.WideShapes Go.ChangeAt Go.RowKit Go.ChangeMaps
open Wirey Slsy

/-- The first that lacks, from a place on. -/
def lkF (F : List Bool) (r : Nat) : Option Nat := (lk (F.drop r)).map (· + r)
theorem lkF_end {F : List Bool} {M : Nat} (h : F.length = M) : lkF F M = none := by unfold lkF; rw [List.drop_of_length_le (by omega)]; rfl
theorem lkF_zero (F : List Bool) : lkF F 0 = lk F := by unfold lkF; rw [List.drop_zero]; cases lk F <;> rfl
theorem lkF_true {F : List Bool} {q : Nat} (h : F[q]? = some true) : lkF F q = lkF F (q + 1) := by
  have hq := getD_get h
  have e : F.drop q = true :: F.drop (q + 1) := by rw [List.drop_eq_getElem_cons hq]; rw [List.getElem?_eq_getElem hq] at h; rw [Option.some.inj h]
  unfold lkF
  rw [e, lk]
  cases lk (F.drop (q + 1)) with
  | none => rfl
  | some i => show some (i + 1 + q) = some (i + (q + 1)); congr 1; omega
theorem lkF_false {F : List Bool} {q : Nat} (h : F[q]? = some false) : lkF F q = some q := by
  have hq := getD_get h
  have e : F.drop q = false :: F.drop (q + 1) := by rw [List.drop_eq_getElem_cons hq]; rw [List.getElem?_eq_getElem hq] at h; rw [Option.some.inj h]
  unfold lkF
  rw [e, lk]
  show some (0 + q) = some q
  rw [Nat.zero_add]
theorem set_same {F : List Bool} {k : Nat} (h : F[k]? = some true) : F.set k true = F := by
  apply List.ext_getElem?
  intro i
  rw [List.getElem?_set]
  by_cases e : k = i
  · subst e; rw [if_pos rfl, if_pos (getD_get h), h]
  · rw [if_neg e]
theorem bl_cell {w : World} {g i : Nat} {F : List Bool} {x : Bool} (h : Blk w g 4 (F.map Value.bool).toArray) (hx : F[i]? = some x) : w.cell? ⟨g, i, none⟩ = some (.bool x) := by
  rw [h.cell i]; simp [hx]
theorem bl_put {w : World} {g : Nat} {F : List Bool} (i : Nat) (h : Blk w g 4 (F.map Value.bool).toArray) : Blk (w.setCell ⟨g, i, none⟩ (.bool true)) g 4 ((F.set i true).map Value.bool).toArray := by
  have := h.put i (.bool true)
  have e : ((F.map Value.bool).toArray.setIfInBounds i (.bool true)) = ((F.set i true).map Value.bool).toArray := by simp [List.map_set]
  rw [e] at this
  exact this
set_option maxHeartbeats 8000000 in
set_option maxRecDepth 100000 in
theorem snapGathers_walk (n : Int) (_hn : (Lit.int .i64 n).wf = true) (s : Bs) (hs : s.length ≤ maxLen) (ao : Option Addr) (len cap sb off : Nat) (X : Nat → Int) (w : World) (hI : Ints w ao len sb off X) (hG : Glob w) :
    Calls Tryd.prog 3 #[.int .i64 n, .string (str s), .slice ao len cap] w fun e w' => e = .returned (.bool true) ∧ Below w.heap.size w w' := by
  obtain ⟨m, hm, hmb⟩ := Bity.i64_cut 8191 13 rfl (by omega) n
  have hT := text_c n m hmb (by omega) s hs w
  obtain ⟨t, ht⟩ : ∃ t, t = textL m s := ⟨_, rfl⟩
  rw [← ht] at hT
  have hl : t.length ≤ 8191 := by rw [ht, textL_len]; omega
  have hsz := str_size
  have htl := Wirey.toList_str
  have HGG := Lib.hid hG
  have HI := Lib.hid hI
  clear hG hmb hm ht hI hs
  go_enter Tryd.func3, Tryd.ntmps3
  go_wp2_with fail
  refine hT.mono ?_
  rintro e w1 ⟨rfl, hb⟩
  have hG1 := HGG.out.below hb
  have HB := Lib.hid hb
  clear hb hT
  go_wp2_with fail
  refine (cut_c t hl _ hG1).mono ?_
  rintro e w2 ⟨q, rfl, hX, hql, hb⟩
  have HB2 := Lib.hid (HB.out.trans (hb.mono HB.out.size))
  have hG2 := HGG.out.below HB2.out
  have HX := Lib.hid hX
  clear hb HB hG1 hX
  go_wp2_with fail
  refine (awake_c _ hG2).mono ?_
  rintro e w4 ⟨rfl, hb⟩
  have hX4 := HX.out.below hb HX.out.lt
  have HX4 := Lib.hid hX4
  have HB4 := Lib.hid (HB2.out.trans (hb.mono HB2.out.size))
  have hmp := many_pos t
  have hm8 : many t ≤ 8192 := by unfold many; omega
  have hz : ((many t : Int) == 0) = false := by rw [beq_eq_false_iff_ne]; omega
  obtain ⟨a0, a1, a2, a3, a4⟩ := pc_cells hX4 (k := 0) (by omega)
  simp only [Nat.zero_mul, Nat.zero_add] at a0 a1 a2 a3 a4
  clear hb HX HB2 hG2 hX4
  generalize hM : many t = M at *
  have HM := Lib.hid hM
  clear hM
  go_wp2_with fail
  refine (new_ok (W := sumL t) (sumL_len t) (n := M) hmp hm8 _).mono ?_
  rintro e w5 ⟨b, gd, gt, rfl, hH, l1, l2, l3, hb⟩
  have HX5 := Lib.hid (HX4.out.below hb HX4.out.lt)
  have HB5 := Lib.hid (HB4.out.trans (hb.mono HB4.out.size))
  have HLOW : Hid (w.heap.size ≤ gd ∧ w.heap.size ≤ gt ∧ q ≠ gd ∧ q ≠ gt) := Lib.hid (by have := HB4.out.size; have := HX4.out.lt; omega)
  have hmk := fun W => mk_bls hm8 W
  have hV := Blk.new w5 4 (bls M)
  have hVb := (Below.refl _ w5).alloc (Nat.le_refl _) (.cells (bls M) 4)
  rw [← dataF_none t M] at hH
  clear hb HX4 HB4 l1 l2 l3 hql a0 a1 a2 a3 a4
  go_upto_region 9 with (fail)
  have HH := Lib.hid (hH.below hVb)
  have HX6 := Lib.hid (HX5.out.below hVb HX5.out.lt)
  have HB6 := Lib.hid (HB5.out.trans (hVb.mono HB5.out.size))
  have HLV : Hid (w.heap.size ≤ w5.heap.size ∧ q ≠ w5.heap.size ∧ b ≠ w5.heap.size ∧ gd ≠ w5.heap.size ∧ gt ≠ w5.heap.size) := Lib.hid (by have := HB5.out.size; have := HX5.out.lt; have := hH.lt; omega)
  have HV : Hid (Blk (w5.alloc (.cells (bls M) 4)) w5.heap.size 4 ((List.replicate M false).map Value.bool).toArray) := Lib.hid hV
  clear hmk hV hVb hH HX5 HB5
  generalize w5.alloc (.cells (bls M) 4) = w6 at *
  generalize w5.heap.size = v at *
  obtain ⟨L, hL⟩ : ∃ L, IntKind.i64.wrap ((len : Int) + (M : Int)) = L := ⟨_, rfl⟩
  go_wp2_with fail
  go_loopw [13] (fun i wr => ∃ (j : Nat) (F : List Bool), j ≤ 60 ∧ i = .int .i64 j ∧ F.length = M ∧ Hid (Blk wr q PT (rws Pc.enc (cutL t)).toArray) ∧ Hid (Below w.heap.size w wr) ∧ Hid (HeldG wr b gd gt (sumL t) (dataF t F) F) ∧ Hid (Blk wr v 4 (F.map Value.bool).toArray)) (fun i _ => 60 - (intOf i).toNat)
  case atStart => exact ⟨0, List.replicate M false, by omega, rfl, List.length_replicate, HX6, HB6, HH, HV⟩
  case round =>
    obtain ⟨j, F, hj, rfl, hF, HX, HB, HH, HV⟩ := hrel
    by_cases h1 : (j : Int) ≤ L
    · have f1 : decide ((j : Int) ≤ L) = true := decide_eq_true h1
      by_cases h2 : j < 60
      · have f2 : decide ((j : Int) < 60) = true := decide_eq_true (by omega)
        have hM0 : M ≠ 0 := by omega
        obtain ⟨k0, hk0⟩ : ∃ k0, k0 = j % M := ⟨_, rfl⟩
        have hk0l : k0 < M := by rw [hk0]; exact Nat.mod_lt _ (by omega)
        have hr1 : (j : Int) % (M : Int) = (k0 : Int) := by rw [hk0]; exact (Int.natCast_emod j M).symm
        have hr2 : (j : Int).tmod (M : Int) = (k0 : Int) := by rw [Int.tmod_eq_emod_of_nonneg (by omega)]; exact hr1
        clear hk0
        rcases (by omega : (j < len ∧ j < 30) ∨ (j < len ∧ ¬ j < 30) ∨ ¬ j < len) with ⟨h3, h4⟩ | ⟨h3, h4⟩ | h3
        case' inl =>
          have f3 : decide ((j : Int) < (len : Int)) = true := decide_eq_true (by omega)
          have f4 : decide ((j : Int) < 30) = true := decide_eq_true (by omega)
          have hao := HI.out.at_ (by omega)
          subst hao
          have cx := (HI.out.below HB.out).cell j h3
          have hjl : (j : Int) < (len : Int) := by omega
          generalize X j = z at cx
          have hn0 : (0 : Int) < (M : Int) := by omega
          have hm1 : -(M : Int) < z.tmod (M : Int) := by have := Int.lt_tmod_of_pos z hn0; omega
          have hm2 : z.tmod (M : Int) < (M : Int) := Int.tmod_lt_of_pos z hn0
          obtain ⟨kk, hk⟩ : ∃ k : Nat, (z.tmod (M : Int) + (M : Int)) % (M : Int) = (k : Int) := ⟨((z.tmod (M : Int) + (M : Int)) % (M : Int)).toNat, by have := Int.emod_nonneg (z.tmod (M : Int) + (M : Int)) (show (M : Int) ≠ 0 by omega); omega⟩
          have hk2 : (z.tmod (M : Int) + (M : Int)).tmod (M : Int) = (kk : Int) := by rw [Int.tmod_eq_emod_of_nonneg (by omega)]; exact hk
          have hkl : kk < M := by have := Int.emod_lt_of_pos (z.tmod (M : Int) + (M : Int)) hn0; omega
          go_upto_region 15 with (fail)
          clear cx hm1 hm2 hk hk2 f4 h4 f3 h3 hn0 hjl
        case' inr.inl =>
          have f3 : decide ((j : Int) < (len : Int)) = true := decide_eq_true (by omega)
          have f4 : decide ((j : Int) < 30) = false := decide_eq_false (by omega)
          go_upto_region 15 with (fail)
          have hkl := hk0l
          generalize k0 = kk at *
          clear f4 h4 f3 h3
        case' inr.inr =>
          have f3 : decide ((j : Int) < (len : Int)) = false := decide_eq_false (by omega)
          go_upto_region 15 with (fail)
          have hkl := hk0l
          generalize k0 = kk at *
          clear f3 h3
        all_goals
          obtain ⟨f, hf⟩ : ∃ f, F[kk]? = some f := ⟨_, List.getElem?_eq_getElem (by omega)⟩
          obtain ⟨a0, a1, a2, a3, a4⟩ := pc_cells HX.out (k := kk) (by rw [HM.out]; exact hkl)
          rw [HM.out] at a1
          have hG1 := HGG.out.below HB.out
          have hkkl : (kk : Int) < (M : Int) := by omega
          have ecs : (pcAt t kk).cs = #[.int .i64 (kk : Int), .int .i64 (M : Int), .string (str (chunk t kk)), .string (str (sumL (chunk t kk))), .string (str (sumL t))] := by
            unfold Pc.cs pcAt
            rw [HM.out]
          cases f
          case' true =>
            have hA := addT_old hf (by rw [hF, HM.out]) hG1 HH.out
            rw [ecs] at hA
            clear ecs hG1
            go_wp2_with fail
            refine hA.mono ?_
            rintro e w7 ⟨rfl, hb⟩
            have HX7 := Lib.hid (HX.out.below hb HX.out.lt)
            have HB7 := Lib.hid (HB.out.trans (hb.mono HB.out.size))
            have HH7 := HH.out.below hb
            have hv7 := HV.out.below hb HV.out.lt
            rw [← set_same hf] at HH7
            have cv := bl_cell hv7 hf
          case' false =>
            have hA := addT_new hf (by rw [hF, HM.out]) hG1 HH.out
            rw [ecs] at hA
            clear ecs hG1
            go_wp2_with fail
            refine hA.mono ?_
            rintro e w7 ⟨rfl, HH7, hk⟩
            have HX7 := Lib.hid (hk.blk HX.out (by have := HLOW.out; omega))
            have HB7 := Lib.hid (hk.below HB.out (by have := HLOW.out; omega))
            have hv7 := hk.blk HV.out (by have := HLV.out; omega)
            have cv := bl_cell hv7 hf
            clear hk
          all_goals
            have fv := hv7.free kk
            have HV8 := Lib.hid (bl_put kk hv7)
            have kv := (Ks.refl (fun x => x = v) w7).set1 kk (.bool true)
            have HX8 := Lib.hid (kv.blk HX7.out (by have := HLV.out; omega))
            have HB8 := Lib.hid (kv.below HB7.out (by have := HLV.out; omega))
            have HH8 := Lib.hid (HH7.ks kv (by have := HLV.out; omega) (by have := HLV.out; omega) (by have := HLV.out; omega))
            have hF8 : (F.set kk true).length = M := by rw [List.length_set]; exact hF
            clear a0 a1 a2 a3 a4 hA HX HB HH HV HX7 HB7 HH7 kv hv7 hf
            go_upto_region 19 with (fail)
            clear cv fv
            generalize w7.setCell ⟨v, kk, none⟩ (.bool true) = w8 at *
            generalize F.set kk true = F8 at *
            clear hkl hkkl hk0l hr1 hr2
            go_wp2_with fail
            go_loopw [17, 18, 19] (fun a l s wr => ∃ (r : Nat) (z : Int), r ≤ M ∧ s = .int .i64 z ∧ z = (r : Int) - 1 ∧ a = .int .i64 (((lkF F8 r).getD 0 : Nat) : Int) ∧ l = .bool (lkF F8 r).isSome ∧ w8 = wr) (fun _ _ s _ => (intOf s + 1).toNat)
            case atStart => exact ⟨M, _, by omega, rfl, rfl, by rw [lkF_end hF8]; rfl, by rw [lkF_end hF8]; rfl, rfl⟩
            case round =>
              obtain ⟨r, z, hr, rfl, hzr, rfl, rfl, rfl⟩ := hrel
              by_cases h9 : 1 ≤ r
              · obtain ⟨p, rfl⟩ : ∃ p, r = p + 1 := ⟨r - 1, by omega⟩
                obtain rfl : z = (p : Int) := by omega
                clear hzr
                have hpl : (p : Int) < (M : Int) := by omega
                obtain ⟨y, hy⟩ : ∃ y, F8[p]? = some y := ⟨_, List.getElem?_eq_getElem (by omega)⟩
                have cy := bl_cell HV8.out hy
                have HY := Lib.hid hy
                clear hy
                cases y with
                | true =>
                  have e9 := lkF_true HY.out
                  rw [← e9]
                  clear e9
                  go_wp2_with fail
                  go_roundw
                  case rel => exact ⟨p, _, by omega, rfl, rfl, rfl, rfl, trivial⟩
                  case measure => simp [intOf]
                | false =>
                  have e9 := lkF_false HY.out
                  go_wp2_with fail
                  go_roundw
                  case rel => exact ⟨p, _, by omega, rfl, rfl, by rw [e9]; rfl, by rw [e9]; rfl, trivial⟩
                  case measure => simp [intOf]
              · obtain rfl : r = 0 := by omega
                obtain rfl : z = -1 := by omega
                clear hzr h9 hr
                rw [lkF_zero]
                have hN := next_c HH8.out
                have hG8 := HGG.out.below HB8.out
                cases hk : lk F8 with
                | none =>
                  have hW := wholeT hk (by rw [hF8, HM.out]) hG8 HH8.out
                  rw [hk] at hN
                  clear hk hG8
                  go_wp2_with fail
                  refine hN.mono ?_
                  rintro e w9 ⟨rfl, rfl⟩
                  go_wp2_with fail
                  refine hW.mono ?_
                  rintro e w9 ⟨rfl, hb⟩
                  have HX9 := Lib.hid (HX8.out.below hb HX8.out.lt)
                  have HB9 := Lib.hid (HB8.out.trans (hb.mono HB8.out.size))
                  have HH9 := Lib.hid (HH8.out.below hb)
                  have HV9 := Lib.hid (HV8.out.below hb HV8.out.lt)
                  clear hb hN hW HX8 HB8 HH8 HV8
                  go_wp2_with fail
                  (repeat apply Exists.intro)
                  refine ⟨⟨j + 1, F8, by omega, rfl, hF8, HX9, HB9, HH9, HV9⟩, ?_⟩
                  simp [intOf]
                  omega
                | some i9 =>
                  have hW := whole_lacks hk HH8.out
                  rw [hk] at hN
                  clear hk hG8
                  go_wp2_with fail
                  refine hN.mono ?_
                  rintro e w9 ⟨rfl, rfl⟩
                  go_wp2_with fail
                  refine hW.mono ?_
                  rintro e w9 ⟨rfl, rfl⟩
                  clear hN hW
                  go_wp2_with fail
                  (repeat apply Exists.intro)
                  refine ⟨⟨j + 1, F8, by omega, rfl, hF8, HX8, HB8, HH8, HV8⟩, ?_⟩
                  simp [intOf]
                  omega
      · have f2 : decide ((j : Int) < 60) = false := decide_eq_false (by omega)
        have HB9 := HB
        clear HX HH HV HB
        go_wp2_with fail
        go_ret
        exact ⟨rfl, HB9.out⟩
    · have f1 : decide ((j : Int) ≤ L) = false := decide_eq_false h1
      have HB9 := HB
      clear HX HH HV HB
      go_wp2_with fail
      go_ret
      exact ⟨rfl, HB9.out⟩
set_option linter.unusedVariables false in
set_option maxRecDepth 100000 in
theorem snapGathers_lifted (os : Os) (started : os.Started) (H : Type) (enc : TypeId × Value → H) :
    ReturnsInHanded {} Tryd.checked os 3 .any (fun w args => (Rows.snapGathersSpec.pre enc Tryd.prog Tryd.f3 [] false w args ∧ laidMetH Tryd.prog laidAll w) ∧ sizedMet enc Tryd.prog Tryd.f3 (OpenSpec.ofChange Rows.snapGathersSpec) false w args) (Rows.snapGathersSpec.post enc Tryd.prog Tryd.f3 false true false false) := by
  refine returnsInHanded_of_change_and (C := Tryd.checked) (X := fun w _ => laidMetH Tryd.prog laidAll w) (fun _ _ _ hh h => h.of_heap hh) Kit.own started (by kernel_rfl) Tryd.func3
    (ChangeSpec.witness_shaped (enc := enc) (C := Tryd.checked) (os := os) (X := fun w _ => laidMetH Tryd.prog laidAll w) false (World.doorLaid Tryd.prog 400 os) #[.int .i64 0, .string ⟨#[]⟩, .slice none 0 0] 8 rfl (World.shaped_of_RefB (by kernel_rfl) (by kernel_rfl)) (by kernel_rfl) (by kernel_rfl) (by kernel_rfl) (door_met os _)) ?_
  intro W base args ds gs before hval0 hW _ _ hL _
  have hval : ∀ (j : Nat) t v, Tryd.f3.params[j]? = some t → args[j]? = some v → Value.okWide Tryd.prog W .any base t v := hval0
  have hW' := hW
  obtain ⟨p, q, hA0, hV, rfl, hfz, hnd⟩ := hW
  have hA : DataW.TrodAll enc Tryd.prog W 0 (fun _ => true) true Tryd.f3.params.toList args.toList ds p := hA0
  rw [Tryd.params3] at hA hval
  obtain ⟨v0, vs0, d0, ds0, p0, q0, hargs, rfl, rfl, h0, r0⟩ := trodAll_cons hA
  obtain ⟨v1, vs1, d1, ds1, p1, q1, rfl, rfl, rfl, h1, r1⟩ := trodAll_cons r0
  obtain ⟨v2, vs2, d2, ds2, p2, q2, rfl, rfl, rfl, h2, r2⟩ := trodAll_cons r1
  obtain ⟨rfl, rfl, rfl⟩ := trodAll_nil r2
  obtain ⟨rfl, rfl⟩ := trodVars_none hV
  obtain rfl : args = #[v0, v1, v2] := by cases args; simp_all
  obtain ⟨a0, rfl, rfl, rfl, w0⟩ := open_int Tryd.underlying3 (hval 0 3 v0 rfl rfl) h0
  obtain ⟨a1, rfl, rfl, rfl, w1⟩ := open_string Tryd.underlying9 (hval 1 9 v1 rfl rfl) h1
  obtain ⟨l1, rfl⟩ : ∃ l, a1 = str l := ⟨_, str_of a1⟩
  rw [str_size] at w1
  obtain ⟨b2, c2, e2, rfl⟩ := okWide_slice Tryd.underlying22 (hval 2 22 v2 rfl rfl)
  obtain ⟨fuel2, hf2⟩ := h2
  obtain ⟨ao2, len2, cap2, sb2, off2, X2, hv2, hI2⟩ := open_ints (show DataW.trod enc Tryd.prog W 0 (fun _ => true) true fuel2 22 [.slice b2 c2 e2] = some _ from hf2)
  injection hv2 with hv2x hv2y hv2z
  subst hv2x hv2y hv2z
  clear hA0 hval0
  refine (snapGathers_walk a0 w0 l1 w1 _ _ _ _ _ _ W hI2 (glob_of hL)).mono fun e W' ⟨he, hg⟩ => ?_
  subst he
  exact ⟨_, rfl, Kit.law_post hW' rfl (by kernel_rfl) rfl (by kernel_rfl) hg⟩

theorem snapGathers_holds : Rows.SnapGathersSaid :=
  OpenClaim.holds_of_wide 3 Tryd.f3 rfl rfl rfl rfl rfl rfl rfl ⟨rfl, rfl, rfl, rfl, rfl⟩ rfl rfl rfl rfl rfl (by kernel_rfl) Tryd.func3 (by kernel_rfl)
    (of_decide_eq_true (by kernel_rfl)) (by unfold Func.isWrapper; first | (rw [if_pos (by decide +kernel)]; kernel_rfl) | (rw [if_neg (by decide +kernel)]; exact ⟨rfl, rfl⟩))
    (fun os started H enc _ => snapGathers_lifted os started H enc)

theorem snapGathers_card : Rows.SnapGathersCardSaid :=
  Claim7.holds_tied_plain_at .later [] Rows.snapGathersCard.laidKinds true Rows.snapGathersCard.stood.harness Rows.snapGathersCard.stood.looks
    snapGathers_holds (fun _ h => by cases h) (by kernel_rfl) (fun _ h => by cases h) snapGathers_row_tie rfl ⟨rfl, rfl⟩ (by kernel_rfl) rfl
    (fun f fn hf hfn => by
      obtain rfl : f = 3 := Option.some.inj ((show Tryd.prog.funcNamed "hawthorn/hawthornlaw14.SnapGathers" = some 3 by kernel_rfl).symm.trans hf) |>.symm
      obtain rfl : fn = Tryd.f3 := (Option.some.inj (Tryd.func3.symm.trans hfn)).symm
      exact ⟨by kernel_rfl, fun j t ht => by
        rw [Tryd.params3] at ht
        have hm : t ∈ [3, 9, 22] := by simpa using Array.mem_of_getElem? ht
        have hall : ([3, 9, 22].all fun u => !Tryd.prog.wantsStandIn u) = true := by kernel_rfl
        exact (show Tryd.prog.wantsStandIn t = false by simpa using List.all_eq_true.1 hall t hm)⟩)
    (by kernel_rfl)

end Go.Proofs.YtccaomaobokldaaDoor.Snapy
