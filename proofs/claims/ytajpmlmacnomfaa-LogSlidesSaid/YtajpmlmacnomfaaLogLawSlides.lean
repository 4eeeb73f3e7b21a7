/- Layer 13 (log): for every input the call returns true and leaves what it was given as it was: of records that all slide in the last ones are there, as many as there may be (LogSlides). No condition. -/
import Derived.Test.YtajpmlmacnomfaaLogCalls
import Derived.Test.YtajpmlmacnomfaaBits
import Derived.Test.YtajpmlmacnomfaaKit
import Derived.Test.YtajpmlmacnomfaaLogAwake
import Derived.Test.YtajpmlmacnomfaaLogOpen
import Derived.Test.YtajpmlmacnomfaaRows
import Derived.Test.YtajpmlmacnomfaaRegion
import Derived.Lib.Hide
import Derived.BigQuiet
namespace Go.Proofs.Ytajpmlmacnomfaa.Logy
open Go.ChangeShapes Go.WideShapes Go.ChangeAt Go.RowKit
open Wirey (Blk Row str str_size str_list str_cat Kp)
open Regy Slsy

theorem rowOf_cons {b n : Nat} : rowOf b (n + 1) = Rc.of (b + 1) 0 :: rowOf (b + 1) n := by
  induction n with
  | zero => rfl
  | succ n ih => rw [rowOf_succ, ih, rowOf_succ, List.cons_append, show b + (n + 1) + 1 = b + 1 + n + 1 by omega]
theorem slide_more {b c n : Nat} (hc : c < n) : slE b (rowOf b c) (Rc.of (b + c + 1) 0) = 0 ∧ slB b n (rowOf b c) (Rc.of (b + c + 1) 0) = b ∧ slL b n (rowOf b c) (Rc.of (b + c + 1) 0) = rowOf b (c + 1) := by
  have hs : ¬ ((Rc.of (b + c + 1) 0).seq ≠ b + (rowOf b c).length + 1) := by rw [rowOf_len]; show ¬ (b + c + 1 ≠ _); omega
  have hf : ¬ n ≤ (rowOf b c).length := by rw [rowOf_len]; omega
  unfold slE slB slL
  rw [if_neg hs, if_neg hs, if_neg hs, if_neg hf, if_neg hf, rowOf_succ]
  exact ⟨rfl, rfl, rfl⟩
theorem slide_full {b k : Nat} : slE b (rowOf b (k + 1)) (Rc.of (b + (k + 1) + 1) 0) = 0 ∧ slB b (k + 1) (rowOf b (k + 1)) (Rc.of (b + (k + 1) + 1) 0) = b + 1 ∧ slL b (k + 1) (rowOf b (k + 1)) (Rc.of (b + (k + 1) + 1) 0) = rowOf (b + 1) (k + 1) := by
  have hs : ¬ ((Rc.of (b + (k + 1) + 1) 0).seq ≠ b + (rowOf b (k + 1)).length + 1) := by rw [rowOf_len]; show ¬ (b + (k + 1) + 1 ≠ _); omega
  have hf : k + 1 ≤ (rowOf b (k + 1)).length := by rw [rowOf_len]; omega
  unfold slE slB slL
  rw [if_neg hs, if_neg hs, if_neg hs, if_pos hf, if_pos hf]
  refine ⟨rfl, rfl, ?_⟩
  rw [rowOf_cons, List.tail_cons, rowOf_succ, show b + (k + 1) + 1 = b + 1 + k + 1 by omega]
theorem slide_next {n j : Nat} (hn : 1 ≤ n) : slE (j - min n j) (rowOf (j - min n j) (min n j)) (Rc.of (j + 1) 0) = 0 ∧
    slB (j - min n j) n (rowOf (j - min n j) (min n j)) (Rc.of (j + 1) 0) = j + 1 - min n (j + 1) ∧
    slL (j - min n j) n (rowOf (j - min n j) (min n j)) (Rc.of (j + 1) 0) = rowOf (j + 1 - min n (j + 1)) (min n (j + 1)) := by
  by_cases h : n ≤ j
  · rw [Nat.min_eq_left h, Nat.min_eq_left (by omega : n ≤ j + 1)]
    obtain ⟨k, rfl⟩ : ∃ k, n = k + 1 := ⟨n - 1, by omega⟩
    have h1 := slide_full (b := j - (k + 1)) (k := k)
    rw [show j - (k + 1) + (k + 1) + 1 = j + 1 by omega] at h1
    rw [show j + 1 - (k + 1) = j - (k + 1) + 1 by omega]
    exact h1
  · rw [Nat.min_eq_right (by omega : j ≤ n), Nat.min_eq_right (by omega : j + 1 ≤ n), Nat.sub_self, Nat.sub_self]
    have h1 := slide_more (b := 0) (c := j) (n := n) (by omega)
    rw [Nat.zero_add] at h1
    exact h1
theorem slide_wrong {base : Nat} {l : List Rc} {x : Rc} (hx : x.seq ≠ base + l.length + 1) : slE base l x = 123 := by unfold slE; rw [if_pos hx]
theorem from_all {b n : Nat} {k : Int} (hk : n ≤ k.toNat) : fromL b (rowOf b n) b k = rowOf b n := by
  unfold fromL
  rw [if_pos (by rw [rowOf_len]; omega), Nat.sub_self, List.drop_zero, List.take_of_length_le (by rw [rowOf_len]; exact hk)]
theorem in_all {b n : Nat} : inL b (rowOf b n) b = true := by unfold inL; simp
set_option maxHeartbeats 2000000 in
set_option maxRecDepth 100000 in
theorem logSlides_walk (n0 : Int) (_hn : (Lit.int .i64 n0).wf = true) (m0 : Int) (_hm : (Lit.int .i64 m0).wf = true) (w : World) :
    Calls Try.prog 7 #[.int .i64 n0, .int .i64 m0] w fun e w' => e = .returned (.bool true) ∧ Below w.heap.size w w' := by
  obtain ⟨p, hp, hpe⟩ := Bity.i64_cut 31 5 rfl (by omega) n0
  have hpe2 : bits .and .i64 n0 31 = (p : Int) := hpe
  clear hpe
  obtain ⟨m, hm, hme⟩ := Bity.i64_cut 127 7 rfl (by omega) m0
  have hme2 : bits .and .i64 m0 127 = (m : Int) := hme
  clear hme
  have hp1 : IntKind.i64.wrap (1 + (p : Int)) = 1 + (p : Int) := by rw [IntKind.wrap_i64]; omega
  go_enter Try.func7, Try.ntmps7
  go_wp2_with fail
  have hnew := fun W => new_ok 0 (1 + p) (by omega) (by omega) W
  have e0 : ((1 + p : Nat) : Int) = 1 + (p : Int) := by omega
  rw [e0] at hnew
  clear e0
  refine (hnew _).mono ?_
  rintro e w1 ⟨P0, b, rfl, hH, hb⟩
  clear hnew
  go_wp2_with fail
  refine (awake_c _).mono ?_
  rintro e w2 ⟨rfl, hbn⟩
  have hH2 := hH.below hbn
  have hb2 := hb.trans (hbn.mono hb.size)
  clear hH hb hbn
  go_wp2_with fail
  go_loopw [9] (fun i wr => ∃ (j : Nat) (P : Nat → Prop), j ≤ m ∧ i = .int .i64 j ∧ HeldL w wr P b (j - min (1 + p) j) (1 + p) (rowOf (j - min (1 + p) j) (min (1 + p) j)) ∧ Below w.heap.size w wr) (fun i _ => m - (intOf i).toNat)
  case atStart => exact ⟨0, P0, by omega, rfl, by simpa [rowOf] using hH2, hb2⟩
  case round =>
    clear hH2 hb2
    obtain ⟨j, P, hj, rfl, hH, hb⟩ := hrel
    by_cases h3 : j < m
    · have hlt : (j : Int) < (m : Int) := by omega
      have hw1 : IntKind.i64.wrap ((j : Int) + 1) = (j : Int) + 1 := by rw [IntKind.wrap_i64]; omega
      have hw2 : IntKind.u64.wrap ((j : Int) + 1) = (j : Int) + 1 := by rw [IntKind.wrap_u64]; omega
      have hadd := slide_c (Rc.of (j + 1) 0) (by show j + 1 < _; omega) (by omega) hH
      obtain ⟨e1, e2, e3⟩ := slide_next (n := 1 + p) (j := j) (by omega)
      rw [e1, e2, e3] at hadd
      clear e1 e2 e3
      have hadd2 : Calls Try.prog 18 #[lp b, .agg #[.int .u64 ((j : Int) + 1), .int .u64 0, .int .u64 0, .int .u64 0, .int .i64 0, .string ⟨#[]⟩, .string ⟨#[]⟩, .int .u64 0, .int .u64 0]] wr fun e w' => e = .returned (.int .i64 0) ∧ ∃ P', HeldL w w' P' b (j + 1 - min (1 + p) (j + 1)) (1 + p) (rowOf (j + 1 - min (1 + p) (j + 1)) (min (1 + p) (j + 1))) ∧ Mv P P' wr w' := by
        have e3 : ((j + 1 : Nat) : Int) = (j : Int) + 1 := by omega
        have h4 := hadd
        simp only [Rc.cs, Rc.of] at h4
        rw [e3] at h4
        exact h4
      clear hadd
      skip
      go_wp2_with fail
      refine hadd2.mono ?_
      rintro e w4 ⟨rfl, P4, hH4, hM⟩
      have hb4 := HeldL.mv hM hb hH
      clear hH hM hb hadd2
      have HH := Lib.hid hH4
      clear hH4
      go_wp2_with fail
      go_roundw
      case rel => exact ⟨j + 1, P4, by omega, rfl, HH.out, hb4⟩
      case measure => simp [intOf]; omega
    · obtain rfl : j = m := by omega
      obtain ⟨c, hc⟩ : ∃ c, c = min (1 + p) j := ⟨_, rfl⟩
      rw [← hc] at hH
      have hcm : c ≤ j := by omega
      obtain ⟨B, hB⟩ : ∃ B, B = j - c := ⟨_, rfl⟩
      rw [← hB] at hH
      have hBc : B + c = j := by omega
      have hBl : B ≤ 128 := by omega
      have hcl : c ≤ 32 := by omega
      have hfl := from_all (b := B) (n := c) (k := 200) (by omega)
      have hil := in_all (b := B) (n := c)
      have hsw := slide_wrong (base := B) (l := rowOf B c) (x := Rc.of (j + 2) 0) (by rw [rowOf_len]; show j + 2 ≠ _; omega)
      have hrl : (rowOf B c).length = c := rowOf_len
      have hat : ∀ i, i < c → (rowOf B c)[i]? = some (Rc.of (B + i + 1) 0) := fun i hi => rowOf_at hi
      have hmin : min (1 + (p : Int)) (j : Int) = (c : Int) := by omega
      have hmin2 : min ((1 + p : Nat) : Int) (j : Int) = (c : Int) := by omega
      generalize rowOf B c = R at *
      have HF := Lib.hid hfl
      have HI := Lib.hid hil
      have HR := Lib.hid hrl
      have HA := Lib.hid hat
      have HW := Lib.hid hsw
      have HC := Lib.hid hc
      have HB := Lib.hid hB
      have HBC := Lib.hid hBc
      clear hfl hil hrl hat hsw hc hB hBc
      go_wp2_with fail
      refine (base_c hH).mono ?_
      rintro e w5 ⟨rfl, hbn⟩
      have hH5 := hH.below hbn
      have hb5 := hb.trans (hbn.mono hb.size)
      clear hH hb hbn
      go_wp2_with fail
      refine (from_c B (by omega) 200 (by omega) (by omega) hH5).mono ?_
      rintro e w6 ⟨v, rfl, hO, hbn⟩
      rw [HF.out] at hO
      rw [HI.out]
      obtain ⟨va, vc, rfl⟩ := hO.form
      rw [HR.out] at hO ⊢
      have hlow : ∀ k, P k → k < w5.heap.size := fun k hp => (hH5.low k hp).2
      have hH6 := hH5.below hbn
      have hb6 := hb5.trans (hbn.mono hb5.size)
      clear hH5 hb5 hbn
      have hnoP : ∀ g, (Value.slice va c vc).ownBlock = some g → ¬ P g := fun g hg hp => by have := (hO.lt g hg).1; have := hlow g hp; omega
      have hlast := last_c (by omega) hH6
      have e9 : ((B + R.length : Nat) : Int) = (j : Int) := by rw [HR.out, HBC.out]
      rw [e9] at hlast
      clear e9
      have hsl := slide_c (Rc.of (j + 2) 0) (by show j + 2 < _; omega) (by omega) (hH6)
      go_wp2_with fail
      all_goals
        refine hlast.mono ?_
        rintro e w7 ⟨rfl, hbn⟩
        have hH7 := hH6.below hbn
        have hb7 := hb6.trans (hbn.mono hb6.size)
        have hO7 := hO.below hbn
        clear hH6 hb6 hbn hO hsl hlast
        have hsl := slide_c (Rc.of (j + 2) 0) (by show j + 2 < _; omega) (by omega) hH7
        rw [HW.out] at hsl
        have hsl2 : Calls Try.prog 18 #[lp b, .agg #[.int .u64 ((j : Int) + 2), .int .u64 0, .int .u64 0, .int .u64 0, .int .i64 0, .string ⟨#[]⟩, .string ⟨#[]⟩, .int .u64 0, .int .u64 0]] w7 fun e w' => e = .returned (.int .i64 123) ∧ Below w.heap.size w w' ∧ Kp P w7 w' := by
          have e3 : ((j + 2 : Nat) : Int) = (j : Int) + 2 := by omega
          have h4 := hsl
          simp only [Rc.cs, Rc.of] at h4
          rw [e3] at h4
          exact h4.mono fun _ _ ⟨a, _, _, hM⟩ => ⟨a, HeldL.mv hM hb7 hH7, hM.kp⟩
        have hno : ∀ g, (Value.slice va c vc).ownBlock = some g → ¬ P g := fun g hg hp => hnoP g hg hp
        clear hsl
        have hw1 : IntKind.i64.wrap ((j : Int) + 2) = (j : Int) + 2 := by rw [IntKind.wrap_i64]; omega
        have hw2 : IntKind.u64.wrap ((j : Int) + 2) = (j : Int) + 2 := by rw [IntKind.wrap_u64]; omega
        go_wp2_with fail
        refine hsl2.mono ?_
        rintro e w8 ⟨rfl, hb8, hK8⟩
        have hO8 : Ow w8 w5.heap.size RT Rc.enc 9 (.slice va c vc) R := hO7.stay fun g hg => hK8.block g (hO7.lt g hg).2 (hno g hg)
        clear hO7 hb7 hH7 hK8 hsl2
        cases c with
        | zero =>
          clear hO8
          go_wp2_with fail
          all_goals
            go_ret
            exact ⟨rfl, hb8⟩
        | succ k =>
          obtain ⟨g, rfl, -, hg, hcell⟩ := hO8.at_ Rc.len (HA.out k (by omega))
          have c0 : w8.cell? ⟨g, k * 9, none⟩ = some (.int .u64 (j : Int)) := by
            have h := hcell w8 rfl 0 (by omega)
            have e : B + k + 1 = j := by have := HBC.out; omega
            rw [e] at h
            exact h
          have hk9 : k ≤ 40 := by omega
          have c9 : w8.cell? ⟨g, p * 9, none⟩ = some (.int .u64 (j : Int)) ∨ w8.cell? ⟨g, (j - 1) * 9, none⟩ = some (.int .u64 (j : Int)) := by
            rcases (by have := HC.out; omega : k = p ∨ k = j - 1) with e | e
            · exact .inl (e ▸ c0)
            · exact .inr (e ▸ c0)
          have c7 : w8.cell? ⟨g, (j - 1) * 9, none⟩ = some (.int .u64 (j : Int)) ∨ True := .inr trivial
          clear c7
          first
          | (have c8 : w8.cell? ⟨g, p * 9, none⟩ = some (.int .u64 (j : Int)) := by rw [show p = k by omega]; exact c0)
          | (have c8 : w8.cell? ⟨g, (j - 1) * 9, none⟩ = some (.int .u64 (j : Int)) := by rw [show j - 1 = k by omega]; exact c0)
          clear c9
          have hk1 : IntKind.i64.wrap (k : Int) = (k : Int) := by rw [IntKind.wrap_i64]; omega
          have hne : (((k : Int) + 1 == 0) = false) := by rw [beq_eq_false_iff_ne]; omega
          have hne2 : ((((k + 1 : Nat) : Int) == 0) = false) := by rw [beq_eq_false_iff_ne]; omega
          have hle : (k : Int) < (k : Int) + 1 := by omega
          clear hO8 hcell hmin hmin2
          go_wp2_with fail
          go_ret
          exact ⟨by first | rfl | simp, hb8⟩
set_option linter.unusedVariables false in
set_option maxRecDepth 100000 in
theorem logSlides_lifted (os : Os) (started : os.Started) (H : Type) (enc : TypeId × Value → H) :
    ReturnsInHanded {} Try.checked os 7 .any (Rows.logSlidesSpec.pre6 enc Try.prog Try.f7 Rows.logSlidesRow.domain false) (Rows.logSlidesSpec.post enc Try.prog Try.f7 false true false false) := by
  refine returnsInHanded_of_change (C := Try.checked) Kit.own started (by kernel_rfl) Try.func7
    (ChangeSpec.witness6 (enc := enc) (C := Try.checked) false ⟨#[], #[.int .i64 0, .int .i64 0], []⟩ 8 (by kernel_rfl) (by kernel_rfl) (by kernel_rfl) (by kernel_rfl)) ?_
  intro W base args ds gs before hval0 hW hcnd _
  have hval : ∀ (j : Nat) t v, Try.f7.params[j]? = some t → args[j]? = some v → Value.okWide Try.prog W .any base t v := hval0
  have hW' := hW
  obtain ⟨p, q, hA0, hV, rfl, hfz, hnd⟩ := hW
  have hA : DataW.TrodAll enc Try.prog W 0 (fun _ => true) true Try.f7.params.toList args.toList ds p := hA0
  rw [Try.params7] at hA hval
  obtain ⟨v0, vs0, d0, ds0, p0, q0, hargs, rfl, rfl, h0, r0⟩ := trodAll_cons hA
  obtain ⟨v1, vs1, d1, ds1, p1, q1, rfl, rfl, rfl, h1, r1⟩ := trodAll_cons r0
  obtain ⟨rfl, rfl, rfl⟩ := trodAll_nil r1
  obtain ⟨rfl, rfl⟩ := trodVars_none hV
  obtain rfl : args = #[v0, v1] := by cases args; simp_all
  obtain ⟨n, rfl, rfl, rfl, w0⟩ := open_int Try.underlying3 (hval 0 3 v0 rfl rfl) h0
  obtain ⟨m, rfl, rfl, rfl, w1⟩ := open_int Try.underlying3 (hval 1 3 v1 rfl rfl) h1
  clear hA0 hval0
  refine (logSlides_walk n w0 m w1 W).mono fun e W' ⟨he, hg⟩ => ?_
  subst he
  exact ⟨_, rfl, Kit.law_post hW' rfl (by kernel_rfl) rfl (by kernel_rfl) hg⟩

theorem logSlides_over : Rows.logSlidesRow.holds Try.pinned (OpenSpec.ofChange Rows.logSlidesSpec) :=
  OpenClaim.holds_of_wide 7 Try.f7 rfl rfl rfl rfl rfl rfl rfl ⟨rfl, rfl, rfl, rfl, rfl⟩ rfl rfl rfl rfl rfl (by kernel_rfl) Try.func7 (by kernel_rfl)
    (of_decide_eq_true (by kernel_rfl)) (by unfold Func.isWrapper; first | (rw [if_pos (by decide +kernel)]; kernel_rfl) | (rw [if_neg (by decide +kernel)]; exact ⟨rfl, rfl⟩))
    (fun os started H enc _ => logSlides_lifted os started H enc)

theorem logSlides_holds : Rows.LogSlidesSaid :=
  logSlides_over
end Go.Proofs.Ytajpmlmacnomfaa.Logy
