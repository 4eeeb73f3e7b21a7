/- Layer 13 (log): for every input the call returns true and leaves what it was given as it was: records behind any place are told, at most so many, or that they are not there (LogFrom). No condition. -/
import Derived.Test.YtajpmlmacnomfaaLogCalls
import Derived.Test.YtajpmlmacnomfaaBits
import Derived.Test.YtajpmlmacnomfaaKit
import Derived.Test.YtajpmlmacnomfaaLogAwake
import Derived.Test.YtajpmlmacnomfaaLogOpen
import Derived.Test.YtajpmlmacnomfaaRows
import Derived.Test.YtajpmlmacnomfaaRegion
import Derived.Lib.Hide
import Derived.BigQuiet
namespace Go.Proofs.Ytajpmlmacnomfaa.Logy
open Go.ChangeShapes Go.WideShapes Go.ChangeAt Go.RowKit
open Wirey (Blk Row str str_size str_list str_cat Kp)
open Regy Slsy

theorem from_in {b k seq : Nat} {most : Int} (h1 : b ≤ seq) (h2 : seq ≤ b + k) : fromL b (rowOf b k) seq most = ((rowOf b k).drop (seq - b)).take most.toNat ∧ inL b (rowOf b k) seq = true := by
  unfold fromL inL
  rw [rowOf_len, if_pos ⟨h1, h2⟩]
  exact ⟨rfl, by simp [h1, h2]⟩
theorem from_out {b k seq : Nat} {most : Int} (h : ¬ (b ≤ seq ∧ seq ≤ b + k)) : fromL b (rowOf b k) seq most = [] ∧ inL b (rowOf b k) seq = false := by
  unfold fromL inL
  rw [rowOf_len, if_neg h]
  exact ⟨rfl, by simpa using h⟩
theorem from_at {b k d c i : Nat} (hi : i < c) (hd : d + c ≤ k) : (((rowOf b k).drop d).take c)[i]? = some (Rc.of (b + d + i + 1) 0) := by
  rw [List.getElem?_take_of_lt hi, List.getElem?_drop, rowOf_at (by omega), show b + (d + i) + 1 = b + d + i + 1 by omega]
theorem from_len {b k d c : Nat} (hd : d + c ≤ k) : (((rowOf b k).drop d).take c).length = c := by
  rw [List.length_take, List.length_drop, rowOf_len]; omega
set_option maxHeartbeats 2000000 in
set_option maxRecDepth 100000 in
theorem logFrom_walk (n0 : Int) (_hn : (Lit.int .i64 n0).wf = true) (seq : Nat) (hseq : seq < 18446744073709551616) (most : Int) (hmost : (Lit.int .i64 most).wf = true) (w : World) :
    Calls Try.prog 4 #[.int .i64 n0, .int .u64 (seq : Int), .int .i64 most] w fun e w' => e = .returned (.bool true) ∧ Below w.heap.size w w' := by
  have hmb := bounds_i64 hmost
  obtain ⟨k, hk, hke⟩ := Bity.i64_cut 31 5 rfl (by omega) n0
  have hke2 : bits .and .i64 n0 31 = (k : Int) := hke
  clear hke
  go_enter Try.func4, Try.ntmps4
  go_wp2_with fail
  generalize hX : bits BinOp.and IntKind.u64 _ 255 = Bv
  obtain ⟨b, hbl, rfl⟩ : ∃ b : Nat, b < 256 ∧ Bv = (b : Int) := by
    rw [← hX]
    obtain ⟨q, h1, h2⟩ := Bity.u64_cut 255 8 rfl (by omega) _
    exact ⟨q, h1, h2⟩
  clear hX
  refine (new_ok b 40 (by omega) (by omega) _).mono ?_
  rintro e w1 ⟨P0, p, rfl, hH, hb⟩
  go_wp2_with fail
  refine (awake_c _).mono ?_
  rintro e w2 ⟨rfl, hbn⟩
  have hH2 := hH.below hbn
  have hb2 := hb.trans (hbn.mono hb.size)
  clear hH hb hbn
  go_wp2_with fail
  go_loopw [11] (fun i wr => ∃ (j : Nat) (P : Nat → Prop), j ≤ k ∧ i = .int .i64 j ∧ HeldL w wr P p b 40 (rowOf b j) ∧ Below w.heap.size w wr) (fun i _ => k - (intOf i).toNat)
  case atStart => exact ⟨0, P0, by omega, rfl, hH2, hb2⟩
  case round =>
    clear hH2 hb2
    obtain ⟨j, P, hj, rfl, hH, hb⟩ := hrel
    by_cases h3 : j < k
    · have hlt : (j : Int) < (k : Int) := by omega
      have hw1 : IntKind.u64.wrap (j : Int) = (j : Int) := by rw [IntKind.wrap_u64]; omega
      have hw2 : IntKind.u64.wrap ((b : Int) + (j : Int)) = (b : Int) + (j : Int) := by rw [IntKind.wrap_u64]; omega
      have hw3 : IntKind.u64.wrap ((b : Int) + (j : Int) + 1) = (b : Int) + (j : Int) + 1 := by rw [IntKind.wrap_u64]; omega
      have hadd := add_c (Rc.of (b + j + 1) 0) (by show b + j + 1 < _; omega) (by omega) hH
      obtain ⟨e1, e2⟩ := add_next (base := b) (most := 40) (l := rowOf b j) (x := Rc.of (b + j + 1) 0) (by rw [rowOf_len]; rfl) (by rw [rowOf_len]; omega)
      rw [e1, e2, ← rowOf_succ] at hadd
      clear e1 e2
      have hadd2 : Calls Try.prog 16 #[lp p, .agg #[.int .u64 ((b : Int) + (j : Int) + 1), .int .u64 0, .int .u64 0, .int .u64 0, .int .i64 0, .string ⟨#[]⟩, .string ⟨#[]⟩, .int .u64 0, .int .u64 0]] wr fun e w' => e = .returned (.int .i64 0) ∧ ∃ P', HeldL w w' P' p b 40 (rowOf b (j + 1)) ∧ Mv P P' wr w' := by
        have e3 : ((b + j + 1 : Nat) : Int) = (b : Int) + (j : Int) + 1 := by omega
        have h4 := hadd
        simp only [Rc.cs, Rc.of] at h4
        rw [e3] at h4
        exact h4
      clear hadd
      go_wp2_with fail
      refine hadd2.mono ?_
      rintro e w4 ⟨rfl, P4, hH4, hM⟩
      have hb4 := HeldL.mv hM hb hH
      clear hH hM hb hadd2
      go_wp2_with fail
      go_roundw
      case rel => exact ⟨j + 1, P4, by omega, rfl, hH4, hb4⟩
      case measure => simp [intOf]; omega
    · obtain rfl : j = k := by omega
      have hw1 : IntKind.u64.wrap (j : Int) = (j : Int) := by rw [IntKind.wrap_u64]; omega
      have hw2 : IntKind.u64.wrap ((b : Int) + (j : Int)) = (b : Int) + (j : Int) := by rw [IntKind.wrap_u64]; omega
      by_cases hin : b ≤ seq ∧ seq ≤ b + j
      · obtain ⟨hf, hi⟩ := from_in (b := b) (k := j) (seq := seq) (most := most) hin.1 hin.2
        obtain ⟨d, hd⟩ : ∃ d, d = seq - b := ⟨_, rfl⟩
        obtain ⟨c, hc⟩ : ∃ c, c = min most.toNat (j - d) := ⟨_, rfl⟩
        have hfc : ((rowOf b j).drop (seq - b)).take most.toNat = ((rowOf b j).drop d).take c := by
          rw [← hd, hc]
          by_cases h4 : most.toNat ≤ j - d
          · rw [Nat.min_eq_left h4]
          · rw [Nat.min_eq_right (by omega), List.take_of_length_le (by rw [List.length_drop, rowOf_len]; omega), List.take_of_length_le (by rw [List.length_drop, rowOf_len]; omega)]
        rw [hfc] at hf
        have hrl := from_len (b := b) (k := j) (d := d) (c := c) (by omega)
        have hat := fun i (hi : i < c) => from_at (b := b) (k := j) (d := d) (c := c) hi (by omega)
        generalize hRR : ((rowOf b j).drop d).take c = R at *
        clear hRR hfc
        have n1 : ¬ ((seq : Int) < (b : Int)) := by omega
        have n2 : ¬ ((b : Int) + (j : Int) < (seq : Int)) := by omega
        have t1 : decide ((seq : Int) < (b : Int)) = false := decide_eq_false n1
        have t2 : decide ((b : Int) + (j : Int) < (seq : Int)) = false := decide_eq_false n2
        have hw4 : IntKind.u64.wrap ((b : Int) + (j : Int) - (seq : Int)) = (b : Int) + (j : Int) - (seq : Int) := by rw [IntKind.wrap_u64]; omega
        have hw5 : IntKind.i64.wrap ((b : Int) + (j : Int) - (seq : Int)) = (b : Int) + (j : Int) - (seq : Int) := by rw [IntKind.wrap_i64]; omega
        have hsl : seq ≤ 300 := by omega
        have hcl : c ≤ 40 := by omega
        have hbd : b + d = seq := by omega
        have hfrom := from_c seq hseq most hmb (by omega) hH
        rw [hf, hi] at hfrom
        clear hf hi
        have HR := Lib.hid hrl
        have HA := Lib.hid hat
        have HC := Lib.hid hc
        have HBD := Lib.hid hbd
        have HD := Lib.hid hd
        clear hrl hat hc hbd hd
        go_wp2_with fail
        refine hfrom.mono ?_
        rintro e w5 ⟨v, rfl, hO, hbn⟩
        obtain ⟨va, vc, rfl⟩ := hO.form
        rw [HR.out]
        rw [HR.out] at hO
        have hb5 := hb.trans (hbn.mono hb.size)
        clear hH hb hbn hfrom
        have hw6 : IntKind.u64.wrap ((seq : Int) + 1) = (seq : Int) + 1 := by rw [IntKind.wrap_u64]; omega
        by_cases h1 : most < (b : Int) + (j : Int) - (seq : Int)
        · have r1 : decide (most < (b : Int) + (j : Int) - (seq : Int)) = true := decide_eq_true h1
          by_cases h2 : most < 0
          · have r2 : decide (most < 0) = true := decide_eq_true h2
            obtain rfl : c = 0 := by have := HC.out; omega
            go_wp2_with fail
            go_loopw [15] (fun i wr => ∃ q : Nat, q ≤ 0 ∧ i = .int .i64 q ∧ Below w5.heap.size w5 wr) (fun i _ => 0 - (intOf i).toNat)
            case atStart => exact ⟨0, by omega, rfl, Below.refl _ _⟩
            case round =>
              obtain ⟨q, hq, rfl, hbr⟩ := hrel
              have hO2 := hO.below hbr
              have hb6 := hb5.trans (hbr.mono hb5.size)
              by_cases h7 : q < 0
              · exact absurd h7 (Nat.not_lt_zero q)
              · obtain rfl : q = 0 := by omega
                clear hO2 hbr
                go_wp2_with fail
                go_ret
                exact ⟨by first | rfl | simp, hb6⟩
          · have r2 : decide (most < 0) = false := decide_eq_false h2
            obtain rfl : most = (c : Int) := by have := HC.out; have := HD.out; omega
            clear HC
            go_wp2_with fail
            go_loopw [15] (fun i wr => ∃ q : Nat, q ≤ c ∧ i = .int .i64 q ∧ Below w5.heap.size w5 wr) (fun i _ => c - (intOf i).toNat)
            case atStart => exact ⟨0, by omega, rfl, Below.refl _ _⟩
            case round =>
              obtain ⟨q, hq, rfl, hbr⟩ := hrel
              have hO2 := hO.below hbr
              have hb6 := hb5.trans (hbr.mono hb5.size)
              by_cases h7 : q < c
              · have hlt : (q : Int) < (c : Int) := by omega
                obtain ⟨g, rfl, -, hg, hcell⟩ := hO2.at_ Rc.len (HA.out q h7)
                have c0 : wr.cell? ⟨g, q * 9, none⟩ = some (.int .u64 ((seq : Int) + 1 + (q : Int))) := by
                  have h := hcell wr rfl 0 (by omega)
                  have e : ((b + d + q + 1 : Nat) : Int) = (seq : Int) + 1 + (q : Int) := by have := HBD.out; omega
                  have h2 : wr.cell? ⟨g, q * 9, none⟩ = some (.int .u64 ((b + d + q + 1 : Nat) : Int)) := h
                  rw [e] at h2
                  exact h2
                have hw7 : IntKind.u64.wrap (q : Int) = (q : Int) := by rw [IntKind.wrap_u64]; omega
                have hw8 : IntKind.u64.wrap ((seq : Int) + 1 + (q : Int)) = (seq : Int) + 1 + (q : Int) := by rw [IntKind.wrap_u64]; omega
                have HBR := Lib.hid hbr
                clear hO2 hb6 hcell hbr
                go_wp2_with fail
                go_roundw
                case rel => exact ⟨q + 1, by omega, rfl, HBR.out⟩
                case measure => simp [intOf]; omega
              · obtain rfl : q = c := by omega
                clear hO2 hbr
                go_wp2_with fail
                go_ret
                exact ⟨by first | rfl | simp, hb6⟩
        · have r1 : decide (most < (b : Int) + (j : Int) - (seq : Int)) = false := decide_eq_false h1
          have hce : (b : Int) + (j : Int) - (seq : Int) = (c : Int) := by have := HC.out; have := HD.out; omega
          have r2 : decide ((b : Int) + (j : Int) - (seq : Int) < 0) = false := decide_eq_false (by omega)
          have r3 : ¬ ((b : Int) + (j : Int) - (seq : Int) < 0) := by omega
          have HCE := Lib.hid hce
          clear hce
          go_wp2_with fail
          go_loopw [15] (fun i wr => ∃ q : Nat, q ≤ c ∧ i = .int .i64 q ∧ Below w5.heap.size w5 wr) (fun i _ => c - (intOf i).toNat)
          case atStart => exact ⟨0, by omega, rfl, Below.refl _ _⟩
          case round =>
            obtain ⟨q, hq, rfl, hbr⟩ := hrel
            have hO2 := hO.below hbr
            have hb6 := hb5.trans (hbr.mono hb5.size)
            by_cases h7 : q < c
            · have hlt : (q : Int) < (c : Int) := by omega
              obtain ⟨g, rfl, -, hg, hcell⟩ := hO2.at_ Rc.len (HA.out q h7)
              have c0 : wr.cell? ⟨g, q * 9, none⟩ = some (.int .u64 ((seq : Int) + 1 + (q : Int))) := by
                have h := hcell wr rfl 0 (by omega)
                have e : ((b + d + q + 1 : Nat) : Int) = (seq : Int) + 1 + (q : Int) := by have := HBD.out; omega
                have h2 : wr.cell? ⟨g, q * 9, none⟩ = some (.int .u64 ((b + d + q + 1 : Nat) : Int)) := h
                rw [e] at h2
                exact h2
              have hw7 : IntKind.u64.wrap (q : Int) = (q : Int) := by rw [IntKind.wrap_u64]; omega
              have hw8 : IntKind.u64.wrap ((seq : Int) + 1 + (q : Int)) = (seq : Int) + 1 + (q : Int) := by rw [IntKind.wrap_u64]; omega
              have HBR := Lib.hid hbr
              clear hO2 hb6 hcell hbr
              go_wp2_with fail
              go_roundw
              case rel => exact ⟨q + 1, by omega, rfl, HBR.out⟩
              case measure => simp [intOf]; omega
            · obtain rfl : q = c := by omega
              have heq : ((q : Int) == (b : Int) + (j : Int) - (seq : Int)) = true := by rw [HCE.out]; simp
              clear hO2 hbr
              go_wp2_with fail
              go_ret
              exact ⟨by first | rfl | simp, hb6⟩
      · obtain ⟨hf, hi⟩ := from_out (b := b) (k := j) (seq := seq) (most := most) hin
        have hfrom := from_c seq hseq most hmb (by omega) hH
        rw [hf, hi] at hfrom
        clear hf hi
        rcases (by omega : seq < b ∨ (¬ seq < b ∧ b + j < seq)) with h5 | ⟨h5, h6⟩
        · have t1 : decide ((seq : Int) < (b : Int)) = true := decide_eq_true (by omega)
          go_wp2_with fail
          refine hfrom.mono ?_
          rintro e w5 ⟨v, rfl, hO, hbn⟩
          obtain ⟨va, vc, rfl⟩ := hO.form
          have hb5 := hb.trans (hbn.mono hb.size)
          clear hH hb hbn hfrom hO
          simp only [List.length_nil]
          go_wp2_with fail
          go_ret
          exact ⟨rfl, hb5⟩
        · have t1 : decide ((seq : Int) < (b : Int)) = false := decide_eq_false (by omega)
          have t2 : decide ((b : Int) + (j : Int) < (seq : Int)) = true := decide_eq_true (by omega)
          go_wp2_with fail
          refine hfrom.mono ?_
          rintro e w5 ⟨v, rfl, hO, hbn⟩
          obtain ⟨va, vc, rfl⟩ := hO.form
          have hb5 := hb.trans (hbn.mono hb.size)
          clear hH hb hbn hfrom hO
          simp only [List.length_nil]
          go_wp2_with fail
          go_ret
          exact ⟨rfl, hb5⟩
set_option linter.unusedVariables false in
set_option maxRecDepth 100000 in
theorem logFrom_lifted (os : Os) (started : os.Started) (H : Type) (enc : TypeId × Value → H) :
    ReturnsInHanded {} Try.checked os 4 .any (Rows.logFromSpec.pre6 enc Try.prog Try.f4 Rows.logFromRow.domain false) (Rows.logFromSpec.post enc Try.prog Try.f4 false true false false) := by
  refine returnsInHanded_of_change (C := Try.checked) Kit.own started (by kernel_rfl) Try.func4
    (ChangeSpec.witness6 (enc := enc) (C := Try.checked) false ⟨#[], #[.int .i64 0, .int .u64 0, .int .i64 0], []⟩ 8 (by kernel_rfl) (by kernel_rfl) (by kernel_rfl) (by kernel_rfl)) ?_
  intro W base args ds gs before hval0 hW hcnd _
  have hval : ∀ (j : Nat) t v, Try.f4.params[j]? = some t → args[j]? = some v → Value.okWide Try.prog W .any base t v := hval0
  have hW' := hW
  obtain ⟨p, q, hA0, hV, rfl, hfz, hnd⟩ := hW
  have hA : DataW.TrodAll enc Try.prog W 0 (fun _ => true) true Try.f4.params.toList args.toList ds p := hA0
  rw [Try.params4] at hA hval
  obtain ⟨v0, vs0, d0, ds0, p0, q0, hargs, rfl, rfl, h0, r0⟩ := trodAll_cons hA
  obtain ⟨v1, vs1, d1, ds1, p1, q1, rfl, rfl, rfl, h1, r1⟩ := trodAll_cons r0
  obtain ⟨v2, vs2, d2, ds2, p2, q2, rfl, rfl, rfl, h2, r2⟩ := trodAll_cons r1
  obtain ⟨rfl, rfl, rfl⟩ := trodAll_nil r2
  obtain ⟨rfl, rfl⟩ := trodVars_none hV
  obtain rfl : args = #[v0, v1, v2] := by cases args; simp_all
  obtain ⟨n, rfl, rfl, rfl, w0⟩ := open_int Try.underlying3 (hval 0 3 v0 rfl rfl) h0
  obtain ⟨a1, rfl, rfl, rfl, w1⟩ := open_int Try.underlying22 (hval 1 22 v1 rfl rfl) h1
  obtain ⟨sq, rfl, hn1⟩ := Arry.u64_nat w1
  obtain ⟨most, rfl, rfl, rfl, w2⟩ := open_int Try.underlying3 (hval 2 3 v2 rfl rfl) h2
  clear hA0 hval0
  refine (logFrom_walk n w0 sq hn1 most w2 W).mono fun e W' ⟨he, hg⟩ => ?_
  subst he
  exact ⟨_, rfl, Kit.law_post hW' rfl (by kernel_rfl) rfl (by kernel_rfl) hg⟩

theorem logFrom_over : Rows.logFromRow.holds Try.pinned (OpenSpec.ofChange Rows.logFromSpec) :=
  OpenClaim.holds_of_wide 4 Try.f4 rfl rfl rfl rfl rfl rfl rfl ⟨rfl, rfl, rfl, rfl, rfl⟩ rfl rfl rfl rfl rfl (by kernel_rfl) Try.func4 (by kernel_rfl)
    (of_decide_eq_true (by kernel_rfl)) (by unfold Func.isWrapper; first | (rw [if_pos (by decide +kernel)]; kernel_rfl) | (rw [if_neg (by decide +kernel)]; exact ⟨rfl, rfl⟩))
    (fun os started H enc _ => logFrom_lifted os started H enc)

theorem logFrom_holds : Rows.LogFromSaid :=
  logFrom_over
end Go.Proofs.Ytajpmlmacnomfaa.Logy
