/- Layer 13 (log): for every input the call returns true and leaves what it was given as it was: what was told is the caller's own (LogOwn). No condition. -/
import Derived.Test.YtajpmlmacnomfaaLogCalls
import Derived.Test.YtajpmlmacnomfaaBits
import Derived.Test.YtajpmlmacnomfaaKit
import Derived.Test.YtajpmlmacnomfaaLogAwake
import Derived.Test.YtajpmlmacnomfaaLogOpen
import Derived.Test.YtajpmlmacnomfaaRows
import Derived.Test.YtajpmlmacnomfaaRegion
import Derived.Lib.Hide
import Derived.BigQuiet
namespace Go.Proofs.Ytajpmlmacnomfaa.Logy
open Go.ChangeShapes Go.WideShapes Go.ChangeAt Go.RowKit
open Wirey (Blk Row str str_size str_list str_cat Kp)
open Regy Slsy

set_option maxHeartbeats 2000000 in
set_option maxRecDepth 100000 in
theorem logOwn_walk (n0 : Int) (_hn : (Lit.int .i64 n0).wf = true) (w : World) :
    Calls Try.prog 5 #[.int .i64 n0] w fun e w' => e = .returned (.bool true) ∧ Below w.heap.size w w' := by
  obtain ⟨q, hq, hqe⟩ := Bity.i64_cut 15 4 rfl (by omega) n0
  have hqe2 : bits .and .i64 n0 15 = (q : Int) := hqe
  clear hqe
  have hq1 : IntKind.i64.wrap (1 + (q : Int)) = 1 + (q : Int) := by rw [IntKind.wrap_i64]; omega
  go_enter Try.func5, Try.ntmps5
  go_wp2_with fail
  refine (new_ok 0 20 (by omega) (by omega) _).mono ?_
  rintro e w1 ⟨P0, b, rfl, hH, hb⟩
  go_wp2_with fail
  refine (awake_c _).mono ?_
  rintro e w2 ⟨rfl, hbn⟩
  have hH2 := hH.below hbn
  have hb2 := hb.trans (hbn.mono hb.size)
  clear hH hb hbn
  go_wp2_with fail
  go_loopw [5] (fun i wr => ∃ (j : Nat) (P : Nat → Prop), j ≤ 1 + q ∧ i = .int .i64 j ∧ HeldL w wr P b 0 20 (rowOf 0 j) ∧ Below w.heap.size w wr) (fun i _ => 1 + q - (intOf i).toNat)
  case atStart => exact ⟨0, P0, by omega, rfl, hH2, hb2⟩
  case round =>
    clear hH2 hb2
    obtain ⟨j, P, hj, rfl, hH, hb⟩ := hrel
    by_cases h3 : j < 1 + q
    · have hlt : (j : Int) < 1 + (q : Int) := by omega
      have dlt : decide ((j : Int) < 1 + (q : Int)) = true := decide_eq_true hlt
      have hw1 : IntKind.i64.wrap ((j : Int) + 1) = (j : Int) + 1 := by rw [IntKind.wrap_i64]; omega
      have hw2 : IntKind.u64.wrap ((j : Int) + 1) = (j : Int) + 1 := by rw [IntKind.wrap_u64]; omega
      have hadd := add_c (Rc.of (0 + j + 1) 0) (by show 0 + j + 1 < _; omega) (by omega) hH
      obtain ⟨e1, e2⟩ := add_next (base := 0) (most := 20) (l := rowOf 0 j) (x := Rc.of (0 + j + 1) 0) (by rw [rowOf_len]; rfl) (by rw [rowOf_len]; omega)
      rw [e1, e2, ← rowOf_succ] at hadd
      clear e1 e2
      have hadd2 : Calls Try.prog 16 #[lp b, .agg #[.int .u64 ((j : Int) + 1), .int .u64 0, .int .u64 0, .int .u64 0, .int .i64 0, .string ⟨#[]⟩, .string ⟨#[]⟩, .int .u64 0, .int .u64 0]] wr fun e w' => e = .returned (.int .i64 0) ∧ ∃ P', HeldL w w' P' b 0 20 (rowOf 0 (j + 1)) ∧ Mv P P' wr w' := by
        have e3 : ((0 + j + 1 : Nat) : Int) = (j : Int) + 1 := by omega
        have h4 := hadd
        simp only [Rc.cs, Rc.of] at h4
        rw [e3] at h4
        exact h4
      clear hadd
      go_wp2_with fail
      refine hadd2.mono ?_
      rintro e w4 ⟨rfl, P4, hH4, hM⟩
      have hb4 := HeldL.mv hM hb hH
      clear hH hM hb hadd2
      go_wp2_with fail
      go_roundw
      case rel => exact ⟨j + 1, P4, by omega, rfl, hH4, hb4⟩
      case measure => simp [intOf]; omega
    · obtain rfl : j = 1 + q := by omega
      have dlt : decide (((1 + q : Nat) : Int) < 1 + (q : Int)) = false := decide_eq_false (by omega)
      have hge : ¬ (((1 + q : Nat) : Int) < 1 + (q : Int)) := by omega
      have hfl : fromL 0 (rowOf 0 (1 + q)) 0 100 = rowOf 0 (1 + q) := by
        unfold fromL
        rw [if_pos (by rw [rowOf_len]; omega), Nat.sub_self, List.drop_zero, List.take_of_length_le (by rw [rowOf_len]; omega)]
      have hil : inL 0 (rowOf 0 (1 + q)) 0 = true := by unfold inL; simp
      have hrl : (rowOf 0 (1 + q)).length = 1 + q := rowOf_len
      have hat : ∀ i, i < 1 + q → (rowOf 0 (1 + q))[i]? = some (Rc.of (0 + i + 1) 0) := fun i hi => rowOf_at hi
      generalize rowOf 0 (1 + q) = R at *
      have HF := Lib.hid hfl
      have HI := Lib.hid hil
      have HR := Lib.hid hrl
      have HA := Lib.hid hat
      clear hfl hil hrl hat
      go_wp2_with fail
      refine (from_c 0 (by omega) 100 (by omega) (by omega) hH).mono ?_
      rintro e w5 ⟨v, rfl, hO, hbn⟩
      rw [HF.out] at hO
      rw [HI.out]
      obtain ⟨va, vc, rfl⟩ := hO.form
      rw [HR.out] at hO ⊢
      have hH5 := hH.below hbn
      have hb5 := hb.trans (hbn.mono hb.size)
      have hno : ∀ g, (Value.slice va (1 + q) vc).ownBlock = some g → ¬ P g := fun g hg hp => by have := (hO.lt g hg).1; have := (hH.low g hp).2; omega
      have hwv : ∀ g, (Value.slice va (1 + q) vc).ownBlock = some g → w.heap.size ≤ g := fun g hg => by have := (hO.lt g hg).1; have := hb.size; omega
      clear hH hb hbn
      go_wp2_with fail
      obtain ⟨g, rfl, hg0, hg, -⟩ := hO.at_ Rc.len (HA.out 0 (by omega))
      obtain ⟨cs, hcs, hB⟩ : ∃ cs : Array Value, (1 + q) * 9 ≤ cs.size ∧ Blk w5 g 43 cs := by
        rcases hO.2 with ⟨e, _⟩ | ⟨g', cap, cur, e, _, h1, h2, _, h4, _⟩
        · cases e
        · injection e with e1 e2 e3
          injection e1 with e1
          injection e1 with e1 _
          subst e1 e3
          exact ⟨cur, by rw [h4]; exact Nat.mul_le_mul_right 9 (by rw [HR.out] at h2; exact h2), h1⟩
      have hgw : w.heap.size ≤ g := hwv g rfl
      have hgP : ¬ P g := hno g rfl
      clear hO hno hwv
      have hq9 : q < 16 := hq
      go_loopw [8] (fun i wr => ∃ (j : Nat) (cs : Array Value), j ≤ 1 + q ∧ i = .int .i64 j ∧ (1 + q) * 9 ≤ cs.size ∧ Blk wr g 43 cs ∧ HeldL w wr P b 0 20 R ∧ Below w.heap.size w wr) (fun i _ => 1 + q - (intOf i).toNat)
      case atStart => exact ⟨0, cs, by omega, rfl, hcs, hB, hH5, hb5⟩
      case round =>
        clear hH5 hb5 hB hcs
        obtain ⟨j, cs, hj, rfl, hcs, hB, hH, hb⟩ := hrel
        by_cases h3 : j < 1 + q
        · have hlt : (j : Int) < ((1 + q : Nat) : Int) := by omega
          have hlt2 : (j : Int) < 1 + (q : Int) := by omega
          obtain ⟨u3, c3⟩ : ∃ u, wr.cell? ⟨g, j * 9 + 3, none⟩ = some u := ⟨_, (hB.cell _).trans (Array.getElem?_eq_getElem (by omega))⟩
          have z3 := hB.free (j * 9 + 3)
          have hB2 := hB.put (j * 9 + 3) (.int .u64 99)
          have hcs2 : (1 + q) * 9 ≤ (cs.setIfInBounds (j * 9 + 3) (.int .u64 99)).size := by rw [Array.size_setIfInBounds]; exact hcs
          have hK : Kp (fun k => k = g) wr (wr.setCell ⟨g, j * 9 + 3, none⟩ (.int .u64 99)) := (Kp.refl (fun k => k = g) wr).set (p := ⟨g, j * 9 + 3, none⟩) rfl _
          have hH2 := hH.kp hK fun k hp e => hgP (e ▸ hp)
          have hb2 := hb.setCell (p := ⟨g, j * 9 + 3, none⟩) hgw (.int .u64 99)
          have HB := Lib.hid hB2
          have HH := Lib.hid hH2
          have Hb := Lib.hid hb2
          have HC := Lib.hid hcs2
          clear hB hK hH2 hb2 hB2 hcs2 hH hb hcs
          go_wp2_with fail
          go_roundw
          case rel => exact ⟨j + 1, _, by omega, rfl, HC.out, HB.out, HH.out, Hb.out⟩
          case measure => simp [intOf]; omega
        · obtain rfl : j = 1 + q := by omega
          have hge2 : ¬ (((1 + q : Nat) : Int) < ((1 + q : Nat) : Int)) := by omega
          clear hB hcs
          go_wp2_with fail
          refine (from_c 0 (by omega) 100 (by omega) (by omega) hH).mono ?_
          rintro e w6 ⟨v6, rfl, hO, hbn⟩
          rw [HF.out] at hO
          rw [HI.out]
          obtain ⟨va, vc, rfl⟩ := hO.form
          rw [HR.out] at hO ⊢
          have hb6 := hb.trans (hbn.mono hb.size)
          clear hH hb hbn
          go_wp2_with fail
          go_loopw [11] (fun i wr => ∃ j : Nat, j ≤ 1 + q ∧ i = .int .i64 j ∧ Below w6.heap.size w6 wr) (fun i _ => 1 + q - (intOf i).toNat)
          case atStart => exact ⟨0, by omega, rfl, Below.refl _ _⟩
          case round =>
            obtain ⟨j, hj, rfl, hbr⟩ := hrel
            have hO2 := hO.below hbr
            have hb7 := hb6.trans (hbr.mono hb6.size)
            by_cases h3 : j < 1 + q
            · have hlt : (j : Int) < ((1 + q : Nat) : Int) := by omega
              have hlt2 : (j : Int) < 1 + (q : Int) := by omega
              obtain ⟨g2, rfl, -, hg2, hcell⟩ := hO2.at_ Rc.len (HA.out j h3)
              have c3 : wr.cell? ⟨g2, j * 9 + 3, none⟩ = some (.int .u64 0) := hcell wr rfl 3 (by omega)
              have HBR := Lib.hid hbr
              clear hO2 hb7 hcell hbr
              go_wp2_with fail
              go_roundw
              case rel => exact ⟨j + 1, by omega, rfl, HBR.out⟩
              case measure => simp [intOf]; omega
            · obtain rfl : j = 1 + q := by omega
              have hge3 : ¬ (((1 + q : Nat) : Int) < ((1 + q : Nat) : Int)) := by omega
              have heq : ((1 : Int) + (q : Int) == 1 + (q : Int)) = true := by simp
              clear hO2 hbr
              go_wp2_with fail
              go_ret
              exact ⟨by first | rfl | simp, hb7⟩
set_option linter.unusedVariables false in
set_option maxRecDepth 100000 in
theorem logOwn_lifted (os : Os) (started : os.Started) (H : Type) (enc : TypeId × Value → H) :
    ReturnsInHanded {} Try.checked os 5 .any (Rows.logOwnSpec.pre6 enc Try.prog Try.f5 Rows.logOwnRow.domain false) (Rows.logOwnSpec.post enc Try.prog Try.f5 false true false false) := by
  refine returnsInHanded_of_change (C := Try.checked) Kit.own started (by kernel_rfl) Try.func5
    (ChangeSpec.witness6 (enc := enc) (C := Try.checked) false ⟨#[], #[.int .i64 0], []⟩ 8 (by kernel_rfl) (by kernel_rfl) (by kernel_rfl) (by kernel_rfl)) ?_
  intro W base args ds gs before hval0 hW hcnd _
  have hval : ∀ (j : Nat) t v, Try.f5.params[j]? = some t → args[j]? = some v → Value.okWide Try.prog W .any base t v := hval0
  have hW' := hW
  obtain ⟨p, q, hA0, hV, rfl, hfz, hnd⟩ := hW
  have hA : DataW.TrodAll enc Try.prog W 0 (fun _ => true) true Try.f5.params.toList args.toList ds p := hA0
  rw [Try.params5] at hA hval
  obtain ⟨v0, vs0, d0, ds0, p0, q0, hargs, rfl, rfl, h0, r0⟩ := trodAll_cons hA
  obtain ⟨rfl, rfl, rfl⟩ := trodAll_nil r0
  obtain ⟨rfl, rfl⟩ := trodVars_none hV
  obtain rfl : args = #[v0] := by cases args; simp_all
  obtain ⟨n, rfl, rfl, rfl, w0⟩ := open_int Try.underlying3 (hval 0 3 v0 rfl rfl) h0
  clear hA0 hval0
  refine (logOwn_walk n w0 W).mono fun e W' ⟨he, hg⟩ => ?_
  subst he
  exact ⟨_, rfl, Kit.law_post hW' rfl (by kernel_rfl) rfl (by kernel_rfl) hg⟩

theorem logOwn_over : Rows.logOwnRow.holds Try.pinned (OpenSpec.ofChange Rows.logOwnSpec) :=
  OpenClaim.holds_of_wide 5 Try.f5 rfl rfl rfl rfl rfl rfl rfl ⟨rfl, rfl, rfl, rfl, rfl⟩ rfl rfl rfl rfl rfl (by kernel_rfl) Try.func5 (by kernel_rfl)
    (of_decide_eq_true (by kernel_rfl)) (by unfold Func.isWrapper; first | (rw [if_pos (by decide +kernel)]; kernel_rfl) | (rw [if_neg (by decide +kernel)]; exact ⟨rfl, rfl⟩))
    (fun os started H enc _ => logOwn_lifted os started H enc)

theorem logOwn_holds : Rows.LogOwnSaid :=
  logOwn_over
end Go.Proofs.Ytajpmlmacnomfaa.Logy
