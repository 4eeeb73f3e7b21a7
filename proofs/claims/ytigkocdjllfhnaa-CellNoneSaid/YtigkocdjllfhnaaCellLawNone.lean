/- Layer 16 (cell): for every input the call returns true and leaves what it was given as it was: no cell tells nothing; one begins with a view that may be (CellNone). No condition. -/
import Derived.Test.YtigkocdjllfhnaaCellAwake
import Derived.Test.YtigkocdjllfhnaaCellOpen
import Derived.Test.YtigkocdjllfhnaaKit
import Derived.Test.YtigkocdjllfhnaaRows
namespace Go.Proofs.Ytigkocdjllfhnaa.Celly
open Go.ChangeShapes Go.WideShapes Go.ChangeAt Go.RowKit
open Wirey (Blk Row Kp)
open Regy
theorem eq_zP (w : World) : (Op.equalIn 10000 PT (.agg zP) (.agg zP)).run Try.prog w = .ok true w := by kernel_rfl
theorem nil_text : (({ data := #[] } : ByteArray).toList == ({ data := #[] } : ByteArray).toList) = true := by simp
set_option maxHeartbeats 4000000 in
set_option maxRecDepth 100000 in
theorem cellNone_walk (x : Vw) (_hx : x.Big) (n : Nat) (_hn : n < 18446744073709551616) (w : World) :
    Calls Try.prog 6 #[.agg x.cs, .int .u64 (n : Int)] w fun e w' => e = .returned (.bool true) ∧ Below w.heap.size w w' := by
  have hX := Blk.new w VT x.cs
  have hb := (Below.refl _ w).alloc (Nat.le_refl _) (.cells x.cs VT)
  have heP := eq_zP
  have heV : ∀ w, (Op.equalIn 10000 VT (.agg #[.int .u64 0, .int .i64 0, .int .u64 0, .int .i64 0, .int .u64 0, .int .u64 0]) (.agg #[.int .u64 0, .int .i64 0, .int .u64 0, .int .i64 0, .int .u64 0, .int .u64 0])).run Try.prog w = .ok true w := fun w => eq_yes noV w
  have hnt := nil_text
  go_enter Try.func6, Try.ntmps6
  go_upto_region 1 with (fail)
  generalize w.alloc (.cells _ VT) = w1 at *
  generalize hq : w.heap.size = q at hX ⊢
  by_cases hm : May x
  · have d : decide (May x) = true := decide_eq_true hm
    have x0 : w1.cell? ⟨q, 0, none⟩ = some (.int .u64 (x.v : Int)) := hX.cell 0
    have x1 : w1.cell? ⟨q, 1, none⟩ = some (.int .i64 x.pr) := hX.cell 1
    have x2 : w1.cell? ⟨q, 2, none⟩ = some (.int .u64 (x.pl : Int)) := hX.cell 2
    have x3 : w1.cell? ⟨q, 3, none⟩ = some (.int .i64 x.ba) := hX.cell 3
    have x4 : w1.cell? ⟨q, 4, none⟩ = some (.int .u64 (x.bl : Int)) := hX.cell 4
    have x5 : w1.cell? ⟨q, 5, none⟩ = some (.int .u64 (x.ep : Int)) := hX.cell 5
    go_wp2_with fail
    refine (new_ok hm _).mono ?_
    rintro e w2 ⟨b, rfl, -, -, hbn⟩
    replace hX := hX.below hbn hX.lt
    replace hb := hb.trans (hbn.mono hb.size)
    clear x0 x1 x2 x3 x4 x5 hbn
    have x0 : w2.cell? ⟨q, 0, none⟩ = some (.int .u64 (x.v : Int)) := hX.cell 0
    have x1 : w2.cell? ⟨q, 1, none⟩ = some (.int .i64 x.pr) := hX.cell 1
    have x2 : w2.cell? ⟨q, 2, none⟩ = some (.int .u64 (x.pl : Int)) := hX.cell 2
    have x3 : w2.cell? ⟨q, 3, none⟩ = some (.int .i64 x.ba) := hX.cell 3
    have x4 : w2.cell? ⟨q, 4, none⟩ = some (.int .u64 (x.bl : Int)) := hX.cell 4
    have x5 : w2.cell? ⟨q, 5, none⟩ = some (.int .u64 (x.ep : Int)) := hX.cell 5
    go_wp2_with fail
    refine (awake_c _).mono ?_
    rintro e w3 ⟨rfl, hbn⟩
    replace hX := hX.below hbn hX.lt
    replace hb := hb.trans (hbn.mono hb.size)
    clear x0 x1 x2 x3 x4 x5 hbn
    have x0 : w3.cell? ⟨q, 0, none⟩ = some (.int .u64 (x.v : Int)) := hX.cell 0
    have x1 : w3.cell? ⟨q, 1, none⟩ = some (.int .i64 x.pr) := hX.cell 1
    have x2 : w3.cell? ⟨q, 2, none⟩ = some (.int .u64 (x.pl : Int)) := hX.cell 2
    have x3 : w3.cell? ⟨q, 3, none⟩ = some (.int .i64 x.ba) := hX.cell 3
    have x4 : w3.cell? ⟨q, 4, none⟩ = some (.int .u64 (x.bl : Int)) := hX.cell 4
    have x5 : w3.cell? ⟨q, 5, none⟩ = some (.int .u64 (x.ep : Int)) := hX.cell 5
    go_wp2_with fail
    refine (learn_nil x _).mono ?_
    rintro e w4 ⟨rfl, hbn⟩
    replace hX := hX.below hbn hX.lt
    replace hb := hb.trans (hbn.mono hb.size)
    clear x0 x1 x2 x3 x4 x5 hbn
    have x0 : w4.cell? ⟨q, 0, none⟩ = some (.int .u64 (x.v : Int)) := hX.cell 0
    have x1 : w4.cell? ⟨q, 1, none⟩ = some (.int .i64 x.pr) := hX.cell 1
    have x2 : w4.cell? ⟨q, 2, none⟩ = some (.int .u64 (x.pl : Int)) := hX.cell 2
    have x3 : w4.cell? ⟨q, 3, none⟩ = some (.int .i64 x.ba) := hX.cell 3
    have x4 : w4.cell? ⟨q, 4, none⟩ = some (.int .u64 (x.bl : Int)) := hX.cell 4
    have x5 : w4.cell? ⟨q, 5, none⟩ = some (.int .u64 (x.ep : Int)) := hX.cell 5
    go_wp2_with fail
    refine (prep_nil x n _).mono ?_
    rintro e w5 ⟨rfl, hbn⟩
    replace hX := hX.below hbn hX.lt
    replace hb := hb.trans (hbn.mono hb.size)
    clear x0 x1 x2 x3 x4 x5 hbn
    have x0 : w5.cell? ⟨q, 0, none⟩ = some (.int .u64 (x.v : Int)) := hX.cell 0
    have x1 : w5.cell? ⟨q, 1, none⟩ = some (.int .i64 x.pr) := hX.cell 1
    have x2 : w5.cell? ⟨q, 2, none⟩ = some (.int .u64 (x.pl : Int)) := hX.cell 2
    have x3 : w5.cell? ⟨q, 3, none⟩ = some (.int .i64 x.ba) := hX.cell 3
    have x4 : w5.cell? ⟨q, 4, none⟩ = some (.int .u64 (x.bl : Int)) := hX.cell 4
    have x5 : w5.cell? ⟨q, 5, none⟩ = some (.int .u64 (x.ep : Int)) := hX.cell 5
    go_wp2_with fail
    refine (acc_nil x n _).mono ?_
    rintro e w6 ⟨rfl, hbn⟩
    replace hX := hX.below hbn hX.lt
    replace hb := hb.trans (hbn.mono hb.size)
    clear x0 x1 x2 x3 x4 x5 hbn
    have x0 : w6.cell? ⟨q, 0, none⟩ = some (.int .u64 (x.v : Int)) := hX.cell 0
    have x1 : w6.cell? ⟨q, 1, none⟩ = some (.int .i64 x.pr) := hX.cell 1
    have x2 : w6.cell? ⟨q, 2, none⟩ = some (.int .u64 (x.pl : Int)) := hX.cell 2
    have x3 : w6.cell? ⟨q, 3, none⟩ = some (.int .i64 x.ba) := hX.cell 3
    have x4 : w6.cell? ⟨q, 4, none⟩ = some (.int .u64 (x.bl : Int)) := hX.cell 4
    have x5 : w6.cell? ⟨q, 5, none⟩ = some (.int .u64 (x.ep : Int)) := hX.cell 5
    go_wp2_with fail
    refine (chosen_nil _).mono ?_
    rintro e w7 ⟨rfl, hbn⟩
    replace hX := hX.below hbn hX.lt
    replace hb := hb.trans (hbn.mono hb.size)
    clear x0 x1 x2 x3 x4 x5 hbn
    have x0 : w7.cell? ⟨q, 0, none⟩ = some (.int .u64 (x.v : Int)) := hX.cell 0
    have x1 : w7.cell? ⟨q, 1, none⟩ = some (.int .i64 x.pr) := hX.cell 1
    have x2 : w7.cell? ⟨q, 2, none⟩ = some (.int .u64 (x.pl : Int)) := hX.cell 2
    have x3 : w7.cell? ⟨q, 3, none⟩ = some (.int .i64 x.ba) := hX.cell 3
    have x4 : w7.cell? ⟨q, 4, none⟩ = some (.int .u64 (x.bl : Int)) := hX.cell 4
    have x5 : w7.cell? ⟨q, 5, none⟩ = some (.int .u64 (x.ep : Int)) := hX.cell 5
    go_wp2_with fail
    refine (export_nil _).mono ?_
    rintro e w8 ⟨rfl, hbn⟩
    replace hX := hX.below hbn hX.lt
    replace hb := hb.trans (hbn.mono hb.size)
    clear x0 x1 x2 x3 x4 x5 hbn
    have x0 : w8.cell? ⟨q, 0, none⟩ = some (.int .u64 (x.v : Int)) := hX.cell 0
    have x1 : w8.cell? ⟨q, 1, none⟩ = some (.int .i64 x.pr) := hX.cell 1
    have x2 : w8.cell? ⟨q, 2, none⟩ = some (.int .u64 (x.pl : Int)) := hX.cell 2
    have x3 : w8.cell? ⟨q, 3, none⟩ = some (.int .i64 x.ba) := hX.cell 3
    have x4 : w8.cell? ⟨q, 4, none⟩ = some (.int .u64 (x.bl : Int)) := hX.cell 4
    have x5 : w8.cell? ⟨q, 5, none⟩ = some (.int .u64 (x.ep : Int)) := hX.cell 5
    go_wp2_with fail
    refine (dcheck_c x _).mono ?_
    rintro e w9 ⟨rfl, hbn⟩
    rw [d]
    replace hX := hX.below hbn hX.lt
    replace hb := hb.trans (hbn.mono hb.size)
    clear x0 x1 x2 x3 x4 x5 hbn
    go_wp2_with fail
    go_ret
    exact ⟨rfl, hb⟩
  · have d : decide (May x) = false := decide_eq_false hm
    have x0 : w1.cell? ⟨q, 0, none⟩ = some (.int .u64 (x.v : Int)) := hX.cell 0
    have x1 : w1.cell? ⟨q, 1, none⟩ = some (.int .i64 x.pr) := hX.cell 1
    have x2 : w1.cell? ⟨q, 2, none⟩ = some (.int .u64 (x.pl : Int)) := hX.cell 2
    have x3 : w1.cell? ⟨q, 3, none⟩ = some (.int .i64 x.ba) := hX.cell 3
    have x4 : w1.cell? ⟨q, 4, none⟩ = some (.int .u64 (x.bl : Int)) := hX.cell 4
    have x5 : w1.cell? ⟨q, 5, none⟩ = some (.int .u64 (x.ep : Int)) := hX.cell 5
    go_wp2_with fail
    refine (new_no hm _).mono ?_
    rintro e w2 ⟨rfl, hbn⟩
    replace hX := hX.below hbn hX.lt
    replace hb := hb.trans (hbn.mono hb.size)
    clear x0 x1 x2 x3 x4 x5 hbn
    have x0 : w2.cell? ⟨q, 0, none⟩ = some (.int .u64 (x.v : Int)) := hX.cell 0
    have x1 : w2.cell? ⟨q, 1, none⟩ = some (.int .i64 x.pr) := hX.cell 1
    have x2 : w2.cell? ⟨q, 2, none⟩ = some (.int .u64 (x.pl : Int)) := hX.cell 2
    have x3 : w2.cell? ⟨q, 3, none⟩ = some (.int .i64 x.ba) := hX.cell 3
    have x4 : w2.cell? ⟨q, 4, none⟩ = some (.int .u64 (x.bl : Int)) := hX.cell 4
    have x5 : w2.cell? ⟨q, 5, none⟩ = some (.int .u64 (x.ep : Int)) := hX.cell 5
    go_wp2_with fail
    refine (awake_c _).mono ?_
    rintro e w3 ⟨rfl, hbn⟩
    replace hX := hX.below hbn hX.lt
    replace hb := hb.trans (hbn.mono hb.size)
    clear x0 x1 x2 x3 x4 x5 hbn
    have x0 : w3.cell? ⟨q, 0, none⟩ = some (.int .u64 (x.v : Int)) := hX.cell 0
    have x1 : w3.cell? ⟨q, 1, none⟩ = some (.int .i64 x.pr) := hX.cell 1
    have x2 : w3.cell? ⟨q, 2, none⟩ = some (.int .u64 (x.pl : Int)) := hX.cell 2
    have x3 : w3.cell? ⟨q, 3, none⟩ = some (.int .i64 x.ba) := hX.cell 3
    have x4 : w3.cell? ⟨q, 4, none⟩ = some (.int .u64 (x.bl : Int)) := hX.cell 4
    have x5 : w3.cell? ⟨q, 5, none⟩ = some (.int .u64 (x.ep : Int)) := hX.cell 5
    go_wp2_with fail
    refine (learn_nil x _).mono ?_
    rintro e w4 ⟨rfl, hbn⟩
    replace hX := hX.below hbn hX.lt
    replace hb := hb.trans (hbn.mono hb.size)
    clear x0 x1 x2 x3 x4 x5 hbn
    have x0 : w4.cell? ⟨q, 0, none⟩ = some (.int .u64 (x.v : Int)) := hX.cell 0
    have x1 : w4.cell? ⟨q, 1, none⟩ = some (.int .i64 x.pr) := hX.cell 1
    have x2 : w4.cell? ⟨q, 2, none⟩ = some (.int .u64 (x.pl : Int)) := hX.cell 2
    have x3 : w4.cell? ⟨q, 3, none⟩ = some (.int .i64 x.ba) := hX.cell 3
    have x4 : w4.cell? ⟨q, 4, none⟩ = some (.int .u64 (x.bl : Int)) := hX.cell 4
    have x5 : w4.cell? ⟨q, 5, none⟩ = some (.int .u64 (x.ep : Int)) := hX.cell 5
    go_wp2_with fail
    refine (prep_nil x n _).mono ?_
    rintro e w5 ⟨rfl, hbn⟩
    replace hX := hX.below hbn hX.lt
    replace hb := hb.trans (hbn.mono hb.size)
    clear x0 x1 x2 x3 x4 x5 hbn
    have x0 : w5.cell? ⟨q, 0, none⟩ = some (.int .u64 (x.v : Int)) := hX.cell 0
    have x1 : w5.cell? ⟨q, 1, none⟩ = some (.int .i64 x.pr) := hX.cell 1
    have x2 : w5.cell? ⟨q, 2, none⟩ = some (.int .u64 (x.pl : Int)) := hX.cell 2
    have x3 : w5.cell? ⟨q, 3, none⟩ = some (.int .i64 x.ba) := hX.cell 3
    have x4 : w5.cell? ⟨q, 4, none⟩ = some (.int .u64 (x.bl : Int)) := hX.cell 4
    have x5 : w5.cell? ⟨q, 5, none⟩ = some (.int .u64 (x.ep : Int)) := hX.cell 5
    go_wp2_with fail
    refine (acc_nil x n _).mono ?_
    rintro e w6 ⟨rfl, hbn⟩
    replace hX := hX.below hbn hX.lt
    replace hb := hb.trans (hbn.mono hb.size)
    clear x0 x1 x2 x3 x4 x5 hbn
    have x0 : w6.cell? ⟨q, 0, none⟩ = some (.int .u64 (x.v : Int)) := hX.cell 0
    have x1 : w6.cell? ⟨q, 1, none⟩ = some (.int .i64 x.pr) := hX.cell 1
    have x2 : w6.cell? ⟨q, 2, none⟩ = some (.int .u64 (x.pl : Int)) := hX.cell 2
    have x3 : w6.cell? ⟨q, 3, none⟩ = some (.int .i64 x.ba) := hX.cell 3
    have x4 : w6.cell? ⟨q, 4, none⟩ = some (.int .u64 (x.bl : Int)) := hX.cell 4
    have x5 : w6.cell? ⟨q, 5, none⟩ = some (.int .u64 (x.ep : Int)) := hX.cell 5
    go_wp2_with fail
    refine (chosen_nil _).mono ?_
    rintro e w7 ⟨rfl, hbn⟩
    replace hX := hX.below hbn hX.lt
    replace hb := hb.trans (hbn.mono hb.size)
    clear x0 x1 x2 x3 x4 x5 hbn
    have x0 : w7.cell? ⟨q, 0, none⟩ = some (.int .u64 (x.v : Int)) := hX.cell 0
    have x1 : w7.cell? ⟨q, 1, none⟩ = some (.int .i64 x.pr) := hX.cell 1
    have x2 : w7.cell? ⟨q, 2, none⟩ = some (.int .u64 (x.pl : Int)) := hX.cell 2
    have x3 : w7.cell? ⟨q, 3, none⟩ = some (.int .i64 x.ba) := hX.cell 3
    have x4 : w7.cell? ⟨q, 4, none⟩ = some (.int .u64 (x.bl : Int)) := hX.cell 4
    have x5 : w7.cell? ⟨q, 5, none⟩ = some (.int .u64 (x.ep : Int)) := hX.cell 5
    go_wp2_with fail
    refine (export_nil _).mono ?_
    rintro e w8 ⟨rfl, hbn⟩
    replace hX := hX.below hbn hX.lt
    replace hb := hb.trans (hbn.mono hb.size)
    clear x0 x1 x2 x3 x4 x5 hbn
    have x0 : w8.cell? ⟨q, 0, none⟩ = some (.int .u64 (x.v : Int)) := hX.cell 0
    have x1 : w8.cell? ⟨q, 1, none⟩ = some (.int .i64 x.pr) := hX.cell 1
    have x2 : w8.cell? ⟨q, 2, none⟩ = some (.int .u64 (x.pl : Int)) := hX.cell 2
    have x3 : w8.cell? ⟨q, 3, none⟩ = some (.int .i64 x.ba) := hX.cell 3
    have x4 : w8.cell? ⟨q, 4, none⟩ = some (.int .u64 (x.bl : Int)) := hX.cell 4
    have x5 : w8.cell? ⟨q, 5, none⟩ = some (.int .u64 (x.ep : Int)) := hX.cell 5
    go_wp2_with fail
    refine (dcheck_c x _).mono ?_
    rintro e w9 ⟨rfl, hbn⟩
    rw [d]
    replace hX := hX.below hbn hX.lt
    replace hb := hb.trans (hbn.mono hb.size)
    clear x0 x1 x2 x3 x4 x5 hbn
    go_wp2_with fail
    go_ret
    exact ⟨rfl, hb⟩
set_option linter.unusedVariables false in
set_option maxRecDepth 100000 in
theorem cellNone_lifted (os : Os) (started : os.Started) (H : Type) (enc : TypeId × Value → H) :
    ReturnsInHanded {} Try.checked os 6 .any (Rows.cellNoneSpec.pre6 enc Try.prog Try.f6 Rows.cellNoneRow.domain false) (Rows.cellNoneSpec.post enc Try.prog Try.f6 false true false false) := by
  refine returnsInHanded_of_change (C := Try.checked) Kit.own started (by kernel_rfl) Try.func6
    (ChangeSpec.witness6 (enc := enc) (C := Try.checked) false ⟨#[], #[.agg #[.int .u64 0, .int .i64 0, .int .u64 0, .int .i64 0, .int .u64 0, .int .u64 0], .int .u64 0], []⟩ 8 (by kernel_rfl) (by kernel_rfl) (by kernel_rfl) (by kernel_rfl)) ?_
  intro W base args ds gs before hval0 hW hcnd _
  have hval : ∀ (j : Nat) t v, Try.f6.params[j]? = some t → args[j]? = some v → Value.okWide Try.prog W .any base t v := hval0
  have hW' := hW
  obtain ⟨p, q, hA0, hV, rfl, hfz, hnd⟩ := hW
  have hA : DataW.TrodAll enc Try.prog W 0 (fun _ => true) true Try.f6.params.toList args.toList ds p := hA0
  rw [Try.params6] at hA hval
  obtain ⟨v0, vs0, d0, ds0, p0, q0, hargs, rfl, rfl, h0, r0⟩ := trodAll_cons hA
  obtain ⟨v1, vs1, d1, ds1, p1, q1, rfl, rfl, rfl, h1, r1⟩ := trodAll_cons r0
  obtain ⟨rfl, rfl, rfl⟩ := trodAll_nil r1
  obtain ⟨rfl, rfl⟩ := trodVars_none hV
  obtain rfl : args = #[v0, v1] := by cases args; simp_all
  obtain ⟨cs0, rfl, -⟩ := okWide_struct Try.underlying25 (hval 0 25 v0 rfl rfl)
  obtain ⟨fuel0, hf0⟩ := h0
  obtain ⟨x0, e0, b0⟩ := open_vw hf0
  obtain rfl : cs0 = x0.cs := by cases cs0; simpa [Value.cells] using e0
  obtain ⟨a1, rfl, rfl, rfl, w1⟩ := open_int Try.underlying23 (hval 1 23 v1 rfl rfl) h1
  obtain ⟨m1, rfl, hm1⟩ := Arry.u64_nat w1
  clear hA0 hval0
  refine (cellNone_walk x0 b0 m1 hm1 W ).mono fun e W' ⟨he, hg⟩ => ?_
  subst he
  exact ⟨_, rfl, Kit.law_post hW' rfl (by kernel_rfl) rfl (by kernel_rfl) hg⟩

theorem cellNone_over : Rows.cellNoneRow.holds Try.pinned (OpenSpec.ofChange Rows.cellNoneSpec) :=
  OpenClaim.holds_of_wide 6 Try.f6 rfl rfl rfl rfl rfl rfl rfl ⟨rfl, rfl, rfl, rfl, rfl⟩ rfl rfl rfl rfl rfl (by kernel_rfl) Try.func6 (by kernel_rfl)
    (of_decide_eq_true (by kernel_rfl)) (by unfold Func.isWrapper; first | (rw [if_pos (by decide +kernel)]; kernel_rfl) | (rw [if_neg (by decide +kernel)]; exact ⟨rfl, rfl⟩))
    (fun os started H enc _ => cellNone_lifted os started H enc)

theorem cellNone_holds : Rows.CellNoneSaid :=
  cellNone_over
end Go.Proofs.Ytigkocdjllfhnaa.Celly
