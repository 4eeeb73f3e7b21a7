/- Layer 11 (table): for every input the call returns true and leaves what it was given as it was: no table has nothing, and takes nothing (TableNone). No condition. -/
import Derived.Test.YtdjfdpmfpnbpjaaTabCalls
import Derived.Test.YtdjfdpmfpnbpjaaKit
import Derived.Test.YtdjfdpmfpnbpjaaTabAwake
import Derived.Test.YtdjfdpmfpnbpjaaTabOpen
import Derived.Test.YtdjfdpmfpnbpjaaRows
import Derived.Lib.Hide
import Derived.Laws.Cover1
import Derived.BigQuiet
namespace Go.Proofs.Ytdjfdpmfpnbpjaa.Taby
open Go.ChangeShapes Go.WideShapes Go.ChangeAt Go.RowKit
open Wirey (Blk Row str str_size str_list str_cat str_take enc enc_len txt Kp)
open Regy

theorem field_key (y : En) (W : World) : (Instr.field 32 (.agg y.cs) 0).run Try.prog W = .ok (.string (str y.key)) W := by kernel_rfl
set_option maxHeartbeats 2000000 in
set_option maxRecDepth 100000 in
theorem tableNone_walk (x : En) (hx : x.Big) (now : Nat) (_ : now < 18446744073709551616) (w : World) :
    Calls Try.prog 6 #[.agg x.cs, .int .u64 (now : Int)] w fun e w' => e = .returned (.bool true) ∧ Below w.heap.size w w' := by
  have hfk := field_key x.cut
  have htl := Wirey.toList_str
  have hcut := fun W => cut_c x hx.key hx.val W
  have hbox := Blk.new w 32 x.cs
  have hb := (Below.refl _ w).alloc (Nat.le_refl _) (.cells x.cs 32)
  go_enter Try.func6, Try.ntmps6
  go_upto_region 1 with (fail)
  generalize hw1 : w.alloc (.cells _ 32) = w1 at *
  clear hw1
  have x0 := hbox.cell 0
  have x1 := hbox.cell 1
  have x2 := hbox.cell 2
  have x3 := hbox.cell 3
  simp only [List.getElem?_toArray, List.getElem?_cons_zero, List.getElem?_cons_succ] at x0 x1 x2 x3
  go_wp2_with fail
  refine (hcut _).mono ?_
  rintro e u1 ⟨rfl, hbn⟩
  have hbox2 := hbox.below hbn hbox.lt
  have hb2 := hb.trans (hbn.mono hb.size)
  clear hbox hb hbn x0 x1 x2 x3
  have hbox := hbox2
  have hb := hb2
  clear hbox2 hb2
  have x0 := hbox.cell 0
  have x1 := hbox.cell 1
  have x2 := hbox.cell 2
  have x3 := hbox.cell 3
  simp only [List.getElem?_toArray, List.getElem?_cons_zero, List.getElem?_cons_succ] at x0 x1 x2 x3
  go_wp2_with fail
  refine (put_nil x.cut _).mono ?_
  rintro e u2 ⟨rfl, hbn⟩
  have hbox2 := hbox.below hbn hbox.lt
  have hb2 := hb.trans (hbn.mono hb.size)
  clear hbox hb hbn x0 x1 x2 x3
  have hbox := hbox2
  have hb := hb2
  clear hbox2 hb2
  have x0 := hbox.cell 0
  have x1 := hbox.cell 1
  have x2 := hbox.cell 2
  have x3 := hbox.cell 3
  simp only [List.getElem?_toArray, List.getElem?_cons_zero, List.getElem?_cons_succ] at x0 x1 x2 x3
  go_wp2_with fail
  refine (hcut _).mono ?_
  rintro e u3 ⟨rfl, hbn⟩
  have hbox2 := hbox.below hbn hbox.lt
  have hb2 := hb.trans (hbn.mono hb.size)
  clear hbox hb hbn x0 x1 x2 x3
  have hbox := hbox2
  have hb := hb2
  clear hbox2 hb2
  have x0 := hbox.cell 0
  have x1 := hbox.cell 1
  have x2 := hbox.cell 2
  have x3 := hbox.cell 3
  simp only [List.getElem?_toArray, List.getElem?_cons_zero, List.getElem?_cons_succ] at x0 x1 x2 x3
  go_wp2_with fail
  refine (get_nil x.cut.key _).mono ?_
  rintro e u4 ⟨rfl, hbn⟩
  have hbox2 := hbox.below hbn hbox.lt
  have hb2 := hb.trans (hbn.mono hb.size)
  clear hbox hb hbn x0 x1 x2 x3
  have hbox := hbox2
  have hb := hb2
  clear hbox2 hb2
  have x0 := hbox.cell 0
  have x1 := hbox.cell 1
  have x2 := hbox.cell 2
  have x3 := hbox.cell 3
  simp only [List.getElem?_toArray, List.getElem?_cons_zero, List.getElem?_cons_succ] at x0 x1 x2 x3
  go_upto_region 4 with (fail)
  have hbox2 := hbox.alloc (.cells (En.cs En.none) 32)
  have hb2 := hb.alloc hb.size (.cells (En.cs En.none) 32)
  clear hbox hb x0 x1 x2 x3
  generalize hw9 : u4.alloc (.cells _ 32) = w9 at *
  clear hw9
  have hbox := hbox2
  have hb := hb2
  clear hbox2 hb2
  have x0 := hbox.cell 0
  have x1 := hbox.cell 1
  have x2 := hbox.cell 2
  have x3 := hbox.cell 3
  simp only [List.getElem?_toArray, List.getElem?_cons_zero, List.getElem?_cons_succ] at x0 x1 x2 x3
  go_wp2_with fail
  refine (awake_c _).mono ?_
  rintro e u5 ⟨rfl, hbn⟩
  have hbox2 := hbox.below hbn hbox.lt
  have hb2 := hb.trans (hbn.mono hb.size)
  clear hbox hb hbn x0 x1 x2 x3
  have hbox := hbox2
  have hb := hb2
  clear hbox2 hb2
  have x0 := hbox.cell 0
  have x1 := hbox.cell 1
  have x2 := hbox.cell 2
  have x3 := hbox.cell 3
  simp only [List.getElem?_toArray, List.getElem?_cons_zero, List.getElem?_cons_succ] at x0 x1 x2 x3
  go_wp2_with fail
  refine (hcut _).mono ?_
  rintro e u6 ⟨rfl, hbn⟩
  have hbox2 := hbox.below hbn hbox.lt
  have hb2 := hb.trans (hbn.mono hb.size)
  clear hbox hb hbn x0 x1 x2 x3
  have hbox := hbox2
  have hb := hb2
  clear hbox2 hb2
  have x0 := hbox.cell 0
  have x1 := hbox.cell 1
  have x2 := hbox.cell 2
  have x3 := hbox.cell 3
  simp only [List.getElem?_toArray, List.getElem?_cons_zero, List.getElem?_cons_succ] at x0 x1 x2 x3
  go_wp2_with fail
  refine (drop_nil x.cut.key _).mono ?_
  rintro e u7 ⟨rfl, hbn⟩
  have hbox2 := hbox.below hbn hbox.lt
  have hb2 := hb.trans (hbn.mono hb.size)
  clear hbox hb hbn x0 x1 x2 x3
  have hbox := hbox2
  have hb := hb2
  clear hbox2 hb2
  have x0 := hbox.cell 0
  have x1 := hbox.cell 1
  have x2 := hbox.cell 2
  have x3 := hbox.cell 3
  simp only [List.getElem?_toArray, List.getElem?_cons_zero, List.getElem?_cons_succ] at x0 x1 x2 x3
  go_wp2_with fail
  refine (len_nil _).mono ?_
  rintro e u8 ⟨rfl, hbn⟩
  have hbox2 := hbox.below hbn hbox.lt
  have hb2 := hb.trans (hbn.mono hb.size)
  clear hbox hb hbn x0 x1 x2 x3
  have hbox := hbox2
  have hb := hb2
  clear hbox2 hb2
  have x0 := hbox.cell 0
  have x1 := hbox.cell 1
  have x2 := hbox.cell 2
  have x3 := hbox.cell 3
  simp only [List.getElem?_toArray, List.getElem?_cons_zero, List.getElem?_cons_succ] at x0 x1 x2 x3
  go_wp2_with fail
  refine (bytes_nil _).mono ?_
  rintro e u9 ⟨rfl, hbn⟩
  have hbox2 := hbox.below hbn hbox.lt
  have hb2 := hb.trans (hbn.mono hb.size)
  clear hbox hb hbn x0 x1 x2 x3
  have hbox := hbox2
  have hb := hb2
  clear hbox2 hb2
  have x0 := hbox.cell 0
  have x1 := hbox.cell 1
  have x2 := hbox.cell 2
  have x3 := hbox.cell 3
  simp only [List.getElem?_toArray, List.getElem?_cons_zero, List.getElem?_cons_succ] at x0 x1 x2 x3
  go_wp2_with fail
  refine (keys_nil _).mono ?_
  rintro e u10 ⟨vk, rfl, hk, hbn⟩
  obtain ⟨ak, ck, rfl⟩ := hk.form
  clear hk
  simp only [List.length_nil]
  have hbox2 := hbox.below hbn hbox.lt
  have hb2 := hb.trans (hbn.mono hb.size)
  clear hbox hb hbn x0 x1 x2 x3
  have hbox := hbox2
  have hb := hb2
  clear hbox2 hb2
  have x0 := hbox.cell 0
  have x1 := hbox.cell 1
  have x2 := hbox.cell 2
  have x3 := hbox.cell 3
  simp only [List.getElem?_toArray, List.getElem?_cons_zero, List.getElem?_cons_succ] at x0 x1 x2 x3
  go_wp2_with fail
  refine (ended_nil now _).mono ?_
  rintro e u11 ⟨ve, rfl, he, hbn⟩
  obtain ⟨ae, ce, rfl⟩ := he.form
  clear he
  simp only [List.length_nil]
  have hbox2 := hbox.below hbn hbox.lt
  have hb2 := hb.trans (hbn.mono hb.size)
  clear hbox hb hbn x0 x1 x2 x3
  have hbox := hbox2
  have hb := hb2
  clear hbox2 hb2
  have x0 := hbox.cell 0
  have x1 := hbox.cell 1
  have x2 := hbox.cell 2
  have x3 := hbox.cell 3
  simp only [List.getElem?_toArray, List.getElem?_cons_zero, List.getElem?_cons_succ] at x0 x1 x2 x3
  go_wp2_with fail
  refine (export_nil _).mono ?_
  rintro e u12 ⟨rfl, hbn⟩
  have hbox2 := hbox.below hbn hbox.lt
  have hb2 := hb.trans (hbn.mono hb.size)
  clear hbox hb hbn x0 x1 x2 x3
  have hbox := hbox2
  have hb := hb2
  clear hbox2 hb2
  have x0 := hbox.cell 0
  have x1 := hbox.cell 1
  have x2 := hbox.cell 2
  have x3 := hbox.cell 3
  simp only [List.getElem?_toArray, List.getElem?_cons_zero, List.getElem?_cons_succ] at x0 x1 x2 x3
  go_wp2_with fail
  go_ret
  exact ⟨rfl, hb⟩
set_option linter.unusedVariables false in
set_option maxRecDepth 100000 in
theorem tableNone_lifted (os : Os) (started : os.Started) (H : Type) (enc : TypeId × Value → H) :
    ReturnsInHanded {} Try.checked os 6 .any (Rows.tableNoneSpec.pre6 enc Try.prog Try.f6 Rows.tableNoneRow.domain false) (Rows.tableNoneSpec.post enc Try.prog Try.f6 false true false false) := by
  refine returnsInHanded_of_change (C := Try.checked) Kit.own started (by kernel_rfl) Try.func6
    (ChangeSpec.witness6 (enc := enc) (C := Try.checked) false ⟨#[], #[.agg #[.string ⟨#[]⟩, .string ⟨#[]⟩, .int .u64 0, .int .u64 0], .int .u64 0], []⟩ 8 (by kernel_rfl) (by kernel_rfl) (by kernel_rfl) (by kernel_rfl)) ?_
  intro W base args ds gs before hval0 hW hcnd _
  have hval : ∀ (j : Nat) t v, Try.f6.params[j]? = some t → args[j]? = some v → Value.okWide Try.prog W .any base t v := hval0
  have hW' := hW
  obtain ⟨p, q, hA0, hV, rfl, hfz, hnd⟩ := hW
  have hA : DataW.TrodAll enc Try.prog W 0 (fun _ => true) true Try.f6.params.toList args.toList ds p := hA0
  rw [Try.params6] at hA hval
  obtain ⟨v0, vs0, d0, ds0, p0, q0, hargs, rfl, rfl, h0, r0⟩ := trodAll_cons hA
  obtain ⟨v1, vs1, d1, ds1, p1, q1, rfl, rfl, rfl, h1, r1⟩ := trodAll_cons r0
  obtain ⟨rfl, rfl, rfl⟩ := trodAll_nil r1
  obtain ⟨rfl, rfl⟩ := trodVars_none hV
  obtain rfl : args = #[v0, v1] := by cases args; simp_all
  obtain ⟨cs0, rfl, -⟩ := okWide_struct Try.underlying32 (hval 0 32 v0 rfl rfl)
  obtain ⟨fuel0, hf0⟩ := h0
  obtain ⟨x, e, hx⟩ := open_entry hf0
  obtain rfl : cs0 = x.cs := by cases cs0; simpa [Value.cells, En.row] using e
  obtain ⟨a1, rfl, rfl, rfl, w1⟩ := open_int Try.underlying22 (hval 1 22 v1 rfl rfl) h1
  obtain ⟨now, rfl, hn1⟩ := Arry.u64_nat w1
  clear hA0 hval0
  refine (tableNone_walk x hx now hn1 W).mono fun e W' ⟨he, hg⟩ => ?_
  subst he
  exact ⟨_, rfl, Kit.law_post hW' rfl (by kernel_rfl) rfl (by kernel_rfl) hg⟩

theorem tableNone_over : Rows.tableNoneRow.holds Try.pinned (OpenSpec.ofChange Rows.tableNoneSpec) :=
  OpenClaim.holds_of_wide 6 Try.f6 rfl rfl rfl rfl rfl rfl rfl ⟨rfl, rfl, rfl, rfl, rfl⟩ rfl rfl rfl rfl rfl (by kernel_rfl) Try.func6 (by kernel_rfl)
    (of_decide_eq_true (by kernel_rfl)) (by unfold Func.isWrapper; first | (rw [if_pos (by decide +kernel)]; kernel_rfl) | (rw [if_neg (by decide +kernel)]; exact ⟨rfl, rfl⟩))
    (fun os started H enc _ => tableNone_lifted os started H enc)

theorem tableNone_holds : Rows.TableNoneSaid :=
  tableNone_over
end Go.Proofs.Ytdjfdpmfpnbpjaa.Taby
