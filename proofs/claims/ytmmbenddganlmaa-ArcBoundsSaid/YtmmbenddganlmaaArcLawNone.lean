/- Layer 7 (arc): for every input the call returns true and leaves what it was given as it was: no policy keeps nothing; one that keeps none, or too many, may not be; keys that are too long are not kept (ArcNone). No condition. -/
import Derived.Test.YtmmbenddganlmaaKit
import Derived.Test.YtmmbenddganlmaaArcMake
namespace Go.Proofs.Ytmmbenddganlmaa.Arcy
open Go.ChangeShapes Go.WideShapes Go.ChangeAt Go.RowKit
open Wirey (Blk Row str str_size str_list str_of str_take Kp)
open Ringy Go.Shelf Go.ChangeMaps Go.Maps

theorem i64_and (n : Int) (m k : Nat) (hk : (BitVec.ofInt 64 (m : Int)).toNat = 2 ^ k - 1) (hs : k ≤ 20) : bits .and .i64 n (m : Int) = ((n % ((2 ^ 64 : Nat) : Int)).toNat % 2 ^ k : Nat) := by
  have key : (BitVec.ofInt 64 n &&& BitVec.ofInt 64 (m : Int)).toNat = (n % ((2 ^ 64 : Nat) : Int)).toNat % 2 ^ k := by
    rw [BitVec.toNat_and, BitVec.toNat_ofInt, hk, Nat.and_two_pow_sub_one_eq_mod]
  show IntKind.i64.wrap ((BitVec.ofInt 64 n &&& BitVec.ofInt 64 (m : Int)).toNat : Nat) = _
  rw [key, IntKind.wrap_i64]
  have h1 : (n % ((2 ^ 64 : Nat) : Int)).toNat % 2 ^ k < 2 ^ k := Nat.mod_lt _ (Nat.two_pow_pos k)
  have h2 : 2 ^ k ≤ 2 ^ 20 := Nat.pow_le_pow_right (by omega) hs
  generalize (n % ((2 ^ 64 : Nat) : Int)).toNat % 2 ^ k = q at *
  omega
theorem and_nat (n : Int) (m k : Nat) (hk : (BitVec.ofInt 64 (m : Int)).toNat = 2 ^ k - 1) (hs : k ≤ 20) : ∃ q : Nat, bits .and .i64 n (m : Int) = (q : Int) ∧ q < 2 ^ k :=
  ⟨_, i64_and n m k hk hs, Nat.mod_lt _ (Nat.two_pow_pos k)⟩
/-- 'make([]byte, k)', and the text of it. -/
theorem make_bytes (k : Nat) (hk : k < 281474976710656) : ∃ M : Array Value, (∀ W : World, (Instr.makeSlice 67 (.int .i64 (k : Int)) (.int .i64 (k : Int))).run Try.prog W = .ok (.slice (some ⟨W.heap.size, 0, none⟩) k k) (W.alloc (.cells M 5))) ∧
    (∀ W : World, (convert 67 9 (.slice (some ⟨W.heap.size, 0, none⟩) k k)).run Try.prog (W.alloc (.cells M 5)) = .ok (.string (str (List.replicate k 0))) (W.alloc (.cells M 5))) := by
  obtain ⟨i0, hi, hz0, hz1, hz2⟩ := info_parts Wirey.u8_info
  refine ⟨madeCells (Value.int .u8 0).cells (((k : Nat) : Int).toNat * i0.size), fun W => ?_, fun W => ?_⟩
  · have h := run_make (P := Try.prog) W 67 5 i0 (.int .u8 0) Try.underlying67 hi hz0 .i64 .i64 (k : Int) (k : Int) (by omega) (by omega) (by rw [hz2]; omega) (by omega)
    simpa using h
  · have h := Wirey.row_str W (List.replicate k 0) (madeCells (Value.int .u8 0).cells (((k : Nat) : Int).toNat * i0.size)) (by
      rw [hz1, Int.toNat_natCast, Nat.mul_one]
      apply Array.toList_inj.1
      have := toList_madeCells_one (.int .u8 0) k
      rw [show (Value.int .u8 0).cells = #[.int .u8 0] from rfl, this]
      simp) k
    rw [List.length_replicate] at h
    exact h
theorem lists_none (w : World) :
    Calls Try.prog 35 #[.pointer none] w fun e w' => e = .returned (.agg #[.slice none 0 0, .slice none 0 0, .slice none 0 0, .slice none 0 0]) ∧ Below w.heap.size w w' := by
  have hb := ((Below.refl _ w).alloc (Nat.le_refl _) (.cells #[.slice none 0 0, .slice none 0 0, .slice none 0 0, .slice none 0 0] 63)).alloc (by simp) (.cells #[.slice none 0 0, .slice none 0 0, .slice none 0 0, .slice none 0 0] 63)
  have HB := Lib.hid hb
  clear hb
  go_enter Try.func35, Try.ntmps35
  go_wp2_with fail
  refine (made_nil _).mono ?_
  rintro e w' ⟨rfl, rfl⟩
  go_wp2_with fail
  refine bodyPost_ret (results_cell_row rfl _ _ w.heap.size 63 _ _ _ rfl (((Blk.new w 63 #[.slice none 0 0, .slice none 0 0, .slice none 0 0, .slice none 0 0]).alloc _)) Try.underlying63 rfl (by kernel_rfl)) rfl ⟨rfl, HB.out⟩
set_option maxHeartbeats 4000000 in
set_option maxRecDepth 100000 in
theorem arcNone_walk (a0 : Int) (_w0 : (Lit.int .i64 a0).wf = true) (a1 : ByteArray) (w1 : a1.size ≤ maxLen) (w : World) :
    Calls Try.prog 8 #[.int .i64 a0, .string a1] w fun e w' => e = .returned (.bool true) ∧ Below w.heap.size w w' := by
  obtain ⟨l1, rfl⟩ : ∃ l, a1 = str l := ⟨_, str_of a1⟩
  rw [str_size] at w1
  obtain ⟨x, hx, hx2⟩ := and_nat a0 2047 11 (by decide) (by omega)
  have hx : bits .and .i64 a0 2047 = (x : Int) := hx
  have hfew := fun W : World => fewA_c l1 w1 W
  obtain ⟨M, hmk, hcv⟩ := make_bytes 65 (by omega)
  have hmk : ∀ W : World, (Instr.makeSlice 67 (.int .i64 65) (.int .i64 65)).run Try.prog W = .ok (.slice (some ⟨W.heap.size, 0, none⟩) 65 65) (W.alloc (.cells M 5)) := hmk
  have hNew : ∀ W : World, ∃ b : Bool, (b = (decide (1 ≤ (x : Int)) && decide ((x : Int) ≤ 1000))) ∧ Calls Try.prog 24 #[.int .i64 (x : Int)] W fun e w' => ∃ q k, e = .returned (.tuple #[.pointer q, .int .i64 k]) ∧ Below W.heap.size W w' ∧ (k == 0) = b ∧ (q != none) = b := by
    intro W
    by_cases hb : 1 ≤ x ∧ x ≤ 1000
    · refine ⟨true, by simp; omega, (newA_c (n := x) hb.1 hb.2 W).mono ?_⟩
      rintro e w' ⟨A, m, rfl, h⟩
      exact ⟨_, _, rfl, h.below, rfl, rfl⟩
    · refine ⟨false, ?_, (newA_no (n := (x : Int)) (by omega) W).mono ?_⟩
      · symm
        rw [Bool.eq_false_iff]
        simp
        omega
      · rintro e w' ⟨rfl, rfl⟩
        exact ⟨_, _, rfl, Below.refl _ _, rfl, rfl⟩
  have hlong : (List.replicate 65 (0 : UInt8)).length = 65 := List.length_replicate
  have hins : (Av.new 3).insert (List.replicate 65 0) = Av.new 3 := by unfold Av.insert; rw [hlong]; rfl
  have hinsK : (Av.new 3).insertK (List.replicate 65 0) = [] := by unfold Av.insertK; rw [hlong]; rfl
  have hI := fun (W W0 : World) (A P : Nat) (m : Rm) (h : HeldA W0 A P W m (Av.new 3)) => insert_c (k := List.replicate 65 0) (by rw [hlong]; unfold maxLen; omega) h
  rw [hins, hinsK] at hI
  generalize List.replicate 65 (0 : UInt8) = long at *
  clear hins hinsK hlong
  obtain ⟨b, hb, hN⟩ := hNew w
  clear hNew
  have hN3 := fun W : World => newA_c (n := 3) (by omega) (by omega) W
  have hk3 : (Av.new 3).kept = 0 := rfl
  go_enter Try.func8, Try.ntmps8
  go_wp2_with fail
  refine (evict_none _).mono ?_
  rintro e w' ⟨rfl, rfl⟩
  go_wp2_with fail
  refine hN.mono ?_
  rintro e w1 ⟨q, k, rfl, hb1, hk, hq⟩
  go_wp2_with fail
  refine (hN3 _).mono ?_
  rintro e w2 ⟨A, m, rfl, h2⟩
  go_wp2_with fail
  refine (hI _ _ _ _ _ (h2.alloc _)).mono ?_
  rintro e w3 ⟨val, m3, rfl, h3, hS3, hT3⟩
  obtain ⟨va, vc, rfl⟩ := hT3.form
  clear hT3 hS3 h2
  go_wp2_with fail
  refine (lists_none _).mono ?_
  rintro e w4 ⟨rfl, hb4⟩
  have h4 := (h3.later hb4 (Nat.le_refl _)).alloc (.cells #[.slice none 0 0, .slice none 0 0, .slice none 0 0, .slice none 0 0] 63)
  clear h3 hb4
  go_wp2_with fail
  have bk := Blk.new w4 63 #[.slice none 0 0, .slice none 0 0, .slice none 0 0, .slice none 0 0]
  generalize w4.alloc (.cells #[.slice none 0 0, .slice none 0 0, .slice none 0 0, .slice none 0 0] 63) = w5 at *
  refine (awakeA_c _).mono ?_
  rintro e w6 ⟨rfl, hb6⟩
  have h6 := h4.later hb6 (Nat.le_refl _)
  have bk6 := bk.below hb6 bk.lt
  have c0 := bk6.cell 0
  simp only [List.getElem?_toArray, List.getElem?_cons_zero] at c0
  have hL := fun (W : World) (h : HeldA w1 A (w1.heap.size + 2) W m3 (Av.new 3)) => lenA_c h
  rw [hk3] at hL
  have HB := Lib.hid (hb1.trans (h6.below.mono hb1.size))
  clear h4 hb6 bk bk6 hN hN3 hI hmk hcv hk3
  have hq2 : q.isSome = b := by cases q <;> exact hq
  have hq3 : q.isNone = !b := by rw [← hq2]; cases q <;> rfl
  go_wp2_with fail
  refine (hfew _).mono ?_
  rintro e w' ⟨rfl, rfl⟩
  go_wp2_with fail
  refine (has_none _ _).mono ?_
  rintro e w' ⟨rfl, rfl⟩
  go_wp2_with fail
  refine (len_none _).mono ?_
  rintro e w' ⟨rfl, rfl⟩
  go_wp2_with fail
  refine (hfew _).mono ?_
  rintro e w' ⟨rfl, rfl⟩
  go_wp2_with fail
  refine (touch_none _ _).mono ?_
  rintro e w' ⟨rfl, rfl⟩
  go_wp2_with fail
  refine (hfew _).mono ?_
  rintro e w' ⟨rfl, rfl⟩
  go_wp2_with fail
  refine (insert_none _ _).mono ?_
  rintro e w' ⟨rfl, rfl⟩
  go_wp2_with fail
  refine (hfew _).mono ?_
  rintro e w' ⟨rfl, rfl⟩
  go_wp2_with fail
  refine (remove_none _ _).mono ?_
  rintro e w' ⟨rfl, rfl⟩
  go_wp2_with fail
  refine (target_none _).mono ?_
  rintro e w' ⟨rfl, rfl⟩
  go_wp2_with fail
  refine (export_none _).mono ?_
  rintro e w' ⟨rfl, rfl⟩
  go_wp2_with fail
  all_goals
    refine (hL _ h6).mono ?_
    rintro e w' ⟨rfl, o, rfl⟩
    go_wp2_with fail
    go_ret
    exact ⟨rfl, HB.out.alloc HB.out.size o⟩
set_option linter.unusedVariables false in
set_option maxRecDepth 100000 in
theorem arcNone_lifted (os : Os) (started : os.Started) (H : Type) (enc : TypeId × Value → H) :
    ReturnsInHanded {} Try.checked os 8 .any (Rows.arcNoneSpec.pre6 enc Try.prog Try.f8 Rows.arcNoneRow.domain false) (Rows.arcNoneSpec.post enc Try.prog Try.f8 false true false false) := by
  refine returnsInHanded_of_change (C := Try.checked) Kit.own started (by kernel_rfl) Try.func8
    (ChangeSpec.witness6 (enc := enc) (C := Try.checked) false ⟨#[], #[.int .i64 0, .string ⟨#[]⟩], []⟩ 8 (by kernel_rfl) (by kernel_rfl) (by kernel_rfl) (by kernel_rfl)) ?_
  intro W base args ds gs before hval0 hW hcnd _
  have hval : ∀ (j : Nat) t v, Try.f8.params[j]? = some t → args[j]? = some v → Value.okWide Try.prog W .any base t v := hval0
  have hW' := hW
  obtain ⟨p, q, hA0, hV, rfl, hfz, hnd⟩ := hW
  have hA : DataW.TrodAll enc Try.prog W 0 (fun _ => true) true Try.f8.params.toList args.toList ds p := hA0
  rw [Try.params8] at hA hval
  obtain ⟨v0, vs0, d0, ds0, p0, q0, hargs, rfl, rfl, h0, r0⟩ := trodAll_cons hA
  obtain ⟨v1, vs1, d1, ds1, p1, q1, rfl, rfl, rfl, h1, r1⟩ := trodAll_cons r0
  obtain ⟨rfl, rfl, rfl⟩ := trodAll_nil r1
  obtain ⟨rfl, rfl⟩ := trodVars_none hV
  obtain rfl : args = #[v0, v1] := by cases args; simp_all
  obtain ⟨a0, rfl, rfl, rfl, w0⟩ := open_int Try.underlying3 (hval 0 3 v0 rfl rfl) h0
  obtain ⟨a1, rfl, rfl, rfl, w1⟩ := open_string Try.underlying9 (hval 1 9 v1 rfl rfl) h1
  clear hA0 hval0
  refine (arcNone_walk a0 w0 a1 w1 W).mono fun e W' ⟨he, hg⟩ => ?_
  subst he
  exact ⟨_, rfl, Kit.law_post hW' rfl (by kernel_rfl) rfl (by kernel_rfl) hg⟩

theorem arcNone_over : Rows.arcNoneRow.holds Try.pinned (OpenSpec.ofChange Rows.arcNoneSpec) :=
  OpenClaim.holds_of_wide 8 Try.f8 rfl rfl rfl rfl rfl rfl rfl ⟨rfl, rfl, rfl, rfl, rfl⟩ rfl rfl rfl rfl rfl (by kernel_rfl) Try.func8 (by kernel_rfl)
    (of_decide_eq_true (by kernel_rfl)) (by unfold Func.isWrapper; first | (rw [if_pos (by decide +kernel)]; kernel_rfl) | (rw [if_neg (by decide +kernel)]; exact ⟨rfl, rfl⟩))
    (fun os started H enc _ => arcNone_lifted os started H enc)

theorem arcNone_holds : Rows.ArcNoneSaid :=
  arcNone_over

end Go.Proofs.Ytmmbenddganlmaa.Arcy
