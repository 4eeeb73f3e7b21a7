/- Layer 9 (policy): for every input the call returns true and leaves what it was given as it was: no policy keeps nothing; there are two kinds (PolicyNone). No condition. -/
import Derived.Test.YtncgfnocokippaaKit
import Derived.Test.YtncgfnocokippaaPolicyAwake
namespace Go.Proofs.Ytncgfnocokippaa.Policyy
open Go.ChangeShapes Go.WideShapes Go.ChangeAt Go.RowKit
open Wirey (Blk Row str str_size str_list str_of str_take Kp)
open Go.Shelf Go.ChangeMaps Go.Maps
open Ringy hiding fewL fewL_le
open Arcy (Av)
open Tinyy (Tv fewL fewL_le)

theorem i64_and9 (n : Int) (m k : Nat) (hk : (BitVec.ofInt 64 (m : Int)).toNat = 2 ^ k - 1) (hs : k ≤ 20) : bits .and .i64 n (m : Int) = ((n % ((2 ^ 64 : Nat) : Int)).toNat % 2 ^ k : Nat) := by
  have key : (BitVec.ofInt 64 n &&& BitVec.ofInt 64 (m : Int)).toNat = (n % ((2 ^ 64 : Nat) : Int)).toNat % 2 ^ k := by
    rw [BitVec.toNat_and, BitVec.toNat_ofInt, hk, Nat.and_two_pow_sub_one_eq_mod]
  show IntKind.i64.wrap ((BitVec.ofInt 64 n &&& BitVec.ofInt 64 (m : Int)).toNat : Nat) = _
  rw [key, IntKind.wrap_i64]
  have h1 : (n % ((2 ^ 64 : Nat) : Int)).toNat % 2 ^ k < 2 ^ k := Nat.mod_lt _ (Nat.two_pow_pos k)
  have h2 : 2 ^ k ≤ 2 ^ 20 := Nat.pow_le_pow_right (by omega) hs
  generalize (n % ((2 ^ 64 : Nat) : Int)).toNat % 2 ^ k = q at *
  omega
theorem and_nat9 (n : Int) (m k : Nat) (hk : (BitVec.ofInt 64 (m : Int)).toNat = 2 ^ k - 1) (hs : k ≤ 20) : ∃ q : Nat, bits .and .i64 n (m : Int) = (q : Int) ∧ q < 2 ^ k :=
  ⟨_, i64_and9 n m k hk hs, Nat.mod_lt _ (Nat.two_pow_pos k)⟩
set_option maxHeartbeats 4000000 in
set_option maxRecDepth 100000 in
theorem policyNone_walk (a0 : Int) (_w0 : (Lit.int .i64 a0).wf = true) (a1 : ByteArray) (w1 : a1.size ≤ maxLen) (w : World) :
    Calls Try.prog 3 #[.int .i64 a0, .string a1] w fun e w' => e = .returned (.bool true) ∧ Below w.heap.size w w' := by
  obtain ⟨l1, rfl⟩ : ∃ l, a1 = str l := ⟨_, str_of a1⟩
  rw [str_size] at w1
  obtain ⟨x, hx, hx2⟩ := and_nat9 a0 7 3 (by decide) (by omega)
  have hx : bits .and .i64 a0 7 = (x : Int) := hx
  have hfew := fun W : World => fewP_c l1 w1 W
  have hNew : ∀ W : World, ∃ b : Bool, b = (decide (x = 1 ∨ x = 2)) ∧ Calls Try.prog 7 #[.int .i64 (x : Int), .int .i64 3, .int .u64 1] W fun e w' => ∃ q k, e = .returned (.tuple #[.pointer q, .int .i64 k]) ∧ Below W.heap.size W w' ∧ (k == 0) = b ∧ (q != none) = b := by
    intro W
    by_cases hb : x = 1 ∨ x = 2
    · refine ⟨true, (decide_eq_true hb).symm, (newP_c (kind := x) (n := 3) (seed := 1) hb (by omega) (by omega) (by omega) W).mono ?_⟩
      rintro e w' ⟨C, H, rfl, h⟩
      exact ⟨_, _, rfl, h.below, rfl, rfl⟩
    · refine ⟨false, (decide_eq_false hb).symm, (newP_no (kind := (x : Int)) (n := 3) (s := 1) (fun h => absurd (by omega) hb) W).mono ?_⟩
      rintro e w' ⟨rfl, rfl⟩
      exact ⟨_, _, rfl, Below.refl _ _, rfl, rfl⟩
  obtain ⟨b, hb, hN⟩ := hNew w
  clear hNew
  have hA := fun W => newP_no (kind := 1) (n := 0) (s := 1) (fun _ => .inl (by omega)) W
  have hT := fun W => newP_no (kind := 2) (n := 1001) (s := 1) (fun _ => .inr (by omega)) W
  have o1 : ((x : Int) == 1) = decide (x = 1) := by
    by_cases h : x = 1
    · rw [h]; rfl
    · rw [decide_eq_false h, beq_eq_false_iff_ne]; omega
  have o2 : ((x : Int) == 2) = decide (x = 2) := by
    by_cases h : x = 2
    · rw [h]; rfl
    · rw [decide_eq_false h, beq_eq_false_iff_ne]; omega
  have cs : (x = 1 ∧ b = true) ∨ (x = 2 ∧ b = true) ∨ (((x : Int) == 1) = false ∧ ((x : Int) == 2) = false ∧ b = false) := by
    by_cases h1 : x = 1
    · exact .inl ⟨h1, by rw [hb]; exact decide_eq_true (.inl h1)⟩
    · by_cases h2 : x = 2
      · exact .inr (.inl ⟨h2, by rw [hb]; exact decide_eq_true (.inr h2)⟩)
      · exact .inr (.inr ⟨by rw [o1]; exact decide_eq_false h1, by rw [o2]; exact decide_eq_false h2, by rw [hb]; exact decide_eq_false (by omega)⟩)
  clear o1 o2 hb
  go_enter Try.func3, Try.ntmps3
  go_wp2_with fail
  refine (hfew _).mono ?_
  rintro e w' ⟨rfl, rfl⟩
  go_wp2_with fail
  refine (miss_none _ _).mono ?_
  rintro e w' ⟨rfl, rfl⟩
  go_wp2_with fail
  refine (evict_none _).mono ?_
  rintro e w' ⟨rfl, rfl⟩
  go_wp2_with fail
  refine hN.mono ?_
  rintro e w1 ⟨q, k, rfl, hb1, hk, hq⟩
  go_wp2_with fail
  refine (hA _).mono ?_
  rintro e w' ⟨rfl, rfl⟩
  go_wp2_with fail
  refine (hT _).mono ?_
  rintro e w' ⟨rfl, rfl⟩
  clear hN hA hT
  have hq2 : q.isSome = b := by cases q <;> exact hq
  have hq3 : q.isNone = !b := by rw [← hq2]; cases q <;> rfl
  go_wp2_with fail
  refine (awakeP_c _).mono ?_
  rintro e w2 ⟨rfl, hb2⟩
  have HB := Lib.hid (hb1.trans (hb2.mono hb1.size))
  clear hb1 hb2
  go_wp2_with fail
  refine (hfew _).mono ?_
  rintro e w' ⟨rfl, rfl⟩
  go_wp2_with fail
  refine (has_none _ _).mono ?_
  rintro e w' ⟨rfl, rfl⟩
  go_wp2_with fail
  refine (len_none _).mono ?_
  rintro e w' ⟨rfl, rfl⟩
  go_wp2_with fail
  refine (hfew _).mono ?_
  rintro e w' ⟨rfl, rfl⟩
  go_wp2_with fail
  refine (touch_none _ _).mono ?_
  rintro e w' ⟨rfl, rfl⟩
  go_wp2_with fail
  refine (hfew _).mono ?_
  rintro e w' ⟨rfl, rfl⟩
  go_wp2_with fail
  refine (insert_none _ _).mono ?_
  rintro e w' ⟨rfl, rfl⟩
  go_wp2_with fail
  refine (hfew _).mono ?_
  rintro e w' ⟨rfl, rfl⟩
  go_wp2_with fail
  refine (remove_none _ _).mono ?_
  rintro e w' ⟨rfl, rfl⟩
  go_wp2_with fail
  refine (kind_none _).mono ?_
  rintro e w' ⟨rfl, rfl⟩
  go_wp2_with fail
  refine (export_none _).mono ?_
  rintro e w' ⟨rfl, rfl⟩
  rcases cs with ⟨rfl, rfl⟩ | ⟨rfl, rfl⟩ | ⟨n1, n2, rfl⟩
  all_goals
    go_wp2_with fail
    go_ret
    exact ⟨rfl, HB.out⟩
set_option linter.unusedVariables false in
set_option maxRecDepth 100000 in
theorem policyNone_lifted (os : Os) (started : os.Started) (H : Type) (enc : TypeId × Value → H) :
    ReturnsInHanded {} Try.checked os 3 .any (Rows.policyNoneSpec.pre6 enc Try.prog Try.f3 Rows.policyNoneRow.domain false) (Rows.policyNoneSpec.post enc Try.prog Try.f3 false true false false) := by
  refine returnsInHanded_of_change (C := Try.checked) Kit.own started (by kernel_rfl) Try.func3
    (ChangeSpec.witness6 (enc := enc) (C := Try.checked) false ⟨#[], #[.int .i64 0, .string ⟨#[]⟩], []⟩ 8 (by kernel_rfl) (by kernel_rfl) (by kernel_rfl) (by kernel_rfl)) ?_
  intro W base args ds gs before hval0 hW hcnd _
  have hval : ∀ (j : Nat) t v, Try.f3.params[j]? = some t → args[j]? = some v → Value.okWide Try.prog W .any base t v := hval0
  have hW' := hW
  obtain ⟨p, q, hA0, hV, rfl, hfz, hnd⟩ := hW
  have hA : DataW.TrodAll enc Try.prog W 0 (fun _ => true) true Try.f3.params.toList args.toList ds p := hA0
  rw [Try.params3] at hA hval
  obtain ⟨v0, vs0, d0, ds0, p0, q0, hargs, rfl, rfl, h0, r0⟩ := trodAll_cons hA
  obtain ⟨v1, vs1, d1, ds1, p1, q1, rfl, rfl, rfl, h1, r1⟩ := trodAll_cons r0
  obtain ⟨rfl, rfl, rfl⟩ := trodAll_nil r1
  obtain ⟨rfl, rfl⟩ := trodVars_none hV
  obtain rfl : args = #[v0, v1] := by cases args; simp_all
  obtain ⟨a0, rfl, rfl, rfl, w0⟩ := open_int Try.underlying3 (hval 0 3 v0 rfl rfl) h0
  obtain ⟨a1, rfl, rfl, rfl, w1⟩ := open_string Try.underlying9 (hval 1 9 v1 rfl rfl) h1
  clear hA0 hval0
  refine (policyNone_walk a0 w0 a1 w1 W).mono fun e W' ⟨he, hg⟩ => ?_
  subst he
  exact ⟨_, rfl, Kit.law_post hW' rfl (by kernel_rfl) rfl (by kernel_rfl) hg⟩

theorem policyNone_over : Rows.policyNoneRow.holds Try.pinned (OpenSpec.ofChange Rows.policyNoneSpec) :=
  OpenClaim.holds_of_wide 3 Try.f3 rfl rfl rfl rfl rfl rfl rfl ⟨rfl, rfl, rfl, rfl, rfl⟩ rfl rfl rfl rfl rfl (by kernel_rfl) Try.func3 (by kernel_rfl)
    (of_decide_eq_true (by kernel_rfl)) (by unfold Func.isWrapper; first | (rw [if_pos (by decide +kernel)]; kernel_rfl) | (rw [if_neg (by decide +kernel)]; exact ⟨rfl, rfl⟩))
    (fun os started H enc _ => policyNone_lifted os started H enc)

theorem policyNone_holds : Rows.PolicyNoneSaid :=
  policyNone_over

end Go.Proofs.Ytncgfnocokippaa.Policyy
