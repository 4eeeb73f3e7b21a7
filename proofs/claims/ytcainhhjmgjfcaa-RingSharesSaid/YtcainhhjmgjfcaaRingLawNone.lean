/- Layer 6 (ring): for every input the call returns true and leaves what it was given as it was: no rings have nothing, and take nothing; too many lists, or places, may not be (RingNone). No condition. -/
import Derived.Test.YtcainhhjmgjfcaaKit
import Derived.Test.YtcainhhjmgjfcaaRingRange
namespace Go.Proofs.Ytcainhhjmgjfcaa.Ringy
open Go.ChangeShapes Go.WideShapes Go.ChangeAt Go.RowKit Go.Shelf
open Wirey (Blk Row str str_size str_list str_of str_take Kp)
open Go.ChangeMaps Go.Maps

attribute [local go_sem] Oper.semAt_some

theorem i64_and (n : Int) (m k : Nat) (hk : (BitVec.ofInt 64 (m : Int)).toNat = 2 ^ k - 1) (hs : k ≤ 20) : bits .and .i64 n (m : Int) = ((n % ((2 ^ 64 : Nat) : Int)).toNat % 2 ^ k : Nat) := by
  have key : (BitVec.ofInt 64 n &&& BitVec.ofInt 64 (m : Int)).toNat = (n % ((2 ^ 64 : Nat) : Int)).toNat % 2 ^ k := by
    rw [BitVec.toNat_and, BitVec.toNat_ofInt, hk, Nat.and_two_pow_sub_one_eq_mod]
  show IntKind.i64.wrap ((BitVec.ofInt 64 n &&& BitVec.ofInt 64 (m : Int)).toNat : Nat) = _
  rw [key, IntKind.wrap_i64]
  have h1 : (n % ((2 ^ 64 : Nat) : Int)).toNat % 2 ^ k < 2 ^ k := Nat.mod_lt _ (Nat.two_pow_pos k)
  have h2 : 2 ^ k ≤ 2 ^ 20 := Nat.pow_le_pow_right (by omega) hs
  generalize (n % ((2 ^ 64 : Nat) : Int)).toNat % 2 ^ k = q at *
  omega
theorem and_nat (n : Int) (m k : Nat) (hk : (BitVec.ofInt 64 (m : Int)).toNat = 2 ^ k - 1) (hs : k ≤ 20) : ∃ q : Nat, bits .and .i64 n (m : Int) = (q : Int) ∧ q < 2 ^ k :=
  ⟨_, i64_and n m k hk hs, Nat.mod_lt _ (Nat.two_pow_pos k)⟩

theorem export_nil (w : World) :
    Calls Try.prog 16 #[.pointer none] w fun e w' => e = .returned (.string ⟨#[]⟩) ∧ w' = w := by
  refine calls_marks Try.func16 rfl ?_
  simp only [Try.ntmps16, List.size_toArray, List.length_cons, List.length_nil, Nat.reduceAdd, Nat.reduceSub, Array.replicate_succ, Array.replicate_zero, List.push_toArray, List.append_toArray, List.nil_append, List.cons_append]
  go_wp2_with fail
  refine (lists_nil w).mono ?_
  rintro e w' ⟨rfl, rfl⟩
  go_wp2_with fail
  exact ⟨_, results_tmp rfl _ _ _, rfl, rfl⟩

set_option maxHeartbeats 4000000 in
set_option maxRecDepth 100000 in
theorem ringNone_walk (a0 : Int) (_w0 : (Lit.int .i64 a0).wf = true) (a1 : Int) (_w1 : (Lit.int .i64 a1).wf = true) (a2 : ByteArray) (w2 : a2.size ≤ maxLen) (w : World) :
    Calls Try.prog 6 #[.int .i64 a0, .int .i64 a1, .string a2] w fun e w' => e = .returned (.bool true) ∧ Below w.heap.size w w' := by
  obtain ⟨l1, rfl⟩ : ∃ l, a2 = str l := ⟨_, str_of a2⟩
  rw [str_size] at w2
  obtain ⟨x, hx, hx2⟩ := and_nat a0 15 4 (by decide) (by omega)
  obtain ⟨y, hy, hy2⟩ := and_nat a1 8191 13 (by decide) (by omega)
  have hx : bits .and .i64 a0 15 = (x : Int) := hx
  have hy : bits .and .i64 a1 8191 = (y : Int) := hy
  have hkn := fun W : World => keys_no (p := none) (a := 0) W (len_nil 0 W) (fun o => has_nil 0 _)
  have hfew := fun W : World => few_c l1 w2 W
  have hNew : ∀ W : World, ∃ b : Bool, (b = (decide (1 ≤ (x : Int)) && decide ((x : Int) ≤ 8) && decide ((y : Int) ≤ 4096))) ∧ Calls Try.prog 8 #[.int .i64 (x : Int), .int .i64 (y : Int)] W fun e w' => ∃ q k, e = .returned (.tuple #[.pointer q, .int .i64 k]) ∧ Below W.heap.size W w' ∧ (k == 0) = b ∧ (q != none) = b := by
    intro W
    by_cases hb : 1 ≤ x ∧ x ≤ 8 ∧ y ≤ 4096
    · refine ⟨true, by simp; omega, (new_c (n := x) (places := y) hb.1 hb.2.1 hb.2.2 W).mono ?_⟩
      rintro e w' ⟨rfl, m, -, -, h, -⟩
      exact ⟨_, _, rfl, h, rfl, rfl⟩
    · refine ⟨false, ?_, (new_no (n := (x : Int)) (places := (y : Int)) (by omega) W).mono ?_⟩
      · symm
        rw [Bool.eq_false_iff]
        simp
        omega
      · rintro e w' ⟨rfl, rfl⟩
        exact ⟨_, _, rfl, Below.refl _ _, rfl, rfl⟩
  refine calls_marks Try.func6 rfl ?_
  simp only [Try.ntmps6, List.size_toArray, List.length_cons, List.length_nil, Nat.reduceAdd, Nat.reduceSub, Array.replicate_succ, Array.replicate_zero, List.push_toArray, List.append_toArray, List.nil_append, List.cons_append]
  go_wp2_with fail
  refine (flip (back_nil _ _)).mono ?_
  rintro e w' ⟨rfl, rfl⟩
  go_wp2_with fail
  refine (hfew _).mono ?_
  rintro e w' ⟨rfl, rfl⟩
  go_wp2_with fail
  refine (flip (in_nil _ _)).mono ?_
  rintro e w' ⟨rfl, rfl⟩
  go_wp2_with fail
  obtain ⟨b, hb, hN⟩ := hNew w
  clear hNew
  refine hN.mono ?_
  rintro e w1 ⟨q, k, rfl, hb1, hk, hq⟩
  go_wp2_with fail
  refine (awake_c _).mono ?_
  rintro e w2 ⟨rfl, hb2⟩
  have hB := hb1.trans (hb2.mono hb1.size)
  clear hb1 hb2
  go_wp2_with fail
  refine (hkn _).mono ?_
  rintro e w3 ⟨B, rfl, hbox, hb3⟩
  have hn0 : w3.cell? ⟨w2.heap.size, 0, none⟩ = some (.int .i64 0) := (hb3.cell (p := ⟨w2.heap.size, 0, none⟩) (by simp)).trans ((Blk.new w2 3 #[.int .i64 0]).cell 0)
  have hlt3 : w2.heap.size < w3.heap.size := by have := hb3.size; simp at this; omega
  have hB3 : Below w.heap.size w w3 := (hB.alloc hB.size _).trans (hb3.mono (by have := hB.size; simp; omega))
  have HB3 := Lib.hid hB3
  clear hB3
  go_wp2_with fail
  apply range_keys (B := B) (l := []) (I := fun _ W => W.cell? ⟨w2.heap.size, 0, none⟩ = some (.int .i64 0) ∧ Below w.heap.size w W ∧ w3.heap.size ≤ W.heap.size) (Ix := fun _ _ _ => False)
  case hg => rfl
  case hbox => exact hbox
  case hlen => simp
  case hps => rfl
  case hI => exact ownFrom_of fun s W W' h => ⟨h.2.2, fun h1 h2 h3 h4 h5 => ⟨(World.cell?_of_block (a := ⟨w2.heap.size, 0, none⟩) (h5 _ hlt3)).trans h.1, ⟨h1.trans h.2.1.os, h2.trans h.2.1.tape, h3.trans h.2.1.output, Nat.le_trans h.2.1.size h4, fun k hk => (h5 k (by have := HB3.out.size; omega)).trans (h.2.1.block k hk)⟩, Nat.le_trans h.2.2 h4⟩⟩
  case hIx => exact fun c s W W' row h _ _ => h
  case h0 => exact ⟨hn0, HB3.out, Nat.le_refl _⟩
  case hassign =>
    intro r x W K hK
    gi_wp2
    exact hK
  case hbody => exact fun _ _ _ _ _ _ _ h => absurd h (by simp)
  case hstop => exact fun _ _ _ _ _ _ h _ => h.elim
  case hdone =>
    rintro D W hD ⟨hc, hbW, -⟩ hK
    have HK := Lib.hid hK
    have HW := Lib.hid hbW
    clear hK hbW hbox hb3 hB hlt3 hn0 hkn
    have HDw : Hid (w.heap.size ≤ D) := Lib.hid (by have := HB3.out.size; omega)
    clear hD
    go_wp2_with fail
    refine (hfew _).mono ?_
    rintro e w' ⟨rfl, rfl⟩
    go_wp2_with fail
    refine (flip (front_nil _ _ _)).mono ?_
    rintro e w' ⟨rfl, rfl⟩
    go_wp2_with fail
    refine (hfew _).mono ?_
    rintro e w' ⟨rfl, rfl⟩
    go_wp2_with fail
    refine (flip (drop_nil _ _)).mono ?_
    rintro e w' ⟨rfl, rfl⟩
    go_wp2_with fail
    refine (flip (len_nil _ _)).mono ?_
    rintro e w' ⟨rfl, rfl⟩
    go_wp2_with fail
    refine (flip (free_nil _)).mono ?_
    rintro e w' ⟨rfl, rfl⟩
    go_wp2_with fail
    refine (flip (lists_nil _)).mono ?_
    rintro e w' ⟨rfl, rfl⟩
    go_wp2_with fail
    refine (flip (export_nil _)).mono ?_
    rintro e w' ⟨rfl, rfl⟩
    go_wp2_with fail
    all_goals
      refine leave_marks (B := w.heap.size) (fun _ => results_tmp rfl _ _ _) _ _ ⟨⟨D, rfl, HDw.out, HK.out, by simp⟩, trivial⟩ (fun W' hb' => ⟨?_, HW.out.trans hb'⟩)
      have hq2 : q.isSome = b := by cases q <;> exact hq
      have hq3 : q.isNone = !b := by rw [← hq2]; cases q <;> rfl
      refine congrArg Ending.returned (congrArg Value.bool ?_)
      show _ = true
    · show (q.isSome == decide ((y : Int) ≤ 4096)) = true
      rw [hq2, hb, decide_eq_true (by assumption : (1 : Int) ≤ (x : Int)), decide_eq_true (by assumption : (x : Int) ≤ 8)]
      simp
    · show q.isNone = true
      rw [hq3, hb, decide_eq_false (by omega : ¬ (x : Int) ≤ 8)]
      simp
    · show q.isNone = true
      rw [hq3, hb, decide_eq_false (by omega : ¬ (1 : Int) ≤ (x : Int))]
      simp
set_option linter.unusedVariables false in
set_option maxRecDepth 100000 in
theorem ringNone_lifted (os : Os) (started : os.Started) (H : Type) (enc : TypeId × Value → H) :
    ReturnsInHanded {} Try.checked os 6 .any (Rows.ringNoneSpec.pre6 enc Try.prog Try.f6 Rows.ringNoneRow.domain false) (Rows.ringNoneSpec.post enc Try.prog Try.f6 false true false false) := by
  refine returnsInHanded_of_change (C := Try.checked) Kit.own started (by kernel_rfl) Try.func6
    (ChangeSpec.witness6 (enc := enc) (C := Try.checked) false ⟨#[], #[.int .i64 0, .int .i64 0, .string ⟨#[]⟩], []⟩ 8 (by kernel_rfl) (by kernel_rfl) (by kernel_rfl) (by kernel_rfl)) ?_
  intro W base args ds gs before hval0 hW hcnd _
  have hval : ∀ (j : Nat) t v, Try.f6.params[j]? = some t → args[j]? = some v → Value.okWide Try.prog W .any base t v := hval0
  have hW' := hW
  obtain ⟨p, q, hA0, hV, rfl, hfz, hnd⟩ := hW
  have hA : DataW.TrodAll enc Try.prog W 0 (fun _ => true) true Try.f6.params.toList args.toList ds p := hA0
  rw [Try.params6] at hA hval
  obtain ⟨v0, vs0, d0, ds0, p0, q0, hargs, rfl, rfl, h0, r0⟩ := trodAll_cons hA
  obtain ⟨v1, vs1, d1, ds1, p1, q1, rfl, rfl, rfl, h1, r1⟩ := trodAll_cons r0
  obtain ⟨v2, vs2, d2, ds2, p2, q2, rfl, rfl, rfl, h2, r2⟩ := trodAll_cons r1
  obtain ⟨rfl, rfl, rfl⟩ := trodAll_nil r2
  obtain ⟨rfl, rfl⟩ := trodVars_none hV
  obtain rfl : args = #[v0, v1, v2] := by cases args; simp_all
  obtain ⟨a0, rfl, rfl, rfl, w0⟩ := open_int Try.underlying3 (hval 0 3 v0 rfl rfl) h0
  obtain ⟨a1, rfl, rfl, rfl, w1⟩ := open_int Try.underlying3 (hval 1 3 v1 rfl rfl) h1
  obtain ⟨a2, rfl, rfl, rfl, w2⟩ := open_string Try.underlying9 (hval 2 9 v2 rfl rfl) h2
  clear hA0 hval0
  refine (ringNone_walk a0 w0 a1 w1 a2 w2 W).mono fun e W' ⟨he, hg⟩ => ?_
  subst he
  exact ⟨_, rfl, Kit.law_post hW' rfl (by kernel_rfl) rfl (by kernel_rfl) hg⟩

theorem ringNone_over : Rows.ringNoneRow.holds Try.pinned (OpenSpec.ofChange Rows.ringNoneSpec) :=
  OpenClaim.holds_of_wide 6 Try.f6 rfl rfl rfl rfl rfl rfl rfl ⟨rfl, rfl, rfl, rfl, rfl⟩ rfl rfl rfl rfl rfl (by kernel_rfl) Try.func6 (by kernel_rfl)
    (of_decide_eq_true (by kernel_rfl)) (by unfold Func.isWrapper; first | (rw [if_pos (by decide +kernel)]; kernel_rfl) | (rw [if_neg (by decide +kernel)]; exact ⟨rfl, rfl⟩))
    (fun os started H enc _ => ringNone_lifted os started H enc)

theorem ringNone_holds : Rows.RingNoneSaid :=
  ringNone_over

end Go.Proofs.Ytcainhhjmgjfcaa.Ringy
