/- Layer 6 (ring): for every input the call returns true and leaves what it was given as it was: lists share their places: when there is none left no new key comes in, but those that are in go from list to list (RingShares). No condition. -/
import Derived.Test.YtcainhhjmgjfcaaKit
import Derived.Test.YtcainhhjmgjfcaaRingMany
import Derived.Test.YtcainhhjmgjfcaaRingLawNone
import Derived.Test.YtcainhhjmgjfcaaWireEnc
namespace Go.Proofs.Ytcainhhjmgjfcaa.Ringy
open Go.ChangeShapes Go.WideShapes Go.ChangeAt Go.RowKit
open Wirey (Blk Row str str_size str_list str_of str_take str_cat Kp)
open Go.ChangeMaps Go.Maps

theorem one_key {j : Nat} (hj : j < 16) (W : World) :
    (convert 46 9 (.slice (some ⟨W.heap.size, 0, none⟩) 1 1)).run Try.prog (W.alloc (.cells #[.int .u8 (97 + (j : Int))] 5)) = .ok (.string (str (sKey j))) (W.alloc (.cells #[.int .u8 (97 + (j : Int))] 5)) := by
  have := Wirey.one_str (97 + (j : Int)) (by omega) (by omega) W
  rw [show (97 + (j : Int)).toNat = 97 + j from by omega] at this
  exact this
theorem str_a : (⟨#[97]⟩ : ByteArray) = str (sKey 0) := rfl
theorem str_n : (⟨#[110, 101, 119, 32, 107, 101, 121]⟩ : ByteArray) = str nKey := rfl
theorem str_x (y : List UInt8) : str y ++ ⟨#[33]⟩ = str (y ++ [33]) := str_cat y [33]

set_option maxHeartbeats 4000000 in
set_option maxRecDepth 100000 in
theorem ringShares_walk (a0 : Int) (_w0 : (Lit.int .i64 a0).wf = true) (a1 : ByteArray) (w1 : a1.size ≤ maxLen) (w : World) :
    Calls Try.prog 4 #[.int .i64 a0, .string a1] w fun e w' => e = .returned (.bool true) ∧ Below w.heap.size w w' := by
  obtain ⟨l1, rfl⟩ : ∃ l, a1 = str l := ⟨_, str_of a1⟩
  rw [str_size] at w1
  obtain ⟨q, hq, hq2⟩ := and_nat a0 15 4 (by decide) (by omega)
  have hq : bits .and .i64 a0 15 = (q : Int) := hq
  have hq16 : q < 16 := hq2
  clear hq2
  have hnew := fun W : World => new_h (n := 3) (places := q) (by omega) (by omega) (by omega) W
  go_enter Try.func4, Try.ntmps4
  go_wp2_with fail
  refine (hnew _).mono ?_
  clear hnew
  rintro e w2 ⟨rfl, m, hH⟩
  go_wp2_with fail
  refine (awake_c _).mono ?_
  rintro e w3 ⟨rfl, hb3⟩
  have hH3 := hH.later hb3 (Nat.le_refl _)
  clear hH hb3
  go_wp2_with fail
  go_loopw [8] (fun i wr => ∃ (j : Nat) (m : Rm) (r : Rg), j ≤ q ∧ i = .int .i64 j ∧ Held w (w.heap.size + 2) wr m r ∧ Sh1 q j r) (fun i _ => q - (intOf i).toNat)
  case atStart => exact ⟨0, m, _, by omega, rfl, hH3, Sh1.new q⟩
  case round =>
    obtain ⟨j, m, r, hjq, rfl, hU, hS⟩ := hrel
    clear hH3
    by_cases h1 : j < q
    · have hj16 : j < 16 := by omega
      obtain ⟨k1, k2⟩ := hS.next h1 hq16 (a := (j : Int) % 3) (by omega) (by omega)
      have hkey := fun W => one_key hj16 W
      have hf := front_h ((j : Int) % 3) (l := sKey j) (by show 1 ≤ maxLen; unfold maxLen; omega) (hU.alloc (.cells #[.int .u8 (97 + (j : Int))] 5))
      rw [k1] at hf
      have HK2 := Lib.hid k2
      clear k1 k2
      go_wp2_with fail
      refine hf.mono ?_
      rintro e w4 ⟨rfl, m', hU', -⟩
      go_wp2_with fail
      go_roundw
      case rel => exact ⟨j + 1, m', _, by omega, rfl, hU', HK2.out⟩
      case measure => simp [intOf]; omega
    · obtain rfl : j = q := by omega
      have hfr := free_h hU
      rw [hS.pl, hS.many, Int.sub_self] at hfr
      have h2 := hS.to
      have hno : r.ok 0 nKey = false := Rg.ok_not (h2.not (k := nKey) (by decide)) (by rw [h2.pl, h2.many]; exact Nat.le_refl _)
      have hf := fun n => front_h 0 (l := nKey) (by decide) (hU.drewN n)
      rw [hno, Rg.fr_no hno, ← str_n] at hf
      have H2 := Lib.hid h2
      clear h1 h2 hno hS
      go_wp2_with fail
      refine hfr.mono ?_
      rintro e w4 ⟨rfl, nn, rfl⟩
      go_wp2_with fail
      refine (hf nn).mono ?_
      rintro e w5 ⟨rfl, m5, hU5, -⟩
      clear hf hfr hU
      go_wp2_with fail
      go_loopw [9] (fun i wr => ∃ (j2 : Nat) (m : Rm) (r : Rg), j2 ≤ j ∧ i = .int .i64 j2 ∧ Held w (w.heap.size + 2) wr m r ∧ Sh2 j j2 r) (fun i _ => j - (intOf i).toNat)
      case atStart => exact ⟨0, m5, r, by omega, rfl, hU5, H2.out⟩
      case round =>
        clear H2 hU5
        obtain ⟨j2, m, r, hj2, rfl, hU, hS⟩ := hrel
        by_cases h1 : j2 < j
        · have hj16 : j2 < 16 := by omega
          obtain ⟨k1, k2⟩ := hS.next hU.at_.wf h1
          have hkey := fun W => one_key hj16 W
          have hf := front_h 2 (l := sKey j2) (by show 1 ≤ maxLen; unfold maxLen; omega) (hU.alloc (.cells #[.int .u8 (97 + (j2 : Int))] 5))
          rw [k1] at hf
          have HK2 := Lib.hid k2
          clear k1 k2
          go_wp2_with fail
          refine hf.mono ?_
          rintro e w4 ⟨rfl, m', hU', -⟩
          go_wp2_with fail
          go_roundw
          case rel => exact ⟨j2 + 1, m', _, by omega, rfl, hU', HK2.out⟩
          case measure => simp [intOf]; omega
        · obtain rfl : j2 = j := by omega
          clear h1 hj2 hjq
          obtain ⟨e0, e1, e2⟩ := hS.ends
          have g2 := len_h 2 (by rw [hS.n]; omega) hU
          have g1 := len_h 1 (by rw [hS.n]; omega) hU
          have g0 := len_h 0 (by rw [hS.n]; omega) hU
          rw [e2] at g2
          rw [e1] at g1
          rw [e0] at g0
          simp only [List.length_nil] at g0 g1
          have HB := Lib.hid hU.below
          clear e0 e1 e2
          by_cases hz : j2 = 0
          · have hz2 : ((j2 : Int) == 0) = true := by rw [beq_iff_eq]; omega
            clear hU hS
            go_wp2_with fail
            refine g2.mono ?_
            rintro e w' ⟨rfl, rfl⟩
            go_wp2_with fail
            refine g0.mono ?_
            rintro e w' ⟨rfl, rfl⟩
            go_wp2_with fail
            refine g1.mono ?_
            rintro e w' ⟨rfl, rfl⟩
            go_wp2_with fail
            go_ret
            exact ⟨by simp, HB.out⟩
          · have hz2 : ((j2 : Int) == 0) = false := by rw [beq_eq_false_iff_ne]; omega
            obtain ⟨t1, t2, t3⟩ := hS.turn hU.at_.wf (by omega) hq16 (y := fewL l1)
            have hd := drop_h (l := sKey 0) (by decide) hU
            rw [t1, ← str_a] at hd
            have HT2 := Lib.hid t2
            have HT3 := Lib.hid t3
            clear hU hS t1 t2 t3 hz
            go_wp2_with fail
            refine g2.mono ?_
            rintro e w' ⟨rfl, rfl⟩
            go_wp2_with fail
            refine g0.mono ?_
            rintro e w' ⟨rfl, rfl⟩
            go_wp2_with fail
            refine g1.mono ?_
            rintro e w' ⟨rfl, rfl⟩
            go_wp2_with fail
            refine hd.mono ?_
            rintro e w6 ⟨rfl, m6, hU6, -⟩
            clear g0 g1 g2 hd
            have hf := front_h 1 (l := nKey) (by decide) hU6
            rw [HT2.out, ← str_n] at hf
            go_wp2_with fail
            refine hf.mono ?_
            rintro e w7 ⟨rfl, m7, hU7, -⟩
            clear hf hU6
            have hfx := front_h 1 (l := fewL l1 ++ [33]) (by have := fewL_le l1; unfold maxLen; simp; omega) hU7
            rw [HT3.out, ← str_x] at hfx
            have hfw := fun W => few_c l1 w1 W
            have hsz := str_size
            have hle := fewL_le l1
            go_wp2_with fail
            refine (hfw _).mono ?_
            rintro e w' ⟨rfl, rfl⟩
            go_wp2_with fail
            refine hfx.mono ?_
            rintro e w8 ⟨rfl, m8, hU8, -⟩
            have HB8 := Lib.hid hU8.below
            clear hU8 hU7 hfx
            go_wp2_with fail
            go_ret
            exact ⟨by simp, HB8.out⟩

set_option linter.unusedVariables false in
set_option maxRecDepth 100000 in
theorem ringShares_lifted (os : Os) (started : os.Started) (H : Type) (enc : TypeId × Value → H) :
    ReturnsInHanded {} Try.checked os 4 .any (Rows.ringSharesSpec.pre6 enc Try.prog Try.f4 Rows.ringSharesRow.domain false) (Rows.ringSharesSpec.post enc Try.prog Try.f4 false true false false) := by
  refine returnsInHanded_of_change (C := Try.checked) Kit.own started (by kernel_rfl) Try.func4
    (ChangeSpec.witness6 (enc := enc) (C := Try.checked) false ⟨#[], #[.int .i64 0, .string ⟨#[]⟩], []⟩ 8 (by kernel_rfl) (by kernel_rfl) (by kernel_rfl) (by kernel_rfl)) ?_
  intro W base args ds gs before hval0 hW hcnd _
  have hval : ∀ (j : Nat) t v, Try.f4.params[j]? = some t → args[j]? = some v → Value.okWide Try.prog W .any base t v := hval0
  have hW' := hW
  obtain ⟨p, q, hA0, hV, rfl, hfz, hnd⟩ := hW
  have hA : DataW.TrodAll enc Try.prog W 0 (fun _ => true) true Try.f4.params.toList args.toList ds p := hA0
  rw [Try.params4] at hA hval
  obtain ⟨v0, vs0, d0, ds0, p0, q0, hargs, rfl, rfl, h0, r0⟩ := trodAll_cons hA
  obtain ⟨v1, vs1, d1, ds1, p1, q1, rfl, rfl, rfl, h1, r1⟩ := trodAll_cons r0
  obtain ⟨rfl, rfl, rfl⟩ := trodAll_nil r1
  obtain ⟨rfl, rfl⟩ := trodVars_none hV
  obtain rfl : args = #[v0, v1] := by cases args; simp_all
  obtain ⟨a0, rfl, rfl, rfl, w0⟩ := open_int Try.underlying3 (hval 0 3 v0 rfl rfl) h0
  obtain ⟨a1, rfl, rfl, rfl, w1⟩ := open_string Try.underlying9 (hval 1 9 v1 rfl rfl) h1
  clear hA0 hval0
  refine (ringShares_walk a0 w0 a1 w1 W).mono fun e W' ⟨he, hg⟩ => ?_
  subst he
  exact ⟨_, rfl, Kit.law_post hW' rfl (by kernel_rfl) rfl (by kernel_rfl) hg⟩

theorem ringShares_over : Rows.ringSharesRow.holds Try.pinned (OpenSpec.ofChange Rows.ringSharesSpec) :=
  OpenClaim.holds_of_wide 4 Try.f4 rfl rfl rfl rfl rfl rfl rfl ⟨rfl, rfl, rfl, rfl, rfl⟩ rfl rfl rfl rfl rfl (by kernel_rfl) Try.func4 (by kernel_rfl)
    (of_decide_eq_true (by kernel_rfl)) (by unfold Func.isWrapper; first | (rw [if_pos (by decide +kernel)]; kernel_rfl) | (rw [if_neg (by decide +kernel)]; exact ⟨rfl, rfl⟩))
    (fun os started H enc _ => ringShares_lifted os started H enc)

theorem ringShares_holds : Rows.RingSharesSaid :=
  ringShares_over

end Go.Proofs.Ytcainhhjmgjfcaa.Ringy
