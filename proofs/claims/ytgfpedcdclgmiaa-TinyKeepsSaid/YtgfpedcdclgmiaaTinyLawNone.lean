/- Layer 8 (tiny): for every input the call returns true and leaves what it was given as it was: no policy keeps nothing; one that keeps none, or too many, may not be; keys that are too long are not kept (TinyNone). No condition. -/
import Derived.Test.YtgfpedcdclgmiaaKit
import Derived.Test.YtgfpedcdclgmiaaTinyMake
namespace Go.Proofs.Ytgfpedcdclgmiaa.Tinyy
open Go.ChangeShapes Go.WideShapes Go.ChangeAt Go.RowKit
open Wirey (Blk Row str str_size str_list str_of str_take Kp)
open Sketchy (ksOf ksOf_lt)
open Ringy Go.Shelf Go.ChangeMaps Go.Maps

theorem i64_and (n : Int) (m k : Nat) (hk : (BitVec.ofInt 64 (m : Int)).toNat = 2 ^ k - 1) (hs : k ≤ 20) : bits .and .i64 n (m : Int) = ((n % ((2 ^ 64 : Nat) : Int)).toNat % 2 ^ k : Nat) := by
  have key : (BitVec.ofInt 64 n &&& BitVec.ofInt 64 (m : Int)).toNat = (n % ((2 ^ 64 : Nat) : Int)).toNat % 2 ^ k := by
    rw [BitVec.toNat_and, BitVec.toNat_ofInt, hk, Nat.and_two_pow_sub_one_eq_mod]
  show IntKind.i64.wrap ((BitVec.ofInt 64 n &&& BitVec.ofInt 64 (m : Int)).toNat : Nat) = _
  rw [key, IntKind.wrap_i64]
  have h1 : (n % ((2 ^ 64 : Nat) : Int)).toNat % 2 ^ k < 2 ^ k := Nat.mod_lt _ (Nat.two_pow_pos k)
  have h2 : 2 ^ k ≤ 2 ^ 20 := Nat.pow_le_pow_right (by omega) hs
  generalize (n % ((2 ^ 64 : Nat) : Int)).toNat % 2 ^ k = q at *
  omega
theorem and_nat (n : Int) (m k : Nat) (hk : (BitVec.ofInt 64 (m : Int)).toNat = 2 ^ k - 1) (hs : k ≤ 20) : ∃ q : Nat, bits .and .i64 n (m : Int) = (q : Int) ∧ q < 2 ^ k :=
  ⟨_, i64_and n m k hk hs, Nat.mod_lt _ (Nat.two_pow_pos k)⟩
/-! No policy -/
theorem has_none (k : List UInt8) (w : World) :
    Calls Try.prog 18 #[.pointer none, .string (str k)] w fun e w' => e = .returned (.bool false) ∧ w = w' := by
  go_enter Try.func18, Try.ntmps18
  go_wp2_with fail
  refine (made_nil _).mono ?_
  rintro e w' ⟨rfl, rfl⟩
  go_wp2_with fail
  go_ret
  exact ⟨rfl, rfl⟩
theorem len_none (w : World) :
    Calls Try.prog 17 #[.pointer none] w fun e w' => e = .returned (.int .i64 0) ∧ w = w' := by
  go_enter Try.func17, Try.ntmps17
  go_wp2_with fail
  refine (made_nil _).mono ?_
  rintro e w' ⟨rfl, rfl⟩
  go_wp2_with fail
  go_ret
  exact ⟨rfl, rfl⟩
theorem miss_none (k : List UInt8) (w : World) :
    Calls Try.prog 19 #[.pointer none, .string (str k)] w fun e w' => e = .returned (.tuple #[]) ∧ w = w' := by
  go_enter Try.func19, Try.ntmps19
  go_wp2_with fail
  refine (made_nil _).mono ?_
  rintro e w' ⟨rfl, rfl⟩
  go_wp2_with fail
  refine bodyPost_end (v := .tuple #[]) (results_none rfl _ _ _) rfl ⟨rfl, rfl⟩
theorem touch_none (k : List UInt8) (w : World) :
    Calls Try.prog 14 #[.pointer none, .string (str k)] w fun e w' => e = .returned (.bool false) ∧ w = w' := by
  go_enter Try.func14, Try.ntmps14
  go_wp2_with fail
  refine (has_none _ _).mono ?_
  rintro e w' ⟨rfl, rfl⟩
  go_wp2_with fail
  go_ret
  exact ⟨rfl, rfl⟩
theorem insert_none (k : List UInt8) (w : World) :
    Calls Try.prog 15 #[.pointer none, .string (str k)] w fun e w' => e = .returned (.slice none 0 0) ∧ w = w' := by
  go_enter Try.func15, Try.ntmps15
  go_wp2_with fail
  refine (made_nil _).mono ?_
  rintro e w' ⟨rfl, rfl⟩
  go_wp2_with fail
  go_ret
  exact ⟨rfl, rfl⟩
theorem remove_none (k : List UInt8) (w : World) :
    Calls Try.prog 12 #[.pointer none, .string (str k)] w fun e w' => e = .returned (.bool false) ∧ w = w' := by
  go_enter Try.func12, Try.ntmps12
  go_wp2_with fail
  refine (made_nil _).mono ?_
  rintro e w' ⟨rfl, rfl⟩
  go_wp2_with fail
  go_ret
  exact ⟨rfl, rfl⟩
theorem evict_none (w : World) :
    Calls Try.prog 13 #[.pointer none] w fun e w' => e = .returned (.tuple #[.string ⟨#[]⟩, .bool false]) ∧ w = w' := by
  go_enter Try.func13, Try.ntmps13
  go_wp2_with fail
  refine (made_nil _).mono ?_
  rintro e w' ⟨rfl, rfl⟩
  go_wp2_with fail
  go_ret2
  exact ⟨rfl, rfl⟩
theorem seen_none (k : List UInt8) (w : World) :
    Calls Try.prog 20 #[.pointer none, .string (str k)] w fun e w' => e = .returned (.int .i64 0) ∧ w = w' := by
  go_enter Try.func20, Try.ntmps20
  go_wp2_with fail
  refine (made_nil _).mono ?_
  rintro e w' ⟨rfl, rfl⟩
  go_wp2_with fail
  go_ret
  exact ⟨rfl, rfl⟩
theorem export_none (w : World) :
    Calls Try.prog 21 #[.pointer none] w fun e w' => e = .returned (.string ⟨#[]⟩) ∧ w = w' := by
  go_enter Try.func21, Try.ntmps21
  go_wp2_with fail
  refine (made_nil _).mono ?_
  rintro e w' ⟨rfl, rfl⟩
  go_wp2_with fail
  go_ret
  exact ⟨rfl, rfl⟩
/-- 'make([]byte, k)', and the text of it. -/
theorem make_bytes (k : Nat) (hk : k < 281474976710656) : ∃ M : Array Value, (∀ W : World, (Instr.makeSlice 50 (.int .i64 (k : Int)) (.int .i64 (k : Int))).run Try.prog W = .ok (.slice (some ⟨W.heap.size, 0, none⟩) k k) (W.alloc (.cells M 5))) ∧
    (∀ W : World, (convert 50 9 (.slice (some ⟨W.heap.size, 0, none⟩) k k)).run Try.prog (W.alloc (.cells M 5)) = .ok (.string (str (List.replicate k 0))) (W.alloc (.cells M 5))) := by
  obtain ⟨i0, hi, hz0, hz1, hz2⟩ := info_parts Wirey.u8_info
  refine ⟨madeCells (Value.int .u8 0).cells (((k : Nat) : Int).toNat * i0.size), fun W => ?_, fun W => ?_⟩
  · have h := run_make (P := Try.prog) W 50 5 i0 (.int .u8 0) Try.underlying50 hi hz0 .i64 .i64 (k : Int) (k : Int) (by omega) (by omega) (by rw [hz2]; omega) (by omega)
    simpa using h
  · have h := Wirey.row_str W (List.replicate k 0) (madeCells (Value.int .u8 0).cells (((k : Nat) : Int).toNat * i0.size)) (by
      rw [hz1, Int.toNat_natCast, Nat.mul_one]
      apply Array.toList_inj.1
      have := toList_madeCells_one (.int .u8 0) k
      rw [show (Value.int .u8 0).cells = #[.int .u8 0] from rfl, this]
      simp) k
    rw [List.length_replicate] at h
    exact h
theorem lists_none (w : World) :
    Calls Try.prog 16 #[.pointer none] w fun e w' => e = .returned (.agg #[.slice none 0 0, .slice none 0 0, .slice none 0 0]) ∧ Below w.heap.size w w' := by
  have hb := ((Below.refl _ w).alloc (Nat.le_refl _) (.cells #[.slice none 0 0, .slice none 0 0, .slice none 0 0] 42)).alloc (by simp) (.cells #[.slice none 0 0, .slice none 0 0, .slice none 0 0] 42)
  have HB := Lib.hid hb
  clear hb
  go_enter Try.func16, Try.ntmps16
  go_wp2_with fail
  refine (made_nil _).mono ?_
  rintro e w' ⟨rfl, rfl⟩
  go_wp2_with fail
  refine bodyPost_ret (results_cell_row rfl _ _ w.heap.size 42 _ _ _ rfl (((Blk.new w 42 #[.slice none 0 0, .slice none 0 0, .slice none 0 0]).alloc _)) Try.underlying42 rfl (by kernel_rfl)) rfl ⟨rfl, HB.out⟩
/-- A new sketch has seen nothing. -/
theorem new_seen {n seed : Nat} {k : Key} (h : 1 ≤ n) : (Tv.new n seed).seen k = 0 := by
  have hw := wideOf_le h
  have he : Exact (Tv.new n seed).sk ((Tv.new n seed).ks k) 0 := by
    have hlt : ∀ i, (Tv.new n seed).ks k i < wideOf n := fun i => ksOf_lt hw.1 i
    refine ⟨?_, fun i _ => ?_⟩
    · show (List.replicate (wideOf n) false)[(Tv.new n seed).ks k 4]?.getD false = false
      rw [List.getElem?_eq_getElem (by rw [List.length_replicate]; exact hlt 4), List.getElem_replicate]
      rfl
    · show (List.replicate (wideOf n) 0)[(Tv.new n seed).ks k i]?.getD 0 = 0
      rw [List.getElem?_eq_getElem (by rw [List.length_replicate]; exact hlt i), List.getElem_replicate]
      rfl
  exact he.seen (by omega)
set_option maxHeartbeats 4000000 in
set_option maxRecDepth 100000 in
theorem tinyNone_walk (a0 : Int) (_w0 : (Lit.int .i64 a0).wf = true) (a1 : ByteArray) (w1 : a1.size ≤ maxLen) (w : World) :
    Calls Try.prog 6 #[.int .i64 a0, .string a1] w fun e w' => e = .returned (.bool true) ∧ Below w.heap.size w w' := by
  obtain ⟨l1, rfl⟩ : ∃ l, a1 = str l := ⟨_, str_of a1⟩
  rw [str_size] at w1
  obtain ⟨x, hx, hx2⟩ := and_nat a0 2047 11 (by decide) (by omega)
  have hx : bits .and .i64 a0 2047 = (x : Int) := hx
  have hfew := fun W : World => fewT_c l1 w1 W
  obtain ⟨M, hmk, hcv⟩ := make_bytes 65 (by omega)
  have hmk : ∀ W : World, (Instr.makeSlice 50 (.int .i64 65) (.int .i64 65)).run Try.prog W = .ok (.slice (some ⟨W.heap.size, 0, none⟩) 65 65) (W.alloc (.cells M 5)) := hmk
  have hNew : ∀ W : World, ∃ b : Bool, (b = (decide (1 ≤ (x : Int)) && decide ((x : Int) ≤ 1000))) ∧ Calls Try.prog 7 #[.int .i64 (x : Int), .int .u64 1] W fun e w' => ∃ q k, e = .returned (.tuple #[.pointer q, .int .i64 k]) ∧ Below W.heap.size W w' ∧ (k == 0) = b ∧ (q != none) = b := by
    intro W
    by_cases hb : 1 ≤ x ∧ x ≤ 1000
    · refine ⟨true, by simp; omega, (newT_c (n := x) (seed := 1) hb.1 hb.2 (by omega) W).mono ?_⟩
      rintro e w' ⟨A, m, rfl, h⟩
      exact ⟨_, _, rfl, h.below, rfl, rfl⟩
    · refine ⟨false, ?_, (newT_no (n := (x : Int)) (seed := 1) (by omega) W).mono ?_⟩
      · symm
        rw [Bool.eq_false_iff]
        simp
        omega
      · rintro e w' ⟨rfl, rfl⟩
        exact ⟨_, _, rfl, Below.refl _ _, rfl, rfl⟩
  have hlong : (List.replicate 65 (0 : UInt8)).length = 65 := List.length_replicate
  have hins : (Tv.new 3 1).insert (List.replicate 65 0) = Tv.new 3 1 := by unfold Tv.insert; rw [hlong]; rfl
  have hinsK : (Tv.new 3 1).insertK (List.replicate 65 0) = [] := by unfold Tv.insertK; rw [hlong]; rfl
  have hmis : (Tv.new 3 1).miss (List.replicate 65 0) = Tv.new 3 1 := by unfold Tv.miss; rw [hlong]; rfl
  have hI := fun (W W0 : World) (A B P : Nat) (m : Rm) (h : HeldT W0 A B P W m (Tv.new 3 1)) => insertT_c (k := List.replicate 65 0) (by rw [hlong]; unfold maxLen; omega) (Tv.new_ok (by omega) (by omega) (by omega)) h
  have hM := fun (W W0 : World) (A B P : Nat) (m : Rm) (h : HeldT W0 A B P W m (Tv.new 3 1)) => missT_c (k := List.replicate 65 0) (by rw [hlong]; unfold maxLen; omega) h
  have hSe := fun (W W0 : World) (A B P : Nat) (m : Rm) (h : HeldT W0 A B P W m (Tv.new 3 1)) => seenT_c (k := List.replicate 65 0) (by rw [hlong]; omega) h
  rw [hins, hinsK] at hI
  rw [hmis] at hM
  rw [new_seen (by omega)] at hSe
  generalize List.replicate 65 (0 : UInt8) = long at *
  clear hins hinsK hmis hlong
  obtain ⟨b, hb, hN⟩ := hNew w
  clear hNew
  have hN3 := fun W : World => newT_c (n := 3) (seed := 1) (by omega) (by omega) (by omega) W
  have hk3 : (Tv.new 3 1).kept = 0 := rfl
  go_enter Try.func6, Try.ntmps6
  go_wp2_with fail
  refine (hfew _).mono ?_
  rintro e w' ⟨rfl, rfl⟩
  go_wp2_with fail
  refine (miss_none _ _).mono ?_
  rintro e w' ⟨rfl, rfl⟩
  go_wp2_with fail
  refine (evict_none _).mono ?_
  rintro e w' ⟨rfl, rfl⟩
  go_wp2_with fail
  refine hN.mono ?_
  rintro e w1 ⟨q, k, rfl, hb1, hk, hq⟩
  go_wp2_with fail
  refine (hN3 _).mono ?_
  rintro e w2 ⟨A, m, rfl, h2⟩
  go_wp2_with fail
  refine (hI _ _ _ _ _ _ (h2.alloc _)).mono ?_
  rintro e w3 ⟨val, m3, rfl, h3, hS3, hT3⟩
  obtain ⟨va, vc, rfl⟩ := hT3.form
  clear hT3 hS3 h2
  go_wp2_with fail
  refine (hM _ _ _ _ _ _ h3).mono ?_
  rintro e w3' ⟨rfl, h3', -⟩
  clear h3
  go_wp2_with fail
  refine (lists_none _).mono ?_
  rintro e w4 ⟨rfl, hb4⟩
  have h4 := (h3'.later hb4 (Nat.le_refl _)).alloc (.cells #[.slice none 0 0, .slice none 0 0, .slice none 0 0] 42)
  clear h3' hb4
  go_wp2_with fail
  have bk := Blk.new w4 42 #[.slice none 0 0, .slice none 0 0, .slice none 0 0]
  generalize w4.alloc (.cells #[.slice none 0 0, .slice none 0 0, .slice none 0 0] 42) = w5 at *
  refine (awakeT_c _).mono ?_
  rintro e w6 ⟨rfl, hb6⟩
  have h6 := h4.later hb6 (Nat.le_refl _)
  have bk6 := bk.below hb6 bk.lt
  have c0 := bk6.cell 0
  simp only [List.getElem?_toArray, List.getElem?_cons_zero] at c0
  have hL := fun (W : World) (h : HeldT w1 A w1.heap.size (w1.heap.size + 8) W m3 (Tv.new 3 1)) => lenT_c h
  have hL2 := hL _ h6
  have hSe2 := hSe _ _ _ _ _ _ h6
  rw [hk3] at hL2
  have HB := Lib.hid (fun n => hb1.trans ((h6.drewN n).below.mono hb1.size))
  clear h4 hb6 bk bk6 hN hN3 hI hM hSe hL hmk hcv hk3 h6
  have hq2 : q.isSome = b := by cases q <;> exact hq
  have hq3 : q.isNone = !b := by rw [← hq2]; cases q <;> rfl
  go_wp2_with fail
  refine (hfew _).mono ?_
  rintro e w' ⟨rfl, rfl⟩
  go_wp2_with fail
  refine (has_none _ _).mono ?_
  rintro e w' ⟨rfl, rfl⟩
  go_wp2_with fail
  refine (len_none _).mono ?_
  rintro e w' ⟨rfl, rfl⟩
  go_wp2_with fail
  refine (hfew _).mono ?_
  rintro e w' ⟨rfl, rfl⟩
  go_wp2_with fail
  refine (touch_none _ _).mono ?_
  rintro e w' ⟨rfl, rfl⟩
  go_wp2_with fail
  refine (hfew _).mono ?_
  rintro e w' ⟨rfl, rfl⟩
  go_wp2_with fail
  refine (insert_none _ _).mono ?_
  rintro e w' ⟨rfl, rfl⟩
  go_wp2_with fail
  refine (hfew _).mono ?_
  rintro e w' ⟨rfl, rfl⟩
  go_wp2_with fail
  refine (remove_none _ _).mono ?_
  rintro e w' ⟨rfl, rfl⟩
  go_wp2_with fail
  refine (hfew _).mono ?_
  rintro e w' ⟨rfl, rfl⟩
  go_wp2_with fail
  refine (seen_none _ _).mono ?_
  rintro e w' ⟨rfl, rfl⟩
  go_wp2_with fail
  refine (export_none _).mono ?_
  rintro e w' ⟨rfl, rfl⟩
  go_wp2_with fail
  all_goals
    refine hL2.mono ?_
    rintro e w' ⟨rfl, rfl⟩
    go_wp2_with fail
    refine hSe2.mono ?_
    rintro e w' ⟨rfl, n, rfl⟩
    go_wp2_with fail
    go_ret
    exact ⟨rfl, HB.out n⟩
set_option linter.unusedVariables false in
set_option maxRecDepth 100000 in
theorem tinyNone_lifted (os : Os) (started : os.Started) (H : Type) (enc : TypeId × Value → H) :
    ReturnsInHanded {} Try.checked os 6 .any (Rows.tinyNoneSpec.pre6 enc Try.prog Try.f6 Rows.tinyNoneRow.domain false) (Rows.tinyNoneSpec.post enc Try.prog Try.f6 false true false false) := by
  refine returnsInHanded_of_change (C := Try.checked) Kit.own started (by kernel_rfl) Try.func6
    (ChangeSpec.witness6 (enc := enc) (C := Try.checked) false ⟨#[], #[.int .i64 0, .string ⟨#[]⟩], []⟩ 8 (by kernel_rfl) (by kernel_rfl) (by kernel_rfl) (by kernel_rfl)) ?_
  intro W base args ds gs before hval0 hW hcnd _
  have hval : ∀ (j : Nat) t v, Try.f6.params[j]? = some t → args[j]? = some v → Value.okWide Try.prog W .any base t v := hval0
  have hW' := hW
  obtain ⟨p, q, hA0, hV, rfl, hfz, hnd⟩ := hW
  have hA : DataW.TrodAll enc Try.prog W 0 (fun _ => true) true Try.f6.params.toList args.toList ds p := hA0
  rw [Try.params6] at hA hval
  obtain ⟨v0, vs0, d0, ds0, p0, q0, hargs, rfl, rfl, h0, r0⟩ := trodAll_cons hA
  obtain ⟨v1, vs1, d1, ds1, p1, q1, rfl, rfl, rfl, h1, r1⟩ := trodAll_cons r0
  obtain ⟨rfl, rfl, rfl⟩ := trodAll_nil r1
  obtain ⟨rfl, rfl⟩ := trodVars_none hV
  obtain rfl : args = #[v0, v1] := by cases args; simp_all
  obtain ⟨a0, rfl, rfl, rfl, w0⟩ := open_int Try.underlying3 (hval 0 3 v0 rfl rfl) h0
  obtain ⟨a1, rfl, rfl, rfl, w1⟩ := open_string Try.underlying9 (hval 1 9 v1 rfl rfl) h1
  clear hA0 hval0
  refine (tinyNone_walk a0 w0 a1 w1 W).mono fun e W' ⟨he, hg⟩ => ?_
  subst he
  exact ⟨_, rfl, Kit.law_post hW' rfl (by kernel_rfl) rfl (by kernel_rfl) hg⟩

theorem tinyNone_over : Rows.tinyNoneRow.holds Try.pinned (OpenSpec.ofChange Rows.tinyNoneSpec) :=
  OpenClaim.holds_of_wide 6 Try.f6 rfl rfl rfl rfl rfl rfl rfl ⟨rfl, rfl, rfl, rfl, rfl⟩ rfl rfl rfl rfl rfl (by kernel_rfl) Try.func6 (by kernel_rfl)
    (of_decide_eq_true (by kernel_rfl)) (by unfold Func.isWrapper; first | (rw [if_pos (by decide +kernel)]; kernel_rfl) | (rw [if_neg (by decide +kernel)]; exact ⟨rfl, rfl⟩))
    (fun os started H enc _ => tinyNone_lifted os started H enc)

theorem tinyNone_holds : Rows.TinyNoneSaid :=
  tinyNone_over

end Go.Proofs.Ytgfpedcdclgmiaa.Tinyy
