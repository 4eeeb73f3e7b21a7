/- Layer 8 (tiny): for every input the call returns true and leaves what it was given as it was: who was seen more often stays, when one must go: of the last of the window and the last on trial; seen as often the one of the window goes (TinyDuel). No condition. -/
import Derived.Test.YtgfpedcdclgmiaaKit
import Derived.Test.YtgfpedcdclgmiaaTinyLawNone
namespace Go.Proofs.Ytgfpedcdclgmiaa.Tinyy
open Go.ChangeShapes Go.WideShapes Go.ChangeAt Go.RowKit
open Wirey (Blk Row str str_size str_list str_of str_take Kp)
open Ringy

theorem apart7 : (∀ i, i < 5 → kAt 7 [98] i ≠ kAt 7 [97] i) ∧ (∀ i, i < 5 → kAt 7 [99] i ≠ kAt 7 [97] i) ∧ (∀ i, i < 5 → kAt 7 [99] i ≠ kAt 7 [98] i) ∧ (∀ i, i < 5 → kAt 7 [97] i ≠ kAt 7 [98] i) := by decide +kernel
/-- The one was added so often, the other so often. -/
structure Due (v : Tv) (n p q : Nat) (a b : List Key) : Prop where
  y : Young v 7 n
  l : Lie v a b []
  ea : Exact v.sk (kAt 7 [97]) p
  eb : Exact v.sk (kAt 7 [98]) q
theorem due_start : Due ((Tv.new 2 7).insert [97]) 1 1 0 [[97]] [] := by
  have y0 := young_new (seed := 7) (by omega)
  obtain ⟨a1, l1⟩ := ins_first (lie_new 7) (k := [97]) (by decide)
  have s1 : ((Tv.new 2 7).insert [97]).sk = ((Tv.new 2 7).note [97]).sk := by rw [a1]; rfl
  refine ⟨(y0.note (by omega) [97]).of s1 (Tv.insert_ok y0.ok _).1, l1, ?_, ?_⟩
  · rw [s1]; exact y0.same (by omega) (exact_new 7 _) (by omega)
  · rw [s1]; exact y0.other (by omega) (exact_new 7 _) apart7.2.2.2
theorem due_miss {v : Tv} {n p q : Nat} {a b : List Key} (h : Due v n p q a b) (hn : n < 159) (hp : p < 16) : Due (v.miss [97]) (n + 1) (p + 1) q a b := by
  have e : v.miss [97] = v.note [97] := if_neg (by decide)
  rw [e]
  exact ⟨h.y.note hn _, h.l.note _, h.y.same hn h.ea hp, h.y.other hn h.eb apart7.2.2.2⟩
theorem due_second {v : Tv} {n p q : Nat} (h : Due v n p q [[97]] []) (hn : n < 159) (hq : q < 16) : Due (v.insert [98]) (n + 1) p (q + 1) [[98]] [[97]] := by
  obtain ⟨s, l⟩ := ins_second (v := v) (k := [98]) h.l (by decide) (by decide)
  refine ⟨(h.y.note hn [98]).of s (Tv.insert_ok h.y.ok _).1, l, ?_, ?_⟩
  · rw [s]; exact h.y.other hn h.ea apart7.1
  · rw [s]; exact h.y.same hn h.eb hq
theorem due_touch {v : Tv} {n p q : Nat} (h : Due v n p q [[98]] [[97]]) (hn : n < 159) (hq : q < 16) : Due (v.touch [98]) (n + 1) p (q + 1) [[98]] [[97]] ∧ v.has [98] = true := by
  obtain ⟨s, hh, l⟩ := touch_first (v := v) (k := [98]) h.l (by simp) (by simp)
  refine ⟨⟨(h.y.note hn [98]).of s (Tv.touch_spec h.y.ok _).1, l, ?_, ?_⟩, hh⟩
  · rw [s]; exact h.y.other hn h.ea apart7.1
  · rw [s]; exact h.y.same hn h.eb hq
theorem due_third {v : Tv} {n p q : Nat} (h : Due v n p q [[98]] [[97]]) (hn : n < 159) (hp : p ≤ 16) (hq : q ≤ 16) : v.insertK [99] = (if q ≤ p then [[98]] else [[97]]) ∧ (v.insert [99]).has [99] = true := by
  obtain ⟨-, g, l⟩ := ins_third (v := v) (k := [99]) (x := [97]) (y := [98]) h.l (by decide) (by decide) (by decide) (by decide)
  have yn := h.y.note hn [99]
  rw [yn.seen (h.y.other hn h.ea apart7.2.1) hp, yn.seen (h.y.other hn h.eb apart7.2.2.1) hq] at g
  exact ⟨g, by unfold Tv.has; rw [l.at_]; rfl⟩
set_option maxHeartbeats 8000000 in
set_option maxRecDepth 100000 in
theorem tinyDuel_walk (a0 : Int) (_w0 : (Lit.int .i64 a0).wf = true) (a1 : Int) (_w1 : (Lit.int .i64 a1).wf = true) (w : World) :
    Calls Try.prog 5 #[.int .i64 a0, .int .i64 a1] w fun e w' => e = .returned (.bool true) ∧ Below w.heap.size w w' := by
  obtain ⟨p, hp, hp2⟩ := and_nat a0 7 3 (by decide) (by omega)
  have hp : bits .and .i64 a0 7 = (p : Int) := hp
  obtain ⟨q, hq, hq2⟩ := and_nat a1 7 3 (by decide) (by omega)
  have hq : bits .and .i64 a1 7 = (q : Int) := hq
  have hN := newT_c (n := 2) (seed := 7) (by omega) (by omega) (by omega) w
  have k0 : str [97] = ⟨#[97]⟩ := rfl
  have k1 : str [98] = ⟨#[98]⟩ := rfl
  have k2 : str [99] = ⟨#[99]⟩ := rfl
  have hk : ∀ c : UInt8, ([c] : Key).length ≤ maxLen := fun c => by unfold maxLen; simp
  have i0 := fun (W : World) (A : Nat) (m : Rm) (h : HeldT w A w.heap.size (w.heap.size + 8) W m (Tv.new 2 7)) => insertT_c (k := [97]) (hk _) (Tv.new_ok (by omega) (by omega) (by omega)) h
  have i1 := fun (W : World) (A : Nat) (m : Rm) (v : Tv) (h : HeldT w A w.heap.size (w.heap.size + 8) W m v) => missT_c (k := [97]) (hk _) h
  have i2 := fun (W : World) (A : Nat) (m : Rm) (v : Tv) (hv : v.Ok) (h : HeldT w A w.heap.size (w.heap.size + 8) W m v) => insertT_c (k := [98]) (hk _) hv h
  have i3 := fun (W : World) (A : Nat) (m : Rm) (v : Tv) (hv : v.Ok) (h : HeldT w A w.heap.size (w.heap.size + 8) W m v) => touchT_c (k := [98]) (hk _) hv h
  have i4 := fun (W : World) (A : Nat) (m : Rm) (v : Tv) (h : HeldT w A w.heap.size (w.heap.size + 8) W m v) => seenT_c (k := [97]) (by decide) h
  have i5 := fun (W : World) (A : Nat) (m : Rm) (v : Tv) (h : HeldT w A w.heap.size (w.heap.size + 8) W m v) => seenT_c (k := [98]) (by decide) h
  have i6 := fun (W : World) (A : Nat) (m : Rm) (v : Tv) (hv : v.Ok) (h : HeldT w A w.heap.size (w.heap.size + 8) W m v) => insertT_c (k := [99]) (hk _) hv h
  have i7 := fun (W : World) (A : Nat) (m : Rm) (v : Tv) (h : HeldT w A w.heap.size (w.heap.size + 8) W m v) => has_t (k := [99]) (hk _) h
  rw [k0] at i0 i1 i4
  rw [k1] at i2 i3 i5
  rw [k2] at i6 i7
  clear hk k2
  have K0 := Lib.hid k0
  have K1 := Lib.hid k1
  clear k0 k1
  go_enter Try.func5, Try.ntmps5
  go_wp2_with fail
  refine hN.mono ?_
  rintro e w1 ⟨A, m, rfl, h1⟩
  go_wp2_with fail
  refine (awakeT_c _).mono ?_
  rintro e w2 ⟨rfl, hb2⟩
  have h2 := h1.later hb2 (Nat.le_refl _)
  clear h1 hb2 hN
  go_wp2_with fail
  refine (i0 _ _ _ h2).mono ?_
  rintro e w3 ⟨val, m3, rfl, h3, -, -⟩
  have D3 := due_start
  generalize (Tv.new 2 7).insert [97] = v3 at *
  clear h2 i0
  go_wp2_with fail
  go_loopw [9] (fun i wr => ∃ (j : Nat) (m : Rm) (v : Tv), j ≤ p ∧ i = .int .i64 j ∧ HeldT w A w.heap.size (w.heap.size + 8) wr m v ∧ Due v (1 + j) (1 + j) 0 [[97]] []) (fun i _ => p - (intOf i).toNat)
  case atStart => exact ⟨0, m3, v3, by omega, rfl, h3, D3⟩
  case round =>
    obtain ⟨j, m4, v4, hj, rfl, h4, D4⟩ := hrel
    by_cases hlt : j < p
    · have d1 : decide ((j : Int) < (p : Int)) = true := decide_eq_true (by omega)
      have hn := i1 _ _ _ _ h4
      have D5 := due_miss D4 (by omega) (by omega)
      go_wp2_with fail
      refine hn.mono ?_
      rintro e w5 ⟨rfl, h5, -⟩
      go_wp2_with fail
      go_roundw
      case rel => exact ⟨j + 1, _, _, by omega, by simp, h5, D5⟩
      case measure => simp [intOf]; omega
    · have d1 : decide ((j : Int) < (p : Int)) = false := decide_eq_false (by omega)
      obtain rfl : j = p := by omega
      have D5 := due_second D4 (by omega) (by omega)
      have hn := i2 _ _ _ _ D4.y.ok h4
      clear h3 D3 i1 i2
      go_wp2_with fail
      refine hn.mono ?_
      rintro e w5 ⟨val5, m5, rfl, h5, -, -⟩
      generalize v4.insert [98] = v5 at *
      clear h4 D4
      generalize wr = w20 at *
      go_wp2_with fail
      go_loopw [10] (fun i wr => ∃ (l : Nat) (m : Rm) (v : Tv), l ≤ q ∧ i = .int .i64 l ∧ HeldT w A w.heap.size (w.heap.size + 8) wr m v ∧ Due v (1 + j + 1 + l) (1 + j) (1 + l) [[98]] [[97]]) (fun i _ => q - (intOf i).toNat)
      case atStart => exact ⟨0, m5, v5, by omega, rfl, h5, D5⟩
      case round =>
        obtain ⟨l, m6, v6, hl, rfl, h6, D6⟩ := hrel
        clear h5 D5
        by_cases hlt2 : l < q
        · have d2 : decide ((l : Int) < (q : Int)) = true := decide_eq_true (by omega)
          obtain ⟨D7, hh⟩ := due_touch D6 (by omega) (by omega)
          have hn := i3 _ _ _ _ D6.y.ok h6
          rw [hh] at hn
          go_wp2_with fail
          refine hn.mono ?_
          rintro e w7 ⟨rfl, m7, h7, -⟩
          go_wp2_with fail
          go_roundw
          case rel => exact ⟨l + 1, _, _, by omega, by simp, h7, D7⟩
          case measure => simp [intOf]; omega
        · have d2 : decide ((l : Int) < (q : Int)) = false := decide_eq_false (by omega)
          obtain rfl : l = q := by omega
          obtain ⟨g, hc⟩ := due_third D6 (by omega) (by omega) (by omega)
          have sa := D6.y.seen D6.ea (by omega)
          have sb := D6.y.seen D6.eb (by omega)
          have n4 := i4 _ _ _ _ h6
          have n6 := fun (W : World) (hW : HeldT w A w.heap.size (w.heap.size + 8) W m6 v6) => i6 W A m6 v6 D6.y.ok hW
          have n7 := fun (W : World) (m : Rm) (hW : HeldT w A w.heap.size (w.heap.size + 8) W m (v6.insert [99])) => i7 W A m _ hW
          rw [sa] at n4
          rw [hc] at n7
          rw [g] at n6
          have n5 := fun (W : World) (hW : HeldT w A w.heap.size (w.heap.size + 8) W m6 v6) => i5 W A m6 v6 hW
          rw [sb] at n5
          clear i3 i4 i5 i6 i7 g hc sa sb D6
          go_wp2_with fail
          refine n4.mono ?_
          rintro e w' ⟨rfl, n1, rfl⟩
          go_wp2_with fail
          refine (n5 _ (h6.drewN n1)).mono ?_
          rintro e w' ⟨rfl, n2, rfl⟩
          have h7 := h6.drewN (n1 + n2)
          go_wp2_with fail
          refine (n6 _ h7).mono ?_
          rintro e w8 ⟨val, m8, rfl, h8, -, hT⟩
          clear n4 n5 n6 h7 h6
          by_cases hgt : j < l
          · have d3 : decide ((1 : Int) + (j : Int) < 1 + (l : Int)) = true := decide_eq_true (by omega)
            rw [if_neg (by omega)] at hT
            obtain ⟨g, c, rfl, hc⟩ := hT.first
            rw [K0.out] at hc
            go_wp2_with fail
            refine (n7 _ _ h8).mono ?_
            rintro e w' ⟨rfl, rfl⟩
            go_wp2_with fail
            go_ret
            exact ⟨rfl, h8.below⟩
          · have d3 : decide ((1 : Int) + (j : Int) < 1 + (l : Int)) = false := decide_eq_false (by omega)
            rw [if_pos (by omega)] at hT
            obtain ⟨g, c, rfl, hc⟩ := hT.first
            rw [K1.out] at hc
            go_wp2_with fail
            refine (n7 _ _ h8).mono ?_
            rintro e w' ⟨rfl, rfl⟩
            go_wp2_with fail
            go_ret
            exact ⟨rfl, h8.below⟩
set_option linter.unusedVariables false in
set_option maxRecDepth 100000 in
theorem tinyDuel_lifted (os : Os) (started : os.Started) (H : Type) (enc : TypeId × Value → H) :
    ReturnsInHanded {} Try.checked os 5 .any (Rows.tinyDuelSpec.pre6 enc Try.prog Try.f5 Rows.tinyDuelRow.domain false) (Rows.tinyDuelSpec.post enc Try.prog Try.f5 false true false false) := by
  refine returnsInHanded_of_change (C := Try.checked) Kit.own started (by kernel_rfl) Try.func5
    (ChangeSpec.witness6 (enc := enc) (C := Try.checked) false ⟨#[], #[.int .i64 0, .int .i64 0], []⟩ 8 (by kernel_rfl) (by kernel_rfl) (by kernel_rfl) (by kernel_rfl)) ?_
  intro W base args ds gs before hval0 hW hcnd _
  have hval : ∀ (j : Nat) t v, Try.f5.params[j]? = some t → args[j]? = some v → Value.okWide Try.prog W .any base t v := hval0
  have hW' := hW
  obtain ⟨p, q, hA0, hV, rfl, hfz, hnd⟩ := hW
  have hA : DataW.TrodAll enc Try.prog W 0 (fun _ => true) true Try.f5.params.toList args.toList ds p := hA0
  rw [Try.params5] at hA hval
  obtain ⟨v0, vs0, d0, ds0, p0, q0, hargs, rfl, rfl, h0, r0⟩ := trodAll_cons hA
  obtain ⟨v1, vs1, d1, ds1, p1, q1, rfl, rfl, rfl, h1, r1⟩ := trodAll_cons r0
  obtain ⟨rfl, rfl, rfl⟩ := trodAll_nil r1
  obtain ⟨rfl, rfl⟩ := trodVars_none hV
  obtain rfl : args = #[v0, v1] := by cases args; simp_all
  obtain ⟨a0, rfl, rfl, rfl, w0⟩ := open_int Try.underlying3 (hval 0 3 v0 rfl rfl) h0
  obtain ⟨a1, rfl, rfl, rfl, w1⟩ := open_int Try.underlying3 (hval 1 3 v1 rfl rfl) h1
  clear hA0 hval0
  refine (tinyDuel_walk a0 w0 a1 w1 W).mono fun e W' ⟨he, hg⟩ => ?_
  subst he
  exact ⟨_, rfl, Kit.law_post hW' rfl (by kernel_rfl) rfl (by kernel_rfl) hg⟩

theorem tinyDuel_over : Rows.tinyDuelRow.holds Try.pinned (OpenSpec.ofChange Rows.tinyDuelSpec) :=
  OpenClaim.holds_of_wide 5 Try.f5 rfl rfl rfl rfl rfl rfl rfl ⟨rfl, rfl, rfl, rfl, rfl⟩ rfl rfl rfl rfl rfl (by kernel_rfl) Try.func5 (by kernel_rfl)
    (of_decide_eq_true (by kernel_rfl)) (by unfold Func.isWrapper; first | (rw [if_pos (by decide +kernel)]; kernel_rfl) | (rw [if_neg (by decide +kernel)]; exact ⟨rfl, rfl⟩))
    (fun os started H enc _ => tinyDuel_lifted os started H enc)

theorem tinyDuel_holds : Rows.TinyDuelSaid :=
  tinyDuel_over


end Go.Proofs.Ytgfpedcdclgmiaa.Tinyy
