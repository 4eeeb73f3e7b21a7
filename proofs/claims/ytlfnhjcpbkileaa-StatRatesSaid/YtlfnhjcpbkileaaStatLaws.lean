/- Layer 2 (stat): the laws. For every input the call returns true and leaves what it was given as it was: rates (StatRates), averages that move on (StatBlends), numbers between two (StatClamps), thousandths (StatPerMille), the order of all floats (StatOrder), tallies added (StatAdds). No condition. -/
import Derived.Test.YtlfnhjcpbkileaaKit
import Derived.Test.YtlfnhjcpbkileaaStatTallies
import Derived.Lib.SmallJoins
import Derived.Deep.RegionHeld3
namespace Go.Proofs.Ytlfnhjcpbkileaa.Fl
open Go.ChangeShapes Go.WideShapes Go.ChangeAt Go.RowKit Go.ChangeMaps

theorem wf64 {x : Nat} (h : (Lit.float .f64 x).wf = true) : x < 18446744073709551616 := by simpa [Lit.wf] using h
set_option maxHeartbeats 400000 in
theorem statBlends_walk (a0 : Nat) (w0 : (Lit.float .f64 a0).wf = true) (a1 : Nat) (w1 : (Lit.float .f64 a1).wf = true) (a2 : Nat) (w2 : (Lit.float .f64 a2).wf = true) (w : World) :
    Calls Try.prog 4 #[.float .f64 a0, .float .f64 a1, .float .f64 a2] w fun e w' => e = .returned (.bool true) ∧ Below w.heap.size w w' := by
  go_enter Try.func4, Try.ntmps4
  go_wp2_with fail
  refine (awake_c _).mono ?_
  rintro e v1 ⟨rfl, hb1⟩
  go_wp2_with fail
  refine (blend_c a0 a1 a2 (wf64 w0) (wf64 w1) (wf64 w2) _).mono ?_
  rintro e v2 ⟨r, rfl, hr, hr64, hb2⟩
  go_wp2_with fail
  refine (refblend_c a0 a1 a2 (wf64 w0) (wf64 w1) (wf64 w2) _).mono ?_
  rintro e v3 ⟨r', rfl, hr', hr64', hb3⟩
  go_wp2_with fail
  refine (same_c r r' hr64 hr64' _).mono ?_
  rintro e v4 ⟨rfl, rfl⟩
  have hs := sim_rank (blent_sim hr hr')
  rw [hs]
  go_wp2_with fail
  go_ret
  exact ⟨rfl, hb1.trans ((hb2.trans (hb3.mono hb2.size)).mono hb1.size)⟩
set_option maxHeartbeats 400000 in
theorem statClamps_walk (a0 : Nat) (w0 : (Lit.float .f64 a0).wf = true) (a1 : Nat) (w1 : (Lit.float .f64 a1).wf = true) (a2 : Nat) (w2 : (Lit.float .f64 a2).wf = true) (w : World) :
    Calls Try.prog 5 #[.float .f64 a0, .float .f64 a1, .float .f64 a2] w fun e w' => e = .returned (.bool true) ∧ Below w.heap.size w w' := by
  have h0 := wf64 w0
  have h1 := wf64 w1
  have h2 := wf64 w2
  have hg := clamp_lt h0 h1 h2
  have e0 := ord_le h1 h2
  have e1 := ord_ge hg h1
  have e2 := ord_le hg h2
  have hs : sameB (clampOf a0 a1 a2) (clampOf a0 a1 a2) = true := sim_rank (.inl rfl)
  cases g : geB a2 a1
  · rw [g] at e0
    clear e1 e2
    go_enter Try.func5, Try.ntmps5
    go_wp2_with fail
    refine (clamp_c a0 a1 a2 h0 h1 h2 _).mono ?_
    rintro e v1 ⟨rfl, rfl⟩
    go_wp2_with fail
    refine (awake_c _).mono ?_
    rintro e v1 ⟨rfl, hb1⟩
    go_wp2_with fail
    refine (refclamp_c a0 a1 a2 h0 h1 h2 _).mono ?_
    rintro e v2 ⟨rfl, rfl⟩
    go_wp2_with fail
    refine (same_c _ _ hg hg _).mono ?_
    rintro e v2 ⟨rfl, rfl⟩
    go_wp2_with fail
    go_ret
    exact ⟨rfl, hb1⟩
  · obtain ⟨g1, g2⟩ := clamp_in (f := a0) g
    rw [g] at e0
    rw [g1] at e1
    rw [g2] at e2
    go_enter Try.func5, Try.ntmps5
    go_wp2_with fail
    refine (clamp_c a0 a1 a2 h0 h1 h2 _).mono ?_
    rintro e v1 ⟨rfl, rfl⟩
    go_wp2_with fail
    refine (awake_c _).mono ?_
    rintro e v1 ⟨rfl, hb1⟩
    go_wp2_with fail
    refine (refclamp_c a0 a1 a2 h0 h1 h2 _).mono ?_
    rintro e v2 ⟨rfl, rfl⟩
    go_wp2_with fail
    refine (same_c _ _ hg hg _).mono ?_
    rintro e v2 ⟨rfl, rfl⟩
    go_wp2_with fail
    go_ret
    exact ⟨rfl, hb1⟩
set_option maxHeartbeats 400000 in
theorem statPerMille_walk (a0 : Nat) (w0 : (Lit.float .f64 a0).wf = true) (w : World) :
    Calls Try.prog 6 #[.float .f64 a0] w fun e w' => e = .returned (.bool true) ∧ Below w.heap.size w w' := by
  have h0 := wf64 w0
  go_enter Try.func6, Try.ntmps6
  go_wp2_with fail
  refine (awake_c _).mono ?_
  rintro e v1 ⟨rfl, hb1⟩
  go_wp2_with fail
  refine (perMille_c a0 h0 _).mono ?_
  rintro e v2 ⟨rfl, rfl⟩
  go_wp2_with fail
  refine (refperMille_c a0 h0 _).mono ?_
  rintro e v2 ⟨rfl, rfl⟩
  go_wp2_with fail
  go_ret
  exact ⟨by simp, hb1⟩
theorem order_lt (a b : Nat) : decide (orderV a b < 0) = lessB a b := by
  unfold orderV; cases lessB a b <;> cases lessB b a <;> rfl
theorem less_asymm {a b : Nat} (h : lessB a b = true) : lessB b a = false := by
  unfold lessB at *; rw [decide_eq_true_eq] at h; rw [decide_eq_false_iff_not]; omega
theorem order_gt (a b : Nat) : decide (0 < orderV a b) = lessB b a := by
  unfold orderV
  cases h : lessB a b
  · cases lessB b a <;> rfl
  · rw [less_asymm h]; rfl
theorem order_neg (a b : Nat) : orderV b a = -orderV a b := by
  unfold orderV
  cases h : lessB a b
  · cases lessB b a <;> rfl
  · rw [less_asymm h]; rfl
theorem order_cases (a b : Nat) : orderV a b = -1 ∨ orderV a b = 0 ∨ orderV a b = 1 := by
  unfold orderV; split
  · exact .inl rfl
  · split
    · exact .inr (.inr rfl)
    · exact .inr (.inl rfl)
theorem order_trans {a b c : Nat} (h1 : lessB b a = false) (h2 : lessB c b = false) : lessB c a = false := by
  unfold lessB at *; rw [decide_eq_false_iff_not] at *; omega
set_option maxHeartbeats 2000000 in
theorem statOrder_walk (a0 : Nat) (w0 : (Lit.float .f64 a0).wf = true) (a1 : Nat) (w1 : (Lit.float .f64 a1).wf = true) (a2 : Nat) (w2 : (Lit.float .f64 a2).wf = true) (w : World) :
    Calls Try.prog 7 #[.float .f64 a0, .float .f64 a1, .float .f64 a2] w fun e w' => e = .returned (.bool true) ∧ Below w.heap.size w w' := by
  have h0 := wf64 w0
  have h1 := wf64 w1
  have h2 := wf64 w2
  have l1 := order_lt a0 a1
  have l2 := order_gt a0 a1
  have l3 := order_neg a0 a1
  rcases order_cases a0 a1 with hv | hv | hv
  · rw [hv] at l1 l2 l3
    have l1' : lessB a0 a1 = true := l1.symm
    have l2' : lessB a1 a0 = false := l2.symm
    have l3' : orderV a1 a0 = 1 := l3
    clear l1 l2 l3
    cases hcb : lessB a2 a1
    · have hac := order_gt a0 a2
      rw [order_trans l2' hcb] at hac
      have hac2 : orderV a0 a2 ≤ 0 := by rw [decide_eq_false_iff_not] at hac; omega
      have hbc := order_gt a1 a2
      rw [hcb] at hbc
      clear hac
      go_enter Try.func7, Try.ntmps7
      go_wp2_with fail
      refine (order_c a0 a1 h0 h1 _).mono ?_
      rintro e v2 ⟨rfl, rfl⟩
      go_wp2_with fail
      refine (awake_c _).mono ?_
      rintro e v1 ⟨rfl, hb1⟩
      go_wp2_with fail
      refine (less_c a0 a1 h0 h1 _).mono ?_
      rintro e v2 ⟨rfl, rfl⟩
      go_wp2_with fail
      refine (less_c a1 a0 h1 h0 _).mono ?_
      rintro e v2 ⟨rfl, rfl⟩
      go_wp2_with fail
      refine (order_c a1 a0 h1 h0 _).mono ?_
      rintro e v2 ⟨rfl, rfl⟩
      go_wp2_with fail
      refine (order_c a1 a2 h1 h2 _).mono ?_
      rintro e v2 ⟨rfl, rfl⟩
      go_wp2_with fail
      refine (order_c a0 a2 h0 h2 _).mono ?_
      rintro e v2 ⟨rfl, rfl⟩
      go_wp2_with fail
      go_ret
      exact ⟨rfl, hb1⟩
    · have hbc := order_gt a1 a2
      rw [hcb] at hbc
      go_enter Try.func7, Try.ntmps7
      go_wp2_with fail
      refine (order_c a0 a1 h0 h1 _).mono ?_
      rintro e v2 ⟨rfl, rfl⟩
      go_wp2_with fail
      refine (awake_c _).mono ?_
      rintro e v1 ⟨rfl, hb1⟩
      go_wp2_with fail
      refine (less_c a0 a1 h0 h1 _).mono ?_
      rintro e v2 ⟨rfl, rfl⟩
      go_wp2_with fail
      refine (less_c a1 a0 h1 h0 _).mono ?_
      rintro e v2 ⟨rfl, rfl⟩
      go_wp2_with fail
      refine (order_c a1 a0 h1 h0 _).mono ?_
      rintro e v2 ⟨rfl, rfl⟩
      go_wp2_with fail
      refine (order_c a1 a2 h1 h2 _).mono ?_
      rintro e v2 ⟨rfl, rfl⟩
      go_wp2_with fail
      go_ret
      exact ⟨rfl, hb1⟩
  · rw [hv] at l1 l2 l3
    have l1' : lessB a0 a1 = false := l1.symm
    have l2' : lessB a1 a0 = false := l2.symm
    have l3' : orderV a1 a0 = 0 := l3
    clear l1 l2 l3
    cases hcb : lessB a2 a1
    · have hac := order_gt a0 a2
      rw [order_trans l2' hcb] at hac
      have hac2 : orderV a0 a2 ≤ 0 := by rw [decide_eq_false_iff_not] at hac; omega
      have hbc := order_gt a1 a2
      rw [hcb] at hbc
      clear hac
      go_enter Try.func7, Try.ntmps7
      go_wp2_with fail
      refine (order_c a0 a1 h0 h1 _).mono ?_
      rintro e v2 ⟨rfl, rfl⟩
      go_wp2_with fail
      refine (awake_c _).mono ?_
      rintro e v1 ⟨rfl, hb1⟩
      go_wp2_with fail
      refine (less_c a0 a1 h0 h1 _).mono ?_
      rintro e v2 ⟨rfl, rfl⟩
      go_wp2_with fail
      refine (less_c a1 a0 h1 h0 _).mono ?_
      rintro e v2 ⟨rfl, rfl⟩
      go_wp2_with fail
      refine (order_c a1 a0 h1 h0 _).mono ?_
      rintro e v2 ⟨rfl, rfl⟩
      go_wp2_with fail
      refine (order_c a1 a2 h1 h2 _).mono ?_
      rintro e v2 ⟨rfl, rfl⟩
      go_wp2_with fail
      refine (order_c a0 a2 h0 h2 _).mono ?_
      rintro e v2 ⟨rfl, rfl⟩
      go_wp2_with fail
      go_ret
      exact ⟨rfl, hb1⟩
    · have hbc := order_gt a1 a2
      rw [hcb] at hbc
      go_enter Try.func7, Try.ntmps7
      go_wp2_with fail
      refine (order_c a0 a1 h0 h1 _).mono ?_
      rintro e v2 ⟨rfl, rfl⟩
      go_wp2_with fail
      refine (awake_c _).mono ?_
      rintro e v1 ⟨rfl, hb1⟩
      go_wp2_with fail
      refine (less_c a0 a1 h0 h1 _).mono ?_
      rintro e v2 ⟨rfl, rfl⟩
      go_wp2_with fail
      refine (less_c a1 a0 h1 h0 _).mono ?_
      rintro e v2 ⟨rfl, rfl⟩
      go_wp2_with fail
      refine (order_c a1 a0 h1 h0 _).mono ?_
      rintro e v2 ⟨rfl, rfl⟩
      go_wp2_with fail
      refine (order_c a1 a2 h1 h2 _).mono ?_
      rintro e v2 ⟨rfl, rfl⟩
      go_wp2_with fail
      go_ret
      exact ⟨rfl, hb1⟩
  · rw [hv] at l1 l2 l3
    have l1' : lessB a0 a1 = false := l1.symm
    have l2' : lessB a1 a0 = true := l2.symm
    have l3' : orderV a1 a0 = -1 := l3
    clear l1 l2 l3
    go_enter Try.func7, Try.ntmps7
    go_wp2_with fail
    refine (order_c a0 a1 h0 h1 _).mono ?_
    rintro e v2 ⟨rfl, rfl⟩
    go_wp2_with fail
    refine (awake_c _).mono ?_
    rintro e v1 ⟨rfl, hb1⟩
    go_wp2_with fail
    refine (less_c a0 a1 h0 h1 _).mono ?_
    rintro e v2 ⟨rfl, rfl⟩
    go_wp2_with fail
    refine (less_c a1 a0 h1 h0 _).mono ?_
    rintro e v2 ⟨rfl, rfl⟩
    go_wp2_with fail
    refine (order_c a1 a0 h1 h0 _).mono ?_
    rintro e v2 ⟨rfl, rfl⟩
    go_wp2_with fail
    go_ret
    exact ⟨rfl, hb1⟩
theorem zero_quo : floatBits .quo .f64 (floatOfInt .f64 0) (floatOfInt .f64 0) = none := by decide +kernel
theorem ans_same {op : BinOp} {x y r r' : Nat} (h : Ans op x y r) (h' : Ans op x y r') : sameB r r' = true := sim_rank (ans_sim h h' (.inl rfl) (.inl rfl))
theorem fint_lt (n : Int) : floatOfInt .f64 n < 18446744073709551616 := by have := floatOfInt_wf .f64 n; simpa [Lit.wf] using this
theorem rate_in {asked hits r : Nat} (h1 : 1 ≤ asked) (h2 : hits ≤ asked) (h3 : asked < 9223372036854775808) (h : Ans .quo (floatOfInt .f64 (hits : Int)) (floatOfInt .f64 (asked : Int)) r) : r ≤ ONE := by
  rw [fi_eq, fi_eq] at h
  have hf0 : 0 < fi asked := by have := fi_mono h1; rw [fi_one] at this; have := ONE_lt; omega
  obtain ⟨r', e, hr⟩ := quo_le (fi_mono h2) (fi_lt h3) hf0
  rcases h with h | ⟨h, _⟩
  · rw [e] at h; obtain rfl := Option.some_inj.1 h; exact hr
  · rw [e] at h; cases h
theorem rate_word {r : Nat} (h : r ≤ ONE) : geB r 0 = true ∧ geB ONE r = true ∧ 0 ≤ perMil r := by
  have hI := ONE_lt
  have h1 := I_lt_S
  have hn : isNaN r = false := (num_iff r).2 (by rw [Nat.mod_eq_of_lt (by omega)]; omega)
  have hk : key r = (r : Int) := by unfold key; rw [if_pos (by omega)]
  have g1 : geB r 0 = true := by unfold geB; rw [hn, nan_zero, key_zero, hk, decide_eq_true (by omega)]; rfl
  have g2 : geB ONE r = true := by unfold geB; rw [hn, nan_ONE, key_ONE, hk, decide_eq_true (by omega)]; rfl
  refine ⟨g1, g2, ?_⟩
  unfold perMil; rw [g1, g2]
  exact Int.natCast_nonneg _
theorem perMil_nan {r : Nat} (h : isNaN r = true) : perMil r = -1 := by
  unfold perMil geB; rw [h]; rfl
set_option maxHeartbeats 2000000 in
theorem statRates_walk (a0 : Int) (w0 : (Lit.int .i64 a0).wf = true) (a1 : Int) (_ : (Lit.int .i64 a1).wf = true) (w : World) :
    Calls Try.prog 3 #[.int .i64 a0, .int .i64 a1] w fun e w' => e = .returned (.bool true) ∧ Below w.heap.size w w' := by
  have b0 := bounds_i64 w0
  have hq := quo_run
  have hl : ∀ {v1 v2 : World} {x y : Nat}, Below w.heap.size w v1 → Below v1.heap.size v1 v2 → Below w.heap.size w (fw .quo x y v2) := fun k1 k2 =>
    fw_below _ _ _ (k1.trans (k2.mono k1.size)) (Nat.le_trans k1.size k2.size)
  by_cases hz : a0 = 0 ∧ a1 = 0
  · obtain ⟨rfl, rfl⟩ := hz
    go_enter Try.func3, Try.ntmps3
    go_wp2_with fail
    refine (rate_c 0 0 _).mono ?_
    rintro e v1 ⟨r, rfl, hr, hr64, hb1⟩
    have hn : isNaN r = true := by
      rcases hr with h | ⟨_, h⟩
      · rw [zero_quo] at h; cases h
      · exact h
    have hp := perMil_nan hn
    have he := ord_self hr64
    rw [hn] at he
    go_wp2_with fail
    refine (awake_c _).mono ?_
    rintro e v2 ⟨rfl, hb2⟩
    go_wp2_with fail
    refine (same_c r _ hr64 (fr_lt _ _ _ _) _).mono ?_
    rintro e v3 ⟨rfl, rfl⟩
    rw [ans_same hr (fr_ans _ _ _ _)]
    go_wp2_with fail
    refine (perMille_c r hr64 _).mono ?_
    rintro e v3 ⟨rfl, rfl⟩
    go_wp2_with fail
    go_ret
    exact ⟨rfl, hl hb1 hb2⟩
  · have hz1 : a0 = 0 → ¬ a1 = 0 := fun x y => hz ⟨x, y⟩
    by_cases c1 : a0 < 1
    · by_cases c0 : a0 = 0
      · have c2 := hz1 c0
        subst c0
        clear hz hz1
        go_enter Try.func3, Try.ntmps3
        go_wp2_with fail
        refine (rate_c 0 a1 _).mono ?_
        rintro e v1 ⟨r, rfl, hr, hr64, hb1⟩
        go_wp2_with fail
        refine (awake_c _).mono ?_
        rintro e v2 ⟨rfl, hb2⟩
        go_wp2_with fail
        refine (same_c r _ hr64 (fr_lt _ _ _ _) _).mono ?_
        rintro e v3 ⟨rfl, rfl⟩
        rw [ans_same hr (fr_ans _ _ _ _)]
        go_wp2_with fail
        go_ret
        exact ⟨rfl, hl hb1 hb2⟩
      · clear hz hz1
        go_enter Try.func3, Try.ntmps3
        go_wp2_with fail
        refine (rate_c a0 a1 _).mono ?_
        rintro e v1 ⟨r, rfl, hr, hr64, hb1⟩
        go_wp2_with fail
        refine (awake_c _).mono ?_
        rintro e v2 ⟨rfl, hb2⟩
        go_wp2_with fail
        refine (same_c r _ hr64 (fr_lt _ _ _ _) _).mono ?_
        rintro e v3 ⟨rfl, rfl⟩
        rw [ans_same hr (fr_ans _ _ _ _)]
        go_wp2_with fail
        go_ret
        exact ⟨rfl, hl hb1 hb2⟩
    · have c0 : ¬ a0 = 0 := by omega
      clear hz hz1
      by_cases c2 : a1 < 0
      · have c3 : ¬ a1 = 0 := by omega
        go_enter Try.func3, Try.ntmps3
        go_wp2_with fail
        refine (rate_c a0 a1 _).mono ?_
        rintro e v1 ⟨r, rfl, hr, hr64, hb1⟩
        go_wp2_with fail
        refine (awake_c _).mono ?_
        rintro e v2 ⟨rfl, hb2⟩
        go_wp2_with fail
        refine (same_c r _ hr64 (fr_lt _ _ _ _) _).mono ?_
        rintro e v3 ⟨rfl, rfl⟩
        rw [ans_same hr (fr_ans _ _ _ _)]
        go_wp2_with fail
        go_ret
        exact ⟨rfl, hl hb1 hb2⟩
      · by_cases c3 : a0 < a1
        · have c4 : ¬ a1 = 0 := by omega
          go_enter Try.func3, Try.ntmps3
          go_wp2_with fail
          refine (rate_c a0 a1 _).mono ?_
          rintro e v1 ⟨r, rfl, hr, hr64, hb1⟩
          go_wp2_with fail
          refine (awake_c _).mono ?_
          rintro e v2 ⟨rfl, hb2⟩
          go_wp2_with fail
          refine (same_c r _ hr64 (fr_lt _ _ _ _) _).mono ?_
          rintro e v3 ⟨rfl, rfl⟩
          rw [ans_same hr (fr_ans _ _ _ _)]
          go_wp2_with fail
          go_ret
          exact ⟨rfl, hl hb1 hb2⟩
        · skip
          go_enter Try.func3, Try.ntmps3
          go_wp2_with fail
          refine (rate_c a0 a1 _).mono ?_
          rintro e v1 ⟨r, rfl, hr, hr64, hb1⟩
          have hrO := rate_in (asked := a0.toNat) (hits := a1.toNat) (r := r) (by omega) (by omega) (by omega) (by rw [Int.toNat_of_nonneg (by omega), Int.toNat_of_nonneg (by omega)]; exact hr)
          obtain ⟨g1, g2, g3⟩ := rate_word hrO
          have e1 := ord_ge hr64 (show 0 < 18446744073709551616 by omega)
          have e2 : (FloatKind.f64.format.order r 4607182418800017408 == some .lt || FloatKind.f64.format.order r 4607182418800017408 == some .eq) = geB ONE r := ord_le hr64 (by omega)
          rw [g1] at e1; rw [g2] at e2
          go_wp2_with fail
          refine (awake_c _).mono ?_
          rintro e v2 ⟨rfl, hb2⟩
          go_wp2_with fail
          refine (same_c r _ hr64 (fr_lt _ _ _ _) _).mono ?_
          rintro e v3 ⟨rfl, rfl⟩
          rw [ans_same hr (fr_ans _ _ _ _)]
          go_wp2_with fail
          refine (perMille_c r hr64 _).mono ?_
          rintro e v3 ⟨rfl, rfl⟩
          go_wp2_with fail
          go_ret
          exact ⟨rfl, hl hb1 hb2⟩
theorem bcell {W w1 : World} (hb : Below W.heap.size W w1) : (∀ b o, b < W.heap.size → w1.cell? ⟨b, o, none⟩ = W.cell? ⟨b, o, none⟩) ∧ (∀ b o, b < W.heap.size → w1.frozen? ⟨b, o, none⟩ = W.frozen? ⟨b, o, none⟩) :=
  ⟨fun b o h => hb.cell (p := ⟨b, o, none⟩) h, fun b o h => hb.frozen (p := ⟨b, o, none⟩) h⟩
theorem keep6 {w w1 x y : World} {u0 u1 u2 u3 u4 u5 : Value}
    (hS : x.cell? ⟨w.heap.size, 0, none⟩ = some u0 ∧ x.cell? ⟨w.heap.size, 1, none⟩ = some u1 ∧ x.cell? ⟨w.heap.size + 1, 0, none⟩ = some u2 ∧ x.cell? ⟨w.heap.size + 1, 1, none⟩ = some u3 ∧
      x.cell? ⟨w1.heap.size, 0, none⟩ = some u4 ∧ x.cell? ⟨w1.heap.size, 1, none⟩ = some u5 ∧ Below w.heap.size w x ∧ w.heap.size + 1 < w1.heap.size ∧ w1.heap.size < x.heap.size)
    (hb : Below x.heap.size x y) :
    y.cell? ⟨w.heap.size, 0, none⟩ = some u0 ∧ y.cell? ⟨w.heap.size, 1, none⟩ = some u1 ∧ y.cell? ⟨w.heap.size + 1, 0, none⟩ = some u2 ∧ y.cell? ⟨w.heap.size + 1, 1, none⟩ = some u3 ∧
      y.cell? ⟨w1.heap.size, 0, none⟩ = some u4 ∧ y.cell? ⟨w1.heap.size, 1, none⟩ = some u5 ∧ Below w.heap.size w y ∧ w.heap.size + 1 < w1.heap.size ∧ w1.heap.size < y.heap.size := by
  obtain ⟨h0, h1, h2, h3, h4, h5, h6, h7, h8⟩ := hS
  have c := (bcell hb).1
  have z := hb.size
  exact ⟨(c _ _ (by omega)).trans h0, (c _ _ (by omega)).trans h1, (c _ _ (by omega)).trans h2, (c _ _ (by omega)).trans h3, (c _ _ h8).trans h4, (c _ _ h8).trans h5, h6.trans (hb.mono (by omega)), h7, by omega⟩
theorem held6 {w w1 x : World} {u0 u1 u2 u3 u4 u5 : Value}
    (hS : x.cell? ⟨w.heap.size, 0, none⟩ = some u0 ∧ x.cell? ⟨w.heap.size, 1, none⟩ = some u1 ∧ x.cell? ⟨w.heap.size + 1, 0, none⟩ = some u2 ∧ x.cell? ⟨w.heap.size + 1, 1, none⟩ = some u3 ∧
      x.cell? ⟨w1.heap.size, 0, none⟩ = some u4 ∧ x.cell? ⟨w1.heap.size, 1, none⟩ = some u5 ∧ Below w.heap.size w x ∧ w.heap.size + 1 < w1.heap.size ∧ w1.heap.size < x.heap.size) : Below w.heap.size w x :=
  hS.2.2.2.2.2.2.1
set_option maxHeartbeats 2000000 in
theorem statAdds_walk (a : Int) (_ : (Lit.int .i64 a).wf = true) (b : Int) (_ : (Lit.int .i64 b).wf = true) (c : Int) (_ : (Lit.int .i64 c).wf = true) (d : Int) (_ : (Lit.int .i64 d).wf = true) (w : World) :
    Calls Try.prog 8 #[.agg #[.int .i64 a, .int .i64 b], .agg #[.int .i64 c, .int .i64 d]] w fun e w' => e = .returned (.bool true) ∧ Below w.heap.size w w' := by
  have he := eqTally
  have hcomm1 : wrap64 (c + a) = wrap64 (a + c) := by rw [Int.add_comm]
  have hcomm2 : wrap64 (d + b) = wrap64 (b + d) := by rw [Int.add_comm]
  go_enter Try.func8, Try.ntmps8
  go_wp2_with fail
  refine (add_c a b c d _).mono ?_
  rintro e w1 ⟨rfl, hb1⟩
  have hbw : Below w.heap.size w w1 := ((Below.refl _ _).alloc (Nat.le_refl _) _).alloc (by simp) _ |>.trans (hb1.mono (by simp; omega))
  obtain ⟨hc, hf⟩ := bcell hb1
  have hz : w.heap.size + 1 < w1.heap.size := by have := hb1.size; simp at this; omega
  have hlt : w.heap.size < w1.heap.size := by omega
  have c0 : w1.cell? ⟨w.heap.size, 0, none⟩ = some (.int .i64 a) := by rw [hc _ _ (by simp; omega)]; simp
  have c1 : w1.cell? ⟨w.heap.size, 1, none⟩ = some (.int .i64 b) := by rw [hc _ _ (by simp; omega)]; simp
  have c2 : w1.cell? ⟨w.heap.size + 1, 0, none⟩ = some (.int .i64 c) := by rw [hc _ _ (by simp)]; simp
  have c3 : w1.cell? ⟨w.heap.size + 1, 1, none⟩ = some (.int .i64 d) := by rw [hc _ _ (by simp)]; simp
  clear hc hf hb1
  have q1 : IntKind.i64.wrap (a + c) = wrap64 (a + c) := IntWalk.i64_left _
  have q2 : IntKind.i64.wrap (b + d) = wrap64 (b + d) := IntWalk.i64_left _
  have hB : ∀ o, Below w.heap.size w (w1.alloc o).drew := fun o => (hbw.alloc (by omega) o).drew
  go_wp2_with fail
  go_region_held3 (fun w' => w'.cell? ⟨w.heap.size, 0, none⟩ = some (.int .i64 a) ∧ w'.cell? ⟨w.heap.size, 1, none⟩ = some (.int .i64 b) ∧ w'.cell? ⟨w.heap.size + 1, 0, none⟩ = some (.int .i64 c) ∧ w'.cell? ⟨w.heap.size + 1, 1, none⟩ = some (.int .i64 d) ∧ w'.cell? ⟨w1.heap.size, 0, none⟩ = some (.int .i64 (wrap64 (a + c))) ∧ w'.cell? ⟨w1.heap.size, 1, none⟩ = some (.int .i64 (wrap64 (b + d))) ∧ Below w.heap.size w w' ∧ w.heap.size + 1 < w1.heap.size ∧ w1.heap.size < w'.heap.size) (first | exact keep6 (by assumption) (by assumption) | go_keep)
    (first | (go_at_call 10; refine (awake_c _).mono ?_; rintro e v ⟨rfl, hv⟩) | (go_at_call 20; refine (add_c _ _ _ _ _).mono ?_; rintro e v ⟨rfl, hv⟩))
  go_wp2_with fail
  go_ret
  exact ⟨by simp, held6 (by assumption)⟩
set_option linter.unusedVariables false in
set_option maxRecDepth 100000 in
theorem statRates_lifted (os : Os) (started : os.Started) (H : Type) (enc : TypeId × Value → H) :
    ReturnsInHanded {} Try.checked os 3 .any (Rows.statRatesSpec.pre6 enc Try.prog Try.f3 Rows.statRatesRow.domain false) (Rows.statRatesSpec.post enc Try.prog Try.f3 false true false false) := by
  refine returnsInHanded_of_change (C := Try.checked) Kit.own started (by kernel_rfl) Try.func3
    (ChangeSpec.witness6 (enc := enc) (C := Try.checked) false ⟨#[], #[.int .i64 0, .int .i64 0], []⟩ 8 (by kernel_rfl) (by kernel_rfl) (by kernel_rfl) (by kernel_rfl)) ?_
  intro W base args ds gs before hval0 hW hcnd _
  have hval : ∀ (j : Nat) t v, Try.f3.params[j]? = some t → args[j]? = some v → Value.okWide Try.prog W .any base t v := hval0
  have hW' := hW
  obtain ⟨p, q, hA0, hV, rfl, hfz, hnd⟩ := hW
  have hA : DataW.TrodAll enc Try.prog W 0 (fun _ => true) true Try.f3.params.toList args.toList ds p := hA0
  rw [Try.params3] at hA hval
  obtain ⟨v0, vs0, d0, ds0, p0, q0, hargs, rfl, rfl, h0, r0⟩ := trodAll_cons hA
  obtain ⟨v1, vs1, d1, ds1, p1, q1, rfl, rfl, rfl, h1, r1⟩ := trodAll_cons r0
  obtain ⟨rfl, rfl, rfl⟩ := trodAll_nil r1
  obtain ⟨rfl, rfl⟩ := trodVars_none hV
  obtain rfl : args = #[v0, v1] := by cases args; simp_all
  obtain ⟨a0, rfl, rfl, rfl, w0⟩ := open_int Try.underlying2 (hval 0 2 v0 rfl rfl) h0
  obtain ⟨a1, rfl, rfl, rfl, w1⟩ := open_int Try.underlying2 (hval 1 2 v1 rfl rfl) h1
  clear hA0 hval0
  refine (statRates_walk a0 w0 a1 w1 W).mono fun e W' ⟨he, hg⟩ => ?_
  subst he
  exact ⟨_, rfl, Kit.law_post hW' rfl (by kernel_rfl) rfl (by kernel_rfl) hg⟩

theorem statRates_over : Rows.statRatesRow.holds Try.pinned (OpenSpec.ofChange Rows.statRatesSpec) :=
  OpenClaim.holds_of_wide 3 Try.f3 rfl rfl rfl rfl rfl rfl rfl ⟨rfl, rfl, rfl, rfl, rfl⟩ rfl rfl rfl rfl rfl (by kernel_rfl) Try.func3 (by kernel_rfl)
    (of_decide_eq_true (by kernel_rfl)) (by unfold Func.isWrapper; first | (rw [if_pos (by decide +kernel)]; kernel_rfl) | (rw [if_neg (by decide +kernel)]; exact ⟨rfl, rfl⟩))
    (fun os started H enc _ => statRates_lifted os started H enc)

theorem statRates_holds : Rows.StatRatesSaid :=
  statRates_over

set_option linter.unusedVariables false in
set_option maxRecDepth 100000 in
theorem statBlends_lifted (os : Os) (started : os.Started) (H : Type) (enc : TypeId × Value → H) :
    ReturnsInHanded {} Try.checked os 4 .any (Rows.statBlendsSpec.pre6 enc Try.prog Try.f4 Rows.statBlendsRow.domain false) (Rows.statBlendsSpec.post enc Try.prog Try.f4 false true false false) := by
  refine returnsInHanded_of_change (C := Try.checked) Kit.own started (by kernel_rfl) Try.func4
    (ChangeSpec.witness6 (enc := enc) (C := Try.checked) false ⟨#[], #[.float .f64 0, .float .f64 0, .float .f64 0], []⟩ 8 (by kernel_rfl) (by kernel_rfl) (by kernel_rfl) (by kernel_rfl)) ?_
  intro W base args ds gs before hval0 hW hcnd _
  have hval : ∀ (j : Nat) t v, Try.f4.params[j]? = some t → args[j]? = some v → Value.okWide Try.prog W .any base t v := hval0
  have hW' := hW
  obtain ⟨p, q, hA0, hV, rfl, hfz, hnd⟩ := hW
  have hA : DataW.TrodAll enc Try.prog W 0 (fun _ => true) true Try.f4.params.toList args.toList ds p := hA0
  rw [Try.params4] at hA hval
  obtain ⟨v0, vs0, d0, ds0, p0, q0, hargs, rfl, rfl, h0, r0⟩ := trodAll_cons hA
  obtain ⟨v1, vs1, d1, ds1, p1, q1, rfl, rfl, rfl, h1, r1⟩ := trodAll_cons r0
  obtain ⟨v2, vs2, d2, ds2, p2, q2, rfl, rfl, rfl, h2, r2⟩ := trodAll_cons r1
  obtain ⟨rfl, rfl, rfl⟩ := trodAll_nil r2
  obtain ⟨rfl, rfl⟩ := trodVars_none hV
  obtain rfl : args = #[v0, v1, v2] := by cases args; simp_all
  obtain ⟨a0, rfl, rfl, rfl, w0⟩ := open_float Try.underlying22 (hval 0 22 v0 rfl rfl) h0
  obtain ⟨a1, rfl, rfl, rfl, w1⟩ := open_float Try.underlying22 (hval 1 22 v1 rfl rfl) h1
  obtain ⟨a2, rfl, rfl, rfl, w2⟩ := open_float Try.underlying22 (hval 2 22 v2 rfl rfl) h2
  clear hA0 hval0
  refine (statBlends_walk a0 w0 a1 w1 a2 w2 W).mono fun e W' ⟨he, hg⟩ => ?_
  subst he
  exact ⟨_, rfl, Kit.law_post hW' rfl (by kernel_rfl) rfl (by kernel_rfl) hg⟩

theorem statBlends_over : Rows.statBlendsRow.holds Try.pinned (OpenSpec.ofChange Rows.statBlendsSpec) :=
  OpenClaim.holds_of_wide 4 Try.f4 rfl rfl rfl rfl rfl rfl rfl ⟨rfl, rfl, rfl, rfl, rfl⟩ rfl rfl rfl rfl rfl (by kernel_rfl) Try.func4 (by kernel_rfl)
    (of_decide_eq_true (by kernel_rfl)) (by unfold Func.isWrapper; first | (rw [if_pos (by decide +kernel)]; kernel_rfl) | (rw [if_neg (by decide +kernel)]; exact ⟨rfl, rfl⟩))
    (fun os started H enc _ => statBlends_lifted os started H enc)

theorem statBlends_holds : Rows.StatBlendsSaid :=
  statBlends_over

set_option linter.unusedVariables false in
set_option maxRecDepth 100000 in
theorem statClamps_lifted (os : Os) (started : os.Started) (H : Type) (enc : TypeId × Value → H) :
    ReturnsInHanded {} Try.checked os 5 .any (Rows.statClampsSpec.pre6 enc Try.prog Try.f5 Rows.statClampsRow.domain false) (Rows.statClampsSpec.post enc Try.prog Try.f5 false true false false) := by
  refine returnsInHanded_of_change (C := Try.checked) Kit.own started (by kernel_rfl) Try.func5
    (ChangeSpec.witness6 (enc := enc) (C := Try.checked) false ⟨#[], #[.float .f64 0, .float .f64 0, .float .f64 0], []⟩ 8 (by kernel_rfl) (by kernel_rfl) (by kernel_rfl) (by kernel_rfl)) ?_
  intro W base args ds gs before hval0 hW hcnd _
  have hval : ∀ (j : Nat) t v, Try.f5.params[j]? = some t → args[j]? = some v → Value.okWide Try.prog W .any base t v := hval0
  have hW' := hW
  obtain ⟨p, q, hA0, hV, rfl, hfz, hnd⟩ := hW
  have hA : DataW.TrodAll enc Try.prog W 0 (fun _ => true) true Try.f5.params.toList args.toList ds p := hA0
  rw [Try.params5] at hA hval
  obtain ⟨v0, vs0, d0, ds0, p0, q0, hargs, rfl, rfl, h0, r0⟩ := trodAll_cons hA
  obtain ⟨v1, vs1, d1, ds1, p1, q1, rfl, rfl, rfl, h1, r1⟩ := trodAll_cons r0
  obtain ⟨v2, vs2, d2, ds2, p2, q2, rfl, rfl, rfl, h2, r2⟩ := trodAll_cons r1
  obtain ⟨rfl, rfl, rfl⟩ := trodAll_nil r2
  obtain ⟨rfl, rfl⟩ := trodVars_none hV
  obtain rfl : args = #[v0, v1, v2] := by cases args; simp_all
  obtain ⟨a0, rfl, rfl, rfl, w0⟩ := open_float Try.underlying22 (hval 0 22 v0 rfl rfl) h0
  obtain ⟨a1, rfl, rfl, rfl, w1⟩ := open_float Try.underlying22 (hval 1 22 v1 rfl rfl) h1
  obtain ⟨a2, rfl, rfl, rfl, w2⟩ := open_float Try.underlying22 (hval 2 22 v2 rfl rfl) h2
  clear hA0 hval0
  refine (statClamps_walk a0 w0 a1 w1 a2 w2 W).mono fun e W' ⟨he, hg⟩ => ?_
  subst he
  exact ⟨_, rfl, Kit.law_post hW' rfl (by kernel_rfl) rfl (by kernel_rfl) hg⟩

theorem statClamps_over : Rows.statClampsRow.holds Try.pinned (OpenSpec.ofChange Rows.statClampsSpec) :=
  OpenClaim.holds_of_wide 5 Try.f5 rfl rfl rfl rfl rfl rfl rfl ⟨rfl, rfl, rfl, rfl, rfl⟩ rfl rfl rfl rfl rfl (by kernel_rfl) Try.func5 (by kernel_rfl)
    (of_decide_eq_true (by kernel_rfl)) (by unfold Func.isWrapper; first | (rw [if_pos (by decide +kernel)]; kernel_rfl) | (rw [if_neg (by decide +kernel)]; exact ⟨rfl, rfl⟩))
    (fun os started H enc _ => statClamps_lifted os started H enc)

theorem statClamps_holds : Rows.StatClampsSaid :=
  statClamps_over

set_option linter.unusedVariables false in
set_option maxRecDepth 100000 in
theorem statPerMille_lifted (os : Os) (started : os.Started) (H : Type) (enc : TypeId × Value → H) :
    ReturnsInHanded {} Try.checked os 6 .any (Rows.statPerMilleSpec.pre6 enc Try.prog Try.f6 Rows.statPerMilleRow.domain false) (Rows.statPerMilleSpec.post enc Try.prog Try.f6 false true false false) := by
  refine returnsInHanded_of_change (C := Try.checked) Kit.own started (by kernel_rfl) Try.func6
    (ChangeSpec.witness6 (enc := enc) (C := Try.checked) false ⟨#[], #[.float .f64 0], []⟩ 8 (by kernel_rfl) (by kernel_rfl) (by kernel_rfl) (by kernel_rfl)) ?_
  intro W base args ds gs before hval0 hW hcnd _
  have hval : ∀ (j : Nat) t v, Try.f6.params[j]? = some t → args[j]? = some v → Value.okWide Try.prog W .any base t v := hval0
  have hW' := hW
  obtain ⟨p, q, hA0, hV, rfl, hfz, hnd⟩ := hW
  have hA : DataW.TrodAll enc Try.prog W 0 (fun _ => true) true Try.f6.params.toList args.toList ds p := hA0
  rw [Try.params6] at hA hval
  obtain ⟨v0, vs0, d0, ds0, p0, q0, hargs, rfl, rfl, h0, r0⟩ := trodAll_cons hA
  obtain ⟨rfl, rfl, rfl⟩ := trodAll_nil r0
  obtain ⟨rfl, rfl⟩ := trodVars_none hV
  obtain rfl : args = #[v0] := by cases args; simp_all
  obtain ⟨a0, rfl, rfl, rfl, w0⟩ := open_float Try.underlying22 (hval 0 22 v0 rfl rfl) h0
  clear hA0 hval0
  refine (statPerMille_walk a0 w0 W).mono fun e W' ⟨he, hg⟩ => ?_
  subst he
  exact ⟨_, rfl, Kit.law_post hW' rfl (by kernel_rfl) rfl (by kernel_rfl) hg⟩

theorem statPerMille_over : Rows.statPerMilleRow.holds Try.pinned (OpenSpec.ofChange Rows.statPerMilleSpec) :=
  OpenClaim.holds_of_wide 6 Try.f6 rfl rfl rfl rfl rfl rfl rfl ⟨rfl, rfl, rfl, rfl, rfl⟩ rfl rfl rfl rfl rfl (by kernel_rfl) Try.func6 (by kernel_rfl)
    (of_decide_eq_true (by kernel_rfl)) (by unfold Func.isWrapper; first | (rw [if_pos (by decide +kernel)]; kernel_rfl) | (rw [if_neg (by decide +kernel)]; exact ⟨rfl, rfl⟩))
    (fun os started H enc _ => statPerMille_lifted os started H enc)

theorem statPerMille_holds : Rows.StatPerMilleSaid :=
  statPerMille_over

set_option linter.unusedVariables false in
set_option maxRecDepth 100000 in
theorem statOrder_lifted (os : Os) (started : os.Started) (H : Type) (enc : TypeId × Value → H) :
    ReturnsInHanded {} Try.checked os 7 .any (Rows.statOrderSpec.pre6 enc Try.prog Try.f7 Rows.statOrderRow.domain false) (Rows.statOrderSpec.post enc Try.prog Try.f7 false true false false) := by
  refine returnsInHanded_of_change (C := Try.checked) Kit.own started (by kernel_rfl) Try.func7
    (ChangeSpec.witness6 (enc := enc) (C := Try.checked) false ⟨#[], #[.float .f64 0, .float .f64 0, .float .f64 0], []⟩ 8 (by kernel_rfl) (by kernel_rfl) (by kernel_rfl) (by kernel_rfl)) ?_
  intro W base args ds gs before hval0 hW hcnd _
  have hval : ∀ (j : Nat) t v, Try.f7.params[j]? = some t → args[j]? = some v → Value.okWide Try.prog W .any base t v := hval0
  have hW' := hW
  obtain ⟨p, q, hA0, hV, rfl, hfz, hnd⟩ := hW
  have hA : DataW.TrodAll enc Try.prog W 0 (fun _ => true) true Try.f7.params.toList args.toList ds p := hA0
  rw [Try.params7] at hA hval
  obtain ⟨v0, vs0, d0, ds0, p0, q0, hargs, rfl, rfl, h0, r0⟩ := trodAll_cons hA
  obtain ⟨v1, vs1, d1, ds1, p1, q1, rfl, rfl, rfl, h1, r1⟩ := trodAll_cons r0
  obtain ⟨v2, vs2, d2, ds2, p2, q2, rfl, rfl, rfl, h2, r2⟩ := trodAll_cons r1
  obtain ⟨rfl, rfl, rfl⟩ := trodAll_nil r2
  obtain ⟨rfl, rfl⟩ := trodVars_none hV
  obtain rfl : args = #[v0, v1, v2] := by cases args; simp_all
  obtain ⟨a0, rfl, rfl, rfl, w0⟩ := open_float Try.underlying22 (hval 0 22 v0 rfl rfl) h0
  obtain ⟨a1, rfl, rfl, rfl, w1⟩ := open_float Try.underlying22 (hval 1 22 v1 rfl rfl) h1
  obtain ⟨a2, rfl, rfl, rfl, w2⟩ := open_float Try.underlying22 (hval 2 22 v2 rfl rfl) h2
  clear hA0 hval0
  refine (statOrder_walk a0 w0 a1 w1 a2 w2 W).mono fun e W' ⟨he, hg⟩ => ?_
  subst he
  exact ⟨_, rfl, Kit.law_post hW' rfl (by kernel_rfl) rfl (by kernel_rfl) hg⟩

theorem statOrder_over : Rows.statOrderRow.holds Try.pinned (OpenSpec.ofChange Rows.statOrderSpec) :=
  OpenClaim.holds_of_wide 7 Try.f7 rfl rfl rfl rfl rfl rfl rfl ⟨rfl, rfl, rfl, rfl, rfl⟩ rfl rfl rfl rfl rfl (by kernel_rfl) Try.func7 (by kernel_rfl)
    (of_decide_eq_true (by kernel_rfl)) (by unfold Func.isWrapper; first | (rw [if_pos (by decide +kernel)]; kernel_rfl) | (rw [if_neg (by decide +kernel)]; exact ⟨rfl, rfl⟩))
    (fun os started H enc _ => statOrder_lifted os started H enc)

theorem statOrder_holds : Rows.StatOrderSaid :=
  statOrder_over

set_option linter.unusedVariables false in
set_option maxRecDepth 100000 in
theorem statAdds_lifted (os : Os) (started : os.Started) (H : Type) (enc : TypeId × Value → H) :
    ReturnsInHanded {} Try.checked os 8 .any (Rows.statAddsSpec.pre6 enc Try.prog Try.f8 Rows.statAddsRow.domain false) (Rows.statAddsSpec.post enc Try.prog Try.f8 false true false false) := by
  refine returnsInHanded_of_change (C := Try.checked) Kit.own started (by kernel_rfl) Try.func8
    (ChangeSpec.witness6 (enc := enc) (C := Try.checked) false ⟨#[], #[.agg #[.int .i64 0, .int .i64 0], .agg #[.int .i64 0, .int .i64 0]], []⟩ 8 (by kernel_rfl) (by kernel_rfl) (by kernel_rfl) (by kernel_rfl)) ?_
  intro W base args ds gs before hval0 hW hcnd _
  have hval : ∀ (j : Nat) t v, Try.f8.params[j]? = some t → args[j]? = some v → Value.okWide Try.prog W .any base t v := hval0
  have hW' := hW
  obtain ⟨p, q, hA0, hV, rfl, hfz, hnd⟩ := hW
  have hA : DataW.TrodAll enc Try.prog W 0 (fun _ => true) true Try.f8.params.toList args.toList ds p := hA0
  rw [Try.params8] at hA hval
  obtain ⟨v0, vs0, d0, ds0, p0, q0, hargs, rfl, rfl, h0, r0⟩ := trodAll_cons hA
  obtain ⟨v1, vs1, d1, ds1, p1, q1, rfl, rfl, rfl, h1, r1⟩ := trodAll_cons r0
  obtain ⟨rfl, rfl, rfl⟩ := trodAll_nil r1
  obtain ⟨rfl, rfl⟩ := trodVars_none hV
  obtain rfl : args = #[v0, v1] := by cases args; simp_all
  obtain ⟨c0_0, c0_1, y0_0, y0_1, m0, rfl, rfl, rfl, hy0_0, hy0_1⟩ := Joins.open_agg2 Try.underlying25 (by kernel_rfl) (by kernel_rfl) (hval 0 25 v0 rfl rfl) h0
  obtain ⟨a0_0, e0_0, rfl, w0_0⟩ := DataW.trod_int Try.underlying2 hy0_0
  obtain rfl := (List.cons.inj e0_0).1
  obtain ⟨a0_1, e0_1, rfl, w0_1⟩ := DataW.trod_int Try.underlying2 hy0_1
  obtain rfl := (List.cons.inj e0_1).1
  obtain ⟨c1_0, c1_1, y1_0, y1_1, m1, rfl, rfl, rfl, hy1_0, hy1_1⟩ := Joins.open_agg2 Try.underlying25 (by kernel_rfl) (by kernel_rfl) (hval 1 25 v1 rfl rfl) h1
  obtain ⟨a1_0, e1_0, rfl, w1_0⟩ := DataW.trod_int Try.underlying2 hy1_0
  obtain rfl := (List.cons.inj e1_0).1
  obtain ⟨a1_1, e1_1, rfl, w1_1⟩ := DataW.trod_int Try.underlying2 hy1_1
  obtain rfl := (List.cons.inj e1_1).1
  clear hA0 hval0
  refine (statAdds_walk a0_0 w0_0 a0_1 w0_1 a1_0 w1_0 a1_1 w1_1 W).mono fun e W' ⟨he, hg⟩ => ?_
  subst he
  exact ⟨_, rfl, Kit.law_post hW' rfl (by kernel_rfl) rfl (by kernel_rfl) hg⟩

theorem statAdds_over : Rows.statAddsRow.holds Try.pinned (OpenSpec.ofChange Rows.statAddsSpec) :=
  OpenClaim.holds_of_wide 8 Try.f8 rfl rfl rfl rfl rfl rfl rfl ⟨rfl, rfl, rfl, rfl, rfl⟩ rfl rfl rfl rfl rfl (by kernel_rfl) Try.func8 (by kernel_rfl)
    (of_decide_eq_true (by kernel_rfl)) (by unfold Func.isWrapper; first | (rw [if_pos (by decide +kernel)]; kernel_rfl) | (rw [if_neg (by decide +kernel)]; exact ⟨rfl, rfl⟩))
    (fun os started H enc _ => statAdds_lifted os started H enc)

theorem statAdds_holds : Rows.StatAddsSaid :=
  statAdds_over

end Go.Proofs.Ytlfnhjcpbkileaa.Fl
