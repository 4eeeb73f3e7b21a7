/- Layer 12 (store): for every input the call returns true and leaves what it was given as it was: an entry is there for as many ticks as it lives, and not longer; the last tick is never passed (StoreEnds). No condition. -/
import Derived.Test.YtniniaokibnhfaaGreatKit
import Derived.Test.YtniniaokibnhfaaGreatStoreAwakeAll
namespace Go.Proofs.YtniniaokibnhfaaGreat.Storey
open Go.ChangeShapes Go.WideShapes Go.ChangeAt Go.RowKit
open Wirey (Blk Row str str_size str_list Kp)
open Taby (En TabAt Tbl tp find ins drop size ended St)
open Policyy (Pv HeldP StepP Tell)
open Ringy (Key)
open Regy

section
variable {w0 w w' w'' : World} {B b T M C S : Nat} {H H' : Nat → Prop} {s t : Sv} {k : Key} {v : Value} {l : List Key} {o : Opn} {x : Rcd}
def en0 : Sv := Sv.new 2 4 1000 3
def en1 (now t : Nat) : Rcd := ⟨1, now, 1, 1, ⟨2, [107], [118], t, 0⟩⟩
def en2 (later : Nat) : Rcd := ⟨2, later, 1, 2, ⟨1, [107], [], 0, 0⟩⟩
theorem en0_ok : en0.Ok := Sv.new_ok (.inr rfl) (by decide) (by decide) (by decide) (by decide) (by decide)
/-- Behind the first record. -/
def enS (n t : Nat) : Sv := ⟨2, 4, 1000, 3, 1, n, 1, 0, 0, [⟨[107], [118], 1, endOf n t⟩], (Pv.new 2 4 3).insert [107], [⟨1, 1, ⟨0, [], 1⟩⟩]⟩
theorem en1_done (now t : Nat) : en0.done (en1 now t) = (enS (max 0 now) t, ⟨0, [], 1⟩) := by kernel_rfl
theorem en1_is {now t : Nat} (ht : t ≤ 1073741824) : en0.apply (en1 now t) = (enS now t, ⟨0, [], 1⟩, 0) := by
  have hc : (en1 now t).op.chk = true := by
    show Opy.chk 2 [107] [118] t 0 = true
    unfold Opy.chk
    rw [if_neg (by simp; omega)]
    rfl
  unfold Sv.apply
  rw [if_neg (by rw [hc]; decide), if_neg (by show ¬ (1 : Nat) ≠ 0 + 1; omega), en1_done, Nat.zero_max]
/-- Is it still there? -/
def thereB (now t later : Nat) : Bool := decide (later - now < t) && (decide (later < 18446744073709551615) || decide (now = 18446744073709551615))
theorem live_there {now t later : Nat} (h1 : 1 ≤ t) (hn : now < 18446744073709551616) (hl : later < 18446744073709551616) : lives (max now later) ⟨[107], [118], 1, endOf now t⟩ = thereB now t later := by
  unfold lives thereB endOf
  rw [Bool.eq_iff_iff]
  simp only [Bool.not_eq_true', Bool.and_eq_false_iff, Bool.and_eq_true, Bool.or_eq_true, decide_eq_true_eq, decide_eq_false_iff_not]
  by_cases c : t = 0 ∨ now = 18446744073709551615
  · rw [if_pos c]
    omega
  · rw [if_neg c]
    omega
theorem en2_is {now t later : Nat} (h1 : 1 ≤ t) (hn : now < 18446744073709551616) (hl : later < 18446744073709551616) (ho : (enS now t).Ok) : ((enS now t).apply (en2 later)).2 = ((if thereB now t later = true then ⟨0, [118], 1⟩ else .of 2), 0) := by
  have hp : ((enS now t).place 2).Ok := ho.place (by omega)
  obtain ⟨-, hm, hless⟩ := hp.move hl
  have hss : (((enS now t).place 2).moveTo later).ss = [⟨1, 1, ⟨0, [], 1⟩⟩] := hless.f.2.2.2.2.2.2.2.2.2
  have hmm : (((enS now t).place 2).moveTo later).m = if thereB now t later = true then [⟨[107], [118], 1, endOf now t⟩] else [] := by
    rw [hm, ← live_there h1 hn hl]
    show ([⟨[107], [118], 1, endOf now t⟩] : List En).filter (lives (max now later)) = _
    rw [List.filter_cons]
    rfl
  show (((((enS now t).place 2).moveTo later).once (en2 later)).2, 0) = _
  generalize ((enS now t).place 2).moveTo later = sm at hss hmm ⊢
  have hon : sm.once (en2 later) = sm.noted (en2 later) := by unfold Sv.once; rw [hss]; rfl
  have hac : sm.act (en2 later).op = sm.get [107] := if_pos rfl
  rw [hon]
  show ((sm.act (en2 later).op).2, 0) = _
  rw [hac]
  unfold Sv.get
  rw [hmm]
  cases thereB now t later <;> rfl
set_option maxHeartbeats 4000000 in
set_option maxRecDepth 100000 in
theorem storeEnds_walk (a0 : Int) (w0_ : (Lit.int .u64 a0).wf = true) (a1 : Int) (w1_ : (Lit.int .u64 a1).wf = true) (a2 : Int) (w2_ : (Lit.int .u64 a2).wf = true) (w : World) :
    Calls Tryz.prog 7 #[.int .u64 a0, .int .u64 a1, .int .u64 a2] w fun e w' => e = .returned (.bool true) ∧ Below w.heap.size w w' := by
  obtain ⟨now, rfl, hn⟩ : ∃ n : Nat, a0 = (n : Int) ∧ n < 18446744073709551616 := by have := bounds_u64 w0_; exact ⟨a0.toNat, by omega, by omega⟩
  obtain ⟨ttl, rfl, ht⟩ : ∃ n : Nat, a1 = (n : Int) ∧ n < 18446744073709551616 := by have := bounds_u64 w1_; exact ⟨a1.toNat, by omega, by omega⟩
  obtain ⟨later, rfl, hl⟩ : ∃ n : Nat, a2 = (n : Int) ∧ n < 18446744073709551616 := by have := bounds_u64 w2_; exact ⟨a2.toNat, by omega, by omega⟩
  clear w0_ w1_ w2_
  have htt : 1 + ttl % 1073741824 ≤ 1073741824 := by have := Nat.mod_lt ttl (show 0 < 1073741824 by omega); omega
  have ht1 : 1 ≤ 1 + ttl % 1073741824 := by omega
  have hcast : (1 : Int) + (ttl : Int) % 1073741824 = ((1 + ttl % 1073741824 : Nat) : Int) := by omega
  have hN : Calls Tryz.prog 13 #[.agg #[.int .i64 2, .int .i64 4, .int .i64 1000, .int .u64 3]] w fun e w' => ∃ b T M C S H, e = .returned (.tuple #[tp b, .int .i64 0]) ∧ At w w' b T M C S H en0 := newS_c (kind := 2) (n := 4) (bytes := 1000) (seed := 3) (.inr rfl) (by omega) (by omega) (by omega) (by omega) (by omega) w
  generalize hT : 1 + ttl % 1073741824 = t at *
  have hx1 : (en1 now t).Ok := ⟨(by decide : 1 < 18446744073709551616), hn, (by decide : 1 < 18446744073709551616), (by decide : 1 < 18446744073709551616), (by decide : ([107] : List UInt8).length ≤ maxLen), (by decide : ([118] : List UInt8).length ≤ maxLen), (by show t < 18446744073709551616; omega), (by decide : 0 < 18446744073709551616)⟩
  have hx2 : (en2 later).Ok := ⟨(by decide : 2 < 18446744073709551616), hl, (by decide : 1 < 18446744073709551616), (by decide : 2 < 18446744073709551616), (by decide : ([107] : List UInt8).length ≤ maxLen), (by decide : ([] : List UInt8).length ≤ maxLen), (by decide : 0 < 18446744073709551616), (by decide : 0 < 18446744073709551616)⟩
  have he1 := en1_is (now := now) htt
  have hoS : (enS now t).Ok := by have := (en0_ok.apply hx1).1; rw [he1] at this; exact this
  have he2 := en2_is (later := later) ht1 hn hl hoS
  have hA1 : ∀ {w0 w : World} {b T M C S : Nat} {H : Nat → Prop}, At w0 w b T M C S H en0 → Calls Tryz.prog 18 #[tp b, .agg #[.int .u64 1, .int .u64 (now : Int), .int .u64 1, .int .u64 1, .int .i64 2, .string ⟨#[107]⟩, .string ⟨#[118]⟩, .int .u64 (t : Int), .int .u64 0]] w fun e w' => e = .returned (.tuple #[.agg #[.int .i64 0, .string ⟨#[]⟩, .int .u64 1], .int .i64 0]) ∧ ∃ H', At w0 w' b T M C S H' (enS now t) ∧ Stp b T M S w H w' H' := fun h => apply1_a (x := en1 now t) (t := enS now t) (r := ⟨0, [], 1⟩) (n := 0) en0_ok hx1 (by rw [he1]) (by rw [he1]) h
  generalize hr : (if thereB now t later = true then (⟨0, [118], 1⟩ : Rep) else .of 2) = rr at *
  have hA2 : ∀ {w0 w : World} {b T M C S : Nat} {H : Nat → Prop}, At w0 w b T M C S H (enS now t) → Calls Tryz.prog 18 #[tp b, .agg #[.int .u64 2, .int .u64 (later : Int), .int .u64 1, .int .u64 2, .int .i64 1, .string ⟨#[107]⟩, .string ⟨#[]⟩, .int .u64 0, .int .u64 0]] w fun e w' => e = .returned (.tuple #[.agg rr.cs, .int .i64 0]) ∧ ∃ H', At w0 w' b T M C S H' ((enS now t).apply (en2 later)).1 ∧ Stp b T M S w H w' H' := fun h => apply1_a (x := en2 later) (t := ((enS now t).apply (en2 later)).1) (r := rr) (n := 0) hoS hx2 rfl he2 h
  have HR := Lib.hid hr
  generalize ((enS now t).apply (en2 later)).1 = s2 at *
  generalize enS now t = s1 at *
  have htlt : (t : Int) < 18446744073709551616 := by omega
  clear he1 he2 hoS hx1 hx2 hr hT htt
  go_enter Tryz.func7, Tryz.ntmps7
  go_wp2_with fail
  refine hN.mono ?_
  rintro e w1 ⟨b, T, M, C, S, H, rfl, h1⟩
  clear hN
  go_wp2_with fail
  refine (hA1 h1).mono ?_
  rintro e w2 ⟨rfl, H2, h2, s2_⟩
  have hl2 := Loc.new h2 61 #[.int .i64 0, .string ⟨#[]⟩, .int .u64 1]
  replace h2 := h2.alloc (.cells #[.int .i64 0, .string ⟨#[]⟩, .int .u64 1] 61)
  clear hA1 h1 s2_
  go_upto_region 4 with (fail)
  generalize w2.alloc (.cells #[.int .i64 0, .string ⟨#[]⟩, .int .u64 1] 61) = w3 at *
  generalize w2.heap.size = p at *
  go_wp2_with fail
  refine (hA2 h2).mono ?_
  rintro e w4 ⟨rfl, H4, h4, s4⟩
  have hl4 := (hl2.step s4).alloc (.cells rr.cs 61)
  have hq4 := Loc.new h4 61 rr.cs
  replace h4 := h4.alloc (.cells rr.cs 61)
  clear hA2 h2 s4 hl2
  go_upto_region 5 with (fail)
  generalize w4.alloc (.cells rr.cs 61) = w5 at *
  generalize w4.heap.size = q at *
  go_wp2_with fail
  refine (awake_c _).mono ?_
  rintro e w6 ⟨rfl, hb6⟩
  have hbel := h4.since.trans (hb6.mono h4.since.size)
  have x0 : w6.cell? ⟨p, 0, none⟩ = some (.int .i64 0) := (hl4.below hb6).c rfl
  have y0 : w6.cell? ⟨q, 0, none⟩ = some (.int .i64 (rr.e : Int)) := (hq4.below hb6).c rfl
  clear hl4 hq4 h4 hb6
  have hB := Lib.hid hbel
  clear hbel
  by_cases a1 : now < later
  · have d1 : (now : Int) < (later : Int) := by omega
    have e1 : decide ((now : Int) < (later : Int)) = true := decide_eq_true d1
    have hw : IntKind.u64.wrap ((later : Int) - (now : Int)) = (later : Int) - (now : Int) := IntWalk.u64_in _ (by omega)
    by_cases a2 : later - now < t
    · have d2 : (later : Int) - (now : Int) < (t : Int) := by omega
      have e2 : decide ((later : Int) - (now : Int) < (t : Int)) = true := decide_eq_true d2
      by_cases a3 : later < 18446744073709551615
      · have d3 : (later : Int) < 18446744073709551615 := by omega
        have e3 : decide ((later : Int) < 18446744073709551615) = true := decide_eq_true d3
        have hrr : rr = ⟨0, [118], 1⟩ := by
          rw [← HR.out]
          have ht_ : thereB now t later = true := by
            unfold thereB
            rw [Bool.and_eq_true, Bool.or_eq_true, decide_eq_true_eq, decide_eq_true_eq, decide_eq_true_eq]
            omega
          rw [ht_]
          rfl
        subst hrr
        have y1 : w6.cell? ⟨q, 0, none⟩ = some (.int .i64 0) := y0
        clear y0
        go_wp2_with fail
        go_ret
        exact ⟨rfl, hB.out⟩
      · have d4 : ¬ (now : Int) = 18446744073709551615 := by omega
        have e4 : ((now : Int) == 18446744073709551615) = false := beq_eq_false_iff_ne.2 d4
        have d3 : ¬ (later : Int) < 18446744073709551615 := by omega
        have e3 : decide ((later : Int) < 18446744073709551615) = false := decide_eq_false d3
        have hrr : rr = .of 2 := by
          rw [← HR.out]
          have ht_ : thereB now t later = false := by
            unfold thereB
            rw [← Bool.not_eq_true, Bool.and_eq_true, Bool.or_eq_true, decide_eq_true_eq, decide_eq_true_eq, decide_eq_true_eq]
            omega
          rw [ht_]
          rfl
        subst hrr
        have y1 : w6.cell? ⟨q, 0, none⟩ = some (.int .i64 2) := y0
        clear y0
        go_wp2_with fail
        go_ret
        exact ⟨rfl, hB.out⟩
    · have d2 : ¬ (later : Int) - (now : Int) < (t : Int) := by omega
      have e2 : decide ((later : Int) - (now : Int) < (t : Int)) = false := decide_eq_false d2
      have hrr : rr = .of 2 := by
        rw [← HR.out]
        have ht_ : thereB now t later = false := by
          unfold thereB
          rw [← Bool.not_eq_true, Bool.and_eq_true, Bool.or_eq_true, decide_eq_true_eq, decide_eq_true_eq, decide_eq_true_eq]
          omega
        rw [ht_]
        rfl
      subst hrr
      have y1 : w6.cell? ⟨q, 0, none⟩ = some (.int .i64 2) := y0
      clear y0
      go_wp2_with fail
      go_ret
      exact ⟨rfl, hB.out⟩
  · have d1 : ¬ (now : Int) < (later : Int) := by omega
    have e1 : decide ((now : Int) < (later : Int)) = false := decide_eq_false d1
    have e5 : decide (now < later) = false := decide_eq_false a1
    have a5 : later ≤ now := by omega
    have d2 : 0 < t := ht1
    have e2 : decide (0 < t) = true := decide_eq_true d2
    by_cases a3 : later < 18446744073709551615
    · have d3 : (later : Int) < 18446744073709551615 := by omega
      have e3 : decide ((later : Int) < 18446744073709551615) = true := decide_eq_true d3
      have hrr : rr = ⟨0, [118], 1⟩ := by
        rw [← HR.out]
        have ht_ : thereB now t later = true := by
          unfold thereB
          rw [Bool.and_eq_true, Bool.or_eq_true, decide_eq_true_eq, decide_eq_true_eq, decide_eq_true_eq]
          omega
        rw [ht_]
        rfl
      subst hrr
      have y1 : w6.cell? ⟨q, 0, none⟩ = some (.int .i64 0) := y0
      clear y0
      go_wp2_with fail
      go_ret
      exact ⟨rfl, hB.out⟩
    · have a4 : now = 18446744073709551615 := by omega
      have e4 : ((now : Int) == 18446744073709551615) = true := by rw [a4]; rfl
      have d3 : ¬ (later : Int) < 18446744073709551615 := by omega
      have e3 : decide ((later : Int) < 18446744073709551615) = false := decide_eq_false d3
      have hrr : rr = ⟨0, [118], 1⟩ := by
        rw [← HR.out]
        have ht_ : thereB now t later = true := by
          unfold thereB
          rw [Bool.and_eq_true, Bool.or_eq_true, decide_eq_true_eq, decide_eq_true_eq, decide_eq_true_eq]
          omega
        rw [ht_]
        rfl
      subst hrr
      have y1 : w6.cell? ⟨q, 0, none⟩ = some (.int .i64 0) := y0
      clear y0 a4
      go_wp2_with fail
      go_ret
      exact ⟨rfl, hB.out⟩
set_option linter.unusedVariables false in
set_option maxRecDepth 100000 in
theorem storeEnds_lifted (os : Os) (started : os.Started) (H : Type) (enc : TypeId × Value → H) :
    ReturnsInHanded {} Tryz.checked os 7 .any (Rows.storeEndsSpec.pre6 enc Tryz.prog Tryz.f7 Rows.storeEndsRow.domain false) (Rows.storeEndsSpec.post enc Tryz.prog Tryz.f7 false true false false) := by
  refine returnsInHanded_of_change (C := Tryz.checked) Kit.own started (by kernel_rfl) Tryz.func7
    (ChangeSpec.witness6 (enc := enc) (C := Tryz.checked) false ⟨#[], #[.int .u64 0, .int .u64 0, .int .u64 0], []⟩ 8 (by kernel_rfl) (by kernel_rfl) (by kernel_rfl) (by kernel_rfl)) ?_
  intro W base args ds gs before hval0 hW hcnd _
  have hval : ∀ (j : Nat) t v, Tryz.f7.params[j]? = some t → args[j]? = some v → Value.okWide Tryz.prog W .any base t v := hval0
  have hW' := hW
  obtain ⟨p, q, hA0, hV, rfl, hfz, hnd⟩ := hW
  have hA : DataW.TrodAll enc Tryz.prog W 0 (fun _ => true) true Tryz.f7.params.toList args.toList ds p := hA0
  rw [Tryz.params7] at hA hval
  obtain ⟨v0, vs0, d0, ds0, p0, q0, hargs, rfl, rfl, h0, r0⟩ := trodAll_cons hA
  obtain ⟨v1, vs1, d1, ds1, p1, q1, rfl, rfl, rfl, h1, r1⟩ := trodAll_cons r0
  obtain ⟨v2, vs2, d2, ds2, p2, q2, rfl, rfl, rfl, h2, r2⟩ := trodAll_cons r1
  obtain ⟨rfl, rfl, rfl⟩ := trodAll_nil r2
  obtain ⟨rfl, rfl⟩ := trodVars_none hV
  obtain rfl : args = #[v0, v1, v2] := by cases args; simp_all
  obtain ⟨a0, rfl, rfl, rfl, w0⟩ := open_int Tryz.underlying22 (hval 0 22 v0 rfl rfl) h0
  obtain ⟨a1, rfl, rfl, rfl, w1⟩ := open_int Tryz.underlying22 (hval 1 22 v1 rfl rfl) h1
  obtain ⟨a2, rfl, rfl, rfl, w2⟩ := open_int Tryz.underlying22 (hval 2 22 v2 rfl rfl) h2
  clear hA0 hval0
  refine (storeEnds_walk a0 w0 a1 w1 a2 w2 W).mono fun e W' ⟨he, hg⟩ => ?_
  subst he
  exact ⟨_, rfl, Kit.law_post hW' rfl (by kernel_rfl) rfl (by kernel_rfl) hg⟩

theorem storeEnds_over : Rows.storeEndsRow.holds Tryz.pinned (OpenSpec.ofChange Rows.storeEndsSpec) :=
  OpenClaim.holds_of_wide 7 Tryz.f7 rfl rfl rfl rfl rfl rfl rfl ⟨rfl, rfl, rfl, rfl, rfl⟩ rfl rfl rfl rfl rfl (by kernel_rfl) Tryz.func7 (by kernel_rfl)
    (of_decide_eq_true (by kernel_rfl)) (by unfold Func.isWrapper; first | (rw [if_pos (by decide +kernel)]; kernel_rfl) | (rw [if_neg (by decide +kernel)]; exact ⟨rfl, rfl⟩))
    (fun os started H enc _ => storeEnds_lifted os started H enc)

theorem storeEnds_holds : Rows.StoreEndsSaid :=
  storeEnds_over

end
end Go.Proofs.YtniniaokibnhfaaGreat.Storey
