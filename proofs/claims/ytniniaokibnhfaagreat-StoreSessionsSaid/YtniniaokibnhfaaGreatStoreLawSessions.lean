/- Layer 12 (store): for every input the call returns true and leaves what it was given as it was: so many sessions there are, and no more: a further one is told so, and changes nothing (StoreSessions). No condition. -/
import Derived.Test.YtniniaokibnhfaaGreatStoreKnownAll
namespace Go.Proofs.YtniniaokibnhfaaGreat.Storey
open Go.ChangeShapes Go.WideShapes Go.ChangeAt Go.RowKit
open Wirey (Blk Row str str_size str_list Kp)
open Taby (En TabAt Tbl tp find ins drop size ended St)
open Policyy (Pv HeldP StepP Tell)
open Ringy (Key)
open Regy

section
variable {w0 w w' w'' : World} {B b T M C S : Nat} {H H' : Nat → Prop} {s t : Sv} {k : Key} {v : Value} {l : List Key} {o : Opn} {x : Rcd}
def se0 : Sv := Sv.new 1 4 1000 0
def seR (key : Key) (i : Nat) : Rcd := ⟨i + 1, 0, i, 1, ⟨2, key, [118], 0, 0⟩⟩
/-- Behind so many sessions. -/
structure Sn (key : Key) (s : Sv) (i : Nat) : Prop where
  ok : s.Ok
  seq : s.seq = i
  now : s.now = 0
  ver : s.ver = min i 64
  bytes : s.bytes = 1000
  m : s.m = if i = 0 then [] else [⟨key, [118], min i 64, 0⟩]
  len : s.ss.length = min i 64
  ids : ∀ y ∈ s.ss, y.id < min i 64
  new : i = 0 → s.p.insertK key = []
theorem se_start (key : Key) : Sn key se0 0 :=
  ⟨Sv.new_ok (.inl rfl) (by decide) (by decide) (by decide) (by decide) (by decide), rfl, rfl, rfl, rfl, rfl, rfl, fun y hy => (nomatch hy), fun _ => by
    show (if 64 < key.length then [] else (Arcy.Av.new 4).insK key) = []
    split
    · rfl
    · rfl⟩
theorem sn_next {key : Key} {s : Sv} {i : Nat} (hk1 : 0 < key.length) (hk : key.length ≤ 64) (h : Sn key s i) (hi : i < 1000) : Sn key (s.apply (seR key i)).1 (i + 1) ∧ (s.apply (seR key i)).2 = ((if i < 64 then ⟨0, [], i + 1⟩ else .of 3), 0) := by
  have hx : (seR key i).Ok := ⟨(by show i + 1 < _; omega), (by show (0 : Nat) < _; omega), (by show i < _; omega), (by show (1 : Nat) < _; omega), (by show key.length ≤ maxLen; unfold maxLen; omega), (by show (1 : Nat) ≤ maxLen; decide), (by show (0 : Nat) < _; omega), (by show (0 : Nat) < _; omega)⟩
  have hc : (seR key i).op.chk = true := by
    show Opy.chk 2 key [118] 0 0 = true
    unfold Opy.chk
    rw [if_neg (by simp; omega), if_neg (by decide), if_pos rfl]
    cases key with
    | nil => cases hk1
    | cons a l => rfl
  have hok := (h.ok.apply hx).1
  obtain ⟨hmo, hmm, hle⟩ := (h.ok.place (q := i + 1) (by omega)).move (now := 0) (by omega)
  obtain ⟨f1, f2, f3, f4, f5, f6, f7, f8, f9, f10⟩ := hle.f
  have hA : s.apply (seR key i) = ((((s.place (i + 1)).moveTo 0).once (seR key i)).1, (((s.place (i + 1)).moveTo 0).once (seR key i)).2, 0) := by
    unfold Sv.apply
    rw [if_neg (by rw [hc]; decide), if_neg (by rw [h.seq]; exact fun e => e rfl)]
    rfl
  have hnow : ((s.place (i + 1)).moveTo 0).now = 0 := by rw [f6]; show max s.now 0 = 0; rw [h.now]; rfl
  have hmoved : ((s.place (i + 1)).moveTo 0).m = s.m := by
    rw [hmm]
    show s.m.filter _ = s.m
    refine List.filter_eq_self.2 fun y hy => ?_
    rw [h.m] at hy
    split at hy
    · cases hy
    · rcases List.mem_singleton.1 hy with rfl
      rfl
  have hp : i = 0 → ((s.place (i + 1)).moveTo 0).p = s.p := fun e => by
    have : s.m = [] := by rw [h.m, if_pos e]
    show ((ended (max s.now 0) s.m).foldl Sv.away _).p = _
    rw [this]
    rfl
  rw [hA] at hok ⊢
  clear hA hmm hle
  have hss : ((s.place (i + 1)).moveTo 0).ss = s.ss := f10
  have hver : ((s.place (i + 1)).moveTo 0).ver = s.ver := f7
  have hseq : ((s.place (i + 1)).moveTo 0).seq = i + 1 := f5
  have hby : ((s.place (i + 1)).moveTo 0).bytes = s.bytes := f3
  clear f1 f2 f3 f4 f5 f6 f7 f8 f9 f10
  generalize (s.place (i + 1)).moveTo 0 = t at *
  have hsk : seek i t.ss = none := seek_none.2 fun y hy => by rw [hss] at hy; have := h.ids y hy; omega
  by_cases hi64 : i < 64
  · rw [if_pos hi64]
    have hon : t.once (seR key i) = t.noted (seR key i) := by
      unfold Sv.once
      rw [show (seR key i).ses = i from rfl, hsk]
      exact if_neg (by rw [hss, h.len]; omega)
    have hput : t.act (seR key i).op = t.put ⟨2, key, [118], 0, 0⟩ := rfl
    have hK : t.p.insertK key = [] := by
      rcases Nat.eq_zero_or_pos i with h0 | h0
      · rw [hp h0]; exact h.new h0
      · refine known_no hmo.fit hk ?_
        rw [hmo.has, hmoved, h.m, if_neg (by omega)]
        simp [Taby.find]
    have hv : one t.ver 18446744073709551615 = i + 1 := by rw [hver, h.ver, one_lt (by omega)]; omega
    have hcm : (t.come ⟨2, key, [118], 0, 0⟩).m = [⟨key, [118], i + 1, 0⟩] := by
      show ((t.p.insertK key).foldl Sv.fall _).m = _
      rw [hK]
      show ins ⟨key, [118], one t.ver 18446744073709551615, endOf t.now 0⟩ t.m = _
      rw [hv, hmoved, h.m, show endOf t.now 0 = 0 from if_pos (.inl rfl)]
      split
      · rfl
      · simp [Taby.ins, Taby.less_irr]
    have hfit : Sv.fit (t.come ⟨2, key, [118], 0, 0⟩).m.length (t.come ⟨2, key, [118], 0, 0⟩) = t.come ⟨2, key, [118], 0, 0⟩ := by
      refine fit_done ?_
      rw [hcm]
      show key.length + 1 + 0 ≤ (t.come ⟨2, key, [118], 0, 0⟩).bytes
      rw [(hmo.toBase.come (o := ⟨2, key, [118], 0, 0⟩) hk hk1 (by show (1 : Nat) ≤ 4096; omega)).2.2]
      show _ ≤ t.bytes
      rw [hby, h.bytes]
      omega
    have hcs := (hmo.toBase.come (o := ⟨2, key, [118], 0, 0⟩) hk hk1 (by show (1 : Nat) ≤ 4096; omega)).2.2
    have hpp : t.put ⟨2, key, [118], 0, 0⟩ = (t.come ⟨2, key, [118], 0, 0⟩, ⟨0, [], i + 1⟩) := by
      unfold Sv.put
      rw [if_neg (by show ¬ t.bytes < key.length + 1; rw [hby, h.bytes]; omega), hfit, hv]
    have hno : t.noted (seR key i) = ((t.come ⟨2, key, [118], 0, 0⟩).note ⟨i, 1, ⟨0, [], i + 1⟩⟩, ⟨0, [], i + 1⟩) := by
      unfold Sv.noted
      rw [hput, hpp]
      rfl
    rw [hon, hno] at hok ⊢
    have e1 : (t.come ⟨2, key, [118], 0, 0⟩).ss = s.ss := by rw [hcs]; exact hss
    refine ⟨⟨hok, ?_, ?_, ?_, ?_, ?_, ?_, ?_, fun e => by omega⟩, rfl⟩
    · show (t.come ⟨2, key, [118], 0, 0⟩).seq = _; rw [hcs]; exact hseq
    · show (t.come ⟨2, key, [118], 0, 0⟩).now = _; rw [hcs]; exact hnow
    · show (t.come ⟨2, key, [118], 0, 0⟩).ver = _; rw [hcs]; show one t.ver _ = _; rw [hv]; omega
    · show (t.come ⟨2, key, [118], 0, 0⟩).bytes = _; rw [hcs]; show t.bytes = _; rw [hby, h.bytes]
    · show (t.come ⟨2, key, [118], 0, 0⟩).m = _; rw [hcm, if_neg (by omega), show min (i + 1) 64 = i + 1 by omega]
    · show (lay ⟨i, 1, ⟨0, [], i + 1⟩⟩ (t.come ⟨2, key, [118], 0, 0⟩).ss).length = _
      rw [lay_new (by rw [e1, ← hss]; exact hsk), e1, h.len]; omega
    · intro y hy
      have hy' : y ∈ lay ⟨i, 1, ⟨0, [], i + 1⟩⟩ (t.come ⟨2, key, [118], 0, 0⟩).ss := hy
      rcases mem_lay hy' with rfl | hy'
      · show i < min (i + 1) 64; omega
      · rw [e1] at hy'; have := h.ids y hy'; omega
  · rw [if_neg hi64]
    have hon : t.once (seR key i) = (t, .of 3) := by
      unfold Sv.once
      rw [show (seR key i).ses = i from rfl, hsk]
      exact if_pos (by rw [hss, h.len]; omega)
    rw [hon] at hok ⊢
    refine ⟨⟨hok, hseq, hnow, by rw [hver, h.ver]; omega, by rw [hby, h.bytes], ?_, by rw [hss, h.len]; omega, fun y hy => ?_, fun e => by omega⟩, rfl⟩
    · rw [hmoved, h.m, if_neg (by omega), if_neg (by omega), show min (i + 1) 64 = min i 64 by omega]
    · rw [hss] at hy; have := h.ids y hy; omega
set_option maxHeartbeats 4000000 in
set_option maxRecDepth 100000 in
theorem storeSessions_walk (a0 : Int) (_ : (Lit.int .i64 a0).wf = true) (a1 : ByteArray) (w1_ : a1.size ≤ maxLen) (w : World) :
    Calls Tryz.prog 8 #[.int .i64 a0, .string a1] w fun e w' => e = .returned (.bool true) ∧ Below w.heap.size w w' := by
  obtain ⟨key, rfl⟩ : ∃ l, a1 = str l := ⟨a1.data.toList, Wirey.str_of a1⟩
  rw [str_size] at w1_
  unfold maxLen at w1_
  have hsz := str_size
  have hB0 := Below.refl w.heap.size w
  by_cases b1 : key.length < 1
  · have d1 : decide ((key.length : Int) < 1) = true := decide_eq_true (by omega)
    have d2 : (key.length : Int) < 1 := by omega
    go_enter Tryz.func8, Tryz.ntmps8
    go_wp2_with fail
    refine (awake_c _).mono ?_
    rintro e w1 ⟨rfl, hb1⟩
    go_wp2_with fail
    go_ret
    exact ⟨rfl, hb1⟩
  have d1 : decide ((key.length : Int) < 1) = false := decide_eq_false (by omega)
  have d2 : ¬ (key.length : Int) < 1 := by omega
  by_cases b2 : 64 < key.length
  · have d3 : decide ((64 : Int) < (key.length : Int)) = true := decide_eq_true (by omega)
    have d4 : (64 : Int) < (key.length : Int) := by omega
    go_enter Tryz.func8, Tryz.ntmps8
    go_wp2_with fail
    refine (awake_c _).mono ?_
    rintro e w1 ⟨rfl, hb1⟩
    go_wp2_with fail
    go_ret
    exact ⟨rfl, hb1⟩
  have d3 : decide ((64 : Int) < (key.length : Int)) = false := decide_eq_false (by omega)
  have d4 : ¬ (64 : Int) < (key.length : Int) := by omega
  have hand : bits .and .i64 a0 3 = (and3 a0 : Int) := Bity.i64_and a0 3 2 rfl (by omega)
  have hl3 := and3_lt a0
  generalize and3 a0 = n at *
  have hN : ∀ W, Calls Tryz.prog 13 #[.agg #[.int .i64 1, .int .i64 4, .int .i64 1000, .int .u64 0]] W fun e w' => ∃ b T M C S H, e = .returned (.tuple #[tp b, .int .i64 0]) ∧ At W w' b T M C S H se0 := fun W => newS_c (kind := 1) (n := 4) (bytes := 1000) (seed := 0) (.inl rfl) (by omega) (by omega) (by omega) (by omega) (by omega) W
  have hS0 := se_start key
  have hnxt := fun (s : Sv) (i : Nat) (h : Sn key s i) (hi : i < 1000) => sn_next (by omega) (by omega) h hi
  generalize se0 = s0 at *
  go_enter Tryz.func8, Tryz.ntmps8
  go_wp2_with fail
  refine (hN _).mono ?_
  rintro e w1 ⟨b, T, M, C, S, H, rfl, h1⟩
  go_wp2_with fail
  refine (awake_c _).mono ?_
  rintro e w2 ⟨rfl, hb2⟩
  replace h1 := h1.below hb2
  clear hN hb2 hB0
  go_wp2_with fail
  go_loopw [8] (fun i wr => ∃ (j : Nat) (H' : Nat → Prop) (s : Sv), j ≤ 62 + n ∧ i = .int .i64 j ∧ At w wr b T M C S H' s ∧ Sn key s j) (fun i _ => 62 + n - (intOf i).toNat)
  case atStart => exact ⟨0, H, s0, by omega, rfl, h1, hS0⟩
  case round =>
    clear h1 hS0
    obtain ⟨j, H1, s, hj, rfl, hA, hS⟩ := hrel
    by_cases h3 : j < 62 + n
    · have hlt : (j : Int) < 62 + (n : Int) := by omega
      have e1 : decide ((j : Int) < 62 + (n : Int)) = true := decide_eq_true hlt
      obtain ⟨hS2, hr⟩ := hnxt s j hS (by omega)
      have hxk : (seR key j).Ok := ⟨(by show j + 1 < _; omega), (by show (0 : Nat) < _; omega), (by show j < _; omega), (by show (1 : Nat) < _; omega), (by show key.length ≤ maxLen; unfold maxLen; omega), (by show (1 : Nat) ≤ maxLen; decide), (by show (0 : Nat) < _; omega), (by show (0 : Nat) < _; omega)⟩
      have hap0 := apply1_a (x := seR key j) (t := (s.apply (seR key j)).1) (r := (if j < 64 then ⟨0, [], j + 1⟩ else .of 3)) (n := 0) hS.ok hxk rfl hr hA
      generalize (s.apply (seR key j)).1 = s2 at *
      generalize hrr : (if j < 64 then (⟨0, [], j + 1⟩ : Rep) else .of 3) = rr at *
      have hap : Calls Tryz.prog 18 #[tp b, .agg #[.int .u64 ((j : Int) + 1), .int .u64 0, .int .u64 (j : Int), .int .u64 1, .int .i64 2, .string (str key), .string ⟨#[118]⟩, .int .u64 0, .int .u64 0]] wr fun e w' => e = .returned (.tuple #[.agg rr.cs, .int .i64 0]) ∧ ∃ H', At w w' b T M C S H' s2 ∧ Stp b T M S wr H1 w' H' := hap0
      have HR := Lib.hid hrr
      clear hap0 hr hxk hrr hnxt hA hS
      go_wp2_with fail
      refine hap.mono ?_
      rintro e w5 ⟨rfl, H5, h5, -⟩
      have hl5 := Loc.new h5 61 rr.cs
      replace h5 := h5.alloc (.cells rr.cs 61)
      clear hap
      go_upto_region 11 with (fail)
      generalize w5.alloc (.cells rr.cs 61) = w6 at *
      generalize w5.heap.size = p at *
      by_cases h64 : j < 64
      · have hrr : rr = ⟨0, [], j + 1⟩ := by rw [← HR.out, if_pos h64]
        subst hrr
        have x0 : w6.cell? ⟨p, 0, none⟩ = some (.int .i64 0) := hl5.c rfl
        have e2 : decide ((j : Int) < 64) = true := decide_eq_true (by omega)
        have e3 : (j : Int) < 64 := by omega
        clear hl5
        go_wp2_with fail
        go_roundw
        case rel => exact ⟨j + 1, H5, s2, by omega, rfl, h5, hS2⟩
        case measure => simp [intOf]; omega
      · have hrr : rr = .of 3 := by rw [← HR.out, if_neg h64]
        subst hrr
        have x0 : w6.cell? ⟨p, 0, none⟩ = some (.int .i64 3) := hl5.c rfl
        have e2 : decide ((j : Int) < 64) = false := decide_eq_false (by omega)
        have e3 : ¬ (j : Int) < 64 := by omega
        clear hl5
        go_wp2_with fail
        go_roundw
        case rel => exact ⟨j + 1, H5, s2, by omega, rfl, h5, hS2⟩
        case measure => simp [intOf]; omega
    · obtain rfl : j = 62 + n := by omega
      have e1 : decide (((62 + n : Nat) : Int) < 62 + (n : Int)) = false := decide_eq_false (by omega)
      have hm : s.m = [⟨key, [118], min (62 + n) 64, 0⟩] := by rw [hS.m, if_neg (by omega)]
      have hen := entries_s (by rw [hm]; simp) hA
      rw [hm] at hen
      have hbel := hA.since
      clear hnxt hS hm
      rcases (by omega : n = 0 ∨ n = 1 ∨ n = 2 ∨ n = 3) with rfl | rfl | rfl | rfl
      all_goals
        go_wp2_with fail
        refine hen.mono ?_
        rintro e w7 ⟨v, rfl, hsl, hb7⟩
        obtain ⟨va, vc, rfl⟩ := hsl.form
        obtain ⟨g, rfl, -, -, hc⟩ := hsl.at_ (i := 0) rfl
        obtain ⟨-, -, c2, -⟩ := hc w7 rfl
        have hbb := hbel.trans (hb7.mono hbel.size)
        clear hc hsl hen
        go_wp2_with fail
        go_ret
        exact ⟨rfl, hbb⟩
set_option linter.unusedVariables false in
set_option maxRecDepth 100000 in
theorem storeSessions_lifted (os : Os) (started : os.Started) (H : Type) (enc : TypeId × Value → H) :
    ReturnsInHanded {} Tryz.checked os 8 .any (Rows.storeSessionsSpec.pre6 enc Tryz.prog Tryz.f8 Rows.storeSessionsRow.domain false) (Rows.storeSessionsSpec.post enc Tryz.prog Tryz.f8 false true false false) := by
  refine returnsInHanded_of_change (C := Tryz.checked) Kit.own started (by kernel_rfl) Tryz.func8
    (ChangeSpec.witness6 (enc := enc) (C := Tryz.checked) false ⟨#[], #[.int .i64 0, .string ⟨#[]⟩], []⟩ 8 (by kernel_rfl) (by kernel_rfl) (by kernel_rfl) (by kernel_rfl)) ?_
  intro W base args ds gs before hval0 hW hcnd _
  have hval : ∀ (j : Nat) t v, Tryz.f8.params[j]? = some t → args[j]? = some v → Value.okWide Tryz.prog W .any base t v := hval0
  have hW' := hW
  obtain ⟨p, q, hA0, hV, rfl, hfz, hnd⟩ := hW
  have hA : DataW.TrodAll enc Tryz.prog W 0 (fun _ => true) true Tryz.f8.params.toList args.toList ds p := hA0
  rw [Tryz.params8] at hA hval
  obtain ⟨v0, vs0, d0, ds0, p0, q0, hargs, rfl, rfl, h0, r0⟩ := trodAll_cons hA
  obtain ⟨v1, vs1, d1, ds1, p1, q1, rfl, rfl, rfl, h1, r1⟩ := trodAll_cons r0
  obtain ⟨rfl, rfl, rfl⟩ := trodAll_nil r1
  obtain ⟨rfl, rfl⟩ := trodVars_none hV
  obtain rfl : args = #[v0, v1] := by cases args; simp_all
  obtain ⟨a0, rfl, rfl, rfl, w0⟩ := open_int Tryz.underlying3 (hval 0 3 v0 rfl rfl) h0
  obtain ⟨a1, rfl, rfl, rfl, w1⟩ := Go.ChangeMaps.open_string Tryz.underlying9 (hval 1 9 v1 rfl rfl) h1
  clear hA0 hval0
  refine (storeSessions_walk a0 w0 a1 w1 W).mono fun e W' ⟨he, hg⟩ => ?_
  subst he
  exact ⟨_, rfl, Kit.law_post hW' rfl (by kernel_rfl) rfl (by kernel_rfl) hg⟩

theorem storeSessions_over : Rows.storeSessionsRow.holds Tryz.pinned (OpenSpec.ofChange Rows.storeSessionsSpec) :=
  OpenClaim.holds_of_wide 8 Tryz.f8 rfl rfl rfl rfl rfl rfl rfl ⟨rfl, rfl, rfl, rfl, rfl⟩ rfl rfl rfl rfl rfl (by kernel_rfl) Tryz.func8 (by kernel_rfl)
    (of_decide_eq_true (by kernel_rfl)) (by unfold Func.isWrapper; first | (rw [if_pos (by decide +kernel)]; kernel_rfl) | (rw [if_neg (by decide +kernel)]; exact ⟨rfl, rfl⟩))
    (fun os started H enc _ => storeSessions_lifted os started H enc)

theorem storeSessions_holds : Rows.StoreSessionsSaid :=
  storeSessions_over

end
end Go.Proofs.YtniniaokibnhfaaGreat.Storey
