/- Layer 12 (store): for every input the call returns true and leaves what it was given as it was: as often as something was asked for, so often it was there, or told that it is not (StoreTally). No condition. -/
import Derived.Test.YtniniaokibnhfaaGreatKit
import Derived.Test.YtniniaokibnhfaaGreatStoreTl
import Derived.Lib.SmallJoins
namespace Go.Proofs.YtniniaokibnhfaaGreat.Storey
open Go.ChangeShapes Go.WideShapes Go.ChangeAt Go.RowKit
open Wirey (Blk Row str str_size str_list Kp)
open Taby (En TabAt Tbl tp find ins drop size ended St)
open Policyy (Pv HeldP StepP Tell)
open Ringy (Key)
open Regy

section
variable {w0 w w' w'' : World} {B b T M C S : Nat} {H H' : Nat → Prop} {s t : Sv} {k : Key} {v : Value} {l : List Key} {o : Opn} {x : Rcd}
def taA (i : Nat) (o : Opn) : Ac := ⟨0, 0, i, o, 0⟩
def taR (s : Sv) (i : Nat) (o : Opn) : Rcd := ⟨s.seq + 1, 0, 0, i + 1, o.cut⟩
theorem taR_eq (s : Sv) (i : Nat) (o : Opn) : taR s i o = ⟨(recOf s.seq 0 (taA i o)).seq, (recOf s.seq 0 (taA i o)).now, (recOf s.seq 0 (taA i o)).ses, i + 1, (recOf s.seq 0 (taA i o)).op⟩ := by
  have h3 : and3 0 = 0 := by decide
  have h7 : and7 ((0 : Nat) : Int) = 0 := by decide
  show (⟨s.seq + 1, 0, 0, i + 1, o.cut⟩ : Rcd) = ⟨s.seq + 1 + and3 0 / 3, if (0 : Nat) ≤ 100 then 0 + 0 else 0, and7 ((0 : Nat) : Int), i + 1, o.cut⟩
  rw [h3, h7]; rfl
/-- Behind so many operations: what was asked for, and was there. -/
structure Tl (s : Sv) (i na nh : Nat) : Prop where
  ok : s.Ok
  seq : s.seq ≤ i
  asked : s.asked = na
  hits : s.hits = nh
  le : na ≤ i ∧ nh ≤ i
  ss : s.ss = [] ∨ ∃ n r, s.ss = [⟨0, n, r⟩] ∧ n ≤ i
theorem put_ah {s : Sv} {o : Opn} (h : s.Ok) (h1 : o.key.length ≤ 64) (h2 : 0 < o.key.length) (h3 : o.val.length ≤ 4096) : (s.put o).1.asked = s.asked ∧ (s.put o).1.hits = s.hits := (h.put h1 h2 h3).2.2.2.2.2
theorem tl_next {s : Sv} {i asked hits : Nat} {o : Opn} (h : Tl s i asked hits) (hi : i < 1000) (hx : (taR s i o).Ok) :
    ((s.apply (taR s i o)).2.2 = 0 ∧ o.kind = 1 ∧ (((s.apply (taR s i o)).2.1.e = 0 ∧ Tl (s.apply (taR s i o)).1 (i + 1) (asked + 1) (hits + 1)) ∨ ((s.apply (taR s i o)).2.1.e = 2 ∧ Tl (s.apply (taR s i o)).1 (i + 1) (asked + 1) hits))) ∨
    (((s.apply (taR s i o)).2.2 ≠ 0 ∨ o.kind ≠ 1) ∧ Tl (s.apply (taR s i o)).1 (i + 1) asked hits) := by
  have hle := h.le
  have hok := (h.ok.apply hx).1
  cases hc : (taR s i o).op.chk with
  | false =>
    have e : s.apply (taR s i o) = (s, .of 0, 1) := by unfold Sv.apply; rw [if_pos hc]
    rw [e]
    refine .inr ⟨.inl (fun e => by cases e), h.ok, by show s.seq ≤ _; have := h.seq; omega, h.asked, h.hits, by omega, ?_⟩
    rcases h.ss with e | ⟨n, r, e, hn⟩
    · exact .inl e
    · exact .inr ⟨n, r, e, by omega⟩
  | true =>
    obtain ⟨hmo, -, hless⟩ := (h.ok.place (q := s.seq + 1) hx.seq).move (now := 0) (by omega)
    obtain ⟨f1, f2, f3, f4, f5, f6, f7, f8, f9, f10⟩ := hless.f
    have hA : s.apply (taR s i o) = ((s.done (taR s i o)).1, (s.done (taR s i o)).2, 0) := by
      unfold Sv.apply
      rw [if_neg (by rw [hc]; decide), if_neg (fun e => e rfl)]
    have hD : s.done (taR s i o) = if o.kind = 5 then ((s.place (s.seq + 1)).moveTo 0, .of 0) else ((s.place (s.seq + 1)).moveTo 0).once (taR s i o) := rfl
    rw [hA] at hok ⊢
    rw [hD] at hok ⊢
    clear hA hD
    have g8 : ((s.place (s.seq + 1)).moveTo 0).asked = asked := f8.trans h.asked
    have g9 : ((s.place (s.seq + 1)).moveTo 0).hits = hits := f9.trans h.hits
    have g10 : ((s.place (s.seq + 1)).moveTo 0).ss = s.ss := f10
    have g5 : ((s.place (s.seq + 1)).moveTo 0).seq = s.seq + 1 := f5
    clear f1 f2 f3 f4 f5 f6 f7 f8 f9 f10 hless
    generalize (s.place (s.seq + 1)).moveTo 0 = t at *
    by_cases h5 : o.kind = 5
    · rw [if_pos h5] at hok ⊢
      refine .inr ⟨.inr (by omega), hok, by show t.seq ≤ _; have := h.seq; omega, g8, g9, by omega, ?_⟩
      rcases h.ss with e | ⟨n, r, e, hn⟩
      · exact .inl (g10.trans e)
      · exact .inr ⟨n, r, g10.trans e, by omega⟩
    · rw [if_neg h5] at hok ⊢
      have hon : t.once (taR s i o) = t.noted (taR s i o) := by
        unfold Sv.once
        rw [g10, show (taR s i o).ses = 0 from rfl, show (taR s i o).num = i + 1 from rfl]
        rcases h.ss with e | ⟨n, r, e, hn⟩
        · rw [e]; rfl
        · rw [e]
          show (if i + 1 = n then (t, r) else if i + 1 < n then (t, Rep.of 122) else t.noted (taR s i o)) = _
          rw [if_neg (by omega), if_neg (by omega)]
      rw [hon] at hok ⊢
      have hact := hmo.act hc h5
      rw [show (taR s i o).op = o.cut from rfl] at hact
      have hss : (t.noted (taR s i o)).1.ss = [⟨0, i + 1, (t.act o.cut).2⟩] := by
        show lay ⟨0, i + 1, (t.act o.cut).2⟩ (t.act o.cut).1.ss = _
        rw [hact.ss, g10]
        rcases h.ss with e | ⟨n, r, e, hn⟩ <;> rw [e] <;> simp [lay]
      have hseq : (t.noted (taR s i o)).1.seq ≤ i + 1 := by
        show (t.act o.cut).1.seq ≤ _
        rw [hact.seq, g5]; have := h.seq; omega
      have fin : ∀ a b, (t.act o.cut).1.asked = a → (t.act o.cut).1.hits = b → a ≤ i + 1 ∧ b ≤ i + 1 → Tl (t.noted (taR s i o)).1 (i + 1) a b := fun a b h1 h2 h3 => ⟨hok, hseq, h1, h2, h3, .inr ⟨i + 1, _, hss, Nat.le_refl _⟩⟩
      obtain ⟨k1, k2, -, -, -, k6⟩ := chk_bounds hc
      have k6' := k6 h5
      by_cases h1 : o.kind = 1
      · refine .inl ⟨rfl, h1, ?_⟩
        have hg : t.act o.cut = t.get o.cut.key := if_pos h1
        show ((t.act o.cut).2.e = 0 ∧ _) ∨ ((t.act o.cut).2.e = 2 ∧ _)
        unfold Sv.get at hg
        cases ef : find o.cut.key t.m with
        | none =>
          rw [ef] at hg
          refine .inr ⟨by rw [hg]; rfl, fin _ _ ?_ ?_ (by omega)⟩
          · rw [hg]; show one t.asked _ = _; rw [g8, one_lt (by omega)]
          · rw [hg]; exact g9
        | some y =>
          rw [ef] at hg
          refine .inl ⟨by rw [hg], fin _ _ ?_ ?_ (by omega)⟩
          · rw [hg]; show one t.asked _ = _; rw [g8, one_lt (by omega)]
          · rw [hg]; show one t.hits _ = _; rw [g9, one_lt (by omega)]
      · have hah : (t.act o.cut).1.asked = asked ∧ (t.act o.cut).1.hits = hits := by
          rw [← g8, ← g9]
          have hk : o.cut.kind = o.kind := rfl
          unfold Sv.act
          rw [if_neg (by rw [hk]; exact h1)]
          split
          · unfold Sv.del
            cases find o.cut.key t.m <;> exact ⟨rfl, rfl⟩
          · split
            · unfold Sv.cas
              cases find o.cut.key t.m with
              | none => exact ⟨rfl, rfl⟩
              | some y =>
                show (if y.ver = o.cut.ver then t.put o.cut else (t, ⟨121, [], y.ver⟩)).1.asked = _ ∧ (if y.ver = o.cut.ver then t.put o.cut else (t, ⟨121, [], y.ver⟩)).1.hits = _
                split
                · exact put_ah hmo k1 k6' k2
                · exact ⟨rfl, rfl⟩
            · exact put_ah hmo k1 k6' k2
        exact .inr ⟨.inr h1, fin _ _ hah.1 hah.2 (by omega)⟩
set_option maxHeartbeats 4000000 in
set_option maxRecDepth 100000 in
theorem storeTally_walk (p : Int) (_ : (Lit.int .i64 p).wf = true) (n : Int) (_ : (Lit.int .i64 n).wf = true) (bb : Int) (_ : (Lit.int .i64 bb).wf = true) (seed0 : Int) (wsd : (Lit.int .u64 seed0).wf = true) (ao : Option Addr) (len cap sb off : Nat) (X : Nat → Opn) (w : World) (hX : Ops w ao len sb off X) :
    Calls Tryz.prog 11 #[.agg #[.int .i64 p, .int .i64 n, .int .i64 bb, .int .u64 seed0], .slice ao len cap] w fun e w' => e = .returned (.bool true) ∧ Below w.heap.size w w' := by
  obtain ⟨seed, rfl, hsd⟩ := Arry.u64_nat wsd
  have h1 := and1_lt p
  have h2 := and15_lt n
  have h3 := and1023_lt bb
  have hfr := cfg_fresh p n bb hsd
  have hT0 : Tl (cfgS p n bb seed) 0 0 0 := ⟨hfr.ok, by rw [hfr.seq]; omega, rfl, rfl, by omega, .inl hfr.ss⟩
  have hmost := hX.most
  unfold maxLen at hmost
  have hN : ∀ W, Calls Tryz.prog 13 #[.agg #[.int .i64 ((1 + and1 p : Nat) : Int), .int .i64 ((1 + and15 n : Nat) : Int), .int .i64 ((1 + and1023 bb : Nat) : Int), .int .u64 (seed : Int)]] W fun e w' => ∃ b T M C S H, e = .returned (.tuple #[tp b, .int .i64 0]) ∧ At W w' b T M C S H (cfgS p n bb seed) := fun W => newS_c (kind := 1 + and1 p) (n := 1 + and15 n) (bytes := 1 + and1023 bb) (seed := seed) (by omega) (by omega) (by omega) (by omega) (by omega) hsd W
  have hcf := fun W => config_c p n bb (seed : Int) W
  generalize cfgS p n bb seed = s0 at *
  generalize 1 + and1 p = q1 at *
  generalize 1 + and15 n = q2 at *
  generalize 1 + and1023 bb = q3 at *
  have hb0 := (Below.refl _ w).alloc (Nat.le_refl _) (.cells #[.int .i64 p, .int .i64 n, .int .i64 bb, .int .u64 (seed : Int)] 24)
  clear h1 h2 h3 hfr
  go_enter Tryz.func11, Tryz.ntmps11
  go_wp2_with fail
  refine (hcf _).mono ?_
  rintro e w1 ⟨rfl, hb1⟩
  have hbA := hb0.trans (hb1.mono hb0.size)
  go_wp2_with fail
  refine (hN w1).mono ?_
  rintro e w3 ⟨bq, T, M, C, S, H, rfl, h3⟩
  replace h3 : At w w3 bq T M C S H s0 := h3.from_ hbA
  clear hN hcf hb0 hb1 hbA
  go_wp2_with fail
  go_loopw [7, 8, 9] (fun va vh i wr => ∃ (j asked hits : Nat) (H' : Nat → Prop) (s : Sv), j ≤ len ∧ j ≤ 80 ∧ i = .int .i64 j ∧ va = .int .i64 asked ∧ vh = .int .i64 hits ∧ Tl s j asked hits ∧ At w wr bq T M C S H' s) (fun va vh i _ => len - (intOf i).toNat)
  case atStart => exact ⟨0, 0, 0, H, s0, by omega, by omega, rfl, rfl, rfl, hT0, h3⟩
  case round =>
    clear h3 hT0
    obtain ⟨j, asked, hits, H1, s, hj, hj80, rfl, rfl, rfl, hT, hA⟩ := hrel
    by_cases h3 : j < len ∧ j < 80
    · have hlt : (j : Int) < (len : Int) := by omega
      have h80 : (j : Int) < 80 := by omega
      have d1 : decide ((j : Int) < (len : Int)) = true := decide_eq_true hlt
      have d2 : decide ((j : Int) < 80) = true := decide_eq_true h80
      obtain ⟨rfl, hsb⟩ := hX.is (by omega)
      have hoj := hX.big j h3.1
      have hat : ∀ {W : World}, Below w.heap.size w W → opAt W sb off j (X j) := fun hb => (hX.below hb).at_ h3.1
      generalize X j = oj at *
      have hsq := hT.seq
      have hle := hT.le
      have hcl := oj.cut_len
      have hxx : (taR s j oj).Ok := ⟨(by show s.seq + 1 < _; omega), (by show (0 : Nat) < _; omega), (by show (0 : Nat) < _; omega), (by show j + 1 < _; omega), (by show oj.cut.key.length ≤ maxLen; unfold maxLen; omega), (by show oj.cut.val.length ≤ maxLen; unfold maxLen; omega), hoj.ttl, hoj.ver⟩
      have hbig : (taA j oj).Big := ⟨(by show (0 : Nat) < _; omega), (by show (0 : Nat) < _; omega), (by show j < _; omega), hoj⟩
      have hrec : ∀ W, Calls Tryz.prog 16 #[.int .u64 (s.seq : Int), .int .u64 0, .agg #[.int .u64 0, .int .u64 0, .int .u64 (j : Int), .int .i64 oj.kind, .string (str oj.key), .string (str oj.val), .int .u64 (oj.ttl : Int), .int .u64 (oj.ver : Int), .int .i64 0]] W fun e w' => e = .returned (.tuple #[.agg (recOf s.seq 0 (taA j oj)).cs, .int .u64 (nextOf 0 (taA j oj) : Int)]) ∧ Below W.heap.size W w' := fun W => record_c (seq := s.seq) (now := 0) (a := taA j oj) (by omega) (by omega) hbig W
      have hnx := tl_next hT (by omega) hxx
      have hk1 : oj.cut.kind = oj.kind := rfl
      have HY : Hid (taR s j oj = ⟨(recOf s.seq 0 (taA j oj)).seq, (recOf s.seq 0 (taA j oj)).now, (recOf s.seq 0 (taA j oj)).ses, j + 1, (recOf s.seq 0 (taA j oj)).op⟩) := Lib.hid (taR_eq s j oj)
      have HK : Hid ((recOf s.seq 0 (taA j oj)).op.kind = oj.kind) := Lib.hid rfl
      have hap0 := fun {W : World} {H : Nat → Prop} (h : At w W bq T M C S H s) => apply1_a (x := taR s j oj) (t := (s.apply (taR s j oj)).1) (r := (s.apply (taR s j oj)).2.1) (n := (s.apply (taR s j oj)).2.2) hT.ok hxx rfl rfl h
      have hseq := fun (W : World) (hb : Below wr.heap.size wr W) => seq_s (hA.below hb)
      have hwl := hA.since
      have mk : ∀ W, Below wr.heap.size wr W → W.cell? ⟨sb, off + j * 5, none⟩ = some (.int .i64 oj.kind) ∧ W.cell? ⟨sb, off + j * 5 + 1, none⟩ = some (.string (str oj.key)) ∧ W.cell? ⟨sb, off + j * 5 + 2, none⟩ = some (.string (str oj.val)) ∧ W.cell? ⟨sb, off + j * 5 + 3, none⟩ = some (.int .u64 (oj.ttl : Int)) ∧ W.cell? ⟨sb, off + j * 5 + 4, none⟩ = some (.int .u64 (oj.ver : Int)) := fun W hb => hat (hwl.trans (hb.mono hwl.size))
      have hb2 : Below wr.heap.size wr wr.drew := ⟨rfl, rfl, rfl, Nat.le_refl _, fun _ _ => rfl⟩
      rw [HY.out] at hap0 hnx
      clear hxx hbig hk1 HY hcl
      generalize recOf s.seq 0 (taA j oj) = yy at *
      generalize nextOf 0 (taA j oj) = nx at *
      have hap := fun {W : World} {H : Nat → Prop} (h : At w W bq T M C S H s) => (show Calls Tryz.prog 18 #[tp bq, .agg #[.int .u64 (yy.seq : Int), .int .u64 (yy.now : Int), .int .u64 (yy.ses : Int), .int .u64 ((j : Int) + 1), .int .i64 yy.op.kind, .string (str yy.op.key), .string (str yy.op.val), .int .u64 (yy.op.ttl : Int), .int .u64 (yy.op.ver : Int)]] W fun e w' => _ from hap0 h)
      clear hap0
      generalize (s.apply ⟨yy.seq, yy.now, yy.ses, j + 1, yy.op⟩).1 = s2 at *
      generalize (s.apply ⟨yy.seq, yy.now, yy.ses, j + 1, yy.op⟩).2.1 = rr at *
      generalize (s.apply ⟨yy.seq, yy.now, yy.ses, j + 1, yy.op⟩).2.2 = ne at *
      have hw : IntKind.u64.wrap (j : Int) = (j : Int) := IntWalk.u64_in _ (by omega)
      go_upto_region 6 with (fail)
      go_cut [10] from 34 to 46 (fun v10 wx => ∃ q, v10 = .pointer (some ⟨q, 0, none⟩) ∧ Below wr.heap.size wr wx ∧ Blk wx q 54 yy.cs ∧ wr.heap.size ≤ q)
      case first =>
        refine region_only 16 #[false, false, false, false, false, false, false, false, false, false, false, false, false, false, false, false] (S := fun W => W.cell? ⟨sb, off + j * 5, none⟩ = some (.int .i64 oj.kind) ∧ W.cell? ⟨sb, off + j * 5 + 1, none⟩ = some (.string (str oj.key)) ∧ W.cell? ⟨sb, off + j * 5 + 2, none⟩ = some (.string (str oj.val)) ∧ W.cell? ⟨sb, off + j * 5 + 3, none⟩ = some (.int .u64 (oj.ttl : Int)) ∧ W.cell? ⟨sb, off + j * 5 + 4, none⟩ = some (.int .u64 (oj.ver : Int))) rfl rfl (by kernel_rfl) (mk _ hb2) (fun hSw => ?_)
        generalize wr.drew = w2 at *
        refine take_at 0 35 (fuel := 15) ?_ rfl rfl (by kernel_rfl) (by kernel_rfl) (by kernel_rfl) (Or.inl ⟨by rfl, ?_⟩) hSw ?_
        rotate_left
        · intro wx hSx
          (try dsimp only at hSx)
          go_split_ands
          go_simp
          (try with_reducible rfl)
        simp only [List.setIfInBounds_toArray, List.set_cons_zero, List.set_cons_succ]
        refine take_at 2 37 (fuel := 14) ?_ rfl rfl (by kernel_rfl) (by kernel_rfl) (by kernel_rfl) (Or.inl ⟨by rfl, ?_⟩) hSw ?_
        rotate_left
        · intro wx hSx
          (try dsimp only at hSx)
          go_split_ands
          go_simp
          (try with_reducible rfl)
        simp only [List.setIfInBounds_toArray, List.set_cons_zero, List.set_cons_succ]
        refine take_at 3 38 (fuel := 13) ?_ rfl rfl (by kernel_rfl) (by kernel_rfl) (by kernel_rfl) (Or.inl ⟨by rfl, ?_⟩) hSw ?_
        rotate_left
        · intro wx hSx
          (try dsimp only at hSx)
          go_split_ands
          go_simp
          (try with_reducible rfl)
        simp only [List.setIfInBounds_toArray, List.set_cons_zero, List.set_cons_succ]
        refine take_at 4 39 (fuel := 12) ?_ rfl rfl (by kernel_rfl) (by kernel_rfl) (by kernel_rfl) (Or.inl ⟨by rfl, ?_⟩) hSw ?_
        rotate_left
        · intro wx hSx
          (try dsimp only at hSx)
          go_split_ands
          go_simp
          (try with_reducible rfl)
        simp only [List.setIfInBounds_toArray, List.set_cons_zero, List.set_cons_succ]
        refine take_at 5 40 (fuel := 11) ?_ rfl rfl (by kernel_rfl) (by kernel_rfl) (by kernel_rfl) (Or.inl ⟨by rfl, ?_⟩) hSw ?_
        rotate_left
        · intro wx hSx
          (try dsimp only at hSx)
          go_split_ands
          go_simp
          (try with_reducible rfl)
        simp only [List.setIfInBounds_toArray, List.set_cons_zero, List.set_cons_succ]
        refine take_at 6 41 (fuel := 10) ?_ rfl rfl (by kernel_rfl) (by kernel_rfl) (by kernel_rfl) (Or.inl ⟨by rfl, ?_⟩) hSw ?_
        rotate_left
        · intro wx hSx
          (try dsimp only at hSx)
          go_split_ands
          go_simp
          (try with_reducible rfl)
        simp only [List.setIfInBounds_toArray, List.set_cons_zero, List.set_cons_succ]
        refine take_at 7 42 (fuel := 9) ?_ rfl rfl (by kernel_rfl) (by kernel_rfl) (by kernel_rfl) (Or.inl ⟨by rfl, ?_⟩) hSw ?_
        rotate_left
        · intro wx hSx
          (try dsimp only at hSx)
          go_split_ands
          go_simp
          (try with_reducible rfl)
        simp only [List.setIfInBounds_toArray, List.set_cons_zero, List.set_cons_succ]
        refine take_at 8 43 (fuel := 8) ?_ rfl rfl (by kernel_rfl) (by kernel_rfl) (by kernel_rfl) (Or.inl ⟨by rfl, ?_⟩) hSw ?_
        rotate_left
        · intro wx hSx
          (try dsimp only at hSx)
          go_split_ands
          go_simp
          (try with_reducible rfl)
        simp only [List.setIfInBounds_toArray, List.set_cons_zero, List.set_cons_succ]
        refine wpAnyH_ready (fuel := 7) (rs := [1, 13]) (by kernel_rfl) (by simp) (AllReadyH.cons rfl (fun K hK => ?_) (AllReadyH.cons rfl (fun K hK => ?_) AllReadyH.nil))
        · go_simp
          refine (hseq _ hb2).mono ?_
          rintro e wq ⟨rfl, rfl⟩
          refine hK.out _ _ (mk _ hb2) (fun hSw => ?_)
          clear hK K
          simp only [List.setIfInBounds_toArray, List.set_cons_zero, List.set_cons_succ]
          refine wpAnyH_ready (fuel := 6) (rs := [9, 13]) (by kernel_rfl) (by simp) (AllReadyH.cons rfl (fun K hK => ?_) (AllReadyH.cons rfl (fun K hK => ?_) AllReadyH.nil))
          · go_simp
            refine (hrec _).mono ?_
            rintro e wv ⟨rfl, hbv⟩
            have hbv2 := hb2.trans (hbv.mono hb2.size)
            refine hK.out _ _ (mk _ hbv2) (fun hSw => ?_)
            clear hK K
            simp only [List.setIfInBounds_toArray, List.set_cons_zero, List.set_cons_succ]
            refine take_at 10 34 (fuel := 5) ?_ rfl rfl (by kernel_rfl) (by kernel_rfl) (by kernel_rfl) (Or.inl ⟨by rfl, ?_⟩) hSw ?_
            rotate_left
            · intro wx hSx
              (try dsimp only at hSx)
              go_split_ands
              go_simp
              (try with_reducible rfl)
            simp only [List.setIfInBounds_toArray, List.set_cons_zero, List.set_cons_succ]
            refine take_at 11 45 (fuel := 4) ?_ rfl rfl (by kernel_rfl) (by kernel_rfl) (by kernel_rfl) (Or.inl ⟨by rfl, ?_⟩) hSw ?_
            rotate_left
            · intro wx hSx
              (try dsimp only at hSx)
              go_split_ands
              go_simp
              (try with_reducible rfl)
            simp only [List.setIfInBounds_toArray, List.set_cons_zero, List.set_cons_succ]
            refine take_at 12 46 (fuel := 3) ?_ rfl rfl (by kernel_rfl) (by kernel_rfl) (by kernel_rfl) (Or.inl ⟨by rfl, ?_⟩) hSw ?_
            rotate_left
            · intro wx hSx
              (try dsimp only at hSx)
              go_split_ands
              go_simp
              (try with_reducible rfl)
            simp only [List.setIfInBounds_toArray, List.set_cons_zero, List.set_cons_succ]
            refine wpAnyH_ready (fuel := 2) (rs := [13]) (by kernel_rfl) (by simp) (AllReadyH.cons rfl (fun K hK => ?_) AllReadyH.nil)
            go_simp
            have hp0 := Blk.new wv 54 #[.int .u64 0, .int .u64 0, .int .u64 0, .int .u64 0, .int .i64 0, .string ⟨#[]⟩, .string ⟨#[]⟩, .int .u64 0, .int .u64 0]
            have hba := hbv2.alloc hbv2.size (.cells #[.int .u64 0, .int .u64 0, .int .u64 0, .int .u64 0, .int .i64 0, .string ⟨#[]⟩, .string ⟨#[]⟩, .int .u64 0, .int .u64 0] 54)
            refine hK.out _ _ (mk _ hba) (fun hSw => ?_)
            clear hK K
            simp only [List.setIfInBounds_toArray, List.set_cons_zero, List.set_cons_succ]
            refine wpAnyH_ready (fuel := 1) (rs := [14]) (by kernel_rfl) (by simp) (AllReadyH.cons rfl (fun K hK => ?_) AllReadyH.nil)
            go_simp
            have hp3 := Blk.new wv 54 yy.cs
            have hb3 := hbv2.alloc hbv2.size (.cells yy.cs 54)
            refine hK.out _ _ (mk _ hb3) (fun hSw => ?_)
            clear hK K
            simp only [List.setIfInBounds_toArray, List.set_cons_zero, List.set_cons_succ]
            refine take_at 15 11 (fuel := 0) ?_ rfl rfl (by kernel_rfl) (by kernel_rfl) (by kernel_rfl) (Or.inl ⟨by rfl, ?_⟩) hSw ?_
            rotate_left
            · intro wx hSx
              (try dsimp only at hSx)
              go_split_ands
              go_simp
              (try with_reducible rfl)
            simp only [List.setIfInBounds_toArray, List.set_cons_zero, List.set_cons_succ]
            refine wpAnyH_done (by kernel_rfl) ⟨rfl, ?_⟩ 0
            go_wp2_with fail
            go_meet
            exact ⟨_, rfl, hb3, hp3, by first | exact hb2.size | exact hbv2.size⟩
          · go_simp
            have hp0 := Blk.new w2 54 #[.int .u64 0, .int .u64 0, .int .u64 0, .int .u64 0, .int .i64 0, .string ⟨#[]⟩, .string ⟨#[]⟩, .int .u64 0, .int .u64 0]
            have hba := hb2.alloc hb2.size (.cells #[.int .u64 0, .int .u64 0, .int .u64 0, .int .u64 0, .int .i64 0, .string ⟨#[]⟩, .string ⟨#[]⟩, .int .u64 0, .int .u64 0] 54)
            refine hK.out _ _ (mk _ hba) (fun hSw => ?_)
            clear hK K
            simp only [List.setIfInBounds_toArray, List.set_cons_zero, List.set_cons_succ]
            refine wpAnyH_ready (fuel := 5) (rs := [9]) (by kernel_rfl) (by simp) (AllReadyH.cons rfl (fun K hK => ?_) AllReadyH.nil)
            go_simp
            refine (hrec _).mono ?_
            rintro e wv ⟨rfl, hbv⟩
            have hbv2 := hba.trans (hbv.mono hba.size)
            have hpv := hp0.below hbv hp0.lt
            refine hK.out _ _ (mk _ hbv2) (fun hSw => ?_)
            clear hK K
            simp only [List.setIfInBounds_toArray, List.set_cons_zero, List.set_cons_succ]
            refine take_at 10 34 (fuel := 4) ?_ rfl rfl (by kernel_rfl) (by kernel_rfl) (by kernel_rfl) (Or.inl ⟨by rfl, ?_⟩) hSw ?_
            rotate_left
            · intro wx hSx
              (try dsimp only at hSx)
              go_split_ands
              go_simp
              (try with_reducible rfl)
            simp only [List.setIfInBounds_toArray, List.set_cons_zero, List.set_cons_succ]
            refine take_at 11 45 (fuel := 3) ?_ rfl rfl (by kernel_rfl) (by kernel_rfl) (by kernel_rfl) (Or.inl ⟨by rfl, ?_⟩) hSw ?_
            rotate_left
            · intro wx hSx
              (try dsimp only at hSx)
              go_split_ands
              go_simp
              (try with_reducible rfl)
            simp only [List.setIfInBounds_toArray, List.set_cons_zero, List.set_cons_succ]
            refine take_at 12 46 (fuel := 2) ?_ rfl rfl (by kernel_rfl) (by kernel_rfl) (by kernel_rfl) (Or.inl ⟨by rfl, ?_⟩) hSw ?_
            rotate_left
            · intro wx hSx
              (try dsimp only at hSx)
              go_split_ands
              go_simp
              (try with_reducible rfl)
            simp only [List.setIfInBounds_toArray, List.set_cons_zero, List.set_cons_succ]
            refine wpAnyH_ready (fuel := 1) (rs := [14]) (by kernel_rfl) (by simp) (AllReadyH.cons rfl (fun K hK => ?_) AllReadyH.nil)
            go_simp
            have hle : wr.heap.size ≤ w2.heap.size := hb2.size
            have g0 := hpv.free 0
            have g1 := hpv.free 1
            have g2 := hpv.free 2
            have g3 := hpv.free 3
            have g4 := hpv.free 4
            have g5 := hpv.free 5
            have g6 := hpv.free 6
            have g7 := hpv.free 7
            have g8 := hpv.free 8
            have c0 : wv.cell? ⟨w2.heap.size, 0, none⟩ = some (.int .u64 0) := hpv.cell 0
            have c1 : wv.cell? ⟨w2.heap.size, 1, none⟩ = some (.int .u64 0) := hpv.cell 1
            have c2 : wv.cell? ⟨w2.heap.size, 2, none⟩ = some (.int .u64 0) := hpv.cell 2
            have c3 : wv.cell? ⟨w2.heap.size, 3, none⟩ = some (.int .u64 0) := hpv.cell 3
            have c4 : wv.cell? ⟨w2.heap.size, 4, none⟩ = some (.int .i64 0) := hpv.cell 4
            have c5 : wv.cell? ⟨w2.heap.size, 5, none⟩ = some (.string ⟨#[]⟩) := hpv.cell 5
            have c6 : wv.cell? ⟨w2.heap.size, 6, none⟩ = some (.string ⟨#[]⟩) := hpv.cell 6
            have c7 : wv.cell? ⟨w2.heap.size, 7, none⟩ = some (.int .u64 0) := hpv.cell 7
            have c8 : wv.cell? ⟨w2.heap.size, 8, none⟩ = some (.int .u64 0) := hpv.cell 8
            go_simp
            have hp3 := put9 hpv (.int .u64 (yy.seq : Int)) (.int .u64 (yy.now : Int)) (.int .u64 (yy.ses : Int)) (.int .u64 (yy.num : Int)) (.int .i64 yy.op.kind) (.string (str yy.op.key)) (.string (str yy.op.val)) (.int .u64 (yy.op.ttl : Int)) (.int .u64 (yy.op.ver : Int))
            have hb3 := below9 hbv2 (g := w2.heap.size) hle (.int .u64 (yy.seq : Int)) (.int .u64 (yy.now : Int)) (.int .u64 (yy.ses : Int)) (.int .u64 (yy.num : Int)) (.int .i64 yy.op.kind) (.string (str yy.op.key)) (.string (str yy.op.val)) (.int .u64 (yy.op.ttl : Int)) (.int .u64 (yy.op.ver : Int))
            refine hK.out _ _ (mk _ hb3) (fun hSw => ?_)
            clear hK K
            simp only [List.setIfInBounds_toArray, List.set_cons_zero, List.set_cons_succ]
            refine take_at 15 11 (fuel := 0) ?_ rfl rfl (by kernel_rfl) (by kernel_rfl) (by kernel_rfl) (Or.inl ⟨by rfl, ?_⟩) hSw ?_
            rotate_left
            · intro wx hSx
              (try dsimp only at hSx)
              go_split_ands
              go_simp
              (try with_reducible rfl)
            simp only [List.setIfInBounds_toArray, List.set_cons_zero, List.set_cons_succ]
            refine wpAnyH_done (by kernel_rfl) ⟨rfl, ?_⟩ 0
            go_wp2_with fail
            go_meet
            exact ⟨_, rfl, hb3, hp3, by first | exact hb2.size | exact hbv2.size⟩
        · go_simp
          have hp0 := Blk.new w2 54 #[.int .u64 0, .int .u64 0, .int .u64 0, .int .u64 0, .int .i64 0, .string ⟨#[]⟩, .string ⟨#[]⟩, .int .u64 0, .int .u64 0]
          have hba := hb2.alloc hb2.size (.cells #[.int .u64 0, .int .u64 0, .int .u64 0, .int .u64 0, .int .i64 0, .string ⟨#[]⟩, .string ⟨#[]⟩, .int .u64 0, .int .u64 0] 54)
          refine hK.out _ _ (mk _ hba) (fun hSw => ?_)
          clear hK K
          simp only [List.setIfInBounds_toArray, List.set_cons_zero, List.set_cons_succ]
          refine wpAnyH_ready (fuel := 6) (rs := [1]) (by kernel_rfl) (by simp) (AllReadyH.cons rfl (fun K hK => ?_) AllReadyH.nil)
          go_simp
          refine (hseq _ hba).mono ?_
          rintro e wq ⟨rfl, rfl⟩
          refine hK.out _ _ (mk _ hba) (fun hSw => ?_)
          clear hK K
          simp only [List.setIfInBounds_toArray, List.set_cons_zero, List.set_cons_succ]
          refine wpAnyH_ready (fuel := 5) (rs := [9]) (by kernel_rfl) (by simp) (AllReadyH.cons rfl (fun K hK => ?_) AllReadyH.nil)
          go_simp
          refine (hrec _).mono ?_
          rintro e wv ⟨rfl, hbv⟩
          have hbv2 := hba.trans (hbv.mono hba.size)
          have hpv := hp0.below hbv hp0.lt
          refine hK.out _ _ (mk _ hbv2) (fun hSw => ?_)
          clear hK K
          simp only [List.setIfInBounds_toArray, List.set_cons_zero, List.set_cons_succ]
          refine take_at 10 34 (fuel := 4) ?_ rfl rfl (by kernel_rfl) (by kernel_rfl) (by kernel_rfl) (Or.inl ⟨by rfl, ?_⟩) hSw ?_
          rotate_left
          · intro wx hSx
            (try dsimp only at hSx)
            go_split_ands
            go_simp
            (try with_reducible rfl)
          simp only [List.setIfInBounds_toArray, List.set_cons_zero, List.set_cons_succ]
          refine take_at 11 45 (fuel := 3) ?_ rfl rfl (by kernel_rfl) (by kernel_rfl) (by kernel_rfl) (Or.inl ⟨by rfl, ?_⟩) hSw ?_
          rotate_left
          · intro wx hSx
            (try dsimp only at hSx)
            go_split_ands
            go_simp
            (try with_reducible rfl)
          simp only [List.setIfInBounds_toArray, List.set_cons_zero, List.set_cons_succ]
          refine take_at 12 46 (fuel := 2) ?_ rfl rfl (by kernel_rfl) (by kernel_rfl) (by kernel_rfl) (Or.inl ⟨by rfl, ?_⟩) hSw ?_
          rotate_left
          · intro wx hSx
            (try dsimp only at hSx)
            go_split_ands
            go_simp
            (try with_reducible rfl)
          simp only [List.setIfInBounds_toArray, List.set_cons_zero, List.set_cons_succ]
          refine wpAnyH_ready (fuel := 1) (rs := [14]) (by kernel_rfl) (by simp) (AllReadyH.cons rfl (fun K hK => ?_) AllReadyH.nil)
          go_simp
          have hle : wr.heap.size ≤ w2.heap.size := hb2.size
          have g0 := hpv.free 0
          have g1 := hpv.free 1
          have g2 := hpv.free 2
          have g3 := hpv.free 3
          have g4 := hpv.free 4
          have g5 := hpv.free 5
          have g6 := hpv.free 6
          have g7 := hpv.free 7
          have g8 := hpv.free 8
          have c0 : wv.cell? ⟨w2.heap.size, 0, none⟩ = some (.int .u64 0) := hpv.cell 0
          have c1 : wv.cell? ⟨w2.heap.size, 1, none⟩ = some (.int .u64 0) := hpv.cell 1
          have c2 : wv.cell? ⟨w2.heap.size, 2, none⟩ = some (.int .u64 0) := hpv.cell 2
          have c3 : wv.cell? ⟨w2.heap.size, 3, none⟩ = some (.int .u64 0) := hpv.cell 3
          have c4 : wv.cell? ⟨w2.heap.size, 4, none⟩ = some (.int .i64 0) := hpv.cell 4
          have c5 : wv.cell? ⟨w2.heap.size, 5, none⟩ = some (.string ⟨#[]⟩) := hpv.cell 5
          have c6 : wv.cell? ⟨w2.heap.size, 6, none⟩ = some (.string ⟨#[]⟩) := hpv.cell 6
          have c7 : wv.cell? ⟨w2.heap.size, 7, none⟩ = some (.int .u64 0) := hpv.cell 7
          have c8 : wv.cell? ⟨w2.heap.size, 8, none⟩ = some (.int .u64 0) := hpv.cell 8
          go_simp
          have hp3 := put9 hpv (.int .u64 (yy.seq : Int)) (.int .u64 (yy.now : Int)) (.int .u64 (yy.ses : Int)) (.int .u64 (yy.num : Int)) (.int .i64 yy.op.kind) (.string (str yy.op.key)) (.string (str yy.op.val)) (.int .u64 (yy.op.ttl : Int)) (.int .u64 (yy.op.ver : Int))
          have hb3 := below9 hbv2 (g := w2.heap.size) hle (.int .u64 (yy.seq : Int)) (.int .u64 (yy.now : Int)) (.int .u64 (yy.ses : Int)) (.int .u64 (yy.num : Int)) (.int .i64 yy.op.kind) (.string (str yy.op.key)) (.string (str yy.op.val)) (.int .u64 (yy.op.ttl : Int)) (.int .u64 (yy.op.ver : Int))
          refine hK.out _ _ (mk _ hb3) (fun hSw => ?_)
          clear hK K
          simp only [List.setIfInBounds_toArray, List.set_cons_zero, List.set_cons_succ]
          refine take_at 15 11 (fuel := 0) ?_ rfl rfl (by kernel_rfl) (by kernel_rfl) (by kernel_rfl) (Or.inl ⟨by rfl, ?_⟩) hSw ?_
          rotate_left
          · intro wx hSx
            (try dsimp only at hSx)
            go_split_ands
            go_simp
            (try with_reducible rfl)
          simp only [List.setIfInBounds_toArray, List.set_cons_zero, List.set_cons_succ]
          refine wpAnyH_done (by kernel_rfl) ⟨rfl, ?_⟩ 0
          go_wp2_with fail
          go_meet
          exact ⟨_, rfl, hb3, hp3, by first | exact hb2.size | exact hbv2.size⟩
      case rest =>
        obtain ⟨q, rfl, hbx, hpx, hql⟩ := hcut
        have hnot : ¬ Own bq T M S H1 q := hA.not hql
        have hAx := (hA.below hbx).beside hnot (Nat.le_trans hwl.size hql) 3 (.int .u64 ((j : Int) + 1))
        have hlx : Loc q 54 #[.int .u64 (yy.seq : Int), .int .u64 (yy.now : Int), .int .u64 (yy.ses : Int), .int .u64 ((j : Int) + 1), .int .i64 yy.op.kind, .string (str yy.op.key), .string (str yy.op.val), .int .u64 (yy.op.ttl : Int), .int .u64 (yy.op.ver : Int)] bq T M S H1 (wc.setCell ⟨q, 3, none⟩ (.int .u64 ((j : Int) + 1))) := ⟨hpx.put 3 _, hnot⟩
        have c3 : wc.cell? ⟨q, 3, none⟩ = some (.int .u64 (yy.num : Int)) := hpx.cell 3
        have g3 := hpx.free 3
        clear hA mk hseq hrec hat hb2 hbx hpx
        go_upto_region 8 with (fail)
        generalize wc.setCell ⟨q, 3, none⟩ (.int .u64 ((j : Int) + 1)) = w5 at *
        clear c3 g3
        have y0 : w5.cell? ⟨q, 0, none⟩ = some (.int .u64 (yy.seq : Int)) := hlx.c rfl
        have y1 : w5.cell? ⟨q, 1, none⟩ = some (.int .u64 (yy.now : Int)) := hlx.c rfl
        have y2 : w5.cell? ⟨q, 2, none⟩ = some (.int .u64 (yy.ses : Int)) := hlx.c rfl
        have y3 : w5.cell? ⟨q, 3, none⟩ = some (.int .u64 ((j : Int) + 1)) := hlx.c rfl
        have y4 : w5.cell? ⟨q, 4, none⟩ = some (.int .i64 yy.op.kind) := hlx.c rfl
        have y5 : w5.cell? ⟨q, 5, none⟩ = some (.string (str yy.op.key)) := hlx.c rfl
        have y6 : w5.cell? ⟨q, 6, none⟩ = some (.string (str yy.op.val)) := hlx.c rfl
        have y7 : w5.cell? ⟨q, 7, none⟩ = some (.int .u64 (yy.op.ttl : Int)) := hlx.c rfl
        have y8 : w5.cell? ⟨q, 8, none⟩ = some (.int .u64 (yy.op.ver : Int)) := hlx.c rfl
        go_wp2_with fail
        refine (hap hAx).mono ?_
        rintro e w7 ⟨rfl, H7, h7, s7⟩
        have hl7 := (hlx.step s7).alloc (.cells rr.cs 61)
        have hr7 := Loc.new h7 61 rr.cs
        replace h7 := h7.alloc (.cells rr.cs 61)
        clear hap hAx hlx s7 y0 y1 y2 y3 y4 y5 y6 y7 y8 hT
        go_upto_region 9 with (fail)
        generalize w7.alloc (.cells rr.cs 61) = w8 at *
        generalize w7.heap.size = r at *
        have k4 : w8.cell? ⟨q, 4, none⟩ = some (.int .i64 yy.op.kind) := hl7.c rfl
        have r0 : w8.cell? ⟨r, 0, none⟩ = some (.int .i64 (rr.e : Int)) := hr7.c rfl
        rw [HK.out] at k4
        clear hl7 hr7
        rcases hnx with ⟨hne, hk, ⟨hre, hT2⟩ | ⟨hre, hT2⟩⟩ | ⟨hno, hT2⟩
        · subst hne
          rw [hk] at k4
          rw [hre] at r0
          have r1 : w8.cell? ⟨r, 0, none⟩ = some (.int .i64 0) := r0
          have HT := Lib.hid hT2
          clear hk hre r0 hT2
          go_wp2_with fail
          go_roundw
          case rel => exact ⟨j + 1, asked + 1, hits + 1, H7, s2, by omega, by omega, rfl, rfl, rfl, HT.out, h7⟩
          case measure => simp [intOf]; omega
        · subst hne
          rw [hk] at k4
          rw [hre] at r0
          have r1 : w8.cell? ⟨r, 0, none⟩ = some (.int .i64 2) := r0
          have HT := Lib.hid hT2
          clear hk hre r0 hT2
          go_wp2_with fail
          go_roundw
          case rel => exact ⟨j + 1, asked + 1, hits, H7, s2, by omega, by omega, rfl, rfl, rfl, HT.out, h7⟩
          case measure => simp [intOf]; omega
        · have HT := Lib.hid hT2
          clear hT2
          by_cases hne : ne = 0
          · subst hne
            have hk : ¬ oj.kind = 1 := hno.resolve_left (fun h => h rfl)
            have e5 : (oj.kind == 1) = false := beq_eq_false_iff_ne.2 hk
            clear hno
            go_wp2_with fail
            go_roundw
            case rel => exact ⟨j + 1, asked, hits, H7, s2, by omega, by omega, rfl, rfl, rfl, HT.out, h7⟩
            case measure => simp [intOf]; omega
          · have e5 : ((ne : Int) == 0) = false := beq_eq_false_iff_ne.2 (by omega)
            have e6 : ¬ (ne : Int) = 0 := by omega
            clear hno
            go_wp2_with fail
            go_roundw
            case rel => exact ⟨j + 1, asked, hits, H7, s2, by omega, by omega, rfl, rfl, rfl, HT.out, h7⟩
            case measure => simp [intOf]; omega
    · have ht := fun {W : World} (hb : Below wr.heap.size wr W) => tally_t (hA.below hb)
      rw [hT.asked, hT.hits] at ht
      have hwl := hA.since
      have hcc : ¬ j < len ∨ (j < len ∧ ¬ j < 80) := by omega
      clear hT hA h3
      rcases hcc with hc1 | ⟨hc1, hc2⟩
      · have d1 : decide ((j : Int) < (len : Int)) = false := decide_eq_false (by omega)
        have d2 : ¬ (j : Int) < (len : Int) := by omega
        go_wp2_with fail
        refine (awake_c _).mono ?_
        rintro e w6 ⟨rfl, hb6⟩
        go_wp2_with fail
        refine (ht hb6).mono ?_
        rintro e w7 ⟨rfl, hb7⟩
        have hbel := (hwl.trans (hb6.mono hwl.size)).trans (hb7.mono (Nat.le_trans hwl.size hb6.size))
        clear ht hb6 hb7
        go_wp2_with fail
        go_ret
        exact ⟨rfl, hbel⟩
      · have d1 : decide ((j : Int) < (len : Int)) = true := decide_eq_true (by omega)
        have d2 : (j : Int) < (len : Int) := by omega
        have d3 : decide ((j : Int) < 80) = false := decide_eq_false (by omega)
        have d4 : ¬ (j : Int) < 80 := by omega
        go_wp2_with fail
        refine (awake_c _).mono ?_
        rintro e w6 ⟨rfl, hb6⟩
        go_wp2_with fail
        refine (ht hb6).mono ?_
        rintro e w7 ⟨rfl, hb7⟩
        have hbel := (hwl.trans (hb6.mono hwl.size)).trans (hb7.mono (Nat.le_trans hwl.size hb6.size))
        clear ht hb6 hb7
        go_wp2_with fail
        go_ret
        exact ⟨rfl, hbel⟩
set_option linter.unusedVariables false in
set_option maxRecDepth 100000 in
theorem storeTally_lifted (os : Os) (started : os.Started) (H : Type) (enc : TypeId × Value → H) :
    ReturnsInHanded {} Tryz.checked os 11 .any (Rows.storeTallySpec.pre6 enc Tryz.prog Tryz.f11 Rows.storeTallyRow.domain false) (Rows.storeTallySpec.post enc Tryz.prog Tryz.f11 false true false false) := by
  refine returnsInHanded_of_change (C := Tryz.checked) Kit.own started (by kernel_rfl) Tryz.func11
    (ChangeSpec.witness6 (enc := enc) (C := Tryz.checked) false ⟨#[], #[.agg #[.int .i64 0, .int .i64 0, .int .i64 0, .int .u64 0], .slice none 0 0], []⟩ 8 (by kernel_rfl) (by kernel_rfl) (by kernel_rfl) (by kernel_rfl)) ?_
  intro W base args ds gs before hval0 hW hcnd _
  have hval : ∀ (j : Nat) t v, Tryz.f11.params[j]? = some t → args[j]? = some v → Value.okWide Tryz.prog W .any base t v := hval0
  have hW' := hW
  obtain ⟨p, q, hA0, hV, rfl, hfz, hnd⟩ := hW
  have hA : DataW.TrodAll enc Tryz.prog W 0 (fun _ => true) true Tryz.f11.params.toList args.toList ds p := hA0
  rw [Tryz.params11] at hA hval
  obtain ⟨v0, vs0, d0, ds0, p0, q0, hargs, rfl, rfl, h0, r0⟩ := trodAll_cons hA
  obtain ⟨v1, vs1, d1, ds1, p1, q1, rfl, rfl, rfl, h1, r1⟩ := trodAll_cons r0
  obtain ⟨rfl, rfl, rfl⟩ := trodAll_nil r1
  obtain ⟨rfl, rfl⟩ := trodVars_none hV
  obtain rfl : args = #[v0, v1] := by cases args; simp_all
  obtain ⟨c0_0, c0_1, c0_2, c0_3, y0_0, y0_1, y0_2, y0_3, m0, rfl, rfl, rfl, hy0_0, hy0_1, hy0_2, hy0_3⟩ := Joins.open_agg4 Tryz.underlying24 (by kernel_rfl) (by kernel_rfl) (hval 0 24 v0 rfl rfl) h0
  obtain ⟨a0_0, e0_0, rfl, w0_0⟩ := DataW.trod_int Tryz.underlying3 hy0_0
  obtain rfl := (List.cons.inj e0_0).1
  obtain ⟨a0_1, e0_1, rfl, w0_1⟩ := DataW.trod_int Tryz.underlying3 hy0_1
  obtain rfl := (List.cons.inj e0_1).1
  obtain ⟨a0_2, e0_2, rfl, w0_2⟩ := DataW.trod_int Tryz.underlying3 hy0_2
  obtain rfl := (List.cons.inj e0_2).1
  obtain ⟨a0_3, e0_3, rfl, w0_3⟩ := DataW.trod_int Tryz.underlying22 hy0_3
  obtain rfl := (List.cons.inj e0_3).1
  obtain ⟨b1, c1, e1, rfl⟩ := okWide_slice Tryz.underlying91 (hval 1 91 v1 rfl rfl)
  obtain ⟨fuel1, hf1⟩ := h1
  obtain ⟨ao1, len1, cap1, sb1, off1, tx1, hv1, ht1⟩ := open_opsT (show DataW.trod enc Tryz.prog W 0 (fun _ => true) true fuel1 91 [.slice b1 c1 e1] = some _ from hf1)
  injection hv1 with hv1x hv1y hv1z
  subst hv1x hv1y hv1z
  clear hA0 hval0
  refine (storeTally_walk a0_0 w0_0 a0_1 w0_1 a0_2 w0_2 a0_3 w0_3 _ _ _ _ _ _ W ht1).mono fun e W' ⟨he, hg⟩ => ?_
  subst he
  exact ⟨_, rfl, Kit.law_post hW' rfl (by kernel_rfl) rfl (by kernel_rfl) hg⟩

theorem storeTally_over : Rows.storeTallyRow.holds Tryz.pinned (OpenSpec.ofChange Rows.storeTallySpec) :=
  OpenClaim.holds_of_wide 11 Tryz.f11 rfl rfl rfl rfl rfl rfl rfl ⟨rfl, rfl, rfl, rfl, rfl⟩ rfl rfl rfl rfl rfl (by kernel_rfl) Tryz.func11 (by kernel_rfl)
    (of_decide_eq_true (by kernel_rfl)) (by unfold Func.isWrapper; first | (rw [if_pos (by decide +kernel)]; kernel_rfl) | (rw [if_neg (by decide +kernel)]; exact ⟨rfl, rfl⟩))
    (fun os started H enc _ => storeTally_lifted os started H enc)

theorem storeTally_holds : Rows.StoreTallySaid :=
  storeTally_over

end
end Go.Proofs.YtniniaokibnhfaaGreat.Storey
