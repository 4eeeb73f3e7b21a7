/- Layer 12 (store): for every input the call returns true and leaves what it was given as it was: a mark goes on by one place, lets end what ends, and changes nothing else: no session, no count (StoreMarks). No condition. -/
import Derived.Test.YtlnjnpchkdipdaaGreatKit
import Derived.Test.YtlnjnpchkdipdaaGreatStoreToldAll
import Derived.Lib.SmallJoins
import Derived.Test.YtlnjnpchkdipdaaGreatStorePlayed
namespace Go.Proofs.YtlnjnpchkdipdaaGreat.Storey
open Go.ChangeShapes Go.WideShapes Go.ChangeAt Go.RowKit
open Wirey (Blk Row str str_size str_list Kp)
open Taby (En TabAt Tbl tp find ins drop size ended St)
open Policyy (Pv HeldP StepP Tell)
open Ringy (Key)
open Regy

section
variable {w0 w w' w'' : World} {B b T M C S : Nat} {H H' : Nat → Prop} {s t : Sv} {k : Key} {v : Value} {l : List Key} {o : Opn} {x : Rcd}
/-- A mark behind all. -/
def mk5 (s : Sv) (a : Nat) : Rcd := ⟨s.seq + 1, a, 99, 1, ⟨5, [], [], 0, 0⟩⟩
/-- Does an entry stay? -/
def stays (a : Nat) (y : En) : Bool := decide (y.fin = 0) || decide (a < y.fin)
theorem mk5_chk : (⟨5, [], [], 0, 0⟩ : Opn).chk = true := by decide
theorem mark_spec {s : Sv} (h : s.Ok) {a : Nat} (ha : a < 18446744073709551616) (hq : s.seq + 1 < 18446744073709551616) :
    ∃ t, (s.apply (mk5 s a)).1 = t ∧ (s.apply (mk5 s a)).2 = (.of 0, 0) ∧ t.Ok ∧ t.seq = s.seq + 1 ∧ t.asked = s.asked ∧ t.hits = s.hits ∧ t.ss = s.ss ∧ a ≤ t.now ∧ t.m.length = (s.m.filter (stays a)).length := by
  obtain ⟨h1, h2, h3⟩ := (h.place hq).move ha
  obtain ⟨-, -, -, -, f5, f6, -, f8, f9, f10⟩ := h3.f
  have hA : s.apply (mk5 s a) = (((s.place (s.seq + 1)).moveTo a), .of 0, 0) := by
    unfold Sv.apply
    rw [if_neg (by show ¬ (⟨5, [], [], 0, 0⟩ : Opn).chk = false; rw [mk5_chk]; decide), if_neg (fun e => e rfl)]
    rfl
  refine ⟨_, rfl, by rw [hA], ?_⟩
  rw [hA]
  refine ⟨h1, f5, f8, f9, f10, ?_, ?_⟩
  · show a ≤ ((s.place (s.seq + 1)).moveTo a).now
    rw [f6]
    exact Nat.le_max_right _ _
  · show ((s.place (s.seq + 1)).moveTo a).m.length = _
    rw [h2]
    refine congrArg List.length (List.filter_congr fun y hy => ?_)
    have hl := h.live y hy
    show lives (max s.now a) y = stays a y
    unfold lives stays
    rcases hl with e | e
    · rw [e]; simp
    · rw [decide_eq_true (show 0 < y.fin by omega), decide_eq_false (show ¬ y.fin = 0 by omega), Bool.true_and, Bool.false_or]
      by_cases c : a < y.fin
      · rw [decide_eq_true c, decide_eq_false (by omega)]; rfl
      · rw [decide_eq_false c, decide_eq_true (by omega)]; rfl
/-- Entries that were told, beside the cache. -/
structure Ent (b T M S : Nat) (H : Nat → Prop) (v : Value) (l : List En) (W : World) : Prop where
  sl : Taby.Sl W 0 v l
  no : ∀ g, v.ownBlock = some g → ¬ Own b T M S H g
theorem own_step {q : Nat} (hs : Stp b T M S w H w' H') (hlt : q < w.heap.size) (no : ¬ Own b T M S H q) : ¬ Own b T M S H' q := fun ho => by
  rcases ho with h1 | h1 | h1 | h1 | h1
  · exact no (.inl h1)
  · exact no (.inr (.inl h1))
  · exact no (.inr (.inr (.inl h1)))
  · exact no (.inr (.inr (.inr (.inl h1))))
  · rcases hs.new q h1 with h2 | h2
    · exact no (.inr (.inr (.inr (.inr h2))))
    · omega
theorem Ent.step {l : List En} (h : Ent b T M S H v l w) (hs : Stp b T M S w H w' H') : Ent b T M S H' v l w' :=
  ⟨h.sl.stay fun g hg => hs.kp.block g (h.sl.lt g hg).2 (h.no g hg), fun g hg => own_step hs (h.sl.lt g hg).2 (h.no g hg)⟩
theorem Ent.below {l : List En} (h : Ent b T M S H v l w) (hb : Below w.heap.size w w') : Ent b T M S H v l w' := h.step (.of_below hb (Nat.le_refl _))
theorem Ent.new {l : List En} (h : At w0 w b T M C S H s) (hl : Taby.Sl w' w.heap.size v l) : Ent b T M S H v l w' := ⟨hl.low (Nat.zero_le _), fun g hg => h.not (hl.lt g hg).1⟩
/-- How many of the first ones stay. -/
def cnt (a : Nat) (l : List En) (j : Nat) : Nat := ((l.take j).filter (stays a)).length
theorem cnt_next {a : Nat} {l : List En} {j : Nat} {y : En} (hy : l[j]? = some y) : cnt a l (j + 1) = if stays a y = true then cnt a l j + 1 else cnt a l j := by
  unfold cnt
  rw [List.take_add_one, hy, Option.toList_some, List.filter_append, List.length_append]
  cases e : stays a y <;> simp [e]
theorem cnt_le (a : Nat) (l : List En) (j : Nat) : cnt a l j ≤ l.length := by
  unfold cnt
  exact Nat.le_trans (List.length_filter_le _ _) (List.length_take_le' _ _)
set_option maxHeartbeats 4000000 in
set_option maxRecDepth 100000 in
theorem storeMarks_walk (p : Int) (_ : (Lit.int .i64 p).wf = true) (n : Int) (_ : (Lit.int .i64 n).wf = true) (bb : Int) (_ : (Lit.int .i64 bb).wf = true) (seed0 : Int) (wsd : (Lit.int .u64 seed0).wf = true) (ao : Option Addr) (len cap sb off : Nat) (X : Nat → Ac) (k0 : Int) (wk : (Lit.int .u64 k0).wf = true) (w : World) (hX : Acs w ao len sb off X) :
    Calls Tryz.prog 6 #[.agg #[.int .i64 p, .int .i64 n, .int .i64 bb, .int .u64 seed0], .slice ao len cap, .int .u64 k0] w fun e w' => e = .returned (.bool true) ∧ Below w.heap.size w w' := by
  obtain ⟨seed, rfl, hsd⟩ := Arry.u64_nat wsd
  obtain ⟨kk, rfl, hkk⟩ := Arry.u64_nat wk
  obtain ⟨tk, htk, hte⟩ := Bity.u64_cut 15 4 rfl (by omega) (kk : Int)
  have hte2 : bits .and .u64 (kk : Int) 15 = (tk : Int) := hte
  clear hte
  have hfr := cfg_fresh p n bb hsd
  have hmost := hX.most
  unfold maxLen at hmost
  have hpl := pl_inv (X := X) (n := min len 60) hfr (fun i hi => hX.big i (by omega)) (by omega) (min len 60) (Nat.le_refl _)
  have hpc := fun {W : World} (hb : Below w.heap.size w W) => played_c p n bb hsd ao len cap sb off X W (hX.below hb)
  generalize (pl X (cfgS p n bb seed) (min len 60)).1 = s at *
  generalize (pl X (cfgS p n bb seed) (min len 60)).2 = nw at *
  have q1 := hpl.seq
  have q2 := hpl.at_
  have hss := hpl.ss
  have hO := hpl.ok
  have hlen := hO.toBase.len.2
  have hn2 := hO.n2
  clear hpl hfr hX
  obtain ⟨t, ht1, ht2, hOt, ts, ta, th, tss, tn, tl⟩ := mark_spec hO (a := nw + tk) (by omega) (by omega)
  have hlt := hOt.toBase.len.2
  have hnt := hOt.n2
  have hx5 : (mk5 s (nw + tk)).Ok := ⟨(by show s.seq + 1 < _; omega), (by show nw + tk < _; omega), (by show (99 : Nat) < _; omega), (by show (1 : Nat) < _; omega), Nat.zero_le _, Nat.zero_le _, (by show (0 : Nat) < _; omega), (by show (0 : Nat) < _; omega)⟩
  have hap := fun {W : World} {b T M C S : Nat} {H : Nat → Prop} (h : At w W b T M C S H s) => (show Calls Tryz.prog 13 #[tp b, .agg #[.int .u64 ((s.seq : Int) + 1), .int .u64 ((nw : Int) + (tk : Int)), .int .u64 99, .int .u64 1, .int .i64 5, .string ⟨#[]⟩, .string ⟨#[]⟩, .int .u64 0, .int .u64 0]] W fun e w' => e = .returned (.tuple #[.agg #[.int .i64 0, .string ⟨#[]⟩, .int .u64 0], .int .i64 0]) ∧ ∃ H', At w w' b T M C S H' t ∧ Stp b T M S W H w' H' from apply1_a (x := mk5 s (nw + tk)) hO hx5 ht1 ht2 h)
  have hse : seek 99 t.ss = none := seek_none.2 fun y hy e => by rw [tss] at hy; have := (hss y hy).1; omega
  have hto := fun {W : World} {b T M C S : Nat} {H : Nat → Prop} (h : At w W b T M C S H t) => (show Calls Tryz.prog 16 #[tp b, .int .u64 99] W fun e w' => e = .returned (.tuple #[.int .u64 0, .agg #[.int .i64 0, .string ⟨#[]⟩, .int .u64 0], .bool false]) ∧ Below W.heap.size W w' from by have h9 := told_s (i := 99) (by omega) h; unfold numOf repOf at h9; rw [hse] at h9; exact h9)
  have hsq := fun {W : World} {b T M C S : Nat} {H : Nat → Prop} (h : At w W b T M C S H t) => (show Calls Tryz.prog 12 #[tp b] W fun e w' => e = .returned (.int .u64 ((s.seq : Int) + 1)) ∧ W = w' from by have h9 := seq_s h; rw [ts] at h9; exact h9)
  have hta := fun {W : World} {b T M C S : Nat} {H : Nat → Prop} (h : At w W b T M C S H t) => (show Calls Tryz.prog 22 #[tp b] W fun e w' => e = .returned (.agg #[.int .i64 (s.asked : Int), .int .i64 (s.hits : Int)]) ∧ Below W.heap.size W w' from by have h9 := tally_t h; rw [ta, th] at h9; exact h9)
  have hen := fun {W : World} {b T M C S : Nat} {H : Nat → Prop} (h : At w W b T M C S H t) => (show Calls Tryz.prog 21 #[tp b] W fun e w' => ∃ a c, e = .returned (.slice a (cnt (nw + tk) s.m s.m.length) c) ∧ Below W.heap.size W w' from (entries_s (by omega) h).mono fun e w' ⟨v, he, hv, hb⟩ => by
    obtain ⟨a, c, rfl⟩ := hv.form
    refine ⟨a, c, ?_, hb⟩
    rw [he, tl]; unfold cnt; rw [List.take_length])
  have hno := fun {W : World} {b T M C S : Nat} {H : Nat → Prop} (h : At w W b T M C S H t) => now_s h
  clear ht1 ht2 hx5 hse ts ta th tss tl hss
  generalize t.now = tnow at *
  have hw1 : IntKind.u64.wrap ((s.seq : Int) + 1) = (s.seq : Int) + 1 := IntWalk.u64_in _ (by omega)
  have hw2 : IntKind.u64.wrap ((nw : Int) + (tk : Int)) = (nw : Int) + (tk : Int) := IntWalk.u64_in _ (by omega)
  have hb0 := (Below.refl _ w).alloc (Nat.le_refl _) (.cells #[.int .i64 p, .int .i64 n, .int .i64 bb, .int .u64 (seed : Int)] 24)
  go_enter Tryz.func6, Tryz.ntmps6
  go_wp2_with fail
  refine (hpc hb0).mono ?_
  rintro e w1 ⟨b, T, M, C, S, H, rfl, h1⟩
  replace h1 : At w w1 b T M C S H s := h1.from_ hb0
  clear hpc hb0
  go_wp2_with fail
  refine (awake_c _).mono ?_
  rintro e w2 ⟨rfl, hb2⟩
  have h2 := h1.below hb2
  clear h1 hb2
  go_wp2_with fail
  refine (entries_s (by omega) h2).mono ?_
  rintro e w3 ⟨v, rfl, hsl, hb3⟩
  have h3 := h2.below hb3
  have hE3 := Ent.new h2 hsl
  obtain ⟨va, vc, rfl⟩ := hsl.form
  clear h2 hb3 hsl
  go_wp2_with fail
  refine (tally_t h3).mono ?_
  rintro e w4 ⟨rfl, hb4⟩
  have h4 := h3.below hb4
  have hE4 := hE3.below hb4
  clear h3 hE3 hb4
  go_wp2_with fail
  refine (seq_s h4).mono ?_
  rintro e w5 ⟨rfl, rfl⟩
  have hL4 := Loc.new h4 78 #[.int .i64 (s.asked : Int), .int .i64 (s.hits : Int)]
  replace hE4 := hE4.below ((Below.refl _ w4).alloc (Nat.le_refl _) (.cells #[.int .i64 (s.asked : Int), .int .i64 (s.hits : Int)] 78))
  replace h4 := h4.alloc (.cells #[.int .i64 (s.asked : Int), .int .i64 (s.hits : Int)] 78)
  go_upto_region 5 with (fail)
  generalize w4.alloc (.cells #[.int .i64 (s.asked : Int), .int .i64 (s.hits : Int)] 78) = w6 at *
  generalize w4.heap.size = q at *
  go_wp2_with fail
  refine (hap h4).mono ?_
  rintro e w7 ⟨rfl, H7, h7, s7⟩
  have hL7 := (hL4.step s7).alloc (.cells #[.int .i64 0, .string ⟨#[]⟩, .int .u64 0] 61)
  have hE7 := (hE4.step s7).below ((Below.refl _ w7).alloc (Nat.le_refl _) (.cells #[.int .i64 0, .string ⟨#[]⟩, .int .u64 0] 61))
  have hR7 := Loc.new h7 61 #[.int .i64 0, .string ⟨#[]⟩, .int .u64 0]
  replace h7 := h7.alloc (.cells #[.int .i64 0, .string ⟨#[]⟩, .int .u64 0] 61)
  clear hap h4 hL4 hE4 s7
  go_upto_region 7 with (fail)
  generalize w7.alloc (.cells #[.int .i64 0, .string ⟨#[]⟩, .int .u64 0] 61) = w8 at *
  generalize w7.heap.size = r at *
  go_wp2_with fail
  refine (hto h7).mono ?_
  rintro e w9 ⟨rfl, hb9⟩
  have hB := (Below.refl _ w9).alloc (Nat.le_refl _) (.cells #[.int .i64 0, .string ⟨#[]⟩, .int .u64 0] 61)
  have h9 := (h7.below hb9).below hB
  have hL9 := (hL7.below hb9).below hB
  have hR9 := (hR7.below hb9).below hB
  have hE9 := (hE7.below hb9).below hB
  clear h7 hL7 hR7 hE7 hb9 hto hB
  go_upto_region 8 with (fail)
  generalize w9.alloc (.cells #[.int .i64 0, .string ⟨#[]⟩, .int .u64 0] 61) = w10 at *
  generalize w9.heap.size = r2 at *
  go_wp2_with fail
  go_loopw [19, 20] (fun vl vi wx => ∃ j : Nat, j ≤ s.m.length ∧ vi = .int .i64 j ∧ vl = .int .i64 (cnt (nw + tk) s.m j : Nat) ∧ Below w10.heap.size w10 wx) (fun _ vi _ => s.m.length - (intOf vi).toNat)
  case atStart => exact ⟨0, Nat.zero_le _, rfl, rfl, Below.refl _ _⟩
  case round =>
    obtain ⟨j, hj, rfl, rfl, hbx⟩ := hrel
    have hE := hE9.below hbx
    by_cases h3 : j < s.m.length
    · obtain ⟨y, hy⟩ : ∃ y, s.m[j]? = some y := ⟨_, List.getElem?_eq_getElem h3⟩
      obtain ⟨g, rfl, -, hg, hcell⟩ := hE.sl.at_ hy
      obtain ⟨-, -, -, y3⟩ := hcell wr rfl
      have hlt1 : (j : Int) < (s.m.length : Int) := by omega
      have hcn := cnt_next (a := nw + tk) hy
      have hcle := cnt_le (nw + tk) s.m j
      unfold stays at hcn
      clear hE hcell hy h9 hL9 hR9 hE9 hsq hta hen hno hO
      have HBX := Lib.hid hbx
      clear hbx
      generalize cnt (nw + tk) s.m j = cj at *
      by_cases f0 : y.fin = 0
      · have d0 : ((y.fin : Int) == 0) = true := by rw [f0]; rfl
        have d1 : (y.fin : Int) = 0 := by omega
        rw [f0] at hcn
        have HC : Hid (cnt (nw + tk) s.m (j + 1) = cj + 1) := Lib.hid (by simpa using hcn)
        clear hcn f0
        go_wp2_with fail
        go_roundw
        case rel => exact ⟨j + 1, by omega, rfl, by rw [HC.out]; rfl, HBX.out⟩
        case measure => simp [intOf]; omega
      · have d0 : ((y.fin : Int) == 0) = false := beq_eq_false_iff_ne.2 (by omega)
        have d1 : ¬ (y.fin : Int) = 0 := by omega
        rw [decide_eq_false f0, Bool.false_or] at hcn
        by_cases f1 : nw + tk < y.fin
        · have d2 : decide ((nw : Int) + (tk : Int) < (y.fin : Int)) = true := decide_eq_true (by omega)
          have d3 : (nw : Int) + (tk : Int) < (y.fin : Int) := by omega
          have HC : Hid (cnt (nw + tk) s.m (j + 1) = cj + 1) := Lib.hid (by rw [decide_eq_true f1] at hcn; simpa using hcn)
          clear hcn f0 f1
          go_wp2_with fail
          go_roundw
          case rel => exact ⟨j + 1, by omega, rfl, by rw [HC.out]; rfl, HBX.out⟩
          case measure => simp [intOf]; omega
        · have d2 : decide ((nw : Int) + (tk : Int) < (y.fin : Int)) = false := decide_eq_false (by omega)
          have d3 : ¬ (nw : Int) + (tk : Int) < (y.fin : Int) := by omega
          have HC : Hid (cnt (nw + tk) s.m (j + 1) = cj) := Lib.hid (by rw [decide_eq_false f1] at hcn; simpa using hcn)
          clear hcn f0 f1
          go_wp2_with fail
          go_roundw
          case rel => exact ⟨j + 1, by omega, rfl, by rw [HC.out], HBX.out⟩
          case measure => simp [intOf]; omega
    · obtain rfl : j = s.m.length := by omega
      have h10 := h9.below hbx
      have hL10 := hL9.below hbx
      have hR10 := hR9.below hbx
      have hwl := h10.since
      clear hE hE9 h9 hL9 hR9 hbx
      have hge : ¬ (s.m.length : Int) < (s.m.length : Int) := by omega
      have dn : decide ((nw : Int) + (tk : Int) ≤ (tnow : Int)) = true := decide_eq_true (by omega)
      have mk : ∀ W, Below wr.heap.size wr W → (fun W => W.cell? ⟨r, 0, none⟩ = some (.int .i64 0) ∧ W.cell? ⟨r, 1, none⟩ = some (.string ⟨#[]⟩) ∧ W.cell? ⟨r, 2, none⟩ = some (.int .u64 0) ∧ W.cell? ⟨q, 0, none⟩ = some (.int .i64 (s.asked : Int)) ∧ W.cell? ⟨q, 1, none⟩ = some (.int .i64 (s.hits : Int)) ∧ Below wr.heap.size wr W) W := fun W hb => by
        have l1 := hL10.below hb
        have l2 := hR10.below hb
        exact ⟨l2.c rfl, l2.c rfl, l2.c rfl, l1.c rfl, l1.c rfl, hb⟩
      go_wp2_with fail
      refine region_only 38 #[false, false, false, false, false, false, false, false, false, false, false, false, false, false, false, false, false, false, false, false, false, false, false, false, false, false, false, false, false, false, false, false, false, false, false, false, false, false] (S := (fun W => W.cell? ⟨r, 0, none⟩ = some (.int .i64 0) ∧ W.cell? ⟨r, 1, none⟩ = some (.string ⟨#[]⟩) ∧ W.cell? ⟨r, 2, none⟩ = some (.int .u64 0) ∧ W.cell? ⟨q, 0, none⟩ = some (.int .i64 (s.asked : Int)) ∧ W.cell? ⟨q, 1, none⟩ = some (.int .i64 (s.hits : Int)) ∧ Below wr.heap.size wr W)) rfl rfl (by kernel_rfl) (mk _ (Below.refl _ _).drew) (fun hSw => ?_)
      refine take_at 0 83 (fuel := 37) ?_ rfl rfl (by kernel_rfl) (by kernel_rfl) (by kernel_rfl) (Or.inl ⟨by rfl, ?_⟩) hSw ?_
      rotate_left
      · intro wx hSx
        (try dsimp only at hSx)
        go_split_ands
        go_simp
        (try with_reducible rfl)
      simp only [List.setIfInBounds_toArray, List.set_cons_zero, List.set_cons_succ]
      refine take_at 1 84 (fuel := 36) ?_ rfl rfl (by kernel_rfl) (by kernel_rfl) (by kernel_rfl) (Or.inl ⟨by rfl, ?_⟩) hSw ?_
      rotate_left
      · intro wx hSx
        (try dsimp only at hSx)
        go_split_ands
        go_simp
        (try with_reducible rfl)
      simp only [List.setIfInBounds_toArray, List.set_cons_zero, List.set_cons_succ]
      refine take_at 2 85 (fuel := 35) ?_ rfl rfl (by kernel_rfl) (by kernel_rfl) (by kernel_rfl) (Or.inl ⟨by rfl, ?_⟩) hSw ?_
      rotate_left
      · intro wx hSx
        (try dsimp only at hSx)
        go_split_ands
        go_simp
        (try with_reducible rfl)
      simp only [List.setIfInBounds_toArray, List.set_cons_zero, List.set_cons_succ]
      refine take_at 3 86 (fuel := 34) ?_ rfl rfl (by kernel_rfl) (by kernel_rfl) (by kernel_rfl) (Or.inl ⟨by rfl, ?_⟩) hSw ?_
      rotate_left
      · intro wx hSx
        (try dsimp only at hSx)
        go_split_ands
        go_simp
        (try with_reducible rfl)
      simp only [List.setIfInBounds_toArray, List.set_cons_zero, List.set_cons_succ]
      refine take_at 4 87 (fuel := 33) ?_ rfl rfl (by kernel_rfl) (by kernel_rfl) (by kernel_rfl) (Or.inl ⟨by rfl, ?_⟩) hSw ?_
      rotate_left
      · intro wx hSx
        (try dsimp only at hSx)
        go_split_ands
        go_simp
        (try with_reducible rfl)
      simp only [List.setIfInBounds_toArray, List.set_cons_zero, List.set_cons_succ]
      refine take_at 5 88 (fuel := 32) ?_ rfl rfl (by kernel_rfl) (by kernel_rfl) (by kernel_rfl) (Or.inl ⟨by rfl, ?_⟩) hSw ?_
      rotate_left
      · intro wx hSx
        (try dsimp only at hSx)
        go_split_ands
        go_simp
        (try with_reducible rfl)
      simp only [List.setIfInBounds_toArray, List.set_cons_zero, List.set_cons_succ]
      refine take_at 6 89 (fuel := 31) ?_ rfl rfl (by kernel_rfl) (by kernel_rfl) (by kernel_rfl) (Or.inl ⟨by rfl, ?_⟩) hSw ?_
      rotate_left
      · intro wx hSx
        (try dsimp only at hSx)
        go_split_ands
        go_simp
        (try with_reducible rfl)
      simp only [List.setIfInBounds_toArray, List.set_cons_zero, List.set_cons_succ]
      refine take_at 7 90 (fuel := 30) ?_ rfl rfl (by kernel_rfl) (by kernel_rfl) (by kernel_rfl) (Or.inl ⟨by rfl, ?_⟩) hSw ?_
      rotate_left
      · intro wx hSx
        (try dsimp only at hSx)
        go_split_ands
        go_simp
        (try with_reducible rfl)
      simp only [List.setIfInBounds_toArray, List.set_cons_zero, List.set_cons_succ]
      refine take_at 8 91 (fuel := 29) ?_ rfl rfl (by kernel_rfl) (by kernel_rfl) (by kernel_rfl) (Or.inl ⟨by rfl, ?_⟩) hSw ?_
      rotate_left
      · intro wx hSx
        (try dsimp only at hSx)
        go_split_ands
        go_simp
        (try with_reducible rfl)
      simp only [List.setIfInBounds_toArray, List.set_cons_zero, List.set_cons_succ]
      refine take_at 9 92 (fuel := 28) ?_ rfl rfl (by kernel_rfl) (by kernel_rfl) (by kernel_rfl) (Or.inl ⟨by rfl, ?_⟩) hSw ?_
      rotate_left
      · intro wx hSx
        (try dsimp only at hSx)
        go_split_ands
        go_simp
        (try with_reducible rfl)
      simp only [List.setIfInBounds_toArray, List.set_cons_zero, List.set_cons_succ]
      refine take_at 10 93 (fuel := 27) ?_ rfl rfl (by kernel_rfl) (by kernel_rfl) (by kernel_rfl) (Or.inl ⟨by rfl, ?_⟩) hSw ?_
      rotate_left
      · intro wx hSx
        (try dsimp only at hSx)
        go_split_ands
        go_simp
        (try with_reducible rfl)
      simp only [List.setIfInBounds_toArray, List.set_cons_zero, List.set_cons_succ]
      refine take_at 11 94 (fuel := 26) ?_ rfl rfl (by kernel_rfl) (by kernel_rfl) (by kernel_rfl) (Or.inl ⟨by rfl, ?_⟩) hSw ?_
      rotate_left
      · intro wx hSx
        (try dsimp only at hSx)
        go_split_ands
        go_simp
        (try with_reducible rfl)
      simp only [List.setIfInBounds_toArray, List.set_cons_zero, List.set_cons_succ]
      refine take_at 12 95 (fuel := 25) ?_ rfl rfl (by kernel_rfl) (by kernel_rfl) (by kernel_rfl) (Or.inl ⟨by rfl, ?_⟩) hSw ?_
      rotate_left
      · intro wx hSx
        (try dsimp only at hSx)
        go_split_ands
        go_simp
        (try with_reducible rfl)
      simp only [List.setIfInBounds_toArray, List.set_cons_zero, List.set_cons_succ]
      refine take_at 14 97 (fuel := 24) ?_ rfl rfl (by kernel_rfl) (by kernel_rfl) (by kernel_rfl) (Or.inl ⟨by rfl, ?_⟩) hSw ?_
      rotate_left
      · intro wx hSx
        (try dsimp only at hSx)
        go_split_ands
        go_simp
        (try with_reducible rfl)
      simp only [List.setIfInBounds_toArray, List.set_cons_zero, List.set_cons_succ]
      refine take_at 15 98 (fuel := 23) ?_ rfl rfl (by kernel_rfl) (by kernel_rfl) (by kernel_rfl) (Or.inl ⟨by rfl, ?_⟩) hSw ?_
      rotate_left
      · intro wx hSx
        (try dsimp only at hSx)
        go_split_ands
        go_simp
        (try with_reducible rfl)
      simp only [List.setIfInBounds_toArray, List.set_cons_zero, List.set_cons_succ]
      refine wpAnyH_ready (fuel := 22) (rs := [13]) (by kernel_rfl) (by simp) (AllReadyH.cons rfl (fun K hK => ?_) AllReadyH.nil)
      go_simp
      refine Calls.mono (hsq (h10.below hSw.2.2.2.2.2)) ?_
      rintro e wv ⟨rfl, rfl⟩
      refine hK.out _ _ hSw (fun hSw => ?_)
      clear hK K
      simp only [List.setIfInBounds_toArray, List.set_cons_zero, List.set_cons_succ]
      refine take_at 16 99 (fuel := 21) ?_ rfl rfl (by kernel_rfl) (by kernel_rfl) (by kernel_rfl) (Or.inl ⟨by rfl, ?_⟩) hSw ?_
      rotate_left
      · intro wx hSx
        (try dsimp only at hSx)
        go_split_ands
        go_simp
        (try with_reducible rfl)
      simp only [List.setIfInBounds_toArray, List.set_cons_zero, List.set_cons_succ]
      refine take_at 17 100 (fuel := 20) ?_ rfl rfl (by kernel_rfl) (by kernel_rfl) (by kernel_rfl) (Or.inl ⟨by rfl, ?_⟩) hSw ?_
      rotate_left
      · intro wx hSx
        (try dsimp only at hSx)
        go_split_ands
        go_simp
        (try with_reducible rfl)
      simp only [List.setIfInBounds_toArray, List.set_cons_zero, List.set_cons_succ]
      refine take_at 18 101 (fuel := 19) ?_ rfl rfl (by kernel_rfl) (by kernel_rfl) (by kernel_rfl) (Or.inl ⟨by rfl, ?_⟩) hSw ?_
      rotate_left
      · intro wx hSx
        (try dsimp only at hSx)
        go_split_ands
        go_simp
        (try with_reducible rfl)
      simp only [List.setIfInBounds_toArray, List.set_cons_zero, List.set_cons_succ]
      refine take_at 19 102 (fuel := 18) ?_ rfl rfl (by kernel_rfl) (by kernel_rfl) (by kernel_rfl) (Or.inl ⟨by rfl, ?_⟩) hSw ?_
      rotate_left
      · intro wx hSx
        (try dsimp only at hSx)
        go_split_ands
        go_simp
        (try with_reducible rfl)
      simp only [List.setIfInBounds_toArray, List.set_cons_zero, List.set_cons_succ]
      refine take_at 21 104 (fuel := 17) ?_ rfl rfl (by kernel_rfl) (by kernel_rfl) (by kernel_rfl) (Or.inl ⟨by rfl, ?_⟩) hSw ?_
      rotate_left
      · intro wx hSx
        (try dsimp only at hSx)
        go_split_ands
        go_simp
        (try with_reducible rfl)
      simp only [List.setIfInBounds_toArray, List.set_cons_zero, List.set_cons_succ]
      refine wpAnyH_ready (fuel := 16) (rs := [20]) (by kernel_rfl) (by simp) (AllReadyH.cons rfl (fun K hK => ?_) AllReadyH.nil)
      go_simp
      refine Calls.mono (hta (h10.below hSw.2.2.2.2.2)) ?_
      rintro e wv ⟨rfl, hbv⟩
      refine hK.out _ _ (mk _ (hSw.2.2.2.2.2.trans (hbv.mono hSw.2.2.2.2.2.size))) (fun hSw => ?_)
      clear hK K
      simp only [List.setIfInBounds_toArray, List.set_cons_zero, List.set_cons_succ]
      refine take_at 22 105 (fuel := 15) ?_ rfl rfl (by kernel_rfl) (by kernel_rfl) (by kernel_rfl) (Or.inl ⟨by rfl, ?_⟩) hSw ?_
      rotate_left
      · intro wx hSx
        (try dsimp only at hSx)
        go_split_ands
        go_simp
        (try with_reducible rfl)
      simp only [List.setIfInBounds_toArray, List.set_cons_zero, List.set_cons_succ]
      refine take_at 23 106 (fuel := 14) ?_ rfl rfl (by kernel_rfl) (by kernel_rfl) (by kernel_rfl) (Or.inl ⟨by rfl, ?_⟩) hSw ?_
      rotate_left
      · intro wx hSx
        (try dsimp only at hSx)
        go_split_ands
        go_simp
        (try with_reducible rfl)
      simp only [List.setIfInBounds_toArray, List.set_cons_zero, List.set_cons_succ]
      refine take_at 24 107 (fuel := 13) ?_ rfl rfl (by kernel_rfl) (by kernel_rfl) (by kernel_rfl) (Or.inl ⟨by rfl, ?_⟩) hSw ?_
      rotate_left
      · intro wx hSx
        (try dsimp only at hSx)
        go_split_ands
        go_simp
        (try with_reducible rfl)
      simp only [List.setIfInBounds_toArray, List.set_cons_zero, List.set_cons_succ]
      refine take_at 25 108 (fuel := 12) ?_ rfl rfl (by kernel_rfl) (by kernel_rfl) (by kernel_rfl) (Or.inl ⟨by rfl, ?_⟩) hSw ?_
      rotate_left
      · intro wx hSx
        (try dsimp only at hSx)
        go_split_ands
        go_simp
        (try with_reducible rfl)
      simp only [List.setIfInBounds_toArray, List.set_cons_zero, List.set_cons_succ]
      refine take_at 28 111 (fuel := 11) ?_ rfl rfl (by kernel_rfl) (by kernel_rfl) (by kernel_rfl) (Or.inl ⟨by rfl, ?_⟩) hSw ?_
      rotate_left
      · intro wx hSx
        (try dsimp only at hSx)
        go_split_ands
        go_simp
        (try with_reducible rfl)
      simp only [List.setIfInBounds_toArray, List.set_cons_zero, List.set_cons_succ]
      refine wpAnyH_ready (fuel := 10) (rs := [26]) (by kernel_rfl) (by simp) (AllReadyH.cons rfl (fun K hK => ?_) AllReadyH.nil)
      go_simp
      refine Calls.mono (hen (h10.below hSw.2.2.2.2.2)) ?_
      rintro e wv ⟨ea, ec, rfl, hbv⟩
      refine hK.out _ _ (mk _ (hSw.2.2.2.2.2.trans (hbv.mono hSw.2.2.2.2.2.size))) (fun hSw => ?_)
      clear hK K
      simp only [List.setIfInBounds_toArray, List.set_cons_zero, List.set_cons_succ]
      refine take_at 27 110 (fuel := 9) ?_ rfl rfl (by kernel_rfl) (by kernel_rfl) (by kernel_rfl) (Or.inl ⟨by rfl, ?_⟩) hSw ?_
      rotate_left
      · intro wx hSx
        (try dsimp only at hSx)
        go_split_ands
        go_simp
        (try with_reducible rfl)
      simp only [List.setIfInBounds_toArray, List.set_cons_zero, List.set_cons_succ]
      refine take_at 29 112 (fuel := 8) ?_ rfl rfl (by kernel_rfl) (by kernel_rfl) (by kernel_rfl) (Or.inl ⟨by rfl, ?_⟩) hSw ?_
      rotate_left
      · intro wx hSx
        (try dsimp only at hSx)
        go_split_ands
        go_simp
        (try with_reducible rfl)
      simp only [List.setIfInBounds_toArray, List.set_cons_zero, List.set_cons_succ]
      refine take_at 30 113 (fuel := 7) ?_ rfl rfl (by kernel_rfl) (by kernel_rfl) (by kernel_rfl) (Or.inl ⟨by rfl, ?_⟩) hSw ?_
      rotate_left
      · intro wx hSx
        (try dsimp only at hSx)
        go_split_ands
        go_simp
        (try with_reducible rfl)
      simp only [List.setIfInBounds_toArray, List.set_cons_zero, List.set_cons_succ]
      refine take_at 31 114 (fuel := 6) ?_ rfl rfl (by kernel_rfl) (by kernel_rfl) (by kernel_rfl) (Or.inl ⟨by rfl, ?_⟩) hSw ?_
      rotate_left
      · intro wx hSx
        (try dsimp only at hSx)
        go_split_ands
        go_simp
        (try with_reducible rfl)
      simp only [List.setIfInBounds_toArray, List.set_cons_zero, List.set_cons_succ]
      refine take_at 32 115 (fuel := 5) ?_ rfl rfl (by kernel_rfl) (by kernel_rfl) (by kernel_rfl) (Or.inl ⟨by rfl, ?_⟩) hSw ?_
      rotate_left
      · intro wx hSx
        (try dsimp only at hSx)
        go_split_ands
        go_simp
        (try with_reducible rfl)
      simp only [List.setIfInBounds_toArray, List.set_cons_zero, List.set_cons_succ]
      refine take_at 34 117 (fuel := 4) ?_ rfl rfl (by kernel_rfl) (by kernel_rfl) (by kernel_rfl) (Or.inl ⟨by rfl, ?_⟩) hSw ?_
      rotate_left
      · intro wx hSx
        (try dsimp only at hSx)
        go_split_ands
        go_simp
        (try with_reducible rfl)
      simp only [List.setIfInBounds_toArray, List.set_cons_zero, List.set_cons_succ]
      refine wpAnyH_ready (fuel := 3) (rs := [33]) (by kernel_rfl) (by simp) (AllReadyH.cons rfl (fun K hK => ?_) AllReadyH.nil)
      go_simp
      refine Calls.mono (hno (h10.below hSw.2.2.2.2.2)) ?_
      rintro e wv ⟨rfl, rfl⟩
      refine hK.out _ _ hSw (fun hSw => ?_)
      clear hK K
      simp only [List.setIfInBounds_toArray, List.set_cons_zero, List.set_cons_succ]
      refine take_at 35 118 (fuel := 2) ?_ rfl rfl (by kernel_rfl) (by kernel_rfl) (by kernel_rfl) (Or.inl ⟨by rfl, ?_⟩) hSw ?_
      rotate_left
      · intro wx hSx
        (try dsimp only at hSx)
        go_split_ands
        go_simp
        (try with_reducible rfl)
      simp only [List.setIfInBounds_toArray, List.set_cons_zero, List.set_cons_succ]
      refine take_at 36 119 (fuel := 1) ?_ rfl rfl (by kernel_rfl) (by kernel_rfl) (by kernel_rfl) (Or.inl ⟨by rfl, ?_⟩) hSw ?_
      rotate_left
      · intro wx hSx
        (try dsimp only at hSx)
        go_split_ands
        go_simp
        (try with_reducible rfl)
      simp only [List.setIfInBounds_toArray, List.set_cons_zero, List.set_cons_succ]
      refine take_at 37 6 (fuel := 0) ?_ rfl rfl (by kernel_rfl) (by kernel_rfl) (by kernel_rfl) (Or.inl ⟨by rfl, ?_⟩) hSw ?_
      rotate_left
      · intro wx hSx
        (try dsimp only at hSx)
        go_split_ands
        go_simp
        (try with_reducible rfl)
      simp only [List.setIfInBounds_toArray, List.set_cons_zero, List.set_cons_succ]
      refine wpAnyH_done (by kernel_rfl) ⟨rfl, ?_⟩ 0
      have hfin := hwl.trans (hSw.2.2.2.2.2.mono hwl.size)
      go_wp2_with fail
      go_ret
      exact ⟨by simp, hfin⟩
set_option linter.unusedVariables false in
set_option maxRecDepth 100000 in
theorem storeMarks_lifted (os : Os) (started : os.Started) (H : Type) (enc : TypeId × Value → H) :
    ReturnsInHanded {} Tryz.checked os 6 .any (Rows.storeMarksSpec.pre6 enc Tryz.prog Tryz.f6 Rows.storeMarksRow.domain false) (Rows.storeMarksSpec.post enc Tryz.prog Tryz.f6 false true false false) := by
  refine returnsInHanded_of_change (C := Tryz.checked) Kit.own started (by kernel_rfl) Tryz.func6
    (ChangeSpec.witness6 (enc := enc) (C := Tryz.checked) false ⟨#[], #[.agg #[.int .i64 0, .int .i64 0, .int .i64 0, .int .u64 0], .slice none 0 0, .int .u64 0], []⟩ 8 (by kernel_rfl) (by kernel_rfl) (by kernel_rfl) (by kernel_rfl)) ?_
  intro W base args ds gs before hval0 hW hcnd _
  have hval : ∀ (j : Nat) t v, Tryz.f6.params[j]? = some t → args[j]? = some v → Value.okWide Tryz.prog W .any base t v := hval0
  have hW' := hW
  obtain ⟨p, q, hA0, hV, rfl, hfz, hnd⟩ := hW
  have hA : DataW.TrodAll enc Tryz.prog W 0 (fun _ => true) true Tryz.f6.params.toList args.toList ds p := hA0
  rw [Tryz.params6] at hA hval
  obtain ⟨v0, vs0, d0, ds0, p0, q0, hargs, rfl, rfl, h0, r0⟩ := trodAll_cons hA
  obtain ⟨v1, vs1, d1, ds1, p1, q1, rfl, rfl, rfl, h1, r1⟩ := trodAll_cons r0
  obtain ⟨v2, vs2, d2, ds2, p2, q2, rfl, rfl, rfl, h2, r2⟩ := trodAll_cons r1
  obtain ⟨rfl, rfl, rfl⟩ := trodAll_nil r2
  obtain ⟨rfl, rfl⟩ := trodVars_none hV
  obtain rfl : args = #[v0, v1, v2] := by cases args; simp_all
  obtain ⟨c0_0, c0_1, c0_2, c0_3, y0_0, y0_1, y0_2, y0_3, m0, rfl, rfl, rfl, hy0_0, hy0_1, hy0_2, hy0_3⟩ := Joins.open_agg4 Tryz.underlying24 (by kernel_rfl) (by kernel_rfl) (hval 0 24 v0 rfl rfl) h0
  obtain ⟨a0_0, e0_0, rfl, w0_0⟩ := DataW.trod_int Tryz.underlying3 hy0_0
  obtain rfl := (List.cons.inj e0_0).1
  obtain ⟨a0_1, e0_1, rfl, w0_1⟩ := DataW.trod_int Tryz.underlying3 hy0_1
  obtain rfl := (List.cons.inj e0_1).1
  obtain ⟨a0_2, e0_2, rfl, w0_2⟩ := DataW.trod_int Tryz.underlying3 hy0_2
  obtain rfl := (List.cons.inj e0_2).1
  obtain ⟨a0_3, e0_3, rfl, w0_3⟩ := DataW.trod_int Tryz.underlying22 hy0_3
  obtain rfl := (List.cons.inj e0_3).1
  obtain ⟨b1, c1, e1, rfl⟩ := okWide_slice Tryz.underlying25 (hval 1 25 v1 rfl rfl)
  obtain ⟨fuel1, hf1⟩ := h1
  obtain ⟨ao1, len1, cap1, sb1, off1, tx1, hv1, ht1⟩ := open_acs (show DataW.trod enc Tryz.prog W 0 (fun _ => true) true fuel1 25 [.slice b1 c1 e1] = some _ from hf1)
  injection hv1 with hv1x hv1y hv1z
  subst hv1x hv1y hv1z
  obtain ⟨a2, rfl, rfl, rfl, w2⟩ := open_int Tryz.underlying22 (hval 2 22 v2 rfl rfl) h2
  clear hA0 hval0
  refine (storeMarks_walk a0_0 w0_0 a0_1 w0_1 a0_2 w0_2 a0_3 w0_3 _ _ _ _ _ _ a2 w2 W ht1).mono fun e W' ⟨he, hg⟩ => ?_
  subst he
  exact ⟨_, rfl, Kit.law_post hW' rfl (by kernel_rfl) rfl (by kernel_rfl) hg⟩

theorem storeMarks_over : Rows.storeMarksRow.holds Tryz.pinned (OpenSpec.ofChange Rows.storeMarksSpec) :=
  OpenClaim.holds_of_wide 6 Tryz.f6 rfl rfl rfl rfl rfl rfl rfl ⟨rfl, rfl, rfl, rfl, rfl⟩ rfl rfl rfl rfl rfl (by kernel_rfl) Tryz.func6 (by kernel_rfl)
    (of_decide_eq_true (by kernel_rfl)) (by unfold Func.isWrapper; first | (rw [if_pos (by decide +kernel)]; kernel_rfl) | (rw [if_neg (by decide +kernel)]; exact ⟨rfl, rfl⟩))
    (fun os started H enc _ => storeMarks_lifted os started H enc)

theorem storeMarks_holds : Rows.StoreMarksSaid :=
  storeMarks_over

end
end Go.Proofs.YtlnjnpchkdipdaaGreat.Storey
