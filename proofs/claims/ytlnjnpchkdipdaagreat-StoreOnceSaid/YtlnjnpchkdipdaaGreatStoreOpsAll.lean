/- The program's cache in memory: a block of twelve cells, a table, a policy, and a map of what sessions were told; and what a step may turn. No condition. The program's cache, its small calls: what it is, its numbers, one more, when an entry ends, an entry that is taken away. The only condition: keys have at most 64 bytes. -/
import Derived.Test.YtlnjnpchkdipdaaGreatStoreSesAll
import Derived.Test.YtlnjnpchkdipdaaGreatPolicyProg
import Derived.Test.YtlnjnpchkdipdaaGreatTabMove
import Derived.Test.YtlnjnpchkdipdaaGreatTabKeys
namespace Go.Proofs.YtlnjnpchkdipdaaGreat.Storey
open Go.ChangeShapes Go.WideShapes Go.ChangeAt Go.RowKit
open Wirey (Blk Row str str_size str_list Kp)
open Taby (En TabAt Tbl tp find ins drop size ended)
open Policyy (Pv HeldP StepP Tell)
open Ringy (Key)

/-- The cells of a cache's block. -/
abbrev Sv.cells (s : Sv) (T C S : Nat) : Array Value := #[.int .i64 (s.kind : Int), .int .i64 (s.n : Int), .int .i64 (s.bytes : Int), .int .u64 (s.seed : Int), .int .u64 (s.seq : Int), .int .u64 (s.now : Int), .int .u64 (s.ver : Int), .int .i64 (s.asked : Int), .int .i64 (s.hits : Int), tp T, tp C, .map (some S)]
structure At (w0 w : World) (b T M C S : Nat) (H : Nat → Prop) (s : Sv) : Prop where
  box : Blk w b 92 (s.cells T C S)
  tab : TabAt w T M s.m
  pol : HeldP w0 C w s.p H
  ses : ∃ D, SesAt w S s.ss D
  lb : w0.heap.size ≤ b
  lT : w0.heap.size ≤ T
  lM : w0.heap.size ≤ M
  lS : w0.heap.size ≤ S
  bT : b ≠ T
  bM : b ≠ M
  bS : b ≠ S
  ST : S ≠ T
  SM : S ≠ M
  Hb : ¬ H b
  HT : ¬ H T
  HM : ¬ H M
  HS : ¬ H S
/-- All blocks of a cache. -/
def Own (b T M S : Nat) (H : Nat → Prop) (k : Nat) : Prop := k = b ∨ k = T ∨ k = M ∨ k = S ∨ H k
structure Stp (b T M S : Nat) (w : World) (H : Nat → Prop) (w' : World) (H' : Nat → Prop) : Prop where
  kp : Kp (Own b T M S H) w w'
  new : ∀ k, H' k → H k ∨ w.heap.size ≤ k
section
variable {w0 w w' w'' : World} {b T M C S : Nat} {H H' H'' : Nat → Prop} {s : Sv} {k : Key}
theorem Stp.refl : Stp b T M S w H w H := ⟨Kp.refl _ _, fun _ h => .inl h⟩
theorem Stp.trans (h : Stp b T M S w H w' H') (h' : Stp b T M S w' H' w'' H'') : Stp b T M S w H w'' H'' := by
  refine ⟨⟨h'.kp.os.trans h.kp.os, h'.kp.tape.trans h.kp.tape, h'.kp.output.trans h.kp.output, Nat.le_trans h.kp.size h'.kp.size, fun k hk hn => ?_⟩, fun q hq => ?_⟩
  · refine (h'.kp.block k (Nat.lt_of_lt_of_le hk h.kp.size) (fun ho => ?_)).trans (h.kp.block k hk hn)
    rcases ho with h1 | h1 | h1 | h1 | h1
    · exact hn (.inl h1)
    · exact hn (.inr (.inl h1))
    · exact hn (.inr (.inr (.inl h1)))
    · exact hn (.inr (.inr (.inr (.inl h1))))
    · rcases h.new k h1 with h2 | h2
      · exact hn (.inr (.inr (.inr (.inr h2))))
      · omega
  · rcases h'.new q hq with h1 | h1
    · exact h.new q h1
    · exact .inr (Nat.le_trans h.kp.size h1)
theorem Stp.of_below {D : Nat} (hb : Below D w w') (hD : w.heap.size ≤ D) : Stp b T M S w H w' H :=
  ⟨⟨hb.os, hb.tape, hb.output, hb.size, fun k hk _ => hb.block k (by omega)⟩, fun _ h => .inl h⟩
theorem Stp.later {D : Nat} (h : Stp b T M S w H w' H') (hb : Below D w' w'') (hD : w'.heap.size ≤ D) : Stp b T M S w H w'' H' := h.trans (.of_below hb hD)
theorem Stp.below (h : Stp b T M S w H w' H') (hb : Below w0.heap.size w0 w) (hl : ∀ k, Own b T M S H k → w0.heap.size ≤ k) : Below w0.heap.size w0 w' :=
  ⟨h.kp.os.trans hb.os, h.kp.tape.trans hb.tape, h.kp.output.trans hb.output, Nat.le_trans hb.size h.kp.size, fun k hk => (h.kp.block k (by have := hb.size; omega) (fun ho => by have := hl k ho; omega)).trans (hb.block k hk)⟩
theorem At.low (h : At w0 w b T M C S H s) : ∀ k, Own b T M S H k → w0.heap.size ≤ k ∧ k < w.heap.size := by
  rintro k (rfl | rfl | rfl | rfl | hk)
  · exact ⟨h.lb, h.box.lt⟩
  · exact ⟨h.lT, h.tab.hd.lt⟩
  · exact ⟨h.lM, h.tab.ltM⟩
  · obtain ⟨D, hD⟩ := h.ses; exact ⟨h.lS, hD.mp.lt⟩
  · exact h.pol.own k hk
theorem At.since (h : At w0 w b T M C S H s) : Below w0.heap.size w0 w := h.pol.below
/-- Other memory turns. -/
theorem At.kp {O : Nat → Prop} (h : At w0 w b T M C S H s) (hk : Kp O w w') (hO : ∀ k, O k → w0.heap.size ≤ k ∧ ¬ Own b T M S H k) : At w0 w' b T M C S H s := by
  have hb : ∀ k, Own b T M S H k → w'.heap[k]? = w.heap[k]? := fun k ho => hk.block k (h.low k ho).2 fun hk => (hO k hk).2 ho
  obtain ⟨D, hD⟩ := h.ses
  exact ⟨(hb b (.inl rfl)).trans h.box, h.tab.stay (hb T (.inr (.inl rfl))) (hb M (.inr (.inr (.inl rfl)))), h.pol.kp hk fun q hq => ⟨(hO q hq).1, fun x => (hO q hq).2 (.inr (.inr (.inr (.inr x))))⟩, ⟨D, hD.stay (hb S (.inr (.inr (.inr (.inl rfl)))))⟩, h.lb, h.lT, h.lM, h.lS, h.bT, h.bM, h.bS, h.ST, h.SM, h.Hb, h.HT, h.HM, h.HS⟩
theorem At.later {D : Nat} (h : At w0 w b T M C S H s) (hb : Below D w w') (hD : w.heap.size ≤ D) : At w0 w' b T M C S H s :=
  h.kp (O := fun _ => False) ⟨hb.os, hb.tape, hb.output, hb.size, fun k hk _ => hb.block k (by omega)⟩ (fun _ h => h.elim)
theorem At.below (h : At w0 w b T M C S H s) (hb : Below w.heap.size w w') : At w0 w' b T M C S H s := h.later hb (Nat.le_refl _)
theorem At.drewN (h : At w0 w b T M C S H s) (n : Nat) : At w0 (w.drewN n) b T M C S H s := h.later (D := w.heap.size) ⟨rfl, rfl, rfl, Nat.le_refl _, fun _ _ => rfl⟩ (Nat.le_refl _)
theorem At.drew (h : At w0 w b T M C S H s) : At w0 w.drew b T M C S H s := h.later (D := w.heap.size) ⟨rfl, rfl, rfl, Nat.le_refl _, fun _ _ => rfl⟩ (Nat.le_refl _)
theorem At.alloc (h : At w0 w b T M C S H s) (o : Obj) : At w0 (w.alloc o) b T M C S H s := h.later ((Below.refl _ w).alloc (Nat.le_refl _) o) (Nat.le_refl _)
/-- The table turns. -/
theorem At.tabs {m : List En} (h : At w0 w b T M C S H s) (ht : TabAt w' T M m) (hk : Kp (Tbl T M) w w') : At w0 w' b T M C S H { s with m := m } ∧ Stp b T M S w H w' H := by
  have hO : ∀ q, Tbl T M q → w0.heap.size ≤ q ∧ ¬ H q := by
    rintro q (rfl | rfl)
    · exact ⟨h.lT, h.HT⟩
    · exact ⟨h.lM, h.HM⟩
  obtain ⟨D, hD⟩ := h.ses
  refine ⟨⟨(hk.block b h.box.lt (fun ho => ho.elim h.bT h.bM)).trans h.box, ht, h.pol.kp hk hO, ⟨D, hD.stay (hk.block S hD.mp.lt (fun ho => ho.elim h.ST h.SM))⟩, h.lb, h.lT, h.lM, h.lS, h.bT, h.bM, h.bS, h.ST, h.SM, h.Hb, h.HT, h.HM, h.HS⟩, ⟨⟨hk.os, hk.tape, hk.output, hk.size, fun q hq hn => hk.block q hq fun ho => hn ?_⟩, fun _ h => .inl h⟩⟩
  rcases ho with rfl | rfl
  · exact .inr (.inl rfl)
  · exact .inr (.inr (.inl rfl))
/-- The policy turns. -/
theorem At.pols {p : Pv} (h : At w0 w b T M C S H s) (hp : HeldP w0 C w' p H') (hs : StepP w H w' H') : At w0 w' b T M C S H' { s with p := p } ∧ Stp b T M S w H w' H' := by
  have hb : ∀ q, q < w.heap.size → ¬ H q → w'.heap[q]? = w.heap[q]? := fun q hq hn => hs.kp.block q hq hn
  have hn : ∀ q, q < w.heap.size → ¬ H q → ¬ H' q := fun q hq hn ho => (hs.own q ho).elim hn fun x => by omega
  have l1 := h.box.lt
  have l2 := h.tab.hd.lt
  have l3 := h.tab.ltM
  obtain ⟨D, hD⟩ := h.ses
  have l4 := hD.mp.lt
  exact ⟨⟨(hb b l1 h.Hb).trans h.box, h.tab.stay (hb T l2 h.HT) (hb M l3 h.HM), hp, ⟨D, hD.stay (hb S l4 h.HS)⟩, h.lb, h.lT, h.lM, h.lS, h.bT, h.bM, h.bS, h.ST, h.SM, hn b l1 h.Hb, hn T l2 h.HT, hn M l3 h.HM, hn S l4 h.HS⟩, ⟨⟨hs.kp.os, hs.kp.tape, hs.kp.output, hs.kp.size, fun q hq ho => hb q hq fun x => ho (.inr (.inr (.inr (.inr x))))⟩, hs.own⟩⟩
/-- A cell of the block turns. -/
theorem At.cell {s' : Sv} (h : At w0 w b T M C S H s) (i : Nat) (u : Value) (hc : (s.cells T C S).setIfInBounds i u = s'.cells T C S) (hm : s'.m = s.m) (hp : s'.p = s.p) (hss : s'.ss = s.ss) : At w0 (w.setCell ⟨b, i, none⟩ u) b T M C S H s' ∧ Stp b T M S w H (w.setCell ⟨b, i, none⟩ u) H := by
  have hk : Kp (fun q => q = b) w (w.setCell ⟨b, i, none⟩ u) := ⟨rfl, rfl, rfl, by simp [World.setCell], fun q _ hq => Below.heap_setCell w _ u q hq⟩
  obtain ⟨D, hD⟩ := h.ses
  refine ⟨⟨?_, ?_, ?_, ⟨D, ?_⟩, h.lb, h.lT, h.lM, h.lS, h.bT, h.bM, h.bS, h.ST, h.SM, h.Hb, h.HT, h.HM, h.HS⟩, ⟨⟨hk.os, hk.tape, hk.output, hk.size, fun q hq hn => hk.block q hq fun e => hn (.inl e)⟩, fun _ h => .inl h⟩⟩
  · rw [← hc]; exact h.box.put i u
  · rw [hm]; exact h.tab.stay (hk.block T h.tab.hd.lt h.bT.symm) (hk.block M h.tab.ltM h.bM.symm)
  · rw [hp]; exact h.pol.kp hk fun q hq => by subst hq; exact ⟨h.lb, h.Hb⟩
  · rw [hss]; exact hD.stay (hk.block S hD.mp.lt h.bS.symm)
/-- The sessions turn. -/
theorem At.sess {l : List Ses} (h : At w0 w b T M C S H s) (hs : ∃ D, SesAt w' S l D) (hg : w.grownBy w' (some S)) : At w0 w' b T M C S H { s with ss := l } ∧ Stp b T M S w H w' H := by
  have hk : Kp (fun q => q = S) w w' := ⟨hg.os, hg.tape, hg.output, hg.size, fun q hq hn => hg.block q hq (fun e => hn (Option.some.inj e))⟩
  refine ⟨⟨(hk.block b h.box.lt h.bS).trans h.box, h.tab.stay (hk.block T h.tab.hd.lt h.ST.symm) (hk.block M h.tab.ltM h.SM.symm), h.pol.kp hk fun q hq => by subst hq; exact ⟨h.lS, h.HS⟩, hs, h.lb, h.lT, h.lM, h.lS, h.bT, h.bM, h.bS, h.ST, h.SM, h.Hb, h.HT, h.HM, h.HS⟩, ⟨⟨hk.os, hk.tape, hk.output, hk.size, fun q hq hn => hk.block q hq fun e => hn (.inr (.inr (.inr (.inl e))))⟩, fun _ h => .inl h⟩⟩
theorem At.c (h : At w0 w b T M C S H s) {i : Nat} {u : Value} (hu : (s.cells T C S)[i]? = some u) : w.cell? ⟨b, i, none⟩ = some u := (h.box.cell i).trans hu
/-- All cells of the block. -/
theorem At.cs (h : At w0 w b T M C S H s) : w.cell? ⟨b, 0, none⟩ = some (.int .i64 (s.kind : Int)) ∧ w.cell? ⟨b, 1, none⟩ = some (.int .i64 (s.n : Int)) ∧ w.cell? ⟨b, 2, none⟩ = some (.int .i64 (s.bytes : Int)) ∧ w.cell? ⟨b, 3, none⟩ = some (.int .u64 (s.seed : Int)) ∧ w.cell? ⟨b, 4, none⟩ = some (.int .u64 (s.seq : Int)) ∧ w.cell? ⟨b, 5, none⟩ = some (.int .u64 (s.now : Int)) ∧ w.cell? ⟨b, 6, none⟩ = some (.int .u64 (s.ver : Int)) ∧ w.cell? ⟨b, 7, none⟩ = some (.int .i64 (s.asked : Int)) ∧ w.cell? ⟨b, 8, none⟩ = some (.int .i64 (s.hits : Int)) ∧ w.cell? ⟨b, 9, none⟩ = some (tp T) ∧ w.cell? ⟨b, 10, none⟩ = some (tp C) ∧ w.cell? ⟨b, 11, none⟩ = some (.map (some S)) :=
  ⟨h.c rfl, h.c rfl, h.c rfl, h.c rfl, h.c rfl, h.c rfl, h.c rfl, h.c rfl, h.c rfl, h.c rfl, h.c rfl, h.c rfl⟩
end
end Go.Proofs.YtlnjnpchkdipdaaGreat.Storey
namespace Go.Proofs.YtlnjnpchkdipdaaGreat.Storey
open Go.ChangeShapes Go.WideShapes Go.ChangeAt Go.RowKit
open Wirey (Blk Row str str_size str_list Kp)
open Taby (En TabAt Tbl tp find ins drop size ended)
open Policyy (Pv HeldP StepP Tell)
open Ringy (Key)

section
variable {w0 w : World} {b T M C S : Nat} {H : Nat → Prop} {s : Sv} {k : Key}
theorem made_s (h : At w0 w b T M C S H s) : Calls Tryz.prog 28 #[tp b] w fun e w' => e = .returned (.bool true) ∧ w = w' := by
  obtain ⟨-, -, -, -, -, -, -, -, -, -, c10, -⟩ := h.cs
  go_enter Tryz.func28, Tryz.ntmps28
  go_wp2_with fail
  go_ret
  exact ⟨rfl, rfl⟩
theorem seq_s (h : At w0 w b T M C S H s) : Calls Tryz.prog 12 #[tp b] w fun e w' => e = .returned (.int .u64 (s.seq : Int)) ∧ w = w' := by
  obtain ⟨-, -, -, -, c4, -, -, -, -, -, -, -⟩ := h.cs
  have hm := made_s h
  go_enter Tryz.func12, Tryz.ntmps12
  go_wp2_with fail
  refine hm.mono ?_
  rintro e w' ⟨rfl, rfl⟩
  go_wp2_with fail
  go_ret
  exact ⟨rfl, rfl⟩
theorem now_s (h : At w0 w b T M C S H s) : Calls Tryz.prog 23 #[tp b] w fun e w' => e = .returned (.int .u64 (s.now : Int)) ∧ w = w' := by
  obtain ⟨-, -, -, -, -, c5, -, -, -, -, -, -⟩ := h.cs
  have hm := made_s h
  go_enter Tryz.func23, Tryz.ntmps23
  go_wp2_with fail
  refine hm.mono ?_
  rintro e w' ⟨rfl, rfl⟩
  go_wp2_with fail
  go_ret
  exact ⟨rfl, rfl⟩
theorem one64_c {n : Nat} (hn : n ≤ 9223372036854775807) (w : World) : Calls Tryz.prog 117 #[.int .i64 (n : Int), .int .i64 9223372036854775807] w fun e w' => e = .returned (.int .i64 (one n 9223372036854775807 : Nat)) ∧ w = w' := by
  by_cases a : n < 9223372036854775807
  · rw [one_lt a]
    have d1 : decide ((n : Int) < 9223372036854775807) = true := decide_eq_true (by omega)
    go_enter Tryz.func117, Tryz.ntmps117
    go_wp2_with fail
    go_ret
    exact ⟨rfl, rfl⟩
  · rw [show one n 9223372036854775807 = n from if_neg a]
    have d1 : decide ((n : Int) < 9223372036854775807) = false := decide_eq_false (by omega)
    go_enter Tryz.func117, Tryz.ntmps117
    go_wp2_with fail
    go_ret
    exact ⟨rfl, rfl⟩
theorem oneU_c {n : Nat} (hn : n ≤ 18446744073709551615) (w : World) : Calls Tryz.prog 120 #[.int .u64 (n : Int), .int .u64 18446744073709551615] w fun e w' => e = .returned (.int .u64 (one n 18446744073709551615 : Nat)) ∧ w = w' := by
  by_cases a : n < 18446744073709551615
  · rw [one_lt a]
    have d1 : decide ((n : Int) < 18446744073709551615) = true := decide_eq_true (by omega)
    go_enter Tryz.func120, Tryz.ntmps120
    go_wp2_with fail
    go_ret
    exact ⟨rfl, rfl⟩
  · rw [show one n 18446744073709551615 = n from if_neg a]
    have d1 : decide ((n : Int) < 18446744073709551615) = false := decide_eq_false (by omega)
    go_enter Tryz.func120, Tryz.ntmps120
    go_wp2_with fail
    go_ret
    exact ⟨rfl, rfl⟩
theorem endOf_c {now ttl : Nat} (hn : now ≤ 18446744073709551615) (ht : ttl ≤ 1073741824) (w : World) : Calls Tryz.prog 122 #[.int .u64 (now : Int), .int .u64 (ttl : Int)] w fun e w' => e = .returned (.int .u64 (endOf now ttl : Nat)) ∧ w = w' := by
  by_cases a : ttl = 0
  · subst a
    rw [show endOf now 0 = 0 from if_pos (.inl rfl)]
    go_enter Tryz.func122, Tryz.ntmps122
    go_wp2_with fail
    go_ret
    exact ⟨rfl, rfl⟩
  have a1 : ((ttl : Int) == 0) = false := beq_eq_false_iff_ne.2 (by omega)
  by_cases c : now = 18446744073709551615
  · subst c
    rw [show endOf 18446744073709551615 ttl = 0 from if_pos (.inr rfl)]
    go_enter Tryz.func122, Tryz.ntmps122
    go_wp2_with fail
    go_ret
    exact ⟨rfl, rfl⟩
  have c1 : ((now : Int) == 18446744073709551615) = false := beq_eq_false_iff_ne.2 (by omega)
  rw [show endOf now ttl = now + min ttl (18446744073709551615 - now) from if_neg (by omega)]
  go_enter Tryz.func122, Tryz.ntmps122
  go_wp2_with fail
  go_ret
  exact ⟨congrArg (fun z => Ending.returned (Value.int .u64 z)) (by omega), rfl⟩
theorem away_s (hk : k.length ≤ 64) (hl : s.m.length ≤ 100000) (h : At w0 w b T M C S H s) : Calls Tryz.prog 53 #[tp b, .string (str k)] w fun e w' => e = .returned (.tuple #[]) ∧ ∃ H', At w0 w' b T M C S H' (s.away k) ∧ Stp b T M S w H w' H' := by
  obtain ⟨-, -, -, -, -, -, -, -, -, c9, -, -⟩ := h.cs
  have hk64 : k.length ≤ maxLen := by unfold maxLen; omega
  go_enter Tryz.func53, Tryz.ntmps53
  go_wp2_with fail
  refine (Taby.drop_t k hk hl w h.tab).mono ?_
  rintro e w1 ⟨rfl, ht, hk1⟩
  obtain ⟨h1, s1⟩ := h.tabs ht hk1
  obtain ⟨-, -, -, -, -, -, -, -, -, -, d10, -⟩ := h1.cs
  go_wp2_with fail
  refine (Policyy.dropP_c hk64 h1.pol).mono ?_
  rintro e w2 ⟨rfl, H', hp, hs⟩
  obtain ⟨h2, s2⟩ := h1.pols hp hs
  go_wp2_with fail
  exact bodyPost_end (v := .tuple #[]) (results_none rfl _ _ _) rfl ⟨rfl, H', h2, s1.trans s2⟩
end
end Go.Proofs.YtlnjnpchkdipdaaGreat.Storey
