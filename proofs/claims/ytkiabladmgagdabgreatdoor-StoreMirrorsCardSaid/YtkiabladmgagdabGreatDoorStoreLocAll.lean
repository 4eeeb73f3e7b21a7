/- The program's cache in memory: a block of twelve cells, a table, a policy, and a map of what sessions were told; and what a step may turn. No condition. The program's cache, its small calls: what it is, its numbers, one more, when an entry ends, an entry that is taken away. The only condition: keys have at most 64 bytes. The program's cache moves to a tick: all that ended by then is taken away, key by key. The only condition: there are not more entries than may be. The program's cache lets entries go while there are too many bytes. The only condition: the cache is one that may be. A call's own blocks beside the cache. No condition. -/
import Derived.Test.YtkiabladmgagdabGreatDoorTabMoveAll
import Derived.Test.YtkiabladmgagdabGreatDoorPolicyProgAll
import Derived.Test.YtkiabladmgagdabGreatDoorTabKeysAll
import Derived.Test.YtkiabladmgagdabGreatDoorOpPutAll
import Derived.Test.YtkiabladmgagdabGreatDoorSq
namespace Go.Proofs.YtkiabladmgagdabGreatDoor.Storey
open Go.ChangeShapes Go.WideShapes Go.ChangeAt Go.RowKit
open Wirey (Blk Row str str_size str_list str_cat Kp)
open Taby (En TabAt Tbl tp find ins drop size ended)
open Policyy (Pv HeldP StepP Tell)
open Ringy (Key)

abbrev Sv.cells (s : Sv) (T C S : Nat) : Array Value := #[.int .i64 s.kind, .int .i64 s.n, .int .i64 s.bytes, .int .u64 s.seed, .int .u64 s.seq, .int .u64 s.now, .int .u64 s.ver, .int .i64 s.asked, .int .i64 s.hits, tp T, tp C, .map (some S)]
structure At (w0 w : World) (b T M C S : Nat) (H : Nat → Prop) (s : Sv) : Prop where
 box : Blk w b 61 (s.cells T C S)
 tab : TabAt w T M s.m
 pol : HeldP w0 C w s.p H
 ses : ∃ D, SesAt w S s.ss D
 lb : w0.heap.size ≤ b
 lT : w0.heap.size ≤ T
 lM : w0.heap.size ≤ M
 lS : w0.heap.size ≤ S
 bT : b ≠ T
 bM : b ≠ M
 bS : b ≠ S
 ST : S ≠ T
 SM : S ≠ M
 Hb : ¬ H b
 HT : ¬ H T
 HM : ¬ H M
 HS : ¬ H S
def Own (b T M S : Nat) (H : Nat → Prop) (k : Nat) : Prop := k = b ∨ k = T ∨ k = M ∨ k = S ∨ H k
structure Stp (b T M S : Nat) (w : World) (H : Nat → Prop) (w' : World) (H' : Nat → Prop) : Prop where
 kp : Kp (Own b T M S H) w w'
 new : ∀ k, H' k → H k ∨ w.heap.size ≤ k
section
variable {w0 w w' w'' : World} {b T M C S : Nat} {H H' H'' : Nat → Prop} {s : Sv} {k : Key}
theorem Stp.refl : Stp b T M S w H w H := ⟨Kp.refl _ _, fun _ h => .inl h⟩
theorem Stp.trans (h : Stp b T M S w H w' H') (h' : Stp b T M S w' H' w'' H'') : Stp b T M S w H w'' H'' := by
 refine ⟨⟨h'.kp.os.trans h.kp.os, h'.kp.tape.trans h.kp.tape, h'.kp.output.trans h.kp.output, Nat.le_trans h.kp.size h'.kp.size, fun k hk hn => ?_⟩, fun q hq => ?_⟩
 ·refine (h'.kp.block k (Nat.lt_of_lt_of_le hk h.kp.size) (fun ho => ?_)).trans (h.kp.block k hk hn)
  rcases ho with h1 | h1 | h1 | h1 | h1
  ·exact hn (.inl h1)
  ·exact hn (.inr (.inl h1))
  ·exact hn (.inr (.inr (.inl h1)))
  ·exact hn (.inr (.inr (.inr (.inl h1))))
  ·rcases h.new k h1 with h2 | h2
   ·exact hn (.inr (.inr (.inr (.inr h2))))
   ·omega
 ·rcases h'.new q hq with h1 | h1
  ·exact h.new q h1
  ·exact .inr (Nat.le_trans h.kp.size h1)
theorem Stp.of_below {D : Nat} (hb : Below D w w') (hD : w.heap.size ≤ D) : Stp b T M S w H w' H :=
 ⟨⟨hb.os, hb.tape, hb.output, hb.size, fun k hk _ => hb.block k (by omega)⟩, fun _ h => .inl h⟩
theorem Stp.later {D : Nat} (h : Stp b T M S w H w' H') (hb : Below D w' w'') (hD : w'.heap.size ≤ D) : Stp b T M S w H w'' H' := h.trans (.of_below hb hD)
theorem At.low (h : At w0 w b T M C S H s) : ∀ k, Own b T M S H k → w0.heap.size ≤ k ∧ k < w.heap.size := by
 rintro k (rfl | rfl | rfl | rfl | hk)
 ·exact ⟨h.lb, h.box.lt⟩
 ·exact ⟨h.lT, h.tab.hd.lt⟩
 ·exact ⟨h.lM, h.tab.ltM⟩
 ·obtain ⟨D, hD⟩ := h.ses; exact ⟨h.lS, hD.mp.lt⟩
 ·exact h.pol.own k hk
theorem At.since (h : At w0 w b T M C S H s) : Below w0.heap.size w0 w := h.pol.below
theorem At.kp {O : Nat → Prop} (h : At w0 w b T M C S H s) (hk : Kp O w w') (hO : ∀ k, O k → w0.heap.size ≤ k ∧ ¬ Own b T M S H k) : At w0 w' b T M C S H s := by
 have hb : ∀ k, Own b T M S H k → w'.heap[k]? = w.heap[k]? := fun k ho => hk.block k (h.low k ho).2 fun hk => (hO k hk).2 ho
 obtain ⟨D, hD⟩ := h.ses
 exact ⟨(hb b (.inl rfl)).trans h.box, h.tab.stay (hb T (.inr (.inl rfl))) (hb M (.inr (.inr (.inl rfl)))), h.pol.kp hk fun q hq => ⟨(hO q hq).1, fun x => (hO q hq).2 (.inr (.inr (.inr (.inr x))))⟩, ⟨D, hD.stay (hb S (.inr (.inr (.inr (.inl rfl)))))⟩, h.lb, h.lT, h.lM, h.lS, h.bT, h.bM, h.bS, h.ST, h.SM, h.Hb, h.HT, h.HM, h.HS⟩
theorem At.later {D : Nat} (h : At w0 w b T M C S H s) (hb : Below D w w') (hD : w.heap.size ≤ D) : At w0 w' b T M C S H s :=
 h.kp (O := fun _ => False) ⟨hb.os, hb.tape, hb.output, hb.size, fun k hk _ => hb.block k (by omega)⟩ (fun _ h => h.elim)
theorem At.below (h : At w0 w b T M C S H s) (hb : Below w.heap.size w w') : At w0 w' b T M C S H s := h.later hb (Nat.le_refl _)
theorem At.drew (h : At w0 w b T M C S H s) : At w0 w.drew b T M C S H s := h.later (D := w.heap.size) ⟨rfl, rfl, rfl, Nat.le_refl _, fun _ _ => rfl⟩ (Nat.le_refl _)
theorem At.alloc (h : At w0 w b T M C S H s) (o : Obj) : At w0 (w.alloc o) b T M C S H s := h.later ((Below.refl _ w).alloc (Nat.le_refl _) o) (Nat.le_refl _)
theorem At.tabs {m : List En} (h : At w0 w b T M C S H s) (ht : TabAt w' T M m) (hk : Kp (Tbl T M) w w') : At w0 w' b T M C S H { s with m := m } ∧ Stp b T M S w H w' H := by
 have hO : ∀ q, Tbl T M q → w0.heap.size ≤ q ∧ ¬ H q := by
  rintro q (rfl | rfl)
  ·exact ⟨h.lT, h.HT⟩
  ·exact ⟨h.lM, h.HM⟩
 obtain ⟨D, hD⟩ := h.ses
 refine ⟨⟨(hk.block b h.box.lt (fun ho => ho.elim h.bT h.bM)).trans h.box, ht, h.pol.kp hk hO, ⟨D, hD.stay (hk.block S hD.mp.lt (fun ho => ho.elim h.ST h.SM))⟩, h.lb, h.lT, h.lM, h.lS, h.bT, h.bM, h.bS, h.ST, h.SM, h.Hb, h.HT, h.HM, h.HS⟩, ⟨⟨hk.os, hk.tape, hk.output, hk.size, fun q hq hn => hk.block q hq fun ho => hn ?_⟩, fun _ h => .inl h⟩⟩
 rcases ho with rfl | rfl
 ·exact .inr (.inl rfl)
 ·exact .inr (.inr (.inl rfl))
theorem At.pols {p : Pv} (h : At w0 w b T M C S H s) (hp : HeldP w0 C w' p H') (hs : StepP w H w' H') : At w0 w' b T M C S H' { s with p := p } ∧ Stp b T M S w H w' H' := by
 have hb : ∀ q, q < w.heap.size → ¬ H q → w'.heap[q]? = w.heap[q]? := fun q hq hn => hs.kp.block q hq hn
 have hn : ∀ q, q < w.heap.size → ¬ H q → ¬ H' q := fun q hq hn ho => (hs.own q ho).elim hn fun x => by omega
 have l1 := h.box.lt
 have l2 := h.tab.hd.lt
 have l3 := h.tab.ltM
 obtain ⟨D, hD⟩ := h.ses
 have l4 := hD.mp.lt
 exact ⟨⟨(hb b l1 h.Hb).trans h.box, h.tab.stay (hb T l2 h.HT) (hb M l3 h.HM), hp, ⟨D, hD.stay (hb S l4 h.HS)⟩, h.lb, h.lT, h.lM, h.lS, h.bT, h.bM, h.bS, h.ST, h.SM, hn b l1 h.Hb, hn T l2 h.HT, hn M l3 h.HM, hn S l4 h.HS⟩, ⟨⟨hs.kp.os, hs.kp.tape, hs.kp.output, hs.kp.size, fun q hq ho => hb q hq fun x => ho (.inr (.inr (.inr (.inr x))))⟩, hs.own⟩⟩
theorem At.cell {s' : Sv} (h : At w0 w b T M C S H s) (i : Nat) (u : Value) (hc : (s.cells T C S).setIfInBounds i u = s'.cells T C S) (hm : s'.m = s.m) (hp : s'.p = s.p) (hss : s'.ss = s.ss) : At w0 (w.setCell ⟨b, i, none⟩ u) b T M C S H s' ∧ Stp b T M S w H (w.setCell ⟨b, i, none⟩ u) H := by
 have hk : Kp (fun q => q = b) w (w.setCell ⟨b, i, none⟩ u) := ⟨rfl, rfl, rfl, by simp [World.setCell], fun q _ hq => Below.heap_setCell w _ u q hq⟩
 obtain ⟨D, hD⟩ := h.ses
 refine ⟨⟨?_, ?_, ?_, ⟨D, ?_⟩, h.lb, h.lT, h.lM, h.lS, h.bT, h.bM, h.bS, h.ST, h.SM, h.Hb, h.HT, h.HM, h.HS⟩, ⟨⟨hk.os, hk.tape, hk.output, hk.size, fun q hq hn => hk.block q hq fun e => hn (.inl e)⟩, fun _ h => .inl h⟩⟩
 ·rw [← hc]; exact h.box.put i u
 ·rw [hm]; exact h.tab.stay (hk.block T h.tab.hd.lt h.bT.symm) (hk.block M h.tab.ltM h.bM.symm)
 ·rw [hp]; exact h.pol.kp hk fun q hq => by subst hq; exact ⟨h.lb, h.Hb⟩
 ·rw [hss]; exact hD.stay (hk.block S hD.mp.lt h.bS.symm)
theorem At.sess {l : List Ses} (h : At w0 w b T M C S H s) (hs : ∃ D, SesAt w' S l D) (hg : w.grownBy w' (some S)) : At w0 w' b T M C S H { s with ss := l } ∧ Stp b T M S w H w' H := by
 have hk : Kp (fun q => q = S) w w' := ⟨hg.os, hg.tape, hg.output, hg.size, fun q hq hn => hg.block q hq (fun e => hn (Option.some.inj e))⟩
 refine ⟨⟨(hk.block b h.box.lt h.bS).trans h.box, h.tab.stay (hk.block T h.tab.hd.lt h.ST.symm) (hk.block M h.tab.ltM h.SM.symm), h.pol.kp hk fun q hq => by subst hq; exact ⟨h.lS, h.HS⟩, hs, h.lb, h.lT, h.lM, h.lS, h.bT, h.bM, h.bS, h.ST, h.SM, h.Hb, h.HT, h.HM, h.HS⟩, ⟨⟨hk.os, hk.tape, hk.output, hk.size, fun q hq hn => hk.block q hq fun e => hn (.inr (.inr (.inr (.inl e))))⟩, fun _ h => .inl h⟩⟩
theorem At.c (h : At w0 w b T M C S H s) {i : Nat} {u : Value} (hu : (s.cells T C S)[i]? = some u) : w.cell? ⟨b, i, none⟩ = some u := (h.box.cell i).trans hu
theorem At.cs (h : At w0 w b T M C S H s) : w.cell? ⟨b, 0, none⟩ = some (.int .i64 s.kind) ∧ w.cell? ⟨b, 1, none⟩ = some (.int .i64 s.n) ∧ w.cell? ⟨b, 2, none⟩ = some (.int .i64 s.bytes) ∧ w.cell? ⟨b, 3, none⟩ = some (.int .u64 s.seed) ∧ w.cell? ⟨b, 4, none⟩ = some (.int .u64 s.seq) ∧ w.cell? ⟨b, 5, none⟩ = some (.int .u64 s.now) ∧ w.cell? ⟨b, 6, none⟩ = some (.int .u64 s.ver) ∧ w.cell? ⟨b, 7, none⟩ = some (.int .i64 s.asked) ∧ w.cell? ⟨b, 8, none⟩ = some (.int .i64 s.hits) ∧ w.cell? ⟨b, 9, none⟩ = some (tp T) ∧ w.cell? ⟨b, 10, none⟩ = some (tp C) ∧ w.cell? ⟨b, 11, none⟩ = some (.map (some S)) :=
 ⟨h.c rfl, h.c rfl, h.c rfl, h.c rfl, h.c rfl, h.c rfl, h.c rfl, h.c rfl, h.c rfl, h.c rfl, h.c rfl, h.c rfl⟩
end
end Go.Proofs.YtkiabladmgagdabGreatDoor.Storey
namespace Go.Proofs.YtkiabladmgagdabGreatDoor.Storey
open Go.ChangeShapes Go.WideShapes Go.ChangeAt Go.RowKit
open Wirey (Blk Row str str_size str_list str_cat Kp)
open Taby (En TabAt Tbl tp find ins drop size ended)
open Policyy (Pv HeldP StepP Tell)
open Ringy (Key)

section
variable {w0 w : World} {b T M C S : Nat} {H : Nat → Prop} {s : Sv} {k : Key}
theorem made_s (h : At w0 w b T M C S H s) : Calls Tryz.prog 18 #[tp b] w fun e w' => e = .returned (.bool true) ∧ w = w' := by
 obtain ⟨-, -, -, -, -, -, -, -, -, -, c10, -⟩ := h.cs
 go_enter Tryz.func18, Tryz.ntmps18
 go_wp2_with fail
 go_ret
 exact ⟨rfl, rfl⟩
theorem seq_s (h : At w0 w b T M C S H s) : Calls Tryz.prog 10 #[tp b] w fun e w' => e = .returned (.int .u64 s.seq) ∧ w = w' := by
 obtain ⟨-, -, -, -, c4, -, -, -, -, -, -, -⟩ := h.cs
 have hm := made_s h
 go_enter Tryz.func10, Tryz.ntmps10
 go_wp2_with fail
 refine hm.mono ?_
 rintro e w' ⟨rfl, rfl⟩
 go_wp2_with fail
 go_ret
 exact ⟨rfl, rfl⟩
theorem one64_c {n : Nat} (hn : n ≤ 9223372036854775807) (w : World) : Calls Tryz.prog 116 #[.int .i64 n, .int .i64 9223372036854775807] w fun e w' => e = .returned (.int .i64 (one n 9223372036854775807 : Nat)) ∧ w = w' := by
 by_cases a : n < 9223372036854775807
 ·rw [one_lt a]
  have d1 : decide ((n : Int) < 9223372036854775807) = true := decide_eq_true (by omega)
  go_enter Tryz.func116, Tryz.ntmps116
  go_wp2_with fail
  go_ret
  exact ⟨rfl, rfl⟩
 ·rw [show one n 9223372036854775807 = n from if_neg a]
  have d1 : decide ((n : Int) < 9223372036854775807) = false := decide_eq_false (by omega)
  go_enter Tryz.func116, Tryz.ntmps116
  go_wp2_with fail
  go_ret
  exact ⟨rfl, rfl⟩
theorem oneU_c {n : Nat} (hn : n ≤ 18446744073709551615) (w : World) : Calls Tryz.prog 119 #[.int .u64 n, .int .u64 18446744073709551615] w fun e w' => e = .returned (.int .u64 (one n 18446744073709551615 : Nat)) ∧ w = w' := by
 by_cases a : n < 18446744073709551615
 ·rw [one_lt a]
  have d1 : decide ((n : Int) < 18446744073709551615) = true := decide_eq_true (by omega)
  go_enter Tryz.func119, Tryz.ntmps119
  go_wp2_with fail
  go_ret
  exact ⟨rfl, rfl⟩
 ·rw [show one n 18446744073709551615 = n from if_neg a]
  have d1 : decide ((n : Int) < 18446744073709551615) = false := decide_eq_false (by omega)
  go_enter Tryz.func119, Tryz.ntmps119
  go_wp2_with fail
  go_ret
  exact ⟨rfl, rfl⟩
theorem endOf_c {now ttl : Nat} (hn : now ≤ 18446744073709551615) (ht : ttl ≤ 1073741824) (w : World) : Calls Tryz.prog 120 #[.int .u64 now, .int .u64 ttl] w fun e w' => e = .returned (.int .u64 (endOf now ttl : Nat)) ∧ w = w' := by
 by_cases a : ttl = 0
 ·subst a
  rw [show endOf now 0 = 0 from if_pos (.inl rfl)]
  go_enter Tryz.func120, Tryz.ntmps120
  go_wp2_with fail
  go_ret
  exact ⟨rfl, rfl⟩
 have a1 : ((ttl : Int) == 0) = false := beq_eq_false_iff_ne.2 (by omega)
 by_cases c : now = 18446744073709551615
 ·subst c
  rw [show endOf 18446744073709551615 ttl = 0 from if_pos (.inr rfl)]
  go_enter Tryz.func120, Tryz.ntmps120
  go_wp2_with fail
  go_ret
  exact ⟨rfl, rfl⟩
 have c1 : ((now : Int) == 18446744073709551615) = false := beq_eq_false_iff_ne.2 (by omega)
 rw [show endOf now ttl = now + min ttl (18446744073709551615 - now) from if_neg (by omega)]
 go_enter Tryz.func120, Tryz.ntmps120
 go_wp2_with fail
 go_ret
 exact ⟨congrArg (fun z => Ending.returned (Value.int .u64 z)) (by omega), rfl⟩
theorem away_s (hk : k.length ≤ 64) (hl : s.m.length ≤ 100000) (h : At w0 w b T M C S H s) : Calls Tryz.prog 60 #[tp b, .string (str k)] w fun e w' => e = .returned (.tuple #[]) ∧ ∃ H', At w0 w' b T M C S H' (s.away k) ∧ Stp b T M S w H w' H' := by
 obtain ⟨-, -, -, -, -, -, -, -, -, c9, -, -⟩ := h.cs
 have hk64 : k.length ≤ maxLen := by unfold maxLen; omega
 go_enter Tryz.func60, Tryz.ntmps60
 go_wp2_with fail
 refine (Taby.drop_t k hk hl w h.tab).mono ?_
 rintro e w1 ⟨rfl, ht, hk1⟩
 obtain ⟨h1, s1⟩ := h.tabs ht hk1
 obtain ⟨-, -, -, -, -, -, -, -, -, -, d10, -⟩ := h1.cs
 go_wp2_with fail
 refine (Policyy.dropP_c hk64 h1.pol).mono ?_
 rintro e w2 ⟨rfl, H', hp, hs⟩
 obtain ⟨h2, s2⟩ := h1.pols hp hs
 go_wp2_with fail
 exact bodyPost_end (v := .tuple #[]) (results_none rfl _ _ _) rfl ⟨rfl, H', h2, s1.trans s2⟩
end
end Go.Proofs.YtkiabladmgagdabGreatDoor.Storey
namespace Go.Proofs.YtkiabladmgagdabGreatDoor.Storey
open Go.ChangeShapes Go.WideShapes Go.ChangeAt Go.RowKit
open Wirey (Blk Row str str_size str_list str_cat Kp)
open Taby (En TabAt Tbl tp find ins drop size ended St)
open Policyy (Pv HeldP StepP Tell)
open Ringy (Key)
open Regy

structure Kys (B : Nat) (b T M S : Nat) (H : Nat → Prop) (v : Value) (l : List Key) (W : World) : Prop where
 st : St W B v l
 no : ∀ g, v.ownBlock = some g → ¬ Own b T M S H g
section
variable {w0 w w' w'' : World} {B b T M C S : Nat} {H H' : Nat → Prop} {s t : Sv} {k : Key} {v : Value} {l : List Key}
theorem Kys.step (h : Kys B b T M S H v l w) (hs : Stp b T M S w H w' H') : Kys B b T M S H' v l w' :=
 ⟨h.st.stay fun g hg => hs.kp.block g (h.st.lt g hg).2 (h.no g hg), fun g hg ho => by
   rcases ho with h1 | h1 | h1 | h1 | h1
   · exact h.no g hg (.inl h1)
   · exact h.no g hg (.inr (.inl h1))
   · exact h.no g hg (.inr (.inr (.inl h1)))
   · exact h.no g hg (.inr (.inr (.inr (.inl h1))))
   · rcases hs.new g h1 with h2 | h2
     · exact h.no g hg (.inr (.inr (.inr (.inr h2))))
     · have := (h.st.lt g hg).2; omega⟩
theorem Kys.new (h : At w0 w b T M C S H s) (hs : St w' w.heap.size v l) : Kys w.heap.size b T M S H v l w' :=
 ⟨hs, fun g hg ho => by have := (h.low g ho).2; have := (hs.lt g hg).1; omega⟩
theorem Kys.at_ {a : Option Addr} {n c : Nat} (h : Kys B b T M S H (.slice a n c) l w) {i : Nat} {x : Key} (hx : l[i]? = some x) : ∃ g, a = some ⟨g, 0, none⟩ ∧ w.cell? ⟨g, i, none⟩ = some (.string (str x)) := by
 have hn : n = l.length := by obtain ⟨a', c', e⟩ := h.st.form; injection e
 subst hn
 obtain ⟨g, rfl, -, -, hc⟩ := h.st.at_ hx
 exact ⟨g, rfl, hc w rfl⟩
theorem away_len : ∀ (L : List Key) (s : Sv), (L.foldl Sv.away s).m.length ≤ s.m.length
 | [], _ => Nat.le_refl _
 | a :: L, s => Nat.le_trans (away_len L (s.away a)) Taby.drop_len
theorem ended_ok {now : Nat} {m : List En} (hok : ∀ x ∈ m, x.Ok) : ∀ k ∈ ended now m, k.length ≤ 64 := fun k hk => by
 unfold ended at hk
 obtain ⟨x, hx, rfl⟩ := List.mem_map.1 hk
 exact (hok x (List.mem_filter.1 hx).1).key
theorem ended_le {now : Nat} {m : List En} : (ended now m).length ≤ m.length := by
 unfold ended; rw [List.length_map]; exact List.length_filter_le _ _
set_option maxRecDepth 100000 in
theorem moveTo_s {now : Nat} (hn : now < 18446744073709551616) (hs : s.now < 18446744073709551616) (hl : s.m.length ≤ 100000) (h : At w0 w b T M C S H s) :
  Calls Tryz.prog 29 #[tp b, .int .u64 now] w fun e w' => e = .returned (.tuple #[]) ∧ ∃ H', At w0 w' b T M C S H' (s.moveTo now) ∧ Stp b T M S w H w' H' := by
 obtain ⟨-, -, -, -, -, c5, -, -, -, -, -, -⟩ := h.cs
 have f5 := h.box.free 5
 have hmx : ((max s.now now : Nat) : Int) = max (s.now : Int) (now : Int) := by omega
 have hmlt : max s.now now < 18446744073709551616 := by omega
 obtain ⟨h1, s1⟩ := h.cell (s' := s.tick now) 5 (.int .u64 (max (s.now : Int) (now : Int))) (by rw [← hmx]; rfl) rfl rfl rfl
 have hok := ended_ok (now := max s.now now) h.tab.ok
 have hle := ended_le (now := max s.now now) (m := s.m)
 have HM := Lib.hid hmx
 clear hmx
 go_enter Tryz.func29, Tryz.ntmps29
 go_wp2_with fail
 generalize w.setCell ⟨b, 5, none⟩ (.int .u64 (max (s.now : Int) (now : Int))) = w1 at *
 clear c5 f5
 have mk : ∀ W, At w0 W b T M C S H (s.tick now) → Stp b T M S w H W H → W.cell? ⟨b, 9, none⟩ = some (tp T) ∧ W.cell? ⟨b, 5, none⟩ = some (.int .u64 ((max s.now now : Nat) : Int)) ∧ At w0 W b T M C S H (s.tick now) ∧ Stp b T M S w H W H := fun W h hs => ⟨h.c rfl, h.c rfl, h, hs⟩
 refine region_only 11 #[false, false, false, false, false, false, false, false, false, false, false] (S := fun W => W.cell? ⟨b, 9, none⟩ = some (tp T) ∧ W.cell? ⟨b, 5, none⟩ = some (.int .u64 ((max s.now now : Nat) : Int)) ∧ At w0 W b T M C S H (s.tick now) ∧ Stp b T M S w H W H) rfl rfl (by kernel_rfl) (mk _ h1.drew (s1.later (D := w1.heap.size) ⟨rfl, rfl, rfl, Nat.le_refl _, fun _ _ => rfl⟩ (Nat.le_refl _))) (fun hSw => ?_)
 refine tkA 0 15 10 ?_ rfl rfl ?_ hSw ?_
 rotate_left
 ·intro wx hSx; (try dsimp only at hSx); go_split_ands; go_simp; (try with_reducible rfl)
 simp only [sA, List.set_cons_zero, sC]
 refine tkA 1 16 9 ?_ rfl rfl ?_ hSw ?_
 rotate_left
 ·intro wx hSx; (try dsimp only at hSx); go_split_ands; go_simp; (try with_reducible rfl)
 simp only [sA, List.set_cons_zero, sC]
 refine tkA 2 17 8 ?_ rfl rfl ?_ hSw ?_
 rotate_left
 ·intro wx hSx; (try dsimp only at hSx); go_split_ands; go_simp; (try with_reducible rfl)
 simp only [sA, List.set_cons_zero, sC]
 refine tkA 3 18 7 ?_ rfl rfl ?_ hSw ?_
 rotate_left
 ·intro wx hSx; (try dsimp only at hSx); go_split_ands; go_simp; (try with_reducible rfl)
 simp only [sA, List.set_cons_zero, sC]
 refine tkA 4 19 6 ?_ rfl rfl ?_ hSw ?_
 rotate_left
 ·intro wx hSx; (try dsimp only at hSx); go_split_ands; go_simp; (try with_reducible rfl)
 simp only [sA, List.set_cons_zero, sC]
 refine tkA 5 20 5 ?_ rfl rfl ?_ hSw ?_
 rotate_left
 ·intro wx hSx; (try dsimp only at hSx); go_split_ands; go_simp; (try with_reducible rfl)
 simp only [sA, List.set_cons_zero, sC]
 refine tkA 6 21 4 ?_ rfl rfl ?_ hSw ?_
 rotate_left
 ·intro wx hSx; (try dsimp only at hSx); go_split_ands; go_simp; (try with_reducible rfl)
 simp only [sA, List.set_cons_zero, sC]
 refine tkA 7 22 3 ?_ rfl rfl ?_ hSw ?_
 rotate_left
 ·intro wx hSx; (try dsimp only at hSx); go_split_ands; go_simp; (try with_reducible rfl)
 simp only [sA, List.set_cons_zero, sC]
 refine tkA 10 25 2 ?_ rfl rfl ?_ hSw ?_
 rotate_left
 ·intro wx hSx; (try dsimp only at hSx); go_split_ands; go_simp; (try with_reducible rfl)
 simp only [sA, List.set_cons_zero, sC]
 refine rdA 1 8 rfl fun K hK => ?_
 go_simp
 refine Calls.mono (Taby.ended_t (max s.now now) hmlt hl _ hSw.2.2.1.tab) ?_
 rintro e wv ⟨vk, rfl, hst, hbv⟩
 have hky := Kys.new hSw.2.2.1 hst
 obtain ⟨oa, oc, rfl⟩ := hst.form
 clear hst
 refine hK.out _ _ (mk _ (hSw.2.2.1.below hbv) (hSw.2.2.2.later hbv (Nat.le_refl _))) (fun hSw => ?_)
 clear hK K
 simp only [sA, List.set_cons_zero, sC]
 refine tkA 9 24 0 ?_ rfl rfl ?_ hSw ?_
 rotate_left
 ·intro wx hSx; (try dsimp only at hSx); go_split_ands; go_simp; (try with_reducible rfl)
 simp only [sA, List.set_cons_zero, sC]
 refine wpAnyH_done (by kernel_rfl) ⟨rfl, ?_⟩ 0
 obtain ⟨-, -, h2, s2⟩ := hSw
 clear mk h1 s1
 have hfin : s.moveTo now = (ended (max s.now now) s.m).foldl Sv.away (s.tick now) := rfl
 have HF := Lib.hid hfin
 clear hfin
 have hlL : (ended (max s.now now) s.m).length < 1000000 := by omega
 generalize ended (max s.now now) s.m = L at *
 generalize w1.drew.heap.size = B at *
 go_wp2_with fail
 go_loopw [25] (fun i wr => ∃ (j : Nat) (H' : Nat → Prop), j ≤ L.length ∧ i = .int .i64 j ∧ At w0 wr b T M C S H' ((L.take j).foldl Sv.away (s.tick now)) ∧ Stp b T M S w H wr H' ∧ Kys B b T M S H' (.slice oa L.length oc) L wr) (fun i _ => L.length - (intOf i).toNat)
 case atStart => exact ⟨0, H, by omega, rfl, h2, s2, hky⟩
 case round =>
  clear h2 s2 hky
  obtain ⟨j, H1, hj, rfl, hA, hS, hK⟩ := hrel
  by_cases h3 : j < L.length
  ·obtain ⟨x, hx⟩ : ∃ x, L[j]? = some x := ⟨_, List.getElem?_eq_getElem h3⟩
   have hx64 := hok x (List.mem_of_getElem? hx)
   have hml := Nat.le_trans (away_len (L.take j) (s.tick now)) (show (s.tick now).m.length ≤ 100000 from hl)
   obtain ⟨g, rfl, hc⟩ := hK.at_ hx
   have hlt : (j : Int) < (L.length : Int) := by omega
   have hnx : (L.take (j + 1)).foldl Sv.away (s.tick now) = ((L.take j).foldl Sv.away (s.tick now)).away x := Taby.foldl_take _ _ _ hx
   have hcall := away_s hx64 hml hA
   have HX := Lib.hid hx
   clear hx
   go_wp2_with fail
   refine hcall.mono ?_
   rintro e w3 ⟨rfl, H2, h3a, h3s⟩
   have hK3 := hK.step h3s
   have hS3 := hS.trans h3s
   rw [← hnx] at h3a
   clear hcall hnx hA hS hK hc
   go_wp2_with fail
   go_roundw
   case rel => exact ⟨j + 1, H2, by omega, rfl, h3a, hS3, hK3⟩
   case measure => simp [intOf]; omega
  ·obtain rfl : j = L.length := by omega
   rw [List.take_length] at hA
   go_wp2_with fail
   (try simp only [Exit.inBlock, Exit.then])
   exact bodyPost_end (v := .tuple #[]) (results_none rfl _ _ _) rfl ⟨rfl, H1, by rw [HF.out]; exact hA, hS⟩
end
end Go.Proofs.YtkiabladmgagdabGreatDoor.Storey
namespace Go.Proofs.YtkiabladmgagdabGreatDoor.Storey
open Go.ChangeShapes Go.WideShapes Go.ChangeAt Go.RowKit
open Wirey (Blk Row str str_size str_list str_cat Kp)
open Taby (En TabAt Tbl tp find ins drop size ended St)
open Policyy (Pv HeldP StepP Tell)
open Ringy (Key)
open Regy

section
variable {w0 w w' w'' : World} {B b T M C S : Nat} {H H' : Nat → Prop} {s t : Sv} {k : Key} {v : Value} {l : List Key}
theorem fit_done {f : Nat} (h : size t.m ≤ t.bytes) : Sv.fit f t = t := by
 cases f with
 | zero => rfl
 | succ f => rw [Sv.fit, if_pos h]
theorem evict_size (hB : t.Base) (hg : t.p.goes = some k) : size (t.evict k).m < size t.m := by
 have h1 := (hB.fit.goes_yes hg).1
 rw [hB.has] at h1
 cases e : find k t.m with
 | none => rw [e] at h1; cases h1
 | some y =>
  have h2 := (Taby.drop_one hB.rise e).2
  have h3 := (hB.ent y (Taby.find_mem e).1).1
  show size (drop k t.m) < size t.m
  omega
theorem bytesT_c {m : List En} (hm : m.length ≤ 100000) (h : TabAt w T M m) : Calls Tryz.prog 75 #[tp T] w fun e w' => e = .returned (.int .i64 (size m : Int)) ∧ Below w.heap.size w w' :=
 Taby.bytes_c (w0 := { w with heap := #[] }) (P := Tbl T M) hm ⟨M, h, fun _ => Iff.rfl, Nat.zero_le _, Nat.zero_le _⟩
def cellOf (T : Nat) (w : World) : Nat := (intOf ((w.cell? ⟨T, 1, none⟩).getD undef)).toNat
theorem cellOf_at (h : At w0 w b T M C S H t) : cellOf T w = size t.m := by
 have : w.cell? ⟨T, 1, none⟩ = some (.int .i64 (size t.m : Int)) := h.tab.hd.cell 1
 unfold cellOf
 rw [this]
 simp [intOf]
set_option maxRecDepth 100000 in
theorem fit_s (hB : s.Base) (h : At w0 w b T M C S H s) :
  Calls Tryz.prog 122 #[tp b] w fun e w' => e = .returned (.tuple #[]) ∧ ∃ H', At w0 w' b T M C S H' (Sv.fit s.m.length s) ∧ Stp b T M S w H w' H' := by
 go_enter Tryz.func122, Tryz.ntmps122
 go_wp2_with fail
 go_loopw [] (fun wr => ∃ (f : Nat) (t : Sv) (H' : Nat → Prop), Sv.fit s.m.length s = Sv.fit f t ∧ t.m.length ≤ f ∧ t.Base ∧ At w0 wr b T M C S H' t ∧ Stp b T M S w H wr H') (fun wr => cellOf T wr)
 case atStart => exact ⟨s.m.length, s, H, rfl, Nat.le_refl _, hB, h, .refl⟩
 case round =>
  clear h hB
  obtain ⟨f, t, H1, hf, hl, hB, hA, hS⟩ := hrel
  have hlen := hB.len.2
  have hn2 := hB.n2
  have hm : t.m.length ≤ 100000 := by omega
  have hsz := Taby.size_le hB.eok
  have mk : ∀ W, At w0 W b T M C S H1 t → Stp b T M S w H W H1 → W.cell? ⟨b, 9, none⟩ = some (tp T) ∧ W.cell? ⟨b, 2, none⟩ = some (.int .i64 t.bytes) ∧ At w0 W b T M C S H1 t ∧ Stp b T M S w H W H1 := fun W h hs => ⟨h.c rfl, h.c rfl, h, hs⟩
  have hmeas := cellOf_at hA
  have HF := Lib.hid hf
  clear hf
  go_wp2_with fail
  refine region_only 11 #[false, false, false, false, false, false, false, false, false, false, false] (S := fun W => W.cell? ⟨b, 9, none⟩ = some (tp T) ∧ W.cell? ⟨b, 2, none⟩ = some (.int .i64 t.bytes) ∧ At w0 W b T M C S H1 t ∧ Stp b T M S w H W H1) rfl rfl (by kernel_rfl) (mk _ hA.drew (hS.later (D := wr.heap.size) ⟨rfl, rfl, rfl, Nat.le_refl _, fun _ _ => rfl⟩ (Nat.le_refl _))) (fun hSw => ?_)
  refine tkA 0 4 10 ?_ rfl rfl ?_ hSw ?_
  rotate_left
  ·intro wx hSx; (try dsimp only at hSx); go_split_ands; go_simp; (try with_reducible rfl)
  simp only [sA, List.set_cons_zero, sC]
  refine tkA 1 5 9 ?_ rfl rfl ?_ hSw ?_
  rotate_left
  ·intro wx hSx; (try dsimp only at hSx); go_split_ands; go_simp; (try with_reducible rfl)
  simp only [sA, List.set_cons_zero, sC]
  refine tkA 2 6 8 ?_ rfl rfl ?_ hSw ?_
  rotate_left
  ·intro wx hSx; (try dsimp only at hSx); go_split_ands; go_simp; (try with_reducible rfl)
  simp only [sA, List.set_cons_zero, sC]
  refine tkA 3 7 7 ?_ rfl rfl ?_ hSw ?_
  rotate_left
  ·intro wx hSx; (try dsimp only at hSx); go_split_ands; go_simp; (try with_reducible rfl)
  simp only [sA, List.set_cons_zero, sC]
  refine tkA 5 9 6 ?_ rfl rfl ?_ hSw ?_
  rotate_left
  ·intro wx hSx; (try dsimp only at hSx); go_split_ands; go_simp; (try with_reducible rfl)
  simp only [sA, List.set_cons_zero, sC]
  refine tkA 6 10 5 ?_ rfl rfl ?_ hSw ?_
  rotate_left
  ·intro wx hSx; (try dsimp only at hSx); go_split_ands; go_simp; (try with_reducible rfl)
  simp only [sA, List.set_cons_zero, sC]
  refine tkA 7 11 4 ?_ rfl rfl ?_ hSw ?_
  rotate_left
  ·intro wx hSx; (try dsimp only at hSx); go_split_ands; go_simp; (try with_reducible rfl)
  simp only [sA, List.set_cons_zero, sC]
  refine tkA 8 12 3 ?_ rfl rfl ?_ hSw ?_
  rotate_left
  ·intro wx hSx; (try dsimp only at hSx); go_split_ands; go_simp; (try with_reducible rfl)
  simp only [sA, List.set_cons_zero, sC]
  refine tkA 9 13 2 ?_ rfl rfl ?_ hSw ?_
  rotate_left
  ·intro wx hSx; (try dsimp only at hSx); go_split_ands; go_simp; (try with_reducible rfl)
  simp only [sA, List.set_cons_zero, sC]
  refine rdA 1 4 rfl fun K hK => ?_
  go_simp
  refine Calls.mono (bytesT_c hm hSw.2.2.1.tab) ?_
  rintro e wv ⟨rfl, hbv⟩
  refine hK.out _ _ (mk _ (hSw.2.2.1.below hbv) (hSw.2.2.2.later hbv (Nat.le_refl _))) (fun hSw => ?_)
  clear hK K
  simp only [sA, List.set_cons_zero, sC]
  refine tkA 10 14 0 ?_ rfl rfl ?_ hSw ?_
  rotate_left
  ·intro wx hSx; (try dsimp only at hSx); go_split_ands; go_simp; (try with_reducible rfl)
  simp only [sA, List.set_cons_zero, sC]
  refine wpAnyH_done (by kernel_rfl) ⟨rfl, ?_⟩ 0
  obtain ⟨-, -, h2, s2⟩ := hSw
  by_cases hle : size t.m ≤ t.bytes
  ·have d1 : decide ((t.bytes : Int) < (size t.m : Int)) = false := decide_eq_false (by omega)
   go_wp2_with fail
   (try simp only [Exit.inBlock, Exit.then])
   exact bodyPost_end (v := .tuple #[]) (results_none rfl _ _ _) rfl ⟨rfl, H1, by rw [HF.out, fit_done hle]; exact h2, s2⟩
  ·have d1 : decide ((t.bytes : Int) < (size t.m : Int)) = true := decide_eq_true (by omega)
   cases hg : t.p.goes with
   | none =>
    exfalso
    have h0 := hB.fit.goes_no hg
    rw [hB.len.1] at h0
    rw [List.eq_nil_of_length_eq_zero h0] at hle
    exact hle (Nat.zero_le _)
   | some k =>
    have hev := hB.evicts hg
    have hlt := evict_size hB hg
    have hk := (hB.fit.goes_yes hg).1
    have hk64 : k.length ≤ 64 := by
     rw [hB.has] at hk
     cases e : find k t.m with
     | none => rw [e] at hk; cases hk
     | some y => have h3 := Taby.find_mem e; rw [← h3.2]; exact (hB.eok y h3.1).key
    have hcall := Policyy.evictP_c h2.pol
    rw [hg] at hcall
    simp only [Option.getD_some, Option.isSome_some] at hcall
    obtain ⟨-, -, -, -, -, -, -, -, -, -, d10, -⟩ := h2.cs
    have HG := Lib.hid hg
    have HLT := Lib.hid hlt
    clear hg hlt
    go_wp2_with fail
    refine hcall.mono ?_
    rintro e w3 ⟨rfl, H2, hp, hs⟩
    obtain ⟨h3, s3⟩ := h2.pols hp hs
    obtain ⟨-, -, -, -, -, -, -, -, -, e9, -, -⟩ := h3.cs
    have hm3 : ({ t with p := t.p.evict } : Sv).m.length ≤ 100000 := hm
    clear hcall hp hs
    go_wp2_with fail
    refine (Taby.drop_t k hk64 hm _ h3.tab).mono ?_
    rintro e w4 ⟨rfl, ht, hk4⟩
    obtain ⟨h4, s4⟩ := h3.tabs ht hk4
    have hS4 := (s2.trans s3).trans s4
    have hA4 : At w0 w4 b T M C S H2 (t.evict k) := h4
    clear hm3 h3 s3 h4 s4 ht hk4 e9 d10 h2 s2
    go_wp2_with fail
    go_roundw
    case rel =>
     cases f with
     | zero => have := hev.2; omega
     | succ f =>
      refine ⟨f, t.evict k, H2, ?_, by have := hev.2; omega, hev.1, hA4, hS4⟩
      rw [HF.out, Sv.fit, if_neg hle, HG.out]
    case measure => rw [cellOf_at hA4, hmeas]; exact HLT.out
end
end Go.Proofs.YtkiabladmgagdabGreatDoor.Storey
namespace Go.Proofs.YtkiabladmgagdabGreatDoor.Storey
open Go.ChangeShapes Go.WideShapes Go.ChangeAt Go.RowKit
open Wirey (Blk Row str str_size str_list str_cat Kp)
open Taby (En TabAt Tbl tp find ins drop size ended St)
open Policyy (Pv HeldP StepP Tell)
open Ringy (Key)

structure Loc (q : Nat) (ty : TypeId) (cs : Array Value) (b T M S : Nat) (H : Nat → Prop) (W : World) : Prop where
 blk : Blk W q ty cs
 no : ¬ Own b T M S H q
section
variable {w0 w w' W : World} {b T M C S q r : Nat} {H H' : Nat → Prop} {s t : Sv} {ty : TypeId} {cs : Array Value}
theorem At.not (h : At w0 w b T M C S H s) (hq : w.heap.size ≤ q) : ¬ Own b T M S H q := fun ho => by have := (h.low q ho).2; omega
theorem Loc.new (h : At w0 w b T M C S H s) (ty : TypeId) (cs : Array Value) : Loc w.heap.size ty cs b T M S H (w.alloc (.cells cs ty)) := ⟨Blk.new w ty cs, h.not (Nat.le_refl _)⟩
theorem Loc.step (h : Loc q ty cs b T M S H w) (hs : Stp b T M S w H w' H') : Loc q ty cs b T M S H' w' :=
 ⟨(hs.kp.block q h.blk.lt h.no).trans h.blk, fun ho => by
   rcases ho with h1 | h1 | h1 | h1 | h1
   · exact h.no (.inl h1)
   · exact h.no (.inr (.inl h1))
   · exact h.no (.inr (.inr (.inl h1)))
   · exact h.no (.inr (.inr (.inr (.inl h1))))
   · rcases hs.new q h1 with h2 | h2
     · exact h.no (.inr (.inr (.inr (.inr h2))))
     · have := h.blk.lt; omega⟩
theorem Loc.below (h : Loc q ty cs b T M S H w) (hb : Below w.heap.size w w') : Loc q ty cs b T M S H w' := h.step (.of_below hb (Nat.le_refl _))
theorem Loc.alloc (h : Loc q ty cs b T M S H w) (o : Obj) : Loc q ty cs b T M S H (w.alloc o) := h.below ((Below.refl _ w).alloc (Nat.le_refl _) o)
theorem Loc.drew (h : Loc q ty cs b T M S H w) : Loc q ty cs b T M S H w.drew := ⟨h.blk, h.no⟩
theorem Loc.far (h : Loc q ty cs b T M S H w) (hq : q ≠ r) (i : Nat) (u : Value) : Loc q ty cs b T M S H (w.setCell ⟨r, i, none⟩ u) := ⟨h.blk.far hq u, h.no⟩
theorem Loc.c (h : Loc q ty cs b T M S H w) {i : Nat} {u : Value} (hu : cs[i]? = some u) : w.cell? ⟨q, i, none⟩ = some u := (h.blk.cell i).trans hu
theorem Loc.f (h : Loc q ty cs b T M S H w) (i : Nat) : w.frozen? ⟨q, i, none⟩ = false := h.blk.free i
theorem At.beside (h : At w0 w b T M C S H s) (hr : ¬ Own b T M S H r) (hr0 : w0.heap.size ≤ r) (i : Nat) (u : Value) : At w0 (w.setCell ⟨r, i, none⟩ u) b T M C S H s :=
 h.kp (O := fun k => k = r) ⟨rfl, rfl, rfl, by simp [World.setCell], fun q _ hq => Below.heap_setCell w _ u q hq⟩ fun k hk => by subst hk; exact ⟨hr0, hr⟩
theorem Stp.set (h : Stp b T M S w H w' H') (hr : w.heap.size ≤ r) (i : Nat) (u : Value) : Stp b T M S w H (w'.setCell ⟨r, i, none⟩ u) H' :=
 ⟨⟨h.kp.os, h.kp.tape, h.kp.output, by have := h.kp.size; simpa [World.setCell] using this, fun k hk hn => (Below.heap_setCell w' _ u k (by show k ≠ r; omega)).trans (h.kp.block k hk hn)⟩, h.new⟩
theorem put3 {a c d : Value} (h : Blk w r ty #[a, c, d]) (x y z : Value) : Blk (((w.setCell ⟨r, 0, none⟩ x).setCell ⟨r, 1, none⟩ y).setCell ⟨r, 2, none⟩ z) r ty #[x, y, z] := ((h.put 0 x).put 1 y).put 2 z
theorem rep3 {a c d : Value} (h0 : At w0 w b T M C S H s) (h : At w0 W b T M C S H' t) (hs : Stp b T M S w H W H') (hL : Loc r ty #[a, c, d] b T M S H' W) (hr : w.heap.size ≤ r) (x y z : Value) :
  Blk (((W.setCell ⟨r, 0, none⟩ x).setCell ⟨r, 1, none⟩ y).setCell ⟨r, 2, none⟩ z) r ty #[x, y, z] ∧ At w0 (((W.setCell ⟨r, 0, none⟩ x).setCell ⟨r, 1, none⟩ y).setCell ⟨r, 2, none⟩ z) b T M C S H' t ∧ Stp b T M S w H (((W.setCell ⟨r, 0, none⟩ x).setCell ⟨r, 1, none⟩ y).setCell ⟨r, 2, none⟩ z) H' :=
 have hr0 := Nat.le_trans h0.since.size hr
 ⟨put3 hL.blk x y z, ((h.beside hL.no hr0 0 x).beside hL.no hr0 1 y).beside hL.no hr0 2 z, ((hs.set hr 0 x).set hr 1 y).set hr 2 z⟩
theorem Kys.tell {v : Value} {l : List Key} (h : At w0 w b T M C S H s) (hT : Tell w.heap.size H' v l w') : Kys w.heap.size b T M S H' v l w' :=
 ⟨hT.row, fun g hg ho => by
   have h1 := (hT.row.lt g hg).1
   have h2 : ∀ k, Own b T M S (fun _ => False) k → k < w.heap.size := fun k hk => (h.low k (by
     rcases hk with a | a | a | a | a
     · exact .inl a
     · exact .inr (.inl a)
     · exact .inr (.inr (.inl a))
     · exact .inr (.inr (.inr (.inl a)))
     · exact a.elim)).2
   rcases ho with a | a | a | a | a
   · have := h2 g (.inl a); omega
   · have := h2 g (.inr (.inl a)); omega
   · have := h2 g (.inr (.inr (.inl a))); omega
   · have := h2 g (.inr (.inr (.inr (.inl a)))); omega
   · exact hT.no g hg a⟩
theorem fall_len : ∀ (L : List Key) (s : Sv), (L.foldl Sv.fall s).m.length ≤ s.m.length
 | [], _ => Nat.le_refl _
 | a :: L, s => Nat.le_trans (fall_len L (s.fall a)) Taby.drop_len
end
structure Fr (w0 w : World) (b T M C S : Nat) (H : Nat → Prop) (q : Nat) (tq : TypeId) (cq : Array Value) (r : Nat) (tr : TypeId) (cr : Array Value) (W : World) (H' : Nat → Prop) (t : Sv) : Prop where
 at_ : At w0 W b T M C S H' t
 st : Stp b T M S w H W H'
 lq : Loc q tq cq b T M S H' W
 lr : Loc r tr cr b T M S H' W
section
variable {w0 w W W' : World} {b T M C S q r p : Nat} {H H' H'' : Nat → Prop} {s t t' : Sv} {tq tr : TypeId} {cq cr : Array Value}
theorem Fr.step (h : Fr w0 w b T M C S H q tq cq r tr cr W H' t) (hA : At w0 W' b T M C S H'' t') (hs : Stp b T M S W H' W' H'') : Fr w0 w b T M C S H q tq cq r tr cr W' H'' t' := ⟨hA, h.st.trans hs, h.lq.step hs, h.lr.step hs⟩
theorem Fr.below (h : Fr w0 w b T M C S H q tq cq r tr cr W H' t) (hb : Below W.heap.size W W') : Fr w0 w b T M C S H q tq cq r tr cr W' H' t := h.step (h.at_.below hb) (.of_below hb (Nat.le_refl _))
theorem Fr.drew (h : Fr w0 w b T M C S H q tq cq r tr cr W H' t) : Fr w0 w b T M C S H q tq cq r tr cr W.drew H' t := h.below ⟨rfl, rfl, rfl, Nat.le_refl _, fun _ _ => rfl⟩
theorem Fr.alloc (h : Fr w0 w b T M C S H q tq cq r tr cr W H' t) (o : Obj) : Fr w0 w b T M C S H q tq cq r tr cr (W.alloc o) H' t := h.below ((Below.refl _ W).alloc (Nat.le_refl _) o)
theorem Fr.set (h : Fr w0 w b T M C S H q tq cq r tr cr W H' t) (h0 : w0.heap.size ≤ w.heap.size) (hp : ¬ Own b T M S H' p) (hq : p ≠ q) (hr : p ≠ r) (hw : w.heap.size ≤ p) (i : Nat) (u : Value) : Fr w0 w b T M C S H q tq cq r tr cr (W.setCell ⟨p, i, none⟩ u) H' t :=
 ⟨h.at_.beside hp (Nat.le_trans h0 hw) i u, h.st.set hw i u, h.lq.far (fun e => hq e.symm) i u, h.lr.far (fun e => hr e.symm) i u⟩
theorem Fr.ne (h : Fr w0 w b T M C S H q tq cq r tr cr W H' t) (hp : W.heap.size ≤ p) : p ≠ q ∧ p ≠ r ∧ w.heap.size ≤ p := by
 have := h.lq.blk.lt
 have := h.lr.blk.lt
 have := h.st.kp.size
 omega
end
abbrev Opn.cs (o : Opn) : Array Value := #[.int .i64 o.kind, .string (str o.key), .string (str o.val), .int .u64 o.ttl, .int .u64 o.ver]
abbrev rep0 : Array Value := #[.int .i64 0, .string ⟨#[]⟩, .int .u64 0]
end Go.Proofs.YtkiabladmgagdabGreatDoor.Storey
