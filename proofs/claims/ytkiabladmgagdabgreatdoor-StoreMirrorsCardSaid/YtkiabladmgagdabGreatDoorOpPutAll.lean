/- A slice of structs that is handed in: where its elements lie, and what each is read as. No condition. A number cut by a mask: what is left is its last bits. No condition. Chapter 10 over plain values: which operations may be, and their bytes. It speaks of no program. Layer 10: what the program's Check answers. The only condition: no text is longer than a text may be. A region that draws its order and does not panic: one step after the other. No condition. Layer 10: the program's operations, records and replies as bytes. No condition but the bounds that a law lays. -/
import Derived.Test.YtkiabladmgagdabGreatDoorMemAll
import Derived.Deep.Slices
import Derived.Test.YtkiabladmgagdabGreatDoorWireReadAll
import Derived.Test.YtkiabladmgagdabGreatDoorWireFlyAll
import Derived.Deep.RegionHeld3
import Derived.BigQuiet
import Derived.Test.YtkiabladmgagdabGreatDoorSq
namespace Go.Proofs.YtkiabladmgagdabGreatDoor.Arry
open Go.ChangeShapes Go.WideShapes Go.ChangeAt Go.RowKit Go.Deep
open Wirey (str str_of)

theorem spot_none {w : World} {a : Addr} {u : Value} (h : w.cell? a = some u) : a = ⟨a.block, a.off, none⟩ := by
 obtain ⟨b, o, s⟩ := a
 cases s with
 | none => rfl
 | some s =>
  unfold World.cell? at h
  split at h
  ·simp at h
  ·simp at h
theorem addr_add (b o k : Nat) : (⟨b, o, none⟩ : Addr).add k = ⟨b, o + k, none⟩ := by unfold Addr.add; split <;> simp_all
theorem list_n {α : Type} : ∀ (n : Nat) (l : List α), l.length = n + 1 → ∃ a m, l = a :: m ∧ m.length = n
 | n, a :: m, h => ⟨a, m, rfl, by simpa using h⟩
theorem u64_nat {n : Int} (h : (Lit.int .u64 n).wf = true) : ∃ m : Nat, n = (m : Int) ∧ m < 18446744073709551616 := by
 have hb := bounds_u64 h
 exact ⟨n.toNat, by omega, by omega⟩
structure Arr (w : World) (ao : Option Addr) (len sb off N : Nat) (C : Nat → List Value) : Prop where
 most : len ≤ maxLen
 at_ : 0 < len → ao = some ⟨sb, off, none⟩
 lt : 0 < len → sb < w.heap.size
 cell : ∀ i, i < len → ∀ j, j < N → w.cell? ⟨sb, off + i * N + j, none⟩ = (C i)[j]?
theorem Arr.below {w w' : World} {ao : Option Addr} {len sb off N : Nat} {C : Nat → List Value} (h : Arr w ao len sb off N C) (hb : Below w.heap.size w w') : Arr w' ao len sb off N C :=
 ⟨h.most, h.at_, fun hl => Nat.lt_of_lt_of_le (h.lt hl) hb.size, fun i hi j hj => (World.cell?_of_block (a := ⟨sb, off + i * N + j, none⟩) (hb.block sb (h.lt (by omega)))).trans (h.cell i hi j hj)⟩
theorem open_arr {H : Type} {enc : TypeId × Value → H} {P : Program} {w : World} {base : Nat} {spare : Nat → Bool} {held : Bool} {t e : TypeId} {N fuel : Nat} {v : Value} {x : DataW H × List MemPlace}
  (ht : P.underlying t = some (.slice e)) (hN : P.cellsOf e = N) (hpos : 0 < N) (h : DataW.trod enc P w base spare held fuel t [v] = some x) :
  ∃ (ao : Option Addr) (len cap sb off : Nat) (C : Nat → List Value), v = .slice ao len cap ∧ Arr w ao len sb off N C ∧
   ∀ i, i < len → ∃ n y, DataW.trod enc P w base spare held n e (C i) = some y := by
 rcases open_slice ht h with ⟨h0, _⟩ | ⟨a, len, cap, m, n, D, Pl, h0, _, hl, hm, hmm, _, hi⟩
 ·obtain rfl : v = .slice none 0 0 := by simpa using h0
  exact ⟨none, 0, 0, 0, 0, fun _ => [], rfl, ⟨by omega, fun h => by omega, fun h => by omega, fun i hi => by omega⟩, fun i hi => by omega⟩
 ·obtain rfl : v = .slice (some a) len cap := by simpa using h0
  have hlm : len ≤ m := by
   rw [hmm]; split
   ·exact hl
   ·exact Nat.le_refl _
  rw [hN] at hi
  have each : ∀ i, ∃ cs : List Value, i < len → (∀ j, j < N → w.cell? ((a.add (i * N)).add j) = cs[j]?) ∧ cs.length = N ∧ ∃ n y, DataW.trod enc P w base spare held n e cs = some y := by
   intro i
   by_cases hil : i < len
   ·obtain ⟨cs, hc, ht⟩ := hi i (by omega)
    obtain ⟨_, hcl, hat⟩ := World.cells?_some hc
    exact ⟨cs, fun _ => ⟨hat, hcl, _, _, ht⟩⟩
   ·exact ⟨[], fun h => absurd h hil⟩
  obtain ⟨C, hC⟩ : ∃ C : Nat → List Value, ∀ i, i < len → (∀ j, j < N → w.cell? ((a.add (i * N)).add j) = (C i)[j]?) ∧ (C i).length = N ∧ ∃ n y, DataW.trod enc P w base spare held n e (C i) = some y :=
   ⟨fun i => (each i).choose, fun i => (each i).choose_spec⟩
  clear each
  by_cases hz : len = 0
  ·subst hz
   exact ⟨some a, 0, cap, 0, 0, fun _ => [], rfl, ⟨by omega, fun h => by omega, fun h => by omega, fun i hi => by omega⟩, fun i hi => by omega⟩
  ·obtain ⟨g0, gl, _⟩ := hC 0 (by omega)
   obtain ⟨u, hu⟩ : ∃ u, (C 0)[0]? = some u := ⟨_, List.getElem?_eq_getElem (by omega)⟩
   have g1 := (g0 0 hpos).trans hu
   have g2 : w.cell? a = some u := by
    have : (a.add (0 * N)).add 0 = a := by
     unfold Addr.add; cases a with | mk b o s => cases s <;> simp
    rwa [this] at g1
   have ha : a = ⟨a.block, a.off, none⟩ := spot_none g2
   have hsb := World.block_lt_of_cell? w _ g2
   refine ⟨some a, len, cap, a.block, a.off, C, rfl, ⟨Nat.le_trans hl hm, fun _ => congrArg some ha, fun _ => hsb, fun i hil j hj => ?_⟩, fun i hil => (hC i hil).2.2⟩
   have := (hC i hil).1 j hj
   rw [ha, addr_add, addr_add] at this
   exact this
end Go.Proofs.YtkiabladmgagdabGreatDoor.Arry
namespace Go.Proofs.YtkiabladmgagdabGreatDoor.Bity
theorem i64_and (n : Int) (m k : Nat) (hk : (BitVec.ofInt 64 (m : Int)).toNat = 2 ^ k - 1) (hs : k ≤ 20) : bits .and .i64 n (m : Int) = ((n % ((2 ^ 64 : Nat) : Int)).toNat % 2 ^ k : Nat) := by
 have key : (BitVec.ofInt 64 n &&& BitVec.ofInt 64 (m : Int)).toNat = (n % ((2 ^ 64 : Nat) : Int)).toNat % 2 ^ k := by
  rw [BitVec.toNat_and, BitVec.toNat_ofInt, hk, Nat.and_two_pow_sub_one_eq_mod]
 show IntKind.i64.wrap ((BitVec.ofInt 64 n &&& BitVec.ofInt 64 (m : Int)).toNat : Nat) = _
 rw [key, IntKind.wrap_i64]
 have h1 : (n % ((2 ^ 64 : Nat) : Int)).toNat % 2 ^ k < 2 ^ k := Nat.mod_lt _ (Nat.two_pow_pos k)
 have h2 : 2 ^ k ≤ 2 ^ 20 := Nat.pow_le_pow_right (by omega) hs
 generalize (n % ((2 ^ 64 : Nat) : Int)).toNat % 2 ^ k = q at *
 omega
theorem u64_and (n : Int) (m k : Nat) (hk : (BitVec.ofInt 64 (m : Int)).toNat = 2 ^ k - 1) (hs : k ≤ 20) : bits .and .u64 n (m : Int) = ((n % ((2 ^ 64 : Nat) : Int)).toNat % 2 ^ k : Nat) := by
 have key : (BitVec.ofInt 64 n &&& BitVec.ofInt 64 (m : Int)).toNat = (n % ((2 ^ 64 : Nat) : Int)).toNat % 2 ^ k := by
  rw [BitVec.toNat_and, BitVec.toNat_ofInt, hk, Nat.and_two_pow_sub_one_eq_mod]
 show IntKind.u64.wrap ((BitVec.ofInt 64 n &&& BitVec.ofInt 64 (m : Int)).toNat : Nat) = _
 rw [key, IntKind.wrap_u64]
 have h1 : (n % ((2 ^ 64 : Nat) : Int)).toNat % 2 ^ k < 2 ^ k := Nat.mod_lt _ (Nat.two_pow_pos k)
 have h2 : 2 ^ k ≤ 2 ^ 20 := Nat.pow_le_pow_right (by omega) hs
 generalize (n % ((2 ^ 64 : Nat) : Int)).toNat % 2 ^ k = q at *
 omega
end Go.Proofs.YtkiabladmgagdabGreatDoor.Bity
namespace Go.Proofs.YtkiabladmgagdabGreatDoor.Opy
open Wirey (enc txt)


def chk (k : Int) (key val : List UInt8) (t v : Nat) : Bool :=
 if 64 < key.length ∨ 4096 < val.length ∨ 1073741824 < t then false
 else if k = 1 ∨ k = 3 then !key.isEmpty && (val.isEmpty && decide (t = 0)) && decide (v = 0)
 else if k = 2 then !key.isEmpty && decide (v = 0)
 else if k = 4 then !key.isEmpty && decide (0 < v)
 else if k = 5 then key.isEmpty && (val.isEmpty && decide (t = 0)) && decide (v = 0)
 else false
def replyB (n : Nat) (l : List UInt8) (v : Nat) : List UInt8 := enc n ++ (txt l ++ enc v)
end Go.Proofs.YtkiabladmgagdabGreatDoor.Opy
namespace Go.Proofs.YtkiabladmgagdabGreatDoor.Opy
open Go.ChangeShapes Go.WideShapes Go.ChangeAt Go.RowKit
open Wirey (Blk Row str str_size str_list str_cat enc)

set_option maxHeartbeats 4000000 in
set_option maxRecDepth 100000 in
theorem pcheck_c (k : Int) (key val : List UInt8) (t v : Nat) (hk : key.length ≤ maxLen) (hv : val.length ≤ maxLen) (w : World) :
  Calls Tryz.prog 28 #[.agg #[.int .i64 k, .string (str key), .string (str val), .int .u64 t, .int .u64 v]] w fun e w' => e = .returned (.bool (chk k key val t v)) ∧ Below w.heap.size w w' := by
 unfold maxLen at hk hv
 have hsz := str_size
 have htl := Wirey.toList_str
 have hb := (Below.refl _ w).alloc (Nat.le_refl _) (.cells #[.int .i64 k, .string (str key), .string (str val), .int .u64 t, .int .u64 v] 36)
 have HB := Lib.hid hb
 clear hb
 by_cases a1 : 64 < key.length
 ·have d1 : decide ((64 : Int) < (key.length : Int)) = true := decide_eq_true (by omega)
  have hc : chk k key val t v = false := if_pos (.inl a1)
  rw [hc]
  clear hc
  go_enter Tryz.func28, Tryz.ntmps28
  go_wp2_with fail
  go_ret
  exact ⟨rfl, HB.out⟩
 have d1 : decide ((64 : Int) < (key.length : Int)) = false := decide_eq_false (by omega)
 by_cases a2 : 4096 < val.length
 ·have d2 : decide ((4096 : Int) < (val.length : Int)) = true := decide_eq_true (by omega)
  have hc : chk k key val t v = false := if_pos (.inr (.inl a2))
  rw [hc]
  clear hc
  go_enter Tryz.func28, Tryz.ntmps28
  go_wp2_with fail
  go_ret
  exact ⟨rfl, HB.out⟩
 have d2 : decide ((4096 : Int) < (val.length : Int)) = false := decide_eq_false (by omega)
 by_cases a3 : 1073741824 < t
 ·have d3 : decide ((1073741824 : Int) < (t : Int)) = true := decide_eq_true (by omega)
  have hc : chk k key val t v = false := if_pos (.inr (.inr a3))
  rw [hc]
  clear hc
  go_enter Tryz.func28, Tryz.ntmps28
  go_wp2_with fail
  go_ret
  exact ⟨rfl, HB.out⟩
 have d3 : decide ((1073741824 : Int) < (t : Int)) = false := decide_eq_false (by omega)
 have hc : chk k key val t v = (if k = 1 ∨ k = 3 then !key.isEmpty && (val.isEmpty && decide (t = 0)) && decide (v = 0) else if k = 2 then !key.isEmpty && decide (v = 0) else if k = 4 then !key.isEmpty && decide (0 < v) else if k = 5 then key.isEmpty && (val.isEmpty && decide (t = 0)) && decide (v = 0) else false) := if_neg (by omega)
 rw [hc]
 clear hc a1 a2 a3
 have f1 : (key == ([] : List UInt8)) = key.isEmpty := by cases key <;> rfl
 have f2 : (val == ([] : List UInt8)) = val.isEmpty := by cases val <;> rfl
 have f3 : ((t : Int) == 0) = decide (t = 0) := by
  by_cases h : t = 0
  ·subst h; rfl
  ·rw [decide_eq_false h, beq_eq_false_iff_ne]; omega
 have f4 : ((v : Int) == 0) = decide (v = 0) := by
  by_cases h : v = 0
  ·subst h; rfl
  ·rw [decide_eq_false h, beq_eq_false_iff_ne]; omega
 have fe : (⟨#[]⟩ : ByteArray).toList = [] := Wirey.toList_str []
 generalize key.isEmpty = b1 at *
 generalize val.isEmpty = b2 at *
 generalize decide (t = 0) = b3 at *
 generalize decide (v = 0) = b4 at *
 by_cases h1 : k = 1
 ·subst h1
  rw [if_pos (.inl rfl)]
  cases b1 <;> cases b2 <;> cases b3 <;> cases b4
  all_goals
   go_enter Tryz.func28, Tryz.ntmps28
   go_wp2_with fail
   go_ret
   exact ⟨rfl, HB.out⟩
 by_cases h3 : k = 3
 ·subst h3
  rw [if_pos (.inr rfl)]
  cases b1 <;> cases b2 <;> cases b3 <;> cases b4
  all_goals
   go_enter Tryz.func28, Tryz.ntmps28
   go_wp2_with fail
   go_ret
   exact ⟨rfl, HB.out⟩
 by_cases h2 : k = 2
 ·subst h2
  rw [if_neg (by decide), if_pos rfl]
  cases b1 <;> cases b2
  all_goals
   go_enter Tryz.func28, Tryz.ntmps28
   go_wp2_with fail
   go_ret
   exact ⟨rfl, HB.out⟩
 by_cases h4 : k = 4
 ·subst h4
  rw [if_neg (by decide), if_neg (by decide), if_pos rfl]
  cases b1 <;> cases b2
  all_goals
   go_enter Tryz.func28, Tryz.ntmps28
   go_wp2_with fail
   go_ret
   exact ⟨rfl, HB.out⟩
 by_cases h5 : k = 5
 ·subst h5
  rw [if_neg (by decide), if_neg (by decide), if_neg (by decide), if_pos rfl]
  cases b1 <;> cases b2 <;> cases b3 <;> cases b4
  all_goals
   go_enter Tryz.func28, Tryz.ntmps28
   go_wp2_with fail
   go_ret
   exact ⟨rfl, HB.out⟩
 rw [if_neg (by omega), if_neg h2, if_neg h4, if_neg h5]
 have g1 : (k == 1) = false := beq_eq_false_iff_ne.2 h1
 have g2 : (k == 2) = false := beq_eq_false_iff_ne.2 h2
 have g3 : (k == 3) = false := beq_eq_false_iff_ne.2 h3
 have g4 : (k == 4) = false := beq_eq_false_iff_ne.2 h4
 have g5 : (k == 5) = false := beq_eq_false_iff_ne.2 h5
 cases b2
 all_goals
  go_enter Tryz.func28, Tryz.ntmps28
  go_wp2_with fail
  go_ret
  exact ⟨rfl, HB.out⟩
end Go.Proofs.YtkiabladmgagdabGreatDoor.Opy
namespace Go.Proofs.YtkiabladmgagdabGreatDoor.Regy
open Go.ChangeShapes Go.WideShapes Go.ChangeAt Go.RowKit

def Only (Q : Exit → Act → World → Prop) : Exit → Act → World → Prop := fun e a w => e = .normal ∧ Q .normal a w
theorem Only.panic {Q : Exit → Act → World → Prop} {c : _} {a a' : Act} {w : World} (h : Only Q (.panic c) a w) : Only Q (.panic c) a' w := by cases h.1
section
variable {P : Program} {md : Region.Mode} {ops : Array Oper} {Q : Exit → Act → World → Prop}
theorem take_at (i d : Nat) (v : Value) {S : World → Prop} {oi : Oper} {fuel : Nat} {listed : Array Bool} {T : Array Value} {D : List Deferred} {w : World} (hi : ops[i]? = some oi) (hd : oi.dst = some d)
  (hs : Region.noSelect ops = true) (hf : Region.free md ops listed i = true) (hr : (Region.ready md ops listed).contains i = true)
  (hy : YieldsIf P ops S oi v { tmps := T, defers := D }) (hS : S w)
  (h : wpAnyH P md ops (Only Q) S fuel (listed.setIfInBounds i true) { tmps := T.setIfInBounds d v, defers := D } w) : wpAnyH P md ops (Only Q) S (fuel + 1) listed { tmps := T, defers := D } w := by
 refine wpAnyH_take hi hs hf hr (fun _ _ _ h => h.panic) hy hS ?_
 rw [hd]
 exact h
theorem region_only (k : Nat) (L : Array Bool) {S : World → Prop} {id : Nat} {a : Act} {w : World} (hk : ops.size = k) (hL : L = Array.replicate k false) (hm : P.follows .mixedOrders = true) (hS : S w.drew)
  (h : S w.drew → wpAnyH P .any ops (Only Q) S k L a w.drew) : (Code.region id ops true).wp P Q a w := by
 subst hk hL
 exact wp_mono (wp_region_held_drew (S := S) hm hS h) fun e a w ⟨h1, h2⟩ => by subst h1; exact h2
end
theorem tkA (i d fuel : Nat) (v : Value) {P : Program} {md : Region.Mode} {ops : Array Oper} {Q : Exit → Act → World → Prop} {S : World → Prop} {oi : Oper} {listed : Array Bool} {T : Array Value} {D : List Deferred} {w : World} (hi : ops[i]? = some oi) (hd : oi.dst = some d)
  (hy : ∀ w, S w → (execOp (Act.eval { tmps := T, defers := D }) oi).run P w = .ok (.value v) w) (hS : S w)
  (h : wpAnyH P md ops (Only Q) S fuel (listed.setIfInBounds i true) { tmps := T.setIfInBounds d v, defers := D } w)
  (hw : Region.wanted oi (yielded ops T) = true := by rfl) (hs : Region.noSelect ops = true := by kernel_rfl) (hf : Region.free md ops listed i = true := by kernel_rfl) (hr : (Region.ready md ops listed).contains i = true := by kernel_rfl) : wpAnyH P md ops (Only Q) S (fuel + 1) listed { tmps := T, defers := D } w :=
 take_at i d v hi hd hs hf hr (Or.inl ⟨hw, hy⟩) hS h
theorem rdA (fuel i : Nat) {P : Program} {md : Region.Mode} {ops : Array Oper} {Q : Exit → Act → World → Prop} {S : World → Prop} {listed : Array Bool} {a : Act} {w : World} {o : Oper} (ho : ops[i]? = some o)
  (h : ∀ K' : Act → World → Prop, Shut (∀ a w, S w → (S w → wpAnyH P md ops Q S fuel (listed.setIfInBounds i true) a w) → K' a w) → if Region.wanted o (yielded ops a.tmps) = true then Oper.wp P o a w K' Q else K' (a.put o.dst undef) w)
  (hr : Region.ready md ops listed = [i] := by kernel_rfl) : wpAnyH P md ops Q S (fuel + 1) listed a w :=
 wpAnyH_ready hr (by simp) (AllReadyH.cons ho h AllReadyH.nil)
end Go.Proofs.YtkiabladmgagdabGreatDoor.Regy
namespace Go.Proofs.YtkiabladmgagdabGreatDoor.Opy
open Go.ChangeShapes Go.WideShapes Go.ChangeAt Go.RowKit
open Wirey (Blk Row str str_size str_list str_cat enc enc_len txt)
open Regy

set_option maxHeartbeats 4000000 in
set_option maxRecDepth 100000 in
theorem pputReply_c {n v : Nat} {l : List UInt8} (hn : n < 65536) (hl : l.length ≤ 100000) (hv : v < 18446744073709551616) (w : World) :
  Calls Tryz.prog 53 #[.agg #[.int .i64 n, .string (str l), .int .u64 v]] w fun e w' => e = .returned (.string (str (replyB n l v))) ∧ Below w.heap.size w w' := by
 have hcat := str_cat
 have hsz := str_size
 have l1 := enc_len (n := n) (by omega)
 have l2 := enc_len (n := l.length) (by omega)
 have l3 := enc_len (n := v) hv
 have l4 : (txt l).length ≤ 100010 := by unfold txt; rw [List.length_append]; omega
 have c1 : ¬ (9223372036854775807 < (enc n).length + (txt l).length) := by omega
 have c2 : ¬ (9223372036854775807 < (enc n ++ txt l).length + (enc v).length) := by rw [List.length_append]; omega
 have c3 : ¬ (9223372036854775807 < (enc n).length + (txt l).length + (enc v).length) := by omega
 have hr : replyB n l v = enc n ++ (txt l ++ enc v) := rfl
 have HR := Lib.hid hr
 clear hr l1 l2 l3 l4
 have ew : IntKind.u64.wrap (n : Int) = (n : Int) := by rw [IntKind.wrap_u64]; omega
 have step : ∀ {W W' : World}, (Below w.heap.size w W ∧ Blk W w.heap.size 45 #[.int .i64 n, .string (str l), .int .u64 v]) → Below W.heap.size W W' → (Below w.heap.size w W' ∧ Blk W' w.heap.size 45 #[.int .i64 n, .string (str l), .int .u64 v]) := fun {W W'} hW hb => ⟨hW.1.trans (hb.mono hW.1.size), hW.2.below hb hW.2.lt⟩
 have f1 : ∀ W, (Below w.heap.size w W ∧ Blk W w.heap.size 45 #[.int .i64 n, .string (str l), .int .u64 v]) → Calls Tryz.prog 44 #[.int .u64 n] W fun e W' => e = .returned (.string (str (enc n))) ∧ (Below w.heap.size w W' ∧ Blk W' w.heap.size 45 #[.int .i64 n, .string (str l), .int .u64 v]) := fun W hW => (Wirey.num_c n (by omega) W).mono fun _ _ ⟨a, b⟩ => ⟨a, step hW b⟩
 have f2 : ∀ W, (Below w.heap.size w W ∧ Blk W w.heap.size 45 #[.int .i64 n, .string (str l), .int .u64 v]) → Calls Tryz.prog 48 #[.string (str l)] W fun e W' => e = .returned (.string (str (txt l))) ∧ (Below w.heap.size w W' ∧ Blk W' w.heap.size 45 #[.int .i64 n, .string (str l), .int .u64 v]) := fun W hW => (Wirey.text_c l (by omega) W).mono fun _ _ ⟨a, b⟩ => ⟨a, step hW b⟩
 have f3 : ∀ W, (Below w.heap.size w W ∧ Blk W w.heap.size 45 #[.int .i64 n, .string (str l), .int .u64 v]) → Calls Tryz.prog 44 #[.int .u64 v] W fun e W' => e = .returned (.string (str (enc v))) ∧ (Below w.heap.size w W' ∧ Blk W' w.heap.size 45 #[.int .i64 n, .string (str l), .int .u64 v]) := fun W hW => (Wirey.num_c v hv W).mono fun _ _ ⟨a, b⟩ => ⟨a, step hW b⟩
 have cs : ∀ {W : World}, (Below w.heap.size w W ∧ Blk W w.heap.size 45 #[.int .i64 n, .string (str l), .int .u64 v]) → (fun W => W.cell? ⟨w.heap.size, 0, none⟩ = some (.int .i64 n) ∧ W.cell? ⟨w.heap.size, 1, none⟩ = some (.string (str l)) ∧ W.cell? ⟨w.heap.size, 2, none⟩ = some (.int .u64 v) ∧ (Below w.heap.size w W ∧ Blk W w.heap.size 45 #[.int .i64 n, .string (str l), .int .u64 v])) W := fun {W} hW => ⟨hW.2.cell 0, hW.2.cell 1, hW.2.cell 2, hW⟩
 have h0 : (Below w.heap.size w (w.alloc (.cells #[.int .i64 n, .string (str l), .int .u64 v] 45)).drew ∧ Blk (w.alloc (.cells #[.int .i64 n, .string (str l), .int .u64 v] 45)).drew w.heap.size 45 #[.int .i64 n, .string (str l), .int .u64 v]) := ⟨((Below.refl _ w).alloc (Nat.le_refl _) (.cells #[.int .i64 n, .string (str l), .int .u64 v] 45)).drew, Blk.new w 45 #[.int .i64 n, .string (str l), .int .u64 v]⟩
 have h1 := cs h0
 clear h0 step
 go_enter Tryz.func53, Tryz.ntmps53
 go_upto_region 1 with (fail)
 dsimp only at h1
 refine region_only 13 #[false, false, false, false, false, false, false, false, false, false, false, false, false] (S := (fun W => W.cell? ⟨w.heap.size, 0, none⟩ = some (.int .i64 n) ∧ W.cell? ⟨w.heap.size, 1, none⟩ = some (.string (str l)) ∧ W.cell? ⟨w.heap.size, 2, none⟩ = some (.int .u64 v) ∧ (Below w.heap.size w W ∧ Blk W w.heap.size 45 #[.int .i64 n, .string (str l), .int .u64 v]))) rfl rfl (by kernel_rfl) h1 (fun hSw => ?_)
 refine tkA 0 3 12 ?_ rfl rfl ?_ hSw ?_
 rotate_left
 ·intro wx hSx; (try dsimp only at hSx); go_split_ands; go_simp; (try with_reducible rfl)
 simp only [sA, List.set_cons_zero, sC]
 refine tkA 1 4 11 ?_ rfl rfl ?_ hSw ?_
 rotate_left
 ·intro wx hSx; (try dsimp only at hSx); go_split_ands; go_simp; (try with_reducible rfl)
 simp only [sA, List.set_cons_zero, sC]
 refine tkA 2 5 10 ?_ rfl rfl ?_ hSw ?_
 rotate_left
 ·intro wx hSx; (try dsimp only at hSx); go_split_ands; go_simp; (try with_reducible rfl)
 simp only [sA, List.set_cons_zero, sC]
 refine tkA 4 7 9 ?_ rfl rfl ?_ hSw ?_
 rotate_left
 ·intro wx hSx; (try dsimp only at hSx); go_split_ands; go_simp; (try with_reducible rfl)
 simp only [sA, List.set_cons_zero, sC]
 refine tkA 5 8 8 ?_ rfl rfl ?_ hSw ?_
 rotate_left
 ·intro wx hSx; (try dsimp only at hSx); go_split_ands; go_simp; (try with_reducible rfl)
 simp only [sA, List.set_cons_zero, sC]
 refine tkA 8 11 7 ?_ rfl rfl ?_ hSw ?_
 rotate_left
 ·intro wx hSx; (try dsimp only at hSx); go_split_ands; go_simp; (try with_reducible rfl)
 simp only [sA, List.set_cons_zero, sC]
 refine tkA 9 12 6 ?_ rfl rfl ?_ hSw ?_
 rotate_left
 ·intro wx hSx; (try dsimp only at hSx); go_split_ands; go_simp; (try with_reducible rfl)
 simp only [sA, List.set_cons_zero, sC]
 refine rdA 5 3 rfl fun K hK => ?_
 go_simp
 refine Calls.mono (f1 _ hSw.2.2.2) ?_
 rintro e wv ⟨rfl, hwv⟩
 refine hK.out _ _ (cs hwv) (fun hSw => ?_)
 clear hK K
 simp only [sA, List.set_cons_zero, sC]
 refine rdA 4 6 rfl fun K hK => ?_
 go_simp
 refine Calls.mono (f2 _ hSw.2.2.2) ?_
 rintro e wv ⟨rfl, hwv⟩
 refine hK.out _ _ (cs hwv) (fun hSw => ?_)
 clear hK K
 simp only [sA, List.set_cons_zero, sC]
 refine tkA 7 10 3 ?_ rfl rfl ?_ hSw ?_
 rotate_left
 ·intro wx hSx; (try dsimp only at hSx); go_split_ands; go_simp; (try with_reducible rfl)
 simp only [sA, List.set_cons_zero, sC]
 refine rdA 2 10 rfl fun K hK => ?_
 go_simp
 refine Calls.mono (f3 _ hSw.2.2.2) ?_
 rintro e wv ⟨rfl, hwv⟩
 refine hK.out _ _ (cs hwv) (fun hSw => ?_)
 clear hK K
 simp only [sA, List.set_cons_zero, sC]
 refine tkA 11 14 1 ?_ rfl rfl ?_ hSw ?_
 rotate_left
 ·intro wx hSx; (try dsimp only at hSx); go_split_ands; go_simp; (try with_reducible rfl)
 simp only [sA, List.set_cons_zero, sC]
 refine tkA 12 2 0 ?_ rfl rfl ?_ hSw ?_
 rotate_left
 ·intro wx hSx; (try dsimp only at hSx); go_split_ands; go_simp; (try with_reducible rfl)
 simp only [sA, List.set_cons_zero, sC]
 refine wpAnyH_done (by kernel_rfl) ⟨rfl, ?_⟩ 0
 have hZ := hSw.2.2.2.1
 go_wp2_with fail
 go_ret
 rw [HR.out]
 refine ⟨?_, hZ⟩
 first
 | rfl
 | simp only [List.append_assoc]
 | (rw [List.append_assoc])
 | fail
end Go.Proofs.YtkiabladmgagdabGreatDoor.Opy
