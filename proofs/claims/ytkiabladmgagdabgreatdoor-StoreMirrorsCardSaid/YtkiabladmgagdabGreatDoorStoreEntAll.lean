/- slices.Sort of at most twelve numbers of 64 bits: they are sorted where they lie. The only condition: there are not more than twelve. The keys of a map of sessions, collected: each once, in whatever order. No condition. slices.AppendSeq, Collect and Sorted over the keys of a map of sessions. The only condition: at most twelve of them are sorted. The program's table: Export. The only condition: there are not too many entries. The program's cache: its entries, as a slice of the caller's own; and what a session was told. The only condition: there are not more entries than may be. -/
import Derived.Test.YtkiabladmgagdabGreatDoorSort64InsAll
import Derived.Test.YtkiabladmgagdabGreatDoorTabMemAll
import Derived.Test.YtkiabladmgagdabGreatDoorLaysB
import Derived.Shelf.Small.Bits
import Derived.Test.YtkiabladmgagdabGreatDoorWireFlyAll
import Derived.Lib.Hide
import Derived.BigQuiet
import Derived.Test.YtkiabladmgagdabGreatDoorTabMoveAll
import Derived.Test.YtkiabladmgagdabGreatDoorRingRoundAll
import Derived.Test.YtkiabladmgagdabGreatDoorOpPutAll
import Derived.Test.YtkiabladmgagdabGreatDoorTabKeysAll
import Derived.Maps.RangeWalk
import Derived.Sort.MapsRangeIn
import Derived.OwnWalkIn
import Derived.RegionIn
import Derived.Test.YtkiabladmgagdabGreatDoorRingTakeAll
import Derived.Test.YtkiabladmgagdabGreatDoorArcMakeAll
import Derived.Test.YtkiabladmgagdabGreatDoorTabBytesAll
import Derived.Test.YtkiabladmgagdabGreatDoorBuildKeptAll
import Derived.Test.YtkiabladmgagdabGreatDoorStoreCloneAll
import Derived.Laws.MakeOwn
import Derived.Test.YtkiabladmgagdabGreatDoorSq
namespace Go.Proofs.YtkiabladmgagdabGreatDoor.Numsy
open Go.ChangeShapes Go.WideShapes Go.ChangeAt Go.RowKit
open Wirey (Blk Row str Kp)
open Regy
theorem ins_none {c : Nat} (w : World) : Calls Tryz.prog 142 #[.slice none 0 c, .int .i64 0, .int .i64 0] w fun e w' => e = .returned (.tuple #[]) ∧ w = w' := by
 go_enter Tryz.func142, Tryz.ntmps142
 go_wp2_with fail
 go_loopw [6] (fun v wr => v = .int .i64 1 ∧ wr = w) (fun _ _ => 0)
 case atStart => exact ⟨rfl, rfl⟩
 case round =>
  obtain ⟨rfl, rfl⟩ := hrel
  go_wp2_with fail
  exact bodyPost_end (v := .tuple #[]) (results_none rfl _ _ _) rfl ⟨rfl, rfl⟩
theorem pdq_none {c : Nat} (k : Int) (w : World) : Calls Tryz.prog 113 #[.slice none 0 c, .int .i64 0, .int .i64 0, .int .i64 k] w fun e w' => e = .returned (.tuple #[]) ∧ w = w' := by
 go_enter Tryz.func113, Tryz.ntmps113
 go_wp2_with fail
 go_loopw [1, 2] (fun va vb wr => va = .int .i64 0 ∧ vb = .int .i64 0 ∧ wr = w) (fun _ _ _ => 0)
 case atStart => exact ⟨rfl, rfl, rfl⟩
 case round =>
  obtain ⟨rfl, rfl, rfl⟩ := hrel
  go_wp2_with fail
  refine (ins_none _).mono ?_
  rintro e w2 ⟨rfl, rfl⟩
  go_wp2_with fail
  exact bodyPost_ret (v := .tuple #[]) (results_none rfl _ _ _) rfl ⟨rfl, rfl⟩
theorem len_c (x : Int) (w : World) (h0 : 0 ≤ x) (h1 : x ≤ 18446744073709551615) : Calls Tryz.prog 114 #[.int .u64 x] w fun e w' => e = .returned (.int .i64 (Lib.bitLen x.toNat)) ∧ w' = w := Any.bits_Len Tryz.lays125 x w h0 h1
theorem sort64_c {n c : Nat} {d0 : Array Nat} {g : Nat} (hs : d0.size = n) (hn : n ≤ 12) (hc : n ≤ c) (w : World) (h : Nums w g d0) :
  Calls Tryz.prog 84 #[.slice (some ⟨g, 0, none⟩) n c] w fun e w' => e = .returned (.tuple #[]) ∧ ∃ d, Nums w' g d ∧ d.size = n ∧ d.toList.Perm d0.toList ∧ Upto d n ∧ Kp (fun k => k = g) w w' := by
 have hw : IntKind.u64.wrap (n : Int) = (n : Int) := IntWalk.u64_in _ (by omega)
 have hp := fun k => pdq_c hs hn hc k w h
 clear h
 go_enter Tryz.func84, Tryz.ntmps84
 go_wp2_with fail
 refine (len_c _ _ (by omega) (by omega)).mono ?_
 rintro e w1 ⟨rfl, rfl⟩
 go_wp2_with fail
 refine (hp _).mono ?_
 rintro e w2 ⟨rfl, hd⟩
 go_wp2_with fail
 exact bodyPost_end (v := .tuple #[]) (results_none rfl _ _ _) rfl ⟨rfl, hd⟩
theorem sort64_none {c : Nat} (w : World) : Calls Tryz.prog 84 #[.slice none 0 c] w fun e w' => e = .returned (.tuple #[]) ∧ w = w' := by
 go_enter Tryz.func84, Tryz.ntmps84
 go_wp2_with fail
 refine (len_c _ _ (by omega) (by omega)).mono ?_
 rintro e w1 ⟨rfl, rfl⟩
 go_wp2_with fail
 refine (pdq_none _ _).mono ?_
 rintro e w2 ⟨rfl, rfl⟩
 go_wp2_with fail
 exact bodyPost_end (v := .tuple #[]) (results_none rfl _ _ _) rfl ⟨rfl, rfl⟩
end Go.Proofs.YtkiabladmgagdabGreatDoor.Numsy
namespace Go.Proofs.YtkiabladmgagdabGreatDoor.Storey
open Go.ChangeShapes Go.WideShapes Go.ChangeAt Go.RowKit Go.Shelf
open Wirey (Blk Row str Kp)
open Go.ChangeMaps Go.Maps
open Ringy (calls_marks leave_marks Marked)
open Numsy (Nums)
open Taby (ownsMap_stay)

abbrev KS : FuncId := 85
abbrev encU (x : Nat) : Value := .int .u64 x
theorem nk_same (a b : Nat) : (nk a).sameKey (nk b) = decide (a = b) := by
 unfold nk
 by_cases h : a = b
 ·subst h; simp [Lit.sameKey]
 ·simp [Lit.sameKey, h]; omega
def CollU (D0 : DataW Unit) (left : Lit → Bool) (ss : List Nat) : Prop := ss.Nodup ∧ (∀ x ∈ ss, x < 18446744073709551616) ∧ ∀ x, x < 18446744073709551616 → (x ∈ ss ↔ (has D0 (nk x) = true ∧ left (nk x) = false))
theorem CollU.start (D0 : DataW Unit) : CollU D0 (has D0) [] := ⟨List.nodup_nil, fun x hx => by simp at hx, fun x _ => by cases has D0 (nk x) <;> simp⟩
theorem CollU.step {D0 : DataW Unit} {left : Lit → Bool} {ss : List Nat} (h : CollU D0 left ss) {x : Nat} (hx : x < 18446744073709551616) {y : DataW Unit} (hlk : left (nk x) = true) (hat : ∀ zd, D0.atKey (nk x) zd = y) :
  CollU D0 (fun z => left z && !z.sameKey (nk x)) (ss ++ [x]) := by
 have hhas : has D0 (nk x) = true := has_true_of_atKey hat
 have hnew : x ∉ ss := fun hm => by have := ((h.2.2 x hx).1 hm).2; rw [hlk] at this; cases this
 refine ⟨List.nodup_append.2 ⟨h.1, by simp, fun a ha b hb => by simp at hb; subst hb; exact fun e => hnew (e ▸ ha)⟩, fun y hy => ?_, fun y hy => ?_⟩
 ·rcases List.mem_append.1 hy with hy | hy
  ·exact h.2.1 y hy
  ·obtain rfl := List.mem_singleton.1 hy; exact hx
 ·show _ ↔ has D0 (nk y) = true ∧ (left (nk y) && !(nk y).sameKey (nk x)) = false
  rw [List.mem_append, List.mem_singleton, h.2.2 y hy, nk_same]
  by_cases e : y = x
  ·subst e; simp [hhas]
  ·simp [e]
set_option maxRecDepth 100000 in
set_option maxHeartbeats 2000000 in
theorem keysU_in (n : Nat) (hn : 1 ≤ n) (l Bm S nn : Nat) (D0 : DataW Unit) (J Jx : List Nat → World → Prop) (W : World) (hJ : AbidesFrom W.heap.size J)
  (hY : ∀ pre x W1, J pre W1 → pre.length < Maps.size D0 → YieldAt Fence.wide (n - 1) Tryz.prog l #[encU x] W1 fun e W' =>
    (e = .returned (.bool true) ∧ J (pre ++ [x]) W' ∧ KeepsWalks W1 W') ∨ (e = .returned (.bool false) ∧ Jx (pre ++ [x]) W'))
  (hm : W.cell? ⟨Bm, 0, none⟩ = some (.map (some S))) (hown : W.ownsMap Tryz.prog 22 RT S nn D0) (h0 : J [] W) :
  CallsIn Fence.wide n Tryz.prog KS #[.func (.yield l) #[] #[], .pointer (some ⟨Bm, 0, none⟩)] W fun e W' => (∃ v, e = .returned v) ∧
   ((∃ ss, CollU D0 (fun _ => false) ss ∧ J ss W') ∨ (∃ pre, True ∧ Jx pre W')) := by
 refine callsIn_of_wp Tryz.func85 rfl trivial ?_ rfl
 simp only [Tryz.ntmps85, List.size_toArray, List.length_cons, List.length_nil, Nat.reduceAdd, Nat.reduceSub, Array.replicate_succ, Array.replicate_zero, List.push_toArray, List.append_toArray, List.nil_append, List.cons_append]
 gi_wp2_with (first
   | (gi_at_range; refine wpListIn_range_own _ rfl _ 59 rfl 22 72 ukey_law Tryz.underlying59 _ S nn _ rfl hown ?_; intro w0 hrg0 hg0 hs0)
   | gi_in)
 go_frame
 gi_loopw [3] (fun _ wr => ∃ (left : Lit → Bool) (cnt : Nat) (ss : List Nat), wr.ranges Tryz.prog 22 RT S W.heap.size nn D0 left cnt ∧ ss.length + cnt ≤ Maps.size D0 ∧ CollU D0 left ss ∧ J ss wr)
  (fun _ wr => wr.rangeLeft S W.heap.size)
 case atStart =>
  exact ⟨_, _, [], hrg0, by simp, CollU.start D0, hJ [] W w0 none h0 hg0 (fun r e => by cases e)⟩
 case round =>
  obtain ⟨left, cnt, ss, hrg, hcs, hC, hJs⟩ := hrel
  gi_wp2_with (first
    | (gi_at_next; refine wpListIn_next_ranges _ rfl _ rfl 22 ukey_law RT encU id (fun key kl hk => by obtain ⟨z, hz, _, hw⟩ := Maps.keyOf_int_inv Tryz.underlying22 hk; obtain ⟨m, rfl, _⟩ := Arry.u64_nat hw; exact ⟨m, hz⟩) (fun v _ _ => ⟨v, rfl⟩) S W.heap.size nn _ _ _ rfl hrg ?_ ?_)
    | gi_in)
  ·intro hc0 hl0
   gi_wp2
   go_end0
   exact ⟨⟨_, rfl⟩, .inl ⟨ss, ⟨hC.1, hC.2.1, fun x hx => by rw [hC.2.2 x hx, hl0]⟩, hJs⟩⟩
  ·intro x c kl yd yp w2 cnt2 hkey hlk hv hat hrg2 hlt hg2 hs2 hen
   obtain ⟨z, ez, rfl, hw⟩ := Maps.keyOf_int_inv Tryz.underlying22 hkey
   obtain rfl : (x : Int) = z := by injection ez
   have hx : x < 18446744073709551616 := by have := bounds_u64 hw; omega
   have hJ2 : J ss w2 := hJ ss wr w2 (some W.heap.size) hJs hg2 (fun r e => by cases e; exact ⟨Nat.le_refl _, hrg.iter_walk⟩)
   obtain ⟨fn, tmps, assign, body, hy, hR⟩ := hY ss x w2 hJ2 (by omega)
   clear hs2
   gi_wp2
   refine hR.mono ?_
   have hC2 := hC.step hx hlk hat
   rintro e W3 (⟨rfl, hJ3, hk3⟩ | ⟨rfl, hJx3⟩)
   ·gi_wp2
    have hrg3 := hrg2.of_walks hk3
    go_roundw
    case rel => exact ⟨_, cnt2, ss ++ [x], hrg3, by simp; omega, hC2, hJ3⟩
    case measure => rw [hrg3.left_eq, hrg.left_eq]; exact hlt
   ·gi_wp2
    refine bodyPost_ret (results_none rfl _ _ _) rfl ?_
    exact ⟨⟨_, rfl⟩, .inr ⟨ss ++ [x], trivial, hJx3⟩⟩
theorem keysU_stops (n : Nat) (hn : 1 ≤ n) (Bm S nn : Nat) (D0 : DataW Unit) (w : World) (hBm : Bm < w.heap.size) (hm : w.cell? ⟨Bm, 0, none⟩ = some (.map (some S))) (hown : w.ownsMap Tryz.prog 22 RT S nn D0) :
  SeqStopsK Fence.wide n Tryz.prog KS #[.pointer (some ⟨Bm, 0, none⟩)] (fun x : Nat => #[encU x]) KeepsWalks (CollU D0 (fun _ => false)) (fun _ => True) (Maps.size D0) w := fun l J Jx W hW hJ _ hY h0 =>
 keysU_in n hn l Bm S nn D0 J Jx W hJ hY ((hW.cell (p := ⟨Bm, 0, none⟩) hBm).trans hm) (ownsMap_stay hown (hW.block S hown.lt)) h0
theorem keys_c (S : Nat) (w : World) : Calls Tryz.prog 52 #[.map (some S)] w fun e w' => e = .returned (.func (.func KS) #[] #[.pointer (some ⟨w.heap.size, 0, none⟩)]) ∧ w' = w.alloc (.cells #[.map (some S)] 59) := by
 have hmf : ∀ (fn : Fn) (first cap : Array Value) (w : World), (Instr.makeFunc fn first cap).run Tryz.prog w = .ok (.func fn first cap) w := fun _ _ _ _ => rfl
 go_enter Tryz.func52, Tryz.ntmps52
 go_wp2_with fail
 go_ret
 exact ⟨rfl, rfl⟩
end Go.Proofs.YtkiabladmgagdabGreatDoor.Storey
namespace Go.Proofs.YtkiabladmgagdabGreatDoor.Storey
open Go.ChangeShapes Go.WideShapes Go.ChangeAt Go.RowKit Go.Shelf
open Wirey (Blk Row str Kp)
open Go.ChangeMaps Go.Maps
open Ringy (calls_marks leave_marksP Marked own_form below_put)
open Numsy (Nums)
open Taby (ownsMap_stay)

attribute [local go_sem] Oper.semAt_some

theorem u64_info : (Tryz.prog.info? 22).map (fun i => (i.zero, i.size, i.bytes)) = some (some (.int .u64 0), 1, 8) := by kernel_rfl
theorem range_u {g : Operand} {ps : Array Tmp} {assign body : Code} {Q : Exit → Act → World → Prop} {a : Act} {w : World} {Bm S nn : Nat} {D0 : DataW Unit} (hg : a.eval g = .func (.func KS) #[] #[.pointer (some ⟨Bm, 0, none⟩)])
  (hBm : Bm < w.heap.size) (hm : w.cell? ⟨Bm, 0, none⟩ = some (.map (some S))) (hown : w.ownsMap Tryz.prog 22 RT S nn D0) (hps : ps.size = 1)
  (I : List Nat → World → Prop) (hI : OwnFrom w.heap.size I) (h0 : I [] w) (a₁ : Nat → Act)
  (hassign : ∀ (r : Nat) (x : Nat) (W : World) (K : Act → World → Prop), K (a₁ x) W → assign.wpIn (Fence.wide.inRound r) 3 Tryz.prog (Exit.then K (fun _ _ _ => False)) { tmps := (ps.zip #[encU x]).foldl (fun t (p, v) => t.setIfInBounds p v) a.tmps, defers := [] } W)
  (hbody : ∀ (r : Nat) (pre : List Nat) (x : Nat) (W : World), I pre W → pre.length < Maps.size D0 → body.wpIn (Fence.wide.inRound r) 3 Tryz.prog (ownPostG w.heap.size KeepsWalks I (fun _ _ _ => False) (pre ++ [x]) W) (a₁ x) W)
  (hdone : ∀ (D : Nat) (xs : List Nat) (W : World), w.heap.size ≤ D → CollU D0 (fun _ => false) xs → I xs W → W.heap[D]? = some (.deferred (some [])) → Q .normal { a with defers := { target := .collected D, args := #[] } :: a.defers } W) :
  (Code.rangeFunc g ps assign body).wp Tryz.prog Q a w :=
 (wpIn_wide (n := 5)).1 (wpIn_rangeFunc_ownG (F := Fence.wide) (n := 5) (w := w) rfl (by omega) (gf := KS) (lb := #[.pointer (some ⟨Bm, 0, none⟩)]) hg trivial (enters_of Tryz.func85 (by kernel_rfl) rfl)
   (keysU_stops 4 (by omega) Bm S nn D0 w hBm hm hown) KeepsWalks.trans (fun W l o o' _ h _ hw => KeepsWalks.putObj _ h hw) (Below.refl _ _) (fun _ => hps.symm) I (fun _ _ _ => False) hI (fun _ _ _ _ _ h _ _ => h) h0 a₁ hassign hbody hdone (fun D c pre W hD hp hx hK => hx.elim))
set_option maxHeartbeats 4000000 in
set_option maxRecDepth 100000 in
theorem apSeq_c {Bm S nn : Nat} {D0 : DataW Unit} (w : World) (hBm : Bm < w.heap.size) (hm : w.cell? ⟨Bm, 0, none⟩ = some (.map (some S))) (hown : w.ownsMap Tryz.prog 22 RT S nn D0) (hsz : Maps.size D0 ≤ 1000000) :
  Calls Tryz.prog 112 #[.slice none 0 0, .func (.func KS) #[] #[.pointer (some ⟨Bm, 0, none⟩)]] w fun e w' => ∃ v ss, e = .returned v ∧ CollU D0 (fun _ => false) ss ∧ w'.ownsRow w.heap.size 22 1 v ss.length (ss.map encU) ∧ Below w.heap.size w w' := by
 obtain ⟨i0, hi, hz0, hz1, hz2⟩ := info_parts u64_info
 have bO := Boxed.new w 112 (.slice none 0 0)
 have hb : Below w.heap.size w (w.alloc (.cells #[.slice none 0 0] 112)) := (Below.refl _ w).alloc (Nat.le_refl _) _
 refine calls_marks Tryz.func112 rfl ?_
 simp only [Tryz.ntmps112, List.size_toArray, List.length_cons, List.length_nil, Nat.reduceAdd, Nat.reduceSub, Array.replicate_succ, Array.replicate_zero, List.push_toArray, List.append_toArray, List.nil_append, List.cons_append]
 go_wp2_with fail
 have hm1 := (hb.cell (p := ⟨Bm, 0, none⟩) hBm).trans hm
 have hown1 := ownsMap_stay hown (hb.block S hown.lt)
 have hBm1 : Bm < (w.alloc (.cells #[.slice none 0 0] 112)).heap.size := Nat.lt_of_lt_of_le hBm hb.size
 have hs1 : (w.alloc (.cells #[.slice none 0 0] 112)).heap.size = w.heap.size + 1 := by simp
 generalize w.alloc (.cells #[.slice none 0 0] 112) = w1 at *
 have HS1 := Lib.hid hs1
 clear hs1
 apply range_u (Bm := Bm) (S := S) (nn := nn) (D0 := D0) (I := fun ss W => (∃ v, Boxed W w.heap.size 112 v ∧ W.ownsRow w.heap.size 22 1 v ss.length (ss.map encU) ∧ True) ∧ Below w.heap.size w W ∧ w1.heap.size ≤ W.heap.size)
 case hg => rfl
 case hBm => exact hBm1
 case hm => exact hm1
 case hown => exact hown1
 case hps => rfl
 case hI =>
  exact OwnFrom.and (Own.from (holdsRow_own w.heap.size w.heap.size 112 22 1 (fun pre : List Nat => pre.length) (fun pre => pre.map encU) (fun _ _ => True)) _) (Ringy.ownFrom_of fun s W W' h => ⟨h.2, fun h1 h2 h3 h4 h5 => ⟨⟨h1.trans h.1.os, h2.trans h.1.tape, h3.trans h.1.output, Nat.le_trans h.1.size h4, fun k hk => (h5 k (by have := HS1.out; omega)).trans (h.1.block k hk)⟩, Nat.le_trans h.2 h4⟩⟩)
 case h0 => exact ⟨⟨_, bO, World.ownsRow_nil _ _ _ _, trivial⟩, hb, Nat.le_refl _⟩
 case hassign =>
  intro r x W K hK
  gi_wp2
  exact hK
 case hbody =>
  rintro r pre x W ⟨⟨sv, hsv, hrow, -⟩, hBW, hle⟩ hpl
  have hc := hsv.cell
  gi_wp2_with (gi_at_builtin; refine wpListIn_append_own _ rfl _ _ 112 rfl w.heap.size 22 i0 (.int .u64 0) 1 8 Tryz.underlying112 hi hz0 hz1 hz2 rfl (by decide) _ _ _ rfl (hrow.alloc _) ⟨W.heap.size, 0, none⟩ 1 1 [encU x] rfl rfl (cell_one_new _ _ _) (by simp [Value.oneCell']) (by unfold maxLen; omega) (by omega) (by have := hBW.size; simp; omega) ?_; intro v' w2 hown' hgrow _; obtain ⟨g', cap', rfl⟩ := ownsRow_succ hown'; obtain ⟨hv1, hv2, hr2, hk2, hb2⟩ := hsv.appended (by decide) hrow hBW.size (Nat.le_refl _) hown' hgrow; have hc1 := hv1.cell; have hf1 := hv1.frozen)
  refine ⟨hk2.from _, hk2.walks, ⟨_, hv2, ?_, trivial⟩, hBW.trans hb2, Nat.le_trans hle hb2.size⟩
  rw [List.length_append, List.length_singleton, List.map_append]
  exact hr2
 case hdone =>
  rintro D xs W hD hC ⟨⟨sv, hsv, hrow, -⟩, hBW, hle⟩ hK
  have hc := hsv.cell
  go_wp2_with fail
  obtain ⟨va, vc, rfl⟩ := own_form hrow
  refine leave_marksP (B := w.heap.size) (fun W' => W'.ownsRow w.heap.size 22 1 (.slice va xs.length vc) xs.length (xs.map encU) ∧ Below w.heap.size w W') (fun W D o' hD h hK => ⟨ownsRow_putObj h.1 _ hK rfl, h.2.trans (below_put _ hD (Array.getElem?_eq_some_iff.1 hK).1)⟩) (fun _ _ => results_tmp rfl _ _ _) (fun W' h => ⟨_, xs, rfl, hC, h.1, h.2⟩) _ _ ⟨hrow, hBW⟩ ⟨⟨D, rfl, by have := HS1.out; omega, hK, by simp⟩, trivial⟩
theorem collU_c {Bm S nn : Nat} {D0 : DataW Unit} (w : World) (hBm : Bm < w.heap.size) (hm : w.cell? ⟨Bm, 0, none⟩ = some (.map (some S))) (hown : w.ownsMap Tryz.prog 22 RT S nn D0) (hsz : Maps.size D0 ≤ 1000000) :
  Calls Tryz.prog 83 #[.func (.func KS) #[] #[.pointer (some ⟨Bm, 0, none⟩)]] w fun e w' => ∃ v ss, e = .returned v ∧ CollU D0 (fun _ => false) ss ∧ w'.ownsRow w.heap.size 22 1 v ss.length (ss.map encU) ∧ Below w.heap.size w w' := by
 have h := apSeq_c w hBm hm hown hsz
 go_enter Tryz.func83, Tryz.ntmps83
 go_wp2_with fail
 refine h.mono ?_
 rintro e w' ⟨val, ss, rfl, hC, hr, hb⟩
 go_wp2_with fail
 go_ret
 exact ⟨_, ss, rfl, hC, hr, hb⟩
def SortedAt (w : World) (B : Nat) (v : Value) (L : List Nat) : Prop := (v = .slice none 0 0 ∧ L = []) ∨ ∃ g c, v = .slice (some ⟨g, 0, none⟩) L.length c ∧ B ≤ g ∧ Nums w g L.toArray
theorem upto_lt {d : Array Nat} {n : Nat} (hs : d.size = n) (hu : Numsy.Upto d n) (hn : d.toList.Nodup) : d.toList.Pairwise (· < ·) := by
 rw [List.pairwise_iff_getElem]
 intro i j hi hj hij
 have h1 := hu i j hij (by simpa [hs] using hj)
 have hi' : i < d.size := by simpa using hi
 have hj' : j < d.size := by simpa using hj
 rw [Numsy.bang hi', Numsy.bang hj'] at h1
 have h2 : d.toList[i] ≠ d.toList[j] := List.pairwise_iff_getElem.1 hn i j hi hj hij
 simp only [Array.getElem_toList] at h2 ⊢
 omega
theorem sortedU_c {Bm S nn : Nat} {D0 : DataW Unit} (w : World) (hBm : Bm < w.heap.size) (hm : w.cell? ⟨Bm, 0, none⟩ = some (.map (some S))) (hown : w.ownsMap Tryz.prog 22 RT S nn D0) (hsz : Maps.size D0 ≤ 1000000) (h12 : ∀ ss, CollU D0 (fun _ => false) ss → ss.length ≤ 12) :
  Calls Tryz.prog 51 #[.func (.func KS) #[] #[.pointer (some ⟨Bm, 0, none⟩)]] w fun e w' => ∃ v L, e = .returned v ∧ CollU D0 (fun _ => false) L ∧ L.Pairwise (· < ·) ∧ SortedAt w' w.heap.size v L ∧ Below w.heap.size w w' := by
 have h := collU_c w hBm hm hown hsz
 go_enter Tryz.func51, Tryz.ntmps51
 go_wp2_with fail
 refine h.mono ?_
 rintro e w1 ⟨val, ss, rfl, hC, hr, hb⟩
 have hl := h12 ss hC
 rcases hr.2 with ⟨rfl, h0⟩ | ⟨g, cap, cur, rfl, hg, hgb, hc, hmx, hsz2, htk⟩
 ·have hnil : ss = [] := List.eq_nil_of_length_eq_zero h0
  subst hnil
  have HB := Lib.hid hb
  clear hb h hr
  go_wp2_with fail
  refine (Numsy.sort64_none _).mono ?_
  rintro e w2 ⟨rfl, rfl⟩
  go_wp2_with fail
  go_ret
  exact ⟨_, [], rfl, hC, List.Pairwise.nil, .inl ⟨rfl, rfl⟩, HB.out⟩
 ·have hN : Nums w1 g ss.toArray := by
   have h1 := Row.of_blk (w := w1) (g := g) (t := 22) (cs := cur) hgb
   refine ⟨⟨h1.lt, fun i u hu => ?_, fun i hi => ?_⟩, cur, hgb⟩
   ·refine h1.cell i u ?_
    have : (cur.toList.take (ss.length * 1))[i]? = some u := by rw [htk]; exact hu
    rw [List.getElem?_take] at this
    split at this
    ·exact this
    ·cases this
   ·refine h1.free i ?_
    have : i < ss.length := by simpa using hi
    simp only [Array.length_toList]
    omega
  have hS := Numsy.sort64_c (n := ss.length) (c := cap) (d0 := ss.toArray) (g := g) (by simp) hl hc w1 hN
  have HB := Lib.hid hb
  clear hb h hr
  go_wp2_with fail
  refine hS.mono ?_
  rintro e w2 ⟨rfl, d, hN2, hds, hperm, hup, hkp⟩
  have HB2 : Below w.heap.size w w2 := ⟨hkp.os.trans HB.out.os, hkp.tape.trans HB.out.tape, hkp.output.trans HB.out.output, Nat.le_trans HB.out.size hkp.size, fun k hk => (hkp.block k (Nat.lt_of_lt_of_le hk HB.out.size) (fun e => by omega)).trans (HB.out.block k hk)⟩
  have HH := Lib.hid HB2
  have hperm' : d.toList.Perm ss := by simpa using hperm
  have hlen : d.toList.length = ss.length := hperm'.length_eq
  clear HB2 hS HB hN
  go_wp2_with fail
  go_ret
  refine ⟨_, d.toList, rfl, ⟨hperm'.nodup_iff.2 hC.1, fun x hx => hC.2.1 x (hperm'.mem_iff.1 hx), fun x hx => by rw [hperm'.mem_iff]; exact hC.2.2 x hx⟩, upto_lt hds hup (hperm'.nodup_iff.2 hC.1), .inr ⟨g, cap, by rw [hlen]; rfl, hg, ?_⟩, HH.out⟩
  have : d.toList.toArray = d := by simp
  rw [this]
  exact hN2
end Go.Proofs.YtkiabladmgagdabGreatDoor.Storey
namespace Go.Proofs.YtkiabladmgagdabGreatDoor.Taby
open Go.ChangeShapes Go.WideShapes Go.ChangeAt Go.RowKit Go.ChangeMaps Go.Maps
open Wirey (Blk Row str str_size str_list str_cat str_inj Kp Bld Kb bws_y bstr_y enc enc_len txt num_c text_c)
structure Ex (w : World) (q B : Nat) (v : Value) (ks : List (List UInt8)) (l : List UInt8) (W : World) : Prop where
 bld : Bld W q l
 st : St W B v ks
 lo : q < B
 bel : Below q w W
section
variable {w W W' : World} {q B X : Nat} {v : Value} {ks : List (List UInt8)} {l l' : List UInt8} {cs : Array Value}
theorem Ex.below (h : Ex w q B v ks l W) (hb : Below W.heap.size W W') : Ex w q B v ks l W' :=
 ⟨h.bld.grown hb, h.st.below hb, h.lo, h.bel.trans (hb.mono (Nat.le_of_lt h.bld.lt))⟩
theorem Ex.kb (h : Ex w q B v ks l W) (hB : Bld W' q l') (hk : Kb q W W') : Ex w q B v ks l' W' := by
 refine ⟨hB, h.st.stay fun g hg => ?_, h.lo, h.bel.trans hk.below⟩
 have h1 := (h.st.lt g hg).1
 have h2 := h.lo
 obtain ⟨c, fz, hc⟩ := Wirey.own_kind h.st g hg
 exact (hk.oth g _ hc (fun e => by have := Option.some.inj e; omega) (fun c fz e => by injection e with _ e2; exact absurd e2 (by decide))).trans hc.symm
theorem blk_kb (h : Blk W X 66 cs) (hX : q < X) (hk : Kb q W W') : Blk W' X 66 cs :=
 hk.oth X _ h (fun e => by have := Option.some.inj e; omega) (fun c fz e => by injection e with _ e2; exact absurd e2 (by decide))
end
section
variable {w0 w : World} {P : Nat → Prop} {b M : Nat} {m : List En}
theorem body_len : ∀ {l : List En}, (∀ x ∈ l, x.Ok) → (bodyB l).length ≤ l.length * 4300
 | [], _ => Nat.zero_le _
 | x :: l, h => by
  have h1 := h x List.mem_cons_self
  have ih := body_len fun y hy => h y (List.mem_cons_of_mem _ hy)
  have a1 := h1.key
  have a2 := h1.val
  have l1 := enc_len (n := x.key.length) (by omega)
  have l2 := enc_len (n := x.val.length) (by omega)
  have l3 := enc_len h1.ver
  have l4 := enc_len h1.fin
  rw [bodyB, List.length_append, List.length_cons]
  unfold oneB txt
  simp only [List.length_append]
  omega
theorem len_t (w : World) (h : TabAt w b M m) : Calls Tryz.prog 46 #[tp b] w fun e w' => e = .returned (.int .i64 m.length) ∧ Below w.heap.size w w' := by
 have c0 : w.cell? ⟨b, 0, none⟩ = some (.map (some M)) := h.hd.cell 0
 obtain ⟨D, hD⟩ := h.mp
 have hlen := hD.len
 clear hD h
 go_enter Tryz.func46, Tryz.ntmps46
 go_wp2_with fail
 go_ret
 exact ⟨rfl, Below.refl _ w⟩
set_option maxHeartbeats 4000000 in
set_option maxRecDepth 100000 in
theorem export_t (hl : m.length ≤ 100000) (w : World) (h : TabAt w b M m) : Calls Tryz.prog 20 #[tp b] w fun e w' => e = .returned (.string (str (allB m))) ∧ Below w.heap.size w w' := by
 have hrise := h.rise
 have hok := h.ok
 have hbl := body_len hok
 have hen := enc_len (n := m.length) (by omega)
 have hb0 := (Below.refl _ w).alloc (Nat.le_refl _) (.cells #[.pointer none, .slice none 0 0] 98)
 have hB0 := Bld.new w
 have hT0 := h.below hb0
 have hbq := h.hd.lt
 have hMq := h.ltM
 go_enter Tryz.func20, Tryz.ntmps20
 go_upto_region 4 with (fail)
 generalize w.alloc (.cells #[.pointer none, .slice none 0 0] 98) = w1 at *
 have HB0 := Lib.hid hb0
 have hbl1 : w.heap.size < w1.heap.size := hB0.lt
 clear hb0
 generalize hq : w.heap.size = q at *
 have HQ := Lib.hid hq
 clear hq
 go_wp2_with fail
 refine (len_t w1 hT0).mono ?_
 rintro e w2 ⟨rfl, hb2⟩
 have hb2q := HB0.out.trans (hb2.mono (Nat.le_of_lt hbl1))
 have hs2 := hb2.size
 go_wp2_with fail
 refine (num_c m.length (by omega) w2).mono ?_
 rintro e w3 ⟨rfl, hb3⟩
 have hb3q := hb2q.trans (hb3.mono (by omega))
 have hs3 := hb3.size
 have hB3 := (hB0.grown hb2).grown hb3
 go_wp2_with fail
 refine (bws_y q [] (enc m.length) w3 hB3 (by simp only [List.length_nil]; omega)).mono ?_
 rintro e w4 ⟨rfl, hB4, hk4⟩
 rw [List.nil_append] at hB4
 have hb4q := hb3q.trans hk4.below
 have hs4 := hk4.below.size
 have hT4 : TabAt w4 b M m := h.stay (hb4q.block b hbq) (hb4q.block M hMq)
 have hq4 : q < w4.heap.size := hB4.lt
 clear hB0 hB3 hT0 hb2 hb3 hk4 hb2q hb3q hs2 hs3 hs4 hbl1 HB0
 go_wp2_with fail
 refine (keys_t hl w4 hT4).mono ?_
 rintro e w5 ⟨vk, rfl, hS5, hb5⟩
 have hX5 : Ex w q w4.heap.size vk (keysOf m) (enc m.length ++ bodyB (m.take 0)) w5 := ⟨by rw [List.take_zero]; simpa [bodyB] using hB4.grown hb5, hS5, hq4, hb4q.trans (hb5.mono (Nat.le_of_lt hq4))⟩
 clear hS5 hB4 hb4q hT4 hb5
 generalize w4.heap.size = B at *
 obtain ⟨oa, oc, rfl⟩ := hX5.st.form
 rw [keysOf_len] at hX5 ⊢
 have hnn : m.length < 9223372036854775808 := by omega
 go_wp2_with fail
 go_loopw [17] (fun i wr => ∃ j : Nat, j ≤ m.length ∧ i = .int .i64 j ∧ Ex w q B (.slice oa m.length oc) (keysOf m) (enc m.length ++ bodyB (m.take j)) wr) (fun i _ => m.length - (intOf i).toNat)
 case atStart => exact ⟨0, by omega, rfl, hX5⟩
 case round =>
  clear hX5
  obtain ⟨j, hj, rfl, hE⟩ := hrel
  have hblj := body_len (l := m.take j) fun y hy => hok y (List.mem_of_mem_take hy)
  rw [List.length_take] at hblj
  by_cases h3 : j < m.length
  ·obtain ⟨x, hx⟩ : ∃ x, m[j]? = some x := ⟨_, List.getElem?_eq_getElem h3⟩
   have hxm := List.mem_of_getElem? hx
   have hxo := hok x hxm
   have a1 := hxo.key
   have a2 := hxo.val
   have a3 := hxo.ver
   have a4 := hxo.fin
   have l1 := enc_len (n := x.key.length) (by omega)
   have l2 := enc_len (n := x.val.length) (by omega)
   have l3 := enc_len a3
   have l4 := enc_len a4
   have m1 : (txt x.key).length ≤ 100 := by unfold txt; rw [List.length_append]; omega
   have m2 : (txt x.val).length ≤ 5000 := by unfold txt; rw [List.length_append]; omega
   have hkx : (keysOf m)[j]? = some x.key := by unfold keysOf; rw [List.getElem?_map, hx]; rfl
   have hst := hE.st
   rw [← keysOf_len m] at hst
   obtain ⟨g, rfl, hBg, hg, hcell⟩ := hst.at_ hkx
   have c0 := hcell wr rfl
   clear hcell hst
   have hlt : (j : Int) < (m.length : Int) := by omega
   have hTr : TabAt wr b M m := h.stay (hE.bel.block b hbq) (hE.bel.block M hMq)
   have c1 : wr.cell? ⟨b, 0, none⟩ = some (.map (some M)) := hTr.hd.cell 0
   obtain ⟨D, hD⟩ := hTr.mp
   have hlook := hD.look (k := x.key) (by unfold maxLen; omega) false
   rw [find_of_mem hrise hxm] at hlook
   simp only [Bool.false_eq_true, if_false, Option.getD_some] at hlook
   have hX1 := Blk.new wr 66 #[.string (str x.key), .string (str x.val), .int .u64 x.ver, .int .u64 x.fin]
   have hE1 := hE.below ((Below.refl _ wr).alloc (Nat.le_refl _) (.cells #[.string (str x.key), .string (str x.val), .int .u64 x.ver, .int .u64 x.fin] 66))
   have hqX : q < wr.heap.size := hE.bld.lt
   clear hD hTr hE
   go_upto_region 9 with (fail)
   generalize wr.alloc (.cells #[.string (str x.key), .string (str x.val), .int .u64 x.ver, .int .u64 x.fin] 66) = v1 at *
   generalize wr.heap.size = X at *
   clear hlook c0 c1 hBg hg
   have x0 := hX1.cell 0
   simp only [List.getElem?_toArray, List.getElem?_cons_zero] at x0
   go_wp2_with fail
   refine (text_c x.key (by omega) v1).mono ?_
   rintro e u1 ⟨rfl, hb1⟩
   have hE1b := hE1.below hb1
   have hX1b := hX1.below hb1 hX1.lt
   go_wp2_with fail
   refine (bws_y q (enc m.length ++ bodyB (m.take j)) (txt x.key) u1 hE1b.bld (by simp only [List.length_append]; omega)).mono ?_
   rintro e v2 ⟨rfl, hB2, hk2⟩
   have hE2 := hE1b.kb hB2 hk2
   have hX2 := blk_kb hX1b hqX hk2
   clear x0 hb1 hE1b hX1b hB2 hk2 hE1 hX1
   have x1 := hX2.cell 1
   simp only [gA, gB, gC] at x1
   go_wp2_with fail
   refine (text_c x.val (by omega) v2).mono ?_
   rintro e u2 ⟨rfl, hb2⟩
   have hE2b := hE2.below hb2
   have hX2b := hX2.below hb2 hX2.lt
   go_wp2_with fail
   refine (bws_y q (enc m.length ++ bodyB (m.take j) ++ txt x.key) (txt x.val) u2 hE2b.bld (by simp only [List.length_append]; omega)).mono ?_
   rintro e v3 ⟨rfl, hB3, hk3⟩
   have hE3 := hE2b.kb hB3 hk3
   have hX3 := blk_kb hX2b hqX hk3
   clear x1 hb2 hE2b hX2b hB3 hk3 hE2 hX2
   have x2 := hX3.cell 2
   simp only [gA, gB, gC] at x2
   go_wp2_with fail
   refine (num_c x.ver a3 v3).mono ?_
   rintro e u3 ⟨rfl, hb3⟩
   have hE3b := hE3.below hb3
   have hX3b := hX3.below hb3 hX3.lt
   go_wp2_with fail
   refine (bws_y q (enc m.length ++ bodyB (m.take j) ++ txt x.key ++ txt x.val) (enc x.ver) u3 hE3b.bld (by simp only [List.length_append]; omega)).mono ?_
   rintro e v4 ⟨rfl, hB4, hk4⟩
   have hE4 := hE3b.kb hB4 hk4
   have hX4 := blk_kb hX3b hqX hk4
   clear x2 hb3 hE3b hX3b hB4 hk4 hE3 hX3
   have x3 := hX4.cell 3
   simp only [gA, gB, gC] at x3
   go_wp2_with fail
   refine (num_c x.fin a4 v4).mono ?_
   rintro e u4 ⟨rfl, hb4⟩
   have hE4b := hE4.below hb4
   have hX4b := hX4.below hb4 hX4.lt
   go_wp2_with fail
   refine (bws_y q (enc m.length ++ bodyB (m.take j) ++ txt x.key ++ txt x.val ++ enc x.ver) (enc x.fin) u4 hE4b.bld (by simp only [List.length_append]; omega)).mono ?_
   rintro e v5 ⟨rfl, hB5, hk5⟩
   have hE5 := hE4b.kb hB5 hk5
   have hX5 := blk_kb hX4b hqX hk5
   clear x3 hb4 hE4b hX4b hB5 hk5 hE4 hX4
   have hE6 := Lib.hid hE5
   clear hE5 hX5 l1 l2 l3 l4 m1 m2 a1 a2 a3 a4
   go_wp2_with fail
   go_roundw
   case rel =>
    refine ⟨j + 1, by omega, rfl, ?_⟩
    rw [bodyB_take hx]
    unfold oneB
    simpa only [List.append_assoc] using hE6.out
   case measure => simp [intOf]; omega
  ·obtain rfl : j = m.length := by omega
   rw [List.take_length] at hE hblj
   have hne : enc m.length ++ bodyB m ≠ [] := fun e => by have := congrArg List.length e; simp only [List.length_append, List.length_nil] at this; omega
   have hstr := bstr_y q _ wr hE.bld hne
   have hbel := hE.bel
   clear hE
   go_wp2_with fail
   refine hstr.mono ?_
   rintro e w9 ⟨rfl, hk9⟩
   go_wp2_with fail
   (try simp only [Exit.inBlock, Exit.then])
   go_ret
   refine ⟨rfl, ?_⟩
   have h9 := hbel.trans hk9.below
   rw [← HQ.out] at h9
   exact h9
end
end Go.Proofs.YtkiabladmgagdabGreatDoor.Taby
namespace Go.Proofs.YtkiabladmgagdabGreatDoor.Storey
open Go.ChangeShapes Go.WideShapes Go.ChangeAt Go.RowKit
open Wirey (Blk Row str str_size str_list str_cat Kp)
open Taby (En TabAt Tbl tp find ins drop size ended St Sl rows keysOf)
open Policyy (Pv HeldP StepP Tell)
open Ringy (Key)
open Regy

section
variable {w0 w w' w'' : World} {B b T M C S : Nat} {H H' : Nat → Prop} {s t : Sv} {k : Key} {v : Value} {l : List Key} {o : Opn} {x : Rcd}
structure Col (w W : World) (v : Value) (l : List En) (kv : Value) (ks : List Key) : Prop where
 sl : Sl W w.heap.size v l
 st : St W w.heap.size kv ks
 no : ∀ g, v.ownBlock = some g → kv.ownBlock ≠ some g
 bel : Below w.heap.size w W
theorem Col.below {W W' : World} {kv : Value} {m : List En} (h : Col w W v m kv l) (hb : Below W.heap.size W W') : Col w W' v m kv l := ⟨h.sl.below hb, h.st.below hb, h.no, h.bel.trans (hb.mono h.bel.size)⟩
theorem Col.grown {W W' : World} {kv v' : Value} {m m' : List En} (h : Col w W v m kv l) (hs : Sl W' w.heap.size v' m') (hg : W.grownBy W' v.ownBlock) {g : Nat} (hv : v'.ownBlock = some g) (hat : v.ownBlock = some g ∨ g = W.heap.size) : Col w W' v' m' kv l := by
 have hrow := h.sl.lt
 refine ⟨hs, h.st.stay fun k hk => hg.block k (h.st.lt k hk).2 (fun e => h.no k e.symm hk), fun k hk hkv => ?_, ?_⟩
 ·rw [hv] at hk
  have e := Option.some.inj hk
  subst e
  rcases hat with e | e
  ·exact h.no g e hkv
  ·have := (h.st.lt g hkv).2; omega
 ·exact h.bel.trans ⟨hg.os, hg.tape, hg.output, hg.size, fun k hk => hg.block k (Nat.lt_of_lt_of_le hk h.bel.size) (fun e => by have := (hrow k e.symm).1; omega)⟩
set_option maxHeartbeats 4000000 in
set_option maxRecDepth 100000 in
theorem entries_g {m : List En} {cT : Value} (hcT : cT = tp T) (hl : m.length ≤ 100000) (hT : TabAt w T M m) (hmade : Calls Tryz.prog 18 #[tp b] w fun e w' => e = .returned (.bool true) ∧ w = w') (hcc0 : ∀ {W : World}, Below w.heap.size w W → W.cell? ⟨b, 9, none⟩ = some cT) :
  Calls Tryz.prog 24 #[tp b] w fun e w' => ∃ v, e = .returned v ∧ Sl w' w.heap.size v m ∧ Below w.heap.size w w' := by
 subst hcT
 obtain ⟨i0, hi0, hz0, hz1, hz2⟩ : ∃ i0, Tryz.prog.info? 66 = some i0 ∧ i0.zero = some (.agg #[.string ⟨#[]⟩, .string ⟨#[]⟩, .int .u64 0, .int .u64 0]) ∧ i0.size = 4 ∧ i0.bytes = 48 := by
  have h := Taby.entry_info
  cases hh : Tryz.prog.info? 66 with
  | none => rw [hh] at h; cases h
  | some i => rw [hh] at h; injection h with h; injection h with h1 h2; injection h2 with h2 h3; exact ⟨i, rfl, h1, h2, h3⟩
 have hrise := hT.rise
 have hok := hT.ok
 have c9 := hcc0 (Below.refl _ w)
 have hgt : ∀ {W : World} {x : En}, Below w.heap.size w W → x ∈ m → Calls Tryz.prog 54 #[tp T, .string (str x.key)] W fun e w' => e = .returned (.tuple #[.agg x.cs, .bool true]) ∧ Below W.heap.size W w' := fun {W x} hW hx => by
  have := Taby.get_t x.key (hok _ hx).key W (hT.below hW)
  rw [Taby.find_of_mem hrise hx] at this
  exact this
 have hcc : ∀ {W : World}, Below w.heap.size w W → W.cell? ⟨b, 9, none⟩ = some (tp T) := fun hW => hcc0 hW
 have hkey : ∀ {W : World}, Below w.heap.size w W → Calls Tryz.prog 47 #[tp T] W fun e w' => ∃ v, e = .returned v ∧ St w' W.heap.size v (keysOf m) ∧ Below W.heap.size W w' := fun hW => Taby.keys_t hl _ (hT.below hW)
 have hlen := Taby.len_t w hT
 clear hcc0
 go_enter Tryz.func24, Tryz.ntmps24
 go_wp2_with fail
 refine hmade.mono ?_
 rintro e w1 ⟨rfl, rfl⟩
 go_wp2_with fail
 refine hlen.mono ?_
 rintro e w2 ⟨rfl, hb2⟩
 obtain ⟨w3, hrun, hown, hgr⟩ := run_make_own (P := Tryz.prog) w2 w.heap.size 63 66 i0 _ 4 Tryz.underlying63 hi0 hz0 hz1 .i64 .i64 m.length (by rw [hz2]; omega) (by unfold maxLen; omega) hb2.size
 have hb3 : Below w.heap.size w w3 := hb2.trans ⟨hgr.os, hgr.tape, hgr.output, hgr.size, fun k hk => hgr.block k (by have := hb2.size; omega) (by simp)⟩
 have hS3 : Sl w3 w.heap.size (.slice (some ⟨w2.heap.size, 0, none⟩) 0 m.length) [] := hown
 have hlt3 : w2.heap.size < w3.heap.size := (hS3.lt _ rfl).2
 have c93 := hcc hb3
 clear hlen hown hgr hmade c9
 go_wp2_with fail
 refine (hkey hb3).mono ?_
 rintro e w4 ⟨vk, rfl, hst, hb4⟩
 have hC4 : Col w w4 (.slice (some ⟨w2.heap.size, 0, none⟩) 0 m.length) (m.take 0) vk (keysOf m) := ⟨by rw [List.take_zero]; exact hS3.below hb4, hst.low hb3.size, fun g hg hk => by
   have e : w2.heap.size = g := Option.some.inj hg
   have := (hst.lt g hk).1
   omega, hb3.trans (hb4.mono hb3.size)⟩
 clear hst hb3 hb4 hS3 hb2 hrun hkey hlt3 c93
 generalize w2.heap.size = g0 at *
 obtain ⟨oa, oc, rfl⟩ := hC4.st.form
 rw [Taby.keysOf_len] at hC4 ⊢
 go_wp2_with fail
 go_loopw [3, 23] (fun v i wr => ∃ (j : Nat), j ≤ m.length ∧ i = .int .i64 j ∧ Col w wr v (m.take j) (.slice oa m.length oc) (keysOf m)) (fun v i _ => m.length - (intOf i).toNat)
 case atStart => exact ⟨0, by omega, rfl, hC4⟩
 case round =>
  clear hC4
  obtain ⟨j, hj, rfl, hC⟩ := hrel
  by_cases h3 : j < m.length
  ·obtain ⟨x, hx⟩ : ∃ x, m[j]? = some x := ⟨_, List.getElem?_eq_getElem h3⟩
   have hxm := List.mem_of_getElem? hx
   have hkx : (keysOf m)[j]? = some x.key := by unfold keysOf; rw [List.getElem?_map, hx]; rfl
   have hst := hC.st
   rw [← Taby.keysOf_len m] at hst
   obtain ⟨g, rfl, -, -, hcell⟩ := hst.at_ hkx
   have c0 := hcell wr rfl
   clear hcell hst
   have hlt : (j : Int) < (m.length : Int) := by omega
   have hcall := hgt hC.bel hxm
   have c9 := hcc hC.bel
   have hsx : m.take (j + 1) = m.take j ++ [x] := by rw [List.take_add_one, hx]; rfl
   have HX := Lib.hid hsx
   clear hx hkx hsx
   have hlj : (m.take j).length ≤ 100000 := by rw [List.length_take]; omega
   generalize hD : m.take j = D at *
   clear hD
   obtain ⟨va, vc, rfl⟩ := hC.sl.form
   go_wp2_with fail
   refine hcall.mono ?_
   rintro e w5 ⟨rfl, hb5⟩
   have hC5 := (hC.below hb5).below ((Below.refl _ w5).alloc (Nat.le_refl _) (.cells x.cs 66))
   clear hcall c0 c9 hC hb5
   have hX6 := Blk.new w5 66 x.cs
   go_upto_region 8 with (fail)
   generalize w5.alloc (.cells x.cs 66) = w6 at *
   generalize w5.heap.size = p at *
   have x0 : w6.cell? ⟨p, 0, none⟩ = some (.string (str x.key)) := hX6.cell 0
   have x1 : w6.cell? ⟨p, 1, none⟩ = some (.string (str x.val)) := hX6.cell 1
   have x2 : w6.cell? ⟨p, 2, none⟩ = some (.int .u64 x.ver) := hX6.cell 2
   have x3 : w6.cell? ⟨p, 3, none⟩ = some (.int .u64 x.fin) := hX6.cell 3
   have hC6 := hC5.below ((Below.refl _ w6).alloc (Nat.le_refl _) (.cells x.cs 66))
   have hwz := hC5.bel.size
   have HC := Lib.hid hC6
   have hsl := hC5.sl
   clear hC5 hC6 hX6 hgt hcc hok hrise
   go_wp2_with (first | (refine wpList_append_lies _ (by rfl) _ _ _ (by rfl) w.heap.size 66 i0 _ 4 48 Tryz.underlying63 hi0 hz0 hz1 hz2 rfl (by omega) (.slice va D.length vc) D.length (rows D) (by rfl) (hsl.alloc _) ⟨w6.heap.size, 0, none⟩ 1 1 [.string (str x.key), .string (str x.val), .int .u64 x.ver, .int .u64 x.fin] (by rfl) (by rfl) (World.news_of_block (cs := #[.string (str x.key), .string (str x.val), .int .u64 x.ver, .int .u64 x.fin]) (t := 66) (fr := (0, 0)) (heap_alloc_new w6 _)) (by simp [Value.oneCell']) (by omega) (by simp [maxLen]; omega) (by omega) (by simp; omega) (w6.heap.size + 1) (by simp) ?_; intro gg cp w7 hown hgrow hat hlt3))
   have hC7 := HC.out.grown (v' := .slice (some ⟨gg, 0, none⟩) (D.length + 1) cp) (m' := D ++ [x]) (Taby.Sl.snoc hown) hgrow rfl (hat.imp id fun e => by rw [e]; simp)
   go_roundw
   case rel => exact ⟨j + 1, by omega, rfl, by rw [HX.out]; exact hC7⟩
   case measure => simp [intOf]; omega
  ·obtain rfl : j = m.length := by omega
   rw [List.take_length] at hC
   obtain ⟨va, vc, rfl⟩ := hC.sl.form
   go_wp2_with fail
   (try simp only [Exit.inBlock, Exit.then])
   go_ret
   exact ⟨_, rfl, hC.sl, hC.bel⟩
theorem entries_s (hl : s.m.length ≤ 100000) (h : At w0 w b T M C S H s) :
  Calls Tryz.prog 24 #[tp b] w fun e w' => ∃ v, e = .returned v ∧ Sl w' w.heap.size v s.m ∧ Below w.heap.size w w' :=
 entries_g rfl hl h.tab (made_s h) fun hW => (h.later hW (Nat.le_refl _)).c rfl
end
end Go.Proofs.YtkiabladmgagdabGreatDoor.Storey
