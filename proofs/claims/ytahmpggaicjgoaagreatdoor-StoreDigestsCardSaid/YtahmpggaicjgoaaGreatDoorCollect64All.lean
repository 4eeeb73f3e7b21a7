/- slices.Sort of at most twelve numbers of 64 bits: they are sorted where they lie. The only condition: there are not more than twelve. The keys of a map of sessions, collected: each once, in whatever order. No condition. slices.AppendSeq, Collect and Sorted over the keys of a map of sessions. The only condition: at most twelve of them are sorted. -/
import Derived.Test.YtahmpggaicjgoaaGreatDoorSort64All
import Derived.Test.YtahmpggaicjgoaaGreatDoorTabMemAll
import Derived.Test.YtahmpggaicjgoaaGreatDoorLaysB
import Derived.Shelf.Small.Bits
import Derived.Test.YtahmpggaicjgoaaGreatDoorWireFlyAll
import Derived.Lib.Hide
import Derived.BigQuiet
import Derived.Test.YtahmpggaicjgoaaGreatDoorTabMoveAll
import Derived.Test.YtahmpggaicjgoaaGreatDoorRingRoundAll
import Derived.Test.YtahmpggaicjgoaaGreatDoorTabKeysAll
import Derived.Maps.RangeWalk
import Derived.Sort.MapsRangeIn
import Derived.OwnWalkIn
import Derived.RegionIn
import Derived.Test.YtahmpggaicjgoaaGreatDoorRingTakeAll
import Derived.Test.YtahmpggaicjgoaaGreatDoorArcMakeAll
import Derived.Test.YtahmpggaicjgoaaGreatDoorSq
namespace Go.Proofs.YtahmpggaicjgoaaGreatDoor.Numsy
open Go.ChangeShapes Go.WideShapes Go.ChangeAt Go.RowKit
open Wirey (Blk Row str Kp)
open Regy
theorem ins_none {c : Nat} (w : World) : Calls Tryz.prog 144 #[.slice none 0 c, .int .i64 0, .int .i64 0] w fun e w' => e = .returned (.tuple #[]) ∧ w = w' := by
 go_enter Tryz.func144, Tryz.ntmps144
 go_wp2_with fail
 go_loopw [6] (fun v wr => v = .int .i64 1 ∧ wr = w) (fun _ _ => 0)
 case atStart => exact ⟨rfl, rfl⟩
 case round =>
  obtain ⟨rfl, rfl⟩ := hrel
  go_wp2_with fail
  exact bodyPost_end (v := .tuple #[]) (results_none rfl _ _ _) rfl ⟨rfl, rfl⟩
theorem pdq_none {c : Nat} (k : Int) (w : World) : Calls Tryz.prog 116 #[.slice none 0 c, .int .i64 0, .int .i64 0, .int .i64 k] w fun e w' => e = .returned (.tuple #[]) ∧ w = w' := by
 go_enter Tryz.func116, Tryz.ntmps116
 go_wp2_with fail
 go_loopw [1, 2] (fun va vb wr => va = .int .i64 0 ∧ vb = .int .i64 0 ∧ wr = w) (fun _ _ _ => 0)
 case atStart => exact ⟨rfl, rfl, rfl⟩
 case round =>
  obtain ⟨rfl, rfl, rfl⟩ := hrel
  go_wp2_with fail
  refine (ins_none _).mono ?_
  rintro e w2 ⟨rfl, rfl⟩
  go_wp2_with fail
  exact bodyPost_ret (v := .tuple #[]) (results_none rfl _ _ _) rfl ⟨rfl, rfl⟩
theorem len_c (x : Int) (w : World) (h0 : 0 ≤ x) (h1 : x ≤ 18446744073709551615) : Calls Tryz.prog 117 #[.int .u64 x] w fun e w' => e = .returned (.int .i64 (Lib.bitLen x.toNat)) ∧ w' = w := Any.bits_Len Tryz.lays125 x w h0 h1
theorem sort64_c {n c : Nat} {d0 : Array Nat} {g : Nat} (hs : d0.size = n) (hn : n ≤ 12) (hc : n ≤ c) (w : World) (h : Nums w g d0) :
  Calls Tryz.prog 87 #[.slice (some ⟨g, 0, none⟩) n c] w fun e w' => e = .returned (.tuple #[]) ∧ ∃ d, Nums w' g d ∧ d.size = n ∧ d.toList.Perm d0.toList ∧ Upto d n ∧ Kp (fun k => k = g) w w' := by
 have hw : IntKind.u64.wrap (n : Int) = (n : Int) := IntWalk.u64_in _ (by omega)
 have hp := fun k => pdq_c hs hn hc k w h
 clear h
 go_enter Tryz.func87, Tryz.ntmps87
 go_wp2_with fail
 refine (len_c _ _ (by omega) (by omega)).mono ?_
 rintro e w1 ⟨rfl, rfl⟩
 go_wp2_with fail
 refine (hp _).mono ?_
 rintro e w2 ⟨rfl, hd⟩
 go_wp2_with fail
 exact bodyPost_end (v := .tuple #[]) (results_none rfl _ _ _) rfl ⟨rfl, hd⟩
theorem sort64_none {c : Nat} (w : World) : Calls Tryz.prog 87 #[.slice none 0 c] w fun e w' => e = .returned (.tuple #[]) ∧ w = w' := by
 go_enter Tryz.func87, Tryz.ntmps87
 go_wp2_with fail
 refine (len_c _ _ (by omega) (by omega)).mono ?_
 rintro e w1 ⟨rfl, rfl⟩
 go_wp2_with fail
 refine (pdq_none _ _).mono ?_
 rintro e w2 ⟨rfl, rfl⟩
 go_wp2_with fail
 exact bodyPost_end (v := .tuple #[]) (results_none rfl _ _ _) rfl ⟨rfl, rfl⟩
end Go.Proofs.YtahmpggaicjgoaaGreatDoor.Numsy
namespace Go.Proofs.YtahmpggaicjgoaaGreatDoor.Storey
open Go.ChangeShapes Go.WideShapes Go.ChangeAt Go.RowKit Go.Shelf
open Wirey (Blk Row str Kp)
open Go.ChangeMaps Go.Maps
open Ringy (calls_marks leave_marks Marked)
open Numsy (Nums)
open Taby (ownsMap_stay)

abbrev KS : FuncId := 88
abbrev encU (x : Nat) : Value := .int .u64 x
theorem nk_same (a b : Nat) : (nk a).sameKey (nk b) = decide (a = b) := by
 unfold nk
 by_cases h : a = b
 ·subst h; simp [Lit.sameKey]
 ·simp [Lit.sameKey, h]; omega
def CollU (D0 : DataW Unit) (left : Lit → Bool) (ss : List Nat) : Prop := ss.Nodup ∧ (∀ x ∈ ss, x < 18446744073709551616) ∧ ∀ x, x < 18446744073709551616 → (x ∈ ss ↔ (has D0 (nk x) = true ∧ left (nk x) = false))
theorem CollU.start (D0 : DataW Unit) : CollU D0 (has D0) [] := ⟨List.nodup_nil, fun x hx => by simp at hx, fun x _ => by cases has D0 (nk x) <;> simp⟩
theorem CollU.step {D0 : DataW Unit} {left : Lit → Bool} {ss : List Nat} (h : CollU D0 left ss) {x : Nat} (hx : x < 18446744073709551616) {y : DataW Unit} (hlk : left (nk x) = true) (hat : ∀ zd, D0.atKey (nk x) zd = y) :
  CollU D0 (fun z => left z && !z.sameKey (nk x)) (ss ++ [x]) := by
 have hhas : has D0 (nk x) = true := has_true_of_atKey hat
 have hnew : x ∉ ss := fun hm => by have := ((h.2.2 x hx).1 hm).2; rw [hlk] at this; cases this
 refine ⟨List.nodup_append.2 ⟨h.1, by simp, fun a ha b hb => by simp at hb; subst hb; exact fun e => hnew (e ▸ ha)⟩, fun y hy => ?_, fun y hy => ?_⟩
 ·rcases List.mem_append.1 hy with hy | hy
  ·exact h.2.1 y hy
  ·obtain rfl := List.mem_singleton.1 hy; exact hx
 ·show _ ↔ has D0 (nk y) = true ∧ (left (nk y) && !(nk y).sameKey (nk x)) = false
  rw [List.mem_append, List.mem_singleton, h.2.2 y hy, nk_same]
  by_cases e : y = x
  ·subst e; simp [hhas]
  ·simp [e]
set_option maxRecDepth 100000 in
set_option maxHeartbeats 2000000 in
theorem keysU_in (n : Nat) (hn : 1 ≤ n) (l Bm S nn : Nat) (D0 : DataW Unit) (J Jx : List Nat → World → Prop) (W : World) (hJ : AbidesFrom W.heap.size J)
  (hY : ∀ pre x W1, J pre W1 → pre.length < Maps.size D0 → YieldAt Fence.wide (n - 1) Tryz.prog l #[encU x] W1 fun e W' =>
    (e = .returned (.bool true) ∧ J (pre ++ [x]) W' ∧ KeepsWalks W1 W') ∨ (e = .returned (.bool false) ∧ Jx (pre ++ [x]) W'))
  (hm : W.cell? ⟨Bm, 0, none⟩ = some (.map (some S))) (hown : W.ownsMap Tryz.prog 22 RT S nn D0) (h0 : J [] W) :
  CallsIn Fence.wide n Tryz.prog KS #[.func (.yield l) #[] #[], .pointer (some ⟨Bm, 0, none⟩)] W fun e W' => (∃ v, e = .returned v) ∧
   ((∃ ss, CollU D0 (fun _ => false) ss ∧ J ss W') ∨ (∃ pre, True ∧ Jx pre W')) := by
 refine callsIn_of_wp Tryz.func88 rfl trivial ?_ rfl
 simp only [Tryz.ntmps88, List.size_toArray, List.length_cons, List.length_nil, Nat.reduceAdd, Nat.reduceSub, Array.replicate_succ, Array.replicate_zero, List.push_toArray, List.append_toArray, List.nil_append, List.cons_append]
 gi_wp2_with (first
   | (gi_at_range; refine wpListIn_range_own _ rfl _ 61 rfl 22 74 ukey_law Tryz.underlying61 _ S nn _ rfl hown ?_; intro w0 hrg0 hg0 hs0)
   | gi_in)
 go_frame
 gi_loopw [3] (fun _ wr => ∃ (left : Lit → Bool) (cnt : Nat) (ss : List Nat), wr.ranges Tryz.prog 22 RT S W.heap.size nn D0 left cnt ∧ ss.length + cnt ≤ Maps.size D0 ∧ CollU D0 left ss ∧ J ss wr)
  (fun _ wr => wr.rangeLeft S W.heap.size)
 case atStart =>
  exact ⟨_, _, [], hrg0, by simp, CollU.start D0, hJ [] W w0 none h0 hg0 (fun r e => by cases e)⟩
 case round =>
  obtain ⟨left, cnt, ss, hrg, hcs, hC, hJs⟩ := hrel
  gi_wp2_with (first
    | (gi_at_next; refine wpListIn_next_ranges _ rfl _ rfl 22 ukey_law RT encU id (fun key kl hk => by obtain ⟨z, hz, _, hw⟩ := Maps.keyOf_int_inv Tryz.underlying22 hk; obtain ⟨m, rfl, _⟩ := Arry.u64_nat hw; exact ⟨m, hz⟩) (fun v _ _ => ⟨v, rfl⟩) S W.heap.size nn _ _ _ rfl hrg ?_ ?_)
    | gi_in)
  ·intro hc0 hl0
   gi_wp2
   go_end0
   exact ⟨⟨_, rfl⟩, .inl ⟨ss, ⟨hC.1, hC.2.1, fun x hx => by rw [hC.2.2 x hx, hl0]⟩, hJs⟩⟩
  ·intro x c kl yd yp w2 cnt2 hkey hlk hv hat hrg2 hlt hg2 hs2 hen
   obtain ⟨z, ez, rfl, hw⟩ := Maps.keyOf_int_inv Tryz.underlying22 hkey
   obtain rfl : (x : Int) = z := by injection ez
   have hx : x < 18446744073709551616 := by have := bounds_u64 hw; omega
   have hJ2 : J ss w2 := hJ ss wr w2 (some W.heap.size) hJs hg2 (fun r e => by cases e; exact ⟨Nat.le_refl _, hrg.iter_walk⟩)
   obtain ⟨fn, tmps, assign, body, hy, hR⟩ := hY ss x w2 hJ2 (by omega)
   clear hs2
   gi_wp2
   refine hR.mono ?_
   have hC2 := hC.step hx hlk hat
   rintro e W3 (⟨rfl, hJ3, hk3⟩ | ⟨rfl, hJx3⟩)
   ·gi_wp2
    have hrg3 := hrg2.of_walks hk3
    go_roundw
    case rel => exact ⟨_, cnt2, ss ++ [x], hrg3, by simp; omega, hC2, hJ3⟩
    case measure => rw [hrg3.left_eq, hrg.left_eq]; exact hlt
   ·gi_wp2
    refine bodyPost_ret (results_none rfl _ _ _) rfl ?_
    exact ⟨⟨_, rfl⟩, .inr ⟨ss ++ [x], trivial, hJx3⟩⟩
theorem keysU_stops (n : Nat) (hn : 1 ≤ n) (Bm S nn : Nat) (D0 : DataW Unit) (w : World) (hBm : Bm < w.heap.size) (hm : w.cell? ⟨Bm, 0, none⟩ = some (.map (some S))) (hown : w.ownsMap Tryz.prog 22 RT S nn D0) :
  SeqStopsK Fence.wide n Tryz.prog KS #[.pointer (some ⟨Bm, 0, none⟩)] (fun x : Nat => #[encU x]) KeepsWalks (CollU D0 (fun _ => false)) (fun _ => True) (Maps.size D0) w := fun l J Jx W hW hJ _ hY h0 =>
 keysU_in n hn l Bm S nn D0 J Jx W hJ hY ((hW.cell (p := ⟨Bm, 0, none⟩) hBm).trans hm) (ownsMap_stay hown (hW.block S hown.lt)) h0
theorem keys_c (S : Nat) (w : World) : Calls Tryz.prog 56 #[.map (some S)] w fun e w' => e = .returned (.func (.func KS) #[] #[.pointer (some ⟨w.heap.size, 0, none⟩)]) ∧ w' = w.alloc (.cells #[.map (some S)] 61) := by
 have hmf : ∀ (fn : Fn) (first cap : Array Value) (w : World), (Instr.makeFunc fn first cap).run Tryz.prog w = .ok (.func fn first cap) w := fun _ _ _ _ => rfl
 go_enter Tryz.func56, Tryz.ntmps56
 go_wp2_with fail
 go_ret
 exact ⟨rfl, rfl⟩
end Go.Proofs.YtahmpggaicjgoaaGreatDoor.Storey
namespace Go.Proofs.YtahmpggaicjgoaaGreatDoor.Storey
open Go.ChangeShapes Go.WideShapes Go.ChangeAt Go.RowKit Go.Shelf
open Wirey (Blk Row str Kp)
open Go.ChangeMaps Go.Maps
open Ringy (calls_marks leave_marksP Marked own_form below_put)
open Numsy (Nums)
open Taby (ownsMap_stay)

attribute [local go_sem] Oper.semAt_some

theorem u64_info : (Tryz.prog.info? 22).map (fun i => (i.zero, i.size, i.bytes)) = some (some (.int .u64 0), 1, 8) := by kernel_rfl
theorem range_u {g : Operand} {ps : Array Tmp} {assign body : Code} {Q : Exit → Act → World → Prop} {a : Act} {w : World} {Bm S nn : Nat} {D0 : DataW Unit} (hg : a.eval g = .func (.func KS) #[] #[.pointer (some ⟨Bm, 0, none⟩)])
  (hBm : Bm < w.heap.size) (hm : w.cell? ⟨Bm, 0, none⟩ = some (.map (some S))) (hown : w.ownsMap Tryz.prog 22 RT S nn D0) (hps : ps.size = 1)
  (I : List Nat → World → Prop) (hI : OwnFrom w.heap.size I) (h0 : I [] w) (a₁ : Nat → Act)
  (hassign : ∀ (r : Nat) (x : Nat) (W : World) (K : Act → World → Prop), K (a₁ x) W → assign.wpIn (Fence.wide.inRound r) 3 Tryz.prog (Exit.then K (fun _ _ _ => False)) { tmps := (ps.zip #[encU x]).foldl (fun t (p, v) => t.setIfInBounds p v) a.tmps, defers := [] } W)
  (hbody : ∀ (r : Nat) (pre : List Nat) (x : Nat) (W : World), I pre W → pre.length < Maps.size D0 → body.wpIn (Fence.wide.inRound r) 3 Tryz.prog (ownPostG w.heap.size KeepsWalks I (fun _ _ _ => False) (pre ++ [x]) W) (a₁ x) W)
  (hdone : ∀ (D : Nat) (xs : List Nat) (W : World), w.heap.size ≤ D → CollU D0 (fun _ => false) xs → I xs W → W.heap[D]? = some (.deferred (some [])) → Q .normal { a with defers := { target := .collected D, args := #[] } :: a.defers } W) :
  (Code.rangeFunc g ps assign body).wp Tryz.prog Q a w :=
 (wpIn_wide (n := 5)).1 (wpIn_rangeFunc_ownG (F := Fence.wide) (n := 5) (w := w) rfl (by omega) (gf := KS) (lb := #[.pointer (some ⟨Bm, 0, none⟩)]) hg trivial (enters_of Tryz.func88 (by kernel_rfl) rfl)
   (keysU_stops 4 (by omega) Bm S nn D0 w hBm hm hown) KeepsWalks.trans (fun W l o o' _ h _ hw => KeepsWalks.putObj _ h hw) (Below.refl _ _) (fun _ => hps.symm) I (fun _ _ _ => False) hI (fun _ _ _ _ _ h _ _ => h) h0 a₁ hassign hbody hdone (fun D c pre W hD hp hx hK => hx.elim))
set_option maxHeartbeats 4000000 in
set_option maxRecDepth 100000 in
theorem apSeq_c {Bm S nn : Nat} {D0 : DataW Unit} (w : World) (hBm : Bm < w.heap.size) (hm : w.cell? ⟨Bm, 0, none⟩ = some (.map (some S))) (hown : w.ownsMap Tryz.prog 22 RT S nn D0) (hsz : Maps.size D0 ≤ 1000000) :
  Calls Tryz.prog 115 #[.slice none 0 0, .func (.func KS) #[] #[.pointer (some ⟨Bm, 0, none⟩)]] w fun e w' => ∃ v ss, e = .returned v ∧ CollU D0 (fun _ => false) ss ∧ w'.ownsRow w.heap.size 22 1 v ss.length (ss.map encU) ∧ Below w.heap.size w w' := by
 obtain ⟨i0, hi, hz0, hz1, hz2⟩ := info_parts u64_info
 have bO := Boxed.new w 119 (.slice none 0 0)
 have hb : Below w.heap.size w (w.alloc (.cells #[.slice none 0 0] 119)) := (Below.refl _ w).alloc (Nat.le_refl _) _
 refine calls_marks Tryz.func115 rfl ?_
 simp only [Tryz.ntmps115, List.size_toArray, List.length_cons, List.length_nil, Nat.reduceAdd, Nat.reduceSub, Array.replicate_succ, Array.replicate_zero, List.push_toArray, List.append_toArray, List.nil_append, List.cons_append]
 go_wp2_with fail
 have hm1 := (hb.cell (p := ⟨Bm, 0, none⟩) hBm).trans hm
 have hown1 := ownsMap_stay hown (hb.block S hown.lt)
 have hBm1 : Bm < (w.alloc (.cells #[.slice none 0 0] 119)).heap.size := Nat.lt_of_lt_of_le hBm hb.size
 have hs1 : (w.alloc (.cells #[.slice none 0 0] 119)).heap.size = w.heap.size + 1 := by simp
 generalize w.alloc (.cells #[.slice none 0 0] 119) = w1 at *
 have HS1 := Lib.hid hs1
 clear hs1
 apply range_u (Bm := Bm) (S := S) (nn := nn) (D0 := D0) (I := fun ss W => (∃ v, Boxed W w.heap.size 119 v ∧ W.ownsRow w.heap.size 22 1 v ss.length (ss.map encU) ∧ True) ∧ Below w.heap.size w W ∧ w1.heap.size ≤ W.heap.size)
 case hg => rfl
 case hBm => exact hBm1
 case hm => exact hm1
 case hown => exact hown1
 case hps => rfl
 case hI =>
  exact OwnFrom.and (Own.from (holdsRow_own w.heap.size w.heap.size 119 22 1 (fun pre : List Nat => pre.length) (fun pre => pre.map encU) (fun _ _ => True)) _) (Ringy.ownFrom_of fun s W W' h => ⟨h.2, fun h1 h2 h3 h4 h5 => ⟨⟨h1.trans h.1.os, h2.trans h.1.tape, h3.trans h.1.output, Nat.le_trans h.1.size h4, fun k hk => (h5 k (by have := HS1.out; omega)).trans (h.1.block k hk)⟩, Nat.le_trans h.2 h4⟩⟩)
 case h0 => exact ⟨⟨_, bO, World.ownsRow_nil _ _ _ _, trivial⟩, hb, Nat.le_refl _⟩
 case hassign =>
  intro r x W K hK
  gi_wp2
  exact hK
 case hbody =>
  rintro r pre x W ⟨⟨sv, hsv, hrow, -⟩, hBW, hle⟩ hpl
  have hc := hsv.cell
  gi_wp2_with (gi_at_builtin; refine wpListIn_append_own _ rfl _ _ 119 rfl w.heap.size 22 i0 (.int .u64 0) 1 8 Tryz.underlying119 hi hz0 hz1 hz2 rfl (by decide) _ _ _ rfl (hrow.alloc _) ⟨W.heap.size, 0, none⟩ 1 1 [encU x] rfl rfl (cell_one_new _ _ _) (by simp [Value.oneCell']) (by unfold maxLen; omega) (by omega) (by have := hBW.size; simp; omega) ?_; intro v' w2 hown' hgrow _; obtain ⟨g', cap', rfl⟩ := ownsRow_succ hown'; obtain ⟨hv1, hv2, hr2, hk2, hb2⟩ := hsv.appended (by decide) hrow hBW.size (Nat.le_refl _) hown' hgrow; have hc1 := hv1.cell; have hf1 := hv1.frozen)
  refine ⟨hk2.from _, hk2.walks, ⟨_, hv2, ?_, trivial⟩, hBW.trans hb2, Nat.le_trans hle hb2.size⟩
  rw [List.length_append, List.length_singleton, List.map_append]
  exact hr2
 case hdone =>
  rintro D xs W hD hC ⟨⟨sv, hsv, hrow, -⟩, hBW, hle⟩ hK
  have hc := hsv.cell
  go_wp2_with fail
  obtain ⟨va, vc, rfl⟩ := own_form hrow
  refine leave_marksP (B := w.heap.size) (fun W' => W'.ownsRow w.heap.size 22 1 (.slice va xs.length vc) xs.length (xs.map encU) ∧ Below w.heap.size w W') (fun W D o' hD h hK => ⟨ownsRow_putObj h.1 _ hK rfl, h.2.trans (below_put _ hD (Array.getElem?_eq_some_iff.1 hK).1)⟩) (fun _ _ => results_tmp rfl _ _ _) (fun W' h => ⟨_, xs, rfl, hC, h.1, h.2⟩) _ _ ⟨hrow, hBW⟩ ⟨⟨D, rfl, by have := HS1.out; omega, hK, by simp⟩, trivial⟩
theorem collU_c {Bm S nn : Nat} {D0 : DataW Unit} (w : World) (hBm : Bm < w.heap.size) (hm : w.cell? ⟨Bm, 0, none⟩ = some (.map (some S))) (hown : w.ownsMap Tryz.prog 22 RT S nn D0) (hsz : Maps.size D0 ≤ 1000000) :
  Calls Tryz.prog 86 #[.func (.func KS) #[] #[.pointer (some ⟨Bm, 0, none⟩)]] w fun e w' => ∃ v ss, e = .returned v ∧ CollU D0 (fun _ => false) ss ∧ w'.ownsRow w.heap.size 22 1 v ss.length (ss.map encU) ∧ Below w.heap.size w w' := by
 have h := apSeq_c w hBm hm hown hsz
 go_enter Tryz.func86, Tryz.ntmps86
 go_wp2_with fail
 refine h.mono ?_
 rintro e w' ⟨val, ss, rfl, hC, hr, hb⟩
 go_wp2_with fail
 go_ret
 exact ⟨_, ss, rfl, hC, hr, hb⟩
def SortedAt (w : World) (B : Nat) (v : Value) (L : List Nat) : Prop := (v = .slice none 0 0 ∧ L = []) ∨ ∃ g c, v = .slice (some ⟨g, 0, none⟩) L.length c ∧ B ≤ g ∧ Nums w g L.toArray
theorem upto_lt {d : Array Nat} {n : Nat} (hs : d.size = n) (hu : Numsy.Upto d n) (hn : d.toList.Nodup) : d.toList.Pairwise (· < ·) := by
 rw [List.pairwise_iff_getElem]
 intro i j hi hj hij
 have h1 := hu i j hij (by simpa [hs] using hj)
 have hi' : i < d.size := by simpa using hi
 have hj' : j < d.size := by simpa using hj
 rw [Numsy.bang hi', Numsy.bang hj'] at h1
 have h2 : d.toList[i] ≠ d.toList[j] := List.pairwise_iff_getElem.1 hn i j hi hj hij
 simp only [Array.getElem_toList] at h2 ⊢
 omega
theorem sortedU_c {Bm S nn : Nat} {D0 : DataW Unit} (w : World) (hBm : Bm < w.heap.size) (hm : w.cell? ⟨Bm, 0, none⟩ = some (.map (some S))) (hown : w.ownsMap Tryz.prog 22 RT S nn D0) (hsz : Maps.size D0 ≤ 1000000) (h12 : ∀ ss, CollU D0 (fun _ => false) ss → ss.length ≤ 12) :
  Calls Tryz.prog 55 #[.func (.func KS) #[] #[.pointer (some ⟨Bm, 0, none⟩)]] w fun e w' => ∃ v L, e = .returned v ∧ CollU D0 (fun _ => false) L ∧ L.Pairwise (· < ·) ∧ SortedAt w' w.heap.size v L ∧ Below w.heap.size w w' := by
 have h := collU_c w hBm hm hown hsz
 go_enter Tryz.func55, Tryz.ntmps55
 go_wp2_with fail
 refine h.mono ?_
 rintro e w1 ⟨val, ss, rfl, hC, hr, hb⟩
 have hl := h12 ss hC
 rcases hr.2 with ⟨rfl, h0⟩ | ⟨g, cap, cur, rfl, hg, hgb, hc, hmx, hsz2, htk⟩
 ·have hnil : ss = [] := List.eq_nil_of_length_eq_zero h0
  subst hnil
  have HB := Lib.hid hb
  clear hb h hr
  go_wp2_with fail
  refine (Numsy.sort64_none _).mono ?_
  rintro e w2 ⟨rfl, rfl⟩
  go_wp2_with fail
  go_ret
  exact ⟨_, [], rfl, hC, List.Pairwise.nil, .inl ⟨rfl, rfl⟩, HB.out⟩
 ·have hN : Nums w1 g ss.toArray := by
   have h1 := Row.of_blk (w := w1) (g := g) (t := 22) (cs := cur) hgb
   refine ⟨⟨h1.lt, fun i u hu => ?_, fun i hi => ?_⟩, cur, hgb⟩
   ·refine h1.cell i u ?_
    have : (cur.toList.take (ss.length * 1))[i]? = some u := by rw [htk]; exact hu
    rw [List.getElem?_take] at this
    split at this
    ·exact this
    ·cases this
   ·refine h1.free i ?_
    have : i < ss.length := by simpa using hi
    simp only [Array.length_toList]
    omega
  have hS := Numsy.sort64_c (n := ss.length) (c := cap) (d0 := ss.toArray) (g := g) (by simp) hl hc w1 hN
  have HB := Lib.hid hb
  clear hb h hr
  go_wp2_with fail
  refine hS.mono ?_
  rintro e w2 ⟨rfl, d, hN2, hds, hperm, hup, hkp⟩
  have HB2 : Below w.heap.size w w2 := ⟨hkp.os.trans HB.out.os, hkp.tape.trans HB.out.tape, hkp.output.trans HB.out.output, Nat.le_trans HB.out.size hkp.size, fun k hk => (hkp.block k (Nat.lt_of_lt_of_le hk HB.out.size) (fun e => by omega)).trans (HB.out.block k hk)⟩
  have HH := Lib.hid HB2
  have hperm' : d.toList.Perm ss := by simpa using hperm
  have hlen : d.toList.length = ss.length := hperm'.length_eq
  clear HB2 hS HB hN
  go_wp2_with fail
  go_ret
  refine ⟨_, d.toList, rfl, ⟨hperm'.nodup_iff.2 hC.1, fun x hx => hC.2.1 x (hperm'.mem_iff.1 hx), fun x hx => by rw [hperm'.mem_iff]; exact hC.2.2 x hx⟩, upto_lt hds hup (hperm'.nodup_iff.2 hC.1), .inr ⟨g, cap, by rw [hlen]; rfl, hg, ?_⟩, HH.out⟩
  have : d.toList.toArray = d := by simp
  rw [this]
  exact hN2
end Go.Proofs.YtahmpggaicjgoaaGreatDoor.Storey
