/- The function that slices.Values hands back, over a slice of texts: it hands over text by text, whatever a round does to other memory than the slice's own. No condition. -/
import Derived.Test.YtncgfnocokippaaRingKeys
import Derived.RangeFuncNested
import Derived.RangeFuncBound
import Derived.RangeFuncCalls
import Derived.RangeFuncLeaves
import Derived.RangeFuncBox
import Derived.Shelf.Abstract
import Derived.Shelf.RegionOpen
import Derived.OwnWalkIn
import Derived.TacticsInMore
import Derived.LoopNIn
import Derived.LoopIn
namespace Go.Proofs.Ytncgfnocokippaa.Ringy
open Go.ChangeShapes Go.WideShapes Go.ChangeAt Go.RowKit Go.Shelf
open Wirey (Blk Row str str_size str_list Kp)
open Go.ChangeMaps Go.Maps

attribute [local go_sem] Oper.semAt_some

/-- What a round must leave as it is: the slice's own row. -/
def RowK (v : Value) (W W' : World) : Prop := ∀ g, v.ownBlock = some g → W'.heap[g]? = W.heap[g]?
theorem rowK_t {v : Value} {A B C : World} (h : RowK v A B) (k : RowK v B C) : RowK v A C := fun g hg => (k g hg).trans (h g hg)
theorem rowK_b {v : Value} {n₀ : Nat} (hv : ∀ g, v.ownBlock = some g → g < n₀) (W : World) (l : Nat) (o o' : Obj) (hl : n₀ ≤ l) (_ : W.heap[l]? = some o) (_ : o.isCells = false) (_ : o.isWalk = false) : RowK v W (W.putObj l o') :=
  fun g hg => World.putObj_heap_other (by have := hv g hg; omega)
theorem rowK_of {v : Value} {O : Nat → Prop} {W W' : World} (h : Kp O W W') (hv : ∀ g, v.ownBlock = some g → g < W.heap.size ∧ ¬ O g) : RowK v W W' := fun g hg => h.block g (hv g hg).1 (hv g hg).2
theorem rowK_set {v : Value} {W : World} {p : Addr} (h : ∀ g, v.ownBlock = some g → g ≠ p.block) (u : Value) : RowK v W (W.setCell p u) := fun g hg => far (h g hg) u
theorem take_snoc {xs : List Key} {k : Nat} (h : k < xs.length) : xs.take (k + 1) = xs.take k ++ [xs[k]?.getD []] := by
  rw [List.take_add_one, List.getElem?_eq_getElem h]
  rfl

set_option maxRecDepth 100000 in
set_option maxHeartbeats 2000000 in
theorem values1_in (n : Nat) (hn : 1 ≤ n) (l B : Nat) (v : Value) (xs : List Key) (hlen : xs.length ≤ 1000000) (J Jx : List Key → World → Prop)
    (hY : ∀ pre x W, J pre W → pre.length < xs.length → YieldAt Fence.wide (n - 1) Try.prog l #[.string (str x)] W fun e W' =>
      (e = .returned (.bool true) ∧ J (pre ++ [x]) W' ∧ RowK v W W') ∨ (e = .returned (.bool false) ∧ Jx (pre ++ [x]) W'))
    (W : World) (hB : W.cell? ⟨B, 0, none⟩ = some v) (hrow : W.ownsRow 0 9 1 v xs.length (strsV xs)) (h0 : J [] W) :
    CallsIn Fence.wide n Try.prog 96 #[.func (.yield l) #[] #[], .pointer (some ⟨B, 0, none⟩)] W fun e W' => (∃ v, e = .returned v) ∧
      ((∃ ys, ys = xs ∧ J ys W') ∨ (∃ pre, pre <+: xs ∧ Jx pre W')) := by
  obtain ⟨a, c, rfl⟩ := own_form hrow
  refine callsIn_of_wp Try.func96 rfl trivial ?_ rfl
  simp only [Try.ntmps96, List.size_toArray, List.length_cons, List.length_nil, Nat.reduceAdd, Nat.reduceSub, Array.replicate_succ, Array.replicate_zero, List.push_toArray, List.append_toArray, List.nil_append, List.cons_append]
  gi_wp2
  gi_loopw [7] (fun i wr => ∃ k : Nat, k ≤ xs.length ∧ i = .int .i64 k ∧ J (xs.take k) wr ∧ RowK (.slice a xs.length c) W wr)
    (fun i _ => xs.length - (intOf i).toNat)
  case atStart => exact ⟨0, Nat.zero_le _, rfl, h0, fun _ _ => rfl⟩
  case round =>
    obtain ⟨k, hk, rfl, hJs, hnx⟩ := hrel
    by_cases hlt : k < xs.length
    · obtain ⟨g, cap, hv, -, -⟩ := hrow.form (by omega)
      cases hv
      have hcx' : wr.cell? ⟨g, k, none⟩ = some (.string (str (xs[k]?.getD []))) := by
        have h2 := ownsRow_stay (w' := wr) hrow hnx
        rw [h2.cellAt k (by omega)]
        exact strsV_at hlt
      obtain ⟨fn, tmps, assign, body, hy, hR⟩ := hY _ (xs[k]?.getD []) wr hJs (by rw [List.length_take]; omega)
      have HTK := Lib.hid (take_snoc hlt)
      generalize xs[k]?.getD [] = x at *
      gi_wp2
      refine hR.mono ?_
      rintro e W3 (⟨rfl, hJ3, hk3⟩ | ⟨rfl, hJx3⟩)
      · gi_wp2
        go_roundw
        case rel => exact ⟨k + 1, by omega, by simp, by rw [HTK.out]; exact hJ3, rowK_t hnx hk3⟩
        case measure => simp [intOf]; omega
      · gi_wp2
        refine bodyPost_ret (results_none rfl _ _ _) rfl ?_
        exact ⟨⟨_, rfl⟩, .inr ⟨_, by rw [← HTK.out]; exact List.take_prefix _ _, hJx3⟩⟩
    · obtain rfl : k = xs.length := by omega
      gi_wp2
      go_end0
      exact ⟨⟨_, rfl⟩, .inl ⟨_, List.take_length, hJs⟩⟩

/-- .. as the law on ranges asks for it. -/
theorem values_stops (n : Nat) (hn : 1 ≤ n) (B : Nat) (v : Value) (xs : List Key) (hlen : xs.length ≤ 1000000) (w : World) (hB : B < w.heap.size) (hc : w.cell? ⟨B, 0, none⟩ = some v) (hrow : w.ownsRow 0 9 1 v xs.length (strsV xs)) :
    SeqStopsK Fence.wide n Try.prog 96 #[.pointer (some ⟨B, 0, none⟩)] (fun x : Key => #[Value.string (str x)]) (RowK v) (fun ys => ys = xs) (fun pre => pre <+: xs) xs.length w := fun l J Jx W hW _ _ hY h0 =>
  values1_in n hn l B v xs hlen J Jx hY W ((hW.cell (p := ⟨B, 0, none⟩) hB).trans hc) (ownsRow_stay hrow fun b hb => hW.block b (hrow.lt b hb).2) h0
end Go.Proofs.Ytncgfnocokippaa.Ringy
