/- The function that slices.Backward hands back, over a slice of texts: from the last text to the first. No condition. -/
import Derived.Test.YtgfpedcdclgmiaaGreatRingExport
namespace Go.Proofs.YtgfpedcdclgmiaaGreat.Ringy
open Go.ChangeShapes Go.WideShapes Go.ChangeAt Go.RowKit Go.Shelf
open Wirey (Blk Row str str_size str_list Kp)
open Go.ChangeMaps Go.Maps

attribute [local go_sem] Oper.semAt_some

/-- The texts with their places, from the last on. -/
def bw (xs : List Key) : List (Nat × Key) := ((List.range xs.length).map fun i => (i, xs[i]?.getD [])).reverse
theorem bw_len (xs : List Key) : (bw xs).length = xs.length := by simp [bw]
theorem bw_snoc {xs : List Key} {q : Nat} (h : q < xs.length) : (bw xs).take (xs.length - q) = (bw xs).take (xs.length - (q + 1)) ++ [(q, xs[q]?.getD [])] := by
  have e : xs.length - q = (xs.length - (q + 1)) + 1 := by omega
  have hl : xs.length - (q + 1) < (bw xs).length := by rw [bw_len]; omega
  have hg : (bw xs)[xs.length - (q + 1)]? = some (q, xs[q]?.getD []) := by
    have h1 : xs.length - 1 - (xs.length - (q + 1)) = q := by omega
    unfold bw
    rw [List.getElem?_reverse (by simp; omega)]
    simp only [List.length_map, List.length_range, List.getElem?_map, h1]
    rw [List.getElem?_range h]
    rfl
  rw [e, List.take_add_one, hg]
  rfl
/-- What a round must leave: the slice's row, and its box. -/
def RowB (v : Value) (B : Nat) (W W' : World) : Prop := RowK v W W' ∧ W'.heap[B]? = W.heap[B]?
theorem rowB_t {v : Value} {n : Nat} {A B C : World} (h : RowB v n A B) (k : RowB v n B C) : RowB v n A C := ⟨rowK_t h.1 k.1, k.2.trans h.2⟩
theorem rowB_b {v : Value} {B n₀ : Nat} (hv : ∀ g, v.ownBlock = some g → g < n₀) (hB : B < n₀) (W : World) (l : Nat) (o o' : Obj) (hl : n₀ ≤ l) (h1 : W.heap[l]? = some o) (h2 : o.isCells = false) (h3 : o.isWalk = false) : RowB v B W (W.putObj l o') :=
  ⟨rowK_b hv W l o o' hl h1 h2 h3, World.putObj_heap_other (by omega)⟩
set_option maxRecDepth 100000 in
set_option maxHeartbeats 2000000 in
theorem back1_in (cut : Key → Key) (n : Nat) (hn : 1 ≤ n) (l B : Nat) (v : Value) (xs : List Key) (hlen : xs.length ≤ 1000000) (hcut : ∀ x ∈ xs, cut x = x) (J Jx : List (Nat × Key) → World → Prop)
    (hY : ∀ pre (x : Nat × Key) W, J pre W → pre.length < xs.length → YieldAt Fence.wide (n - 1) Tryz.prog l #[.int .i64 (x.1 : Int), .string (str (cut x.2))] W fun e W' =>
      (e = .returned (.bool true) ∧ J (pre ++ [x]) W' ∧ RowB v B W W') ∨ (e = .returned (.bool false) ∧ Jx (pre ++ [x]) W'))
    (W : World) (hB : W.cell? ⟨B, 0, none⟩ = some v) (hrow : W.ownsRow 0 9 1 v xs.length (strsV xs)) (h0 : J [] W) :
    CallsIn Fence.wide n Tryz.prog 132 #[.func (.yield l) #[] #[], .pointer (some ⟨B, 0, none⟩)] W fun e W' => (∃ v, e = .returned v) ∧
      ((∃ ys, ys = bw xs ∧ J ys W') ∨ (∃ pre, pre <+: bw xs ∧ Jx pre W')) := by
  obtain ⟨a, c, rfl⟩ := own_form hrow
  refine callsIn_of_wp Tryz.func132 rfl trivial ?_ rfl
  simp only [Tryz.ntmps132, List.size_toArray, List.length_cons, List.length_nil, Nat.reduceAdd, Nat.reduceSub, Array.replicate_succ, Array.replicate_zero, List.push_toArray, List.append_toArray, List.nil_append, List.cons_append]
  have HCUT := Lib.hid hcut
  clear hcut
  gi_wp2
  gi_loopw [3] (fun i wr => ∃ m : Nat, m ≤ xs.length ∧ i = .int .i64 ((m : Int) - 1) ∧ J ((bw xs).take (xs.length - m)) wr ∧ RowK (.slice a xs.length c) W wr ∧ wr.cell? ⟨B, 0, none⟩ = some (.slice a xs.length c))
    (fun i _ => (intOf i + 1).toNat)
  case atStart => exact ⟨xs.length, Nat.le_refl _, rfl, by simpa using h0, fun _ _ => rfl, hB⟩
  case round =>
    obtain ⟨m, hm, rfl, hJs, hnx, hBr⟩ := hrel
    cases m with
    | succ q =>
      obtain ⟨g, cap, hv, -, -⟩ := hrow.form (by omega)
      cases hv
      have e1 : (((q + 1 : Nat) : Int) - 1) = (q : Int) := by omega
      rw [e1]
      have hcx' : wr.cell? ⟨g, q, none⟩ = some (.string (str (xs[q]?.getD []))) := by
        have h2 := ownsRow_stay (w' := wr) hrow hnx
        rw [h2.cellAt q (by omega)]
        exact strsV_at (by omega)
      obtain ⟨fn, tmps, assign, body, hy, hR⟩ := hY _ (q, xs[q]?.getD []) wr hJs (by rw [List.length_take, bw_len]; omega)
      rw [HCUT.out _ (by rw [List.getElem?_eq_getElem (by omega : q < xs.length)]; exact List.getElem_mem _)] at hy
      have HTK := Lib.hid (bw_snoc (xs := xs) (q := q) (by omega))
      have hge : decide ((0 : Int) ≤ (q : Int)) = true := decide_eq_true (by omega)
      clear e1
      generalize xs[q]?.getD [] = x at *
      gi_wp2
      refine hR.mono ?_
      rintro e W3 (⟨rfl, hJ3, hk3⟩ | ⟨rfl, hJx3⟩)
      · gi_wp2
        go_roundw
        case rel => exact ⟨q, by omega, rfl, by rw [HTK.out]; exact hJ3, rowK_t hnx hk3.1, (World.cell?_of_block hk3.2).trans hBr⟩
        case measure => simp [intOf]
      · gi_wp2
        refine bodyPost_ret (results_none rfl _ _ _) rfl ?_
        exact ⟨⟨_, rfl⟩, .inr ⟨_, by rw [← HTK.out]; exact List.take_prefix _ _, hJx3⟩⟩
    | zero =>
      gi_wp2
      go_end0
      refine ⟨⟨_, rfl⟩, .inl ⟨_, ?_, hJs⟩⟩
      rw [Nat.sub_zero, ← bw_len, List.take_length]
/-- slices.Backward. -/
def backF (B : Nat) : Value := .func (.func 132) #[] #[.pointer (some ⟨B, 0, none⟩)]
theorem backward_c (a : Option Addr) (n c : Nat) (w : World) :
    Calls Tryz.prog 130 #[.slice a n c] w fun e w' => e = .returned (backF w.heap.size) ∧ w' = w.alloc (.cells #[.slice a n c] 61) := by
  go_enter Tryz.func130, Tryz.ntmps130
  go_wp2_with fail
  go_ret
  exact ⟨rfl, rfl⟩
theorem range_back (cut : Key → Key) {g : Operand} {ps : Array Tmp} {assign body : Code} {Q : Exit → Act → World → Prop} {a : Act} {w : World} {B n₀ : Nat} {l : List Key} {v : Value} (hcut : ∀ x ∈ l, cut x = x) (hg : a.eval g = backF B) (hb : Blk w B 61 #[v]) (hrow : w.ownsRow n₀ 9 1 v l.length (strsV l)) (hlen : l.length ≤ 1000000) (hps : ps.size = 2)
    (I : List (Nat × Key) → World → Prop) (Ix : Code → List (Nat × Key) → World → Prop) (hI : OwnFrom w.heap.size I) (hIx : ∀ c, OwnFrom w.heap.size (Ix c)) (h0 : I [] w) (a₁ : Nat × Key → Act)
    (hassign : ∀ (r : Nat) (x : Nat × Key) (W : World) (K : Act → World → Prop), K (a₁ x) W → assign.wpIn (Fence.wide.inRound r) 3 Tryz.prog (Exit.then K (fun _ _ _ => False)) { tmps := (ps.zip #[Value.int .i64 (x.1 : Int), Value.string (str (cut x.2))]).foldl (fun t (p, v) => t.setIfInBounds p v) a.tmps, defers := [] } W)
    (hbody : ∀ (r : Nat) (pre : List (Nat × Key)) (x : Nat × Key) (W : World), I pre W → pre.length < l.length → body.wpIn (Fence.wide.inRound r) 3 Tryz.prog (ownPostG w.heap.size (RowB v B) I Ix (pre ++ [x]) W) (a₁ x) W)
    (hdone : ∀ (D : Nat) (W : World), w.heap.size ≤ D → I (bw l) W → W.heap[D]? = some (.deferred (some [])) → Q .normal { a with defers := { target := .collected D, args := #[] } :: a.defers } W)
    (hstop : ∀ (D : Nat) (c : Code) (pre : List (Nat × Key)) (W : World), w.heap.size ≤ D → pre <+: bw l → Ix c pre W → W.heap[D]? = some (.deferred (some [])) → c.wp Tryz.prog Q { a with defers := { target := .collected D, args := #[] } :: a.defers } W) :
    (Code.rangeFunc g ps assign body).wp Tryz.prog Q a w := by
  have hv := hrow.lt
  have hseq : SeqStopsK Fence.wide 4 Tryz.prog 132 #[.pointer (some ⟨B, 0, none⟩)] (fun x : Nat × Key => #[Value.int .i64 (x.1 : Int), Value.string (str (cut x.2))]) (RowB v B) (fun ys => ys = bw l) (fun pre => pre <+: bw l) l.length w := fun k J Jx W hW _ _ hY h0 =>
    back1_in cut 4 (by omega) k B v l hlen hcut J Jx hY W ((hW.cell (p := ⟨B, 0, none⟩) hb.lt).trans (hb.cell 0)) (ownsRow_stay (own_low hrow) fun b hb => hW.block b (hrow.lt b hb).2) h0
  refine (wpIn_wide (n := 5)).1 (wpIn_rangeFunc_ownG (F := Fence.wide) (n := 5) (w := w) rfl (by omega) (gf := 132) (lb := #[.pointer (some ⟨B, 0, none⟩)]) hg trivial (enters_of Tryz.func132 (by kernel_rfl) rfl)
    hseq rowB_t (rowB_b (fun g e => (hv g e).2) hb.lt) (Below.refl _ _) (fun _ => hps.symm) I Ix hI hIx h0 a₁ hassign hbody
    (fun D ys W hD hy hI2 hK => by subst hy; exact hdone D W hD hI2 hK) (fun D c pre W hD hp hx hK => wpIn_wide.2 (hstop D c pre W hD hp hx hK)))
end Go.Proofs.YtgfpedcdclgmiaaGreat.Ringy
