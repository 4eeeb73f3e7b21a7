/- The program's own ARC, its lists and bytes, and the document's beside it. The only condition: it is as chapter 7 has it. -/
import Derived.Test.YtfhlnidjneaieaaArcMake
import Derived.Test.YtfhlnidjneaieaaRingFills
import Derived.Test.YtfhlnidjneaieaaRingRange
import Derived.Test.YtfhlnidjneaieaaArcDocB
import Derived.BigQuiet
import Derived.Deep.RegionHeld3
namespace Go.Proofs.Ytfhlnidjneaieaa.Arcy
open Go.ChangeShapes Go.WideShapes Go.ChangeAt Go.RowKit Go.Shelf
open Wirey (Blk Row str str_size str_list str_take Kp)
open Ringy Go.ChangeMaps Go.Maps

attribute [local go_sem] Oper.semAt_some

/-- A range over the function that Keys handed back. -/
theorem range_keysR {g : Operand} {ps : Array Tmp} {assign body : Code} {Q : Exit → Act → World → Prop} {a : Act} {w : World} {B n₀ : Nat} {l : List Key} (hg : a.eval g = keysF B) (hbox : Boxes w n₀ B l) (hlen : l.length ≤ 1000000) (hps : ps.size = 1)
    (I : List Key → World → Prop) (Ix : Code → List Key → World → Prop) (hI : OwnFrom w.heap.size I) (hIx : ∀ c, OwnFrom w.heap.size (Ix c)) (h0 : I [] w) (a₁ : Key → Act)
    (hassign : ∀ (r : Nat) (x : Key) (W : World) (K : Act → World → Prop), K (a₁ x) W → assign.wpIn (Fence.wide.inRound r) 3 Try.prog (Exit.then K (fun _ _ _ => False)) { tmps := (ps.zip #[Value.string (str x)]).foldl (fun t (p, v) => t.setIfInBounds p v) a.tmps, defers := [] } W)
    (hbody : ∀ (v : Value), Blk w B 49 #[v] → w.ownsRow n₀ 9 1 v l.length (strsV l) → ∀ (r : Nat) (pre : List Key) (x : Key) (W : World), I pre W → pre.length < l.length → body.wpIn (Fence.wide.inRound r) 3 Try.prog (ownPostG w.heap.size (RowK v) I Ix (pre ++ [x]) W) (a₁ x) W)
    (hdone : ∀ (D : Nat) (W : World), w.heap.size ≤ D → I l W → W.heap[D]? = some (.deferred (some [])) → Q .normal { a with defers := { target := .collected D, args := #[] } :: a.defers } W)
    (hstop : ∀ (D : Nat) (c : Code) (pre : List Key) (W : World), w.heap.size ≤ D → pre <+: l → Ix c pre W → W.heap[D]? = some (.deferred (some [])) → c.wp Try.prog Q { a with defers := { target := .collected D, args := #[] } :: a.defers } W) :
    (Code.rangeFunc g ps assign body).wp Try.prog Q a w := by
  obtain ⟨v, hb, hrow⟩ := hbox.box
  have hv := hrow.lt
  refine (wpIn_wide (n := 5)).1 (wpIn_rangeFunc_ownG (F := Fence.wide) (n := 5) (w := w) rfl (by omega) (gf := 89) (lb := #[.pointer (some ⟨B, 0, none⟩)]) hg trivial (enters_of Try.func89 (by kernel_rfl) rfl)
    (values_stops 4 (by omega) B v l hlen w hb.lt (hb.cell 0) (own_low hrow)) rowK_t (rowK_b fun g e => (hv g e).2) (Below.refl _ _) (fun _ => hps.symm) I Ix hI hIx h0 a₁ hassign (hbody v hb hrow)
    (fun D ys W hD hy hI2 hK => by subst hy; exact hdone D W hD hI2 hK) (fun D c pre W hD hp hx hK => wpIn_wide.2 (hstop D c pre W hD hp hx hK)))
set_option maxHeartbeats 4000000 in
set_option maxRecDepth 100000 in
theorem append_c {n₀ B : Nat} {l : List Key} {w : World} (hbox : Boxes w n₀ B l) (hlen : l.length ≤ 100000) :
    Calls Try.prog 99 #[.slice none 0 0, keysF B] w fun e w' => ∃ val, e = .returned val ∧ w'.ownsRow w.heap.size 9 1 val l.length (strsV l) ∧ Below w.heap.size w w' := by
  obtain ⟨i0, hi0, hz0, hz1, hz2⟩ := info_parts str_info
  have bO := Boxed.new w 49 (.slice none 0 0)
  have hB0 : Below w.heap.size w (w.alloc (.cells #[.slice none 0 0] 49)) := (Below.refl _ w).alloc (Nat.le_refl _) _
  have hbox1 : Boxes (w.alloc (.cells #[.slice none 0 0] 49)) n₀ B l := by
    obtain ⟨v, hv, hr⟩ := hbox.box
    exact ⟨⟨v, hv.alloc _, hr.alloc _⟩, hbox.lo⟩
  have hvlt : ∀ v, Blk w B 49 #[v] → ∀ b, v.ownBlock = some b → b < w.heap.size := fun v hv b hb => by
    obtain ⟨v2, hv2, hr⟩ := hbox.box
    have : v = v2 := by
      unfold Blk at hv hv2
      rw [hv] at hv2
      simpa using hv2
    subst this
    exact (hr.lt b hb).2
  have hs1 : (w.alloc (.cells #[.slice none 0 0] 49)).heap.size = w.heap.size + 1 := by simp
  refine calls_marks Try.func99 rfl ?_
  simp only [Try.ntmps99, List.size_toArray, List.length_cons, List.length_nil, Nat.reduceAdd, Nat.reduceSub, Array.replicate_succ, Array.replicate_zero, List.push_toArray, List.append_toArray, List.nil_append, List.cons_append]
  go_wp2_with fail
  generalize w.alloc (.cells #[.slice none 0 0] 49) = w1 at *
  have HS1 := Lib.hid hs1
  clear hs1
  apply range_keysR (B := B) (l := l) (I := fun pre W => (∃ v, Boxed W w.heap.size 49 v ∧ W.ownsRow w.heap.size 9 1 v pre.length (strsV pre) ∧ True) ∧ Below w.heap.size w W ∧ w1.heap.size ≤ W.heap.size) (Ix := fun _ _ _ => False)
  case hg => rfl
  case hbox => exact hbox1
  case hlen => omega
  case hps => rfl
  case hI =>
    exact OwnFrom.and (Own.from (holdsRow_own w.heap.size w.heap.size 49 9 1 (fun pre : List Key => pre.length) (fun pre => strsV pre) (fun _ _ => True)) _) (ownFrom_of fun s W W' h => ⟨h.2, fun h1 h2 h3 h4 h5 => ⟨⟨h1.trans h.1.os, h2.trans h.1.tape, h3.trans h.1.output, Nat.le_trans h.1.size h4, fun k hk => (h5 k (by have := HS1.out; omega)).trans (h.1.block k hk)⟩, Nat.le_trans h.2 h4⟩⟩)
  case hIx => exact fun c s W W' row h _ _ => h
  case h0 => exact ⟨⟨_, bO, World.ownsRow_nil _ _ _ _, trivial⟩, hB0, Nat.le_refl _⟩
  case hassign =>
    intro r x W K hK
    gi_wp2
    exact hK
  case hbody =>
    rintro v hvb hvr rr pre x W ⟨⟨sv, hsv, hrow, -⟩, hBW, hle⟩ hpl
    have hc := hsv.cell
    gi_wp2_with (gi_at_builtin; refine wpListIn_append_own _ rfl _ _ 49 rfl w.heap.size 9 i0 (.string ⟨#[]⟩) 1 16 Try.underlying49 hi0 hz0 hz1 hz2 rfl (by decide) _ _ _ rfl (hrow.alloc _) ⟨W.heap.size, 0, none⟩ 1 1 [.string (str x)] rfl rfl (cell_one_new _ _ _) (by simp [Value.oneCell']) (by unfold maxLen; omega) (by omega) (by have := hBW.size; simp; omega) ?_; intro v' w2 hown' hgrow _; obtain ⟨g', cap', rfl⟩ := ownsRow_succ hown'; obtain ⟨hv1, hv2, hr2, hk2, hb2⟩ := hsv.appended (by decide) hrow hBW.size (Nat.le_refl _) hown' hgrow; have hc1 := hv1.cell; have hf1 := hv1.frozen)
    have hvb2 : ∀ b, v.ownBlock = some b → b < w.heap.size := fun b hb => hvlt v (by
      obtain ⟨v2, hv2, hr2⟩ := hbox.box
      have h2 := hB0.block B hv2.lt
      unfold Blk at hvb hv2 ⊢
      rw [← h2]
      exact hvb) b hb
    refine ⟨hk2.from _, fun g hg => hb2.block g (hvb2 g hg), ⟨_, hv2, ?_, trivial⟩, hBW.trans hb2, Nat.le_trans hle hb2.size⟩
    rw [List.length_append, List.length_singleton, strsV_snoc]
    exact hr2
  case hstop => exact fun _ _ _ _ _ _ h _ => h.elim
  case hdone =>
    rintro D W hD ⟨⟨sv, hsv, hrow, -⟩, hBW, hle⟩ hK
    have hc := hsv.cell
    go_wp2_with fail
    obtain ⟨va, vc, rfl⟩ := own_form hrow
    refine leave_marksP (B := w.heap.size) (fun W' => W'.ownsRow w.heap.size 9 1 (.slice va l.length vc) l.length (strsV l) ∧ Below w.heap.size w W') (fun W D o' hD h hK => ⟨ownsRow_putObj h.1 _ hK rfl, h.2.trans (below_put _ hD (Array.getElem?_eq_some_iff.1 hK).1)⟩) (fun _ _ => results_tmp rfl _ _ _) (fun W' h => ⟨_, rfl, h.1, h.2⟩) _ _ ⟨hrow, hBW⟩ ⟨⟨D, rfl, by have := HS1.out; omega, hK, by simp⟩, trivial⟩
theorem collect_c {n₀ B : Nat} {l : List Key} {w : World} (hbox : Boxes w n₀ B l) (hlen : l.length ≤ 100000) :
    Calls Try.prog 80 #[keysF B] w fun e w' => ∃ val, e = .returned val ∧ w'.ownsRow w.heap.size 9 1 val l.length (strsV l) ∧ Below w.heap.size w w' := by
  have h := append_c hbox hlen
  go_enter Try.func80, Try.ntmps80
  go_wp2_with fail
  refine h.mono ?_
  rintro e w' ⟨val, rfl, hr, hb⟩
  go_wp2_with fail
  go_ret
  exact ⟨_, rfl, hr, hb⟩
section
variable {w0 w w' : World} {A P : Nat} {m : Rm} {v : Av}
theorem blk4_set {W : World} {g : Nat} {V : Nat → Value} {j : Nat} (hj : j < 4) (u : Value) (h : Blk W g 73 #[V 0, V 1, V 2, V 3]) :
    Blk (W.setCell ⟨g, j, none⟩ u) g 73 #[(fun t => if t = j then u else V t) 0, (fun t => if t = j then u else V t) 1, (fun t => if t = j then u else V t) 2, (fun t => if t = j then u else V t) 3] := by
  have := h.put j u
  rcases (by omega : j = 0 ∨ j = 1 ∨ j = 2 ∨ j = 3) with rfl | rfl | rfl | rfl
  · exact this
  · exact this
  · exact this
  · exact this
set_option maxHeartbeats 4000000 in
set_option maxRecDepth 100000 in
theorem listsA_c (h : HeldA w0 A P w m v) :
    Calls Try.prog 44 #[.pointer (some ⟨A, 0, none⟩)] w fun e w' => ∃ V : Nat → Value, e = .returned (.agg #[V 0, V 1, V 2, V 3]) ∧ (∀ t, t < 4 → w'.ownsRow w.heap.size 9 1 (V t) (v.len t) (strsV (v.rg.l t))) ∧ Below w.heap.size w w' := by
  have hm := made_c ((h.alloc (.cells #[.slice none 0 0, .slice none 0 0, .slice none 0 0, .slice none 0 0] 73)).alloc (.cells #[.slice none 0 0, .slice none 0 0, .slice none 0 0, .slice none 0 0] 73))
  have h1 := (h.alloc (.cells #[.slice none 0 0, .slice none 0 0, .slice none 0 0, .slice none 0 0] 73)).alloc (.cells #[.slice none 0 0, .slice none 0 0, .slice none 0 0, .slice none 0 0] 73)
  have hb := ((Below.refl _ w).alloc (Nat.le_refl _) (.cells #[.slice none 0 0, .slice none 0 0, .slice none 0 0, .slice none 0 0] 73)).alloc (by simp) (.cells #[.slice none 0 0, .slice none 0 0, .slice none 0 0, .slice none 0 0] 73)
  have k1 := (Blk.new w 73 #[.slice none 0 0, .slice none 0 0, .slice none 0 0, .slice none 0 0]).alloc (.cells #[.slice none 0 0, .slice none 0 0, .slice none 0 0, .slice none 0 0] 73)
  have k2 := Blk.new (w.alloc (.cells #[.slice none 0 0, .slice none 0 0, .slice none 0 0, .slice none 0 0] 73)) 73 #[.slice none 0 0, .slice none 0 0, .slice none 0 0, .slice none 0 0]
  rw [show (w.alloc (.cells #[.slice none 0 0, .slice none 0 0, .slice none 0 0, .slice none 0 0] 73)).heap.size = w.heap.size + 1 by simp] at k2
  have hlt := h.lt
  have hown := fun b (ho : m.own b) => h.h.lt b ho
  have hw0 := h.below.size
  clear h
  go_enter Try.func44, Try.ntmps44
  go_wp2_with fail
  generalize (w.alloc (.cells #[.slice none 0 0, .slice none 0 0, .slice none 0 0, .slice none 0 0] 73)).alloc (.cells #[.slice none 0 0, .slice none 0 0, .slice none 0 0, .slice none 0 0] 73) = w1 at *
  refine hm.mono ?_
  rintro e w' ⟨rfl, rfl⟩
  clear hm
  go_wp2_with fail
  go_loopw [7] (fun i wr => ∃ (j : Nat) (V : Nat → Value), j ≤ 4 ∧ i = .int .i64 j ∧ HeldA w0 A P wr m v ∧ Below w.heap.size w wr ∧ Blk wr w.heap.size 73 #[.slice none 0 0, .slice none 0 0, .slice none 0 0, .slice none 0 0] ∧ Blk wr (w.heap.size + 1) 73 #[V 0, V 1, V 2, V 3] ∧ (∀ t, t < j → wr.ownsRow w.heap.size 9 1 (V t) (v.len t) (strsV (v.rg.l t))) ∧ (∀ t, t < 4 → (V t).oneCell' = true)) (fun i _ => 4 - (intOf i).toNat)
  case atStart => exact ⟨0, fun _ => .slice none 0 0, by omega, rfl, h1, hb, k1, k2, fun t ht => absurd ht (by omega), fun _ _ => rfl⟩
  case round =>
    obtain ⟨j, V, hj, rfl, hH, hB, b1, b2, hr, hone⟩ := hrel
    clear h1 hb k1 k2
    by_cases hlt4 : j < 4
    · have d1 : decide ((j : Int) < 4) = true := decide_eq_true (by omega)
      obtain ⟨c0, c1, c2⟩ := hH.cells
      have hk := keys_h j (by rw [hH.ok.n]; exact hlt4) hH.h
      have hjl := hH.ok.len_le hlt4
      go_wp2_with fail
      refine hk.mono ?_
      rintro e w2 ⟨B, rfl, hbox, hb2, -⟩
      go_wp2_with fail
      refine (collect_c hbox (by unfold Av.len at hjl; omega)).mono ?_
      rintro e w3 ⟨val, rfl, hrow, hb3⟩
      have hbb := hb2.trans (hb3.mono hb2.size)
      have hwr := hB.size
      have hwr2 := hb2.size
      have H3 := hH.later hbb (Nat.le_refl _)
      have B3 := hB.trans (hbb.mono hwr)
      have b13 := b1.below hbb b1.lt
      have b23 := b2.below hbb b2.lt
      have hr3 := fun t ht => ownsRow_stay (hr t ht) (fun b hb => hbb.block b ((hr t ht).lt b hb).2)
      have hrow3 := own_mono hrow (Nat.le_trans hwr hwr2)
      obtain ⟨va, vc, rfl⟩ := own_form hrow
      clear hrow hbb hb3 hb2 hbox b1 b2 hr hH hB hk c0 c1 c2
      have cj : ∃ u, w3.cell? ⟨w.heap.size + 1, j, none⟩ = some u ∧ u.oneCell' = true := by
        rw [b23.cell j]
        rcases (by omega : j = 0 ∨ j = 1 ∨ j = 2 ∨ j = 3) with rfl | rfl | rfl | rfl
        · exact ⟨_, rfl, hone 0 (by omega)⟩
        · exact ⟨_, rfl, hone 1 (by omega)⟩
        · exact ⟨_, rfl, hone 2 (by omega)⟩
        · exact ⟨_, rfl, hone 3 (by omega)⟩
      obtain ⟨u, cj, hu⟩ := cj
      have fj := b23.free j
      go_wp2_with fail
      have hk : Kp (fun b => b = w.heap.size + 1) w3 (w3.setCell ⟨w.heap.size + 1, j, none⟩ (.slice va (v.rg.l j).length vc)) := (Kp.refl (fun b => b = w.heap.size + 1) w3).set (p := ⟨w.heap.size + 1, j, none⟩) rfl _
      have hfar : ∀ (val : Value) (n : Nat) (xs : List Value), w3.ownsRow w.heap.size 9 1 val n xs → (w3.setCell ⟨w.heap.size + 1, j, none⟩ (.slice va (v.rg.l j).length vc)).ownsRow w.heap.size 9 1 val n xs := fun val n xs h => ownsRow_stay h fun b hb => by
        obtain ⟨cur, hcur⟩ := owned_blk h hb
        exact hk.block b (h.lt b hb).2 (hcur.ne_ b23 (by decide))
      refine ⟨⟨j + 1, fun t => if t = j then .slice va (v.rg.l j).length vc else V t, by omega, by simp, H3.kp hk (fun b hb => by subst hb; exact ⟨by omega, fun ho => by have := hown _ ho; omega, by omega⟩), ⟨hk.os.trans B3.os, hk.tape.trans B3.tape, hk.output.trans B3.output, Nat.le_trans B3.size hk.size, fun b hb => (hk.block b (Nat.lt_of_lt_of_le hb B3.size) (by omega)).trans (B3.block b hb)⟩, b13.far (p := ⟨w.heap.size + 1, j, none⟩) (show w.heap.size ≠ w.heap.size + 1 by omega) _, blk4_set hlt4 _ b23, fun t ht => ?_, fun t ht => ?_⟩, by simp [intOf]; omega⟩
      · by_cases e : t = j
        · subst e
          simp only [if_true]
          exact hfar _ _ _ hrow3
        · simp only [if_neg e]
          exact hfar _ _ _ (hr3 t (by omega))
      · by_cases e : t = j
        · subst e
          simp only [if_true]
          rfl
        · simp only [if_neg e]
          exact hone t ht
    · obtain rfl : j = 4 := by omega
      have c0 := b2.cell 0
      have c1 := b2.cell 1
      have c2 := b2.cell 2
      have c3 := b2.cell 3
      have e0 := b1.cell 0
      have e1 := b1.cell 1
      have e2 := b1.cell 2
      have e3 := b1.cell 3
      have f0 := b1.free 0
      have f1 := b1.free 1
      have f2 := b1.free 2
      have f3 := b1.free 3
      simp only [List.getElem?_toArray, List.getElem?_cons_zero, List.getElem?_cons_succ] at c0 c1 c2 c3 e0 e1 e2 e3
      have hf : ∀ t, t < 4 → ∃ a n c, V t = .slice a n c := fun t ht => by
        obtain ⟨a, c, h⟩ := own_form (hr t ht)
        exact ⟨a, _, c, h⟩
      obtain ⟨a0, n0, k0, v0⟩ := hf 0 (by omega)
      obtain ⟨a1, n1, k1, v1⟩ := hf 1 (by omega)
      obtain ⟨a2, n2, k2, v2⟩ := hf 2 (by omega)
      obtain ⟨a3, n3, k3, v3⟩ := hf 3 (by omega)
      rw [v0] at c0
      rw [v1] at c1
      rw [v2] at c2
      rw [v3] at c3
      have HV := Lib.hid (show V 0 = _ ∧ V 1 = _ ∧ V 2 = _ ∧ V 3 = _ from ⟨v0, v1, v2, v3⟩)
      have B4 := (((b1.put 0 (.slice a0 n0 k0)).put 1 (.slice a1 n1 k1)).put 2 (.slice a2 n2 k2)).put 3 (.slice a3 n3 k3)
      have hk := ((((Kp.refl (fun b => b = w.heap.size) wr).set (p := ⟨w.heap.size, 0, none⟩) rfl (.slice a0 n0 k0)).set (p := ⟨w.heap.size, 1, none⟩) rfl (.slice a1 n1 k1)).set (p := ⟨w.heap.size, 2, none⟩) rfl (.slice a2 n2 k2)).set (p := ⟨w.heap.size, 3, none⟩) rfl (.slice a3 n3 k3)
      have HB := Lib.hid hB
      have HR := Lib.hid hr
      have HK := Lib.hid hk
      have HB4 := Lib.hid B4
      have HB1 := Lib.hid b1
      clear v0 v1 v2 v3 hf b1 b2 hB hr hk B4 hH hone
      go_wp2_with fail
      refine bodyPost_ret (results_cell_row rfl _ _ w.heap.size 73 #[.slice a0 n0 k0, .slice a1 n1 k1, .slice a2 n2 k2, .slice a3 n3 k3] _ _ rfl (by have := HB4.out; simpa [Blk] using this) Try.underlying73 rfl (by kernel_rfl)) rfl ?_
      obtain ⟨v0, v1, v2, v3⟩ := HV.out
      refine ⟨V, by rw [v0, v1, v2, v3], fun t ht => ownsRow_stay (HR.out t ht) fun b hb => ?_, ⟨HK.out.os.trans HB.out.os, HK.out.tape.trans HB.out.tape, HK.out.output.trans HB.out.output, Nat.le_trans HB.out.size HK.out.size, fun b hb => (HK.out.block b (Nat.lt_of_lt_of_le hb HB.out.size) (by omega)).trans (HB.out.block b hb)⟩⟩
      obtain ⟨cur, hcur⟩ := owned_blk (HR.out t ht) hb
      exact HK.out.block b ((HR.out t ht).lt b hb).2 (hcur.ne_ HB1.out (by decide))
end
end Go.Proofs.Ytfhlnidjneaieaa.Arcy

namespace Go.Proofs.Ytfhlnidjneaieaa.Arcy
open Go.ChangeShapes Go.WideShapes Go.ChangeAt Go.RowKit Go.Shelf
open Wirey (Blk Row str str_size str_list str_cat Kp Kept RS enc num_ok must_ok numR_enc)
open Ringy Go.ChangeMaps Go.Maps

/-- Nothing but memory behind is laid. -/
structure Hb (w0 : World) (A P : Nat) (m : Rm) (v : Av) (wb W : World) : Prop where
  h : HeldA w0 A P W m v
  b : Below wb.heap.size wb W
section
variable {w0 w x y : World} {A P : Nat} {m : Rm} {v : Av}
theorem Hb.onto (h : Hb w0 A P m v w x) (hb : Below x.heap.size x y) : Hb w0 A P m v w y := ⟨h.h.later hb (Nat.le_refl _), h.b.trans (hb.mono h.b.size)⟩
theorem Hb.alloc (h : Hb w0 A P m v w x) (o : Obj) : Hb w0 A P m v w (x.alloc o) := h.onto ((Below.refl _ x).alloc (Nat.le_refl _) o)
theorem Hb.drewN (h : Hb w0 A P m v w x) (n : Nat) : Hb w0 A P m v w (x.drewN n) := h.onto ⟨rfl, rfl, rfl, Nat.le_refl _, fun _ _ => rfl⟩
theorem Hb.all (h : Hb w0 A P m v w x) : (x.cell? ⟨A, 0, none⟩ = some (.int .i64 (v.most : Int)) ∧ x.cell? ⟨A, 1, none⟩ = some (.int .i64 (v.tgt : Int)) ∧ x.cell? ⟨A, 2, none⟩ = some (.pointer (some ⟨P, 0, none⟩))) ∧ Hb w0 A P m v w x := ⟨h.h.cells, h⟩
theorem Hb.of (h : HeldA w0 A P w m v) : Hb w0 A P m v w w := ⟨h, Below.refl _ _⟩
theorem numW {n : Nat} (hn : n < 1000000000) (W : World) : Calls Try.prog 55 #[.int .u64 (IntKind.u64.wrap (n : Int))] W fun e w' => e = .returned (.string (str (enc n))) ∧ Below W.heap.size W w' := by
  have e : IntKind.u64.wrap (n : Int) = (n : Int) := by rw [IntKind.wrap_u64]; omega
  rw [e]
  exact Wirey.num_c n (by omega) W
set_option maxHeartbeats 600000 in
set_option maxRecDepth 100000 in
theorem expA_c (h : HeldA w0 A P w m v) :
    Calls Try.prog 48 #[.pointer (some ⟨A, 0, none⟩)] w fun e w' => e = .returned (.string (str v.put)) ∧ Hb w0 A P m v w w' := by
  have hok := h.ok
  have hm := made_c h
  have hm2 := hok.m2
  have ht2 := hok.t
  have hcat := str_cat
  have hsz := str_size
  have hs := hok.wf.small
  have fm : ∀ W, Hb w0 A P m v w W → Calls Try.prog 55 #[.int .u64 (IntKind.u64.wrap (v.most : Int))] W fun e W' => e = .returned (.string (str (enc v.most))) ∧ Hb w0 A P m v w W' := fun W hW => (numW (n := v.most) (by omega) W).mono fun _ _ ⟨a, b⟩ => ⟨a, hW.onto b⟩
  have ft : ∀ W, Hb w0 A P m v w W → Calls Try.prog 55 #[.int .u64 (IntKind.u64.wrap (v.tgt : Int))] W fun e W' => e = .returned (.string (str (enc v.tgt))) ∧ Hb w0 A P m v w W' := fun W hW => (numW (n := v.tgt) (by omega) W).mono fun _ _ ⟨a, b⟩ => ⟨a, hW.onto b⟩
  have fp : ∀ W, Hb w0 A P m v w W → Calls Try.prog 22 #[.pointer (some ⟨P, 0, none⟩)] W fun e W' => e = .returned (.string (str v.rg.put)) ∧ Hb w0 A P m v w W' := fun W hW => by
    have hc := exp_c W hW.h.h.at_ hs (by rw [hok.n]; decide)
    rw [hW.h.h.R] at hc
    exact hc.mono fun _ _ ⟨a, b⟩ => ⟨a, hW.onto b⟩
  have l1 := enc_ten (n := v.most) (by omega)
  have l2 := enc_ten (n := v.tgt) (by omega)
  have l3 := hs.putTo v.rg.n (Nat.le_refl _)
  rw [hok.n] at l3
  have l3' : v.rg.put.length ≤ 20 + 400000 * 4 := by unfold Rg.put; rw [hok.n]; exact l3
  have hv1 : ¬ (9223372036854775807 < (enc v.most).length + (enc v.tgt).length) := by omega
  have hv2 : ¬ (9223372036854775807 < (enc v.most ++ enc v.tgt).length + v.rg.put.length) := by rw [List.length_append]; omega
  have hv3 : ¬ (9223372036854775807 < (enc v.most).length + (enc v.tgt).length + v.rg.put.length) := by omega
  have hpu : v.put = enc v.most ++ (enc v.tgt ++ v.rg.put) := rfl
  have HPU := Lib.hid hpu
  have h1 := Hb.of h
  clear l1 l2 l3 l3' hpu h
  go_enter Try.func48, Try.ntmps48
  go_wp2_with fail
  refine hm.mono ?_
  rintro e w' ⟨rfl, rfl⟩
  go_upto_region 3 with (fail)
  have hd : (w.drew.cell? ⟨A, 0, none⟩ = some (.int .i64 (v.most : Int)) ∧ w.drew.cell? ⟨A, 1, none⟩ = some (.int .i64 (v.tgt : Int)) ∧ w.drew.cell? ⟨A, 2, none⟩ = some (.pointer (some ⟨P, 0, none⟩))) ∧ Hb w0 A P m v w w.drew := (h1.drewN 1).all
  go_region_held3 (fun W => (W.cell? ⟨A, 0, none⟩ = some (.int .i64 (v.most : Int)) ∧ W.cell? ⟨A, 1, none⟩ = some (.int .i64 (v.tgt : Int)) ∧ W.cell? ⟨A, 2, none⟩ = some (.pointer (some ⟨P, 0, none⟩))) ∧ Hb w0 A P m v w W)
    (first | assumption | exact hd | exact Hb.all (by assumption))
    (first | (go_at_call 55; (with_reducible refine Calls.mono (fm _ (by assumption : (_ ∧ _ ∧ _) ∧ _).2) ?_); rintro e wv ⟨rfl, hwv⟩) | (go_at_call 55; (with_reducible refine Calls.mono (ft _ (by assumption : (_ ∧ _ ∧ _) ∧ _).2) ?_); rintro e wv ⟨rfl, hwv⟩) | (go_at_call 22; (with_reducible refine Calls.mono (fp _ (by assumption : (_ ∧ _ ∧ _) ∧ _).2) ?_); rintro e wv ⟨rfl, hwv⟩) | fail)
  have hZ := (by assumption : (_ ∧ _ ∧ _) ∧ Hb w0 A P m v w _).2
  clear hd
  go_wp2_with fail
  go_ret
  exact ⟨by rw [HPU.out]; rfl, hZ⟩
theorem places_c {n : Nat} (hn : n ≤ 1000) (w : World) :
    Calls Try.prog 66 #[.int .i64 (n : Int)] w fun e w' => e = .returned (.int .i64 (2 * (n : Int) + 1)) ∧ w = w' := by
  go_enter Try.func66, Try.ntmps66
  go_wp2_with fail
  go_ret
  exact ⟨rfl, rfl⟩
set_option maxHeartbeats 600000 in
set_option maxRecDepth 100000 in
theorem mayBe_c (h : HeldA w0 A P w m v) :
    Calls Try.prog 106 #[.pointer (some ⟨A, 0, none⟩)] w fun e w' => e = .returned (.bool true) ∧ Hb w0 A P m v w w' := by
  have hok := h.ok
  have h1 := Hb.of h
  have fl : ∀ W, Hb w0 A P m v w W → Calls Try.prog 32 #[.pointer (some ⟨P, 0, none⟩)] W fun e W' => e = .returned (.int .i64 4) ∧ W = W' := fun W hW => by
    have hc := lists_h hW.h.h
    rw [hok.n] at hc
    exact hc
  have fF : ∀ W, Hb w0 A P m v w W → Calls Try.prog 28 #[.pointer (some ⟨P, 0, none⟩)] W fun e W' => e = .returned (.int .i64 ((v.rg.places : Int) - (v.rg.many : Int))) ∧ Hb w0 A P m v w W' := fun W hW => (free_h hW.h.h).mono fun _ _ ⟨a, n, b⟩ => ⟨a, b ▸ hW.drewN n⟩
  have fP : ∀ W, Hb w0 A P m v w W → Calls Try.prog 66 #[.int .i64 (v.most : Int)] W fun e W' => e = .returned (.int .i64 (2 * (v.most : Int) + 1)) ∧ Hb w0 A P m v w W' := fun W hW => (places_c hok.m2 W).mono fun _ _ ⟨a, b⟩ => ⟨a, b ▸ hW⟩
  have fL : ∀ W, Hb w0 A P m v w W → Calls Try.prog 45 #[.pointer (some ⟨A, 0, none⟩)] W fun e W' => e = .returned (.int .i64 (v.kept : Int)) ∧ Hb w0 A P m v w W' := fun W hW => (lenA_c hW.h).mono fun _ _ ⟨a, o, b⟩ => ⟨a, b ▸ hW.alloc o⟩
  have f2 : ∀ W : World, Hb w0 A P m v w (W.alloc (.cells #[.int .i64 0, .int .i64 2] 3)) → Calls Try.prog 81 #[.pointer (some ⟨A, 0, none⟩), .slice (some ⟨W.heap.size, 0, none⟩) 2 2] (W.alloc (.cells #[.int .i64 0, .int .i64 2] 3)) fun e W' => e = .returned (.int .i64 (v.one : Int)) ∧ Hb w0 A P m v w W' := fun W hW => (count2 (a := 0) (b := 2) (x := 0) (y := 2) rfl rfl (by omega) (by omega) (Blk.new W _ _) hW.h).mono fun _ _ ⟨a, b⟩ => ⟨a, b ▸ hW⟩
  have f4 := count4 (Blk.new w 3 #[.int .i64 0, .int .i64 1, .int .i64 2, .int .i64 3]) (h.alloc _)
  have hm2 := hok.m2
  have b1 := hok.kept
  have b2 := hok.one
  have b3 := hok.all
  have e1 := Av.many4 hok.n
  have e2 := hok.pl
  have u1 : IntKind.i64.wrap ((v.all : Int) + ((v.rg.places : Int) - (v.rg.many : Int))) = 2 * (v.most : Int) + 1 := by rw [IntKind.wrap_i64, e1, e2]; omega
  have u2 : IntKind.i64.wrap (2 * (v.most : Int)) = 2 * (v.most : Int) := by rw [IntKind.wrap_i64]; omega
  have d1 : decide ((v.kept : Int) ≤ (v.most : Int)) = true := decide_eq_true (by omega)
  have d2 : decide ((v.one : Int) ≤ (v.most : Int)) = true := decide_eq_true (by omega)
  have d3 : decide ((v.all : Int) ≤ 2 * (v.most : Int)) = true := decide_eq_true (by omega)
  have d1N : decide (v.kept ≤ v.most) = true := decide_eq_true (by omega)
  have d2N : decide (v.one ≤ v.most) = true := decide_eq_true (by omega)
  have d3N : decide (v.all ≤ 2 * v.most) = true := decide_eq_true (by omega)
  obtain ⟨c0, c1, c2⟩ := h.cells
  clear e1 e2 b1 b2 b3 h
  go_enter Try.func106, Try.ntmps106
  go_wp2_with fail
  refine (fl _ h1).mono ?_
  rintro e w' ⟨rfl, rfl⟩
  go_wp2_with fail
  refine f4.mono ?_
  rintro e w' ⟨rfl, rfl⟩
  have h2 := h1.alloc (.cells #[.int .i64 0, .int .i64 1, .int .i64 2, .int .i64 3] 3)
  clear f4 fl c0 c1 c2
  go_upto_region 4 with (fail)
  generalize w.alloc (.cells #[.int .i64 0, .int .i64 1, .int .i64 2, .int .i64 3] 3) = w2 at *
  refine region_only 42 #[false, false, false, false, false, false, false, false, false, false, false, false, false, false, false, false, false, false, false, false, false, false, false, false, false, false, false, false, false, false, false, false, false, false, false, false, false, false, false, false, false, false] (S := (fun W => (W.cell? ⟨A, 0, none⟩ = some (.int .i64 (v.most : Int)) ∧ W.cell? ⟨A, 1, none⟩ = some (.int .i64 (v.tgt : Int)) ∧ W.cell? ⟨A, 2, none⟩ = some (.pointer (some ⟨P, 0, none⟩))) ∧ Hb w0 A P m v w W)) rfl rfl (by kernel_rfl) (h2.drewN 1).all (fun hSw => ?_)
  refine take_at 0 13 (fuel := 41) ?_ rfl rfl (by kernel_rfl) (by kernel_rfl) (by kernel_rfl) (Or.inl ⟨by rfl, ?_⟩) hSw ?_
  rotate_left
  · intro wx hSx
    (try dsimp only at hSx)
    go_split_ands
    go_simp
    (try with_reducible rfl)
  simp only [List.setIfInBounds_toArray, List.set_cons_zero, List.set_cons_succ]
  refine take_at 1 14 (fuel := 40) ?_ rfl rfl (by kernel_rfl) (by kernel_rfl) (by kernel_rfl) (Or.inl ⟨by rfl, ?_⟩) hSw ?_
  rotate_left
  · intro wx hSx
    (try dsimp only at hSx)
    go_split_ands
    go_simp
    (try with_reducible rfl)
  simp only [List.setIfInBounds_toArray, List.set_cons_zero, List.set_cons_succ]
  refine take_at 2 15 (fuel := 39) ?_ rfl rfl (by kernel_rfl) (by kernel_rfl) (by kernel_rfl) (Or.inl ⟨by rfl, ?_⟩) hSw ?_
  rotate_left
  · intro wx hSx
    (try dsimp only at hSx)
    go_split_ands
    go_simp
    (try with_reducible rfl)
  simp only [List.setIfInBounds_toArray, List.set_cons_zero, List.set_cons_succ]
  refine take_at 3 16 (fuel := 38) ?_ rfl rfl (by kernel_rfl) (by kernel_rfl) (by kernel_rfl) (Or.inl ⟨by rfl, ?_⟩) hSw ?_
  rotate_left
  · intro wx hSx
    (try dsimp only at hSx)
    go_split_ands
    go_simp
    (try with_reducible rfl)
  simp only [List.setIfInBounds_toArray, List.set_cons_zero, List.set_cons_succ]
  refine take_at 4 17 (fuel := 37) ?_ rfl rfl (by kernel_rfl) (by kernel_rfl) (by kernel_rfl) (Or.inl ⟨by rfl, ?_⟩) hSw ?_
  rotate_left
  · intro wx hSx
    (try dsimp only at hSx)
    go_split_ands
    go_simp
    (try with_reducible rfl)
  simp only [List.setIfInBounds_toArray, List.set_cons_zero, List.set_cons_succ]
  refine take_at 7 20 (fuel := 36) ?_ rfl rfl (by kernel_rfl) (by kernel_rfl) (by kernel_rfl) (Or.inl ⟨by rfl, ?_⟩) hSw ?_
  rotate_left
  · intro wx hSx
    (try dsimp only at hSx)
    go_split_ands
    go_simp
    (try with_reducible rfl)
  simp only [List.setIfInBounds_toArray, List.set_cons_zero, List.set_cons_succ]
  refine take_at 8 21 (fuel := 35) ?_ rfl rfl (by kernel_rfl) (by kernel_rfl) (by kernel_rfl) (Or.inl ⟨by rfl, ?_⟩) hSw ?_
  rotate_left
  · intro wx hSx
    (try dsimp only at hSx)
    go_split_ands
    go_simp
    (try with_reducible rfl)
  simp only [List.setIfInBounds_toArray, List.set_cons_zero, List.set_cons_succ]
  refine take_at 9 22 (fuel := 34) ?_ rfl rfl (by kernel_rfl) (by kernel_rfl) (by kernel_rfl) (Or.inl ⟨by rfl, ?_⟩) hSw ?_
  rotate_left
  · intro wx hSx
    (try dsimp only at hSx)
    go_split_ands
    go_simp
    (try with_reducible rfl)
  simp only [List.setIfInBounds_toArray, List.set_cons_zero, List.set_cons_succ]
  refine take_at 10 23 (fuel := 33) ?_ rfl rfl (by kernel_rfl) (by kernel_rfl) (by kernel_rfl) (Or.inl ⟨by rfl, ?_⟩) hSw ?_
  rotate_left
  · intro wx hSx
    (try dsimp only at hSx)
    go_split_ands
    go_simp
    (try with_reducible rfl)
  simp only [List.setIfInBounds_toArray, List.set_cons_zero, List.set_cons_succ]
  refine wpAnyH_ready (fuel := 32) (rs := [5]) (by kernel_rfl) (by simp) (AllReadyH.cons rfl (fun K hK => ?_) AllReadyH.nil)
  go_simp
  refine Calls.mono (fF _ hSw.2) ?_
  rintro e wv ⟨rfl, hwv⟩
  refine hK.out _ _ (Hb.all hwv) (fun hSw => ?_)
  clear hK K
  simp only [List.setIfInBounds_toArray, List.set_cons_zero, List.set_cons_succ]
  refine take_at 6 19 (fuel := 31) ?_ rfl rfl (by kernel_rfl) (by kernel_rfl) (by kernel_rfl) (Or.inl ⟨by rfl, ?_⟩) hSw ?_
  rotate_left
  · intro wx hSx
    (try dsimp only at hSx)
    go_split_ands
    go_simp
    (try with_reducible rfl)
  simp only [List.setIfInBounds_toArray, List.set_cons_zero, List.set_cons_succ]
  refine wpAnyH_ready (fuel := 30) (rs := [11]) (by kernel_rfl) (by simp) (AllReadyH.cons rfl (fun K hK => ?_) AllReadyH.nil)
  go_simp
  refine Calls.mono (fP _ hSw.2) ?_
  rintro e wv ⟨rfl, hwv⟩
  refine hK.out _ _ (Hb.all hwv) (fun hSw => ?_)
  clear hK K
  simp only [List.setIfInBounds_toArray, List.set_cons_zero, List.set_cons_succ]
  refine take_at 12 25 (fuel := 29) ?_ rfl rfl (by kernel_rfl) (by kernel_rfl) (by kernel_rfl) (Or.inl ⟨by rfl, ?_⟩) hSw ?_
  rotate_left
  · intro wx hSx
    (try dsimp only at hSx)
    go_split_ands
    go_simp
    (try with_reducible rfl)
  simp only [List.setIfInBounds_toArray, List.set_cons_zero, List.set_cons_succ]
  refine take_at 13 26 (fuel := 28) ?_ rfl rfl (by kernel_rfl) (by kernel_rfl) (by kernel_rfl) (Or.inl ⟨by rfl, ?_⟩) hSw ?_
  rotate_left
  · intro wx hSx
    (try dsimp only at hSx)
    go_split_ands
    go_simp
    (try with_reducible rfl)
  simp only [List.setIfInBounds_toArray, List.set_cons_zero, List.set_cons_succ]
  refine take_at 14 27 (fuel := 27) ?_ rfl rfl (by kernel_rfl) (by kernel_rfl) (by kernel_rfl) (Or.inl ⟨by rfl, ?_⟩) hSw ?_
  rotate_left
  · intro wx hSx
    (try dsimp only at hSx)
    go_split_ands
    go_simp
    (try with_reducible rfl)
  simp only [List.setIfInBounds_toArray, List.set_cons_zero, List.set_cons_succ]
  refine take_at 16 29 (fuel := 26) ?_ rfl rfl (by kernel_rfl) (by kernel_rfl) (by kernel_rfl) (Or.inl ⟨by rfl, ?_⟩) hSw ?_
  rotate_left
  · intro wx hSx
    (try dsimp only at hSx)
    go_split_ands
    go_simp
    (try with_reducible rfl)
  simp only [List.setIfInBounds_toArray, List.set_cons_zero, List.set_cons_succ]
  refine take_at 17 30 (fuel := 25) ?_ rfl rfl (by kernel_rfl) (by kernel_rfl) (by kernel_rfl) (Or.inl ⟨by rfl, ?_⟩) hSw ?_
  rotate_left
  · intro wx hSx
    (try dsimp only at hSx)
    go_split_ands
    go_simp
    (try with_reducible rfl)
  simp only [List.setIfInBounds_toArray, List.set_cons_zero, List.set_cons_succ]
  refine take_at 18 31 (fuel := 24) ?_ rfl rfl (by kernel_rfl) (by kernel_rfl) (by kernel_rfl) (Or.inl ⟨by rfl, ?_⟩) hSw ?_
  rotate_left
  · intro wx hSx
    (try dsimp only at hSx)
    go_split_ands
    go_simp
    (try with_reducible rfl)
  simp only [List.setIfInBounds_toArray, List.set_cons_zero, List.set_cons_succ]
  refine take_at 19 32 (fuel := 23) ?_ rfl rfl (by kernel_rfl) (by kernel_rfl) (by kernel_rfl) (Or.inl ⟨by rfl, ?_⟩) hSw ?_
  rotate_left
  · intro wx hSx
    (try dsimp only at hSx)
    go_split_ands
    go_simp
    (try with_reducible rfl)
  simp only [List.setIfInBounds_toArray, List.set_cons_zero, List.set_cons_succ]
  refine wpAnyH_ready (fuel := 22) (rs := [15]) (by kernel_rfl) (by simp) (AllReadyH.cons rfl (fun K hK => ?_) AllReadyH.nil)
  go_simp
  refine Calls.mono (fL _ hSw.2) ?_
  rintro e wv ⟨rfl, hwv⟩
  refine hK.out _ _ (Hb.all hwv) (fun hSw => ?_)
  clear hK K
  simp only [List.setIfInBounds_toArray, List.set_cons_zero, List.set_cons_succ]
  refine take_at 20 33 (fuel := 21) ?_ rfl rfl (by kernel_rfl) (by kernel_rfl) (by kernel_rfl) (Or.inl ⟨by rfl, ?_⟩) hSw ?_
  rotate_left
  · intro wx hSx
    (try dsimp only at hSx)
    go_split_ands
    go_simp
    (try with_reducible rfl)
  simp only [List.setIfInBounds_toArray, List.set_cons_zero, List.set_cons_succ]
  refine take_at 21 34 (fuel := 20) ?_ rfl rfl (by kernel_rfl) (by kernel_rfl) (by kernel_rfl) (Or.inl ⟨by rfl, ?_⟩) hSw ?_
  rotate_left
  · intro wx hSx
    (try dsimp only at hSx)
    go_split_ands
    go_simp
    (try with_reducible rfl)
  simp only [List.setIfInBounds_toArray, List.set_cons_zero, List.set_cons_succ]
  refine take_at 22 35 (fuel := 19) ?_ rfl rfl (by kernel_rfl) (by kernel_rfl) (by kernel_rfl) (Or.inl ⟨by rfl, ?_⟩) hSw ?_
  rotate_left
  · intro wx hSx
    (try dsimp only at hSx)
    go_split_ands
    go_simp
    (try with_reducible rfl)
  simp only [List.setIfInBounds_toArray, List.set_cons_zero, List.set_cons_succ]
  refine take_at 23 36 (fuel := 18) ?_ rfl rfl (by kernel_rfl) (by kernel_rfl) (by kernel_rfl) (Or.inl ⟨by rfl, ?_⟩) hSw ?_
  rotate_left
  · intro wx hSx
    (try dsimp only at hSx)
    go_split_ands
    go_simp
    (try with_reducible rfl)
  simp only [List.setIfInBounds_toArray, List.set_cons_zero, List.set_cons_succ]
  refine take_at 26 39 (fuel := 17) ?_ rfl rfl (by kernel_rfl) (by kernel_rfl) (by kernel_rfl) (Or.inl ⟨by rfl, ?_⟩) hSw ?_
  rotate_left
  · intro wx hSx
    (try dsimp only at hSx)
    go_split_ands
    go_simp
    (try with_reducible rfl)
  simp only [List.setIfInBounds_toArray, List.set_cons_zero, List.set_cons_succ]
  refine take_at 27 40 (fuel := 16) ?_ rfl rfl (by kernel_rfl) (by kernel_rfl) (by kernel_rfl) (Or.inl ⟨by rfl, ?_⟩) hSw ?_
  rotate_left
  · intro wx hSx
    (try dsimp only at hSx)
    go_split_ands
    go_simp
    (try with_reducible rfl)
  simp only [List.setIfInBounds_toArray, List.set_cons_zero, List.set_cons_succ]
  refine take_at 28 41 (fuel := 15) ?_ rfl rfl (by kernel_rfl) (by kernel_rfl) (by kernel_rfl) (Or.inl ⟨by rfl, ?_⟩) hSw ?_
  rotate_left
  · intro wx hSx
    (try dsimp only at hSx)
    go_split_ands
    go_simp
    (try with_reducible rfl)
  simp only [List.setIfInBounds_toArray, List.set_cons_zero, List.set_cons_succ]
  refine take_at 29 42 (fuel := 14) ?_ rfl rfl (by kernel_rfl) (by kernel_rfl) (by kernel_rfl) (Or.inl ⟨by rfl, ?_⟩) hSw ?_
  rotate_left
  · intro wx hSx
    (try dsimp only at hSx)
    go_split_ands
    go_simp
    (try with_reducible rfl)
  simp only [List.setIfInBounds_toArray, List.set_cons_zero, List.set_cons_succ]
  refine wpAnyH_ready (fuel := 13) (rs := [24]) (by kernel_rfl) (by simp) (AllReadyH.cons rfl (fun K hK => ?_) AllReadyH.nil)
  go_simp
  refine hK.out _ _ (Hb.all (hSw.2.alloc _)) (fun hSw => ?_)
  clear hK K
  simp only [List.setIfInBounds_toArray, List.set_cons_zero, List.set_cons_succ]
  refine wpAnyH_ready (fuel := 12) (rs := [25]) (by kernel_rfl) (by simp) (AllReadyH.cons rfl (fun K hK => ?_) AllReadyH.nil)
  go_simp
  refine Calls.mono (f2 _ hSw.2) ?_
  rintro e wv ⟨rfl, hwv⟩
  refine hK.out _ _ (Hb.all hwv) (fun hSw => ?_)
  clear hK K
  simp only [List.setIfInBounds_toArray, List.set_cons_zero, List.set_cons_succ]
  refine take_at 30 43 (fuel := 11) ?_ rfl rfl (by kernel_rfl) (by kernel_rfl) (by kernel_rfl) (Or.inl ⟨by rfl, ?_⟩) hSw ?_
  rotate_left
  · intro wx hSx
    (try dsimp only at hSx)
    go_split_ands
    go_simp
    (try with_reducible rfl)
  simp only [List.setIfInBounds_toArray, List.set_cons_zero, List.set_cons_succ]
  refine take_at 31 44 (fuel := 10) ?_ rfl rfl (by kernel_rfl) (by kernel_rfl) (by kernel_rfl) (Or.inl ⟨by rfl, ?_⟩) hSw ?_
  rotate_left
  · intro wx hSx
    (try dsimp only at hSx)
    go_split_ands
    go_simp
    (try with_reducible rfl)
  simp only [List.setIfInBounds_toArray, List.set_cons_zero, List.set_cons_succ]
  refine take_at 32 45 (fuel := 9) ?_ rfl rfl (by kernel_rfl) (by kernel_rfl) (by kernel_rfl) (Or.inl ⟨by rfl, ?_⟩) hSw ?_
  rotate_left
  · intro wx hSx
    (try dsimp only at hSx)
    go_split_ands
    go_simp
    (try with_reducible rfl)
  simp only [List.setIfInBounds_toArray, List.set_cons_zero, List.set_cons_succ]
  refine take_at 33 46 (fuel := 8) ?_ rfl rfl (by kernel_rfl) (by kernel_rfl) (by kernel_rfl) (Or.inl ⟨by rfl, ?_⟩) hSw ?_
  rotate_left
  · intro wx hSx
    (try dsimp only at hSx)
    go_split_ands
    go_simp
    (try with_reducible rfl)
  simp only [List.setIfInBounds_toArray, List.set_cons_zero, List.set_cons_succ]
  refine take_at 34 47 (fuel := 7) ?_ rfl rfl (by kernel_rfl) (by kernel_rfl) (by kernel_rfl) (Or.inl ⟨by rfl, ?_⟩) hSw ?_
  rotate_left
  · intro wx hSx
    (try dsimp only at hSx)
    go_split_ands
    go_simp
    (try with_reducible rfl)
  simp only [List.setIfInBounds_toArray, List.set_cons_zero, List.set_cons_succ]
  refine take_at 35 48 (fuel := 6) ?_ rfl rfl (by kernel_rfl) (by kernel_rfl) (by kernel_rfl) (Or.inl ⟨by rfl, ?_⟩) hSw ?_
  rotate_left
  · intro wx hSx
    (try dsimp only at hSx)
    go_split_ands
    go_simp
    (try with_reducible rfl)
  simp only [List.setIfInBounds_toArray, List.set_cons_zero, List.set_cons_succ]
  refine take_at 36 49 (fuel := 5) ?_ rfl rfl (by kernel_rfl) (by kernel_rfl) (by kernel_rfl) (Or.inl ⟨by rfl, ?_⟩) hSw ?_
  rotate_left
  · intro wx hSx
    (try dsimp only at hSx)
    go_split_ands
    go_simp
    (try with_reducible rfl)
  simp only [List.setIfInBounds_toArray, List.set_cons_zero, List.set_cons_succ]
  refine take_at 37 50 (fuel := 4) ?_ rfl rfl (by kernel_rfl) (by kernel_rfl) (by kernel_rfl) (Or.inl ⟨by rfl, ?_⟩) hSw ?_
  rotate_left
  · intro wx hSx
    (try dsimp only at hSx)
    go_split_ands
    go_simp
    (try with_reducible rfl)
  simp only [List.setIfInBounds_toArray, List.set_cons_zero, List.set_cons_succ]
  refine take_at 38 51 (fuel := 3) ?_ rfl rfl (by kernel_rfl) (by kernel_rfl) (by kernel_rfl) (Or.inl ⟨by rfl, ?_⟩) hSw ?_
  rotate_left
  · intro wx hSx
    (try dsimp only at hSx)
    go_split_ands
    go_simp
    (try with_reducible rfl)
  simp only [List.setIfInBounds_toArray, List.set_cons_zero, List.set_cons_succ]
  refine take_at 39 52 (fuel := 2) ?_ rfl rfl (by kernel_rfl) (by kernel_rfl) (by kernel_rfl) (Or.inl ⟨by rfl, ?_⟩) hSw ?_
  rotate_left
  · intro wx hSx
    (try dsimp only at hSx)
    go_split_ands
    go_simp
    (try with_reducible rfl)
  simp only [List.setIfInBounds_toArray, List.set_cons_zero, List.set_cons_succ]
  refine take_at 40 53 (fuel := 1) ?_ rfl rfl (by kernel_rfl) (by kernel_rfl) (by kernel_rfl) (Or.inl ⟨by rfl, ?_⟩) hSw ?_
  rotate_left
  · intro wx hSx
    (try dsimp only at hSx)
    go_split_ands
    go_simp
    (try with_reducible rfl)
  simp only [List.setIfInBounds_toArray, List.set_cons_zero, List.set_cons_succ]
  refine take_at 41 2 (fuel := 0) ?_ rfl rfl (by kernel_rfl) (by kernel_rfl) (by kernel_rfl) (Or.inl ⟨by rfl, ?_⟩) hSw ?_
  rotate_left
  · intro wx hSx
    (try dsimp only at hSx)
    go_split_ands
    go_simp
    (try with_reducible rfl)
  simp only [List.setIfInBounds_toArray, List.set_cons_zero, List.set_cons_succ]
  refine wpAnyH_done (by kernel_rfl) ⟨rfl, ?_⟩ 0
  have hZ := hSw.2
  clear hSw
  go_wp2_with fail
  go_ret
  exact ⟨rfl, hZ⟩
/-- An ARC that is held over whatever lay before. -/
theorem heldA_any {w : World} {A : Nat} {m : Rm} {v : Av} (hA : At w m v.rg) (hb : Blk w A 103 #[.int .i64 (v.most : Int), .int .i64 (v.tgt : Int), .pointer (some ⟨m.R, 0, none⟩)]) (hno : ¬ m.own A) (hok : v.Ok) : HeldA { w with heap := #[] } A m.R w m v :=
  ⟨held_any hA, hb, by simp, hno, hok⟩
set_option maxHeartbeats 600000 in
set_option maxRecDepth 100000 in
theorem takeA_c (hok : v.Ok) {R O : Nat} (w : World) (h : RS w R O v.put) :
    Calls Try.prog 93 #[.pointer (some ⟨R, 0, none⟩)] w fun e w' => ∃ A m, e = .returned (.pointer (some ⟨A, 0, none⟩)) ∧ At w' m v.rg ∧ Blk w' A 103 #[.int .i64 (v.most : Int), .int .i64 (v.tgt : Int), .pointer (some ⟨m.R, 0, none⟩)] ∧ (∀ b, m.own b → w.heap.size ≤ b) ∧ w.heap.size ≤ A ∧ ¬ m.own A ∧ RS w' R O [] ∧ Kp (fun k => k = R ∨ k = O) w w' := by
  have hm1' := hok.m1
  have hm2 := hok.m2
  have ht2 := hok.t
  have hs := hok.wf.small
  have hRl := h.rd.lt
  have hOl := h.of.lt
  have l1 := enc_ten (n := v.most) (by omega)
  have l2 := enc_ten (n := v.tgt) (by omega)
  have l3 := hs.putTo v.rg.n (Nat.le_refl _)
  rw [hok.n] at l3
  have l3' : v.rg.put.length ≤ 20 + 400000 * 4 := by unfold Rg.put; rw [hok.n]; exact l3
  have hm1 := num_ok 1000 (numR_enc (n := v.most) (by omega) (enc v.tgt ++ v.rg.put)) hm2 (by simp only [List.length_append]; omega) w h
  rw [List.drop_left] at hm1
  have hmt := fun (W : World) (h : RS W R O (enc v.tgt ++ v.rg.put)) => num_ok v.most (numR_enc (n := v.tgt) (by omega) v.rg.put) ht2 (by simp only [List.length_append]; omega) W h
  rw [List.drop_left] at hmt
  have e4 : ((1000 : Nat) : Int) = 1000 := by omega
  rw [e4] at hm1
  have HM1 := Lib.hid hm1
  have HMT := Lib.hid hmt
  have HTK := Lib.hid (fun (W : World) (h : RS W R O v.rg.put) => Ringy.take_c hok.wf (by rw [hok.n]; decide) W h)
  have hwp : decide ((0 : Int) < (v.most : Int)) = true := decide_eq_true (by omega)
  have hwpN : decide (0 < v.most) = true := decide_eq_true (by omega)
  have hw0 : ((v.most : Int) == 0) = false := by rw [beq_eq_false_iff_ne]; omega
  clear hm1 hmt e4 l1 l2 l3 l3' hs h
  go_enter Try.func93, Try.ntmps93
  go_wp2_with fail
  refine HM1.out.mono ?_
  rintro e v1 ⟨rfl, hk1, hr1⟩
  go_wp2_with fail
  refine (must_ok _).mono ?_
  rintro e w' ⟨rfl, rfl⟩
  have hz1 := hk1.size
  have hb1 := Blk.new v1 103 #[.int .i64 (v.most : Int), .int .i64 0, .pointer none]
  have hr2 := hr1.below ((Below.refl _ v1).alloc (Nat.le_refl _) (.cells #[.int .i64 (v.most : Int), .int .i64 0, .pointer none] 103))
  have hk2 := (Kp.of_kept (S := fun k => k = R ∨ k = O) hk1 (.inl rfl) (.inr rfl)).alloc (.cells #[.int .i64 (v.most : Int), .int .i64 0, .pointer none] 103)
  go_upto_region 6 with (fail)
  obtain ⟨A, hAe⟩ : ∃ A, A = v1.heap.size := ⟨_, rfl⟩
  rw [← hAe] at hb1 ⊢
  generalize v1.alloc (.cells #[.int .i64 (v.most : Int), .int .i64 0, .pointer none] 103) = v2 at *
  have hAw : w.heap.size ≤ A := by omega
  have hAR : ¬ (A = R ∨ A = O) := by omega
  clear hk1 hr1 hAe hz1
  go_wp2_with fail
  refine (HMT.out _ hr2).mono ?_
  rintro e v3 ⟨rfl, hk3, hr3⟩
  have hp3 := Kp.of_kept (S := fun k => k = R ∨ k = O) hk3 (.inl rfl) (.inr rfl)
  have hb3 := hp3.blk hb1 hAR
  have hk4 := hk2.trans hp3
  have a1 : v3.cell? ⟨A, 1, none⟩ = some (.int .i64 0) := hb3.cell 1
  have f1 := hb3.free 1
  have hb4 := hb3.put 1 (.int .i64 (v.tgt : Int))
  have hr4 : RS (v3.setCell ⟨A, 1, none⟩ (.int .i64 (v.tgt : Int))) R O v.rg.put := ⟨hr3.rd.far (p := ⟨A, 1, none⟩) (by show R ≠ A; omega) _, hr3.of.far (p := ⟨A, 1, none⟩) (by show O ≠ A; omega) _⟩
  have hk5 : Kp (fun k => k = R ∨ k = O ∨ k = A) w (v3.setCell ⟨A, 1, none⟩ (.int .i64 (v.tgt : Int))) := Kp.set (S := fun k => k = R ∨ k = O ∨ k = A) ⟨hk4.os, hk4.tape, hk4.output, hk4.size, fun k hk hn => hk4.block k hk (fun e => hn (by rcases e with e | e; exact .inl e; exact .inr (.inl e)))⟩ (p := ⟨A, 1, none⟩) (.inr (.inr rfl)) _
  clear hk2 hk3 hp3 hb3 hk4 hr2 hr3 hb1
  go_upto_region 7 with (fail)
  generalize v3.setCell ⟨A, 1, none⟩ (.int .i64 (v.tgt : Int)) = v4 at *
  clear a1 f1
  go_wp2_with fail
  refine (HTK.out _ hr4).mono ?_
  rintro e v5 ⟨m, rfl, hAt, hO, hr5, hp5⟩
  have hb5 : Blk v5 A 103 #[.int .i64 (v.most : Int), .int .i64 (v.tgt : Int), .pointer none] := hp5.blk hb4 hAR
  have a2 : v5.cell? ⟨A, 2, none⟩ = some (.pointer none) := hb5.cell 2
  have f2 := hb5.free 2
  have hAl := hb4.lt
  have hno : ¬ m.own A := fun ho => by have := hO A ho; omega
  have hb6 : Blk (v5.setCell ⟨A, 2, none⟩ (.pointer (some ⟨m.R, 0, none⟩))) A 103 #[.int .i64 (v.most : Int), .int .i64 (v.tgt : Int), .pointer (some ⟨m.R, 0, none⟩)] := hb5.put 2 _
  have hr6 : RS (v5.setCell ⟨A, 2, none⟩ (.pointer (some ⟨m.R, 0, none⟩))) R O [] := ⟨hr5.rd.far (p := ⟨A, 2, none⟩) (by show R ≠ A; omega) _, hr5.of.far (p := ⟨A, 2, none⟩) (by show O ≠ A; omega) _⟩
  have hA6 : At (v5.setCell ⟨A, 2, none⟩ (.pointer (some ⟨m.R, 0, none⟩))) m v.rg := hAt.stay (fun b hb => Below.heap_setCell v5 ⟨A, 2, none⟩ _ b (fun e => hno (by have e2 : b = A := e; rw [← e2]; exact hb)))
  have hk6 : Kp (fun k => k = R ∨ k = O ∨ k = A) w (v5.setCell ⟨A, 2, none⟩ (.pointer (some ⟨m.R, 0, none⟩))) := Kp.set (S := fun k => k = R ∨ k = O ∨ k = A) (hk5.trans ⟨hp5.os, hp5.tape, hp5.output, hp5.size, fun k hk hn => hp5.block k hk (fun e => hn (by rcases e with e | e; exact .inl e; exact .inr (.inl e)))⟩) (p := ⟨A, 2, none⟩) (.inr (.inr rfl)) _
  have hwz := hk5.size
  have hOO : ∀ b, m.own b → w.heap.size ≤ b := fun b hb => by have := hO b hb; omega
  clear hp5 hb5 hb4 hr4 hr5 hAt hk5 hO
  go_upto_region 8 with (fail)
  generalize v5.setCell ⟨A, 2, none⟩ (.pointer (some ⟨m.R, 0, none⟩)) = v6 at *
  clear a2 f2
  have hH := heldA_any hA6 hb6 hno hok
  go_wp2_with fail
  refine (mayBe_c hH).mono ?_
  rintro e v7 ⟨rfl, hB7⟩
  have hb7 := hB7.b
  have hr7 := hr6.below hb7
  have hA7 := hA6.below hb7 (Nat.le_refl _)
  have hb8 := hb6.below hb7 hb6.lt
  have hk7 : Kp (fun k => k = R ∨ k = O) w v7 := ⟨hb7.os.trans hk6.os, hb7.tape.trans hk6.tape, hb7.output.trans hk6.output, Nat.le_trans hk6.size hb7.size, fun k hk hn => (hb7.block k (Nat.lt_of_lt_of_le hk hk6.size)).trans (hk6.block k hk (fun e => by rcases e with e | e | e; exact hn (.inl e); exact hn (.inr e); omega))⟩
  clear hH hB7 hb7 hr6 hA6 hb6 hk6
  go_wp2_with fail
  refine (must_ok _).mono ?_
  rintro e w' ⟨rfl, rfl⟩
  go_wp2_with fail
  go_ret
  exact ⟨A, m, rfl, hA7, hb8, hOO, by omega, hno, hr7, hk7⟩
theorem enters_importA : ∀ (args : Array Value) (w : World), (callFunc 92 args).run Try.prog w = .ok (.enter 92 args) w := fun _ _ => by kernel_rfl
set_option maxHeartbeats 600000 in
theorem importA1_c (hok : v.Ok) {R O Q : Nat} (w : World) (h : RS w R O v.put) (hP : Blk w Q 59 #[.pointer none]) (hPR : Q ≠ R) (hPO : Q ≠ O) :
    Calls Try.prog 92 #[.pointer (some ⟨R, 0, none⟩), .pointer (some ⟨Q, 0, none⟩)] w fun e w' => e = .returned (.tuple #[]) ∧ RS w' R O [] ∧ Kp (fun k => k = R ∨ k = O ∨ k = Q) w w' ∧ ∃ A m, w'.cell? ⟨Q, 0, none⟩ = some (.pointer (some ⟨A, 0, none⟩)) ∧ At w' m v.rg ∧ Blk w' A 103 #[.int .i64 (v.most : Int), .int .i64 (v.tgt : Int), .pointer (some ⟨m.R, 0, none⟩)] ∧ (∀ b, m.own b → w.heap.size ≤ b) ∧ w.heap.size ≤ A ∧ ¬ m.own A := by
  have hPl := hP.lt
  go_enter Try.func92, Try.ntmps92
  go_wp2_with fail
  refine (takeA_c hok w h).mono ?_
  rintro e u ⟨A, m, rfl, hA, hb, hO, hAl, hno, hR, hK⟩
  have hP2 : Blk u Q 59 #[.pointer none] := hK.blk hP (by rintro (e | e); exact hPR e; exact hPO e)
  have c0 : u.cell? ⟨Q, 0, none⟩ = some (.pointer none) := hP2.cell 0
  have z0 := hP2.free 0
  have hP3 : (u.setCell ⟨Q, 0, none⟩ (.pointer (some ⟨A, 0, none⟩))).cell? ⟨Q, 0, none⟩ = some (.pointer (some ⟨A, 0, none⟩)) := (hP2.put 0 (.pointer (some ⟨A, 0, none⟩))).cell 0
  have hR3 : RS (u.setCell ⟨Q, 0, none⟩ (.pointer (some ⟨A, 0, none⟩))) R O [] := ⟨hR.rd.far (by show R ≠ Q; exact Ne.symm hPR) _, hR.of.far (by show O ≠ Q; exact Ne.symm hPO) _⟩
  have hA3 : At (u.setCell ⟨Q, 0, none⟩ (.pointer (some ⟨A, 0, none⟩))) m v.rg := hA.stay (fun b hb => Below.heap_setCell u ⟨Q, 0, none⟩ _ b (fun e => by have := hO b hb; have e2 : b = Q := e; omega))
  have hb3 := hb.far (p := ⟨Q, 0, none⟩) (by show A ≠ Q; omega) (.pointer (some ⟨A, 0, none⟩))
  have hK3 : Kp (fun k => k = R ∨ k = O ∨ k = Q) w (u.setCell ⟨Q, 0, none⟩ (.pointer (some ⟨A, 0, none⟩))) :=
    Kp.set (S := fun k => k = R ∨ k = O ∨ k = Q) ⟨hK.os, hK.tape, hK.output, hK.size, fun k hk hS => hK.block k hk (fun e => hS (by rcases e with e | e; exact .inl e; exact .inr (.inl e)))⟩ (p := ⟨Q, 0, none⟩) (.inr (.inr rfl)) _
  clear hA hb hR hK
  go_wp2_with fail
  go_end0
  exact ⟨rfl, hR3, hK3, A, m, hP3, hA3, hb3, hO, hAl, hno⟩
set_option maxHeartbeats 600000 in
theorem importA_c (hok : v.Ok) (w : World) :
    Calls Try.prog 70 #[.string (str v.put)] w fun e w' => ∃ A m, e = .returned (.tuple #[.pointer (some ⟨A, 0, none⟩), .int .i64 0]) ∧ At w' m v.rg ∧ Blk w' A 103 #[.int .i64 (v.most : Int), .int .i64 (v.tgt : Int), .pointer (some ⟨m.R, 0, none⟩)] ∧ (∀ b, m.own b → w.heap.size ≤ b) ∧ w.heap.size ≤ A ∧ ¬ m.own A ∧ Below w.heap.size w w' := by
  have hP := Blk.new w 59 #[.pointer none]
  have hb := (Below.refl w.heap.size w).alloc (Nat.le_refl _) (.cells #[.pointer none] 59)
  have hmf : ∀ (fn : Fn) (first cap : Array Value) (w : World), (Instr.makeFunc fn first cap).run Try.prog w = .ok (.func fn first cap) w := fun _ _ _ _ => rfl
  have hsz : (w.alloc (.cells #[.pointer none] 59)).heap.size = w.heap.size + 1 := by simp
  go_enter Try.func70, Try.ntmps70
  go_wp2_with fail
  generalize w.alloc (.cells #[.pointer none] 59) = w1 at hP hb hsz ⊢
  refine (Wirey.read_ok2 _ enters_importA #[.pointer (some ⟨w.heap.size, 0, none⟩)] v.put [] w1 (fun j => j = w.heap.size)
    (fun w2 => ∃ A m, w2.cell? ⟨w.heap.size, 0, none⟩ = some (.pointer (some ⟨A, 0, none⟩)) ∧ At w2 m v.rg ∧ Blk w2 A 103 #[.int .i64 (v.most : Int), .int .i64 (v.tgt : Int), .pointer (some ⟨m.R, 0, none⟩)] ∧ (∀ b, m.own b → w1.heap.size + 2 ≤ b) ∧ w1.heap.size + 2 ≤ A ∧ ¬ m.own A)
    (fun j hj => by omega) ?_ ?_).mono ?_
  · rintro w2 w3 hs ⟨A, m, h1, h2, h3, h4, h5, h6⟩ hk
    have := h3.lt
    exact ⟨A, m, (World.cell?_of_block (hk.block w.heap.size (by omega) (by omega))).trans h1, h2.kp hk (fun k hk2 => by have := h4 k hk2; omega), hk.blk h3 (by omega), h4, h5, h6⟩
  · intro R O w2 hr hb2 hR hO
    have hne := hr.ne
    have hRl := hr.rd.lt
    have hOl := hr.of.lt
    refine (importA1_c hok w2 hr (hP.below hb2 (by omega)) (by omega) (by omega)).mono ?_
    rintro e w3 ⟨rfl, h1, h2, A, m, h3, h4, h5, h6, h7, h8⟩
    exact ⟨rfl, h1, h2, A, m, h3, h4, h5, fun b hb => by have := h6 b hb; omega, by omega, h8⟩
  rintro e w2 ⟨rfl, hk, A, m, h1, h2, h3, h4, h5, h6⟩
  have hB : Below w.heap.size w w2 := ⟨hk.os.trans hb.os, hk.tape.trans hb.tape, hk.output.trans hb.output, Nat.le_trans hb.size hk.size, fun k hkl => (hk.block k (by omega) (by omega)).trans (hb.block k hkl)⟩
  rw [Wirey.endE_nil]
  go_wp2_with fail
  go_ret2
  exact ⟨A, m, rfl, h2, h3, fun b hb => by have := h4 b hb; omega, by omega, h6, hB⟩
end
end Go.Proofs.Ytfhlnidjneaieaa.Arcy

namespace Go.Proofs.Ytfhlnidjneaieaa.Arcy
open Go.ChangeShapes Go.WideShapes Go.ChangeAt Go.RowKit Go.Shelf
open Wirey (Blk Row str str_size str_list str_cat Kp)
open Ringy Go.ChangeMaps Go.Maps

section
variable {w0 w x y : World} {A P : Nat} {m m' : Rm} {v v' u u' : Av} {G G' : Nat} {vs vs' : Nat → Value} {k : Key}
theorem row_cell {B : Nat} {val : Value} {l : List Key} {p : Nat} (h : w.ownsRow B 9 1 val l.length (strsV l)) (hp : p < l.length) : ∃ g c, val = .slice (some ⟨g, 0, none⟩) l.length c ∧ w.cell? ⟨g, p, none⟩ = some (.string (str (l[p]?.getD []))) := by
  obtain ⟨g, c, hv, -, -⟩ := h.form (by omega)
  refine ⟨g, c, hv, ?_⟩
  rw [hv] at h
  rw [h.cellAt p (by omega)]
  exact strsV_at hp
set_option maxHeartbeats 1000000 in
set_option maxRecDepth 100000 in
theorem texts_c {B C : Nat} {a b : Value} {l : List Key} (hlen : l.length ≤ 100000) (w : World) (h1 : w.ownsRow B 9 1 a l.length (strsV l)) (h2 : w.ownsRow C 9 1 b l.length (strsV l)) :
    Calls Try.prog 73 #[a, b] w fun e w' => e = .returned (.bool true) ∧ Below w.heap.size w w' := by
  obtain ⟨a1, c1, hva⟩ := own_form h1
  obtain ⟨a2, c2, hvb⟩ := own_form h2
  subst hva hvb
  have htl := Wirey.toList_str
  go_enter Try.func73, Try.ntmps73
  go_wp2_with fail
  go_loopw [5] (fun i wr => ∃ j : Nat, j ≤ l.length ∧ i = .int .i64 j ∧ Below w.heap.size w wr) (fun i _ => l.length - (intOf i).toNat)
  case atStart => exact ⟨0, Nat.zero_le _, rfl, Below.refl _ _⟩
  case round =>
    obtain ⟨j, hj, rfl, hb⟩ := hrel
    by_cases hlt : j < l.length
    · have d1 : decide ((j : Int) < (l.length : Int)) = true := decide_eq_true (by omega)
      have r1 := ownsRow_stay (w' := wr) h1 fun b hb2 => hb.block b (h1.lt b hb2).2
      have r2 := ownsRow_stay (w' := wr) h2 fun b hb2 => hb.block b (h2.lt b hb2).2
      obtain ⟨g1, e1, hv1, hc1⟩ := row_cell r1 hlt
      obtain ⟨g2, e2, hv2, hc2⟩ := row_cell r2 hlt
      injection hv1 with q1 q2 q3
      injection hv2 with q4 q5 q6
      subst q1 q3 q4 q6
      have hj5 : j < 100000 := by omega
      have b1 : (0 : Int) ≤ (j : Int) := by omega
      have b2 : (j : Int) < (l.length : Int) := by omega
      generalize l[j]?.getD [] = t at *
      clear r1 r2 q2 q5 hlen
      go_upto_region 6 with (fail)
      have k1 : wr.drew.cell? ⟨g1, j, none⟩ = some (.string (str t)) := hc1
      have k2 : wr.drew.cell? ⟨g2, j, none⟩ = some (.string (str t)) := hc2
      go_quiet (fail)
      go_wp2_with fail
      go_roundw
      case rel => exact ⟨j + 1, by omega, by simp, ⟨hb.os, hb.tape, hb.output, hb.size, hb.block⟩⟩
      case measure => simp [intOf]; omega
    · obtain rfl : j = l.length := by omega
      go_wp2_with fail
      go_ret
      exact ⟨rfl, hb⟩
/-- The program's ARC and the document's: no block of the one is the other's. -/
structure Two (w0 : World) (A P : Nat) (m : Rm) (v u : Av) (G : Nat) (vs : Nat → Value) (x : World) : Prop where
  h : HeldA w0 A P x m v
  d : Dat x u G vs
  no : ∀ q, m.own q ∨ q = A → NotIn q G vs 4
theorem Two.onto (h : Two w0 A P m v u G vs x) (hb : Below x.heap.size x y) : Two w0 A P m v u G vs y := ⟨h.h.later hb (Nat.le_refl _), h.d.below hb (Nat.le_refl _), h.no⟩
theorem Two.drewN (h : Two w0 A P m v u G vs x) (n : Nat) : Two w0 A P m v u G vs (x.drewN n) := h.onto ⟨rfl, rfl, rfl, Nat.le_refl _, fun _ _ => rfl⟩
theorem Two.step (h : Two w0 A P m v u G vs x) (hu : u.Ok) (hH : HeldA w0 A P y m' v') (hS : StepA A x m y m') : Two w0 A P m' v' u G vs y := by
  have hG : ¬ (m.own G ∨ G = A) := fun ho => (h.no G ho).1 rfl
  have hn := hu.n
  have hR : ∀ i g, i < u.rg.n → (vs i).ownBlock = some g → ¬ (m.own g ∨ g = A) := fun i g hi hg ho => (h.no g ho).2 i g (by rw [← hn]; exact hi) hg rfl
  refine ⟨hH, ⟨(hS.kp.block G h.d.blk.lt hG).trans h.d.blk, fun i hi => ownsRow_stay (h.d.row i hi) fun b hb => hS.kp.block b ((h.d.row i hi).lt b hb).2 (hR i b hi hb), h.d.noG, h.d.noR⟩, fun q hq => ?_⟩
  rcases hq with hq | rfl
  · rcases hS.own q hq with h1 | h1
    · exact h.no q (.inl h1)
    · have := h.d.not_in h1
      rw [hn] at this
      exact this
  · exact h.no q (.inr rfl)
theorem Two.goes (h : Two w0 A P m v u G vs x) (hg : Goes x G vs u' G' vs' y) : Two w0 A P m v u' G' vs' y :=
  ⟨h.h.later hg.below (Nat.le_refl _), hg.rf, fun q hq => hg.not q (by rcases hq with hq | rfl; exact h.h.h.lt q hq; exact h.h.lt) (h.no q hq)⟩
end
end Go.Proofs.Ytfhlnidjneaieaa.Arcy

namespace Go.Proofs.Ytfhlnidjneaieaa.Arcy
open Go.ChangeShapes Go.WideShapes Go.ChangeAt Go.RowKit Go.Shelf
open Wirey (Blk Row str str_size str_list str_cat Kp)
open Ringy Go.ChangeMaps Go.Maps

/-- What stands while lists are held against lists. -/
structure Sm (w0 : World) (A P : Nat) (m : Rm) (v : Av) (G : Nat) (vs : Nat → Value) (w : World) (g : Nat) (V : Nat → Value) (x : World) : Prop where
  two : Two w0 A P m v v G vs x
  box : Blk x w.heap.size 63 #[.int .i64 (v.most : Int), .int .i64 (v.tgt : Int), .slice (some ⟨G, 0, none⟩) 4 4, .int .i64 (v.pl : Int)]
  all4 : Blk x g 73 #[V 0, V 1, V 2, V 3]
  rows : ∀ t, t < 4 → x.ownsRow 0 9 1 (V t) (v.len t) (strsV (v.rg.l t))
  below : Below w.heap.size w x
section
variable {w0 w x y : World} {A P g : Nat} {m m' : Rm} {v v' u u' : Av} {G G' : Nat} {vs vs' V : Nat → Value} {k : Key}
theorem Sm.onto (h : Sm w0 A P m v G vs w g V x) (hb : Below x.heap.size x y) : Sm w0 A P m v G vs w g V y :=
  ⟨h.two.onto hb, h.box.below hb h.box.lt, h.all4.below hb h.all4.lt, fun t ht => ownsRow_stay (h.rows t ht) fun b hb2 => hb.block b ((h.rows t ht).lt b hb2).2, h.below.trans (hb.mono h.below.size)⟩
theorem Sm.drewN (h : Sm w0 A P m v G vs w g V x) (n : Nat) : Sm w0 A P m v G vs w g V (x.drewN n) := h.onto ⟨rfl, rfl, rfl, Nat.le_refl _, fun _ _ => rfl⟩
theorem Sm.all (h : Sm w0 A P m v G vs w g V x) : x.cell? ⟨w.heap.size, 0, none⟩ = some (.int .i64 (v.most : Int)) ∧ x.cell? ⟨w.heap.size, 1, none⟩ = some (.int .i64 (v.tgt : Int)) ∧ x.cell? ⟨w.heap.size, 2, none⟩ = some (.slice (some ⟨G, 0, none⟩) 4 4) ∧ x.cell? ⟨w.heap.size, 3, none⟩ = some (.int .i64 (v.pl : Int)) ∧ Sm w0 A P m v G vs w g V x := ⟨h.box.cell 0, h.box.cell 1, h.box.cell 2, h.box.cell 3, h⟩
theorem Sm.at_ (h : Sm w0 A P m v G vs w g V x) {i : Nat} (hi : i < 4) : x.cell? ⟨g, i, none⟩ = some (V i) ∧ x.cell? ⟨G, i, none⟩ = some (vs i) ∧ x.cell? ⟨w.heap.size, 2, none⟩ = some (.slice (some ⟨G, 0, none⟩) 4 4) ∧ Sm w0 A P m v G vs w g V x := by
  refine ⟨?_, (h.two.d.at_ (by rw [h.two.h.ok.n]; exact hi)).1, h.box.cell 2, h⟩
  rcases (by omega : i = 0 ∨ i = 1 ∨ i = 2 ∨ i = 3) with rfl | rfl | rfl | rfl
  · exact h.all4.cell 0
  · exact h.all4.cell 1
  · exact h.all4.cell 2
  · exact h.all4.cell 3
theorem sm_texts {i : Nat} (hi : i < 4) (h : Sm w0 A P m v G vs w g V x) :
    Calls Try.prog 73 #[V i, vs i] x fun e y => e = .returned (.bool true) ∧ Sm w0 A P m v G vs w g V y := by
  have hok := h.two.h.ok
  have hl := hok.len_le hi
  refine (texts_c (l := v.rg.l i) (by unfold Av.len at hl; omega) x (h.rows i hi) (h.two.d.row i (by rw [hok.n]; exact hi))).mono ?_
  rintro e y ⟨rfl, hb⟩
  exact ⟨rfl, h.onto hb⟩
theorem sm_target (h : Sm w0 A P m v G vs w g V x) :
    Calls Try.prog 46 #[.pointer (some ⟨A, 0, none⟩)] x fun e y => e = .returned (.int .i64 (v.tgt : Int)) ∧ Sm w0 A P m v G vs w g V y := by
  refine (target_c h.two.h).mono ?_
  rintro e y ⟨rfl, rfl⟩
  exact ⟨rfl, h⟩
theorem sm_len (h : Sm w0 A P m v G vs w g V x) :
    Calls Try.prog 45 #[.pointer (some ⟨A, 0, none⟩)] x fun e y => e = .returned (.int .i64 (v.kept : Int)) ∧ Sm w0 A P m v G vs w g V y := by
  refine (lenA_c h.two.h).mono ?_
  rintro e y ⟨rfl, o, rfl⟩
  exact ⟨rfl, h.onto ((Below.refl _ x).alloc (Nat.le_refl _) o)⟩
theorem sm_rlen (h : Sm w0 A P m v G vs w g V x) :
    Calls Try.prog 74 #[.agg #[.int .i64 (v.most : Int), .int .i64 (v.tgt : Int), .slice (some ⟨G, 0, none⟩) 4 4, .int .i64 (v.pl : Int)]] x fun e y => e = .returned (.int .i64 (v.kept : Int)) ∧ Sm w0 A P m v G vs w g V y := by
  refine (rkept_c h.two.h.ok x h.two.d).mono ?_
  rintro e y ⟨rfl, hb⟩
  exact ⟨rfl, h.onto hb⟩
set_option maxHeartbeats 1000000 in
set_option maxRecDepth 100000 in
theorem sameA_c (h : Two w0 A P m v v G vs w) :
    Calls Try.prog 37 #[.pointer (some ⟨A, 0, none⟩), .agg #[.int .i64 (v.most : Int), .int .i64 (v.tgt : Int), .slice (some ⟨G, 0, none⟩) 4 4, .int .i64 (v.pl : Int)]] w fun e w' => e = .returned (.bool true) ∧ Below w.heap.size w w' := by
  have hb1 := (Below.refl _ w).alloc (Nat.le_refl _) (.cells #[.int .i64 (v.most : Int), .int .i64 (v.tgt : Int), .slice (some ⟨G, 0, none⟩) 4 4, .int .i64 (v.pl : Int)] 63)
  have h1 := h.onto hb1
  have hx1 := Blk.new w 63 #[.int .i64 (v.most : Int), .int .i64 (v.tgt : Int), .slice (some ⟨G, 0, none⟩) 4 4, .int .i64 (v.pl : Int)]
  have hL := listsA_c h1.h
  clear h
  go_enter Try.func37, Try.ntmps37
  go_upto_region 1 with (fail)
  generalize w.alloc (.cells #[.int .i64 (v.most : Int), .int .i64 (v.tgt : Int), .slice (some ⟨G, 0, none⟩) 4 4, .int .i64 (v.pl : Int)] 63) = w1 at *
  go_wp2_with fail
  refine hL.mono ?_
  rintro e w2 ⟨V, rfl, hR, hb2⟩
  have h3 : Sm w0 A P m v G vs w w2.heap.size V (w2.alloc (.cells #[V 0, V 1, V 2, V 3] 73)) := by
    have hbb := (Below.refl _ w2).alloc (Nat.le_refl _) (.cells #[V 0, V 1, V 2, V 3] 73)
    refine ⟨(h1.onto hb2).onto hbb, (hx1.below hb2 hx1.lt).alloc _, Blk.new w2 _ _, fun t ht => ownsRow_stay (own_low (hR t ht)) fun b hb3 => Below.heap_alloc w2 _ b ((hR t ht).lt b hb3).2, (hb1.trans (hb2.mono hb1.size)).trans (hbb.mono ?_)⟩
    have := hb2.size
    have := hb1.size
    omega
  obtain ⟨a0, c0, v0⟩ := own_form (hR 0 (by omega))
  obtain ⟨a1, c1, v1⟩ := own_form (hR 1 (by omega))
  obtain ⟨a2, c2, v2⟩ := own_form (hR 2 (by omega))
  obtain ⟨a3, c3, v3⟩ := own_form (hR 3 (by omega))
  rw [v0, v1, v2, v3] at h3 ⊢
  clear h1 hx1 hL hR hb2 hb1 v0 v1 v2 v3
  go_wp2_with fail
  generalize hgz : w2.heap.size = g at *
  generalize w2.alloc (.cells #[.slice a0 (v.len 0) c0, .slice a1 (v.len 1) c1, .slice a2 (v.len 2) c2, .slice a3 (v.len 3) c3] 73) = w3 at *
  clear hgz
  go_loopw [6] (fun i wr => ∃ j : Nat, j ≤ 4 ∧ i = .int .i64 j ∧ Sm w0 A P m v G vs w g V wr) (fun i _ => 4 - (intOf i).toNat)
  case atStart => exact ⟨0, by omega, rfl, h3⟩
  case round =>
    obtain ⟨j, hj, rfl, hS⟩ := hrel
    clear h3
    by_cases hlt : j < 4
    · have d1 : decide ((j : Int) < 4) = true := decide_eq_true (by omega)
      have q1 : (0 : Int) ≤ (j : Int) := by omega
      have q2 : (j : Int) < 4 := by omega
      have ft := fun W (h : Sm w0 A P m v G vs w g V W) => sm_texts hlt h
      go_upto_region 5 with (fail)
      have hd : wr.drew.cell? ⟨g, j, none⟩ = some (V j) ∧ wr.drew.cell? ⟨G, j, none⟩ = some (vs j) ∧ wr.drew.cell? ⟨w.heap.size, 2, none⟩ = some (.slice (some ⟨G, 0, none⟩) 4 4) ∧ Sm w0 A P m v G vs w g V wr.drew := (hS.drewN 1).at_ hlt
      go_region_held3 (fun W => W.cell? ⟨g, j, none⟩ = some (V j) ∧ W.cell? ⟨G, j, none⟩ = some (vs j) ∧ W.cell? ⟨w.heap.size, 2, none⟩ = some (.slice (some ⟨G, 0, none⟩) 4 4) ∧ Sm w0 A P m v G vs w g V W)
        (first | assumption | exact hd | exact Sm.at_ (by assumption) hlt)
        (first | (go_at_call 73; (with_reducible refine Calls.mono (ft _ (by assumption : _ ∧ _ ∧ _ ∧ _).2.2.2) ?_); rintro e wv ⟨rfl, hwv⟩) | fail)
      have hZ := (by assumption : _ ∧ _ ∧ _ ∧ Sm w0 A P m v G vs w g V _).2.2.2
      clear hd hS ft
      go_wp2_with fail
      go_roundw
      case rel => exact ⟨j + 1, by omega, by simp, hZ⟩
      case measure => simp [intOf]; omega
    · obtain rfl : j = 4 := by omega
      have f1 := fun W (h : Sm w0 A P m v G vs w g V W) => sm_target h
      have f2 := fun W (h : Sm w0 A P m v G vs w g V W) => sm_len h
      have f3 := fun W (h : Sm w0 A P m v G vs w g V W) => sm_rlen h
      go_upto_region 7 with (fail)
      have hd : wr.drew.cell? ⟨w.heap.size, 0, none⟩ = some (.int .i64 (v.most : Int)) ∧ wr.drew.cell? ⟨w.heap.size, 1, none⟩ = some (.int .i64 (v.tgt : Int)) ∧ wr.drew.cell? ⟨w.heap.size, 2, none⟩ = some (.slice (some ⟨G, 0, none⟩) 4 4) ∧ wr.drew.cell? ⟨w.heap.size, 3, none⟩ = some (.int .i64 (v.pl : Int)) ∧ Sm w0 A P m v G vs w g V wr.drew := (hS.drewN 1).all
      go_region_held3 (fun W => W.cell? ⟨w.heap.size, 0, none⟩ = some (.int .i64 (v.most : Int)) ∧ W.cell? ⟨w.heap.size, 1, none⟩ = some (.int .i64 (v.tgt : Int)) ∧ W.cell? ⟨w.heap.size, 2, none⟩ = some (.slice (some ⟨G, 0, none⟩) 4 4) ∧ W.cell? ⟨w.heap.size, 3, none⟩ = some (.int .i64 (v.pl : Int)) ∧ Sm w0 A P m v G vs w g V W)
        (first | assumption | exact hd | exact Sm.all (by assumption))
        (first | (go_at_call 46; (with_reducible refine Calls.mono (f1 _ (by assumption : _ ∧ _ ∧ _ ∧ _ ∧ _).2.2.2.2) ?_); rintro e wv ⟨rfl, hwv⟩) | (go_at_call 45; (with_reducible refine Calls.mono (f2 _ (by assumption : _ ∧ _ ∧ _ ∧ _ ∧ _).2.2.2.2) ?_); rintro e wv ⟨rfl, hwv⟩) | (go_at_call 74; (with_reducible refine Calls.mono (f3 _ (by assumption : _ ∧ _ ∧ _ ∧ _ ∧ _).2.2.2.2) ?_); rintro e wv ⟨rfl, hwv⟩) | fail)
      have hZ := (by assumption : _ ∧ _ ∧ _ ∧ _ ∧ Sm w0 A P m v G vs w g V _).2.2.2.2
      clear hd hS f1 f2 f3
      go_wp2_with fail
      go_ret
      exact ⟨rfl, hZ.below⟩
end
end Go.Proofs.Ytfhlnidjneaieaa.Arcy
