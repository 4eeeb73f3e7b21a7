/- slices.Collect over a list's keys, and Lists of the program's Tiny. No condition. -/
import Derived.Test.YtgfpedcdclgmiaaTinyMake
import Derived.Test.YtgfpedcdclgmiaaRingRange
namespace Go.Proofs.Ytgfpedcdclgmiaa.Tinyy
open Go.ChangeShapes Go.WideShapes Go.ChangeAt Go.RowKit Go.Shelf
open Wirey (Blk Row str str_size str_list str_take Kp)
open Ringy Go.ChangeMaps Go.Maps

attribute [local go_sem] Oper.semAt_some

theorem leave_marksP {P : Program} {fn : Func} {tmps : Array Value} {R : Ending → World → Prop} {B : Nat} {v : Value} (H : World → Prop) (hH : ∀ W D o', B ≤ D → H W → W.heap[D]? = some (.deferred (some [])) → H (W.putObj D o')) (hres : ∀ w, H w → (results fn tmps).run P w = .ok v w) (h : ∀ W', H W' → R (.returned v) W') : ∀ (ds : List Deferred) (W : World), H W → Marked B W ds →
    LeavesInM Fence.wide 5 P fn tmps R ds .returning W
  | [], W, h0, _ => ⟨v, hres W h0, h W h0⟩
  | d :: ds, W, h0, ⟨⟨D, h1, h2, h3, h4⟩, h5⟩ => by
    refine ⟨by simp, .inl ⟨D, _, h1, run_takeDeferred h3, leave_marksP H hH hres h ds _ (hH W D _ h2 h0 h3) (h5.keep fun k d' hd' hk => World.putObj_heap_other (fun e => h4 d' hd' (by rw [hk, e])))⟩⟩

/-- A range over the function that Keys handed back. -/
theorem range_keysR {g : Operand} {ps : Array Tmp} {assign body : Code} {Q : Exit → Act → World → Prop} {a : Act} {w : World} {B n₀ : Nat} {l : List Key} (hg : a.eval g = keysF B) (hbox : Boxes w n₀ B l) (hlen : l.length ≤ 1000000) (hps : ps.size = 1)
    (I : List Key → World → Prop) (Ix : Code → List Key → World → Prop) (hI : OwnFrom w.heap.size I) (hIx : ∀ c, OwnFrom w.heap.size (Ix c)) (h0 : I [] w) (a₁ : Key → Act)
    (hassign : ∀ (r : Nat) (x : Key) (W : World) (K : Act → World → Prop), K (a₁ x) W → assign.wpIn (Fence.wide.inRound r) 3 Try.prog (Exit.then K (fun _ _ _ => False)) { tmps := (ps.zip #[Value.string (str x)]).foldl (fun t (p, v) => t.setIfInBounds p v) a.tmps, defers := [] } W)
    (hbody : ∀ (v : Value), Blk w B 40 #[v] → w.ownsRow n₀ 9 1 v l.length (strsV l) → ∀ (r : Nat) (pre : List Key) (x : Key) (W : World), I pre W → pre.length < l.length → body.wpIn (Fence.wide.inRound r) 3 Try.prog (ownPostG w.heap.size (RowK v) I Ix (pre ++ [x]) W) (a₁ x) W)
    (hdone : ∀ (D : Nat) (W : World), w.heap.size ≤ D → I l W → W.heap[D]? = some (.deferred (some [])) → Q .normal { a with defers := { target := .collected D, args := #[] } :: a.defers } W)
    (hstop : ∀ (D : Nat) (c : Code) (pre : List Key) (W : World), w.heap.size ≤ D → pre <+: l → Ix c pre W → W.heap[D]? = some (.deferred (some [])) → c.wp Try.prog Q { a with defers := { target := .collected D, args := #[] } :: a.defers } W) :
    (Code.rangeFunc g ps assign body).wp Try.prog Q a w := by
  obtain ⟨v, hb, hrow⟩ := hbox.box
  have hv := hrow.lt
  refine (wpIn_wide (n := 5)).1 (wpIn_rangeFunc_ownG (F := Fence.wide) (n := 5) (w := w) rfl (by omega) (gf := 69) (lb := #[.pointer (some ⟨B, 0, none⟩)]) hg trivial (enters_of Try.func69 (by kernel_rfl) rfl)
    (values_stops 4 (by omega) B v l hlen w hb.lt (hb.cell 0) (own_low hrow)) rowK_t (rowK_b fun g e => (hv g e).2) (Below.refl _ _) (fun _ => hps.symm) I Ix hI hIx h0 a₁ hassign (hbody v hb hrow)
    (fun D ys W hD hy hI2 hK => by subst hy; exact hdone D W hD hI2 hK) (fun D c pre W hD hp hx hK => wpIn_wide.2 (hstop D c pre W hD hp hx hK)))
set_option maxHeartbeats 4000000 in
set_option maxRecDepth 100000 in
theorem append_c {n₀ B : Nat} {l : List Key} {w : World} (hbox : Boxes w n₀ B l) (hlen : l.length ≤ 100000) :
    Calls Try.prog 57 #[.slice none 0 0, keysF B] w fun e w' => ∃ val, e = .returned val ∧ w'.ownsRow w.heap.size 9 1 val l.length (strsV l) ∧ Below w.heap.size w w' := by
  obtain ⟨i0, hi0, hz0, hz1, hz2⟩ := info_parts str_info
  have bO := Boxed.new w 40 (.slice none 0 0)
  have hB0 : Below w.heap.size w (w.alloc (.cells #[.slice none 0 0] 40)) := (Below.refl _ w).alloc (Nat.le_refl _) _
  have hbox1 : Boxes (w.alloc (.cells #[.slice none 0 0] 40)) n₀ B l := by
    obtain ⟨v, hv, hr⟩ := hbox.box
    exact ⟨⟨v, hv.alloc _, hr.alloc _⟩, hbox.lo⟩
  have hvlt : ∀ v, Blk w B 40 #[v] → ∀ b, v.ownBlock = some b → b < w.heap.size := fun v hv b hb => by
    obtain ⟨v2, hv2, hr⟩ := hbox.box
    have : v = v2 := by
      unfold Blk at hv hv2
      rw [hv] at hv2
      simpa using hv2
    subst this
    exact (hr.lt b hb).2
  have hs1 : (w.alloc (.cells #[.slice none 0 0] 40)).heap.size = w.heap.size + 1 := by simp
  refine calls_marks Try.func57 rfl ?_
  simp only [Try.ntmps57, List.size_toArray, List.length_cons, List.length_nil, Nat.reduceAdd, Nat.reduceSub, Array.replicate_succ, Array.replicate_zero, List.push_toArray, List.append_toArray, List.nil_append, List.cons_append]
  go_wp2_with fail
  generalize w.alloc (.cells #[.slice none 0 0] 40) = w1 at *
  have HS1 := Lib.hid hs1
  clear hs1
  apply range_keysR (B := B) (l := l) (I := fun pre W => (∃ v, Boxed W w.heap.size 40 v ∧ W.ownsRow w.heap.size 9 1 v pre.length (strsV pre) ∧ True) ∧ Below w.heap.size w W ∧ w1.heap.size ≤ W.heap.size) (Ix := fun _ _ _ => False)
  case hg => rfl
  case hbox => exact hbox1
  case hlen => omega
  case hps => rfl
  case hI =>
    exact OwnFrom.and (Own.from (holdsRow_own w.heap.size w.heap.size 40 9 1 (fun pre : List Key => pre.length) (fun pre => strsV pre) (fun _ _ => True)) _) (ownFrom_of fun s W W' h => ⟨h.2, fun h1 h2 h3 h4 h5 => ⟨⟨h1.trans h.1.os, h2.trans h.1.tape, h3.trans h.1.output, Nat.le_trans h.1.size h4, fun k hk => (h5 k (by have := HS1.out; omega)).trans (h.1.block k hk)⟩, Nat.le_trans h.2 h4⟩⟩)
  case hIx => exact fun c s W W' row h _ _ => h
  case h0 => exact ⟨⟨_, bO, World.ownsRow_nil _ _ _ _, trivial⟩, hB0, Nat.le_refl _⟩
  case hassign =>
    intro r x W K hK
    gi_wp2
    exact hK
  case hbody =>
    rintro v hvb hvr rr pre x W ⟨⟨sv, hsv, hrow, -⟩, hBW, hle⟩ hpl
    have hc := hsv.cell
    gi_wp2_with (gi_at_builtin; refine wpListIn_append_own _ rfl _ _ 40 rfl w.heap.size 9 i0 (.string ⟨#[]⟩) 1 16 Try.underlying40 hi0 hz0 hz1 hz2 rfl (by decide) _ _ _ rfl (hrow.alloc _) ⟨W.heap.size, 0, none⟩ 1 1 [.string (str x)] rfl rfl (cell_one_new _ _ _) (by simp [Value.oneCell']) (by unfold maxLen; omega) (by omega) (by have := hBW.size; simp; omega) ?_; intro v' w2 hown' hgrow _; obtain ⟨g', cap', rfl⟩ := ownsRow_succ hown'; obtain ⟨hv1, hv2, hr2, hk2, hb2⟩ := hsv.appended (by decide) hrow hBW.size (Nat.le_refl _) hown' hgrow; have hc1 := hv1.cell; have hf1 := hv1.frozen)
    have hvb2 : ∀ b, v.ownBlock = some b → b < w.heap.size := fun b hb => hvlt v (by
      obtain ⟨v2, hv2, hr2⟩ := hbox.box
      have h2 := hB0.block B hv2.lt
      unfold Blk at hvb hv2 ⊢
      rw [← h2]
      exact hvb) b hb
    refine ⟨hk2.from _, fun g hg => hb2.block g (hvb2 g hg), ⟨_, hv2, ?_, trivial⟩, hBW.trans hb2, Nat.le_trans hle hb2.size⟩
    rw [List.length_append, List.length_singleton, strsV_snoc]
    exact hr2
  case hstop => exact fun _ _ _ _ _ _ h _ => h.elim
  case hdone =>
    rintro D W hD ⟨⟨sv, hsv, hrow, -⟩, hBW, hle⟩ hK
    have hc := hsv.cell
    go_wp2_with fail
    obtain ⟨va, vc, rfl⟩ := own_form hrow
    refine leave_marksP (B := w.heap.size) (fun W' => W'.ownsRow w.heap.size 9 1 (.slice va l.length vc) l.length (strsV l) ∧ Below w.heap.size w W') (fun W D o' hD h hK => ⟨ownsRow_putObj h.1 _ hK rfl, h.2.trans (below_put _ hD (Array.getElem?_eq_some_iff.1 hK).1)⟩) (fun _ _ => results_tmp rfl _ _ _) (fun W' h => ⟨_, rfl, h.1, h.2⟩) _ _ ⟨hrow, hBW⟩ ⟨⟨D, rfl, by have := HS1.out; omega, hK, by simp⟩, trivial⟩
theorem collect_c {n₀ B : Nat} {l : List Key} {w : World} (hbox : Boxes w n₀ B l) (hlen : l.length ≤ 100000) :
    Calls Try.prog 37 #[keysF B] w fun e w' => ∃ val, e = .returned val ∧ w'.ownsRow w.heap.size 9 1 val l.length (strsV l) ∧ Below w.heap.size w w' := by
  have h := append_c hbox hlen
  go_enter Try.func37, Try.ntmps37
  go_wp2_with fail
  refine h.mono ?_
  rintro e w' ⟨val, rfl, hr, hb⟩
  go_wp2_with fail
  go_ret
  exact ⟨_, rfl, hr, hb⟩
section
variable {w0 w w' : World} {A B P : Nat} {m : Rm} {v : Tv}
theorem blk3_set {W : World} {g : Nat} {V : Nat → Value} {j : Nat} (hj : j < 3) (u : Value) (h : Blk W g 42 #[V 0, V 1, V 2]) :
    Blk (W.setCell ⟨g, j, none⟩ u) g 42 #[(fun t => if t = j then u else V t) 0, (fun t => if t = j then u else V t) 1, (fun t => if t = j then u else V t) 2] := by
  have := h.put j u
  rcases (by omega : j = 0 ∨ j = 1 ∨ j = 2) with rfl | rfl | rfl
  · exact this
  · exact this
  · exact this
set_option maxHeartbeats 4000000 in
set_option maxRecDepth 100000 in
theorem listsT_c (h : HeldT w0 A B P w m v) :
    Calls Try.prog 16 #[.pointer (some ⟨A, 0, none⟩)] w fun e w' => ∃ V : Nat → Value, e = .returned (.agg #[V 0, V 1, V 2]) ∧ (∀ t, t < 3 → w'.ownsRow w.heap.size 9 1 (V t) (v.len t) (strsV (v.rg.l t))) ∧ Below w.heap.size w w' := by
  have hm := made_c ((h.alloc (.cells #[.slice none 0 0, .slice none 0 0, .slice none 0 0] 42)).alloc (.cells #[.slice none 0 0, .slice none 0 0, .slice none 0 0] 42))
  have h1 := (h.alloc (.cells #[.slice none 0 0, .slice none 0 0, .slice none 0 0] 42)).alloc (.cells #[.slice none 0 0, .slice none 0 0, .slice none 0 0] 42)
  have hb := ((Below.refl _ w).alloc (Nat.le_refl _) (.cells #[.slice none 0 0, .slice none 0 0, .slice none 0 0] 42)).alloc (by simp) (.cells #[.slice none 0 0, .slice none 0 0, .slice none 0 0] 42)
  have k1 := (Blk.new w 42 #[.slice none 0 0, .slice none 0 0, .slice none 0 0]).alloc (.cells #[.slice none 0 0, .slice none 0 0, .slice none 0 0] 42)
  have k2 := Blk.new (w.alloc (.cells #[.slice none 0 0, .slice none 0 0, .slice none 0 0] 42)) 42 #[.slice none 0 0, .slice none 0 0, .slice none 0 0]
  rw [show (w.alloc (.cells #[.slice none 0 0, .slice none 0 0, .slice none 0 0] 42)).heap.size = w.heap.size + 1 by simp] at k2
  have hlt := h.lt
  have hslt := h.sk.lt
  have hown := fun b (ho : m.own b) => h.h.lt b ho
  have hw0 := h.below.size
  clear h
  go_enter Try.func16, Try.ntmps16
  go_wp2_with fail
  generalize (w.alloc (.cells #[.slice none 0 0, .slice none 0 0, .slice none 0 0] 42)).alloc (.cells #[.slice none 0 0, .slice none 0 0, .slice none 0 0] 42) = w1 at *
  refine hm.mono ?_
  rintro e w' ⟨rfl, rfl⟩
  clear hm
  go_wp2_with fail
  go_loopw [7] (fun i wr => ∃ (j : Nat) (V : Nat → Value), j ≤ 3 ∧ i = .int .i64 j ∧ HeldT w0 A B P wr m v ∧ Below w.heap.size w wr ∧ Blk wr w.heap.size 42 #[.slice none 0 0, .slice none 0 0, .slice none 0 0] ∧ Blk wr (w.heap.size + 1) 42 #[V 0, V 1, V 2] ∧ (∀ t, t < j → wr.ownsRow w.heap.size 9 1 (V t) (v.len t) (strsV (v.rg.l t))) ∧ (∀ t, t < 3 → (V t).oneCell' = true)) (fun i _ => 3 - (intOf i).toNat)
  case atStart => exact ⟨0, fun _ => .slice none 0 0, by omega, rfl, h1, hb, k1, k2, fun t ht => absurd ht (by omega), fun _ _ => rfl⟩
  case round =>
    obtain ⟨j, V, hj, rfl, hH, hB, b1, b2, hr, hone⟩ := hrel
    clear h1 hb k1 k2
    by_cases hlt3 : j < 3
    · have d1 : decide ((j : Int) < 3) = true := decide_eq_true (by omega)
      obtain ⟨c0, c1, c2⟩ := hH.cells
      have hk := keys_h j (by rw [hH.fit.n]; exact hlt3) hH.h
      have hjl := hH.fit.len_le hlt3
      go_wp2_with fail
      refine hk.mono ?_
      rintro e w2 ⟨BB, rfl, hbox, hb2, -⟩
      go_wp2_with fail
      refine (collect_c hbox (by unfold Tv.len at hjl; omega)).mono ?_
      rintro e w3 ⟨val, rfl, hrow, hb3⟩
      have hbb := hb2.trans (hb3.mono hb2.size)
      have hwr := hB.size
      have hwr2 := hb2.size
      have H3 := hH.later hbb (Nat.le_refl _)
      have B3 := hB.trans (hbb.mono hwr)
      have b13 := b1.below hbb b1.lt
      have b23 := b2.below hbb b2.lt
      have hr3 := fun t ht => ownsRow_stay (hr t ht) (fun b hb => hbb.block b ((hr t ht).lt b hb).2)
      have hrow3 := own_mono hrow (Nat.le_trans hwr hwr2)
      obtain ⟨va, vc, rfl⟩ := own_form hrow
      clear hrow hbb hb3 hb2 hbox b1 b2 hr hH hB hk c0 c1 c2
      have cj : ∃ u, w3.cell? ⟨w.heap.size + 1, j, none⟩ = some u ∧ u.oneCell' = true := by
        rw [b23.cell j]
        rcases (by omega : j = 0 ∨ j = 1 ∨ j = 2) with rfl | rfl | rfl
        · exact ⟨_, rfl, hone 0 (by omega)⟩
        · exact ⟨_, rfl, hone 1 (by omega)⟩
        · exact ⟨_, rfl, hone 2 (by omega)⟩
      obtain ⟨u, cj, hu⟩ := cj
      have fj := b23.free j
      go_wp2_with fail
      have hk : Kp (fun b => b = w.heap.size + 1) w3 (w3.setCell ⟨w.heap.size + 1, j, none⟩ (.slice va (v.rg.l j).length vc)) := (Kp.refl (fun b => b = w.heap.size + 1) w3).set (p := ⟨w.heap.size + 1, j, none⟩) rfl _
      have hfar : ∀ (val : Value) (n : Nat) (xs : List Value), w3.ownsRow w.heap.size 9 1 val n xs → (w3.setCell ⟨w.heap.size + 1, j, none⟩ (.slice va (v.rg.l j).length vc)).ownsRow w.heap.size 9 1 val n xs := fun val n xs h => ownsRow_stay h fun b hb => by
        obtain ⟨cur, hcur⟩ := owned_blk h hb
        exact hk.block b (h.lt b hb).2 (hcur.ne_ b23 (by decide))
      refine ⟨⟨j + 1, fun t => if t = j then .slice va (v.rg.l j).length vc else V t, by omega, by simp, H3.kp hk (fun b hb => by subst hb; exact ⟨by omega, fun ho => by have := hown _ ho; omega, by omega, fun ho => by have := ho.2; omega⟩), ⟨hk.os.trans B3.os, hk.tape.trans B3.tape, hk.output.trans B3.output, Nat.le_trans B3.size hk.size, fun b hb => (hk.block b (Nat.lt_of_lt_of_le hb B3.size) (by omega)).trans (B3.block b hb)⟩, b13.far (p := ⟨w.heap.size + 1, j, none⟩) (show w.heap.size ≠ w.heap.size + 1 by omega) _, blk3_set hlt3 _ b23, fun t ht => ?_, fun t ht => ?_⟩, by simp [intOf]; omega⟩
      · by_cases e : t = j
        · subst e
          simp only [if_true]
          exact hfar _ _ _ hrow3
        · simp only [if_neg e]
          exact hfar _ _ _ (hr3 t (by omega))
      · by_cases e : t = j
        · subst e
          simp only [if_true]
          rfl
        · simp only [if_neg e]
          exact hone t ht
    · obtain rfl : j = 3 := by omega
      have c0 := b2.cell 0
      have c1 := b2.cell 1
      have c2 := b2.cell 2
      have e0 := b1.cell 0
      have e1 := b1.cell 1
      have e2 := b1.cell 2
      have f0 := b1.free 0
      have f1 := b1.free 1
      have f2 := b1.free 2
      simp only [List.getElem?_toArray, List.getElem?_cons_zero, List.getElem?_cons_succ] at c0 c1 c2 e0 e1 e2
      have hf : ∀ t, t < 3 → ∃ a n c, V t = .slice a n c := fun t ht => by
        obtain ⟨a, c, h⟩ := own_form (hr t ht)
        exact ⟨a, _, c, h⟩
      obtain ⟨a0, n0, k0, v0⟩ := hf 0 (by omega)
      obtain ⟨a1, n1, k1, v1⟩ := hf 1 (by omega)
      obtain ⟨a2, n2, k2, v2⟩ := hf 2 (by omega)
      rw [v0] at c0
      rw [v1] at c1
      rw [v2] at c2
      have HV := Lib.hid (show V 0 = _ ∧ V 1 = _ ∧ V 2 = _ from ⟨v0, v1, v2⟩)
      have B4 := ((b1.put 0 (.slice a0 n0 k0)).put 1 (.slice a1 n1 k1)).put 2 (.slice a2 n2 k2)
      have hk := (((Kp.refl (fun b => b = w.heap.size) wr).set (p := ⟨w.heap.size, 0, none⟩) rfl (.slice a0 n0 k0)).set (p := ⟨w.heap.size, 1, none⟩) rfl (.slice a1 n1 k1)).set (p := ⟨w.heap.size, 2, none⟩) rfl (.slice a2 n2 k2)
      have HB := Lib.hid hB
      have HR := Lib.hid hr
      have HK := Lib.hid hk
      have HB4 := Lib.hid B4
      have HB1 := Lib.hid b1
      clear v0 v1 v2 hf b1 b2 hB hr hk B4 hH hone
      go_wp2_with fail
      refine bodyPost_ret (results_cell_row rfl _ _ w.heap.size 42 #[.slice a0 n0 k0, .slice a1 n1 k1, .slice a2 n2 k2] _ _ rfl (by have := HB4.out; simpa [Blk] using this) Try.underlying42 rfl (by kernel_rfl)) rfl ?_
      obtain ⟨v0, v1, v2⟩ := HV.out
      refine ⟨V, by rw [v0, v1, v2], fun t ht => ownsRow_stay (HR.out t ht) fun b hb => ?_, ⟨HK.out.os.trans HB.out.os, HK.out.tape.trans HB.out.tape, HK.out.output.trans HB.out.output, Nat.le_trans HB.out.size HK.out.size, fun b hb => (HK.out.block b (Nat.lt_of_lt_of_le hb HB.out.size) (by omega)).trans (HB.out.block b hb)⟩⟩
      obtain ⟨cur, hcur⟩ := owned_blk (HR.out t ht) hb
      exact HK.out.block b ((HR.out t ht).lt b hb).2 (hcur.ne_ HB1.out (by decide))
end
end Go.Proofs.Ytgfpedcdclgmiaa.Tinyy
