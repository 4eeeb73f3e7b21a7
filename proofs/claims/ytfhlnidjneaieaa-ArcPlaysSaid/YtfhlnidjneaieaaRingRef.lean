/- The document's own lists in memory: a row of slices of texts; what asks them: which list a key is in, how many keys there are, a list's last key. No condition. -/
import Derived.Test.YtfhlnidjneaieaaRingMany
namespace Go.Proofs.Ytfhlnidjneaieaa.Ringy
open Go.ChangeShapes Go.WideShapes Go.ChangeAt Go.RowKit
open Wirey (Blk Row str str_size str_list Kp)
open Go.ChangeMaps Go.Maps

/-- The document's lists: row G, the slices vs; none of their blocks is O's. -/
structure RefAt (w : World) (O : Nat → Prop) (G : Nat) (vs : Nat → Value) (r : Rg) : Prop where
  blk : Blk w G 49 ((List.range r.n).map vs).toArray
  row : ∀ i, i < r.n → w.ownsRow 0 9 1 (vs i) (r.l i).length (strsV (r.l i))
  noG : ¬ O G
  noR : ∀ i g, i < r.n → (vs i).ownBlock = some g → ¬ O g
def refV (G : Nat) (r : Rg) : Value := .agg #[.slice (some ⟨G, 0, none⟩) r.n r.n, .int .i64 (r.places : Int)]
section
variable {w w' : World} {O : Nat → Prop} {G : Nat} {vs : Nat → Value} {r : Rg}
theorem RefAt.stay (h : RefAt w O G vs r) (hb : ∀ b, b < w.heap.size → ¬ O b → w'.heap[b]? = w.heap[b]?) : RefAt w' O G vs r :=
  ⟨(hb _ h.blk.lt h.noG).trans h.blk, fun i hi => ownsRow_stay (h.row i hi) fun b e => hb b ((h.row i hi).lt b e).2 (h.noR i b hi e), h.noG, h.noR⟩
theorem RefAt.below (h : RefAt w O G vs r) {C : Nat} (hb : Below C w w') (hC : w.heap.size ≤ C) : RefAt w' O G vs r := h.stay fun b hb2 _ => hb.block b (Nat.lt_of_lt_of_le hb2 hC)
theorem RefAt.alloc (h : RefAt w O G vs r) (o : Obj) : RefAt (w.alloc o) O G vs r := h.stay fun b hb _ => Below.heap_alloc w o b hb
theorem RefAt.drewN (h : RefAt w O G vs r) (n : Nat) : RefAt (w.drewN n) O G vs r := h.stay fun _ _ _ => rfl
theorem RefAt.step {m m' : Rm} (h : RefAt w m.own G vs r) (hS : Step w m w' m') : RefAt w' m'.own G vs r := by
  have h1 := h.stay (w' := w') fun b hb hn => hS.kp.block b hb hn
  refine ⟨h1.blk, h1.row, fun ho => ?_, fun i g hi hg ho => ?_⟩
  · rcases hS.own G ho with h2 | h2
    · exact h.noG h2
    · have := h.blk.lt; omega
  · rcases hS.own g ho with h2 | h2
    · exact h.noR i g hi hg h2
    · have := ((h.row i hi).lt g hg).2; omega
theorem RefAt.free {O' : Nat → Prop} (h : RefAt w O G vs r) (hG : ¬ O' G) (hR : ∀ i g, i < r.n → (vs i).ownBlock = some g → ¬ O' g) : RefAt w O' G vs r := ⟨h.blk, h.row, hG, hR⟩
theorem RefAt.at_ (h : RefAt w O G vs r) {i : Nat} (hi : i < r.n) : w.cell? ⟨G, i, none⟩ = some (vs i) ∧ ∃ a c, vs i = .slice a (r.l i).length c := by
  refine ⟨?_, own_form (h.row i hi)⟩
  rw [h.blk.cell i, List.getElem?_toArray, List.getElem?_map, List.getElem?_range hi]
  rfl
theorem RefAt.text (h : RefAt w O G vs r) {i p : Nat} (hi : i < r.n) (hp : p < (r.l i).length) : ∃ g c, vs i = .slice (some ⟨g, 0, none⟩) (r.l i).length c ∧ w.cell? ⟨g, p, none⟩ = some (.string (str ((r.l i)[p]?.getD []))) := by
  obtain ⟨g, c, hv, -, -⟩ := (h.row i hi).form (by omega)
  have hr := h.row i hi
  rw [hv] at hr
  refine ⟨g, c, hv, ?_⟩
  rw [hr.cellAt p (by omega)]
  exact strsV_at hp

/-- The first list that has a key. -/
def Rg.idx (r : Rg) (k : Key) : Nat := ((List.range r.n).find? fun i => decide (k ∈ r.l i)).getD 0
theorem Rg.idx_yes {k : Key} {i : Nat} (hi : i < r.n) (hk : k ∈ r.l i) (hb : ∀ t, t < i → k ∉ r.l t) : r.idx k = i ∧ r.hasB k = true := by
  refine ⟨?_, Rg.hasB_iff.2 ⟨i, hi, hk⟩⟩
  unfold Rg.idx
  have : (List.range r.n).find? (fun i => decide (k ∈ r.l i)) = some i := by
    rw [List.find?_range_eq_some]
    exact ⟨decide_eq_true hk, List.mem_range.2 hi, fun j hj => by simp [hb j hj]⟩
  rw [this]
  rfl
theorem Rg.idx_no {k : Key} (hb : ∀ t, t < r.n → k ∉ r.l t) : r.idx k = 0 ∧ r.hasB k = false := by
  have h1 : r.hasB k = false := by
    rw [Bool.eq_false_iff]
    intro e
    obtain ⟨i, hi, hk⟩ := Rg.hasB_iff.1 e
    exact hb i hi hk
  refine ⟨?_, h1⟩
  unfold Rg.idx
  have : (List.range r.n).find? (fun i => decide (k ∈ r.l i)) = none := by
    rw [List.find?_eq_none]
    intro x hx
    simp [hb x (List.mem_range.1 hx)]
  rw [this]
  rfl
theorem mem_pos_of {l : List Key} {p : Nat} (hp : p < l.length) : l[p]?.getD [] ∈ l := by rw [List.getElem?_eq_getElem hp]; exact List.getElem_mem hp
theorem not_mem_of {l : List Key} {k : Key} (h : ∀ p, p < l.length → l[p]?.getD [] ≠ k) : k ∉ l := fun hk => by
  obtain ⟨p, hp, e⟩ := List.getElem_of_mem hk
  exact h p hp (by rw [List.getElem?_eq_getElem hp]; exact e)

set_option maxHeartbeats 2000000 in
set_option maxRecDepth 100000 in
theorem rin_c (k : Key) (hn : r.n ≤ 100) (hlen : ∀ i, i < r.n → (r.l i).length < 100000) (w : World) (h : RefAt w O G vs r) :
    Calls Try.prog 18 #[refV G r, .string (str k)] w fun e w' => e = .returned (.tuple #[.int .i64 (r.idx k : Int), .bool (r.hasB k)]) ∧ Below w.heap.size w w' := by
  unfold refV
  have hb := (Below.refl _ w).alloc (Nat.le_refl _) (.cells #[.slice (some ⟨G, 0, none⟩) r.n r.n, .int .i64 (r.places : Int)] 29)
  have hX := Blk.new w 29 #[.slice (some ⟨G, 0, none⟩) r.n r.n, .int .i64 (r.places : Int)]
  have h1 := h.alloc (.cells #[.slice (some ⟨G, 0, none⟩) r.n r.n, .int .i64 (r.places : Int)] 29)
  have htl := Wirey.toList_str
  go_enter Try.func18, Try.ntmps18
  go_wp2_with fail
  generalize w.alloc (.cells #[.slice (some ⟨G, 0, none⟩) r.n r.n, .int .i64 (r.places : Int)] 29) = w1 at *
  have x0 := hX.cell 0
  simp only [List.getElem?_toArray, List.getElem?_cons_zero] at x0
  go_loopw [6] (fun i wr => ∃ j : Nat, j ≤ r.n ∧ i = .int .i64 j ∧ wr = w1 ∧ ∀ t, t < j → k ∉ r.l t) (fun i _ => r.n - (intOf i).toNat)
  case atStart => exact ⟨0, Nat.zero_le _, rfl, rfl, fun t ht => by omega⟩
  case round =>
    obtain ⟨j, hj, rfl, rfl, hnot⟩ := hrel
    have HNOT := Lib.hid hnot
    clear hnot
    by_cases hlt : j < r.n
    · obtain ⟨c1, a1, cc, hv⟩ := h1.at_ hlt
      have hll := hlen j hlt
      have HV := Lib.hid hv
      rw [hv] at c1
      clear hv
      have hltd : decide ((j : Int) < (r.n : Int)) = true := decide_eq_true (by omega)
      go_wp2_with fail
      go_loopw [7] (fun i wr' => ∃ p : Nat, p ≤ (r.l j).length ∧ i = .int .i64 p ∧ wr' = wr ∧ ∀ t, t < p → (r.l j)[t]?.getD [] ≠ k) (fun i _ => (r.l j).length - (intOf i).toNat)
      case atStart => exact ⟨0, Nat.zero_le _, rfl, rfl, fun t ht => by omega⟩
      case round =>
        obtain ⟨p, hp, rfl, hwr, hnp⟩ := hrel
        have HNP := Lib.hid hnp
        clear hnp
        subst hwr
        by_cases hpl : p < (r.l j).length
        · obtain ⟨g, c2, hv2, hc2⟩ := h1.text hlt hpl
          have hv3 := HV.out
          rw [hv2] at hv3
          injection hv3 with e1 _ e3
          subst e1 e3
          have HMEM := Lib.hid (mem_pos_of hpl)
          generalize hx : (r.l j)[p]?.getD [] = x at *
          have HX := Lib.hid hx
          clear hx
          by_cases e : x = k
          · have e2 : (x == k) = true := beq_iff_eq.2 e
            have hfin := Rg.idx_yes (r := r) hlt (e ▸ HMEM.out) HNOT.out
            have HF := Lib.hid hfin
            clear e hfin
            go_wp2_with fail
            go_ret2
            refine ⟨?_, hb⟩
            show Ending.returned (.tuple #[.int .i64 (j : Int), .bool true]) = _
            rw [HF.out.1, HF.out.2]
          · have e2 : (x == k) = false := beq_eq_false_iff_ne.2 e
            have HE := Lib.hid e
            clear e
            go_wp2_with fail
            go_roundw
            case rel => exact ⟨p + 1, by omega, rfl, by simp, fun t ht => by
              rcases Nat.lt_or_ge t p with h2 | h2
              · exact HNP.out t h2
              · rw [show t = p from by omega, HX.out]; exact HE.out⟩
            case measure => simp [intOf]; omega
        · have hnm := not_mem_of (l := r.l j) (k := k) fun t ht => HNP.out t (by omega)
          have HNM := Lib.hid hnm
          clear hnm
          go_wp2_with fail
          go_roundw
          case rel => exact ⟨j + 1, by omega, rfl, by simp, fun t ht => by
            rcases Nat.lt_or_ge t j with h2 | h2
            · exact HNOT.out t h2
            · rw [show t = j from by omega]; exact HNM.out⟩
          case measure => simp [intOf]; omega
    · have hfin := Rg.idx_no (r := r) (k := k) fun t ht => HNOT.out t (by omega)
      have HF := Lib.hid hfin
      clear hfin
      go_wp2_with fail
      go_ret2
      refine ⟨?_, hb⟩
      show Ending.returned (.tuple #[.int .i64 0, .bool false]) = _
      rw [HF.out.1, HF.out.2]
      rfl

theorem sumTo_step (f : Nat → Nat) (j : Nat) : sumTo f (j + 1) = sumTo f j + f j := rfl
theorem sumTo_bound {f : Nat → Nat} (h : ∀ i, f i < 100000) : ∀ j, j ≤ 100 → sumTo f j ≤ j * 100000
  | 0, _ => Nat.le_refl _
  | j + 1, hj => by have := sumTo_bound h j (by omega); have := h j; show sumTo f j + f j ≤ _; omega
set_option maxHeartbeats 2000000 in
set_option maxRecDepth 100000 in
theorem rmany_c (hn : r.n ≤ 100) (hlen : ∀ i, (r.l i).length < 100000) (w : World) (h : RefAt w O G vs r) :
    Calls Try.prog 60 #[refV G r] w fun e w' => e = .returned (.int .i64 (r.many : Int)) ∧ Below w.heap.size w w' := by
  unfold refV
  have hb := (Below.refl _ w).alloc (Nat.le_refl _) (.cells #[.slice (some ⟨G, 0, none⟩) r.n r.n, .int .i64 (r.places : Int)] 29)
  have hX := Blk.new w 29 #[.slice (some ⟨G, 0, none⟩) r.n r.n, .int .i64 (r.places : Int)]
  have h1 := h.alloc (.cells #[.slice (some ⟨G, 0, none⟩) r.n r.n, .int .i64 (r.places : Int)] 29)
  go_enter Try.func60, Try.ntmps60
  go_wp2_with fail
  generalize w.alloc (.cells #[.slice (some ⟨G, 0, none⟩) r.n r.n, .int .i64 (r.places : Int)] 29) = w1 at *
  have x0 := hX.cell 0
  simp only [List.getElem?_toArray, List.getElem?_cons_zero] at x0
  go_loopw [3, 4] (fun s i wr => ∃ j : Nat, j ≤ r.n ∧ i = .int .i64 j ∧ wr = w1 ∧ s = .int .i64 (sumTo (fun i => (r.l i).length) j : Int)) (fun _ i _ => r.n - (intOf i).toNat)
  case atStart => exact ⟨0, Nat.zero_le _, rfl, rfl, rfl⟩
  case round =>
    obtain ⟨j, hj, rfl, rfl, rfl⟩ := hrel
    by_cases hlt : j < r.n
    · obtain ⟨c1, a1, cc, hv⟩ := h1.at_ hlt
      have hll := hlen j
      rw [hv] at c1
      clear hv
      have hst := Lib.hid (sumTo_step (fun i => (r.l i).length) j)
      have hsb := sumTo_bound (f := fun i => (r.l i).length) hlen j (by omega)
      generalize sumTo (fun i => (r.l i).length) j = q at *
      go_wp2_with fail
      go_roundw
      case rel => exact ⟨j + 1, by omega, rfl, by simp, by rw [hst.out]; simp⟩
      case measure => simp [intOf]; omega
    · obtain rfl : j = r.n := by omega
      go_wp2_with fail
      go_ret
      exact ⟨rfl, hb⟩
theorem getLast_get {l : List Key} {s : List Key} {k : Key} (h : l = s ++ [k]) : l[l.length - 1]?.getD [] = k := by rw [h]; simp
/-- A list's last key, or none. -/
def Rg.back (r : Rg) (i : Nat) : Key := (r.l i)[(r.l i).length - 1]?.getD []
set_option maxHeartbeats 2000000 in
set_option maxRecDepth 100000 in
theorem rback_c {i : Nat} (hi : i < r.n) (hlen : (r.l i).length < 100000) (w : World) (h : RefAt w O G vs r) :
    Calls Try.prog 64 #[refV G r, .int .i64 (i : Int)] w fun e w' => e = .returned (.tuple #[.string (str (r.back i)), .bool (decide (0 < (r.l i).length))]) ∧ Below w.heap.size w w' := by
  unfold refV
  have hb := (Below.refl _ w).alloc (Nat.le_refl _) (.cells #[.slice (some ⟨G, 0, none⟩) r.n r.n, .int .i64 (r.places : Int)] 29)
  have hX := Blk.new w 29 #[.slice (some ⟨G, 0, none⟩) r.n r.n, .int .i64 (r.places : Int)]
  have h1 := h.alloc (.cells #[.slice (some ⟨G, 0, none⟩) r.n r.n, .int .i64 (r.places : Int)] 29)
  have d1 : ¬ (r.n : Int) ≤ (i : Int) := by omega
  have d2 : decide ((r.n : Int) ≤ (i : Int)) = false := decide_eq_false d1
  by_cases hz : 0 < (r.l i).length
  · obtain ⟨g, c2, hv2, hc2⟩ := h1.text hi (p := (r.l i).length - 1) (by omega)
    obtain ⟨c1, _⟩ := h1.at_ hi
    rw [hv2] at c1
    clear hv2
    have hbk : (r.l i)[(r.l i).length - 1]?.getD [] = r.back i := rfl
    rw [hbk] at hc2
    clear hbk
    generalize r.back i = k at *
    generalize (r.l i).length = n at *
    have hz0 : ((n : Int) == 0) = false := by rw [beq_eq_false_iff_ne]; omega
    have hz1 : decide (0 < n) = true := decide_eq_true hz
    rw [hz1]
    clear hz1
    have hn1 : ((n : Int) - 1) = ((n - 1 : Nat) : Int) := by omega
    go_enter Try.func64, Try.ntmps64
    go_wp2_with fail
    generalize w.alloc (.cells #[.slice (some ⟨G, 0, none⟩) r.n r.n, .int .i64 (r.places : Int)] 29) = w1 at *
    have x0 := hX.cell 0
    simp only [List.getElem?_toArray, List.getElem?_cons_zero] at x0
    go_wp2_with fail
    go_region
    go_wp2_with fail
    go_ret2
    exact ⟨rfl, hb.os, hb.tape, hb.output, hb.size, hb.block⟩
  · obtain ⟨c1, a1, cc, hv⟩ := h1.at_ hi
    rw [hv] at c1
    clear hv
    have hl : r.l i = [] := List.eq_nil_of_length_eq_zero (by omega)
    have hbk : r.back i = [] := by unfold Rg.back; rw [hl]; rfl
    rw [hbk, hl]
    rw [hl] at c1
    clear hbk hl hz
    go_enter Try.func64, Try.ntmps64
    go_wp2_with fail
    generalize w.alloc (.cells #[.slice (some ⟨G, 0, none⟩) r.n r.n, .int .i64 (r.places : Int)] 29) = w1 at *
    have x0 := hX.cell 0
    simp only [List.getElem?_toArray, List.getElem?_cons_zero] at x0
    go_wp2_with fail
    go_ret2
    exact ⟨rfl, hb⟩
end
end Go.Proofs.Ytfhlnidjneaieaa.Ringy
