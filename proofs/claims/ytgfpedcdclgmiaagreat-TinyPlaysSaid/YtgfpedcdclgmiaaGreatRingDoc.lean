/- The document's lists: dropping, laying in front, laying behind, their bytes. No condition. -/
import Derived.Test.YtgfpedcdclgmiaaGreatRingMany
import Derived.Deep.RegionHeld3
import Derived.Test.YtgfpedcdclgmiaaGreatWireEnc
namespace Go.Proofs.YtgfpedcdclgmiaaGreat.Ringy
open Go.ChangeShapes Go.WideShapes Go.ChangeAt Go.RowKit
open Wirey (Blk Row str str_size str_list Kp)
open Go.ChangeMaps Go.Maps

/-- The document's lists: row G, the slices vs; none of their blocks is O's. -/
structure RefAt (w : World) (O : Nat → Prop) (G : Nat) (vs : Nat → Value) (r : Rg) : Prop where
  blk : Blk w G 61 ((List.range r.n).map vs).toArray
  row : ∀ i, i < r.n → w.ownsRow 0 9 1 (vs i) (r.l i).length (strsV (r.l i))
  noG : ¬ O G
  noR : ∀ i g, i < r.n → (vs i).ownBlock = some g → ¬ O g
def refV (G : Nat) (r : Rg) : Value := .agg #[.slice (some ⟨G, 0, none⟩) r.n r.n, .int .i64 (r.places : Int)]
section
variable {w w' : World} {O : Nat → Prop} {G : Nat} {vs : Nat → Value} {r : Rg}
theorem RefAt.stay (h : RefAt w O G vs r) (hb : ∀ b, b < w.heap.size → ¬ O b → w'.heap[b]? = w.heap[b]?) : RefAt w' O G vs r :=
  ⟨(hb _ h.blk.lt h.noG).trans h.blk, fun i hi => ownsRow_stay (h.row i hi) fun b e => hb b ((h.row i hi).lt b e).2 (h.noR i b hi e), h.noG, h.noR⟩
theorem RefAt.below (h : RefAt w O G vs r) {C : Nat} (hb : Below C w w') (hC : w.heap.size ≤ C) : RefAt w' O G vs r := h.stay fun b hb2 _ => hb.block b (Nat.lt_of_lt_of_le hb2 hC)
theorem RefAt.alloc (h : RefAt w O G vs r) (o : Obj) : RefAt (w.alloc o) O G vs r := h.stay fun b hb _ => Below.heap_alloc w o b hb
theorem RefAt.drewN (h : RefAt w O G vs r) (n : Nat) : RefAt (w.drewN n) O G vs r := h.stay fun _ _ _ => rfl
theorem RefAt.step {m m' : Rm} (h : RefAt w m.own G vs r) (hS : Step w m w' m') : RefAt w' m'.own G vs r := by
  have h1 := h.stay (w' := w') fun b hb hn => hS.kp.block b hb hn
  refine ⟨h1.blk, h1.row, fun ho => ?_, fun i g hi hg ho => ?_⟩
  · rcases hS.own G ho with h2 | h2
    · exact h.noG h2
    · have := h.blk.lt; omega
  · rcases hS.own g ho with h2 | h2
    · exact h.noR i g hi hg h2
    · have := ((h.row i hi).lt g hg).2; omega
theorem RefAt.free {O' : Nat → Prop} (h : RefAt w O G vs r) (hG : ¬ O' G) (hR : ∀ i g, i < r.n → (vs i).ownBlock = some g → ¬ O' g) : RefAt w O' G vs r := ⟨h.blk, h.row, hG, hR⟩
theorem RefAt.at_ (h : RefAt w O G vs r) {i : Nat} (hi : i < r.n) : w.cell? ⟨G, i, none⟩ = some (vs i) ∧ ∃ a c, vs i = .slice a (r.l i).length c := by
  refine ⟨?_, own_form (h.row i hi)⟩
  rw [h.blk.cell i, List.getElem?_toArray, List.getElem?_map, List.getElem?_range hi]
  rfl
theorem RefAt.text (h : RefAt w O G vs r) {i p : Nat} (hi : i < r.n) (hp : p < (r.l i).length) : ∃ g c, vs i = .slice (some ⟨g, 0, none⟩) (r.l i).length c ∧ w.cell? ⟨g, p, none⟩ = some (.string (str ((r.l i)[p]?.getD []))) := by
  obtain ⟨g, c, hv, -, -⟩ := (h.row i hi).form (by omega)
  have hr := h.row i hi
  rw [hv] at hr
  refine ⟨g, c, hv, ?_⟩
  rw [hr.cellAt p (by omega)]
  exact strsV_at hp

/-- The first list that has a key. -/
def Rg.idx (r : Rg) (k : Key) : Nat := ((List.range r.n).find? fun i => decide (k ∈ r.l i)).getD 0
theorem Rg.idx_yes {k : Key} {i : Nat} (hi : i < r.n) (hk : k ∈ r.l i) (hb : ∀ t, t < i → k ∉ r.l t) : r.idx k = i ∧ r.hasB k = true := by
  refine ⟨?_, Rg.hasB_iff.2 ⟨i, hi, hk⟩⟩
  unfold Rg.idx
  have : (List.range r.n).find? (fun i => decide (k ∈ r.l i)) = some i := by
    rw [List.find?_range_eq_some]
    exact ⟨decide_eq_true hk, List.mem_range.2 hi, fun j hj => by simp [hb j hj]⟩
  rw [this]
  rfl
theorem Rg.idx_no {k : Key} (hb : ∀ t, t < r.n → k ∉ r.l t) : r.idx k = 0 ∧ r.hasB k = false := by
  have h1 : r.hasB k = false := by
    rw [Bool.eq_false_iff]
    intro e
    obtain ⟨i, hi, hk⟩ := Rg.hasB_iff.1 e
    exact hb i hi hk
  refine ⟨?_, h1⟩
  unfold Rg.idx
  have : (List.range r.n).find? (fun i => decide (k ∈ r.l i)) = none := by
    rw [List.find?_eq_none]
    intro x hx
    simp [hb x (List.mem_range.1 hx)]
  rw [this]
  rfl
theorem mem_pos_of {l : List Key} {p : Nat} (hp : p < l.length) : l[p]?.getD [] ∈ l := by rw [List.getElem?_eq_getElem hp]; exact List.getElem_mem hp
theorem not_mem_of {l : List Key} {k : Key} (h : ∀ p, p < l.length → l[p]?.getD [] ≠ k) : k ∉ l := fun hk => by
  obtain ⟨p, hp, e⟩ := List.getElem_of_mem hk
  exact h p hp (by rw [List.getElem?_eq_getElem hp]; exact e)

set_option maxHeartbeats 2000000 in
set_option maxRecDepth 100000 in
theorem rin_c (k : Key) (hn : r.n ≤ 100) (hlen : ∀ i, i < r.n → (r.l i).length < 100000) (w : World) (h : RefAt w O G vs r) :
    Calls Tryz.prog 41 #[refV G r, .string (str k)] w fun e w' => e = .returned (.tuple #[.int .i64 (r.idx k : Int), .bool (r.hasB k)]) ∧ Below w.heap.size w w' := by
  unfold refV
  have hb := (Below.refl _ w).alloc (Nat.le_refl _) (.cells #[.slice (some ⟨G, 0, none⟩) r.n r.n, .int .i64 (r.places : Int)] 34)
  have hX := Blk.new w 34 #[.slice (some ⟨G, 0, none⟩) r.n r.n, .int .i64 (r.places : Int)]
  have h1 := h.alloc (.cells #[.slice (some ⟨G, 0, none⟩) r.n r.n, .int .i64 (r.places : Int)] 34)
  have htl := Wirey.toList_str
  go_enter Tryz.func41, Tryz.ntmps41
  go_wp2_with fail
  generalize w.alloc (.cells #[.slice (some ⟨G, 0, none⟩) r.n r.n, .int .i64 (r.places : Int)] 34) = w1 at *
  have x0 := hX.cell 0
  simp only [List.getElem?_toArray, List.getElem?_cons_zero] at x0
  go_loopw [6] (fun i wr => ∃ j : Nat, j ≤ r.n ∧ i = .int .i64 j ∧ wr = w1 ∧ ∀ t, t < j → k ∉ r.l t) (fun i _ => r.n - (intOf i).toNat)
  case atStart => exact ⟨0, Nat.zero_le _, rfl, rfl, fun t ht => by omega⟩
  case round =>
    obtain ⟨j, hj, rfl, rfl, hnot⟩ := hrel
    have HNOT := Lib.hid hnot
    clear hnot
    by_cases hlt : j < r.n
    · obtain ⟨c1, a1, cc, hv⟩ := h1.at_ hlt
      have hll := hlen j hlt
      have HV := Lib.hid hv
      rw [hv] at c1
      clear hv
      have hltd : decide ((j : Int) < (r.n : Int)) = true := decide_eq_true (by omega)
      go_wp2_with fail
      go_loopw [7] (fun i wr' => ∃ p : Nat, p ≤ (r.l j).length ∧ i = .int .i64 p ∧ wr' = wr ∧ ∀ t, t < p → (r.l j)[t]?.getD [] ≠ k) (fun i _ => (r.l j).length - (intOf i).toNat)
      case atStart => exact ⟨0, Nat.zero_le _, rfl, rfl, fun t ht => by omega⟩
      case round =>
        obtain ⟨p, hp, rfl, hwr, hnp⟩ := hrel
        have HNP := Lib.hid hnp
        clear hnp
        subst hwr
        by_cases hpl : p < (r.l j).length
        · obtain ⟨g, c2, hv2, hc2⟩ := h1.text hlt hpl
          have hv3 := HV.out
          rw [hv2] at hv3
          injection hv3 with e1 _ e3
          subst e1 e3
          have HMEM := Lib.hid (mem_pos_of hpl)
          generalize hx : (r.l j)[p]?.getD [] = x at *
          have HX := Lib.hid hx
          clear hx
          by_cases e : x = k
          · have e2 : (x == k) = true := beq_iff_eq.2 e
            have hfin := Rg.idx_yes (r := r) hlt (e ▸ HMEM.out) HNOT.out
            have HF := Lib.hid hfin
            clear e hfin
            go_wp2_with fail
            go_ret2
            refine ⟨?_, hb⟩
            show Ending.returned (.tuple #[.int .i64 (j : Int), .bool true]) = _
            rw [HF.out.1, HF.out.2]
          · have e2 : (x == k) = false := beq_eq_false_iff_ne.2 e
            have HE := Lib.hid e
            clear e
            go_wp2_with fail
            go_roundw
            case rel => exact ⟨p + 1, by omega, rfl, by simp, fun t ht => by
              rcases Nat.lt_or_ge t p with h2 | h2
              · exact HNP.out t h2
              · rw [show t = p from by omega, HX.out]; exact HE.out⟩
            case measure => simp [intOf]; omega
        · have hnm := not_mem_of (l := r.l j) (k := k) fun t ht => HNP.out t (by omega)
          have HNM := Lib.hid hnm
          clear hnm
          go_wp2_with fail
          go_roundw
          case rel => exact ⟨j + 1, by omega, rfl, by simp, fun t ht => by
            rcases Nat.lt_or_ge t j with h2 | h2
            · exact HNOT.out t h2
            · rw [show t = j from by omega]; exact HNM.out⟩
          case measure => simp [intOf]; omega
    · have hfin := Rg.idx_no (r := r) (k := k) fun t ht => HNOT.out t (by omega)
      have HF := Lib.hid hfin
      clear hfin
      go_wp2_with fail
      go_ret2
      refine ⟨?_, hb⟩
      show Ending.returned (.tuple #[.int .i64 0, .bool false]) = _
      rw [HF.out.1, HF.out.2]
      rfl

theorem sumTo_step (f : Nat → Nat) (j : Nat) : sumTo f (j + 1) = sumTo f j + f j := rfl
theorem sumTo_bound {f : Nat → Nat} (h : ∀ i, f i < 100000) : ∀ j, j ≤ 100 → sumTo f j ≤ j * 100000
  | 0, _ => Nat.le_refl _
  | j + 1, hj => by have := sumTo_bound h j (by omega); have := h j; show sumTo f j + f j ≤ _; omega
set_option maxHeartbeats 2000000 in
set_option maxRecDepth 100000 in
theorem rmany_c (hn : r.n ≤ 100) (hlen : ∀ i, (r.l i).length < 100000) (w : World) (h : RefAt w O G vs r) :
    Calls Tryz.prog 72 #[refV G r] w fun e w' => e = .returned (.int .i64 (r.many : Int)) ∧ Below w.heap.size w w' := by
  unfold refV
  have hb := (Below.refl _ w).alloc (Nat.le_refl _) (.cells #[.slice (some ⟨G, 0, none⟩) r.n r.n, .int .i64 (r.places : Int)] 34)
  have hX := Blk.new w 34 #[.slice (some ⟨G, 0, none⟩) r.n r.n, .int .i64 (r.places : Int)]
  have h1 := h.alloc (.cells #[.slice (some ⟨G, 0, none⟩) r.n r.n, .int .i64 (r.places : Int)] 34)
  go_enter Tryz.func72, Tryz.ntmps72
  go_wp2_with fail
  generalize w.alloc (.cells #[.slice (some ⟨G, 0, none⟩) r.n r.n, .int .i64 (r.places : Int)] 34) = w1 at *
  have x0 := hX.cell 0
  simp only [List.getElem?_toArray, List.getElem?_cons_zero] at x0
  go_loopw [3, 4] (fun s i wr => ∃ j : Nat, j ≤ r.n ∧ i = .int .i64 j ∧ wr = w1 ∧ s = .int .i64 (sumTo (fun i => (r.l i).length) j : Int)) (fun _ i _ => r.n - (intOf i).toNat)
  case atStart => exact ⟨0, Nat.zero_le _, rfl, rfl, rfl⟩
  case round =>
    obtain ⟨j, hj, rfl, rfl, rfl⟩ := hrel
    by_cases hlt : j < r.n
    · obtain ⟨c1, a1, cc, hv⟩ := h1.at_ hlt
      have hll := hlen j
      rw [hv] at c1
      clear hv
      have hst := Lib.hid (sumTo_step (fun i => (r.l i).length) j)
      have hsb := sumTo_bound (f := fun i => (r.l i).length) hlen j (by omega)
      generalize sumTo (fun i => (r.l i).length) j = q at *
      go_wp2_with fail
      go_roundw
      case rel => exact ⟨j + 1, by omega, rfl, by simp, by rw [hst.out]; simp⟩
      case measure => simp [intOf]; omega
    · obtain rfl : j = r.n := by omega
      go_wp2_with fail
      go_ret
      exact ⟨rfl, hb⟩
theorem getLast_get {l : List Key} {s : List Key} {k : Key} (h : l = s ++ [k]) : l[l.length - 1]?.getD [] = k := by rw [h]; simp
/-- A list's last key, or none. -/
def Rg.back (r : Rg) (i : Nat) : Key := (r.l i)[(r.l i).length - 1]?.getD []
set_option maxHeartbeats 2000000 in
set_option maxRecDepth 100000 in
theorem rback_c {i : Nat} (hi : i < r.n) (hlen : (r.l i).length < 100000) (w : World) (h : RefAt w O G vs r) :
    Calls Tryz.prog 63 #[refV G r, .int .i64 (i : Int)] w fun e w' => e = .returned (.tuple #[.string (str (r.back i)), .bool (decide (0 < (r.l i).length))]) ∧ Below w.heap.size w w' := by
  unfold refV
  have hb := (Below.refl _ w).alloc (Nat.le_refl _) (.cells #[.slice (some ⟨G, 0, none⟩) r.n r.n, .int .i64 (r.places : Int)] 34)
  have hX := Blk.new w 34 #[.slice (some ⟨G, 0, none⟩) r.n r.n, .int .i64 (r.places : Int)]
  have h1 := h.alloc (.cells #[.slice (some ⟨G, 0, none⟩) r.n r.n, .int .i64 (r.places : Int)] 34)
  have d1 : ¬ (r.n : Int) ≤ (i : Int) := by omega
  have d2 : decide ((r.n : Int) ≤ (i : Int)) = false := decide_eq_false d1
  by_cases hz : 0 < (r.l i).length
  · obtain ⟨g, c2, hv2, hc2⟩ := h1.text hi (p := (r.l i).length - 1) (by omega)
    obtain ⟨c1, _⟩ := h1.at_ hi
    rw [hv2] at c1
    clear hv2
    have hbk : (r.l i)[(r.l i).length - 1]?.getD [] = r.back i := rfl
    rw [hbk] at hc2
    clear hbk
    generalize r.back i = k at *
    generalize (r.l i).length = n at *
    have hz0 : ((n : Int) == 0) = false := by rw [beq_eq_false_iff_ne]; omega
    have hz1 : decide (0 < n) = true := decide_eq_true hz
    rw [hz1]
    clear hz1
    have hn1 : ((n : Int) - 1) = ((n - 1 : Nat) : Int) := by omega
    go_enter Tryz.func63, Tryz.ntmps63
    go_wp2_with fail
    generalize w.alloc (.cells #[.slice (some ⟨G, 0, none⟩) r.n r.n, .int .i64 (r.places : Int)] 34) = w1 at *
    have x0 := hX.cell 0
    simp only [List.getElem?_toArray, List.getElem?_cons_zero] at x0
    go_wp2_with fail
    go_region
    go_wp2_with fail
    go_ret2
    exact ⟨rfl, hb.os, hb.tape, hb.output, hb.size, hb.block⟩
  · obtain ⟨c1, a1, cc, hv⟩ := h1.at_ hi
    rw [hv] at c1
    clear hv
    have hl : r.l i = [] := List.eq_nil_of_length_eq_zero (by omega)
    have hbk : r.back i = [] := by unfold Rg.back; rw [hl]; rfl
    rw [hbk, hl]
    rw [hl] at c1
    clear hbk hl hz
    go_enter Tryz.func63, Tryz.ntmps63
    go_wp2_with fail
    generalize w.alloc (.cells #[.slice (some ⟨G, 0, none⟩) r.n r.n, .int .i64 (r.places : Int)] 34) = w1 at *
    have x0 := hX.cell 0
    simp only [List.getElem?_toArray, List.getElem?_cons_zero] at x0
    go_wp2_with fail
    go_ret2
    exact ⟨rfl, hb⟩
end
end Go.Proofs.YtgfpedcdclgmiaaGreat.Ringy

namespace Go.Proofs.YtgfpedcdclgmiaaGreat.Ringy
open Go.ChangeShapes Go.WideShapes Go.ChangeAt Go.RowKit
open Wirey (Blk Row str str_size str_list Kp)
open Go.ChangeMaps Go.Maps

def nilV : Value := .slice none 0 0
theorem strs_info : (Tryz.prog.info? 61).map (fun i => (i.zero, i.size, i.bytes)) = some (some (.slice none 0 0), 1, 24) := by kernel_rfl
theorem mk_rows {n : Nat} (h : n ≤ 100) (w : World) : (Instr.makeSlice 32 (.int .i64 (n : Int)) (.int .i64 (n : Int))).run Tryz.prog w = .ok (.slice (some ⟨w.heap.size, 0, none⟩) n n) (w.alloc (.cells ((List.range n).map fun _ => nilV).toArray 61)) := by
  obtain ⟨i0, hi, hz0, hz1, hz2⟩ := info_parts strs_info
  have h := run_make (P := Tryz.prog) w 32 61 i0 (.slice none 0 0) Tryz.underlying32 hi hz0 .i64 .i64 (n : Int) (n : Int) (by omega) (by omega) (by rw [hz2]; omega) (by omega)
  rw [h, hz1, Int.toNat_natCast, Nat.mul_one]
  have e : madeCells (Value.slice none 0 0).cells n = ((List.range n).map fun _ => nilV).toArray := by
    show madeCells #[Value.slice none 0 0] n = _
    apply Array.ext'
    rw [toList_madeCells_one]
    apply List.ext_getElem?
    intro t
    rw [List.getElem?_replicate]
    by_cases ht : t < n
    · rw [if_pos ht]; simp [ht, nilV]
    · rw [if_neg ht]; simp [ht]
  rw [e]
section
variable {w w' : World} {O O' : Nat → Prop} {G : Nat} {vs : Nat → Value} {r r' : Rg}
theorem RefAt.less (h : RefAt w O G vs r) (hO : ∀ b, O' b → O b) : RefAt w O' G vs r := ⟨h.blk, h.row, fun e => h.noG (hO _ e), fun i g hi hg e => h.noR i g hi hg (hO _ e)⟩
def updV (vs : Nat → Value) (j : Nat) (v : Value) (t : Nat) : Value := if t = j then v else vs t
/-- One list turned. -/
theorem RefAt.set (h : RefAt w O G vs r) {j : Nat} (hj : j < r.n) {v : Value} {l : List Key} (hv : w.ownsRow 0 9 1 v l.length (strsV l)) (hO : ∀ g, v.ownBlock = some g → ¬ O g) (hn : r'.n = r.n) (hl : ∀ i, i < r.n → r'.l i = if i = j then l else r.l i) :
    RefAt (w.setCell ⟨G, j, none⟩ v) O G (updV vs j v) r' := by
  have hrow : ∀ (u : Value) (n : Nat) (xs : List Value), w.ownsRow 0 9 1 u n xs → (w.setCell ⟨G, j, none⟩ v).ownsRow 0 9 1 u n xs := fun u n xs hu =>
    ownsRow_stay hu fun b hb => far (by obtain ⟨c, hc⟩ := owned_blk hu hb; exact hc.ne_ h.blk (by decide)) _
  refine ⟨?_, fun i hi => ?_, h.noG, fun i g hi hg => ?_⟩
  · have := h.blk.put j v
    have e : ((List.range r.n).map vs).toArray.setIfInBounds j v = ((List.range r'.n).map (updV vs j v)).toArray := by
      rw [hn, List.setIfInBounds_toArray]
      congr 1
      apply List.ext_getElem?
      intro t
      rw [List.getElem?_set]
      by_cases ht : t < r.n
      · by_cases e : j = t
        · subst e; rw [if_pos rfl, if_pos (by simpa using ht)]; simp [ht, updV]
        · rw [if_neg e]; simp only [List.getElem?_map, List.getElem?_range ht]; simp only [Option.map_some, updV]; rw [if_neg (fun h => e h.symm)]
      · rw [if_neg (by omega)]; simp [ht]
    rw [e] at this
    exact this
  · rw [hn] at hi
    rw [hl i hi]
    unfold updV
    by_cases e : i = j
    · rw [if_pos e, if_pos e]; exact hrow _ _ _ hv
    · rw [if_neg e, if_neg e]; exact hrow _ _ _ (h.row i hi)
  · rw [hn] at hi
    unfold updV at hg
    by_cases e : i = j
    · rw [if_pos e] at hg; exact hO g hg
    · rw [if_neg e] at hg; exact h.noR i g hi hg
end

set_option maxHeartbeats 2000000 in
theorem rnew_c {n places : Nat} (h2 : n ≤ 100) (w : World) :
    Calls Tryz.prog 23 #[.int .i64 (n : Int), .int .i64 (places : Int)] w fun e w' => ∃ G vs, e = .returned (refV G (Rg.new n places)) ∧ RefAt w' (fun b => b < w.heap.size) G vs (Rg.new n places) ∧ Below w.heap.size w w' := by
  have hmk := fun W => mk_rows h2 W
  have hs1 : (w.alloc (.cells #[.slice none 0 0, .int .i64 0] 34)).heap.size = w.heap.size + 1 := by simp
  have hX := Blk.new w 34 #[.slice none 0 0, .int .i64 0]
  have hb := (Below.refl _ w).alloc (Nat.le_refl _) (.cells #[.slice none 0 0, .int .i64 0] 34)
  go_enter Tryz.func23, Tryz.ntmps23
  go_upto_region 1 with (fail)
  generalize w.alloc (.cells #[.slice none 0 0, .int .i64 0] 34) = w1 at *
  have hY := Blk.new w1 61 ((List.range n).map fun _ => nilV).toArray
  have hX2 := hX.alloc (.cells ((List.range n).map fun _ => nilV).toArray 61)
  have hb2 := hb.alloc (by omega) (.cells ((List.range n).map fun _ => nilV).toArray 61)
  have HMK := Lib.hid (hmk w1)
  clear hmk
  generalize hw2 : w1.alloc (.cells ((List.range n).map fun _ => nilV).toArray 61) = w2 at *
  have hmk := HMK.out
  clear HMK hw2
  have q0 := hX2.cell 0
  have q1 := hX2.cell 1
  have z0 := hX2.free 0
  have z1 := hX2.free 1
  simp only [List.getElem?_toArray, List.getElem?_cons_zero, List.getElem?_cons_succ] at q0 q1
  have hX3 := (hX2.put 0 (.slice (some ⟨w1.heap.size, 0, none⟩) n n)).put 1 (.int .i64 (places : Int))
  have hne : w1.heap.size ≠ w.heap.size := by omega
  have hY3 := (hY.far (p := ⟨w.heap.size, 0, none⟩) hne (.slice (some ⟨w1.heap.size, 0, none⟩) n n)).far (p := ⟨w.heap.size, 1, none⟩) hne (.int .i64 (places : Int))
  have hb3 := (hb2.setCell (p := ⟨w.heap.size, 0, none⟩) (Nat.le_refl _) (.slice (some ⟨w1.heap.size, 0, none⟩) n n)).setCell (p := ⟨w.heap.size, 1, none⟩) (Nat.le_refl _) (.int .i64 (places : Int))
  have HS := Lib.hid hs1
  clear hs1 hX hY hX2 hb hb2
  go_wp2_with fail
  generalize (w2.setCell ⟨w.heap.size, 0, none⟩ (.slice (some ⟨w1.heap.size, 0, none⟩) n n)).setCell ⟨w.heap.size, 1, none⟩ (.int .i64 (places : Int)) = w3 at *
  have p0 := hX3.cell 0
  have p1 := hX3.cell 1
  simp only [List.setIfInBounds_toArray, List.set_cons_zero, List.set_cons_succ, List.getElem?_toArray, List.getElem?_cons_zero, List.getElem?_cons_succ] at p0 p1
  (try simp only [Exit.inBlock, Exit.then])
  refine bodyPost_ret (v := .agg #[.slice (some ⟨w1.heap.size, 0, none⟩) n n, .int .i64 (places : Int)]) (by simp [results, Tryz.results23, go_sem, p0, p1]) rfl ?_
  refine ⟨w1.heap.size, fun _ => nilV, rfl, ⟨hY3, fun i hi => World.ownsRow_nil _ _ _ _, by have := HS.out; omega, fun i g hi hg => by cases hg⟩, hb3⟩

theorem RefAt.alike {w : World} {O : Nat → Prop} {G : Nat} {vs : Nat → Value} {r r' : Rg} (h : RefAt w O G vs r) (hn : r'.n = r.n) (hl : ∀ i, i < r.n → r'.l i = r.l i) : RefAt w O G vs r' :=
  ⟨by rw [hn]; exact h.blk, fun i hi => by rw [hn] at hi; rw [hl i hi]; exact h.row i hi, h.noG, fun i g hi hg => by rw [hn] at hi; exact h.noR i g hi hg⟩
theorem refV_alike {G : Nat} {r r' : Rg} (hn : r'.n = r.n) (hp : r'.places = r.places) : refV G r' = refV G r := by unfold refV; rw [hn, hp]
def Rg.dropTo (r : Rg) (k : Key) (j : Nat) : Rg := ⟨r.n, r.places, fun t => if t < j then strike k (r.l t) else []⟩
section
variable {O : Nat → Prop} {G : Nat} {vs : Nat → Value} {r : Rg}
set_option maxHeartbeats 4000000 in
set_option maxRecDepth 100000 in
theorem rdrop_c (k : Key) (hn : r.n ≤ 100) (hlen : ∀ i, i < r.n → (r.l i).length < 100000) (w : World) (h : RefAt w O G vs r) :
    Calls Tryz.prog 64 #[refV G r, .string (str k)] w fun e w' => ∃ G' vs', e = .returned (refV G' (r.drop k)) ∧ RefAt w' (fun b => b < w.heap.size) G' vs' (r.drop k) ∧ Below w.heap.size w w' ∧ ∀ i, i < r.n → ∃ g c, vs' i = .slice (some ⟨g, 0, none⟩) (strike k (r.l i)).length c := by
  have htl := Wirey.toList_str
  replace h : RefAt w (fun b => w.heap.size ≤ b) G vs r := h.free (Nat.not_le_of_lt h.blk.lt) (fun i g hi hg => Nat.not_le_of_lt ((h.row i hi).lt g hg).2)
  obtain ⟨i0, hi0, hz0, hz1, hz2⟩ := info_parts str_info
  have hX := Blk.new w 34 #[.slice (some ⟨G, 0, none⟩) r.n r.n, .int .i64 (r.places : Int)]
  have hs1 : (w.alloc (.cells #[.slice (some ⟨G, 0, none⟩) r.n r.n, .int .i64 (r.places : Int)] 34)).heap.size = w.heap.size + 1 := by simp
  have hY := Blk.new (w.alloc (.cells #[.slice (some ⟨G, 0, none⟩) r.n r.n, .int .i64 (r.places : Int)] 34)) 34 #[.slice none 0 0, .int .i64 0]
  rw [hs1] at hY
  have hX2 := hX.alloc (.cells #[.slice none 0 0, .int .i64 0] 34)
  have h2 := (h.alloc (.cells #[.slice (some ⟨G, 0, none⟩) r.n r.n, .int .i64 (r.places : Int)] 34)).alloc (.cells #[.slice none 0 0, .int .i64 0] 34)
  have hb2 := ((Below.refl _ w).alloc (Nat.le_refl _) (.cells #[.slice (some ⟨G, 0, none⟩) r.n r.n, .int .i64 (r.places : Int)] 34)).alloc (by omega) (.cells #[.slice none 0 0, .int .i64 0] 34)
  have hs2 : ((w.alloc (.cells #[.slice (some ⟨G, 0, none⟩) r.n r.n, .int .i64 (r.places : Int)] 34)).alloc (.cells #[.slice none 0 0, .int .i64 0] 34)).heap.size = w.heap.size + 2 := by simp
  unfold refV
  go_enter Tryz.func64, Tryz.ntmps64
  go_upto_region 1 with (fail)
  generalize (w.alloc (.cells #[.slice (some ⟨G, 0, none⟩) r.n r.n, .int .i64 (r.places : Int)] 34)).alloc (.cells #[.slice none 0 0, .int .i64 0] 34) = w2 at *
  have HS2 := Lib.hid hs2
  clear hX hs1 hs2 h
  have x0 := hX2.cell 0
  have x1 := hX2.cell 1
  simp only [List.getElem?_toArray, List.getElem?_cons_zero, List.getElem?_cons_succ] at x0 x1
  have hnew : Calls Tryz.prog 23 #[.int .i64 (r.n : Int), .int .i64 (r.places : Int)] w2 fun e w' => ∃ G' vs', e = .returned (.agg #[.slice (some ⟨G', 0, none⟩) r.n r.n, .int .i64 (r.places : Int)]) ∧ RefAt w' (fun b => b < w2.heap.size) G' vs' (Rg.new r.n r.places) ∧ Below w2.heap.size w2 w' := rnew_c (places := r.places) hn w2
  go_wp2_with fail
  refine hnew.mono ?_
  clear hnew
  rintro e w3 ⟨G', vs', rfl, hR3, hb3⟩
  have hR3' := (hR3.less (O' := fun b => b < w.heap.size) (fun b hb => by have := HS2.out; show b < _; omega)).alike (r' := r.dropTo k 0) rfl (fun i _ => rfl)
  have hG' : w2.heap.size ≤ G' := Nat.le_of_not_lt hR3.noG
  have hG3 : G' < w3.heap.size := hR3.blk.lt
  have hR4 := hR3'.alloc (.cells #[.slice (some ⟨G', 0, none⟩) r.n r.n, .int .i64 (r.places : Int)] 34)
  have hO4 := Blk.new w3 34 #[.slice (some ⟨G', 0, none⟩) r.n r.n, .int .i64 (r.places : Int)]
  have hb4 := hb3.alloc hb3.size (.cells #[.slice (some ⟨G', 0, none⟩) r.n r.n, .int .i64 (r.places : Int)] 34)
  clear hR3 hR3' x0 x1
  go_upto_region 2 with (fail)
  generalize w3.alloc (.cells #[.slice (some ⟨G', 0, none⟩) r.n r.n, .int .i64 (r.places : Int)] 34) = w4 at *
  have h4 := h2.below hb4 (Nat.le_refl _)
  have hX4 := hX2.below hb4 (by have := hX2.lt; omega)
  have hY4 := hY.below hb4 (by have := hY.lt; omega)
  have HB4 := Lib.hid (hb2.trans (hb4.mono (by have := HS2.out; omega)))
  clear h2 hX2 hY hb2 hb4 hb3
  go_wp2_with fail
  go_loopw [6] (fun i wr => ∃ (j : Nat) (vs' : Nat → Value), j ≤ r.n ∧ i = .int .i64 j ∧ RefAt wr (fun b => b < w.heap.size) G' vs' (r.dropTo k j) ∧ Kp (fun b => b = G') w4 wr ∧ ∀ i, i < j → ∃ g c, vs' i = .slice (some ⟨g, 0, none⟩) (strike k (r.l i)).length c) (fun i _ => r.n - (intOf i).toNat)
  case atStart => exact ⟨0, vs', Nat.zero_le _, rfl, hR4, Kp.refl _ _, fun i hi => by omega⟩
  case round =>
    obtain ⟨j, vs', hj, rfl, hR, hkp, hnn⟩ := hrel
    have HNN := Lib.hid hnn
    clear hR4 hnn
    have hXr := hkp.blk hX4 (by have := HS2.out; omega)
    have hYr := hkp.blk hY4 (by have := HS2.out; omega)
    have hOr := hkp.blk hO4 (by omega)
    have hr := h4.stay (w' := wr) fun b hb hn => hkp.block b hb (fun e => hn (by rw [e]; have := HS2.out; omega))
    have hG'w : G' < wr.heap.size := hR.blk.lt
    have hw4 := hkp.size
    by_cases hlt : j < r.n
    · obtain ⟨c1, a1, cc, hv⟩ := hr.at_ hlt
      have hll := hlen j hlt
      rw [hv] at c1
      have HV := Lib.hid hv
      clear hv
      have x0 := hXr.cell 0
      simp only [List.getElem?_toArray, List.getElem?_cons_zero] at x0
      have hltd : decide ((j : Int) < (r.n : Int)) = true := decide_eq_true (by omega)
      go_upto_region 6 with (fail)
      have hb5 := (Below.refl _ wr).alloc (Nat.le_refl _) (.cells #[] 9)
      have hown5 := World.ownsRow_lit (size := 1) (e := 9) (base := wr.heap.size) wr #[] 0 (Nat.le_refl _) (Nat.zero_le _) rfl
      generalize wr.alloc (.cells #[] 9) = w5 at *
      generalize hs7 : Value.slice (some ⟨wr.heap.size, 0, none⟩) 0 0 = v7 at *
      have H7 : Hid (∃ g c, v7 = .slice (some ⟨g, 0, none⟩) 0 c) := Lib.hid ⟨_, _, hs7.symm⟩
      clear hs7 x0
      generalize hwq : wr = wq at *
      clear hwq
      have x0 := (hXr.below hb5 (by have := hXr.lt; omega)).cell 0
      simp only [List.getElem?_toArray, List.getElem?_cons_zero] at x0
      have c1' := (World.cell?_of_block (a := ⟨G, j, none⟩) (hb5.block G hr.blk.lt)).trans c1
      go_wp2_with fail
      go_loopw [7, 8] (fun v2 i wr => ∃ p : Nat, p ≤ (r.l j).length ∧ i = .int .i64 p ∧ wr.ownsRow wq.heap.size 9 1 v2 (strike k ((r.l j).take p)).length (strsV (strike k ((r.l j).take p))) ∧ Below wq.heap.size wq wr ∧ ∃ g c, v2 = .slice (some ⟨g, 0, none⟩) (strike k ((r.l j).take p)).length c) (fun _ i _ => (r.l j).length - (intOf i).toNat)
      case atStart => exact ⟨0, Nat.zero_le _, rfl, hown5, hb5, H7.out⟩
      case round =>
        obtain ⟨p, hp, rfl, hown, hbw, hv8⟩ := hrel
        have HV8 := Lib.hid hv8
        clear hown5 hb5 x0 c1' c1 hv8
        have hXp := hXr.below hbw hXr.lt
        have hOp := hOr.below hbw hOr.lt
        have hrp := hr.below hbw (Nat.le_refl _)
        have hRp := hR.below hbw (Nat.le_refl _)
        have x0 := hXp.cell 0
        have o0 := hOp.cell 0
        simp only [List.getElem?_toArray, List.getElem?_cons_zero] at x0 o0
        have c1 := (hrp.at_ hlt).1
        have hws := hbw.size
        by_cases hpl : p < (r.l j).length
        · obtain ⟨g, c2, hv2, hc2⟩ := hrp.text hlt hpl
          rw [hv2] at c1
          have HTK := Lib.hid (take_snoc hpl)
          generalize (r.l j)[p]?.getD [] = x at *
          have HX := Lib.hid hXp
          clear hXr hXp hOr hOp hr hrp hR hRp h4 hX4 hY4 hO4 hYr hkp hv2
          by_cases e : x = k
          · have e2 : (x == k) = true := beq_iff_eq.2 e
            have hst : strike k ((r.l j).take (p + 1)) = strike k ((r.l j).take p) := by rw [HTK.out, strike_snoc, if_pos e]
            have HST := Lib.hid hst
            clear e hst
            go_wp2_with fail
            go_roundw
            case rel => exact ⟨p + 1, by omega, rfl, by rw [HST.out]; exact hown, hbw, by rw [HST.out]; exact HV8.out⟩
            case measure => simp [intOf]; omega
          · have e2 : (x == k) = false := beq_eq_false_iff_ne.2 e
            have hst : strike k ((r.l j).take (p + 1)) = strike k ((r.l j).take p) ++ [x] := by rw [HTK.out, strike_snoc, if_neg e]
            have hln : (strike k ((r.l j).take p)).length ≤ 100000 := by
              have h1 := strike_le k ((r.l j).take p)
              rw [List.length_take] at h1
              omega
            have HST := Lib.hid hst
            clear e hst
            generalize strike k ((r.l j).take p) = L at *
            go_wp2_with (first | (refine wpList_append_lies _ (by rfl) _ _ _ (by rfl) wq.heap.size 9 i0 _ 1 16 Tryz.underlying61 hi0 hz0 hz1 hz2 rfl (by omega) u7 L.length (strsV L) (by rfl) (hown.alloc _) ⟨wr.heap.size, 0, none⟩ 1 1 [.string (str x)] (by rfl) (by rfl) (World.news_of_block (cs := #[.string (str x)]) (t := 9) (fr := (0, 0)) (heap_alloc_new wr _)) (by simp [Value.oneCell']) (by omega) (by simp [maxLen]; omega) (by omega) (by simp; omega) (wr.heap.size + 1) (by simp) ?_; intro gg cp w7 hown1 hgrow hat3 hlt3))
            go_roundw
            case rel =>
              rw [← strsV_snoc] at hown1
              refine ⟨p + 1, by omega, by simp, ?_, ?_, ?_⟩
              · rw [HST.out]; simpa using hown1
              · exact (hbw.alloc hws _).trans ⟨hgrow.os, hgrow.tape, hgrow.output, hgrow.size, fun b hb => hgrow.block b (by simp; omega) (fun e => by have := (hown.lt b e.symm).1; omega)⟩
              · rw [HST.out]; exact ⟨gg, cp, by simp⟩
            case measure => simp [intOf]; omega
        · obtain rfl : p = (r.l j).length := by omega
          rw [List.take_length] at hown
          obtain ⟨av, ac, hav⟩ := (hrp.at_ hlt).2
          rw [hav] at c1
          have q1 := (hRp.at_ (i := j) hlt).1
          have qf := hRp.blk.free j
          have hv8 := HV8.out
          rw [List.take_length] at hv8
          obtain ⟨a2, c2, hv7⟩ := hv8
          have hSet := hRp.set (r' := r.dropTo k (j + 1)) (j := j) (v := u7) hlt (own_low hown) (fun g hg => by have := (hown.lt g hg).1; have := HB4.out.size; show ¬ g < w.heap.size; omega) rfl (fun i hi => by
            show (if i < j + 1 then strike k (r.l i) else []) = if i = j then strike k (r.l j) else (if i < j then strike k (r.l i) else [])
            by_cases e : i = j
            · rw [if_pos e, if_pos (by omega), e]
            · rw [if_neg e]
              by_cases e2 : i < j
              · rw [if_pos e2, if_pos (by omega)]
              · rw [if_neg e2, if_neg (by omega)])
          have hKp : Kp (fun b => b = G') w4 (wr.setCell ⟨G', j, none⟩ u7) := (hkp.trans ⟨hbw.os, hbw.tape, hbw.output, hbw.size, fun b hb _ => hbw.block b hb⟩).set (p := ⟨G', j, none⟩) rfl _
          rw [hv7] at hSet hKp
          have HSet := Lib.hid hSet
          have HKp := Lib.hid hKp
          clear hXr hXp hOr hOp hr hrp hR hRp h4 hX4 hY4 hO4 hYr hkp hav hSet hKp hown
          have hltd3 : decide ((j : Int) < (r.n : Int)) = true := decide_eq_true (by omega)
          rw [hv7]
          go_wp2_with fail
          go_roundw
          case rel => exact ⟨j + 1, _, by omega, rfl, HSet.out, HKp.out, fun i hi => by
            unfold updV
            by_cases e : i = j
            · rw [if_pos e, e]; exact ⟨_, _, rfl⟩
            · rw [if_neg e]; exact HNN.out i (by omega)⟩
          case measure => simp [intOf]; omega
    · obtain rfl : j = r.n := by omega
      have x0 := hXr.cell 0
      have o0 := hOr.cell 0
      have o1 := hOr.cell 1
      have q0 := hYr.cell 0
      have q1 := hYr.cell 1
      have z0 := hYr.free 0
      have z1 := hYr.free 1
      simp only [List.getElem?_toArray, List.getElem?_cons_zero, List.getElem?_cons_succ] at x0 o0 o1 q0 q1
      have hY3 := (hYr.put 0 (.slice (some ⟨G', 0, none⟩) r.n r.n)).put 1 (.int .i64 (r.places : Int))
      have hK3 : Kp (fun b => b = G' ∨ b = w.heap.size + 1) w4 ((wr.setCell ⟨w.heap.size + 1, 0, none⟩ (.slice (some ⟨G', 0, none⟩) r.n r.n)).setCell ⟨w.heap.size + 1, 1, none⟩ (.int .i64 (r.places : Int))) :=
        ((Kp.mk hkp.os hkp.tape hkp.output hkp.size (fun b hb hn => hkp.block b hb (fun e => hn (.inl e)))).set (p := ⟨w.heap.size + 1, 0, none⟩) (.inr rfl) _).set (p := ⟨w.heap.size + 1, 1, none⟩) (.inr rfl) _
      have hgr : Kp (fun b => b = w.heap.size + 1) wr ((wr.setCell ⟨w.heap.size + 1, 0, none⟩ (.slice (some ⟨G', 0, none⟩) r.n r.n)).setCell ⟨w.heap.size + 1, 1, none⟩ (.int .i64 (r.places : Int))) :=
        ((Kp.refl (fun b => b = w.heap.size + 1) wr).set (p := ⟨w.heap.size + 1, 0, none⟩) rfl _).set (p := ⟨w.heap.size + 1, 1, none⟩) rfl _
      have hR3 : RefAt ((wr.setCell ⟨w.heap.size + 1, 0, none⟩ (.slice (some ⟨G', 0, none⟩) r.n r.n)).setCell ⟨w.heap.size + 1, 1, none⟩ (.int .i64 (r.places : Int))) (fun b => b < w.heap.size) G' vs' (r.drop k) := by
        refine RefAt.alike (r := r.dropTo k r.n) ?_ rfl (fun i hi => by show strike k (r.l i) = if i < r.n then strike k (r.l i) else []; have hi : i < r.n := hi; rw [if_pos hi])
        refine ⟨hgr.blk hR.blk (by have := HS2.out; omega), fun i hi => ownsRow_stay (hR.row i hi) fun b hb => hgr.block b ((hR.row i hi).lt b hb).2 (fun e => ?_), hR.noG, hR.noR⟩
        obtain ⟨c, hc⟩ := owned_blk (hR.row i hi) hb
        exact hc.ne_ hYr (by decide) e
      have hB3 : Below w.heap.size w ((wr.setCell ⟨w.heap.size + 1, 0, none⟩ (.slice (some ⟨G', 0, none⟩) r.n r.n)).setCell ⟨w.heap.size + 1, 1, none⟩ (.int .i64 (r.places : Int))) :=
        HB4.out.trans ⟨hK3.os, hK3.tape, hK3.output, hK3.size, fun b hb => hK3.block b (by have := HB4.out.size; omega) (fun e => by have := HS2.out; rcases e with e | e <;> omega)⟩
      have HR3 := Lib.hid hR3
      have HB3 := Lib.hid hB3
      clear hR3 hB3 hgr hK3 hR hkp hXr hYr hOr hr h4 hX4 hY4 hO4
      go_wp2_with fail
      generalize (wr.setCell ⟨w.heap.size + 1, 0, none⟩ (.slice (some ⟨G', 0, none⟩) r.n r.n)).setCell ⟨w.heap.size + 1, 1, none⟩ (.int .i64 (r.places : Int)) = w9 at *
      have p0 := hY3.cell 0
      have p1 := hY3.cell 1
      simp only [List.setIfInBounds_toArray, List.set_cons_zero, List.set_cons_succ, List.getElem?_toArray, List.getElem?_cons_zero, List.getElem?_cons_succ] at p0 p1
      (try simp only [Exit.inBlock, Exit.then])
      refine bodyPost_ret (v := .agg #[.slice (some ⟨G', 0, none⟩) r.n r.n, .int .i64 (r.places : Int)]) (by simp [results, Tryz.results64, go_sem, p0, p1]) rfl ?_
      exact ⟨G', vs', rfl, HR3.out, HB3.out, HNN.out⟩
end
end Go.Proofs.YtgfpedcdclgmiaaGreat.Ringy

namespace Go.Proofs.YtgfpedcdclgmiaaGreat.Ringy
open Go.ChangeShapes Go.WideShapes Go.ChangeAt Go.RowKit
open Wirey (Blk Row str str_size str_list Kp)
open Go.ChangeMaps Go.Maps

section
variable {O : Nat → Prop} {G : Nat} {vs : Nat → Value} {r : Rg}
/-- What stands while Front asks. -/
structure Asks (w : World) (O : Nat → Prop) (G : Nat) (vs : Nat → Value) (r : Rg) (x : World) : Prop where
  ref : RefAt x O G vs r
  box : Blk x w.heap.size 34 #[.slice (some ⟨G, 0, none⟩) r.n r.n, .int .i64 (r.places : Int)]
  res : Blk x (w.heap.size + 1) 34 #[.slice none 0 0, .int .i64 0]
  below : Below w.heap.size w x
theorem Asks.later {w x y : World} (h : Asks w O G vs r x) (hb : Below x.heap.size x y) : Asks w O G vs r y :=
  ⟨h.ref.below hb (Nat.le_refl _), h.box.below hb h.box.lt, h.res.below hb h.res.lt, h.below.trans (hb.mono h.below.size)⟩
theorem Asks.drewN {w x : World} (h : Asks w O G vs r x) (n : Nat) : Asks w O G vs r (x.drewN n) := ⟨h.ref.drewN n, h.box, h.res, ⟨h.below.os, h.below.tape, h.below.output, h.below.size, h.below.block⟩⟩
theorem asksP {w x y : World} {u0 u1 : Value} (hS : x.cell? ⟨w.heap.size, 0, none⟩ = some u0 ∧ x.cell? ⟨w.heap.size, 1, none⟩ = some u1 ∧ Asks w O G vs r x) (hb : Below x.heap.size x y) :
    y.cell? ⟨w.heap.size, 0, none⟩ = some u0 ∧ y.cell? ⟨w.heap.size, 1, none⟩ = some u1 ∧ Asks w O G vs r y :=
  ⟨(World.cell?_of_block (a := ⟨w.heap.size, 0, none⟩) (hb.block _ hS.2.2.box.lt)).trans hS.1, (World.cell?_of_block (a := ⟨w.heap.size, 1, none⟩) (hb.block _ hS.2.2.box.lt)).trans hS.2.1, hS.2.2.later hb⟩
theorem asksPd {w x : World} {u0 u1 : Value} (hS : x.cell? ⟨w.heap.size, 0, none⟩ = some u0 ∧ x.cell? ⟨w.heap.size, 1, none⟩ = some u1 ∧ Asks w O G vs r x) :
    x.drew.cell? ⟨w.heap.size, 0, none⟩ = some u0 ∧ x.drew.cell? ⟨w.heap.size, 1, none⟩ = some u1 ∧ Asks w O G vs r x.drew := ⟨hS.1, hS.2.1, hS.2.2.drewN 1⟩
theorem asksPn {w x : World} {u0 u1 : Value} (m : Nat) (hS : x.cell? ⟨w.heap.size, 0, none⟩ = some u0 ∧ x.cell? ⟨w.heap.size, 1, none⟩ = some u1 ∧ Asks w O G vs r x) :
    (x.drewN m).cell? ⟨w.heap.size, 0, none⟩ = some u0 ∧ (x.drewN m).cell? ⟨w.heap.size, 1, none⟩ = some u1 ∧ Asks w O G vs r (x.drewN m) := ⟨hS.1, hS.2.1, hS.2.2.drewN m⟩
theorem asksR {w x : World} {u0 u1 : Value} (hS : x.cell? ⟨w.heap.size, 0, none⟩ = some u0 ∧ x.cell? ⟨w.heap.size, 1, none⟩ = some u1 ∧ Asks w O G vs r x) : RefAt x O G vs r := hS.2.2.ref
theorem asksA {w x : World} {u0 u1 : Value} (hS : x.cell? ⟨w.heap.size, 0, none⟩ = some u0 ∧ x.cell? ⟨w.heap.size, 1, none⟩ = some u1 ∧ Asks w O G vs r x) : Asks w O G vs r x := hS.2.2
/-- The result laid. -/
def putR (w x : World) (G n p : Nat) : World := (x.setCell ⟨w.heap.size + 1, 0, none⟩ (.slice (some ⟨G, 0, none⟩) n n)).setCell ⟨w.heap.size + 1, 1, none⟩ (.int .i64 (p : Int))
theorem Asks.put {w x : World} (h : Asks w O G vs r x) (G' n p : Nat) : Below w.heap.size w (putR w x G' n p) ∧ Blk (putR w x G' n p) (w.heap.size + 1) 34 #[.slice (some ⟨G', 0, none⟩) n n, .int .i64 (p : Int)] :=
  ⟨(h.below.setCell (p := ⟨w.heap.size + 1, 0, none⟩) (Nat.le_succ _) _).setCell (p := ⟨w.heap.size + 1, 1, none⟩) (Nat.le_succ _) _, (h.res.put 0 (.slice (some ⟨G', 0, none⟩) n n)).put 1 (.int .i64 (p : Int))⟩
set_option maxHeartbeats 4000000 in
set_option maxRecDepth 100000 in
theorem rfront_no {a : Int} {k : Key} (hk : k.length ≤ maxLen) (hn : r.n ≤ 100) (hlen : ∀ i, (r.l i).length < 100000) (w : World) (h : RefAt w O G vs r) (hok : r.ok a k = false) :
    Calls Tryz.prog 96 #[refV G r, .int .i64 a, .string (str k)] w fun e w' => e = .returned (.tuple #[refV G r, .bool false]) ∧ Below w.heap.size w w' := by
  have hsz := str_size k
  unfold maxLen at hk
  have hX := Blk.new w 34 #[.slice (some ⟨G, 0, none⟩) r.n r.n, .int .i64 (r.places : Int)]
  have hs1 : (w.alloc (.cells #[.slice (some ⟨G, 0, none⟩) r.n r.n, .int .i64 (r.places : Int)] 34)).heap.size = w.heap.size + 1 := by simp
  have hY := Blk.new (w.alloc (.cells #[.slice (some ⟨G, 0, none⟩) r.n r.n, .int .i64 (r.places : Int)] 34)) 34 #[.slice none 0 0, .int .i64 0]
  rw [hs1] at hY
  have hX2 := hX.alloc (.cells #[.slice none 0 0, .int .i64 0] 34)
  have h2 := (h.alloc (.cells #[.slice (some ⟨G, 0, none⟩) r.n r.n, .int .i64 (r.places : Int)] 34)).alloc (.cells #[.slice none 0 0, .int .i64 0] 34)
  have hb2 := ((Below.refl _ w).alloc (Nat.le_refl _) (.cells #[.slice (some ⟨G, 0, none⟩) r.n r.n, .int .i64 (r.places : Int)] 34)).alloc (by omega) (.cells #[.slice none 0 0, .int .i64 0] 34)
  have hs2 : ((w.alloc (.cells #[.slice (some ⟨G, 0, none⟩) r.n r.n, .int .i64 (r.places : Int)] 34)).alloc (.cells #[.slice none 0 0, .int .i64 0] 34)).heap.size = w.heap.size + 2 := by simp
  have hin := rin_c (O := O) (G := G) (vs := vs) k hn (fun i _ => hlen i) _ h2
  unfold refV at hin ⊢
  go_enter Tryz.func96, Tryz.ntmps96
  go_upto_region 1 with (fail)
  generalize (w.alloc (.cells #[.slice (some ⟨G, 0, none⟩) r.n r.n, .int .i64 (r.places : Int)] 34)).alloc (.cells #[.slice none 0 0, .int .i64 0] 34) = w2 at *
  have HA2 := Lib.hid (Asks.mk h2 hX2 hY hb2 : Asks w O G vs r w2)
  clear hX hs1 hs2 h
  have x0 := hX2.cell 0
  have x1 := hX2.cell 1
  simp only [List.getElem?_toArray, List.getElem?_cons_zero, List.getElem?_cons_succ] at x0 x1
  clear hX2 hY h2 hb2
  go_upto_region 2 with (first | (go_at_call 41; refine hin.mono ?_; rintro e w3 ⟨rfl, hb3⟩))
  have hA := HA2.out.later hb3
  clear HA2 hin x0 x1 hb3
  have hcases : a < 0 ∨ (¬ a < 0 ∧ (r.n : Int) ≤ a) ∨ (¬ a < 0 ∧ ¬ (r.n : Int) ≤ a ∧ 64 < k.length) ∨ (¬ a < 0 ∧ ¬ (r.n : Int) ≤ a ∧ ¬ 64 < k.length ∧ r.hasB k = false ∧ r.places ≤ r.many) := by
    by_cases h1 : a < 0
    · exact .inl h1
    · by_cases h2 : (r.n : Int) ≤ a
      · exact .inr (.inl ⟨h1, h2⟩)
      · by_cases h3 : 64 < k.length
        · exact .inr (.inr (.inl ⟨h1, h2, h3⟩))
        · refine .inr (.inr (.inr ⟨h1, h2, h3, ?_, ?_⟩))
          · rw [Bool.eq_false_iff]
            intro e
            rw [Rg.ok_of (by omega) (by omega) (by omega) (.inl (Rg.hasB_iff.1 e))] at hok
            cases hok
          · rcases Nat.lt_or_ge r.many r.places with h4 | h4
            · rw [Rg.ok_of (by omega) (by omega) (by omega) (.inr h4)] at hok
              cases hok
            · exact h4
  clear hok
  have x0 := hA.box.cell 0
  have x1 := hA.box.cell 1
  simp only [List.getElem?_toArray, List.getElem?_cons_zero, List.getElem?_cons_succ] at x0 x1
  rcases hcases with h1 | ⟨h1, h3⟩ | ⟨h1, h3, h4⟩ | ⟨h1, h3, h4, h5, h6⟩
  · go_region
    have q0 := hA.res.cell 0
    have q1 := hA.res.cell 1
    have z0 := hA.res.free 0
    have z1 := hA.res.free 1
    simp only [List.getElem?_toArray, List.getElem?_cons_zero, List.getElem?_cons_succ] at q0 q1
    obtain ⟨hB, hY⟩ := hA.put G r.n r.places
    unfold putR at hB hY
    have p0 := hY.cell 0
    have p1 := hY.cell 1
    simp only [List.getElem?_toArray, List.getElem?_cons_zero, List.getElem?_cons_succ] at p0 p1
    have HB := Lib.hid hB
    have HP0 := Lib.hid p0
    have HP1 := Lib.hid p1
    clear hB hY p0 p1
    go_wp2_with fail
    have p0 := HP0.out
    have p1 := HP1.out
    generalize (w3.setCell ⟨w.heap.size + 1, 0, none⟩ (.slice (some ⟨G, 0, none⟩) r.n r.n)).setCell ⟨w.heap.size + 1, 1, none⟩ (.int .i64 (r.places : Int)) = w9 at *
    (try simp only [Exit.inBlock, Exit.then])
    refine bodyPost_ret (v := .tuple #[.agg #[.slice (some ⟨G, 0, none⟩) r.n r.n, .int .i64 (r.places : Int)], .bool false]) (by simp [results, Tryz.results96, go_sem, p0, p1]) rfl ?_
    exact ⟨rfl, HB.out.os, HB.out.tape, HB.out.output, HB.out.size, HB.out.block⟩
  · go_region
    have q0 := hA.res.cell 0
    have q1 := hA.res.cell 1
    have z0 := hA.res.free 0
    have z1 := hA.res.free 1
    simp only [List.getElem?_toArray, List.getElem?_cons_zero, List.getElem?_cons_succ] at q0 q1
    obtain ⟨hB, hY⟩ := hA.put G r.n r.places
    unfold putR at hB hY
    have p0 := hY.cell 0
    have p1 := hY.cell 1
    simp only [List.getElem?_toArray, List.getElem?_cons_zero, List.getElem?_cons_succ] at p0 p1
    have HB := Lib.hid hB
    have HP0 := Lib.hid p0
    have HP1 := Lib.hid p1
    clear hB hY p0 p1
    go_wp2_with fail
    have p0 := HP0.out
    have p1 := HP1.out
    generalize (w3.setCell ⟨w.heap.size + 1, 0, none⟩ (.slice (some ⟨G, 0, none⟩) r.n r.n)).setCell ⟨w.heap.size + 1, 1, none⟩ (.int .i64 (r.places : Int)) = w9 at *
    (try simp only [Exit.inBlock, Exit.then])
    refine bodyPost_ret (v := .tuple #[.agg #[.slice (some ⟨G, 0, none⟩) r.n r.n, .int .i64 (r.places : Int)], .bool false]) (by simp [results, Tryz.results96, go_sem, p0, p1]) rfl ?_
    exact ⟨rfl, HB.out.os, HB.out.tape, HB.out.output, HB.out.size, HB.out.block⟩
  · have h4' : (64 : Int) < (k.length : Int) := by omega
    go_region
    have q0 := hA.res.cell 0
    have q1 := hA.res.cell 1
    have z0 := hA.res.free 0
    have z1 := hA.res.free 1
    simp only [List.getElem?_toArray, List.getElem?_cons_zero, List.getElem?_cons_succ] at q0 q1
    obtain ⟨hB, hY⟩ := hA.put G r.n r.places
    unfold putR at hB hY
    have p0 := hY.cell 0
    have p1 := hY.cell 1
    simp only [List.getElem?_toArray, List.getElem?_cons_zero, List.getElem?_cons_succ] at p0 p1
    have HB := Lib.hid hB
    have HP0 := Lib.hid p0
    have HP1 := Lib.hid p1
    clear hB hY p0 p1
    go_wp2_with fail
    have p0 := HP0.out
    have p1 := HP1.out
    generalize (w3.setCell ⟨w.heap.size + 1, 0, none⟩ (.slice (some ⟨G, 0, none⟩) r.n r.n)).setCell ⟨w.heap.size + 1, 1, none⟩ (.int .i64 (r.places : Int)) = w9 at *
    (try simp only [Exit.inBlock, Exit.then])
    refine bodyPost_ret (v := .tuple #[.agg #[.slice (some ⟨G, 0, none⟩) r.n r.n, .int .i64 (r.places : Int)], .bool false]) (by simp [results, Tryz.results96, go_sem, p0, p1]) rfl ?_
    exact ⟨rfl, HB.out.os, HB.out.tape, HB.out.output, HB.out.size, HB.out.block⟩
  · have h4' : ¬ (64 : Int) < (k.length : Int) := by omega
    have h6' : decide ((r.places : Int) ≤ (r.many : Int)) = true := decide_eq_true (by omega)
    have h6'' : (r.places : Int) ≤ (r.many : Int) := by omega
    rw [h5]
    have hmany : ∀ v, RefAt v O G vs r → Calls Tryz.prog 72 #[.agg #[.slice (some ⟨G, 0, none⟩) r.n r.n, .int .i64 (r.places : Int)]] v fun e w' => e = .returned (.int .i64 (r.many : Int)) ∧ Below v.heap.size v w' := fun v hv => rmany_c hn hlen v hv
    go_region_held3 (fun w' => w'.cell? ⟨w.heap.size, 0, none⟩ = some (.slice (some ⟨G, 0, none⟩) r.n r.n) ∧ w'.cell? ⟨w.heap.size, 1, none⟩ = some (.int .i64 (r.places : Int)) ∧ Asks w O G vs r w')
      (first | exact ⟨x0, x1, hA⟩ | exact asksP (by assumption) (by assumption) | exact asksPd (by assumption) | exact asksPd ⟨x0, x1, hA⟩ | exact asksPn _ ⟨x0, x1, hA⟩ | exact asksPn _ (by assumption) | go_keep)
      (first | (go_at_call 72; refine (hmany _ (asksR (by assumption))).mono ?_; rintro e v ⟨rfl, hv⟩))
    have hAv : Asks w O G vs r v := asksA (by assumption)
    clear x0 x1
    have x0 := hAv.box.cell 0
    have x1 := hAv.box.cell 1
    simp only [List.getElem?_toArray, List.getElem?_cons_zero, List.getElem?_cons_succ] at x0 x1
    have q0 := hAv.res.cell 0
    have q1 := hAv.res.cell 1
    have z0 := hAv.res.free 0
    have z1 := hAv.res.free 1
    simp only [List.getElem?_toArray, List.getElem?_cons_zero, List.getElem?_cons_succ] at q0 q1
    obtain ⟨hB, hY⟩ := hAv.put G r.n r.places
    unfold putR at hB hY
    have p0 := hY.cell 0
    have p1 := hY.cell 1
    simp only [List.getElem?_toArray, List.getElem?_cons_zero, List.getElem?_cons_succ] at p0 p1
    have HB := Lib.hid hB
    have HP0 := Lib.hid p0
    have HP1 := Lib.hid p1
    clear hB hY p0 p1
    go_wp2_with fail
    have p0 := HP0.out
    have p1 := HP1.out
    generalize (v.setCell ⟨w.heap.size + 1, 0, none⟩ (.slice (some ⟨G, 0, none⟩) r.n r.n)).setCell ⟨w.heap.size + 1, 1, none⟩ (.int .i64 (r.places : Int)) = w9 at *
    (try simp only [Exit.inBlock, Exit.then])
    refine bodyPost_ret (v := .tuple #[.agg #[.slice (some ⟨G, 0, none⟩) r.n r.n, .int .i64 (r.places : Int)], .bool false]) (by simp [results, Tryz.results96, go_sem, p0, p1]) rfl ?_
    exact ⟨rfl, HB.out.os, HB.out.tape, HB.out.output, HB.out.size, HB.out.block⟩
end
end Go.Proofs.YtgfpedcdclgmiaaGreat.Ringy

namespace Go.Proofs.YtgfpedcdclgmiaaGreat.Ringy
open Go.ChangeShapes Go.WideShapes Go.ChangeAt Go.RowKit
open Wirey (Blk Row str str_size str_list Kp)
open Go.ChangeMaps Go.Maps

/-- An append, of whatever many, at a step of a region that draws its order. -/
theorem step_append_any {P : Program} (w : World) {ops : Array Oper} {o : Oper} {a : Act} {K : Act → World → Prop} {Q : Exit → Act → World → Prop} {E : Prop} (hgd : o.guard = none) (s x : Operand) (t : TypeId)
    (ho : o.op = .call { callee := .builtin .append, args := #[s, x], argTypes := #[t, t] })
    (base : Nat) (e : TypeId) (i : TypeInfo) (z : Value) (size bytes : Nat) (ht : P.underlying t = some (.slice e)) (hi : P.info? e = some i) (hz : i.zero = some z)
    (hsize : i.size = size) (hby : i.bytes = bytes) (hzs : z.cells.size = size) (hsz : 0 < size)
    (v : Value) (n : Nat) (xs : List Value) (hs : a.eval s = v) (hown : w.ownsRow base e size v n xs)
    (ad : Addr) (m c : Nat) (news : List Value) (hx : a.eval x = .slice (some ad) m c) (hl : news.length = m * size) (hnews : ∀ j u, news[j]? = some u → w.cell? (ad.add j) = some u) (h1 : ∀ u ∈ news, u.oneCell' = true)
    (hm : 0 < n + m) (h63 : n + m ≤ maxLen) (hbytes : (n + m) * bytes ≤ 140737488355328) (hbase : base ≤ w.heap.size)
    (h : ∀ g cap w', w'.ownsRow base e size (.slice (some ⟨g, 0, none⟩) (n + m) cap) (n + m) (xs ++ news) → w.grownBy w' v.ownBlock → (v.ownBlock = some g ∨ g = w.heap.size) → K (a.put o.dst (.slice (some ⟨g, 0, none⟩) (n + m) cap)) w') :
    if Region.wanted o (yielded ops a.tmps) = true then Oper.wp P o a w K Q else E := by
  have hw : Region.wanted o (yielded ops a.tmps) = true := by simp [Region.wanted, hgd]
  rw [if_pos hw]
  obtain ⟨v', w', hr, h2, h3, _, h5⟩ := run_append_own_at (P := P) w base t o.type e i z size bytes ht hi hz hsize hby hzs hsz v n xs hown ad m c news hl hnews h1 h63 hbytes hbase
  obtain ⟨g, cap, rfl, _, _⟩ := h2.form hm
  unfold Oper.wp execOp
  simp only [ho, resolve, invoke, builtin, Sem.run_bind, Sem.run_pure, Result.andThen_ok, List.map_toArray, List.map_cons, List.map_nil, hs, hx, hr]
  refine h g cap w' h2 h3 ?_
  rcases h5 with h5 | h5
  · exact .inl (by rw [← h5]; rfl)
  · right
    simpa [Value.ownBlock] using h5
theorem strsV_cons (k : Key) (l : List Key) : strsV (k :: l) = [.string (str k)] ++ strsV l := rfl
theorem strsV_one (l : List Key) : ∀ u ∈ strsV l, u.oneCell' = true := by
  intro u hu
  obtain ⟨k, _, rfl⟩ := List.mem_map.1 hu
  rfl
section
variable {O : Nat → Prop} {G : Nat} {vs : Nat → Value} {r : Rg}
/-- Behind the append and the store. -/
theorem push_end {w w6 w7 : World} {G' OB j gg cp : Nat} {vs' : Nat → Value} {k : Key} (hA : Asks w O G vs r w6) (hR : RefAt w6 (fun b => b < w.heap.size) G' vs' (r.drop k)) (hO : Blk w6 OB 34 #[.slice (some ⟨G', 0, none⟩) r.n r.n, .int .i64 (r.places : Int)])
    (hlo : w.heap.size + 1 < G') (hj : j < r.n) {o : Obj} (hgrow : (w6.alloc o).drew.grownBy w7 (Value.slice (some ⟨w6.heap.size, 0, none⟩) 1 1).ownBlock)
    (hown : w7.ownsRow w6.heap.size 9 1 (.slice (some ⟨gg, 0, none⟩) (1 + (strike k (r.l j)).length) cp) (1 + (strike k (r.l j)).length) ([.string (str k)] ++ strsV (strike k (r.l j)))) :
    let w8 := w7.setCell ⟨G', j, none⟩ (.slice (some ⟨gg, 0, none⟩) (1 + (strike k (r.l j)).length) cp)
    let w9 := putR w w8 G' r.n r.places
    Blk w8 OB 34 #[.slice (some ⟨G', 0, none⟩) r.n r.n, .int .i64 (r.places : Int)] ∧ Blk w8 (w.heap.size + 1) 34 #[.slice none 0 0, .int .i64 0] ∧
    Blk w9 (w.heap.size + 1) 34 #[.slice (some ⟨G', 0, none⟩) r.n r.n, .int .i64 (r.places : Int)] ∧
    RefAt w9 (fun b => b < w.heap.size) G' (updV vs' j (.slice (some ⟨gg, 0, none⟩) (1 + (strike k (r.l j)).length) cp)) ((r.drop k).push j k) ∧ Below w.heap.size w w9 := by
  intro w8 w9
  have hb67 : Below w6.heap.size w6 w7 := ((Below.refl _ w6).alloc (Nat.le_refl _) o).trans ⟨hgrow.os, hgrow.tape, hgrow.output, hgrow.size, fun b hb => hgrow.block b (by simp; omega) (fun e => by have e : some b = some w6.heap.size := e; cases e; omega)⟩
  have hR7 := hR.below hb67 (Nat.le_refl _)
  have hA7 := hA.later hb67
  have hGO : G' ≠ OB := hR.blk.ne_ hO (by decide)
  have hO8 : Blk w8 OB 34 #[.slice (some ⟨G', 0, none⟩) r.n r.n, .int .i64 (r.places : Int)] := (hO.below hb67 hO.lt).far (p := ⟨G', j, none⟩) (fun e => hGO e.symm) _
  have hY8 : Blk w8 (w.heap.size + 1) 34 #[.slice none 0 0, .int .i64 0] := hA7.res.far (p := ⟨G', j, none⟩) (by show w.heap.size + 1 ≠ G'; omega) _
  have hw6 := hA.below.size
  have hR8 : RefAt w8 (fun b => b < w.heap.size) G' (updV vs' j (.slice (some ⟨gg, 0, none⟩) (1 + (strike k (r.l j)).length) cp)) ((r.drop k).push j k) := hR7.set (l := k :: strike k (r.l j)) hj (by
      have h := own_low hown
      rw [Nat.add_comm 1 (strike k (r.l j)).length] at h ⊢
      exact h) (fun g hg => by have := (hown.lt g hg).1; show ¬ g < w.heap.size; omega) rfl (fun i hi => by
        show (if i = j then k :: strike k (r.l i) else strike k (r.l i)) = if i = j then k :: strike k (r.l j) else strike k (r.l i)
        by_cases e : i = j
        · rw [if_pos e, if_pos e, e]
        · rw [if_neg e, if_neg e])
  have hB8 : Below w.heap.size w w8 := hA7.below.setCell (p := ⟨G', j, none⟩) (by show w.heap.size ≤ G'; omega) _
  have hk9 : Kp (fun b => b = w.heap.size + 1) w8 w9 := ((Kp.refl (fun b => b = w.heap.size + 1) w8).set (p := ⟨w.heap.size + 1, 0, none⟩) rfl _).set (p := ⟨w.heap.size + 1, 1, none⟩) rfl _
  refine ⟨hO8, hY8, (hY8.put 0 (.slice (some ⟨G', 0, none⟩) r.n r.n)).put 1 (.int .i64 (r.places : Int)), ⟨hk9.blk hR8.blk (by omega), fun i hi => ownsRow_stay (hR8.row i hi) fun b hb => hk9.block b ((hR8.row i hi).lt b hb).2 (fun e => ?_), hR8.noG, hR8.noR⟩, (hB8.setCell (p := ⟨w.heap.size + 1, 0, none⟩) (Nat.le_succ _) _).setCell (p := ⟨w.heap.size + 1, 1, none⟩) (Nat.le_succ _) _⟩
  obtain ⟨cc, hc⟩ := owned_blk (hR8.row i hi) hb
  exact hc.ne_ hY8 (by decide) e
set_option maxHeartbeats 4000000 in
set_option maxRecDepth 100000 in
/-- Front's second half: from where it is asked no more. -/
theorem rfront_yes {j : Nat} {k : Key} (hk : k.length ≤ maxLen) (hn : r.n ≤ 100) (hlen : ∀ i, (r.l i).length < 100000) (w : World) (h : RefAt w O G vs r) (hj : j < r.n) (hok : r.ok (j : Int) k = true) :
    Calls Tryz.prog 96 #[refV G r, .int .i64 (j : Int), .string (str k)] w fun e w' => ∃ G' vs', e = .returned (.tuple #[refV G' (r.fr (j : Int) k), .bool true]) ∧ RefAt w' (fun b => b < w.heap.size) G' vs' (r.fr (j : Int) k) ∧ Below w.heap.size w w' := by
  have hsz := str_size k
  unfold maxLen at hk
  obtain ⟨i0, hi0, hz0, hz1, hz2⟩ := info_parts str_info
  have hX := Blk.new w 34 #[.slice (some ⟨G, 0, none⟩) r.n r.n, .int .i64 (r.places : Int)]
  have hs1 : (w.alloc (.cells #[.slice (some ⟨G, 0, none⟩) r.n r.n, .int .i64 (r.places : Int)] 34)).heap.size = w.heap.size + 1 := by simp
  have hY := Blk.new (w.alloc (.cells #[.slice (some ⟨G, 0, none⟩) r.n r.n, .int .i64 (r.places : Int)] 34)) 34 #[.slice none 0 0, .int .i64 0]
  rw [hs1] at hY
  have hX2 := hX.alloc (.cells #[.slice none 0 0, .int .i64 0] 34)
  have h2 := (h.alloc (.cells #[.slice (some ⟨G, 0, none⟩) r.n r.n, .int .i64 (r.places : Int)] 34)).alloc (.cells #[.slice none 0 0, .int .i64 0] 34)
  have hb2 := ((Below.refl _ w).alloc (Nat.le_refl _) (.cells #[.slice (some ⟨G, 0, none⟩) r.n r.n, .int .i64 (r.places : Int)] 34)).alloc (by omega) (.cells #[.slice none 0 0, .int .i64 0] 34)
  have hin := rin_c (O := O) (G := G) (vs := vs) k hn (fun i _ => hlen i) _ h2
  have hfr := Rg.fr_ok hok
  rw [Int.toNat_natCast] at hfr
  rw [hfr]
  clear hfr
  obtain ⟨-, -, h64, hcan⟩ := Rg.ok_in hok
  unfold refV at hin ⊢
  go_enter Tryz.func96, Tryz.ntmps96
  go_upto_region 1 with (fail)
  generalize (w.alloc (.cells #[.slice (some ⟨G, 0, none⟩) r.n r.n, .int .i64 (r.places : Int)] 34)).alloc (.cells #[.slice none 0 0, .int .i64 0] 34) = w2 at *
  have HA2 := Lib.hid (Asks.mk h2 hX2 hY hb2 : Asks w O G vs r w2)
  clear hX hs1 h
  have x0 := hX2.cell 0
  have x1 := hX2.cell 1
  simp only [List.getElem?_toArray, List.getElem?_cons_zero, List.getElem?_cons_succ] at x0 x1
  clear hX2 hY h2 hb2
  go_upto_region 2 with (first | (go_at_call 41; refine hin.mono ?_; rintro e w3 ⟨rfl, hb3⟩))
  have hA := HA2.out.later hb3
  clear HA2 hin x0 x1 hb3
  have hcases : r.hasB k = true ∨ (r.hasB k = false ∧ r.many < r.places) := by
    rcases Bool.eq_false_or_eq_true (r.hasB k) with e | e
    · exact .inl e
    · exact .inr ⟨e, hcan.resolve_left (fun h => by rw [Rg.hasB_iff.2 h] at e; cases e)⟩
  clear hok hcan
  have hj1 : ¬ (r.n : Int) ≤ (j : Int) := by omega
  have hj0 : ¬ (j : Int) < 0 := by omega
  have hj0' : decide ((j : Int) < 0) = false := decide_eq_false hj0
  have hj2 : decide ((r.n : Int) ≤ (j : Int)) = false := decide_eq_false hj1
  have h64' : ¬ (64 : Int) < (k.length : Int) := by omega
  have x0 := hA.box.cell 0
  have x1 := hA.box.cell 1
  simp only [List.getElem?_toArray, List.getElem?_cons_zero, List.getElem?_cons_succ] at x0 x1
  have hdrop : ∀ v, RefAt v O G vs r → Calls Tryz.prog 64 #[.agg #[.slice (some ⟨G, 0, none⟩) r.n r.n, .int .i64 (r.places : Int)], .string (str k)] v fun e w' => ∃ G' vs', e = .returned (.agg #[.slice (some ⟨G', 0, none⟩) r.n r.n, .int .i64 (r.places : Int)]) ∧ RefAt w' (fun b => b < v.heap.size) G' vs' (r.drop k) ∧ Below v.heap.size v w' ∧ ∀ i, i < r.n → ∃ g c, vs' i = .slice (some ⟨g, 0, none⟩) (strike k (r.l i)).length c := fun v hv => rdrop_c k hn (fun i _ => hlen i) v hv
  rcases hcases with h5 | ⟨h5, h6⟩
  · rw [h5]
    go_region
    have hAd : Asks w O G vs r w3.drew := hA.drewN 1
    go_wp2_with fail
    refine (hdrop _ hAd.ref).mono ?_
    rintro e w5 ⟨G', vs', rfl, hR5, hb5, hnn⟩
    have hA5 := hAd.later hb5
    have hlo : w.heap.size + 1 < G' := by
      have h1 := hR5.noG
      have h2 := hAd.res.lt
      omega
    have hR6 := (hR5.less (O' := fun b => b < w.heap.size) (fun b hb => by have := hAd.below.size; show b < _; omega)).alloc (.cells #[.slice (some ⟨G', 0, none⟩) r.n r.n, .int .i64 (r.places : Int)] 34)
    have hO6 := Blk.new w5 34 #[.slice (some ⟨G', 0, none⟩) r.n r.n, .int .i64 (r.places : Int)]
    have hA6 := hA5.later ((Below.refl _ w5).alloc (Nat.le_refl _) (.cells #[.slice (some ⟨G', 0, none⟩) r.n r.n, .int .i64 (r.places : Int)] 34))
    obtain ⟨g, c, hgv⟩ := hnn j hj
    clear hA5 hR5 hnn hdrop x0 x1
    go_upto_region 5 with (fail)
    generalize w5.alloc (.cells #[.slice (some ⟨G', 0, none⟩) r.n r.n, .int .i64 (r.places : Int)] 34) = w6 at *
    have o0 := hO6.cell 0
    have o1 := hO6.cell 1
    simp only [List.getElem?_toArray, List.getElem?_cons_zero, List.getElem?_cons_succ] at o0 o1
    have r0 := (hR6.at_ (i := j) hj).1
    rw [hgv] at r0
    have hrow := hR6.row j hj
    rw [hgv] at hrow
    have hrow : w6.ownsRow 0 9 1 (.slice (some ⟨g, 0, none⟩) (strike k (r.l j)).length c) (strike k (r.l j)).length (strsV (strike k (r.l j))) := hrow
    have hsl : (strike k (r.l j)).length < 100000 := Nat.lt_of_le_of_lt (strike_le _ _) (hlen j)
    have hkey := World.ownsRow_lit (size := 1) (e := 9) (base := w6.heap.size) w6 #[.string (str k)] 1 (Nat.le_refl _) (by unfold maxLen; omega) rfl
    have r0' := fun o => (World.cell?_of_block (a := ⟨G', j, none⟩) (Below.heap_alloc w6 o G' hR6.blk.lt)).trans r0
    have z0' := fun o => (World.frozen?_of_block (a := ⟨G', j, none⟩) (Below.heap_alloc w6 o G' hR6.blk.lt)).trans (hR6.blk.free j)
    have o0' := fun o => (World.cell?_of_block (a := ⟨w5.heap.size, 0, none⟩) (Below.heap_alloc w6 o _ hO6.lt)).trans o0
    have hnews := (hrow.alloc (.cells #[.string (str k)] 9)).cells (g := g) rfl
    have hGl := hR6.blk.lt
    have hOl := hO6.lt
    have HR6 := Lib.hid hR6
    have HO6 := Lib.hid hO6
    have HA6 := Lib.hid hA6
    generalize hL : strike k (r.l j) = L at *
    have HL := Lib.hid hL
    clear hL
    go_region_law (first
      | (refine step_append_any _ (by rfl) _ _ _ (by rfl) w6.heap.size 9 i0 _ 1 16 Tryz.underlying61 hi0 hz0 hz1 hz2 rfl (by omega) (.slice (some ⟨w6.heap.size, 0, none⟩) 1 1) 1 [.string (str k)] (by rfl) hkey.drew ⟨g, 0, none⟩ L.length c (strsV L) (by rfl) (by simp [strsV]) hnews (strsV_one L) (by omega) (by unfold maxLen; omega) (by omega) (by simp) ?_; intro gg cp w7 hown1 hgrow hat
         have x6 := (hgrow.cell_far ⟨G', j, none⟩ (by simp; omega) (by show some G' ≠ some w6.heap.size; simp; omega)).trans (r0' _)
         have x7 := (hgrow.cell_far ⟨w5.heap.size, 0, none⟩ (by simp; omega) (by show some w5.heap.size ≠ some w6.heap.size; simp; omega)).trans (o0' _)
         have z6 := (hgrow.frozen_far ⟨G', j, none⟩ (by simp; omega) (by show some G' ≠ some w6.heap.size; simp; omega)).trans (z0' _)))
    all_goals
      have hown1 := hown1
      rw [← HL.out] at hown1
      obtain ⟨e1, e2, e3, e4, e5⟩ := push_end HA6.out HR6.out HO6.out hlo hj hgrow hown1
      rw [HL.out] at e1 e2 e3 e4 e5
      have E4 := Lib.hid e4
      have E5 := Lib.hid e5
      clear e4 e5 x6 x7 z6 hat hgrow hown1
      have o0 := e1.cell 0
      have o1 := e1.cell 1
      have q0 := e2.cell 0
      have q1 := e2.cell 1
      have z0 := e2.free 0
      have z1 := e2.free 1
      have p0 := e3.cell 0
      have p1 := e3.cell 1
      simp only [List.getElem?_toArray, List.getElem?_cons_zero, List.getElem?_cons_succ] at o0 o1 q0 q1 p0 p1
      unfold putR at p0 p1
      have P0 := Lib.hid p0
      have P1 := Lib.hid p1
      unfold putR at E4 E5
      clear p0 p1 e1 e2 e3
      go_wp2_with fail
      have p0 := P0.out
      have p1 := P1.out
      (try simp only [Exit.inBlock, Exit.then])
      refine bodyPost_ret (v := .tuple #[.agg #[.slice (some ⟨G', 0, none⟩) r.n r.n, .int .i64 (r.places : Int)], .bool true]) (by simp [results, Tryz.results96, go_sem, p0, p1]) rfl ?_
      exact ⟨G', rfl, ⟨_, E4.out⟩, E5.out⟩
  · have h6' : decide ((r.places : Int) ≤ (r.many : Int)) = false := decide_eq_false (by omega)
    have h6'' : ¬ (r.places : Int) ≤ (r.many : Int) := by omega
    rw [h5]
    have hmany : ∀ v, RefAt v O G vs r → Calls Tryz.prog 72 #[.agg #[.slice (some ⟨G, 0, none⟩) r.n r.n, .int .i64 (r.places : Int)]] v fun e w' => e = .returned (.int .i64 (r.many : Int)) ∧ Below v.heap.size v w' := fun v hv => rmany_c hn hlen v hv
    go_region_held3 (fun w' => w'.cell? ⟨w.heap.size, 0, none⟩ = some (.slice (some ⟨G, 0, none⟩) r.n r.n) ∧ w'.cell? ⟨w.heap.size, 1, none⟩ = some (.int .i64 (r.places : Int)) ∧ Asks w O G vs r w')
      (first | exact ⟨x0, x1, hA⟩ | exact asksP (by assumption) (by assumption) | exact asksPd (by assumption) | exact asksPd ⟨x0, x1, hA⟩ | exact asksPn _ ⟨x0, x1, hA⟩ | exact asksPn _ (by assumption) | go_keep)
      (first | (go_at_call 72; refine (hmany _ (asksR (by assumption))).mono ?_; rintro e v ⟨rfl, hv⟩))
    have hAv : Asks w O G vs r v := asksA (by assumption)
    clear x0 x1
    have x0 := hAv.box.cell 0
    have x1 := hAv.box.cell 1
    simp only [List.getElem?_toArray, List.getElem?_cons_zero, List.getElem?_cons_succ] at x0 x1
    go_wp2_with fail
    refine (hdrop _ hAv.ref).mono ?_
    rintro e w5 ⟨G', vs', rfl, hR5, hb5, hnn⟩
    have hA5 := hAv.later hb5
    have hlo : w.heap.size + 1 < G' := by
      have h1 := hR5.noG
      have h2 := hAv.res.lt
      omega
    have hR6 := (hR5.less (O' := fun b => b < w.heap.size) (fun b hb => by have := hAv.below.size; show b < _; omega)).alloc (.cells #[.slice (some ⟨G', 0, none⟩) r.n r.n, .int .i64 (r.places : Int)] 34)
    have hO6 := Blk.new w5 34 #[.slice (some ⟨G', 0, none⟩) r.n r.n, .int .i64 (r.places : Int)]
    have hA6 := hA5.later ((Below.refl _ w5).alloc (Nat.le_refl _) (.cells #[.slice (some ⟨G', 0, none⟩) r.n r.n, .int .i64 (r.places : Int)] 34))
    obtain ⟨g, c, hgv⟩ := hnn j hj
    clear hA5 hR5 hnn hdrop x0 x1
    go_upto_region 5 with (fail)
    generalize w5.alloc (.cells #[.slice (some ⟨G', 0, none⟩) r.n r.n, .int .i64 (r.places : Int)] 34) = w6 at *
    have o0 := hO6.cell 0
    have o1 := hO6.cell 1
    simp only [List.getElem?_toArray, List.getElem?_cons_zero, List.getElem?_cons_succ] at o0 o1
    have r0 := (hR6.at_ (i := j) hj).1
    rw [hgv] at r0
    have hrow := hR6.row j hj
    rw [hgv] at hrow
    have hrow : w6.ownsRow 0 9 1 (.slice (some ⟨g, 0, none⟩) (strike k (r.l j)).length c) (strike k (r.l j)).length (strsV (strike k (r.l j))) := hrow
    have hsl : (strike k (r.l j)).length < 100000 := Nat.lt_of_le_of_lt (strike_le _ _) (hlen j)
    have hkey := World.ownsRow_lit (size := 1) (e := 9) (base := w6.heap.size) w6 #[.string (str k)] 1 (Nat.le_refl _) (by unfold maxLen; omega) rfl
    have r0' := fun o => (World.cell?_of_block (a := ⟨G', j, none⟩) (Below.heap_alloc w6 o G' hR6.blk.lt)).trans r0
    have z0' := fun o => (World.frozen?_of_block (a := ⟨G', j, none⟩) (Below.heap_alloc w6 o G' hR6.blk.lt)).trans (hR6.blk.free j)
    have o0' := fun o => (World.cell?_of_block (a := ⟨w5.heap.size, 0, none⟩) (Below.heap_alloc w6 o _ hO6.lt)).trans o0
    have hnews := (hrow.alloc (.cells #[.string (str k)] 9)).cells (g := g) rfl
    have hGl := hR6.blk.lt
    have hOl := hO6.lt
    have HR6 := Lib.hid hR6
    have HO6 := Lib.hid hO6
    have HA6 := Lib.hid hA6
    generalize hL : strike k (r.l j) = L at *
    have HL := Lib.hid hL
    clear hL
    go_region_law (first
      | (refine step_append_any _ (by rfl) _ _ _ (by rfl) w6.heap.size 9 i0 _ 1 16 Tryz.underlying61 hi0 hz0 hz1 hz2 rfl (by omega) (.slice (some ⟨w6.heap.size, 0, none⟩) 1 1) 1 [.string (str k)] (by rfl) hkey.drew ⟨g, 0, none⟩ L.length c (strsV L) (by rfl) (by simp [strsV]) hnews (strsV_one L) (by omega) (by unfold maxLen; omega) (by omega) (by simp) ?_; intro gg cp w7 hown1 hgrow hat
         have x6 := (hgrow.cell_far ⟨G', j, none⟩ (by simp; omega) (by show some G' ≠ some w6.heap.size; simp; omega)).trans (r0' _)
         have x7 := (hgrow.cell_far ⟨w5.heap.size, 0, none⟩ (by simp; omega) (by show some w5.heap.size ≠ some w6.heap.size; simp; omega)).trans (o0' _)
         have z6 := (hgrow.frozen_far ⟨G', j, none⟩ (by simp; omega) (by show some G' ≠ some w6.heap.size; simp; omega)).trans (z0' _)))
    all_goals
      have hown1 := hown1
      rw [← HL.out] at hown1
      obtain ⟨e1, e2, e3, e4, e5⟩ := push_end HA6.out HR6.out HO6.out hlo hj hgrow hown1
      rw [HL.out] at e1 e2 e3 e4 e5
      have E4 := Lib.hid e4
      have E5 := Lib.hid e5
      clear e4 e5 x6 x7 z6 hat hgrow hown1
      have o0 := e1.cell 0
      have o1 := e1.cell 1
      have q0 := e2.cell 0
      have q1 := e2.cell 1
      have z0 := e2.free 0
      have z1 := e2.free 1
      have p0 := e3.cell 0
      have p1 := e3.cell 1
      simp only [List.getElem?_toArray, List.getElem?_cons_zero, List.getElem?_cons_succ] at o0 o1 q0 q1 p0 p1
      unfold putR at p0 p1
      have P0 := Lib.hid p0
      have P1 := Lib.hid p1
      unfold putR at E4 E5
      clear p0 p1 e1 e2 e3
      go_wp2_with fail
      have p0 := P0.out
      have p1 := P1.out
      (try simp only [Exit.inBlock, Exit.then])
      refine bodyPost_ret (v := .tuple #[.agg #[.slice (some ⟨G', 0, none⟩) r.n r.n, .int .i64 (r.places : Int)], .bool true]) (by simp [results, Tryz.results96, go_sem, p0, p1]) rfl ?_
      exact ⟨G', rfl, ⟨_, E4.out⟩, E5.out⟩
end
end Go.Proofs.YtgfpedcdclgmiaaGreat.Ringy

namespace Go.Proofs.YtgfpedcdclgmiaaGreat.Ringy
open Wirey (enc txt)

def keysB (l : List Key) : List UInt8 := l.flatMap txt
def listB (l : List Key) : List UInt8 := enc l.length ++ keysB l
def Rg.putTo (r : Rg) (j : Nat) : List UInt8 := enc r.n ++ enc r.places ++ (List.range j).flatMap fun i => listB (r.l i)
def Rg.put (r : Rg) : List UInt8 := r.putTo r.n
theorem keysB_snoc (l : List Key) (k : Key) : keysB (l ++ [k]) = keysB l ++ txt k := by simp [keysB]
theorem Rg.putTo_zero (r : Rg) : r.putTo 0 = enc r.n ++ enc r.places := by simp [Rg.putTo]
theorem Rg.putTo_succ (r : Rg) (j : Nat) : r.putTo (j + 1) = r.putTo j ++ enc (r.l j).length ++ keysB (r.l j) := by
  unfold Rg.putTo
  rw [List.range_succ, List.flatMap_append]
  simp [listB]
theorem enc_ten {n : Nat} (h : n < 1000000000) : (enc n).length ≤ 10 := (Wirey.enc_len (n := n) (by omega)).2
theorem keysB_len {l : List Key} (h : ∀ k ∈ l, k.length ≤ 64) : (keysB l).length ≤ 74 * l.length := by
  induction l with
  | nil => simp [keysB]
  | cons k l ih =>
    have h1 : (txt k).length ≤ 74 := by
      have := enc_ten (n := k.length) (by have := h k (by simp); omega)
      have := h k (by simp)
      simp only [txt, List.length_append]
      omega
    have h2 := ih fun x hx => h x (by simp [hx])
    show (txt k ++ keysB l).length ≤ _
    rw [List.length_append, List.length_cons]
    omega
/-- Lists of few keys that are short. -/
structure Rg.Small (r : Rg) : Prop where
  n : r.n ≤ 100
  pl : r.places ≤ 4096
  len : ∀ i, i < r.n → (r.l i).length < 5000
  key : ∀ i, i < r.n → ∀ k ∈ r.l i, k.length ≤ 64
theorem Rg.Small.putTo {r : Rg} (h : Rg.Small r) : ∀ j, j ≤ r.n → (r.putTo j).length ≤ 20 + 400000 * j
  | 0, _ => by
    rw [Rg.putTo_zero, List.length_append]
    have := enc_ten (n := r.n) (by have := h.n; omega)
    have := enc_ten (n := r.places) (by have := h.pl; omega)
    omega
  | j + 1, hj => by
    have ih := Rg.Small.putTo h j (by omega)
    have h1 := keysB_len (h.key j (by omega))
    have h2 := h.len j (by omega)
    have h3 := enc_ten (n := (r.l j).length) (by omega)
    rw [Rg.putTo_succ, List.length_append, List.length_append]
    omega
theorem keysB_take {l : List Key} {p : Nat} (hp : p < l.length) : keysB (l.take (p + 1)) = keysB (l.take p) ++ txt (l[p]?.getD []) := by
  rw [take_snoc hp, keysB_snoc]
end Go.Proofs.YtgfpedcdclgmiaaGreat.Ringy

namespace Go.Proofs.YtgfpedcdclgmiaaGreat.Ringy
open Go.ChangeShapes Go.WideShapes Go.ChangeAt Go.RowKit
open Wirey (Blk Row str str_size str_list str_cat Kp enc txt)
open Go.ChangeMaps Go.Maps

section
variable {O : Nat → Prop} {G : Nat} {vs : Nat → Value} {r : Rg}
/-- What stands while the bytes are put. -/
structure Puts (w : World) (O : Nat → Prop) (G : Nat) (vs : Nat → Value) (r : Rg) (x : World) : Prop where
  ref : RefAt x O G vs r
  box : Blk x w.heap.size 34 #[.slice (some ⟨G, 0, none⟩) r.n r.n, .int .i64 (r.places : Int)]
  below : Below w.heap.size w x
theorem Puts.later {w x y : World} (h : Puts w O G vs r x) (hb : Below x.heap.size x y) : Puts w O G vs r y := ⟨h.ref.below hb (Nat.le_refl _), h.box.below hb h.box.lt, h.below.trans (hb.mono h.below.size)⟩
theorem Puts.drewN {w x : World} (h : Puts w O G vs r x) (n : Nat) : Puts w O G vs r (x.drewN n) := ⟨h.ref.drewN n, h.box, ⟨h.below.os, h.below.tape, h.below.output, h.below.size, h.below.block⟩⟩
theorem putsP {w x y : World} {u0 u1 : Value} (hS : x.cell? ⟨w.heap.size, 0, none⟩ = some u0 ∧ x.cell? ⟨w.heap.size, 1, none⟩ = some u1 ∧ Puts w O G vs r x) (hb : Below x.heap.size x y) :
    y.cell? ⟨w.heap.size, 0, none⟩ = some u0 ∧ y.cell? ⟨w.heap.size, 1, none⟩ = some u1 ∧ Puts w O G vs r y :=
  ⟨(World.cell?_of_block (a := ⟨w.heap.size, 0, none⟩) (hb.block _ hS.2.2.box.lt)).trans hS.1, (World.cell?_of_block (a := ⟨w.heap.size, 1, none⟩) (hb.block _ hS.2.2.box.lt)).trans hS.2.1, hS.2.2.later hb⟩
theorem putsPd {w x : World} {u0 u1 : Value} (hS : x.cell? ⟨w.heap.size, 0, none⟩ = some u0 ∧ x.cell? ⟨w.heap.size, 1, none⟩ = some u1 ∧ Puts w O G vs r x) :
    x.drew.cell? ⟨w.heap.size, 0, none⟩ = some u0 ∧ x.drew.cell? ⟨w.heap.size, 1, none⟩ = some u1 ∧ Puts w O G vs r x.drew := ⟨hS.1, hS.2.1, hS.2.2.drewN 1⟩
theorem putsPn {w x : World} {u0 u1 : Value} (m : Nat) (hS : x.cell? ⟨w.heap.size, 0, none⟩ = some u0 ∧ x.cell? ⟨w.heap.size, 1, none⟩ = some u1 ∧ Puts w O G vs r x) :
    (x.drewN m).cell? ⟨w.heap.size, 0, none⟩ = some u0 ∧ (x.drewN m).cell? ⟨w.heap.size, 1, none⟩ = some u1 ∧ Puts w O G vs r (x.drewN m) := ⟨hS.1, hS.2.1, hS.2.2.drewN m⟩
theorem putsA {w x : World} {u0 u1 : Value} (hS : x.cell? ⟨w.heap.size, 0, none⟩ = some u0 ∧ x.cell? ⟨w.heap.size, 1, none⟩ = some u1 ∧ Puts w O G vs r x) : Puts w O G vs r x := hS.2.2

theorem refnumW {n : Nat} (hn : n < 1000000000) (W : World) : Calls Tryz.prog 48 #[.int .u64 (IntKind.u64.wrap (n : Int))] W fun e w' => e = .returned (.string (str (enc n))) ∧ Below W.heap.size W w' := by
  have e : IntKind.u64.wrap (n : Int) = (n : Int) := by rw [IntKind.wrap_u64]; omega
  rw [e]
  exact Wirey.refnum_c n (by omega) W
set_option maxHeartbeats 4000000 in
set_option maxRecDepth 100000 in
theorem rput_c (hs : r.Small) (w : World) (h : RefAt w O G vs r) :
    Calls Tryz.prog 50 #[refV G r] w fun e w' => e = .returned (.string (str r.put)) ∧ Below w.heap.size w w' := by
  have hn := hs.n
  have hpl := hs.pl
  have hlen := hs.putTo
  have hsz := str_size
  unfold refV
  have hX := Blk.new w 34 #[.slice (some ⟨G, 0, none⟩) r.n r.n, .int .i64 (r.places : Int)]
  have hP0 : Puts w O G vs r (w.alloc (.cells #[.slice (some ⟨G, 0, none⟩) r.n r.n, .int .i64 (r.places : Int)] 34)) := ⟨h.alloc _, hX, (Below.refl _ w).alloc (Nat.le_refl _) _⟩
  have e0 : enc r.n ++ enc r.places = r.putTo 0 := r.putTo_zero.symm
  have l0 := hlen 0 (Nat.zero_le _)
  have l1 := enc_ten (n := r.n) (by omega)
  have l2 := enc_ten (n := r.places) (by omega)
  have x0 := hX.cell 0
  have x1 := hX.cell 1
  simp only [List.getElem?_toArray, List.getElem?_cons_zero, List.getElem?_cons_succ] at x0 x1
  go_enter Tryz.func50, Tryz.ntmps50
  go_upto_region 1 with (fail)
  generalize w.alloc (.cells #[.slice (some ⟨G, 0, none⟩) r.n r.n, .int .i64 (r.places : Int)] 34) = w1 at *
  have hcat := str_cat
  have hov : ¬ (9223372036854775807 < (enc r.n).length + (enc r.places).length) := by omega
  go_region_held3 (fun w' => w'.cell? ⟨w.heap.size, 0, none⟩ = some (.slice (some ⟨G, 0, none⟩) r.n r.n) ∧ w'.cell? ⟨w.heap.size, 1, none⟩ = some (.int .i64 (r.places : Int)) ∧ Puts w O G vs r w')
    (first | exact ⟨x0, x1, hP0⟩ | exact putsP (by assumption) (by assumption) | exact putsPd (by assumption) | exact putsPd ⟨x0, x1, hP0⟩ | exact putsPn _ ⟨x0, x1, hP0⟩ | exact putsPn _ (by assumption) | go_keep)
    (first | (go_at_call 48; refine (refnumW (by omega) _).mono ?_; rintro e v ⟨rfl, hv⟩))
  have hPv : Puts w O G vs r v := putsA (by assumption)
  clear x0 x1 hP0 e0 l0 l1 l2 hov
  have HLEN := Lib.hid hlen
  clear hlen
  go_wp2_with fail
  go_loopw [3, 4] (fun o i wr => ∃ j : Nat, j ≤ r.n ∧ i = .int .i64 j ∧ o = .string (str (r.putTo j)) ∧ Puts w O G vs r wr) (fun _ i _ => r.n - (intOf i).toNat)
  case atStart => exact ⟨0, Nat.zero_le _, rfl, rfl, hPv⟩
  case round =>
    obtain ⟨j, hj, rfl, rfl, hP⟩ := hrel
    clear hPv
    have x0 := hP.box.cell 0
    simp only [List.getElem?_toArray, List.getElem?_cons_zero] at x0
    by_cases hlt : j < r.n
    · obtain ⟨c1, a1, cc, hv1⟩ := hP.ref.at_ hlt
      rw [hv1] at c1
      clear hv1
      have hll := hs.len j hlt
      have hkk := hs.key j hlt
      have hl1 := HLEN.out j hj
      have hst := r.putTo_succ j
      have hl3 := enc_ten (n := (r.l j).length) (by omega)
      have hl4 := keysB_len hkk
      have hov : ¬ (9223372036854775807 < (r.putTo j).length + (enc (r.l j).length).length) := by omega
      have HST := Lib.hid hst
      have hnumj := fun W => Wirey.refnum_c (r.l j).length (by omega) W
      have hltd : decide ((j : Int) < (r.n : Int)) = true := decide_eq_true (by omega)
      have HL1 := Lib.hid hl1
      have HL3 := Lib.hid hl3
      have HKK := Lib.hid hkk
      clear hst hl1 hl3 hl4 hkk
      go_wp2_with fail
      refine (hnumj _).mono ?_
      rintro e w5 ⟨rfl, hb5⟩
      have hP5 := hP.later hb5
      clear hP x0 c1 hnumj
      go_wp2_with fail
      go_loopw [3, 5] (fun o i wr => ∃ p : Nat, p ≤ (r.l j).length ∧ i = .int .i64 p ∧ o = .string (str (r.putTo j ++ enc (r.l j).length ++ keysB ((r.l j).take p))) ∧ Puts w O G vs r wr) (fun _ i _ => (r.l j).length - (intOf i).toNat)
      case atStart => exact ⟨0, Nat.zero_le _, rfl, by simp [keysB], hP5⟩
      case round =>
        obtain ⟨p, hp, rfl, rfl, hP⟩ := hrel
        clear hP5 hov
        have x0 := hP.box.cell 0
        simp only [List.getElem?_toArray, List.getElem?_cons_zero] at x0
        have c1 := (hP.ref.at_ hlt).1
        by_cases hpl2 : p < (r.l j).length
        · obtain ⟨g, c2, hv2, hc2⟩ := hP.ref.text hlt hpl2
          rw [hv2] at c1
          clear hv2
          have HTK := Lib.hid (keysB_take hpl2)
          have hx64 := HKK.out _ (mem_pos_of hpl2)
          have hl5 := keysB_len (l := (r.l j).take p) (fun x hx => HKK.out x (List.mem_of_mem_take hx))
          rw [List.length_take] at hl5
          have hl1 := HL1.out
          have hl3 := HL3.out
          generalize (r.l j)[p]?.getD [] = x at *
          have hov : ¬ (9223372036854775807 < (r.putTo j ++ enc (r.l j).length ++ keysB ((r.l j).take p)).length + (txt x).length) := by
            have h6 : (txt x).length ≤ 74 := by
              have := enc_ten (n := x.length) (by omega)
              simp only [txt, List.length_append]
              omega
            simp only [List.length_append]
            omega
          clear hl1 hl3 hl5
          generalize keysB ((r.l j).take p) = kb at *
          generalize hA : r.putTo j ++ enc (r.l j).length ++ kb = A at *
          have HA := Lib.hid hA
          clear hA
          have htx := fun W => Wirey.reftext_c x (by omega) W
          go_wp2_with fail
          refine (htx _).mono ?_
          rintro e w6 ⟨rfl, hb6⟩
          have hP6 := hP.later hb6
          go_wp2_with fail
          go_roundw
          case rel => exact ⟨p + 1, by omega, rfl, by rw [HTK.out, ← List.append_assoc, HA.out], hP6⟩
          case measure => simp [intOf]; omega
        · obtain rfl : p = (r.l j).length := by omega
          obtain ⟨av, ac, hav⟩ := (hP.ref.at_ hlt).2
          rw [hav] at c1
          clear hav
          rw [List.take_length, ← HST.out]
          go_wp2_with fail
          go_roundw
          case rel => exact ⟨j + 1, by omega, rfl, rfl, hP⟩
          case measure => simp [intOf]; omega
    · obtain rfl : j = r.n := by omega
      go_wp2_with fail
      go_ret
      exact ⟨rfl, hP.below⟩
end
end Go.Proofs.YtgfpedcdclgmiaaGreat.Ringy
