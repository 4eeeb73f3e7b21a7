/- The document's own lists: new ones, and those without a key. No condition. -/
import Derived.Test.YtncgfnocokippaaGreatRingRefAll
import Derived.Test.YtncgfnocokippaaGreatSq
namespace Go.Proofs.YtncgfnocokippaaGreat.Ringy
open Go.ChangeShapes Go.WideShapes Go.ChangeAt Go.RowKit
open Wirey (Blk Row str str_size str_list Kp)
open Go.ChangeMaps Go.Maps

def nilV : Value := .slice none 0 0
theorem strs_info : (Tryz.prog.info? 57).map (fun i => (i.zero, i.size, i.bytes)) = some (some (.slice none 0 0), 1, 24) := by kernel_rfl
theorem mk_rows {n : Nat} (h : n ≤ 100) (w : World) : (Instr.makeSlice 28 (.int .i64 n) (.int .i64 n)).run Tryz.prog w = .ok (.slice (some ⟨w.heap.size, 0, none⟩) n n) (w.alloc (.cells ((List.range n).map fun _ => nilV).toArray 57)) := by
 obtain ⟨i0, hi, hz0, hz1, hz2⟩ := info_parts strs_info
 have h := run_make (P := Tryz.prog) w 28 57 i0 (.slice none 0 0) Tryz.underlying28 hi hz0 .i64 .i64 (n : Int) (n : Int) (by omega) (by omega) (by rw [hz2]; omega) (by omega)
 rw [h, hz1, Int.toNat_natCast, Nat.mul_one]
 have e : madeCells (Value.slice none 0 0).cells n = ((List.range n).map fun _ => nilV).toArray := by
  show madeCells #[Value.slice none 0 0] n = _
  apply Array.ext'
  rw [toList_madeCells_one]
  apply List.ext_getElem?
  intro t
  rw [List.getElem?_replicate]
  by_cases ht : t < n
  ·rw [if_pos ht]; simp [ht, nilV]
  ·rw [if_neg ht]; simp [ht]
 rw [e]
section
variable {w w' : World} {O O' : Nat → Prop} {G : Nat} {vs : Nat → Value} {r r' : Rg}
theorem RefAt.less (h : RefAt w O G vs r) (hO : ∀ b, O' b → O b) : RefAt w O' G vs r := ⟨h.blk, h.row, fun e => h.noG (hO _ e), fun i g hi hg e => h.noR i g hi hg (hO _ e)⟩
def updV (vs : Nat → Value) (j : Nat) (v : Value) (t : Nat) : Value := if t = j then v else vs t
theorem RefAt.set (h : RefAt w O G vs r) {j : Nat} (hj : j < r.n) {v : Value} {l : List Key} (hv : w.ownsRow 0 9 1 v l.length (strsV l)) (hO : ∀ g, v.ownBlock = some g → ¬ O g) (hn : r'.n = r.n) (hl : ∀ i, i < r.n → r'.l i = if i = j then l else r.l i) :
  RefAt (w.setCell ⟨G, j, none⟩ v) O G (updV vs j v) r' := by
 have hrow : ∀ (u : Value) (n : Nat) (xs : List Value), w.ownsRow 0 9 1 u n xs → (w.setCell ⟨G, j, none⟩ v).ownsRow 0 9 1 u n xs := fun u n xs hu =>
  ownsRow_stay hu fun b hb => far (by obtain ⟨c, hc⟩ := owned_blk hu hb; exact hc.ne_ h.blk (by decide)) _
 refine ⟨?_, fun i hi => ?_, h.noG, fun i g hi hg => ?_⟩
 ·have := h.blk.put j v
  have e : ((List.range r.n).map vs).toArray.setIfInBounds j v = ((List.range r'.n).map (updV vs j v)).toArray := by
   rw [hn, List.setIfInBounds_toArray]
   congr 1
   apply List.ext_getElem?
   intro t
   rw [List.getElem?_set]
   by_cases ht : t < r.n
   ·by_cases e : j = t
    ·subst e; rw [if_pos rfl, if_pos (by simpa using ht)]; simp [ht, updV]
    ·rw [if_neg e]; simp only [List.getElem?_map, List.getElem?_range ht]; simp only [Option.map_some, updV]; rw [if_neg (fun h => e h.symm)]
   ·rw [if_neg (by omega)]; simp [ht]
  rw [e] at this
  exact this
 ·rw [hn] at hi
  rw [hl i hi]
  unfold updV
  by_cases e : i = j
  ·rw [if_pos e, if_pos e]; exact hrow _ _ _ hv
  ·rw [if_neg e, if_neg e]; exact hrow _ _ _ (h.row i hi)
 ·rw [hn] at hi
  unfold updV at hg
  by_cases e : i = j
  ·rw [if_pos e] at hg; exact hO g hg
  ·rw [if_neg e] at hg; exact h.noR i g hi hg
end

set_option maxHeartbeats 2000000 in
theorem rnew_c {n places : Nat} (h2 : n ≤ 100) (w : World) :
  Calls Tryz.prog 51 #[.int .i64 n, .int .i64 places] w fun e w' => ∃ G vs, e = .returned (refV G (Rg.new n places)) ∧ RefAt w' (fun b => b < w.heap.size) G vs (Rg.new n places) ∧ Below w.heap.size w w' := by
 have hmk := fun W => mk_rows h2 W
 have hs1 : (w.alloc (.cells #[.slice none 0 0, .int .i64 0] 30)).heap.size = w.heap.size + 1 := by simp
 have hX := Blk.new w 30 #[.slice none 0 0, .int .i64 0]
 have hb := (Below.refl _ w).alloc (Nat.le_refl _) (.cells #[.slice none 0 0, .int .i64 0] 30)
 go_enter Tryz.func51, Tryz.ntmps51
 go_upto_region 1 with (fail)
 generalize w.alloc (.cells #[.slice none 0 0, .int .i64 0] 30) = w1 at *
 have hY := Blk.new w1 57 ((List.range n).map fun _ => nilV).toArray
 have hX2 := hX.alloc (.cells ((List.range n).map fun _ => nilV).toArray 57)
 have hb2 := hb.alloc (by omega) (.cells ((List.range n).map fun _ => nilV).toArray 57)
 have HMK := Lib.hid (hmk w1)
 clear hmk
 generalize hw2 : w1.alloc (.cells ((List.range n).map fun _ => nilV).toArray 57) = w2 at *
 have hmk := HMK.out
 clear HMK hw2
 have q0 := hX2.cell 0
 have q1 := hX2.cell 1
 have z0 := hX2.free 0
 have z1 := hX2.free 1
 simp only [gA, gB, gC] at q0 q1
 have hX3 := (hX2.put 0 (.slice (some ⟨w1.heap.size, 0, none⟩) n n)).put 1 (.int .i64 places)
 have hne : w1.heap.size ≠ w.heap.size := by omega
 have hY3 := (hY.far (p := ⟨w.heap.size, 0, none⟩) hne (.slice (some ⟨w1.heap.size, 0, none⟩) n n)).far (p := ⟨w.heap.size, 1, none⟩) hne (.int .i64 places)
 have hb3 := (hb2.setCell (p := ⟨w.heap.size, 0, none⟩) (Nat.le_refl _) (.slice (some ⟨w1.heap.size, 0, none⟩) n n)).setCell (p := ⟨w.heap.size, 1, none⟩) (Nat.le_refl _) (.int .i64 places)
 have HS := Lib.hid hs1
 clear hs1 hX hY hX2 hb hb2
 go_wp2_with fail
 generalize (w2.setCell ⟨w.heap.size, 0, none⟩ (.slice (some ⟨w1.heap.size, 0, none⟩) n n)).setCell ⟨w.heap.size, 1, none⟩ (.int .i64 places) = w3 at *
 have p0 := hX3.cell 0
 have p1 := hX3.cell 1
 simp only [List.setIfInBounds_toArray, List.set_cons_zero, List.set_cons_succ, List.getElem?_toArray, List.getElem?_cons_zero, List.getElem?_cons_succ] at p0 p1
 (try simp only [Exit.inBlock, Exit.then])
 refine bodyPost_ret (v := .agg #[.slice (some ⟨w1.heap.size, 0, none⟩) n n, .int .i64 places]) (by simp [results, Tryz.results51, go_sem, p0, p1]) rfl ?_
 refine ⟨w1.heap.size, fun _ => nilV, rfl, ⟨hY3, fun i hi => World.ownsRow_nil _ _ _ _, by have := HS.out; omega, fun i g hi hg => by cases hg⟩, hb3⟩

theorem RefAt.alike {w : World} {O : Nat → Prop} {G : Nat} {vs : Nat → Value} {r r' : Rg} (h : RefAt w O G vs r) (hn : r'.n = r.n) (hl : ∀ i, i < r.n → r'.l i = r.l i) : RefAt w O G vs r' :=
 ⟨by rw [hn]; exact h.blk, fun i hi => by rw [hn] at hi; rw [hl i hi]; exact h.row i hi, h.noG, fun i g hi hg => by rw [hn] at hi; exact h.noR i g hi hg⟩
def Rg.dropTo (r : Rg) (k : Key) (j : Nat) : Rg := ⟨r.n, r.places, fun t => if t < j then strike k (r.l t) else []⟩
section
variable {O : Nat → Prop} {G : Nat} {vs : Nat → Value} {r : Rg}
set_option maxHeartbeats 4000000 in
set_option maxRecDepth 100000 in
theorem rdrop_c (k : Key) (hn : r.n ≤ 100) (hlen : ∀ i, i < r.n → (r.l i).length < 100000) (w : World) (h : RefAt w O G vs r) :
  Calls Tryz.prog 84 #[refV G r, .string (str k)] w fun e w' => ∃ G' vs', e = .returned (refV G' (r.drop k)) ∧ RefAt w' (fun b => b < w.heap.size) G' vs' (r.drop k) ∧ Below w.heap.size w w' ∧ ∀ i, i < r.n → ∃ g c, vs' i = .slice (some ⟨g, 0, none⟩) (strike k (r.l i)).length c := by
 have htl := Wirey.toList_str
 replace h : RefAt w (fun b => w.heap.size ≤ b) G vs r := h.free (Nat.not_le_of_lt h.blk.lt) (fun i g hi hg => Nat.not_le_of_lt ((h.row i hi).lt g hg).2)
 obtain ⟨i0, hi0, hz0, hz1, hz2⟩ := info_parts str_info
 have hX := Blk.new w 30 #[.slice (some ⟨G, 0, none⟩) r.n r.n, .int .i64 r.places]
 have hs1 : (w.alloc (.cells #[.slice (some ⟨G, 0, none⟩) r.n r.n, .int .i64 r.places] 30)).heap.size = w.heap.size + 1 := by simp
 have hY := Blk.new (w.alloc (.cells #[.slice (some ⟨G, 0, none⟩) r.n r.n, .int .i64 r.places] 30)) 30 #[.slice none 0 0, .int .i64 0]
 rw [hs1] at hY
 have hX2 := hX.alloc (.cells #[.slice none 0 0, .int .i64 0] 30)
 have h2 := (h.alloc (.cells #[.slice (some ⟨G, 0, none⟩) r.n r.n, .int .i64 r.places] 30)).alloc (.cells #[.slice none 0 0, .int .i64 0] 30)
 have hb2 := ((Below.refl _ w).alloc (Nat.le_refl _) (.cells #[.slice (some ⟨G, 0, none⟩) r.n r.n, .int .i64 r.places] 30)).alloc (by omega) (.cells #[.slice none 0 0, .int .i64 0] 30)
 have hs2 : ((w.alloc (.cells #[.slice (some ⟨G, 0, none⟩) r.n r.n, .int .i64 r.places] 30)).alloc (.cells #[.slice none 0 0, .int .i64 0] 30)).heap.size = w.heap.size + 2 := by simp
 unfold refV
 go_enter Tryz.func84, Tryz.ntmps84
 go_upto_region 1 with (fail)
 generalize (w.alloc (.cells #[.slice (some ⟨G, 0, none⟩) r.n r.n, .int .i64 r.places] 30)).alloc (.cells #[.slice none 0 0, .int .i64 0] 30) = w2 at *
 have HS2 := Lib.hid hs2
 clear hX hs1 hs2 h
 have x0 := hX2.cell 0
 have x1 := hX2.cell 1
 simp only [gA, gB, gC] at x0 x1
 have hnew : Calls Tryz.prog 51 #[.int .i64 r.n, .int .i64 r.places] w2 fun e w' => ∃ G' vs', e = .returned (.agg #[.slice (some ⟨G', 0, none⟩) r.n r.n, .int .i64 r.places]) ∧ RefAt w' (fun b => b < w2.heap.size) G' vs' (Rg.new r.n r.places) ∧ Below w2.heap.size w2 w' := rnew_c (places := r.places) hn w2
 go_wp2_with fail
 refine hnew.mono ?_
 clear hnew
 rintro e w3 ⟨G', vs', rfl, hR3, hb3⟩
 have hR3' := (hR3.less (O' := fun b => b < w.heap.size) (fun b hb => by have := HS2.out; show b < _; omega)).alike (r' := r.dropTo k 0) rfl (fun i _ => rfl)
 have hG' : w2.heap.size ≤ G' := Nat.le_of_not_lt hR3.noG
 have hG3 : G' < w3.heap.size := hR3.blk.lt
 have hR4 := hR3'.alloc (.cells #[.slice (some ⟨G', 0, none⟩) r.n r.n, .int .i64 r.places] 30)
 have hO4 := Blk.new w3 30 #[.slice (some ⟨G', 0, none⟩) r.n r.n, .int .i64 r.places]
 have hb4 := hb3.alloc hb3.size (.cells #[.slice (some ⟨G', 0, none⟩) r.n r.n, .int .i64 r.places] 30)
 clear hR3 hR3' x0 x1
 go_upto_region 2 with (fail)
 generalize w3.alloc (.cells #[.slice (some ⟨G', 0, none⟩) r.n r.n, .int .i64 r.places] 30) = w4 at *
 have h4 := h2.below hb4 (Nat.le_refl _)
 have hX4 := hX2.below hb4 (by have := hX2.lt; omega)
 have hY4 := hY.below hb4 (by have := hY.lt; omega)
 have HB4 := Lib.hid (hb2.trans (hb4.mono (by have := HS2.out; omega)))
 clear h2 hX2 hY hb2 hb4 hb3
 go_wp2_with fail
 go_loopw [6] (fun i wr => ∃ (j : Nat) (vs' : Nat → Value), j ≤ r.n ∧ i = .int .i64 j ∧ RefAt wr (fun b => b < w.heap.size) G' vs' (r.dropTo k j) ∧ Kp (fun b => b = G') w4 wr ∧ ∀ i, i < j → ∃ g c, vs' i = .slice (some ⟨g, 0, none⟩) (strike k (r.l i)).length c) (fun i _ => r.n - (intOf i).toNat)
 case atStart => exact ⟨0, vs', Nat.zero_le _, rfl, hR4, Kp.refl _ _, fun i hi => by omega⟩
 case round =>
  obtain ⟨j, vs', hj, rfl, hR, hkp, hnn⟩ := hrel
  have HNN := Lib.hid hnn
  clear hR4 hnn
  have hXr := hkp.blk hX4 (by have := HS2.out; omega)
  have hYr := hkp.blk hY4 (by have := HS2.out; omega)
  have hOr := hkp.blk hO4 (by omega)
  have hr := h4.stay (w' := wr) fun b hb hn => hkp.block b hb (fun e => hn (by rw [e]; have := HS2.out; omega))
  have hG'w : G' < wr.heap.size := hR.blk.lt
  have hw4 := hkp.size
  by_cases hlt : j < r.n
  ·obtain ⟨c1, a1, cc, hv⟩ := hr.at_ hlt
   have hll := hlen j hlt
   rw [hv] at c1
   have HV := Lib.hid hv
   clear hv
   have x0 := hXr.cell 0
   simp only [List.getElem?_toArray, List.getElem?_cons_zero] at x0
   have hltd : decide ((j : Int) < (r.n : Int)) = true := decide_eq_true (by omega)
   go_upto_region 6 with (fail)
   have hb5 := (Below.refl _ wr).alloc (Nat.le_refl _) (.cells #[] 9)
   have hown5 := World.ownsRow_lit (size := 1) (e := 9) (base := wr.heap.size) wr #[] 0 (Nat.le_refl _) (Nat.zero_le _) rfl
   generalize wr.alloc (.cells #[] 9) = w5 at *
   generalize hs7 : Value.slice (some ⟨wr.heap.size, 0, none⟩) 0 0 = v7 at *
   have H7 : Hid (∃ g c, v7 = .slice (some ⟨g, 0, none⟩) 0 c) := Lib.hid ⟨_, _, hs7.symm⟩
   clear hs7 x0
   generalize hwq : wr = wq at *
   clear hwq
   have x0 := (hXr.below hb5 (by have := hXr.lt; omega)).cell 0
   simp only [List.getElem?_toArray, List.getElem?_cons_zero] at x0
   have c1' := (World.cell?_of_block (a := ⟨G, j, none⟩) (hb5.block G hr.blk.lt)).trans c1
   go_wp2_with fail
   go_loopw [7, 8] (fun v2 i wr => ∃ p : Nat, p ≤ (r.l j).length ∧ i = .int .i64 p ∧ wr.ownsRow wq.heap.size 9 1 v2 (strike k ((r.l j).take p)).length (strsV (strike k ((r.l j).take p))) ∧ Below wq.heap.size wq wr ∧ ∃ g c, v2 = .slice (some ⟨g, 0, none⟩) (strike k ((r.l j).take p)).length c) (fun _ i _ => (r.l j).length - (intOf i).toNat)
   case atStart => exact ⟨0, Nat.zero_le _, rfl, hown5, hb5, H7.out⟩
   case round =>
    obtain ⟨p, hp, rfl, hown, hbw, hv8⟩ := hrel
    have HV8 := Lib.hid hv8
    clear hown5 hb5 x0 c1' c1 hv8
    have hXp := hXr.below hbw hXr.lt
    have hOp := hOr.below hbw hOr.lt
    have hrp := hr.below hbw (Nat.le_refl _)
    have hRp := hR.below hbw (Nat.le_refl _)
    have x0 := hXp.cell 0
    have o0 := hOp.cell 0
    simp only [List.getElem?_toArray, List.getElem?_cons_zero] at x0 o0
    have c1 := (hrp.at_ hlt).1
    have hws := hbw.size
    by_cases hpl : p < (r.l j).length
    ·obtain ⟨g, c2, hv2, hc2⟩ := hrp.text hlt hpl
     rw [hv2] at c1
     have HTK := Lib.hid (take_snoc hpl)
     generalize (r.l j)[p]?.getD [] = x at *
     have HX := Lib.hid hXp
     clear hXr hXp hOr hOp hr hrp hR hRp h4 hX4 hY4 hO4 hYr hkp hv2
     by_cases e : x = k
     ·have e2 : (x == k) = true := beq_iff_eq.2 e
      have hst : strike k ((r.l j).take (p + 1)) = strike k ((r.l j).take p) := by rw [HTK.out, strike_snoc, if_pos e]
      have HST := Lib.hid hst
      clear e hst
      go_wp2_with fail
      go_roundw
      case rel => exact ⟨p + 1, by omega, rfl, by rw [HST.out]; exact hown, hbw, by rw [HST.out]; exact HV8.out⟩
      case measure => simp [intOf]; omega
     ·have e2 : (x == k) = false := beq_eq_false_iff_ne.2 e
      have hst : strike k ((r.l j).take (p + 1)) = strike k ((r.l j).take p) ++ [x] := by rw [HTK.out, strike_snoc, if_neg e]
      have hln : (strike k ((r.l j).take p)).length ≤ 100000 := by
       have h1 := strike_le k ((r.l j).take p)
       rw [List.length_take] at h1
       omega
      have HST := Lib.hid hst
      clear e hst
      generalize strike k ((r.l j).take p) = L at *
      go_wp2_with (first | (refine wpList_append_lies _ (by rfl) _ _ _ (by rfl) wq.heap.size 9 i0 _ 1 16 Tryz.underlying57 hi0 hz0 hz1 hz2 rfl (by omega) u7 L.length (strsV L) (by rfl) (hown.alloc _) ⟨wr.heap.size, 0, none⟩ 1 1 [.string (str x)] (by rfl) (by rfl) (World.news_of_block (cs := #[.string (str x)]) (t := 9) (fr := (0, 0)) (heap_alloc_new wr _)) (by simp [Value.oneCell']) (by omega) (by simp [maxLen]; omega) (by omega) (by simp; omega) (wr.heap.size + 1) (by simp) ?_; intro gg cp w7 hown1 hgrow hat3 hlt3))
      go_roundw
      case rel =>
       rw [← strsV_snoc] at hown1
       refine ⟨p + 1, by omega, by simp, ?_, ?_, ?_⟩
       ·rw [HST.out]; simpa using hown1
       ·exact (hbw.alloc hws _).trans ⟨hgrow.os, hgrow.tape, hgrow.output, hgrow.size, fun b hb => hgrow.block b (by simp; omega) (fun e => by have := (hown.lt b e.symm).1; omega)⟩
       ·rw [HST.out]; exact ⟨gg, cp, by simp⟩
      case measure => simp [intOf]; omega
    ·obtain rfl : p = (r.l j).length := by omega
     rw [List.take_length] at hown
     obtain ⟨av, ac, hav⟩ := (hrp.at_ hlt).2
     rw [hav] at c1
     have q1 := (hRp.at_ (i := j) hlt).1
     have qf := hRp.blk.free j
     have hv8 := HV8.out
     rw [List.take_length] at hv8
     obtain ⟨a2, c2, hv7⟩ := hv8
     have hSet := hRp.set (r' := r.dropTo k (j + 1)) (j := j) (v := u7) hlt (own_low hown) (fun g hg => by have := (hown.lt g hg).1; have := HB4.out.size; show ¬ g < w.heap.size; omega) rfl (fun i hi => by
       show (if i < j + 1 then strike k (r.l i) else []) = if i = j then strike k (r.l j) else (if i < j then strike k (r.l i) else [])
       by_cases e : i = j
       · rw [if_pos e, if_pos (by omega), e]
       · rw [if_neg e]
         by_cases e2 : i < j
         · rw [if_pos e2, if_pos (by omega)]
         · rw [if_neg e2, if_neg (by omega)])
     have hKp : Kp (fun b => b = G') w4 (wr.setCell ⟨G', j, none⟩ u7) := (hkp.trans ⟨hbw.os, hbw.tape, hbw.output, hbw.size, fun b hb _ => hbw.block b hb⟩).set (p := ⟨G', j, none⟩) rfl _
     rw [hv7] at hSet hKp
     have HSet := Lib.hid hSet
     have HKp := Lib.hid hKp
     clear hXr hXp hOr hOp hr hrp hR hRp h4 hX4 hY4 hO4 hYr hkp hav hSet hKp hown
     have hltd3 : decide ((j : Int) < (r.n : Int)) = true := decide_eq_true (by omega)
     rw [hv7]
     go_wp2_with fail
     go_roundw
     case rel => exact ⟨j + 1, _, by omega, rfl, HSet.out, HKp.out, fun i hi => by
       unfold updV
       by_cases e : i = j
       · rw [if_pos e, e]; exact ⟨_, _, rfl⟩
       · rw [if_neg e]; exact HNN.out i (by omega)⟩
     case measure => simp [intOf]; omega
  ·obtain rfl : j = r.n := by omega
   have x0 := hXr.cell 0
   have o0 := hOr.cell 0
   have o1 := hOr.cell 1
   have q0 := hYr.cell 0
   have q1 := hYr.cell 1
   have z0 := hYr.free 0
   have z1 := hYr.free 1
   simp only [gA, gB, gC] at x0 o0 o1 q0 q1
   have hY3 := (hYr.put 0 (.slice (some ⟨G', 0, none⟩) r.n r.n)).put 1 (.int .i64 r.places)
   have hK3 : Kp (fun b => b = G' ∨ b = w.heap.size + 1) w4 ((wr.setCell ⟨w.heap.size + 1, 0, none⟩ (.slice (some ⟨G', 0, none⟩) r.n r.n)).setCell ⟨w.heap.size + 1, 1, none⟩ (.int .i64 r.places)) :=
    ((Kp.mk hkp.os hkp.tape hkp.output hkp.size (fun b hb hn => hkp.block b hb (fun e => hn (.inl e)))).set (p := ⟨w.heap.size + 1, 0, none⟩) (.inr rfl) _).set (p := ⟨w.heap.size + 1, 1, none⟩) (.inr rfl) _
   have hgr : Kp (fun b => b = w.heap.size + 1) wr ((wr.setCell ⟨w.heap.size + 1, 0, none⟩ (.slice (some ⟨G', 0, none⟩) r.n r.n)).setCell ⟨w.heap.size + 1, 1, none⟩ (.int .i64 r.places)) :=
    ((Kp.refl (fun b => b = w.heap.size + 1) wr).set (p := ⟨w.heap.size + 1, 0, none⟩) rfl _).set (p := ⟨w.heap.size + 1, 1, none⟩) rfl _
   have hR3 : RefAt ((wr.setCell ⟨w.heap.size + 1, 0, none⟩ (.slice (some ⟨G', 0, none⟩) r.n r.n)).setCell ⟨w.heap.size + 1, 1, none⟩ (.int .i64 r.places)) (fun b => b < w.heap.size) G' vs' (r.drop k) := by
    refine RefAt.alike (r := r.dropTo k r.n) ?_ rfl (fun i hi => by show strike k (r.l i) = if i < r.n then strike k (r.l i) else []; have hi : i < r.n := hi; rw [if_pos hi])
    refine ⟨hgr.blk hR.blk (by have := HS2.out; omega), fun i hi => ownsRow_stay (hR.row i hi) fun b hb => hgr.block b ((hR.row i hi).lt b hb).2 (fun e => ?_), hR.noG, hR.noR⟩
    obtain ⟨c, hc⟩ := owned_blk (hR.row i hi) hb
    exact hc.ne_ hYr (by decide) e
   have hB3 : Below w.heap.size w ((wr.setCell ⟨w.heap.size + 1, 0, none⟩ (.slice (some ⟨G', 0, none⟩) r.n r.n)).setCell ⟨w.heap.size + 1, 1, none⟩ (.int .i64 r.places)) :=
    HB4.out.trans ⟨hK3.os, hK3.tape, hK3.output, hK3.size, fun b hb => hK3.block b (by have := HB4.out.size; omega) (fun e => by have := HS2.out; rcases e with e | e <;> omega)⟩
   have HR3 := Lib.hid hR3
   have HB3 := Lib.hid hB3
   clear hR3 hB3 hgr hK3 hR hkp hXr hYr hOr hr h4 hX4 hY4 hO4
   go_wp2_with fail
   generalize (wr.setCell ⟨w.heap.size + 1, 0, none⟩ (.slice (some ⟨G', 0, none⟩) r.n r.n)).setCell ⟨w.heap.size + 1, 1, none⟩ (.int .i64 r.places) = w9 at *
   have p0 := hY3.cell 0
   have p1 := hY3.cell 1
   simp only [List.setIfInBounds_toArray, List.set_cons_zero, List.set_cons_succ, List.getElem?_toArray, List.getElem?_cons_zero, List.getElem?_cons_succ] at p0 p1
   (try simp only [Exit.inBlock, Exit.then])
   refine bodyPost_ret (v := .agg #[.slice (some ⟨G', 0, none⟩) r.n r.n, .int .i64 r.places]) (by simp [results, Tryz.results84, go_sem, p0, p1]) rfl ?_
   exact ⟨G', vs', rfl, HR3.out, HB3.out, HNN.out⟩
end
end Go.Proofs.YtncgfnocokippaaGreat.Ringy
