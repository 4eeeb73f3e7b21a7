/- The document's policy in memory: what each of its calls comes to, of whichever kind it is. The only condition: it is as chapters 7 and 8 have it. -/
import Derived.Test.YtncgfnocokippaaGreatPolicyTold
import Derived.Test.YtncgfnocokippaaGreatSq
namespace Go.Proofs.YtncgfnocokippaaGreat.Policyy
open Go.ChangeShapes Go.WideShapes Go.ChangeAt Go.RowKit
open Wirey (Blk Row str str_size str_list str_take str_cat Kp)
open Ringy hiding fewL fewL_le
open Arcy (Av Dat)
open Tinyy (Tv Dt Ad)

inductive DP (x : World) : Pv → (Nat → Value) → (Nat → Prop) → Prop where
 | a {v : Av} {G : Nat} {vs : Nat → Value} (h : Dat x v G vs) : DP x (.a v) (cA v G) (fun q => ¬ NotIn q G vs 4)
 | t {v : Tv} {a : Ad} (h : Dt x v a) : DP x (.t v) (cT v a) a.has
section
variable {w x y : World} {p p' : Pv} {c c' : Nat → Value} {H H' O : Nat → Prop} {k : Key} {n : Nat}
theorem Pv.Out.fineA {v : Av} (h : Pv.Out (.a v)) : v.Fine := ⟨h.1, h.2⟩
theorem Pv.Out.fineT {v : Tv} (h : Pv.Out (.t v)) : v.Fine := ⟨h.1.fit, h.2⟩
theorem Pv.Out.ofA {v : Av} (h : v.Fine) : Pv.Out (.a v) := ⟨h.ok, h.out⟩
theorem Pv.Out.touch (h : p.Out) (k : Key) : (p.touch k).Out := by
 cases p with
 | a v => exact .ofA (h.fineA.touch (Arcy.Av.touch_ok h.1 k).1)
 | t v => exact ⟨(Tinyy.Tv.touch_spec h.1 k).1, Tinyy.Tv.Out.touch h.2 k⟩
theorem Pv.Out.drop (h : p.Out) (k : Key) : (p.drop k).Out := by
 cases p with
 | a v => exact .ofA (h.fineA.dr k)
 | t v => exact ⟨h.1.dr k, Tinyy.Tv.Out.dr h.2 k⟩
theorem Pv.Out.evict (h : p.Out) : p.evict.Out := by
 cases p with
 | a v => exact .ofA (h.fineA.repl false)
 | t v => exact ⟨(Tinyy.Tv.evict_ok h.1).1, Tinyy.Tv.Out.evict h.2⟩
theorem Pv.Out.insert (h : p.Out) (k : Key) : (p.insert k).Out := by
 cases p with
 | a v => exact .ofA (h.fineA.insert k)
 | t v => exact ⟨(Tinyy.Tv.insert_ok h.1 k).1, Tinyy.Tv.Out.insert h.2 k⟩
theorem Pv.Out.miss (h : p.Out) (k : Key) : (p.miss k).Out := by
 cases p with
 | a v => exact h
 | t v =>
  show Pv.Out (if v.has k = true then .t v else .t (v.miss k))
  split
  ·exact h
  ·exact ⟨(Tinyy.Tv.miss_ok h.1 k).1, Tinyy.Tv.Out.miss h.2 k⟩
theorem Pv.new_out {kind n seed : Nat} (h1 : 1 ≤ n) (h2 : n ≤ 1000) (h3 : seed < 18446744073709551616) : (Pv.new kind n seed).Out := by
 unfold Pv.new
 split
 ·exact ⟨Arcy.Av.new_ok h1 h2, fun i hi => by
     show (Rg.new 4 (2 * n + 1)).l i = []
     rfl⟩
 ·exact ⟨Tinyy.Tv.new_ok h1 h2 h3, (Tinyy.Tv.new_fine h1 h2 h3).out⟩
theorem DP.one (h : DP x p c H) : One c := by
 cases h with
 | a h => exact cA_one _ _
 | t h => exact cT_one _ _
theorem DP.formA {v : Av} (h : DP x (.a v) c H) : ∃ G, c = cA v G := by
 cases h with
 | a h => exact ⟨_, rfl⟩
theorem DP.formT {v : Tv} (h : DP x (.t v) c H) : ∃ a, c = cT v a := by
 cases h with
 | t h => exact ⟨_, rfl⟩
theorem DP.lt (h : DP x p c H) (hg : p.Out) : ∀ q, H q → q < x.heap.size := by
 cases h with
 | @a v G vs h =>
  intro q hq
  refine Classical.byContradiction fun hn => hq ?_
  have h9 := RefAt.not_in h (q := q) (by omega)
  rwa [show v.rg.n = 4 from hg.1.n] at h9
 | t h => exact fun q hq => h.lt hg.1.fit.n hq
theorem DP.kp (h : DP x p c H) (hg : p.Out) (hk : Kp O x y) (hO : ∀ q, O q → ¬ H q) : DP y p c H := by
 cases h with
 | @a v G vs h =>
  have hn : v.rg.n = 4 := hg.1.n
  have hni : ∀ q, O q → NotIn q G vs 4 := fun q hq => Classical.byContradiction fun hh => hO q hq hh
  have h1 : RefAt x O G vs v.rg := RefAt.free h (fun ho => (hni G ho).1 rfl) (fun i g hi hg2 ho => (hni g ho).2 i g (by omega) hg2 rfl)
  exact .a (RefAt.less (h1.stay fun b hb hnb => hk.block b hb hnb) fun b hb => hb.elim)
 | t h => exact .t (h.stay hg.1.fit.n hk.size fun q hq => hk.block q (h.lt hg.1.fit.n hq) fun ho => hO q ho hq)
theorem DP.onto (h : DP x p c H) (hb : Below x.heap.size x y) : DP y p c H := by
 cases h with
 | a h => exact .a (RefAt.below h hb (Nat.le_refl _))
 | t h => exact .t (h.onto hb)
structure DGo (w : World) (H : Nat → Prop) (p' : Pv) (c' : Nat → Value) (H' : Nat → Prop) (x : World) : Prop where
 d : DP x p' c' H'
 below : Below w.heap.size w x
 new : ∀ q, H' q → H q ∨ w.heap.size ≤ q
def Lay (w : World) (H : Nat → Prop) (p' : Pv) (d : Nat → Value) (x : World) : Prop := ∃ H', DP x p' d H' ∧ ∀ q, H' q → H q ∨ w.heap.size + 2 ≤ q
theorem Lay.end (h : Lay w H p' c' x) (hl : ∀ q, H q → q < w.heap.size) (hg : p'.Out) (hk : Kp (fun q => q = w.heap.size ∨ q = w.heap.size + 1) x y) (hb : Below w.heap.size w x) : ∃ H', DGo w H p' c' H' y := by
 obtain ⟨H', h1, h2⟩ := h
 refine ⟨H', h1.kp hg hk (fun q hq hh => ?_), ⟨hk.os.trans hb.os, hk.tape.trans hb.tape, hk.output.trans hb.output, Nat.le_trans hb.size hk.size, fun q hq => (hk.block q (Nat.lt_of_lt_of_le hq hb.size) (by omega)).trans (hb.block q hq)⟩, fun q hq => (h2 q hq).imp id (by omega)⟩
 rcases h2 q hh with h3 | h3
 ·have := hl q h3; omega
 ·omega
theorem Lay.ofA {v' : Av} {G G' : Nat} {vs vs' : Nat → Value} {W : World} (hz : w.heap.size + 2 ≤ W.heap.size) (h : Arcy.Goes W G vs v' G' vs' x) : Lay w (fun q => ¬ NotIn q G vs 4) (.a v') (cA v' G') x :=
 ⟨_, .a h.rf, fun q hq => by
   by_cases hl : q < W.heap.size
   · exact .inl fun hn => hq (h.not q hl hn)
   · exact .inr (by omega)⟩
theorem Lay.ofT {v' : Tv} {a a' : Ad} {W : World} (hz : w.heap.size + 2 ≤ W.heap.size) (h : Tinyy.Goes W a v' a' x) : Lay w a.has (.t v') (cT v' a') x :=
 ⟨_, .t h.d, fun q hq => (h.new q hq).imp id (by omega)⟩
theorem touch_num (v : Av) (k : Key) : (v.touch k).most = v.most ∧ (v.touch k).tgt = v.tgt := by
 unfold Arcy.Av.touch
 split <;> exact ⟨rfl, rfl⟩
theorem repl_num (v : Av) : (v.repl false).most = v.most ∧ (v.repl false).tgt = v.tgt := by
 unfold Arcy.Av.repl
 split <;> exact ⟨rfl, rfl⟩
theorem cA_of {v v' : Av} (h : v'.most = v.most ∧ v'.tgt = v.tgt) (G : Nat) : (#[cA v' G 1, cA v' G 2, cA v' G 3, cA v' G 4] : Array Value) = #[.int .i64 v.most, .int .i64 v.tgt, .slice (some ⟨G, 0, none⟩) 4 4, .int .i64 v.pl] := by
 show (#[.int .i64 v'.most, .int .i64 v'.tgt, .slice (some ⟨G, 0, none⟩) 4 4, .int .i64 v'.pl] : Array Value) = _
 unfold Arcy.Av.pl
 rw [h.1, h.2]
theorem touchD (hg : p.Out) (w : World) (h : DP w p c H) :
  Calls Tryz.prog 28 #[.agg #[c 0, c 1, c 2, c 3, c 4, c 5, c 6, c 7, c 8, c 9, c 10, c 11, c 12], .string (str k)] w fun e w' => ∃ c' H', e = .returned (.tuple #[.agg #[c' 0, c' 1, c' 2, c' 3, c' 4, c' 5, c' 6, c' 7, c' 8, c' 9, c' 10, c' 11, c' 12], .bool (p.has k)]) ∧ DGo w H (p.touch k) c' H' w' := by
 have hl := h.lt hg
 cases h with
 | @a v G vs h =>
  refine (dTouchA (c := cA v G) (k := k) (cA_one _ _) w (Q := fun d r W' => Lay w (fun q => ¬ NotIn q G vs 4) (.a (v.touch k)) d W' ∧ r = .bool (v.has k)) (fun W hW hz => ?_)).mono ?_
  ·refine (Arcy.rtouch_c hg.fineA (Arcy.Av.touch_ok hg.1 k).1 W (RefAt.below h hW (Nat.le_refl _))).mono ?_
   rintro e W' ⟨G', vs', rfl, hgo⟩
   exact ⟨cA (v.touch k) G', _, by rw [cA_of (touch_num v k)], cA_one _ _, hgo.below, .ofA hz hgo, rfl⟩
  ·rintro e w' ⟨d, _, W', rfl, ⟨hL, rfl⟩, hk9, hb, -⟩
   obtain ⟨H', hD⟩ := Lay.end hL hl (hg.touch k) hk9 hb
   obtain ⟨G', rfl⟩ := hD.d.formA
   exact ⟨_, H', rfl, hD⟩
 | @t v a h =>
  refine (dTouchT (c := cT v a) (k := k) (cT_one _ _) w (Q := fun d r W' => Lay w a.has (.t (v.touch k)) d W' ∧ r = .bool (v.has k)) (fun W hW hz => ?_)).mono ?_
  ·refine (Tinyy.rtouch_c hg.fineT hg.1 W (h.onto hW)).mono ?_
   rintro e W' ⟨a', rfl, hgo⟩
   exact ⟨cT (v.touch k) a', _, rfl, cT_one _ _, hgo.below, .ofT hz hgo, rfl⟩
  ·rintro e w' ⟨d, _, W', rfl, ⟨hL, rfl⟩, hk9, hb, -⟩
   obtain ⟨H', hD⟩ := Lay.end hL hl (hg.touch k) hk9 hb
   obtain ⟨a', rfl⟩ := hD.d.formT
   exact ⟨_, H', rfl, hD⟩
theorem dropD (hg : p.Out) (w : World) (h : DP w p c H) :
  Calls Tryz.prog 29 #[.agg #[c 0, c 1, c 2, c 3, c 4, c 5, c 6, c 7, c 8, c 9, c 10, c 11, c 12], .string (str k)] w fun e w' => ∃ c' H', e = .returned (.tuple #[.agg #[c' 0, c' 1, c' 2, c' 3, c' 4, c' 5, c' 6, c' 7, c' 8, c' 9, c' 10, c' 11, c' 12], .bool (p.has k)]) ∧ DGo w H (p.drop k) c' H' w' := by
 have hl := h.lt hg
 cases h with
 | @a v G vs h =>
  refine (dRemoveA (c := cA v G) (k := k) (cA_one _ _) w (Q := fun d r W' => Lay w (fun q => ¬ NotIn q G vs 4) (.a (v.dr k)) d W' ∧ r = .bool (v.has k)) (fun W hW hz => ?_)).mono ?_
  ·refine (Arcy.rremove_c hg.fineA W (RefAt.below h hW (Nat.le_refl _))).mono ?_
   rintro e W' ⟨G', vs', rfl, hgo⟩
   exact ⟨cA (v.dr k) G', _, rfl, cA_one _ _, hgo.below, .ofA hz hgo, rfl⟩
  ·rintro e w' ⟨d, _, W', rfl, ⟨hL, rfl⟩, hk9, hb, -⟩
   obtain ⟨H', hD⟩ := Lay.end hL hl (hg.drop k) hk9 hb
   obtain ⟨G', rfl⟩ := hD.d.formA
   exact ⟨_, H', rfl, hD⟩
 | @t v a h =>
  refine (dRemoveT (c := cT v a) (k := k) (cT_one _ _) w (Q := fun d r W' => Lay w a.has (.t (v.dr k)) d W' ∧ r = .bool (v.has k)) (fun W hW hz => ?_)).mono ?_
  ·refine (Tinyy.rremove_c hg.fineT W (h.onto hW)).mono ?_
   rintro e W' ⟨a', rfl, hgo⟩
   exact ⟨cT (v.dr k) a', _, rfl, cT_one _ _, hgo.below, .ofT hz hgo, rfl⟩
  ·rintro e w' ⟨d, _, W', rfl, ⟨hL, rfl⟩, hk9, hb, -⟩
   obtain ⟨H', hD⟩ := Lay.end hL hl (hg.drop k) hk9 hb
   obtain ⟨a', rfl⟩ := hD.d.formT
   exact ⟨_, H', rfl, hD⟩
theorem evictD (hg : p.Out) (w : World) (h : DP w p c H) :
  Calls Tryz.prog 30 #[.agg #[c 0, c 1, c 2, c 3, c 4, c 5, c 6, c 7, c 8, c 9, c 10, c 11, c 12]] w fun e w' => ∃ c' H', e = .returned (.tuple #[.agg #[c' 0, c' 1, c' 2, c' 3, c' 4, c' 5, c' 6, c' 7, c' 8, c' 9, c' 10, c' 11, c' 12], .string (str (p.goes.getD [])), .bool p.goes.isSome]) ∧ DGo w H (p.evict) c' H' w' := by
 have hl := h.lt hg
 cases h with
 | @a v G vs h =>
  refine (dEvictA (c := cA v G) (cA_one _ _) w (Q := fun d r s W' => Lay w (fun q => ¬ NotIn q G vs 4) (.a (v.repl false)) d W' ∧ r = .string (str ((v.last (v.src false)).getD [])) ∧ s = .bool (v.last (v.src false)).isSome) (fun W hW hz => ?_)).mono ?_
  ·refine (Arcy.revict_c hg.fineA W (RefAt.below h hW (Nat.le_refl _))).mono ?_
   rintro e W' ⟨G', vs', rfl, hgo⟩
   exact ⟨cA (v.repl false) G', _, _, by rw [cA_of (repl_num v)], cA_one _ _, hgo.below, .ofA hz hgo, rfl, rfl⟩
  ·rintro e w' ⟨d, _, _, W', rfl, ⟨hL, rfl, rfl⟩, hk9, hb, -⟩
   obtain ⟨H', hD⟩ := Lay.end hL hl hg.evict hk9 hb
   obtain ⟨G', rfl⟩ := hD.d.formA
   exact ⟨_, H', rfl, hD⟩
 | @t v a h =>
  refine (dEvictT (c := cT v a) (cT_one _ _) w (Q := fun d r s W' => Lay w a.has (.t v.evict) d W' ∧ r = .string (str (v.goes.getD [])) ∧ s = .bool v.goes.isSome) (fun W hW hz => ?_)).mono ?_
  ·refine (Tinyy.revict_c hg.fineT W (h.onto hW)).mono ?_
   rintro e W' ⟨a', rfl, hgo⟩
   exact ⟨cT v.evict a', _, _, rfl, cT_one _ _, hgo.below, .ofT hz hgo, rfl, rfl⟩
  ·rintro e w' ⟨d, _, _, W', rfl, ⟨hL, rfl, rfl⟩, hk9, hb, -⟩
   obtain ⟨H', hD⟩ := Lay.end hL hl hg.evict hk9 hb
   obtain ⟨a', rfl⟩ := hD.d.formT
   exact ⟨_, H', rfl, hD⟩
theorem insertD (hk : k.length ≤ maxLen) (hg : p.Out) (w : World) (h : DP w p c H) :
  Calls Tryz.prog 32 #[.agg #[c 0, c 1, c 2, c 3, c 4, c 5, c 6, c 7, c 8, c 9, c 10, c 11, c 12], .string (str k)] w fun e w' => ∃ c' H' val, e = .returned (.tuple #[.agg #[c' 0, c' 1, c' 2, c' 3, c' 4, c' 5, c' 6, c' 7, c' 8, c' 9, c' 10, c' 11, c' 12], val]) ∧ DGo w H (p.insert k) c' H' w' ∧ w'.ownsRow (w.heap.size + 2) 9 1 val (p.insertK k).length (strsV (p.insertK k)) := by
 have hl := h.lt hg
 have hst : ∀ {W W' : World} {val : Value} {L : List Key}, W.ownsRow (w.heap.size + 2) 9 1 val L.length (strsV L) → Kp (fun q => q = w.heap.size ∨ q = w.heap.size + 1) W W' → W'.ownsRow (w.heap.size + 2) 9 1 val L.length (strsV L) := fun hr hk => ownsRow_stay hr fun b hb => hk.block b (hr.lt b hb).2 (by have := (hr.lt b hb).1; omega)
 cases h with
 | @a v G vs h =>
  refine (dInsertA (c := cA v G) (k := k) (cA_one _ _) w (Q := fun d r W' => Lay w (fun q => ¬ NotIn q G vs 4) (.a (v.insert k)) d W' ∧ W'.ownsRow (w.heap.size + 2) 9 1 r (v.insertK k).length (strsV (v.insertK k))) (fun W hW hz => ?_)).mono ?_
  ·refine (Arcy.rinsert_c hk hg.fineA W (RefAt.below h hW (Nat.le_refl _))).mono ?_
   rintro e W' ⟨G', vs', val, rfl, hgo, hr⟩
   exact ⟨cA (v.insert k) G', val, rfl, cA_one _ _, hgo.below, .ofA hz hgo, own_mono hr hz⟩
  ·rintro e w' ⟨d, r, W', rfl, ⟨hL, hr⟩, hk9, hb, -⟩
   obtain ⟨H', hD⟩ := Lay.end hL hl (hg.insert k) hk9 hb
   obtain ⟨G', rfl⟩ := hD.d.formA
   exact ⟨_, H', r, rfl, hD, hst hr hk9⟩
 | @t v a h =>
  refine (dInsertT (c := cT v a) (k := k) (cT_one _ _) w (Q := fun d r W' => Lay w a.has (.t (v.insert k)) d W' ∧ W'.ownsRow (w.heap.size + 2) 9 1 r (v.insertK k).length (strsV (v.insertK k))) (fun W hW hz => ?_)).mono ?_
  ·refine (Tinyy.rins_c hg.fineT hg.1 hk W (h.onto hW)).mono ?_
   rintro e W' ⟨a', val, rfl, hgo, hr⟩
   exact ⟨cT (v.insert k) a', val, rfl, cT_one _ _, hgo.below, .ofT hz hgo, own_mono hr hz⟩
  ·rintro e w' ⟨d, r, W', rfl, ⟨hL, hr⟩, hk9, hb, -⟩
   obtain ⟨H', hD⟩ := Lay.end hL hl (hg.insert k) hk9 hb
   obtain ⟨a', rfl⟩ := hD.d.formT
   exact ⟨_, H', r, rfl, hD, hst hr hk9⟩
theorem missD (hk : k.length ≤ maxLen) (hg : p.Out) (w : World) (h : DP w p c H) :
  Calls Tryz.prog 31 #[.agg #[c 0, c 1, c 2, c 3, c 4, c 5, c 6, c 7, c 8, c 9, c 10, c 11, c 12], .string (str k)] w fun e w' => ∃ c' H', e = .returned (.agg #[c' 0, c' 1, c' 2, c' 3, c' 4, c' 5, c' 6, c' 7, c' 8, c' 9, c' 10, c' 11, c' 12]) ∧ DGo w H (p.miss k) c' H' w' := by
 have hl := h.lt hg
 cases h with
 | @a v G vs h =>
  refine (dMissNoA (c := cA v G) (k := k) (cA_one _ _) w).mono ?_
  rintro e w' ⟨rfl, hb⟩
  exact ⟨cA v G, _, rfl, (DP.a h).onto hb, hb, fun q hq => .inl hq⟩
 | @t v a h =>
  cases hn : v.has k with
  | true =>
   rw [show Pv.miss (.t v) k = .t v from if_pos hn]
   refine (dMissNoT (c := cT v a) (k := k) (cT_one _ _) w (fun W hW => ?_)).mono ?_
   ·have hc := Tinyy.rhas_c (k := k) hg.fineT W (h.onto hW)
    rw [hn] at hc
    exact hc
   ·rintro e w' ⟨rfl, hb⟩
    exact ⟨cT v a, _, rfl, (DP.t h).onto hb, hb, fun q hq => .inl hq⟩
  | false =>
   have ho := hg.miss k
   rw [show Pv.miss (.t v) k = .t (v.miss k) from if_neg (by rw [hn]; decide)] at ho ⊢
   refine (dMissT (c := cT v a) (k := k) (cT_one _ _) w (Q := fun d W' => Lay w a.has (.t (v.miss k)) d W') (fun W hW => ?_) (fun W hW hz => ?_)).mono ?_
   ·have hc := Tinyy.rhas_c (k := k) hg.fineT W (h.onto hW)
    rw [hn] at hc
    exact hc
   ·refine (Tinyy.rmiss_c hg.fineT hk W (h.onto hW)).mono ?_
    rintro e W' ⟨a', rfl, hgo⟩
    exact ⟨cT (v.miss k) a', rfl, cT_one _ _, hgo.below, .ofT hz hgo⟩
   ·rintro e w' ⟨d, W', rfl, hL, hk9, hb, -⟩
    obtain ⟨H', hD⟩ := Lay.end hL hl ho hk9 hb
    obtain ⟨a', rfl⟩ := hD.d.formT
    exact ⟨_, H', rfl, hD⟩
theorem hasD (hg : p.Out) (w : World) (h : DP w p c H) :
  Calls Tryz.prog 13 #[.agg #[c 0, c 1, c 2, c 3, c 4, c 5, c 6, c 7, c 8, c 9, c 10, c 11, c 12], .string (str k)] w fun e w' => e = .returned (.bool (p.has k)) ∧ Below w.heap.size w w' := by
 cases h with
 | @a v G vs h => exact dHasA (c := cA v G) w fun W hW => Arcy.rhas_c hg.1 W (RefAt.below h hW (Nat.le_refl _))
 | @t v a h => exact dHasT (c := cT v a) w fun W hW => Tinyy.rhas_c hg.fineT W (h.onto hW)
theorem lenD (hg : p.Out) (w : World) (h : DP w p c H) :
  Calls Tryz.prog 10 #[.agg #[c 0, c 1, c 2, c 3, c 4, c 5, c 6, c 7, c 8, c 9, c 10, c 11, c 12]] w fun e w' => e = .returned (.int .i64 p.kept) ∧ Below w.heap.size w w' := by
 cases h with
 | @a v G vs h => exact dLenA (c := cA v G) w fun W hW => Arcy.rkept_c hg.1 W (RefAt.below h hW (Nat.le_refl _))
 | @t v a h => exact dLenT (c := cT v a) w fun W hW => Tinyy.rlen_c hg.fineT W (h.onto hW)
def Pv.body : Pv → List UInt8
 | .a v => v.put
 | .t v => v.put
def Pv.put (p : Pv) : List UInt8 := Wirey.enc p.kind ++ p.body
theorem Pv.put_eq (p : Pv) : p.put = UInt8.ofNat p.kind :: p.body := by
 unfold Pv.put
 rw [Wirey.enc_small (by cases p <;> simp [Pv.kind])]
 rfl
theorem Pv.Out.body_len (h : p.Out) : p.body.length ≤ 3000000 := by
 cases p with
 | a v =>
  have hm := h.1.m2
  have ht := h.1.t
  have hs := h.1.wf.small
  have l1 := Ringy.enc_ten (n := v.most) (by omega)
  have l2 := Ringy.enc_ten (n := v.tgt) (by omega)
  have l3 := hs.putTo v.rg.n (Nat.le_refl _)
  rw [h.1.n] at l3
  have l4 : v.rg.put.length ≤ 20 + 400000 * 4 := by unfold Rg.put; rw [h.1.n]; exact l3
  show (Wirey.enc v.most ++ (Wirey.enc v.tgt ++ v.rg.put)).length ≤ _
  rw [List.length_append, List.length_append]
  omega
 | t v =>
  have hf := h.1.fit
  have hm := hf.m2
  have hs := hf.wf.small
  have l1 := Ringy.enc_ten (n := v.most) (by omega)
  have l2 := Tinyy.skput_len hf.sw.pre
  have l3 := hs.putTo v.rg.n (Nat.le_refl _)
  rw [hf.n] at l3
  have l4 : v.rg.put.length ≤ 20 + 400000 * 3 := by unfold Rg.put; rw [hf.n]; exact l3
  show (Wirey.enc v.most ++ (v.sk.put ++ v.rg.put)).length ≤ _
  rw [List.length_append, List.length_append]
  omega
theorem putD (hg : p.Out) (w : World) (h : DP w p c H) :
  Calls Tryz.prog 15 #[.agg #[c 0, c 1, c 2, c 3, c 4, c 5, c 6, c 7, c 8, c 9, c 10, c 11, c 12]] w fun e w' => e = .returned (.string (str p.put)) ∧ Below w.heap.size w w' := by
 rw [Pv.put_eq]
 have hn : p.body.length < 1000000000 := by have := hg.body_len; omega
 cases h with
 | @a v G vs h => exact dPutA (c := cA v G) w hn fun W hW => Arcy.rput7_c hg.1 W (RefAt.below h hW (Nat.le_refl _))
 | @t v a h => exact dPutT (c := cT v a) w hn fun W hW => Tinyy.rput_t hg.fineT W (h.onto hW)
theorem newD {kind n seed : Nat} (hkd : kind = 1 ∨ kind = 2) (h1 : 1 ≤ n) (h2 : n ≤ 1000) (h3 : seed < 18446744073709551616) (w : World) :
  Calls Tryz.prog 6 #[.int .i64 kind, .int .i64 n, .int .u64 seed] w fun e w' => ∃ c H, e = .returned (.agg #[c 0, c 1, c 2, c 3, c 4, c 5, c 6, c 7, c 8, c 9, c 10, c 11, c 12]) ∧ DP w' (Pv.new kind n seed) c H ∧ (∀ q, H q → w.heap.size < q) ∧ Below w.heap.size w w' := by
 have hg := Pv.new_out (kind := kind) h1 h2 h3
 have hlow : ∀ {W W' : World}, Below w.heap.size w W → Kp (fun q => q = w.heap.size) W W' → Below w.heap.size w W' := fun hb hk => ⟨hk.os.trans hb.os, hk.tape.trans hb.tape, hk.output.trans hb.output, Nat.le_trans hb.size hk.size, fun q hq => (hk.block q (Nat.lt_of_lt_of_le hq hb.size) (by omega)).trans (hb.block q hq)⟩
 rcases hkd with rfl | rfl
 ·refine (dNewA w (Q := fun d W' => ∃ H, DP W' (.a (Av.new n)) d H ∧ ∀ q, H q → w.heap.size < q) (fun W hW hz => ?_)).mono ?_
  ·refine (Arcy.rnew7_c h1 h2 W).mono ?_
   rintro e W' ⟨G, vs, rfl, hr, hb⟩
   refine ⟨cA (Av.new n) G, rfl, cA_one _ _, hb, _, .a (RefAt.less hr fun b hb => hb.elim), fun q hq => ?_⟩
   refine Classical.byContradiction fun hn => hq ?_
   have h9 := RefAt.not_old hr (q := q) (by omega)
   exact h9
  ·rintro e w' ⟨d, W', rfl, ⟨H, hD, hH⟩, hk9, hb⟩
   obtain ⟨G, rfl⟩ := hD.formA
   exact ⟨_, H, rfl, hD.kp hg hk9 (fun q hq hh => by have := hH q hh; omega), hH, hlow hb hk9⟩
 ·refine (dNewT w (Q := fun d W' => ∃ H, DP W' (.t (Tv.new n seed)) d H ∧ ∀ q, H q → w.heap.size < q) (fun W hW hz => ?_)).mono ?_
  ·refine (Tinyy.rnewT_c h1 h2 h3 W).mono ?_
   rintro e W' ⟨a, rfl, hr, hH, hb⟩
   exact ⟨cT (Tv.new n seed) a, rfl, cT_one _ _, hb, _, .t hr, fun q hq => by have := hH q hq; omega⟩
  ·rintro e w' ⟨d, W', rfl, ⟨H, hD, hH⟩, hk9, hb⟩
   obtain ⟨a, rfl⟩ := hD.formT
   exact ⟨_, H, rfl, hD.kp hg hk9 (fun q hq hh => by have := hH q hh; omega), hH, hlow hb hk9⟩
end
end Go.Proofs.YtncgfnocokippaaGreat.Policyy
