/- Layer 9: one act done to the program's policy and to the document's. The only condition: both are the same, and as chapters 7 and 8 have it. -/
import Derived.Test.YtncgfnocokippaaGreatPolicyAwakeAll
import Derived.Test.YtncgfnocokippaaGreatPolicyTake
import Derived.BigQuiet
import Derived.Test.YtncgfnocokippaaGreatSq
namespace Go.Proofs.YtncgfnocokippaaGreat.Policyy
open Go.ChangeShapes Go.WideShapes Go.ChangeAt Go.RowKit Go.Shelf
open Wirey (Blk Row str str_size str_list str_cat Kp)
open Ringy hiding fewL fewL_le
open Go.ChangeMaps Go.Maps
open Tinyy (fewL results_tmp_row_tmp row_cell)

section
variable {w0 w x y : World} {C C' : Nat} {p p' u u' : Pv} {H H' I I' K : Nat → Prop} {c c0 c' : Nat → Value} {k : Key} {i j : Nat}
structure Twin (w0 : World) (C : Nat) (p : Pv) (H : Nat → Prop) (u : Pv) (c : Nat → Value) (I : Nat → Prop) (x : World) : Prop where
 a : HeldP w0 C x p H
 d : DP x u c I
 no : ∀ q, H q → ¬ I q
 g : u.Out
def Side (H I : Nat → Prop) (q : Nat) : Prop := ¬ H q ∧ ¬ I q
theorem Twin.onto (h : Twin w0 C p H u c I x) (hb : Below x.heap.size x y) : Twin w0 C p H u c I y := ⟨h.a.later hb (Nat.le_refl _), h.d.onto hb, h.no, h.g⟩
theorem Twin.goes (h : Twin w0 C p H u c I x) (hg : DGo x I u' c' I' y) (g : u'.Out) : Twin w0 C p H u' c' I' y :=
 ⟨h.a.later hg.below (Nat.le_refl _), hg.d, fun q hq hi => (hg.new q hi).elim (h.no q hq) fun z => by have := (h.a.own q hq).2; omega, g⟩
theorem Twin.step (h : Twin w0 C p H u c I x) (hH : HeldP w0 C y p' H') (hS : StepP x H y H') : Twin w0 C p' H' u c I y :=
 ⟨hH, h.d.kp h.g hS.kp h.no, fun q hq hi => (hS.own q hq).elim (fun z => h.no q z hi) fun z => by have := h.d.lt h.g q hi; omega, h.g⟩
theorem Twin.beside {O : Nat → Prop} (h : Twin w0 C p H u c I x) (hk : Kp O x y) (hO : ∀ q, O q → w0.heap.size ≤ q ∧ Side H I q) : Twin w0 C p H u c I y :=
 ⟨h.a.kp hk (fun q hq => ⟨(hO q hq).1, (hO q hq).2.1⟩), h.d.kp h.g hk (fun q hq => (hO q hq).2.2), h.no, h.g⟩
theorem Twin.fresh (h : Twin w0 C p H u c I x) {q : Nat} (hq : x.heap.size ≤ q) : Side H I q := ⟨fun z => by have := (h.a.own q z).2; omega, fun z => by have := h.d.lt h.g q z; omega⟩
theorem Side.goes {q : Nat} (h : Side H I q) (hg : DGo x I u' c' I' y) (hq : q < x.heap.size) : Side H I' q := ⟨h.1, fun z => (hg.new q z).elim h.2 fun z => by omega⟩
theorem Side.step {q : Nat} (h : Side H I q) (hS : StepP x H y H') (hq : q < x.heap.size) : Side H' I q := ⟨fun z => (hS.own q z).elim h.1 fun z => by omega, h.2⟩
theorem Side.kp {q : Nat} (h : Side H I q) (hS : StepP x H y H') (hq : q < x.heap.size) : y.heap[q]? = x.heap[q]? := hS.kp.block q hq h.1
def Pv.act (p : Pv) (q : Int) (k : Key) : Pv := if q = 4 ∨ q = 5 then p.touch k else if q = 6 then p.drop k else if q = 7 then p.evict else if q = 8 then p.miss k else if q = 9 then p else p.insert k
structure Ds (w0 : World) (K : Nat → Prop) (C : Nat) (p : Pv) (H : Nat → Prop) (u : Pv) (c : Nat → Value) (I : Nat → Prop) (w : World) (c0 : Nat → Value) (x : World) : Prop where
 two : Twin w0 C p H u c I x
 box : Blk x w.heap.size 40 #[c0 0, c0 1, c0 2, c0 3, c0 4, c0 5, c0 6, c0 7, c0 8, c0 9, c0 10, c0 11, c0 12]
 res : Blk x (w.heap.size + 2) 40 #[.int .i64 0, .int .i64 0, .int .i64 0, .slice none 0 0, .int .i64 0, .int .i64 0, .int .i64 0, .int .u64 0, .slice none 0 0, .slice none 0 0, .int .i64 0, .slice none 0 0, .int .i64 0]
 s0 : Side H I w.heap.size
 s2 : Side H I (w.heap.size + 2)
 lo : w0.heap.size ≤ w.heap.size
 hi : w.heap.size + 3 ≤ x.heap.size
 keep : ∀ q, K q → q < w.heap.size ∧ x.heap[q]? = w.heap[q]? ∧ Side H I q
theorem Ds.onto (h : Ds w0 K C p H u c I w c0 x) (hb : Below x.heap.size x y) : Ds w0 K C p H u c I w c0 y :=
 ⟨h.two.onto hb, h.box.below hb h.box.lt, h.res.below hb h.res.lt, h.s0, h.s2, h.lo, Nat.le_trans h.hi hb.size, fun q hq => by
   obtain ⟨a, b, d⟩ := h.keep q hq
   exact ⟨a, (hb.block q (by have := h.hi; omega)).trans b, d⟩⟩
theorem Ds.drewN (h : Ds w0 K C p H u c I w c0 x) (n : Nat) : Ds w0 K C p H u c I w c0 (x.drewN n) := h.onto ⟨rfl, rfl, rfl, Nat.le_refl _, fun _ _ => rfl⟩
theorem Ds.goes (h : Ds w0 K C p H u c I w c0 x) (hg : DGo x I u' c' I' y) (g : u'.Out) : Ds w0 K C p H u' c' I' w c0 y :=
 ⟨h.two.goes hg g, h.box.below hg.below h.box.lt, h.res.below hg.below h.res.lt, h.s0.goes hg h.box.lt, h.s2.goes hg h.res.lt, h.lo, Nat.le_trans h.hi hg.below.size, fun q hq => by
   obtain ⟨a, b, d⟩ := h.keep q hq
   have hlt : q < x.heap.size := by have := h.hi; omega
   exact ⟨a, (hg.below.block q hlt).trans b, d.goes hg hlt⟩⟩
theorem Ds.step (h : Ds w0 K C p H u c I w c0 x) (hH : HeldP w0 C y p' H') (hS : StepP x H y H') : Ds w0 K C p' H' u c I w c0 y :=
 ⟨h.two.step hH hS, (h.s0.kp hS h.box.lt).trans h.box, (h.s2.kp hS h.res.lt).trans h.res, h.s0.step hS h.box.lt, h.s2.step hS h.res.lt, h.lo, Nat.le_trans h.hi hS.kp.size, fun q hq => by
   obtain ⟨a, b, d⟩ := h.keep q hq
   have hlt : q < x.heap.size := by have := h.hi; omega
   exact ⟨a, (d.kp hS hlt).trans b, d.step hS hlt⟩⟩
theorem Ds.turn (h : Ds w0 K C p H u c I w c0 x) (hb : Below x.heap.size x y) (hN : NewP x.heap.size C' p' H' y) : Ds w0 K C' p' H' u c I w c0 y := by
 have h1 := h.onto hb
 have hz := h.hi
 have hz0 := h.lo
 have hs : ∀ q, q < x.heap.size → ¬ I q → Side H' I q := fun q hq ha => ⟨fun ho => by have := hN.own q ho; omega, ha⟩
 refine ⟨⟨hN.held h1.two.a.below (by omega), h1.two.d, fun q hq hi => ?_, h1.two.g⟩, h1.box, h1.res, hs _ h.box.lt h.s0.2, hs _ h.res.lt h.s2.2, h.lo, h1.hi, fun q hq => ?_⟩
 ·have h9 := h.two.d.lt h.two.g q hi
  have := hN.own q hq
  omega
 ·obtain ⟨a, b, d⟩ := h1.keep q hq
  exact ⟨a, b, hs q (by omega) d.2⟩
theorem Ds.fin (h : Ds w0 K C p H u c I w c0 x) : Twin w0 C p H u c I (((((((((((((x.setCell ⟨w.heap.size + 2, 0, none⟩ (c 0)).setCell ⟨w.heap.size + 2, 1, none⟩ (c 1)).setCell ⟨w.heap.size + 2, 2, none⟩ (c 2)).setCell ⟨w.heap.size + 2, 3, none⟩ (c 3)).setCell ⟨w.heap.size + 2, 4, none⟩ (c 4)).setCell ⟨w.heap.size + 2, 5, none⟩ (c 5)).setCell ⟨w.heap.size + 2, 6, none⟩ (c 6)).setCell ⟨w.heap.size + 2, 7, none⟩ (c 7)).setCell ⟨w.heap.size + 2, 8, none⟩ (c 8)).setCell ⟨w.heap.size + 2, 9, none⟩ (c 9)).setCell ⟨w.heap.size + 2, 10, none⟩ (c 10)).setCell ⟨w.heap.size + 2, 11, none⟩ (c 11)).setCell ⟨w.heap.size + 2, 12, none⟩ (c 12)) ∧ Blk (((((((((((((x.setCell ⟨w.heap.size + 2, 0, none⟩ (c 0)).setCell ⟨w.heap.size + 2, 1, none⟩ (c 1)).setCell ⟨w.heap.size + 2, 2, none⟩ (c 2)).setCell ⟨w.heap.size + 2, 3, none⟩ (c 3)).setCell ⟨w.heap.size + 2, 4, none⟩ (c 4)).setCell ⟨w.heap.size + 2, 5, none⟩ (c 5)).setCell ⟨w.heap.size + 2, 6, none⟩ (c 6)).setCell ⟨w.heap.size + 2, 7, none⟩ (c 7)).setCell ⟨w.heap.size + 2, 8, none⟩ (c 8)).setCell ⟨w.heap.size + 2, 9, none⟩ (c 9)).setCell ⟨w.heap.size + 2, 10, none⟩ (c 10)).setCell ⟨w.heap.size + 2, 11, none⟩ (c 11)).setCell ⟨w.heap.size + 2, 12, none⟩ (c 12)) (w.heap.size + 2) 40 #[c 0, c 1, c 2, c 3, c 4, c 5, c 6, c 7, c 8, c 9, c 10, c 11, c 12] ∧ ∀ q, K q → ((((((((((((((x.setCell ⟨w.heap.size + 2, 0, none⟩ (c 0)).setCell ⟨w.heap.size + 2, 1, none⟩ (c 1)).setCell ⟨w.heap.size + 2, 2, none⟩ (c 2)).setCell ⟨w.heap.size + 2, 3, none⟩ (c 3)).setCell ⟨w.heap.size + 2, 4, none⟩ (c 4)).setCell ⟨w.heap.size + 2, 5, none⟩ (c 5)).setCell ⟨w.heap.size + 2, 6, none⟩ (c 6)).setCell ⟨w.heap.size + 2, 7, none⟩ (c 7)).setCell ⟨w.heap.size + 2, 8, none⟩ (c 8)).setCell ⟨w.heap.size + 2, 9, none⟩ (c 9)).setCell ⟨w.heap.size + 2, 10, none⟩ (c 10)).setCell ⟨w.heap.size + 2, 11, none⟩ (c 11)).setCell ⟨w.heap.size + 2, 12, none⟩ (c 12))).heap[q]? = w.heap[q]? ∧ Side H I q := by
 have hk := kp13 x (w.heap.size + 2) (c 0) (c 1) (c 2) (c 3) (c 4) (c 5) (c 6) (c 7) (c 8) (c 9) (c 10) (c 11) (c 12)
 refine ⟨h.two.beside hk (fun q hq => by subst hq; exact ⟨Nat.le_trans h.lo (Nat.le_add_right _ _), h.s2⟩), blk13 h.res (c 0) (c 1) (c 2) (c 3) (c 4) (c 5) (c 6) (c 7) (c 8) (c 9) (c 10) (c 11) (c 12), fun q hq => ?_⟩
 obtain ⟨k1, k2, k3⟩ := h.keep q hq
 exact ⟨(hk.block q (by have := h.hi; omega) (by omega)).trans k2, k3⟩
theorem far13 {x : World} {z b : Nat} {cs : Array Value} {t : TypeId} (h : Blk x z t cs) (hq : z ≠ b) (c : Nat → Value) : Blk (((((((((((((x.setCell ⟨b, 0, none⟩ (c 0)).setCell ⟨b, 1, none⟩ (c 1)).setCell ⟨b, 2, none⟩ (c 2)).setCell ⟨b, 3, none⟩ (c 3)).setCell ⟨b, 4, none⟩ (c 4)).setCell ⟨b, 5, none⟩ (c 5)).setCell ⟨b, 6, none⟩ (c 6)).setCell ⟨b, 7, none⟩ (c 7)).setCell ⟨b, 8, none⟩ (c 8)).setCell ⟨b, 9, none⟩ (c 9)).setCell ⟨b, 10, none⟩ (c 10)).setCell ⟨b, 11, none⟩ (c 11)).setCell ⟨b, 12, none⟩ (c 12)) z t cs :=
 (kp13 x b (c 0) (c 1) (c 2) (c 3) (c 4) (c 5) (c 6) (c 7) (c 8) (c 9) (c 10) (c 11) (c 12)).blk h hq
theorem Ds.new {a b : Value} (hK : ∀ q, K q → q < w.heap.size ∧ Side H I q) (h : Twin w0 C p H p c I w) : Ds w0 K C p H p c I w c (((w.alloc (.cells #[c 0, c 1, c 2, c 3, c 4, c 5, c 6, c 7, c 8, c 9, c 10, c 11, c 12] 40)).alloc (.cells #[a, b] 46)).alloc (.cells #[.int .i64 0, .int .i64 0, .int .i64 0, .slice none 0 0, .int .i64 0, .int .i64 0, .int .i64 0, .int .u64 0, .slice none 0 0, .slice none 0 0, .int .i64 0, .slice none 0 0, .int .i64 0] 40)) := by
 have hb1 := (Below.refl _ w).alloc (Nat.le_refl _) (.cells #[c 0, c 1, c 2, c 3, c 4, c 5, c 6, c 7, c 8, c 9, c 10, c 11, c 12] 40)
 have hx1 := Blk.new w 40 #[c 0, c 1, c 2, c 3, c 4, c 5, c 6, c 7, c 8, c 9, c 10, c 11, c 12]
 have s1 : (w.alloc (.cells #[c 0, c 1, c 2, c 3, c 4, c 5, c 6, c 7, c 8, c 9, c 10, c 11, c 12] 40)).heap.size = w.heap.size + 1 := by simp
 generalize w.alloc (.cells #[c 0, c 1, c 2, c 3, c 4, c 5, c 6, c 7, c 8, c 9, c 10, c 11, c 12] 40) = w1 at *
 have hb2 := hb1.alloc (by omega) (.cells #[a, b] 46)
 have hx2 := hx1.alloc (.cells #[a, b] 46)
 have s2 : (w1.alloc (.cells #[a, b] 46)).heap.size = w.heap.size + 2 := by simp [s1]
 generalize w1.alloc (.cells #[a, b] 46) = w2 at *
 have hb3 := hb2.alloc (by omega) (.cells #[.int .i64 0, .int .i64 0, .int .i64 0, .slice none 0 0, .int .i64 0, .int .i64 0, .int .i64 0, .int .u64 0, .slice none 0 0, .slice none 0 0, .int .i64 0, .slice none 0 0, .int .i64 0] 40)
 have hr := Blk.new w2 40 #[.int .i64 0, .int .i64 0, .int .i64 0, .slice none 0 0, .int .i64 0, .int .i64 0, .int .i64 0, .int .u64 0, .slice none 0 0, .slice none 0 0, .int .i64 0, .slice none 0 0, .int .i64 0]
 have s3 : (w2.alloc (.cells #[.int .i64 0, .int .i64 0, .int .i64 0, .slice none 0 0, .int .i64 0, .int .i64 0, .int .i64 0, .int .u64 0, .slice none 0 0, .slice none 0 0, .int .i64 0, .slice none 0 0, .int .i64 0] 40)).heap.size = w.heap.size + 3 := by simp [s2]
 rw [s2] at hr
 exact ⟨h.onto hb3, hx2.alloc _, hr, h.fresh (Nat.le_refl _), h.fresh (by omega), h.a.below.size, by omega, fun q hq => ⟨(hK q hq).1, hb3.block q (hK q hq).1, (hK q hq).2⟩⟩
def DoP (w0 : World) (K : Nat → Prop) (w : World) (p' : Pv) (e : Ending) (y : World) : Prop :=
 ∃ C' H' c' I', e = .returned (.tuple #[.pointer (some ⟨C', 0, none⟩), .agg #[c' 0, c' 1, c' 2, c' 3, c' 4, c' 5, c' 6, c' 7, c' 8, c' 9, c' 10, c' 11, c' 12], .bool true]) ∧ Twin w0 C' p' H' p' c' I' y ∧ ∀ q, K q → y.heap[q]? = w.heap[q]? ∧ Side H' I' q
theorem act_blk {a b : Value} {x : World} : ((x.alloc (.cells #[a, b] 46)).alloc (.cells #[.int .i64 0, .int .i64 0, .int .i64 0, .slice none 0 0, .int .i64 0, .int .i64 0, .int .i64 0, .int .u64 0, .slice none 0 0, .slice none 0 0, .int .i64 0, .slice none 0 0, .int .i64 0] 40)).cell? ⟨x.heap.size, 0, none⟩ = some a ∧ ((x.alloc (.cells #[a, b] 46)).alloc (.cells #[.int .i64 0, .int .i64 0, .int .i64 0, .slice none 0 0, .int .i64 0, .int .i64 0, .int .i64 0, .int .u64 0, .slice none 0 0, .slice none 0 0, .int .i64 0, .slice none 0 0, .int .i64 0] 40)).cell? ⟨x.heap.size, 1, none⟩ = some b := by
 have hb := (Blk.new x 46 #[a, b]).alloc (.cells #[.int .i64 0, .int .i64 0, .int .i64 0, .slice none 0 0, .int .i64 0, .int .i64 0, .int .i64 0, .int .u64 0, .slice none 0 0, .slice none 0 0, .int .i64 0, .slice none 0 0, .int .i64 0] 40)
 exact ⟨hb.cell 0, hb.cell 1⟩
theorem texts_c {B C : Nat} {a b : Value} {l : List Key} (hlen : l.length ≤ 100000) (w : World) (h1 : w.ownsRow B 9 1 a l.length (strsV l)) (h2 : w.ownsRow C 9 1 b l.length (strsV l)) :
  Calls Tryz.prog 22 #[a, b] w fun e w' => e = .returned (.bool true) ∧ Below w.heap.size w w' := by
 obtain ⟨a1, c1, hva⟩ := own_form h1
 obtain ⟨a2, c2, hvb⟩ := own_form h2
 subst hva hvb
 have htl := Wirey.toList_str
 go_enter Tryz.func22, Tryz.ntmps22
 go_wp2_with fail
 go_loopw [5] (fun i wr => ∃ j : Nat, j ≤ l.length ∧ i = .int .i64 j ∧ Below w.heap.size w wr) (fun i _ => l.length - (intOf i).toNat)
 case atStart => exact ⟨0, Nat.zero_le _, rfl, Below.refl _ _⟩
 case round =>
  obtain ⟨j, hj, rfl, hb⟩ := hrel
  by_cases hlt : j < l.length
  ·have d1 : decide ((j : Int) < (l.length : Int)) = true := decide_eq_true (by omega)
   have r1 := ownsRow_stay (w' := wr) h1 fun b hb2 => hb.block b (h1.lt b hb2).2
   have r2 := ownsRow_stay (w' := wr) h2 fun b hb2 => hb.block b (h2.lt b hb2).2
   obtain ⟨g1, e1, hv1, hc1⟩ := row_cell r1 hlt
   obtain ⟨g2, e2, hv2, hc2⟩ := row_cell r2 hlt
   injection hv1 with q1 q2 q3
   injection hv2 with q4 q5 q6
   subst q1 q3 q4 q6
   have hj5 : j < 100000 := by omega
   have b1 : (0 : Int) ≤ (j : Int) := by omega
   have b2 : (j : Int) < (l.length : Int) := by omega
   generalize l[j]?.getD [] = t at *
   clear r1 r2 q2 q5 hlen
   go_upto_region 6 with (fail)
   have k1 : wr.drew.cell? ⟨g1, j, none⟩ = some (.string (str t)) := hc1
   have k2 : wr.drew.cell? ⟨g2, j, none⟩ = some (.string (str t)) := hc2
   go_quiet (fail)
   go_wp2_with fail
   go_roundw
   case rel => exact ⟨j + 1, by omega, by simp, ⟨hb.os, hb.tape, hb.output, hb.size, hb.block⟩⟩
   case measure => simp [intOf]; omega
  ·obtain rfl : j = l.length := by omega
   go_wp2_with fail
   go_ret
   exact ⟨rfl, hb⟩
end
end Go.Proofs.YtncgfnocokippaaGreat.Policyy
