/- The document's own lists with a key at a front. The only condition: it is no longer than a text may be. -/
import Derived.Test.YtfhlnidjneaieaaRingRefDrop
import Derived.Deep.RegionHeld3
namespace Go.Proofs.Ytfhlnidjneaieaa.Ringy
open Go.ChangeShapes Go.WideShapes Go.ChangeAt Go.RowKit
open Wirey (Blk Row str str_size str_list Kp)
open Go.ChangeMaps Go.Maps

section
variable {O : Nat → Prop} {G : Nat} {vs : Nat → Value} {r : Rg}
/-- What stands while Front asks. -/
structure Asks (w : World) (O : Nat → Prop) (G : Nat) (vs : Nat → Value) (r : Rg) (x : World) : Prop where
  ref : RefAt x O G vs r
  box : Blk x w.heap.size 29 #[.slice (some ⟨G, 0, none⟩) r.n r.n, .int .i64 (r.places : Int)]
  res : Blk x (w.heap.size + 1) 29 #[.slice none 0 0, .int .i64 0]
  below : Below w.heap.size w x
theorem Asks.later {w x y : World} (h : Asks w O G vs r x) (hb : Below x.heap.size x y) : Asks w O G vs r y :=
  ⟨h.ref.below hb (Nat.le_refl _), h.box.below hb h.box.lt, h.res.below hb h.res.lt, h.below.trans (hb.mono h.below.size)⟩
theorem Asks.drewN {w x : World} (h : Asks w O G vs r x) (n : Nat) : Asks w O G vs r (x.drewN n) := ⟨h.ref.drewN n, h.box, h.res, ⟨h.below.os, h.below.tape, h.below.output, h.below.size, h.below.block⟩⟩
theorem asksP {w x y : World} {u0 u1 : Value} (hS : x.cell? ⟨w.heap.size, 0, none⟩ = some u0 ∧ x.cell? ⟨w.heap.size, 1, none⟩ = some u1 ∧ Asks w O G vs r x) (hb : Below x.heap.size x y) :
    y.cell? ⟨w.heap.size, 0, none⟩ = some u0 ∧ y.cell? ⟨w.heap.size, 1, none⟩ = some u1 ∧ Asks w O G vs r y :=
  ⟨(World.cell?_of_block (a := ⟨w.heap.size, 0, none⟩) (hb.block _ hS.2.2.box.lt)).trans hS.1, (World.cell?_of_block (a := ⟨w.heap.size, 1, none⟩) (hb.block _ hS.2.2.box.lt)).trans hS.2.1, hS.2.2.later hb⟩
theorem asksPd {w x : World} {u0 u1 : Value} (hS : x.cell? ⟨w.heap.size, 0, none⟩ = some u0 ∧ x.cell? ⟨w.heap.size, 1, none⟩ = some u1 ∧ Asks w O G vs r x) :
    x.drew.cell? ⟨w.heap.size, 0, none⟩ = some u0 ∧ x.drew.cell? ⟨w.heap.size, 1, none⟩ = some u1 ∧ Asks w O G vs r x.drew := ⟨hS.1, hS.2.1, hS.2.2.drewN 1⟩
theorem asksPn {w x : World} {u0 u1 : Value} (m : Nat) (hS : x.cell? ⟨w.heap.size, 0, none⟩ = some u0 ∧ x.cell? ⟨w.heap.size, 1, none⟩ = some u1 ∧ Asks w O G vs r x) :
    (x.drewN m).cell? ⟨w.heap.size, 0, none⟩ = some u0 ∧ (x.drewN m).cell? ⟨w.heap.size, 1, none⟩ = some u1 ∧ Asks w O G vs r (x.drewN m) := ⟨hS.1, hS.2.1, hS.2.2.drewN m⟩
theorem asksR {w x : World} {u0 u1 : Value} (hS : x.cell? ⟨w.heap.size, 0, none⟩ = some u0 ∧ x.cell? ⟨w.heap.size, 1, none⟩ = some u1 ∧ Asks w O G vs r x) : RefAt x O G vs r := hS.2.2.ref
theorem asksA {w x : World} {u0 u1 : Value} (hS : x.cell? ⟨w.heap.size, 0, none⟩ = some u0 ∧ x.cell? ⟨w.heap.size, 1, none⟩ = some u1 ∧ Asks w O G vs r x) : Asks w O G vs r x := hS.2.2
/-- The result laid. -/
def putR (w x : World) (G n p : Nat) : World := (x.setCell ⟨w.heap.size + 1, 0, none⟩ (.slice (some ⟨G, 0, none⟩) n n)).setCell ⟨w.heap.size + 1, 1, none⟩ (.int .i64 (p : Int))
theorem Asks.put {w x : World} (h : Asks w O G vs r x) (G' n p : Nat) : Below w.heap.size w (putR w x G' n p) ∧ Blk (putR w x G' n p) (w.heap.size + 1) 29 #[.slice (some ⟨G', 0, none⟩) n n, .int .i64 (p : Int)] :=
  ⟨(h.below.setCell (p := ⟨w.heap.size + 1, 0, none⟩) (Nat.le_succ _) _).setCell (p := ⟨w.heap.size + 1, 1, none⟩) (Nat.le_succ _) _, (h.res.put 0 (.slice (some ⟨G', 0, none⟩) n n)).put 1 (.int .i64 (p : Int))⟩
set_option maxHeartbeats 4000000 in
set_option maxRecDepth 100000 in
theorem rfront_no {a : Int} {k : Key} (hk : k.length ≤ maxLen) (hn : r.n ≤ 100) (hlen : ∀ i, (r.l i).length < 100000) (w : World) (h : RefAt w O G vs r) (hok : r.ok a k = false) :
    Calls Try.prog 24 #[refV G r, .int .i64 a, .string (str k)] w fun e w' => e = .returned (.tuple #[refV G r, .bool false]) ∧ Below w.heap.size w w' := by
  have hsz := str_size k
  unfold maxLen at hk
  have hX := Blk.new w 29 #[.slice (some ⟨G, 0, none⟩) r.n r.n, .int .i64 (r.places : Int)]
  have hs1 : (w.alloc (.cells #[.slice (some ⟨G, 0, none⟩) r.n r.n, .int .i64 (r.places : Int)] 29)).heap.size = w.heap.size + 1 := by simp
  have hY := Blk.new (w.alloc (.cells #[.slice (some ⟨G, 0, none⟩) r.n r.n, .int .i64 (r.places : Int)] 29)) 29 #[.slice none 0 0, .int .i64 0]
  rw [hs1] at hY
  have hX2 := hX.alloc (.cells #[.slice none 0 0, .int .i64 0] 29)
  have h2 := (h.alloc (.cells #[.slice (some ⟨G, 0, none⟩) r.n r.n, .int .i64 (r.places : Int)] 29)).alloc (.cells #[.slice none 0 0, .int .i64 0] 29)
  have hb2 := ((Below.refl _ w).alloc (Nat.le_refl _) (.cells #[.slice (some ⟨G, 0, none⟩) r.n r.n, .int .i64 (r.places : Int)] 29)).alloc (by omega) (.cells #[.slice none 0 0, .int .i64 0] 29)
  have hs2 : ((w.alloc (.cells #[.slice (some ⟨G, 0, none⟩) r.n r.n, .int .i64 (r.places : Int)] 29)).alloc (.cells #[.slice none 0 0, .int .i64 0] 29)).heap.size = w.heap.size + 2 := by simp
  have hin := rin_c (O := O) (G := G) (vs := vs) k hn (fun i _ => hlen i) _ h2
  unfold refV at hin ⊢
  go_enter Try.func24, Try.ntmps24
  go_upto_region 1 with (fail)
  generalize (w.alloc (.cells #[.slice (some ⟨G, 0, none⟩) r.n r.n, .int .i64 (r.places : Int)] 29)).alloc (.cells #[.slice none 0 0, .int .i64 0] 29) = w2 at *
  have HA2 := Lib.hid (Asks.mk h2 hX2 hY hb2 : Asks w O G vs r w2)
  clear hX hs1 hs2 h
  have x0 := hX2.cell 0
  have x1 := hX2.cell 1
  simp only [List.getElem?_toArray, List.getElem?_cons_zero, List.getElem?_cons_succ] at x0 x1
  clear hX2 hY h2 hb2
  go_upto_region 2 with (first | (go_at_call 18; refine hin.mono ?_; rintro e w3 ⟨rfl, hb3⟩))
  have hA := HA2.out.later hb3
  clear HA2 hin x0 x1 hb3
  have hcases : a < 0 ∨ (¬ a < 0 ∧ (r.n : Int) ≤ a) ∨ (¬ a < 0 ∧ ¬ (r.n : Int) ≤ a ∧ 64 < k.length) ∨ (¬ a < 0 ∧ ¬ (r.n : Int) ≤ a ∧ ¬ 64 < k.length ∧ r.hasB k = false ∧ r.places ≤ r.many) := by
    by_cases h1 : a < 0
    · exact .inl h1
    · by_cases h2 : (r.n : Int) ≤ a
      · exact .inr (.inl ⟨h1, h2⟩)
      · by_cases h3 : 64 < k.length
        · exact .inr (.inr (.inl ⟨h1, h2, h3⟩))
        · refine .inr (.inr (.inr ⟨h1, h2, h3, ?_, ?_⟩))
          · rw [Bool.eq_false_iff]
            intro e
            rw [Rg.ok_of (by omega) (by omega) (by omega) (.inl (Rg.hasB_iff.1 e))] at hok
            cases hok
          · rcases Nat.lt_or_ge r.many r.places with h4 | h4
            · rw [Rg.ok_of (by omega) (by omega) (by omega) (.inr h4)] at hok
              cases hok
            · exact h4
  clear hok
  have x0 := hA.box.cell 0
  have x1 := hA.box.cell 1
  simp only [List.getElem?_toArray, List.getElem?_cons_zero, List.getElem?_cons_succ] at x0 x1
  rcases hcases with h1 | ⟨h1, h3⟩ | ⟨h1, h3, h4⟩ | ⟨h1, h3, h4, h5, h6⟩
  · go_region
    have q0 := hA.res.cell 0
    have q1 := hA.res.cell 1
    have z0 := hA.res.free 0
    have z1 := hA.res.free 1
    simp only [List.getElem?_toArray, List.getElem?_cons_zero, List.getElem?_cons_succ] at q0 q1
    obtain ⟨hB, hY⟩ := hA.put G r.n r.places
    unfold putR at hB hY
    have p0 := hY.cell 0
    have p1 := hY.cell 1
    simp only [List.getElem?_toArray, List.getElem?_cons_zero, List.getElem?_cons_succ] at p0 p1
    have HB := Lib.hid hB
    have HP0 := Lib.hid p0
    have HP1 := Lib.hid p1
    clear hB hY p0 p1
    go_wp2_with fail
    have p0 := HP0.out
    have p1 := HP1.out
    generalize (w3.setCell ⟨w.heap.size + 1, 0, none⟩ (.slice (some ⟨G, 0, none⟩) r.n r.n)).setCell ⟨w.heap.size + 1, 1, none⟩ (.int .i64 (r.places : Int)) = w9 at *
    (try simp only [Exit.inBlock, Exit.then])
    refine bodyPost_ret (v := .tuple #[.agg #[.slice (some ⟨G, 0, none⟩) r.n r.n, .int .i64 (r.places : Int)], .bool false]) (by simp [results, Try.results24, go_sem, p0, p1]) rfl ?_
    exact ⟨rfl, HB.out.os, HB.out.tape, HB.out.output, HB.out.size, HB.out.block⟩
  · go_region
    have q0 := hA.res.cell 0
    have q1 := hA.res.cell 1
    have z0 := hA.res.free 0
    have z1 := hA.res.free 1
    simp only [List.getElem?_toArray, List.getElem?_cons_zero, List.getElem?_cons_succ] at q0 q1
    obtain ⟨hB, hY⟩ := hA.put G r.n r.places
    unfold putR at hB hY
    have p0 := hY.cell 0
    have p1 := hY.cell 1
    simp only [List.getElem?_toArray, List.getElem?_cons_zero, List.getElem?_cons_succ] at p0 p1
    have HB := Lib.hid hB
    have HP0 := Lib.hid p0
    have HP1 := Lib.hid p1
    clear hB hY p0 p1
    go_wp2_with fail
    have p0 := HP0.out
    have p1 := HP1.out
    generalize (w3.setCell ⟨w.heap.size + 1, 0, none⟩ (.slice (some ⟨G, 0, none⟩) r.n r.n)).setCell ⟨w.heap.size + 1, 1, none⟩ (.int .i64 (r.places : Int)) = w9 at *
    (try simp only [Exit.inBlock, Exit.then])
    refine bodyPost_ret (v := .tuple #[.agg #[.slice (some ⟨G, 0, none⟩) r.n r.n, .int .i64 (r.places : Int)], .bool false]) (by simp [results, Try.results24, go_sem, p0, p1]) rfl ?_
    exact ⟨rfl, HB.out.os, HB.out.tape, HB.out.output, HB.out.size, HB.out.block⟩
  · have h4' : (64 : Int) < (k.length : Int) := by omega
    go_region
    have q0 := hA.res.cell 0
    have q1 := hA.res.cell 1
    have z0 := hA.res.free 0
    have z1 := hA.res.free 1
    simp only [List.getElem?_toArray, List.getElem?_cons_zero, List.getElem?_cons_succ] at q0 q1
    obtain ⟨hB, hY⟩ := hA.put G r.n r.places
    unfold putR at hB hY
    have p0 := hY.cell 0
    have p1 := hY.cell 1
    simp only [List.getElem?_toArray, List.getElem?_cons_zero, List.getElem?_cons_succ] at p0 p1
    have HB := Lib.hid hB
    have HP0 := Lib.hid p0
    have HP1 := Lib.hid p1
    clear hB hY p0 p1
    go_wp2_with fail
    have p0 := HP0.out
    have p1 := HP1.out
    generalize (w3.setCell ⟨w.heap.size + 1, 0, none⟩ (.slice (some ⟨G, 0, none⟩) r.n r.n)).setCell ⟨w.heap.size + 1, 1, none⟩ (.int .i64 (r.places : Int)) = w9 at *
    (try simp only [Exit.inBlock, Exit.then])
    refine bodyPost_ret (v := .tuple #[.agg #[.slice (some ⟨G, 0, none⟩) r.n r.n, .int .i64 (r.places : Int)], .bool false]) (by simp [results, Try.results24, go_sem, p0, p1]) rfl ?_
    exact ⟨rfl, HB.out.os, HB.out.tape, HB.out.output, HB.out.size, HB.out.block⟩
  · have h4' : ¬ (64 : Int) < (k.length : Int) := by omega
    have h6' : decide ((r.places : Int) ≤ (r.many : Int)) = true := decide_eq_true (by omega)
    have h6'' : (r.places : Int) ≤ (r.many : Int) := by omega
    rw [h5]
    have hmany : ∀ v, RefAt v O G vs r → Calls Try.prog 60 #[.agg #[.slice (some ⟨G, 0, none⟩) r.n r.n, .int .i64 (r.places : Int)]] v fun e w' => e = .returned (.int .i64 (r.many : Int)) ∧ Below v.heap.size v w' := fun v hv => rmany_c hn hlen v hv
    go_region_held3 (fun w' => w'.cell? ⟨w.heap.size, 0, none⟩ = some (.slice (some ⟨G, 0, none⟩) r.n r.n) ∧ w'.cell? ⟨w.heap.size, 1, none⟩ = some (.int .i64 (r.places : Int)) ∧ Asks w O G vs r w')
      (first | exact ⟨x0, x1, hA⟩ | exact asksP (by assumption) (by assumption) | exact asksPd (by assumption) | exact asksPd ⟨x0, x1, hA⟩ | exact asksPn _ ⟨x0, x1, hA⟩ | exact asksPn _ (by assumption) | go_keep)
      (first | (go_at_call 60; refine (hmany _ (asksR (by assumption))).mono ?_; rintro e v ⟨rfl, hv⟩))
    have hAv : Asks w O G vs r v := asksA (by assumption)
    clear x0 x1
    have x0 := hAv.box.cell 0
    have x1 := hAv.box.cell 1
    simp only [List.getElem?_toArray, List.getElem?_cons_zero, List.getElem?_cons_succ] at x0 x1
    have q0 := hAv.res.cell 0
    have q1 := hAv.res.cell 1
    have z0 := hAv.res.free 0
    have z1 := hAv.res.free 1
    simp only [List.getElem?_toArray, List.getElem?_cons_zero, List.getElem?_cons_succ] at q0 q1
    obtain ⟨hB, hY⟩ := hAv.put G r.n r.places
    unfold putR at hB hY
    have p0 := hY.cell 0
    have p1 := hY.cell 1
    simp only [List.getElem?_toArray, List.getElem?_cons_zero, List.getElem?_cons_succ] at p0 p1
    have HB := Lib.hid hB
    have HP0 := Lib.hid p0
    have HP1 := Lib.hid p1
    clear hB hY p0 p1
    go_wp2_with fail
    have p0 := HP0.out
    have p1 := HP1.out
    generalize (v.setCell ⟨w.heap.size + 1, 0, none⟩ (.slice (some ⟨G, 0, none⟩) r.n r.n)).setCell ⟨w.heap.size + 1, 1, none⟩ (.int .i64 (r.places : Int)) = w9 at *
    (try simp only [Exit.inBlock, Exit.then])
    refine bodyPost_ret (v := .tuple #[.agg #[.slice (some ⟨G, 0, none⟩) r.n r.n, .int .i64 (r.places : Int)], .bool false]) (by simp [results, Try.results24, go_sem, p0, p1]) rfl ?_
    exact ⟨rfl, HB.out.os, HB.out.tape, HB.out.output, HB.out.size, HB.out.block⟩
end
end Go.Proofs.Ytfhlnidjneaieaa.Ringy
