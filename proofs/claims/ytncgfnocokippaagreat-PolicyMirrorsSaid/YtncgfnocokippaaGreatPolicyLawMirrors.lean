/- Layer 9 (policy): for every input the call returns true and leaves what it was given as it was: a policy that was read of another one's bytes does the same from then on, key by key the same go (PolicyMirrors). No condition. -/
import Derived.Test.YtncgfnocokippaaGreatPolicyLoopAll
import Derived.Test.YtncgfnocokippaaGreatBlakeOrder
import Derived.Test.YtncgfnocokippaaGreatSq
namespace Go.Proofs.YtncgfnocokippaaGreat.Policyy
open Go.ChangeShapes Go.WideShapes Go.ChangeAt Go.RowKit Go.Shelf
open Wirey (Blk Row str str_size str_list str_of str_take Kp)
open Ringy hiding fewL fewL_le
open Go.ChangeMaps Go.Maps
open Tinyy (fewL Acts)

theorem regionK_only {P : Program} {ops : Array Oper} {Q : Exit → Act → World → Prop} (k : Nat) (L : Array Bool) (g : Nat) {V : World → Prop} {id : Nat} {a : Act} {w : World} (hk : ops.size = k) (hL : L = Array.replicate k false) (hm : P.follows .mixedOrders = true) (hV : V w.drew)
  (h : V w.drew → Wirey.wpAnyK P .any ops (Only Q) (fun _ => True) V g k L a w.drew) : (Code.region id ops true).wp P Q a w := by
 subst hk hL
 exact wp_mono (Wirey.wp_region_K hm (fun _ => True) V g (h hV)) fun e a w ⟨h1, h2⟩ => by subst h1; exact h2
theorem early_at {P : Program} {md : Region.Mode} {ops : Array Oper} {Q : Exit → Act → World → Prop} (g i d : Nat) (v : Value) {V : World → Prop} {oi ok : Oper} {fuel : Nat} {li : Array Bool} {T : Array Value} {D : List Deferred} {w : World} (hi : ops[i]? = some oi) (hd : oi.dst = some d)
  (hs : Region.noSelect ops = true) (hf : Region.free md ops li i = true) (hr : (Region.ready md ops li).contains i = true) (hik : i ≠ g) (hko : ops[g]? = some ok) (hw : ok.after.any (fun e => Region.binds md e && e.on == i) = true) (hk0 : li.getD g false = false)
  (hy : YieldsIf P ops V oi v { tmps := T, defers := D }) (hV : V w)
  (h : Wirey.wpAnyK P md ops (Only Q) (fun _ => True) V g fuel (li.setIfInBounds i true) { tmps := T.setIfInBounds d v, defers := D } w) : Wirey.wpAnyK P md ops (Only Q) (fun _ => True) V g (fuel + 1) li { tmps := T, defers := D } w := by
 refine Wirey.wpAnyK_early i (some d) hi hs hf hr hik (fun _ _ _ h => h.panic) trivial hV hko hw hk0 hy hd ?_
 exact h
theorem takeK_at {P : Program} {md : Region.Mode} {ops : Array Oper} {Q : Exit → Act → World → Prop} (g i d : Nat) (v : Value) {V : World → Prop} {oi : Oper} {fuel : Nat} {li : Array Bool} {T : Array Value} {D : List Deferred} {w : World} (hi : ops[i]? = some oi) (hd : oi.dst = some d)
  (hs : Region.noSelect ops = true) (hf : Region.free md ops li i = true) (hr : (Region.ready md ops li).contains i = true) (hik : i ≠ g)
  (hy : YieldsIf P ops (fun _ => True) oi v { tmps := T, defers := D }) (hV : V w)
  (h : Wirey.wpAnyK P md ops (Only Q) (fun _ => True) V g fuel (li.setIfInBounds i true) { tmps := T.setIfInBounds d v, defers := D } w) : Wirey.wpAnyK P md ops (Only Q) (fun _ => True) V g (fuel + 1) li { tmps := T, defers := D } w := by
 refine Wirey.wpAnyK_take i (some d) hi hs hf hr hik (fun _ _ _ h => h.panic) trivial (fun _ => hV) hy hd ?_
 exact h
set_option maxHeartbeats 8000000 in
set_option maxRecDepth 100000 in
theorem policyMirrors_walk (a0 : Int) (_w0 : (Lit.int .i64 a0).wf = true) (ao : Option Addr) (n cap sb off : Nat) (K : Nat → Int) (T : Nat → List UInt8) (bo : Option Addr) (n2 cap2 sb2 off2 : Nat) (K2 : Nat → Int) (T2 : Nat → List UInt8) (w : World) (ht : Acts w ao n sb off K T) (hu : Acts w bo n2 sb2 off2 K2 T2) :
  Calls Tryz.prog 4 #[.int .i64 a0, .slice ao n cap, .slice bo n2 cap2] w fun e w' => e = .returned (.bool true) ∧ Below w.heap.size w w' := by
 obtain ⟨x, hx, hx2⟩ := and_natP a0 1 1 (by decide) (by omega)
 have hx : bits .and .i64 a0 1 = (x : Int) := hx
 have hn63 := ht.n63
 have hm63 := hu.n63
 have hkd : 1 + x = 1 ∨ 1 + x = 2 := by omega
 have hN := newP_c (kind := 1 + x) (n := 6) (seed := 5) hkd (by omega) (by omega) (by omega) w
 have hRN := fun W => newD (kind := 1 + x) (n := 6) (seed := 5) hkd (by omega) (by omega) (by omega) W
 have hO0 := Pv.new_out (kind := 1 + x) (n := 6) (seed := 5) (by omega) (by omega) (by omega)
 simp only [Int.natCast_add] at hN hRN
 generalize Pv.new (1 + x) 6 5 = p at *
 go_enter Tryz.func4, Tryz.ntmps4
 go_wp2_with fail
 refine hN.mono ?_
 rintro e w1 ⟨C, H, rfl, h1⟩
 go_wp2_with fail
 refine (hRN _).mono ?_
 rintro e w2 ⟨c, I, rfl, hd, hnew, hb2⟩
 have oc := hd.one
 have hs := fun (i : Nat) (a : Addr) (m : Mode) (W : World) => run_store Tryz.prog W a (c i) m (oc i)
 have h2 := h1.later hb2 (Nat.le_refl _)
 have hT0 : Twin w C p H p c I w2 := ⟨h2, hd, fun q hq hi => by have := hnew q hi; have := (h1.own q hq).2; omega, hO0⟩
 have hL0 : Lp w w2.heap.size C p H c I (w2.alloc (.cells #[c 0, c 1, c 2, c 3, c 4, c 5, c 6, c 7, c 8, c 9, c 10, c 11, c 12] 40)) := ⟨hT0.onto ((Below.refl _ w2).alloc (Nat.le_refl _) (.cells #[c 0, c 1, c 2, c 3, c 4, c 5, c 6, c 7, c 8, c 9, c 10, c 11, c 12] 40)), Blk.new w2 40 #[c 0, c 1, c 2, c 3, c 4, c 5, c 6, c 7, c 8, c 9, c 10, c 11, c 12], hT0.fresh (Nat.le_refl _), h2.below.size⟩
 clear hN hRN h1 h2 hd hnew hb2 hT0
 go_upto_region 4 with (fail)
 generalize w2.heap.size = mb at *
 generalize w2.alloc (.cells #[c 0, c 1, c 2, c 3, c 4, c 5, c 6, c 7, c 8, c 9, c 10, c 11, c 12] 40) = w3 at *
 clear hs oc
 go_wp2_with fail
 refine (awakeP_c _).mono ?_
 rintro e w4 ⟨rfl, hb4⟩
 have hL4 := hL0.onto hb4
 clear hL0 hb4
 go_wp2_with fail
 go_loopw [8, 11] (fun v8 i wr => ∃ (j C : Nat) (p : Pv) (H : Nat → Prop) (c : Nat → Value) (I : Nat → Prop), j ≤ n ∧ j ≤ 50 ∧ i = .int .i64 j ∧ v8 = .pointer (some ⟨C, 0, none⟩) ∧ Lp w mb C p H c I wr) (fun _ i _ => 50 - (intOf i).toNat)
 case atStart => exact ⟨0, C, p, H, c, I, by omega, by omega, rfl, rfl, hL4⟩
 case round =>
  obtain ⟨j, C, p, H, c, I, hjn, hj80, rfl, rfl, hL⟩ := hrel
  clear hL4 hO0
  by_cases h1 : j < n ∧ j < 50
  ·obtain ⟨h1, h80⟩ := h1
   have d1 : decide ((j : Int) < (n : Int)) = true := decide_eq_true (by omega)
   have d2 : decide ((j : Int) < 50) = true := decide_eq_true (by omega)
   have q1 : (0 : Int) ≤ (j : Int) := by omega
   have q2 : (j : Int) < (n : Int) := by omega
   have hao := ht.ao (by omega)
   have hsb := ht.lt (by omega)
   have hw1 := ht.kind j h1
   have hw2 := ht.key j h1
   have hsize := ht.size j h1
   subst hao
   generalize K j = q at *
   go_upto_region 9 with (fail)
   have hLd : Lp w mb C p H c I wr.drew := hL.drewN 1
   have hactd : wr.drew.cell? ⟨sb, off + j * 2, none⟩ = some (.int .i64 q) ∧ wr.drew.cell? ⟨sb, off + j * 2 + 1, none⟩ = some (.string (str (T j))) := ⟨(World.cell?_of_block (hLd.low.block sb hsb)).trans hw1, (World.cell?_of_block (hLd.low.block sb hsb)).trans hw2⟩
   have hS9 : wr.drew.cell? ⟨mb, 0, none⟩ = some (c 0) ∧ wr.drew.cell? ⟨mb, 1, none⟩ = some (c 1) ∧ wr.drew.cell? ⟨mb, 2, none⟩ = some (c 2) ∧ wr.drew.cell? ⟨mb, 3, none⟩ = some (c 3) ∧ wr.drew.cell? ⟨mb, 4, none⟩ = some (c 4) ∧ wr.drew.cell? ⟨mb, 5, none⟩ = some (c 5) ∧ wr.drew.cell? ⟨mb, 6, none⟩ = some (c 6) ∧ wr.drew.cell? ⟨mb, 7, none⟩ = some (c 7) ∧ wr.drew.cell? ⟨mb, 8, none⟩ = some (c 8) ∧ wr.drew.cell? ⟨mb, 9, none⟩ = some (c 9) ∧ wr.drew.cell? ⟨mb, 10, none⟩ = some (c 10) ∧ wr.drew.cell? ⟨mb, 11, none⟩ = some (c 11) ∧ wr.drew.cell? ⟨mb, 12, none⟩ = some (c 12) ∧ wr.drew.cell? ⟨sb, off + j * 2, none⟩ = some (.int .i64 q) ∧ wr.drew.cell? ⟨sb, off + j * 2 + 1, none⟩ = some (.string (str (T j))) := ⟨hLd.box.cell 0, hLd.box.cell 1, hLd.box.cell 2, hLd.box.cell 3, hLd.box.cell 4, hLd.box.cell 5, hLd.box.cell 6, hLd.box.cell 7, hLd.box.cell 8, hLd.box.cell 9, hLd.box.cell 10, hLd.box.cell 11, hLd.box.cell 12, hactd⟩
   have fdA := fun W (h : Lp w mb C p H c I W) => do_c (K := fun q => q = mb) (T j) hsize q (fun q hq => by subst hq; exact ⟨h.box.lt, h.sd⟩) h.two
   generalize hv1 : p.act q (fewL (T j)) = p1 at *
   refine regionK_only 13 #[false, false, false, false, false, false, false, false, false, false, false, false, false] 12 (V := (fun W => W.cell? ⟨mb, 0, none⟩ = some (c 0) ∧ W.cell? ⟨mb, 1, none⟩ = some (c 1) ∧ W.cell? ⟨mb, 2, none⟩ = some (c 2) ∧ W.cell? ⟨mb, 3, none⟩ = some (c 3) ∧ W.cell? ⟨mb, 4, none⟩ = some (c 4) ∧ W.cell? ⟨mb, 5, none⟩ = some (c 5) ∧ W.cell? ⟨mb, 6, none⟩ = some (c 6) ∧ W.cell? ⟨mb, 7, none⟩ = some (c 7) ∧ W.cell? ⟨mb, 8, none⟩ = some (c 8) ∧ W.cell? ⟨mb, 9, none⟩ = some (c 9) ∧ W.cell? ⟨mb, 10, none⟩ = some (c 10) ∧ W.cell? ⟨mb, 11, none⟩ = some (c 11) ∧ W.cell? ⟨mb, 12, none⟩ = some (c 12) ∧ W.cell? ⟨sb, off + j * 2, none⟩ = some (.int .i64 q) ∧ W.cell? ⟨sb, off + j * 2 + 1, none⟩ = some (.string (str (T j))))) rfl rfl (by kernel_rfl) hS9 (fun hSw => ?_)
   refine takeK_at 12 0 47 (fuel := 12) ?_ rfl rfl (by kernel_rfl) (by kernel_rfl) (by kernel_rfl) (by decide) (Or.inl ⟨by rfl, ?_⟩) hSw ?_
   rotate_left
   ·intro wx _
    go_simp
    (try with_reducible rfl)
   simp only [sA, List.set_cons_zero, sC]
   refine early_at 12 1 48 (fuel := 11) ?_ rfl rfl (by kernel_rfl) (by kernel_rfl) (by kernel_rfl) (by decide) rfl (by kernel_rfl) (by kernel_rfl) (Or.inl ⟨by rfl, ?_⟩) hSw ?_
   rotate_left
   ·intro wx hSx
    (try dsimp only at hSx)
    go_split_ands
    go_simp
    (try with_reducible rfl)
   simp only [sA, List.set_cons_zero, sC]
   refine takeK_at 12 2 49 (fuel := 10) ?_ rfl rfl (by kernel_rfl) (by kernel_rfl) (by kernel_rfl) (by decide) (Or.inl ⟨by rfl, ?_⟩) hSw ?_
   rotate_left
   ·intro wx _
    go_simp
    (try with_reducible rfl)
   simp only [sA, List.set_cons_zero, sC]
   refine takeK_at 12 3 50 (fuel := 9) ?_ rfl rfl (by kernel_rfl) (by kernel_rfl) (by kernel_rfl) (by decide) (Or.inl ⟨by rfl, ?_⟩) hSw ?_
   rotate_left
   ·intro wx _
    go_simp
    (try with_reducible rfl)
   simp only [sA, List.set_cons_zero, sC]
   refine takeK_at 12 4 51 (fuel := 8) ?_ rfl rfl (by kernel_rfl) (by kernel_rfl) (by kernel_rfl) (by decide) (Or.inl ⟨by rfl, ?_⟩) hSw ?_
   rotate_left
   ·intro wx _
    go_simp
    (try with_reducible rfl)
   simp only [sA, List.set_cons_zero, sC]
   refine early_at 12 5 52 (fuel := 7) ?_ rfl rfl (by kernel_rfl) (by kernel_rfl) (by kernel_rfl) (by decide) rfl (by kernel_rfl) (by kernel_rfl) (Or.inl ⟨by rfl, ?_⟩) hSw ?_
   rotate_left
   ·intro wx hSx
    (try dsimp only at hSx)
    go_split_ands
    go_simp
    (try with_reducible rfl)
   simp only [sA, List.set_cons_zero, sC]
   refine Wirey.wpAnyK_one 6 (by kernel_rfl) rfl (fun K hK => ?_)
   go_simp
   refine Calls.mono (fdA _ hLd) ?_
   rintro e wv ⟨C', H', d, I', rfl, hT', hKp⟩
   obtain ⟨e1, e2⟩ := hKp mb rfl
   have hb1 : Blk wv mb 40 #[c 0, c 1, c 2, c 3, c 4, c 5, c 6, c 7, c 8, c 9, c 10, c 11, c 12] := e1.trans hLd.box
   have hact' : wv.cell? ⟨sb, off + j * 2, none⟩ = some (.int .i64 q) ∧ wv.cell? ⟨sb, off + j * 2 + 1, none⟩ = some (.string (str (T j))) := ⟨(World.cell?_of_block (hT'.a.below.block sb hsb)).trans hw1, (World.cell?_of_block (hT'.a.below.block sb hsb)).trans hw2⟩
   have hSv : wv.cell? ⟨mb, 0, none⟩ = some (c 0) ∧ wv.cell? ⟨mb, 1, none⟩ = some (c 1) ∧ wv.cell? ⟨mb, 2, none⟩ = some (c 2) ∧ wv.cell? ⟨mb, 3, none⟩ = some (c 3) ∧ wv.cell? ⟨mb, 4, none⟩ = some (c 4) ∧ wv.cell? ⟨mb, 5, none⟩ = some (c 5) ∧ wv.cell? ⟨mb, 6, none⟩ = some (c 6) ∧ wv.cell? ⟨mb, 7, none⟩ = some (c 7) ∧ wv.cell? ⟨mb, 8, none⟩ = some (c 8) ∧ wv.cell? ⟨mb, 9, none⟩ = some (c 9) ∧ wv.cell? ⟨mb, 10, none⟩ = some (c 10) ∧ wv.cell? ⟨mb, 11, none⟩ = some (c 11) ∧ wv.cell? ⟨mb, 12, none⟩ = some (c 12) ∧ wv.cell? ⟨sb, off + j * 2, none⟩ = some (.int .i64 q) ∧ wv.cell? ⟨sb, off + j * 2 + 1, none⟩ = some (.string (str (T j))) := ⟨hb1.cell 0, hb1.cell 1, hb1.cell 2, hb1.cell 3, hb1.cell 4, hb1.cell 5, hb1.cell 6, hb1.cell 7, hb1.cell 8, hb1.cell 9, hb1.cell 10, hb1.cell 11, hb1.cell 12, hact'⟩
   refine hK.out _ _ trivial (fun _ => hSv) ?_
   clear hK K hSw
   simp only [sA, List.set_cons_zero, sC]
   have hSw := hSv
   clear hSv
   refine takeK_at 12 7 46 (fuel := 5) ?_ rfl rfl (by kernel_rfl) (by kernel_rfl) (by kernel_rfl) (by decide) (Or.inl ⟨by rfl, ?_⟩) hSw ?_
   rotate_left
   ·intro wx _
    go_simp
    (try with_reducible rfl)
   simp only [sA, List.set_cons_zero, sC]
   refine takeK_at 12 8 54 (fuel := 4) ?_ rfl rfl (by kernel_rfl) (by kernel_rfl) (by kernel_rfl) (by decide) (Or.inl ⟨by rfl, ?_⟩) hSw ?_
   rotate_left
   ·intro wx _
    go_simp
    (try with_reducible rfl)
   simp only [sA, List.set_cons_zero, sC]
   refine takeK_at 12 9 55 (fuel := 3) ?_ rfl rfl (by kernel_rfl) (by kernel_rfl) (by kernel_rfl) (by decide) (Or.inl ⟨by rfl, ?_⟩) hSw ?_
   rotate_left
   ·intro wx _
    go_simp
    (try with_reducible rfl)
   simp only [sA, List.set_cons_zero, sC]
   refine takeK_at 12 10 56 (fuel := 2) ?_ rfl rfl (by kernel_rfl) (by kernel_rfl) (by kernel_rfl) (by decide) (Or.inl ⟨by rfl, ?_⟩) hSw ?_
   rotate_left
   ·intro wx _
    go_simp
    (try with_reducible rfl)
   simp only [sA, List.set_cons_zero, sC]
   refine takeK_at 12 11 8 (fuel := 1) ?_ rfl rfl (by kernel_rfl) (by kernel_rfl) (by kernel_rfl) (by decide) (Or.inl ⟨by rfl, ?_⟩) hSw ?_
   rotate_left
   ·intro wx _
    go_simp
    (try with_reducible rfl)
   simp only [sA, List.set_cons_zero, sC]
   have od := hT'.d.one
   have hd := fun (i : Nat) (a : Addr) (m : Mode) (W : World) => run_store Tryz.prog W a (d i) m (od i)
   have z0 := hb1.cell 0
   have z1 := hb1.cell 1
   have z2 := hb1.cell 2
   have z3 := hb1.cell 3
   have z4 := hb1.cell 4
   have z5 := hb1.cell 5
   have z6 := hb1.cell 6
   have z7 := hb1.cell 7
   have z8 := hb1.cell 8
   have z9 := hb1.cell 9
   have z10 := hb1.cell 10
   have z11 := hb1.cell 11
   have z12 := hb1.cell 12
   have zf0 := hb1.free 0
   have zf1 := hb1.free 1
   have zf2 := hb1.free 2
   have zf3 := hb1.free 3
   have zf4 := hb1.free 4
   have zf5 := hb1.free 5
   have zf6 := hb1.free 6
   have zf7 := hb1.free 7
   have zf8 := hb1.free 8
   have zf9 := hb1.free 9
   have zf10 := hb1.free 10
   have zf11 := hb1.free 11
   have zf12 := hb1.free 12
   simp only [gA, gB, gC] at z0 z1 z2 z3 z4 z5 z6 z7 z8 z9 z10 z11 z12
   have hmbl := hLd.mbl
   have hLz : Lp w mb C' p1 H' d I' (((((((((((((wv.setCell ⟨mb, 0, none⟩ (d 0)).setCell ⟨mb, 1, none⟩ (d 1)).setCell ⟨mb, 2, none⟩ (d 2)).setCell ⟨mb, 3, none⟩ (d 3)).setCell ⟨mb, 4, none⟩ (d 4)).setCell ⟨mb, 5, none⟩ (d 5)).setCell ⟨mb, 6, none⟩ (d 6)).setCell ⟨mb, 7, none⟩ (d 7)).setCell ⟨mb, 8, none⟩ (d 8)).setCell ⟨mb, 9, none⟩ (d 9)).setCell ⟨mb, 10, none⟩ (d 10)).setCell ⟨mb, 11, none⟩ (d 11)).setCell ⟨mb, 12, none⟩ (d 12)) := lp_lay hT' hb1 e2 hmbl
   refine Wirey.wpAnyK_one 12 (by kernel_rfl) rfl (fun K hK => ?_)
   go_simp
   refine hK.out _ _ trivial (fun h9 => absurd h9 (by decide)) ?_
   clear hK K
   simp only [sA, List.set_cons_zero, sC]
   refine Wirey.wpAnyK_done (by kernel_rfl) ⟨rfl, ?_⟩
   clear hSw hact' hb1 hT' hS9 hLd hactd
   clear z0 zf0 z1 zf1 z2 zf2 z3 zf3 z4 zf4 z5 zf5 z6 zf6 z7 zf7 z8 zf8 z9 zf9 z10 zf10 z11 zf11 z12 zf12
   go_wp2_with fail
   go_roundw
   case rel => exact ⟨j + 1, C', p1, H', d, I', by omega, by omega, by simp, rfl, hLz⟩
   case measure => simp [intOf]; omega
  ·have hend : (j < n ∧ ¬ j < 50 ∧ decide ((j : Int) < (n : Int)) = true ∧ decide ((j : Int) < 50) = false) ∨ (¬ j < n ∧ decide ((j : Int) < (n : Int)) = false) := by
    by_cases h : j < n
    ·exact .inl ⟨h, by omega, decide_eq_true (by omega), decide_eq_false (by omega)⟩
    ·exact .inr ⟨h, decide_eq_false (by omega)⟩
   clear h1
   have hg := hL.two.g
   have hH := hL.two.a
   clear hL hn63
   rcases hend with ⟨h2, h3, d1, d2⟩ | ⟨h2, d1⟩
   all_goals
    go_upto_region 10 with (fail)
    clear d1
    generalize wr = wa at *
    go_wp2_with fail
    refine (exportP_c hg hH).mono ?_
    rintro e wb ⟨rfl, hE⟩
    have hH1 := hE.h
    clear hE hH
    go_wp2_with fail
    refine (importP_c hg _).mono ?_
    rintro e wc ⟨D, I2, rfl, hNw, hbl⟩
    have hD : Duo w C D wc p p H I2 := ⟨hH1.later hbl (Nat.le_refl _), hNw.held (hH1.below.trans (hbl.mono hH1.below.size)) hH1.below.size, fun q hq hi => by have := (hH1.own q hq).2; have := hNw.own q hi; omega⟩
    clear hH1 hNw hbl
    go_wp2_with fail
    go_loopw [14] (fun i wr => ∃ (j : Nat) (p : Pv) (H I : Nat → Prop), j ≤ n2 ∧ j ≤ 50 ∧ i = .int .i64 j ∧ Duo w C D wr p p H I ∧ p.Out) (fun i _ => 50 - (intOf i).toNat)
    case atStart => exact ⟨0, p, H, I2, by omega, by omega, rfl, hD, hg⟩
    case round =>
     obtain ⟨j, p, H, I, hjn, hj50, rfl, hD', hg'⟩ := hrel
     clear hD hg
     by_cases h5 : j < n2 ∧ j < 50
     ·obtain ⟨h5, h50⟩ := h5
      have d1 : decide ((j : Int) < (n2 : Int)) = true := decide_eq_true (by omega)
      have d2 : decide ((j : Int) < 50) = true := decide_eq_true (by omega)
      have q1 : (0 : Int) ≤ (j : Int) := by omega
      have q2 : (j : Int) < (n2 : Int) := by omega
      have hao := hu.ao (by omega)
      have hsb := hu.lt (by omega)
      have hw1 := (World.cell?_of_block (hD'.a.below.block sb2 hsb)).trans (hu.kind j h5)
      have hw2 := (World.cell?_of_block (hD'.a.below.block sb2 hsb)).trans (hu.key j h5)
      have hsize := hu.size j h5
      subst hao
      have hfl := fewP_le (T2 j)
      generalize K2 j = q at *
      have ff := fun W => fewP_c (T2 j) hsize W
      go_wp2_with fail
      refine (ff _).mono ?_
      rintro e w' ⟨rfl, rfl⟩
      generalize fewL (T2 j) = k at *
      clear ff hsize
      by_cases h4 : q = 4
      ·subst h4
       go_wp2_with fail
       refine (touchP_c hfl hD'.a).mono ?_
       rintro e wx ⟨rfl, H1, hH, hS⟩
       have hE1 := hD'.stepA hH hS
       clear hH hS hD'
       go_wp2_with fail
       refine (touchP_c hfl hE1.b).mono ?_
       rintro e wy ⟨rfl, I1, hH, hS⟩
       have hE := hE1.stepB hH hS
       clear hH hS hE1
       generalize p.has k = bb at *
       go_wp2_with fail
       go_roundw
       case rel => exact ⟨j + 1, _, _, _, by omega, by omega, by simp, hE, hg'.touch k⟩
       case measure => simp [intOf]; omega
      by_cases h5 : q = 5
      ·subst h5
       go_wp2_with fail
       refine (touchP_c hfl hD'.a).mono ?_
       rintro e wx ⟨rfl, H1, hH, hS⟩
       have hE1 := hD'.stepA hH hS
       clear hH hS hD'
       go_wp2_with fail
       refine (touchP_c hfl hE1.b).mono ?_
       rintro e wy ⟨rfl, I1, hH, hS⟩
       have hE := hE1.stepB hH hS
       clear hH hS hE1
       generalize p.has k = bb at *
       go_wp2_with fail
       go_roundw
       case rel => exact ⟨j + 1, _, _, _, by omega, by omega, by simp, hE, hg'.touch k⟩
       case measure => simp [intOf]; omega
      by_cases h6 : q = 6
      ·subst h6
       go_wp2_with fail
       refine (dropP_c hfl hD'.a).mono ?_
       rintro e wx ⟨rfl, H1, hH, hS⟩
       have hE1 := hD'.stepA hH hS
       clear hH hS hD'
       go_wp2_with fail
       refine (dropP_c hfl hE1.b).mono ?_
       rintro e wy ⟨rfl, I1, hH, hS⟩
       have hE := hE1.stepB hH hS
       clear hH hS hE1
       generalize p.has k = bb at *
       go_wp2_with fail
       go_roundw
       case rel => exact ⟨j + 1, _, _, _, by omega, by omega, by simp, hE, hg'.drop k⟩
       case measure => simp [intOf]; omega
      by_cases h7 : q = 7
      ·subst h7
       have htl := Wirey.toList_str
       go_wp2_with fail
       refine (evictP_c hD'.a).mono ?_
       rintro e wx ⟨rfl, H1, hH, hS⟩
       have hE1 := hD'.stepA hH hS
       clear hH hS hD'
       go_wp2_with fail
       refine (evictP_c hE1.b).mono ?_
       rintro e wy ⟨rfl, I1, hH, hS⟩
       have hE := hE1.stepB hH hS
       clear hH hS hE1
       generalize p.goes.getD [] = tt at *
       go_wp2_with fail
       go_roundw
       case rel => exact ⟨j + 1, _, _, _, by omega, by omega, by simp, hE, hg'.evict⟩
       case measure => simp [intOf]; omega
      by_cases h8 : q = 8
      ·subst h8
       go_wp2_with fail
       refine (missP_c hfl hD'.a).mono ?_
       rintro e wx ⟨rfl, H1, hH, hS⟩
       have hE1 := hD'.stepA hH hS
       clear hH hS hD'
       go_wp2_with fail
       refine (missP_c hfl hE1.b).mono ?_
       rintro e wy ⟨rfl, I1, hH, hS⟩
       have hE := hE1.stepB hH hS
       clear hH hS hE1
       skip
       go_wp2_with fail
       go_roundw
       case rel => exact ⟨j + 1, _, _, _, by omega, by omega, by simp, hE, hg'.miss k⟩
       case measure => simp [intOf]; omega
      have b4 : (q == 4) = false := beq_eq_false_iff_ne.2 h4
      have b5 : (q == 5) = false := beq_eq_false_iff_ne.2 h5
      have b6 : (q == 6) = false := beq_eq_false_iff_ne.2 h6
      have b7 : (q == 7) = false := beq_eq_false_iff_ne.2 h7
      have b8 : (q == 8) = false := beq_eq_false_iff_ne.2 h8
      have HL := Lib.hid (hg'.lens k)
      clear h4 h5 h6 h7 h8
      go_wp2_with fail
      refine (insertP_c hfl hD'.a).mono ?_
      rintro e wx ⟨v1, H1, rfl, hH, hS, hT1⟩
      have hE1 := hD'.stepA hH hS
      have hrn : ∀ b, v1.ownBlock = some b → ¬ I b := fun b hb ho => by have := (hT1.row.lt b hb).1; have := (hD'.b.own b ho).2; omega
      clear hH hS hD'
      obtain ⟨va, vc, rfl⟩ := hT1.form
      go_wp2_with fail
      refine (insertP_c hfl hE1.b).mono ?_
      rintro e wy ⟨v2, I1, rfl, hH, hS, hT2⟩
      have hE := hE1.stepB hH hS
      have hr1 := ownsRow_stay (w' := wy) hT1.row fun b hb => hS.kp.block b (hT1.row.lt b hb).2 (hrn b hb)
      have ft := texts_c HL.out wy hr1 hT2.row
      obtain ⟨vb, vd, rfl⟩ := hT2.form
      clear hH hS hE1 hT1 hT2 hrn hr1
      go_wp2_with fail
      refine ft.mono ?_
      rintro e wz ⟨rfl, hbz⟩
      replace hE := hE.later hbz (Nat.le_refl _)
      clear ft hbz
      go_wp2_with fail
      go_roundw
      case rel => exact ⟨j + 1, _, _, _, by omega, by omega, by simp, hE, hg'.insert k⟩
      case measure => simp [intOf]; omega
     ·have hend : (j < n2 ∧ ¬ j < 50 ∧ decide ((j : Int) < (n2 : Int)) = true ∧ decide ((j : Int) < 50) = false) ∨ (¬ j < n2 ∧ decide ((j : Int) < (n2 : Int)) = false) := by
       by_cases h : j < n2
       ·exact .inl ⟨h, by omega, decide_eq_true (by omega), decide_eq_false (by omega)⟩
       ·exact .inr ⟨h, decide_eq_false (by omega)⟩
      clear h5
      have htl := Wirey.toList_str
      have fe := exportP_c hg' hD'.a
      rcases hend with ⟨h5, h6, d1, d2⟩ | ⟨h5, d1⟩
      all_goals
       go_wp2_with fail
       refine fe.mono ?_
       rintro e wd ⟨rfl, hE⟩
       have hb := hD'.b.later hE.b (Nat.le_refl _)
       go_wp2_with fail
       refine (exportP_c hg' hb).mono ?_
       rintro e we ⟨rfl, hE2⟩
       go_wp2_with fail
       go_ret
       exact ⟨rfl, hE2.h.below⟩
set_option linter.unusedVariables false in
set_option maxRecDepth 100000 in
theorem policyMirrors_lifted (os : Os) (started : os.Started) (H : Type) (enc : TypeId × Value → H) :
  ReturnsInHanded {} Tryz.checked os 4 .any (Rows.policyMirrorsSpec.pre6 enc Tryz.prog Tryz.f4 Rows.policyMirrorsRow.domain false) (Rows.policyMirrorsSpec.post enc Tryz.prog Tryz.f4 false true false false) := by
 refine returnsInHanded_of_change (C := Tryz.checked) Kit.own started (by kernel_rfl) Tryz.func4
  (ChangeSpec.witness6 (enc := enc) (C := Tryz.checked) false ⟨#[], #[.int .i64 0, .slice none 0 0, .slice none 0 0], []⟩ 8 (by kernel_rfl) (by kernel_rfl) (by kernel_rfl) (by kernel_rfl)) ?_
 intro W base args ds gs before hval0 hW hcnd _
 have hval : ∀ (j : Nat) t v, Tryz.f4.params[j]? = some t → args[j]? = some v → Value.okWide Tryz.prog W .any base t v := hval0
 have hW' := hW
 obtain ⟨p, q, hA0, hV, rfl, hfz, hnd⟩ := hW
 have hA : DataW.TrodAll enc Tryz.prog W 0 (fun _ => true) true Tryz.f4.params.toList args.toList ds p := hA0
 rw [Tryz.params4] at hA hval
 obtain ⟨v0, vs0, d0, ds0, p0, q0, hargs, rfl, rfl, h0, r0⟩ := trodAll_cons hA
 obtain ⟨v1, vs1, d1, ds1, p1, q1, rfl, rfl, rfl, h1, r1⟩ := trodAll_cons r0
 obtain ⟨v2, vs2, d2, ds2, p2, q2, rfl, rfl, rfl, h2, r2⟩ := trodAll_cons r1
 obtain ⟨rfl, rfl, rfl⟩ := trodAll_nil r2
 obtain ⟨rfl, rfl⟩ := trodVars_none hV
 obtain rfl : args = #[v0, v1, v2] := by cases args; simp_all
 obtain ⟨a0, rfl, rfl, rfl, w0⟩ := open_int Tryz.underlying3 (hval 0 3 v0 rfl rfl) h0
 obtain ⟨b1, c1, e1, rfl⟩ := okWide_slice Tryz.underlying22 (hval 1 22 v1 rfl rfl)
 obtain ⟨fuel1, hf1⟩ := h1
 obtain ⟨ao1, len1, cap1, sb1, off1, kx1, tx1, hv1, ht1⟩ := open_acts (show DataW.trod enc Tryz.prog W 0 (fun _ => true) true fuel1 22 [.slice b1 c1 e1] = some _ from hf1)
 injection hv1 with hv1x hv1y hv1z
 subst hv1x hv1y hv1z
 obtain ⟨b2, c2, e2, rfl⟩ := okWide_slice Tryz.underlying22 (hval 2 22 v2 rfl rfl)
 obtain ⟨fuel2, hf2⟩ := h2
 obtain ⟨ao2, len2, cap2, sb2, off2, kx2, tx2, hv2, ht2⟩ := open_acts (show DataW.trod enc Tryz.prog W 0 (fun _ => true) true fuel2 22 [.slice b2 c2 e2] = some _ from hf2)
 injection hv2 with hv2x hv2y hv2z
 subst hv2x hv2y hv2z
 clear hA0 hval0
 refine (policyMirrors_walk a0 w0 _ _ _ _ _ _ _ _ _ _ _ _ _ _ W ht1 ht2).mono fun e W' ⟨he, hg⟩ => ?_
 subst he
 exact ⟨_, rfl, Kit.law_post hW' rfl (by kernel_rfl) rfl (by kernel_rfl) hg⟩

theorem policyMirrors_over : Rows.policyMirrorsRow.holds Tryz.pinned (OpenSpec.ofChange Rows.policyMirrorsSpec) :=
 OpenClaim.holds_of_wide 4 Tryz.f4 rfl rfl rfl rfl rfl rfl rfl ⟨rfl, rfl, rfl, rfl, rfl⟩ rfl rfl rfl rfl rfl (by kernel_rfl) Tryz.func4 (by kernel_rfl)
  (of_decide_eq_true (by kernel_rfl)) (by unfold Func.isWrapper; first | (rw [if_pos (by decide +kernel)]; kernel_rfl) | (rw [if_neg (by decide +kernel)]; exact ⟨rfl, rfl⟩))
  (fun os started H enc _ => policyMirrors_lifted os started H enc)

theorem policyMirrors_holds : Rows.PolicyMirrorsSaid :=
 policyMirrors_over

end Go.Proofs.YtncgfnocokippaaGreat.Policyy
