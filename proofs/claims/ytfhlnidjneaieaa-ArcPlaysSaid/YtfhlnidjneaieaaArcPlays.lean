/- Layer 7 (arc): for every input the call returns true and leaves what it was given as it was: whatever is asked for, kept, removed and evicted, what goes and what is kept is the document's, list by list, with its target; through its bytes, too (ArcPlays). No condition. -/
import Derived.Test.YtfhlnidjneaieaaKit
import Derived.Test.YtfhlnidjneaieaaArcDoing
import Derived.Deep.CutBlock
import Derived.Deep.CutRange
import Derived.Deep.RegionHeld3
import Derived.Deep.QuietTactic
import Derived.BigQuiet
namespace Go.Proofs.Ytfhlnidjneaieaa.Arcy
open Go.ChangeShapes Go.WideShapes Go.ChangeAt Go.RowKit Go.Shelf
open Wirey (Blk Row str str_size str_list str_of str_take Kp)
open Ringy Go.ChangeMaps Go.Maps

theorem i64_andA (n : Int) (m k : Nat) (hk : (BitVec.ofInt 64 (m : Int)).toNat = 2 ^ k - 1) (hs : k ≤ 20) : bits .and .i64 n (m : Int) = ((n % ((2 ^ 64 : Nat) : Int)).toNat % 2 ^ k : Nat) := by
  have key : (BitVec.ofInt 64 n &&& BitVec.ofInt 64 (m : Int)).toNat = (n % ((2 ^ 64 : Nat) : Int)).toNat % 2 ^ k := by
    rw [BitVec.toNat_and, BitVec.toNat_ofInt, hk, Nat.and_two_pow_sub_one_eq_mod]
  show IntKind.i64.wrap ((BitVec.ofInt 64 n &&& BitVec.ofInt 64 (m : Int)).toNat : Nat) = _
  rw [key, IntKind.wrap_i64]
  have h1 : (n % ((2 ^ 64 : Nat) : Int)).toNat % 2 ^ k < 2 ^ k := Nat.mod_lt _ (Nat.two_pow_pos k)
  have h2 : 2 ^ k ≤ 2 ^ 20 := Nat.pow_le_pow_right (by omega) hs
  generalize (n % ((2 ^ 64 : Nat) : Int)).toNat % 2 ^ k = q at *
  omega
theorem and_natA (n : Int) (m k : Nat) (hk : (BitVec.ofInt 64 (m : Int)).toNat = 2 ^ k - 1) (hs : k ≤ 20) : ∃ q : Nat, bits .and .i64 n (m : Int) = (q : Int) ∧ q < 2 ^ k :=
  ⟨_, i64_andA n m k hk hs, Nat.mod_lt _ (Nat.two_pow_pos k)⟩
section
variable {w0 w x y : World} {K : Nat → Prop} {A P : Nat} {m m' : Rm} {v v' u u' v0 : Av} {G G' G0 : Nat} {vs vs' : Nat → Value} {k : Key}
/-- What an act of a kind makes of an ARC. -/
def Av.act (v : Av) (q : Int) (k : Key) : Av := if q = 4 ∨ q = 5 then v.touch k else if q = 6 then v.dr k else if q = 7 then v.repl false else if q = 8 then v else v.insert k
theorem Av.Fine.act (h : v.Fine) (q : Int) (k : Key) : (v.act q k).Fine := by
  unfold Av.act
  split
  · exact h.touch (Av.touch_ok h.ok k).1
  · split
    · exact h.dr k
    · split
      · exact h.repl false
      · split
        · exact h
        · exact h.insert k
theorem do_c (T : List UInt8) (hT : T.length ≤ maxLen) (q : Int) (hf : v.Fine) (hK : ∀ q, K q → q < w.heap.size ∧ ¬ (m.own q ∨ q = A) ∧ NotIn q G vs 4) (h : Two w0 A P m v v G vs w) :
    Calls Try.prog 36 #[.pointer (some ⟨A, 0, none⟩), .agg #[.int .i64 (v.most : Int), .int .i64 (v.tgt : Int), .slice (some ⟨G, 0, none⟩) 4 4, .int .i64 (v.pl : Int)], .agg #[.int .i64 q, .string (str T)]] w (DoP w0 K w (v.act q (fewL T))) := by
  unfold Av.act
  by_cases h4 : q = 4
  · subst h4
    rw [if_pos (.inl rfl)]
    exact do_touch4 T hT hf hK h
  by_cases h5 : q = 5
  · subst h5
    rw [if_pos (.inr rfl)]
    exact do_touch5 T hT hf hK h
  rw [if_neg (by rintro (e | e); exact h4 e; exact h5 e)]
  by_cases h6 : q = 6
  · subst h6
    rw [if_pos rfl]
    exact do_remove T hT hf hK h
  rw [if_neg h6]
  by_cases h7 : q = 7
  · subst h7
    rw [if_pos rfl]
    exact do_evict T hT hf hK h
  rw [if_neg h7]
  by_cases h8 : q = 8
  · subst h8
    rw [if_pos rfl]
    exact do_read T hT hf hK h
  rw [if_neg h8]
  exact do_insert T hT q (beq_eq_false_iff_ne.2 h4) (beq_eq_false_iff_ne.2 h5) (beq_eq_false_iff_ne.2 h6) (beq_eq_false_iff_ne.2 h7) (beq_eq_false_iff_ne.2 h8) hf hK h
/-- What a round begins and ends with: both, the document's in the box mb. -/
structure Lp (w : World) (mb A P : Nat) (m : Rm) (v : Av) (G : Nat) (vs : Nat → Value) (x : World) : Prop where
  two : Two w A P m v v G vs x
  box : Blk x mb 63 #[.int .i64 (v.most : Int), .int .i64 (v.tgt : Int), .slice (some ⟨G, 0, none⟩) 4 4, .int .i64 (v.pl : Int)]
  nb : NotIn mb G vs 4
  sep : ¬ (m.own mb ∨ mb = A)
  mbl : w.heap.size ≤ mb
theorem Lp.onto {mb : Nat} (h : Lp w mb A P m v G vs x) (hb : Below x.heap.size x y) : Lp w mb A P m v G vs y := ⟨h.two.onto hb, h.box.below hb h.box.lt, h.nb, h.sep, h.mbl⟩
theorem Lp.drewN {mb : Nat} (h : Lp w mb A P m v G vs x) (n : Nat) : Lp w mb A P m v G vs (x.drewN n) := h.onto ⟨rfl, rfl, rfl, Nat.le_refl _, fun _ _ => rfl⟩
theorem Lp.cells {mb : Nat} (h : Lp w mb A P m v G vs x) : x.cell? ⟨mb, 0, none⟩ = some (.int .i64 (v.most : Int)) ∧ x.cell? ⟨mb, 1, none⟩ = some (.int .i64 (v.tgt : Int)) ∧ x.cell? ⟨mb, 2, none⟩ = some (.slice (some ⟨G, 0, none⟩) 4 4) ∧ x.cell? ⟨mb, 3, none⟩ = some (.int .i64 (v.pl : Int)) ∧ x.frozen? ⟨mb, 0, none⟩ = false ∧ x.frozen? ⟨mb, 1, none⟩ = false ∧ x.frozen? ⟨mb, 2, none⟩ = false ∧ x.frozen? ⟨mb, 3, none⟩ = false :=
  ⟨h.box.cell 0, h.box.cell 1, h.box.cell 2, h.box.cell 3, h.box.free 0, h.box.free 1, h.box.free 2, h.box.free 3⟩
theorem Lp.all {mb : Nat} (h : Lp w mb A P m v G vs x) : x.cell? ⟨mb, 0, none⟩ = some (.int .i64 (v.most : Int)) ∧ x.cell? ⟨mb, 1, none⟩ = some (.int .i64 (v.tgt : Int)) ∧ x.cell? ⟨mb, 2, none⟩ = some (.slice (some ⟨G, 0, none⟩) 4 4) ∧ x.cell? ⟨mb, 3, none⟩ = some (.int .i64 (v.pl : Int)) ∧ Lp w mb A P m v G vs x := ⟨h.box.cell 0, h.box.cell 1, h.box.cell 2, h.box.cell 3, h⟩
theorem Lp.allT {mb : Nat} (h : Lp w mb A P m v G vs x) {p : Addr} {z : Value} (hp : p.block < w.heap.size) (hz : w.cell? p = some z) : x.cell? ⟨mb, 0, none⟩ = some (.int .i64 (v.most : Int)) ∧ x.cell? ⟨mb, 1, none⟩ = some (.int .i64 (v.tgt : Int)) ∧ x.cell? ⟨mb, 2, none⟩ = some (.slice (some ⟨G, 0, none⟩) 4 4) ∧ x.cell? ⟨mb, 3, none⟩ = some (.int .i64 (v.pl : Int)) ∧ x.cell? p = some z ∧ Lp w mb A P m v G vs x :=
  ⟨h.box.cell 0, h.box.cell 1, h.box.cell 2, h.box.cell 3, (World.cell?_of_block (h.two.h.below.block p.block hp)).trans hz, h⟩
theorem lp_same {mb : Nat} (h : Lp w mb A P m v G vs x) :
    Calls Try.prog 37 #[.pointer (some ⟨A, 0, none⟩), .agg #[.int .i64 (v.most : Int), .int .i64 (v.tgt : Int), .slice (some ⟨G, 0, none⟩) 4 4, .int .i64 (v.pl : Int)]] x fun e y => e = .returned (.bool true) ∧ Lp w mb A P m v G vs y := by
  refine (sameA_c h.two).mono ?_
  rintro e y ⟨rfl, hb⟩
  exact ⟨rfl, h.onto hb⟩
theorem lp_has {mb : Nat} (h : Lp w mb A P m v G vs x) :
    Calls Try.prog 40 #[.agg #[.int .i64 (v.most : Int), .int .i64 (v.tgt : Int), .slice (some ⟨G, 0, none⟩) 4 4, .int .i64 (v.pl : Int)], .string (str k)] x fun e y => e = .returned (.bool (v.has k)) ∧ Lp w mb A P m v G vs y := by
  refine (rhas_c h.two.h.ok x h.two.d).mono ?_
  rintro e y ⟨rfl, hb⟩
  exact ⟨rfl, h.onto hb⟩
/-- The document's ARC is laid anew in the box. -/
def putM (mb : Nat) (y : World) (a b c d : Nat) : World := ((((y.setCell ⟨mb, 0, none⟩ (.int .i64 (a : Int))).setCell ⟨mb, 1, none⟩ (.int .i64 (b : Int))).setCell ⟨mb, 2, none⟩ (.slice (some ⟨c, 0, none⟩) 4 4)).setCell ⟨mb, 3, none⟩ (.int .i64 (d : Int)))
theorem putM_cell {mb : Nat} {a b c d : Nat} {p : Addr} (h : p.block ≠ mb) : (putM mb x a b c d).cell? p = x.cell? p :=
  (((World.cell?_setCell_far _ _ p _ (Ne.symm h)).trans (World.cell?_setCell_far _ _ p _ (Ne.symm h))).trans (World.cell?_setCell_far _ _ p _ (Ne.symm h))).trans (World.cell?_setCell_far _ _ p _ (Ne.symm h))
theorem lp_put {mb : Nat} (h : Two w A P m v v G vs x) (hb : Blk x mb 63 #[.int .i64 (v0.most : Int), .int .i64 (v0.tgt : Int), .slice (some ⟨G0, 0, none⟩) 4 4, .int .i64 (v0.pl : Int)]) (hn : NotIn mb G vs 4) (hs : ¬ (m.own mb ∨ mb = A)) (hl : w.heap.size ≤ mb) : Lp w mb A P m v G vs (putM mb x v.most v.tgt G v.pl) :=
  ⟨(((h.beside h.h.ok hl hs hn 0 _).beside h.h.ok hl hs hn 1 _).beside h.h.ok hl hs hn 2 _).beside h.h.ok hl hs hn 3 _, (((hb.put 0 (.int .i64 (v.most : Int))).put 1 (.int .i64 (v.tgt : Int))).put 2 (.slice (some ⟨G, 0, none⟩) 4 4)).put 3 (.int .i64 (v.pl : Int)), hn, hs, hl⟩
/-- A block of an ARC's numbers, laid cell by cell. -/
theorem putM_blk {mb : Nat} {cs : Array Value} (hb : Blk x mb 63 cs) (hc : cs.size = 4) (a b c d : Nat) : Blk (putM mb x a b c d) mb 63 #[.int .i64 (a : Int), .int .i64 (b : Int), .slice (some ⟨c, 0, none⟩) 4 4, .int .i64 (d : Int)] := by
  obtain ⟨l⟩ := cs
  match l, hc with
  | [p, q, r, s], _ => exact (((hb.put 0 (.int .i64 (a : Int))).put 1 (.int .i64 (b : Int))).put 2 (.slice (some ⟨c, 0, none⟩) 4 4)).put 3 (.int .i64 (d : Int))
set_option maxHeartbeats 8000000 in
set_option maxRecDepth 100000 in
theorem arcPlays_walk (a0 : Int) (_w0 : (Lit.int .i64 a0).wf = true) (ao : Option Addr) (n cap sb off : Nat) (K : Nat → Int) (T : Nat → List UInt8) (w : World) (ht : Acts w ao n sb off K T) :
    Calls Try.prog 8 #[.int .i64 a0, .slice ao n cap] w fun e w' => e = .returned (.bool true) ∧ Below w.heap.size w w' := by
  obtain ⟨x, hx, hx2⟩ := and_natA a0 15 4 (by decide) (by omega)
  have hx : bits .and .i64 a0 15 = (x : Int) := hx
  have hn63 := ht.n63
  have hN := newA_c (n := 1 + x) (by omega) (by omega) w
  have hRN := fun W => rnew7_c (n := 1 + x) (by omega) (by omega) W
  rw [Int.natCast_add] at hN
  simp only [Int.natCast_add] at hRN
  go_enter Try.func8, Try.ntmps8
  go_wp2_with fail
  refine hN.mono ?_
  rintro e w1 ⟨A, m, rfl, h1⟩
  go_wp2_with fail
  refine (hRN _).mono ?_
  rintro e w2 ⟨G, vs, rfl, hR, hb2⟩
  have hs2 := hR.not_old (q := w2.heap.size)
  have hL0 : Lp w w2.heap.size A (w.heap.size + 2) m (Av.new (1 + x)) G vs (w2.alloc (.cells #[.int .i64 ((Av.new (1 + x)).most : Int), .int .i64 ((Av.new (1 + x)).tgt : Int), .slice (some ⟨G, 0, none⟩) 4 4, .int .i64 ((Av.new (1 + x)).pl : Int)] 63)) := by
    have hbb := (Below.refl _ w2).alloc (Nat.le_refl _) (.cells #[.int .i64 ((Av.new (1 + x)).most : Int), .int .i64 ((Av.new (1 + x)).tgt : Int), .slice (some ⟨G, 0, none⟩) 4 4, .int .i64 ((Av.new (1 + x)).pl : Int)] 63)
    have hz := hb2.size
    have hw := h1.below.size
    have hGl := hR.not_in (q := w2.heap.size) (Nat.le_refl _)
    refine ⟨⟨(h1.later hb2 (Nat.le_refl _)).later hbb (Nat.le_refl _), (hR.below hbb (Nat.le_refl _)).free (fun ho => ho) (fun _ _ _ _ ho => ho), fun q hq => hR.not_old ?_⟩, Blk.new w2 _ _, hGl, fun ho => ?_, Nat.le_trans hw hz⟩
    · rcases hq with hq | rfl
      · have := h1.h.lt q hq; show q < w1.heap.size + 1; omega
      · have := h1.lt; show q < w1.heap.size + 1; omega
    · rcases ho with ho | ho
      · have := h1.h.lt _ ho; omega
      · have := h1.lt; omega
  have hF0 : (Av.new (1 + x)).Fine := ⟨hL0.two.h.ok, fun i _ => rfl⟩
  clear hs2 hN hRN h1 hR hb2
  generalize Av.new (1 + x) = v at *
  go_wp2_with fail
  generalize hmb : w2.heap.size = mb at *
  generalize w2.alloc (.cells #[.int .i64 (v.most : Int), .int .i64 (v.tgt : Int), .slice (some ⟨G, 0, none⟩) 4 4, .int .i64 (v.pl : Int)] 63) = w3 at *
  clear hmb
  refine (awakeA_c _).mono ?_
  rintro e w4 ⟨rfl, hb4⟩
  have hL4 := hL0.onto hb4
  clear hL0 hb4
  go_wp2_with fail
  go_loopw [6, 9] (fun v6 i wr => ∃ (j A P : Nat) (m : Rm) (v : Av) (G : Nat) (vs : Nat → Value), j ≤ n ∧ j ≤ 120 ∧ i = .int .i64 j ∧ v6 = .pointer (some ⟨A, 0, none⟩) ∧ Lp w mb A P m v G vs wr ∧ v.Fine) (fun _ i _ => 120 - (intOf i).toNat)
  case atStart => exact ⟨0, A, _, m, v, G, vs, by omega, by omega, rfl, rfl, hL4, hF0⟩
  case round =>
    obtain ⟨j, A, P, m, v, G, vs, hjn, hj120, rfl, rfl, hL, hF⟩ := hrel
    clear hL4 hF0
    by_cases h1 : j < n ∧ j < 120
    · obtain ⟨h1, h120⟩ := h1
      have d1 : decide ((j : Int) < (n : Int)) = true := decide_eq_true (by omega)
      have d2 : decide ((j : Int) < 120) = true := decide_eq_true (by omega)
      have q1 : (0 : Int) ≤ (j : Int) := by omega
      have q2 : (j : Int) < (n : Int) := by omega
      have hao := ht.ao (by omega)
      have hsb := ht.lt (by omega)
      have hw1 := ht.kind j h1
      have hw2 := ht.key j h1
      have hsize := ht.size j h1
      subst hao
      have hfl := fewL_max (T j)
      generalize K j = q at *
      have hF1 := hF.act q (fewL (T j))
      go_upto_region 9 with (fail)
      have hLd : Lp w mb A P m v G vs wr.drew := hL.drewN 1
      have hactd : wr.drew.cell? ⟨sb, off + j * 2, none⟩ = some (.int .i64 q) ∧ wr.drew.cell? ⟨sb, off + j * 2 + 1, none⟩ = some (.string (str (T j))) := ⟨(World.cell?_of_block (hLd.two.h.below.block sb hsb)).trans hw1, (World.cell?_of_block (hLd.two.h.below.block sb hsb)).trans hw2⟩
      have hS9 : wr.drew.cell? ⟨mb, 0, none⟩ = some (.int .i64 (v.most : Int)) ∧ wr.drew.cell? ⟨mb, 1, none⟩ = some (.int .i64 (v.tgt : Int)) ∧ wr.drew.cell? ⟨mb, 2, none⟩ = some (.slice (some ⟨G, 0, none⟩) 4 4) ∧ wr.drew.cell? ⟨mb, 3, none⟩ = some (.int .i64 (v.pl : Int)) ∧ wr.drew.cell? ⟨sb, off + j * 2, none⟩ = some (.int .i64 q) ∧ wr.drew.cell? ⟨sb, off + j * 2 + 1, none⟩ = some (.string (str (T j))) := ⟨hLd.box.cell 0, hLd.box.cell 1, hLd.box.cell 2, hLd.box.cell 3, hactd⟩
      have fdA := fun W (h : Lp w mb A P m v G vs W) => do_c (K := fun q => q = mb) (T j) hsize q hF (fun q hq => by subst hq; exact ⟨h.box.lt, h.sep, h.nb⟩) h.two
      generalize hv1 : v.act q (fewL (T j)) = v1 at *
      go_cut [10, 11, 12] from 39 to 49 (fun v10 v11 v12 wx => ∃ (nb A' P' : Nat) (m' : Rm) (G' : Nat) (vs' : Nat → Value), v10 = .pointer (some ⟨A', 0, none⟩) ∧ v11 = .pointer (some ⟨nb, 0, none⟩) ∧ v12 = .bool true ∧ Blk wx nb 63 #[.int .i64 (v1.most : Int), .int .i64 (v1.tgt : Int), .slice (some ⟨G', 0, none⟩) 4 4, .int .i64 (v1.pl : Int)] ∧ Blk wx mb 63 #[.int .i64 (v.most : Int), .int .i64 (v.tgt : Int), .slice (some ⟨G, 0, none⟩) 4 4, .int .i64 (v.pl : Int)] ∧ NotIn mb G' vs' 4 ∧ ¬ (m'.own mb ∨ mb = A') ∧ nb ≠ mb ∧ Two w A' P' m' v1 v1 G' vs' wx)
      case first =>
        refine region_only 15 #[false, false, false, false, false, false, false, false, false, false, false, false, false, false, false] (S := (fun W => W.cell? ⟨mb, 0, none⟩ = some (.int .i64 (v.most : Int)) ∧ W.cell? ⟨mb, 1, none⟩ = some (.int .i64 (v.tgt : Int)) ∧ W.cell? ⟨mb, 2, none⟩ = some (.slice (some ⟨G, 0, none⟩) 4 4) ∧ W.cell? ⟨mb, 3, none⟩ = some (.int .i64 (v.pl : Int)) ∧ W.cell? ⟨sb, off + j * 2, none⟩ = some (.int .i64 q) ∧ W.cell? ⟨sb, off + j * 2 + 1, none⟩ = some (.string (str (T j))))) rfl rfl (by kernel_rfl) hS9 (fun hSw => ?_)
        refine take_at 0 40 (fuel := 14) ?_ rfl rfl (by kernel_rfl) (by kernel_rfl) (by kernel_rfl) (Or.inl ⟨by rfl, ?_⟩) hSw ?_
        rotate_left
        · intro wx hSx
          (try dsimp only at hSx)
          go_split_ands
          go_simp
          (try with_reducible rfl)
        simp only [List.setIfInBounds_toArray, List.set_cons_zero, List.set_cons_succ]
        refine take_at 1 41 (fuel := 13) ?_ rfl rfl (by kernel_rfl) (by kernel_rfl) (by kernel_rfl) (Or.inl ⟨by rfl, ?_⟩) hSw ?_
        rotate_left
        · intro wx hSx
          (try dsimp only at hSx)
          go_split_ands
          go_simp
          (try with_reducible rfl)
        simp only [List.setIfInBounds_toArray, List.set_cons_zero, List.set_cons_succ]
        refine take_at 2 42 (fuel := 12) ?_ rfl rfl (by kernel_rfl) (by kernel_rfl) (by kernel_rfl) (Or.inl ⟨by rfl, ?_⟩) hSw ?_
        rotate_left
        · intro wx hSx
          (try dsimp only at hSx)
          go_split_ands
          go_simp
          (try with_reducible rfl)
        simp only [List.setIfInBounds_toArray, List.set_cons_zero, List.set_cons_succ]
        refine take_at 3 43 (fuel := 11) ?_ rfl rfl (by kernel_rfl) (by kernel_rfl) (by kernel_rfl) (Or.inl ⟨by rfl, ?_⟩) hSw ?_
        rotate_left
        · intro wx hSx
          (try dsimp only at hSx)
          go_split_ands
          go_simp
          (try with_reducible rfl)
        simp only [List.setIfInBounds_toArray, List.set_cons_zero, List.set_cons_succ]
        refine take_at 4 44 (fuel := 10) ?_ rfl rfl (by kernel_rfl) (by kernel_rfl) (by kernel_rfl) (Or.inl ⟨by rfl, ?_⟩) hSw ?_
        rotate_left
        · intro wx hSx
          (try dsimp only at hSx)
          go_split_ands
          go_simp
          (try with_reducible rfl)
        simp only [List.setIfInBounds_toArray, List.set_cons_zero, List.set_cons_succ]
        refine take_at 5 45 (fuel := 9) ?_ rfl rfl (by kernel_rfl) (by kernel_rfl) (by kernel_rfl) (Or.inl ⟨by rfl, ?_⟩) hSw ?_
        rotate_left
        · intro wx hSx
          (try dsimp only at hSx)
          go_split_ands
          go_simp
          (try with_reducible rfl)
        simp only [List.setIfInBounds_toArray, List.set_cons_zero, List.set_cons_succ]
        refine wpAnyH_ready (fuel := 8) (rs := [6, 11]) (by kernel_rfl) (by simp) (AllReadyH.cons rfl (fun K hK => ?_) (AllReadyH.cons rfl (fun K hK => ?_) AllReadyH.nil))
        · go_simp
          refine Calls.mono (fdA _ hLd) ?_
          rintro e wv ⟨A', P', m', G', vs', rfl, hT', hKp⟩
          obtain ⟨e1, e2, e3⟩ := hKp mb rfl
          have hb1 : Blk wv mb 63 #[.int .i64 (v.most : Int), .int .i64 (v.tgt : Int), .slice (some ⟨G, 0, none⟩) 4 4, .int .i64 (v.pl : Int)] := e1.trans hLd.box
          have hact' : wv.cell? ⟨sb, off + j * 2, none⟩ = some (.int .i64 q) ∧ wv.cell? ⟨sb, off + j * 2 + 1, none⟩ = some (.string (str (T j))) := ⟨(World.cell?_of_block (hT'.h.below.block sb hsb)).trans hw1, (World.cell?_of_block (hT'.h.below.block sb hsb)).trans hw2⟩
          refine hK.out _ _ ⟨hb1.cell 0, hb1.cell 1, hb1.cell 2, hb1.cell 3, hact'⟩ (fun hSw => ?_)
          clear hK K
          simp only [List.setIfInBounds_toArray, List.set_cons_zero, List.set_cons_succ]
          refine take_at 7 39 (fuel := 7) ?_ rfl rfl (by kernel_rfl) (by kernel_rfl) (by kernel_rfl) (Or.inl ⟨by rfl, ?_⟩) hSw ?_
          rotate_left
          · intro wx hSx
            (try dsimp only at hSx)
            go_split_ands
            go_simp
            (try with_reducible rfl)
          simp only [List.setIfInBounds_toArray, List.set_cons_zero, List.set_cons_succ]
          refine take_at 8 47 (fuel := 6) ?_ rfl rfl (by kernel_rfl) (by kernel_rfl) (by kernel_rfl) (Or.inl ⟨by rfl, ?_⟩) hSw ?_
          rotate_left
          · intro wx hSx
            (try dsimp only at hSx)
            go_split_ands
            go_simp
            (try with_reducible rfl)
          simp only [List.setIfInBounds_toArray, List.set_cons_zero, List.set_cons_succ]
          refine take_at 9 48 (fuel := 5) ?_ rfl rfl (by kernel_rfl) (by kernel_rfl) (by kernel_rfl) (Or.inl ⟨by rfl, ?_⟩) hSw ?_
          rotate_left
          · intro wx hSx
            (try dsimp only at hSx)
            go_split_ands
            go_simp
            (try with_reducible rfl)
          simp only [List.setIfInBounds_toArray, List.set_cons_zero, List.set_cons_succ]
          refine take_at 10 49 (fuel := 4) ?_ rfl rfl (by kernel_rfl) (by kernel_rfl) (by kernel_rfl) (Or.inl ⟨by rfl, ?_⟩) hSw ?_
          rotate_left
          · intro wx hSx
            (try dsimp only at hSx)
            go_split_ands
            go_simp
            (try with_reducible rfl)
          simp only [List.setIfInBounds_toArray, List.set_cons_zero, List.set_cons_succ]
          have hsbv : sb < wv.heap.size := Nat.lt_of_lt_of_le hsb hT'.h.below.size
          refine wpAnyH_ready (fuel := 3) (rs := [11]) (by kernel_rfl) (by simp) (AllReadyH.cons rfl (fun K hK => ?_) AllReadyH.nil)
          go_simp
          have hb2 := hb1.alloc (.cells #[.int .i64 0, .int .i64 0, .slice none 0 0, .int .i64 0] 63)
          refine hK.out _ _ ⟨hb2.cell 0, hb2.cell 1, hb2.cell 2, hb2.cell 3, (World.cell?_of_block (Below.heap_alloc wv _ sb hsbv)).trans hact'.1, (World.cell?_of_block (Below.heap_alloc wv _ sb hsbv)).trans hact'.2⟩ (fun hSw => ?_)
          clear hK K
          simp only [List.setIfInBounds_toArray, List.set_cons_zero, List.set_cons_succ]
          refine take_at 12 10 (fuel := 2) ?_ rfl rfl (by kernel_rfl) (by kernel_rfl) (by kernel_rfl) (Or.inl ⟨by rfl, ?_⟩) hSw ?_
          rotate_left
          · intro wx hSx
            (try dsimp only at hSx)
            go_split_ands
            go_simp
            (try with_reducible rfl)
          simp only [List.setIfInBounds_toArray, List.set_cons_zero, List.set_cons_succ]
          have hbn := Blk.new wv 63 #[.int .i64 0, .int .i64 0, .slice none 0 0, .int .i64 0]
          have hne : wv.heap.size ≠ mb := Nat.ne_of_gt hb1.lt
          have hx9 := hT'.onto ((Below.refl _ wv).alloc (Nat.le_refl _) (.cells #[.int .i64 0, .int .i64 0, .slice none 0 0, .int .i64 0] 63))
          have hnA : ¬ (m'.own wv.heap.size ∨ wv.heap.size = A') := fun ho => by
            rcases ho with ho | ho
            · have := hT'.h.h.lt _ ho; omega
            · have := hT'.h.lt; omega
          have hnG : NotIn wv.heap.size G' vs' 4 := by have := hT'.d.not_in (q := wv.heap.size) (Nat.le_refl _); rw [hT'.h.ok.n] at this; exact this
          have hnl : w.heap.size ≤ wv.heap.size := hT'.h.below.size
          generalize wv.heap.size = nb at *
          generalize wv.alloc (.cells #[.int .i64 0, .int .i64 0, .slice none 0 0, .int .i64 0] 63) = wa at *
          obtain ⟨z0, z1, z2, z3, z4, z5, z6, z7⟩ := (show wa.cell? ⟨nb, 0, none⟩ = some (.int .i64 0) ∧ wa.cell? ⟨nb, 1, none⟩ = some (.int .i64 0) ∧ wa.cell? ⟨nb, 2, none⟩ = some (.slice none 0 0) ∧ wa.cell? ⟨nb, 3, none⟩ = some (.int .i64 0) ∧ wa.frozen? ⟨nb, 0, none⟩ = false ∧ wa.frozen? ⟨nb, 1, none⟩ = false ∧ wa.frozen? ⟨nb, 2, none⟩ = false ∧ wa.frozen? ⟨nb, 3, none⟩ = false from ⟨hbn.cell 0, hbn.cell 1, hbn.cell 2, hbn.cell 3, hbn.free 0, hbn.free 1, hbn.free 2, hbn.free 3⟩)
          have hbp := putM_blk hbn rfl v1.most v1.tgt G' v1.pl
          have hbm : Blk (putM nb wa v1.most v1.tgt G' v1.pl) mb 63 #[.int .i64 (v.most : Int), .int .i64 (v.tgt : Int), .slice (some ⟨G, 0, none⟩) 4 4, .int .i64 (v.pl : Int)] := (((hb2.far (p := ⟨nb, 0, none⟩) (Ne.symm hne) _).far (p := ⟨nb, 1, none⟩) (Ne.symm hne) _).far (p := ⟨nb, 2, none⟩) (Ne.symm hne) _).far (p := ⟨nb, 3, none⟩) (Ne.symm hne) _
          have hsn : sb ≠ nb := by omega
          have hTp : Two w A' P' m' v1 v1 G' vs' (putM nb wa v1.most v1.tgt G' v1.pl) := (((hx9.beside hx9.h.ok hnl hnA hnG 0 _).beside hx9.h.ok hnl hnA hnG 1 _).beside hx9.h.ok hnl hnA hnG 2 _).beside hx9.h.ok hnl hnA hnG 3 _
          refine wpAnyH_ready (fuel := 1) (rs := [13]) (by kernel_rfl) (by simp) (AllReadyH.cons rfl (fun K hK => ?_) AllReadyH.nil)
          go_simp
          refine hK.out _ _ ⟨(putM_cell (x := wa) (Ne.symm hne)).trans hSw.1, (putM_cell (x := wa) (Ne.symm hne)).trans hSw.2.1, (putM_cell (x := wa) (Ne.symm hne)).trans hSw.2.2.1, (putM_cell (x := wa) (Ne.symm hne)).trans hSw.2.2.2.1, (putM_cell (x := wa) hsn).trans hSw.2.2.2.2.1, (putM_cell (x := wa) hsn).trans hSw.2.2.2.2.2⟩ (fun hSw => ?_)
          clear hK K
          simp only [List.setIfInBounds_toArray, List.set_cons_zero, List.set_cons_succ]
          refine take_at 14 12 (fuel := 0) ?_ rfl rfl (by kernel_rfl) (by kernel_rfl) (by kernel_rfl) (Or.inl ⟨by rfl, ?_⟩) hSw ?_
          rotate_left
          · intro wx hSx
            (try dsimp only at hSx)
            go_split_ands
            go_simp
            (try with_reducible rfl)
          simp only [List.setIfInBounds_toArray, List.set_cons_zero, List.set_cons_succ]
          refine wpAnyH_done (by kernel_rfl) ⟨rfl, ?_⟩ 0
          go_wp2_with fail
          go_meet
          exact ⟨nb, A', P', m', G', vs', rfl, rfl, rfl, hbp, hbm, e3, e2, hne, hTp⟩
        · go_simp
          have hbn := Blk.new wr 63 #[.int .i64 0, .int .i64 0, .slice none 0 0, .int .i64 0]
          have hne : wr.heap.size ≠ mb := Nat.ne_of_gt hL.box.lt
          have hLn : Lp w mb A P m v G vs (wr.alloc (.cells #[.int .i64 0, .int .i64 0, .slice none 0 0, .int .i64 0] 63)).drew := (hL.onto ((Below.refl _ wr).alloc (Nat.le_refl _) (.cells #[.int .i64 0, .int .i64 0, .slice none 0 0, .int .i64 0] 63))).drewN 1
          have hbn0 : Blk (wr.alloc (.cells #[.int .i64 0, .int .i64 0, .slice none 0 0, .int .i64 0] 63)).drew wr.heap.size 63 #[.int .i64 0, .int .i64 0, .slice none 0 0, .int .i64 0] := hbn
          have hnA0 : ¬ (m.own wr.heap.size ∨ wr.heap.size = A) := fun ho => by
            rcases ho with ho | ho
            · have := hL.two.h.h.lt _ ho; omega
            · have := hL.two.h.lt; omega
          have hnG0 : NotIn wr.heap.size G vs 4 := by have := hL.two.d.not_in (q := wr.heap.size) (Nat.le_refl _); rw [hL.two.h.ok.n] at this; exact this
          have hnl : w.heap.size ≤ wr.heap.size := hL.two.h.below.size
          have hactn : (wr.alloc (.cells #[.int .i64 0, .int .i64 0, .slice none 0 0, .int .i64 0] 63)).drew.cell? ⟨sb, off + j * 2, none⟩ = some (.int .i64 q) ∧ (wr.alloc (.cells #[.int .i64 0, .int .i64 0, .slice none 0 0, .int .i64 0] 63)).drew.cell? ⟨sb, off + j * 2 + 1, none⟩ = some (.string (str (T j))) := ⟨(World.cell?_of_block (hLn.two.h.below.block sb hsb)).trans hw1, (World.cell?_of_block (hLn.two.h.below.block sb hsb)).trans hw2⟩
          refine hK.out _ _ ⟨hLn.box.cell 0, hLn.box.cell 1, hLn.box.cell 2, hLn.box.cell 3, hactn⟩ (fun hSw => ?_)
          clear hK K
          simp only [List.setIfInBounds_toArray, List.set_cons_zero, List.set_cons_succ]
          generalize wr.heap.size = nb at *
          generalize (wr.alloc (.cells #[.int .i64 0, .int .i64 0, .slice none 0 0, .int .i64 0] 63)).drew = wa at *
          have fdB := fun (Kq : Nat → Prop) (hK : ∀ q, Kq q → q < wa.heap.size ∧ ¬ (m.own q ∨ q = A) ∧ NotIn q G vs 4) => by have hc := do_c (K := Kq) (T j) hsize q hF hK hLn.two; rw [hv1] at hc; exact hc
          refine wpAnyH_ready (fuel := 7) (rs := [6]) (by kernel_rfl) (by simp) (AllReadyH.cons rfl (fun K hK => ?_) AllReadyH.nil)
          go_simp
          refine Calls.mono (fdB (fun q => q = mb ∨ q = nb) (fun q hq => by
            rcases hq with rfl | rfl
            · exact ⟨hLn.box.lt, hLn.sep, hLn.nb⟩
            · exact ⟨hbn0.lt, hnA0, hnG0⟩)) ?_
          rintro e wv ⟨A', P', m', G', vs', rfl, hT', hKp⟩
          obtain ⟨e1, e2, e3⟩ := hKp mb (.inl rfl)
          obtain ⟨e4, hnA, hnG⟩ := hKp nb (.inr rfl)
          have hb1 : Blk wv mb 63 #[.int .i64 (v.most : Int), .int .i64 (v.tgt : Int), .slice (some ⟨G, 0, none⟩) 4 4, .int .i64 (v.pl : Int)] := e1.trans hLn.box
          have hbn : Blk wv nb 63 #[.int .i64 0, .int .i64 0, .slice none 0 0, .int .i64 0] := e4.trans hbn0
          have hact' : wv.cell? ⟨sb, off + j * 2, none⟩ = some (.int .i64 q) ∧ wv.cell? ⟨sb, off + j * 2 + 1, none⟩ = some (.string (str (T j))) := ⟨(World.cell?_of_block (hT'.h.below.block sb hsb)).trans hw1, (World.cell?_of_block (hT'.h.below.block sb hsb)).trans hw2⟩
          refine hK.out _ _ ⟨hb1.cell 0, hb1.cell 1, hb1.cell 2, hb1.cell 3, hact'⟩ (fun hSw => ?_)
          clear hK K
          simp only [List.setIfInBounds_toArray, List.set_cons_zero, List.set_cons_succ]
          refine take_at 7 39 (fuel := 6) ?_ rfl rfl (by kernel_rfl) (by kernel_rfl) (by kernel_rfl) (Or.inl ⟨by rfl, ?_⟩) hSw ?_
          rotate_left
          · intro wx hSx
            (try dsimp only at hSx)
            go_split_ands
            go_simp
            (try with_reducible rfl)
          simp only [List.setIfInBounds_toArray, List.set_cons_zero, List.set_cons_succ]
          refine take_at 8 47 (fuel := 5) ?_ rfl rfl (by kernel_rfl) (by kernel_rfl) (by kernel_rfl) (Or.inl ⟨by rfl, ?_⟩) hSw ?_
          rotate_left
          · intro wx hSx
            (try dsimp only at hSx)
            go_split_ands
            go_simp
            (try with_reducible rfl)
          simp only [List.setIfInBounds_toArray, List.set_cons_zero, List.set_cons_succ]
          refine take_at 9 48 (fuel := 4) ?_ rfl rfl (by kernel_rfl) (by kernel_rfl) (by kernel_rfl) (Or.inl ⟨by rfl, ?_⟩) hSw ?_
          rotate_left
          · intro wx hSx
            (try dsimp only at hSx)
            go_split_ands
            go_simp
            (try with_reducible rfl)
          simp only [List.setIfInBounds_toArray, List.set_cons_zero, List.set_cons_succ]
          refine take_at 10 49 (fuel := 3) ?_ rfl rfl (by kernel_rfl) (by kernel_rfl) (by kernel_rfl) (Or.inl ⟨by rfl, ?_⟩) hSw ?_
          rotate_left
          · intro wx hSx
            (try dsimp only at hSx)
            go_split_ands
            go_simp
            (try with_reducible rfl)
          simp only [List.setIfInBounds_toArray, List.set_cons_zero, List.set_cons_succ]
          refine take_at 12 10 (fuel := 2) ?_ rfl rfl (by kernel_rfl) (by kernel_rfl) (by kernel_rfl) (Or.inl ⟨by rfl, ?_⟩) hSw ?_
          rotate_left
          · intro wx hSx
            (try dsimp only at hSx)
            go_split_ands
            go_simp
            (try with_reducible rfl)
          simp only [List.setIfInBounds_toArray, List.set_cons_zero, List.set_cons_succ]
          have hx9 := hT'
          have hb2 := hb1
          generalize hwa : wv = wb at *
          obtain ⟨z0, z1, z2, z3, z4, z5, z6, z7⟩ := (show wb.cell? ⟨nb, 0, none⟩ = some (.int .i64 0) ∧ wb.cell? ⟨nb, 1, none⟩ = some (.int .i64 0) ∧ wb.cell? ⟨nb, 2, none⟩ = some (.slice none 0 0) ∧ wb.cell? ⟨nb, 3, none⟩ = some (.int .i64 0) ∧ wb.frozen? ⟨nb, 0, none⟩ = false ∧ wb.frozen? ⟨nb, 1, none⟩ = false ∧ wb.frozen? ⟨nb, 2, none⟩ = false ∧ wb.frozen? ⟨nb, 3, none⟩ = false from ⟨hbn.cell 0, hbn.cell 1, hbn.cell 2, hbn.cell 3, hbn.free 0, hbn.free 1, hbn.free 2, hbn.free 3⟩)
          have hbp := putM_blk hbn rfl v1.most v1.tgt G' v1.pl
          have hbm : Blk (putM nb wb v1.most v1.tgt G' v1.pl) mb 63 #[.int .i64 (v.most : Int), .int .i64 (v.tgt : Int), .slice (some ⟨G, 0, none⟩) 4 4, .int .i64 (v.pl : Int)] := (((hb2.far (p := ⟨nb, 0, none⟩) (Ne.symm hne) _).far (p := ⟨nb, 1, none⟩) (Ne.symm hne) _).far (p := ⟨nb, 2, none⟩) (Ne.symm hne) _).far (p := ⟨nb, 3, none⟩) (Ne.symm hne) _
          have hsn : sb ≠ nb := by omega
          have hTp : Two w A' P' m' v1 v1 G' vs' (putM nb wb v1.most v1.tgt G' v1.pl) := (((hx9.beside hx9.h.ok hnl hnA hnG 0 _).beside hx9.h.ok hnl hnA hnG 1 _).beside hx9.h.ok hnl hnA hnG 2 _).beside hx9.h.ok hnl hnA hnG 3 _
          refine wpAnyH_ready (fuel := 1) (rs := [13]) (by kernel_rfl) (by simp) (AllReadyH.cons rfl (fun K hK => ?_) AllReadyH.nil)
          go_simp
          refine hK.out _ _ ⟨(putM_cell (x := wb) (Ne.symm hne)).trans hSw.1, (putM_cell (x := wb) (Ne.symm hne)).trans hSw.2.1, (putM_cell (x := wb) (Ne.symm hne)).trans hSw.2.2.1, (putM_cell (x := wb) (Ne.symm hne)).trans hSw.2.2.2.1, (putM_cell (x := wb) hsn).trans hSw.2.2.2.2.1, (putM_cell (x := wb) hsn).trans hSw.2.2.2.2.2⟩ (fun hSw => ?_)
          clear hK K
          simp only [List.setIfInBounds_toArray, List.set_cons_zero, List.set_cons_succ]
          refine take_at 14 12 (fuel := 0) ?_ rfl rfl (by kernel_rfl) (by kernel_rfl) (by kernel_rfl) (Or.inl ⟨by rfl, ?_⟩) hSw ?_
          rotate_left
          · intro wx hSx
            (try dsimp only at hSx)
            go_split_ands
            go_simp
            (try with_reducible rfl)
          simp only [List.setIfInBounds_toArray, List.set_cons_zero, List.set_cons_succ]
          refine wpAnyH_done (by kernel_rfl) ⟨rfl, ?_⟩ 0
          go_wp2_with fail
          go_meet
          exact ⟨nb, A', P', m', G', vs', rfl, rfl, rfl, hbp, hbm, e3, e2, hne, hTp⟩
      case rest =>
        obtain ⟨nb, A', P', m', G', vs', rfl, rfl, rfl, hbn, hbm, hnm, hsm, hne, hT1⟩ := hcut
        have hmbl := hL.mbl
        clear hL hLd hactd hS9 fdA
        go_upto_region 10 with (fail)
        have hS10 : wc.drew.cell? ⟨nb, 0, none⟩ = some (.int .i64 (v1.most : Int)) ∧ wc.drew.cell? ⟨nb, 1, none⟩ = some (.int .i64 (v1.tgt : Int)) ∧ wc.drew.cell? ⟨nb, 2, none⟩ = some (.slice (some ⟨G', 0, none⟩) 4 4) ∧ wc.drew.cell? ⟨nb, 3, none⟩ = some (.int .i64 (v1.pl : Int)) := ⟨hbn.cell 0, hbn.cell 1, hbn.cell 2, hbn.cell 3⟩
        have x0 : wc.cell? ⟨mb, 0, none⟩ = some (.int .i64 (v.most : Int)) := hbm.cell 0
        have x1 : wc.cell? ⟨mb, 1, none⟩ = some (.int .i64 (v.tgt : Int)) := hbm.cell 1
        have x2 : wc.cell? ⟨mb, 2, none⟩ = some (.slice (some ⟨G, 0, none⟩) 4 4) := hbm.cell 2
        have x3 : wc.cell? ⟨mb, 3, none⟩ = some (.int .i64 (v.pl : Int)) := hbm.cell 3
        have y0 := hbm.free 0
        have y1 := hbm.free 1
        have y2 := hbm.free 2
        have y3 := hbm.free 3
        have x0' : wc.drew.cell? ⟨mb, 0, none⟩ = some (.int .i64 (v.most : Int)) := hbm.cell 0
        have x1' : wc.drew.cell? ⟨mb, 1, none⟩ = some (.int .i64 (v.tgt : Int)) := hbm.cell 1
        have x2' : wc.drew.cell? ⟨mb, 2, none⟩ = some (.slice (some ⟨G, 0, none⟩) 4 4) := hbm.cell 2
        have x3' : wc.drew.cell? ⟨mb, 3, none⟩ = some (.int .i64 (v.pl : Int)) := hbm.cell 3
        have y0' : wc.drew.frozen? ⟨mb, 0, none⟩ = false := hbm.free 0
        have y1' : wc.drew.frozen? ⟨mb, 1, none⟩ = false := hbm.free 1
        have y2' : wc.drew.frozen? ⟨mb, 2, none⟩ = false := hbm.free 2
        have y3' : wc.drew.frozen? ⟨mb, 3, none⟩ = false := hbm.free 3
        refine region_only 4 #[false, false, false, false] (S := (fun W => W.cell? ⟨nb, 0, none⟩ = some (.int .i64 (v1.most : Int)) ∧ W.cell? ⟨nb, 1, none⟩ = some (.int .i64 (v1.tgt : Int)) ∧ W.cell? ⟨nb, 2, none⟩ = some (.slice (some ⟨G', 0, none⟩) 4 4) ∧ W.cell? ⟨nb, 3, none⟩ = some (.int .i64 (v1.pl : Int)))) rfl rfl (by kernel_rfl) hS10 (fun hSw => ?_)
        refine take_at 0 50 (fuel := 3) ?_ rfl rfl (by kernel_rfl) (by kernel_rfl) (by kernel_rfl) (Or.inl ⟨by rfl, ?_⟩) hSw ?_
        rotate_left
        · intro wx hSx
          (try dsimp only at hSx)
          go_split_ands
          go_simp
          (try with_reducible rfl)
        simp only [List.setIfInBounds_toArray, List.set_cons_zero, List.set_cons_succ]
        refine take_at 1 51 (fuel := 2) ?_ rfl rfl (by kernel_rfl) (by kernel_rfl) (by kernel_rfl) (Or.inl ⟨by rfl, ?_⟩) hSw ?_
        rotate_left
        · intro wx hSx
          (try dsimp only at hSx)
          go_split_ands
          go_simp
          (try with_reducible rfl)
        simp only [List.setIfInBounds_toArray, List.set_cons_zero, List.set_cons_succ]
        refine take_at 2 6 (fuel := 1) ?_ rfl rfl (by kernel_rfl) (by kernel_rfl) (by kernel_rfl) (Or.inl ⟨by rfl, ?_⟩) hSw ?_
        rotate_left
        · intro wx hSx
          (try dsimp only at hSx)
          go_split_ands
          go_simp
          (try with_reducible rfl)
        simp only [List.setIfInBounds_toArray, List.set_cons_zero, List.set_cons_succ]
        refine wpAnyH_ready (fuel := 0) (rs := [3]) (by kernel_rfl) (by simp) (AllReadyH.cons rfl (fun K hK => ?_) AllReadyH.nil)
        go_simp
        refine hK.out _ _ ⟨(putM_cell (x := wc) hne).trans hSw.1, (putM_cell (x := wc) hne).trans hSw.2.1, (putM_cell (x := wc) hne).trans hSw.2.2.1, (putM_cell (x := wc) hne).trans hSw.2.2.2⟩ (fun hSw => ?_)
        clear hK K
        simp only [List.setIfInBounds_toArray, List.set_cons_zero, List.set_cons_succ]
        refine wpAnyH_done (by kernel_rfl) ⟨rfl, ?_⟩ 0
        have hLp : Lp w mb A' P' m' v1 G' vs' (putM mb wc v1.most v1.tgt G' v1.pl).drew := (lp_put hT1 hbm hnm hsm hmbl).drewN 1
        unfold putM at hLp
        clear hSw x0 x1 x2 x3 y0 y1 y2 y3 x0' x1' x2' x3' y0' y1' y2' y3' hS10 hbn hbm hT1
        have fs := fun W (h : Lp w mb A' P' m' v1 G' vs' W) => lp_same h
        have ff := fun W => fewA_c (T j) hsize W
        have fh := fun W (h : Lp w mb A' P' m' v1 G' vs' W) => has_c (k := fewL (T j)) hfl h.two.h
        have fr := fun W (h : Lp w mb A' P' m' v1 G' vs' W) => lp_has (k := fewL (T j)) h
        go_upto_region 11 with (fail)
        generalize (((((wc.setCell ⟨mb, 0, none⟩ (.int .i64 (v1.most : Int))).setCell ⟨mb, 1, none⟩ (.int .i64 (v1.tgt : Int))).setCell ⟨mb, 2, none⟩ (.slice (some ⟨G', 0, none⟩) 4 4)).setCell ⟨mb, 3, none⟩ (.int .i64 (v1.pl : Int)))).drew = w5 at *
        generalize fewL (T j) = k at *
        have hS11 : w5.drew.cell? ⟨mb, 0, none⟩ = some (.int .i64 (v1.most : Int)) ∧ w5.drew.cell? ⟨mb, 1, none⟩ = some (.int .i64 (v1.tgt : Int)) ∧ w5.drew.cell? ⟨mb, 2, none⟩ = some (.slice (some ⟨G', 0, none⟩) 4 4) ∧ w5.drew.cell? ⟨mb, 3, none⟩ = some (.int .i64 (v1.pl : Int)) ∧ w5.drew.cell? ⟨sb, off + j * 2 + 1, none⟩ = some (.string (str (T j))) ∧ Lp w mb A' P' m' v1 G' vs' w5.drew := Lp.allT (p := ⟨sb, off + j * 2 + 1, none⟩) (hLp.drewN 1) hsb hw2
        refine region_only 27 #[false, false, false, false, false, false, false, false, false, false, false, false, false, false, false, false, false, false, false, false, false, false, false, false, false, false, false] (S := (fun W => W.cell? ⟨mb, 0, none⟩ = some (.int .i64 (v1.most : Int)) ∧ W.cell? ⟨mb, 1, none⟩ = some (.int .i64 (v1.tgt : Int)) ∧ W.cell? ⟨mb, 2, none⟩ = some (.slice (some ⟨G', 0, none⟩) 4 4) ∧ W.cell? ⟨mb, 3, none⟩ = some (.int .i64 (v1.pl : Int)) ∧ W.cell? ⟨sb, off + j * 2 + 1, none⟩ = some (.string (str (T j))) ∧ Lp w mb A' P' m' v1 G' vs' W)) rfl rfl (by kernel_rfl) hS11 (fun hSw => ?_)
        refine take_at 0 52 (fuel := 26) ?_ rfl rfl (by kernel_rfl) (by kernel_rfl) (by kernel_rfl) (Or.inl ⟨by rfl, ?_⟩) hSw ?_
        rotate_left
        · intro wx hSx
          (try dsimp only at hSx)
          go_split_ands
          go_simp
          (try with_reducible rfl)
        simp only [List.setIfInBounds_toArray, List.set_cons_zero, List.set_cons_succ]
        refine take_at 1 53 (fuel := 25) ?_ rfl rfl (by kernel_rfl) (by kernel_rfl) (by kernel_rfl) (Or.inl ⟨by rfl, ?_⟩) hSw ?_
        rotate_left
        · intro wx hSx
          (try dsimp only at hSx)
          go_split_ands
          go_simp
          (try with_reducible rfl)
        simp only [List.setIfInBounds_toArray, List.set_cons_zero, List.set_cons_succ]
        refine take_at 2 54 (fuel := 24) ?_ rfl rfl (by kernel_rfl) (by kernel_rfl) (by kernel_rfl) (Or.inl ⟨by rfl, ?_⟩) hSw ?_
        rotate_left
        · intro wx hSx
          (try dsimp only at hSx)
          go_split_ands
          go_simp
          (try with_reducible rfl)
        simp only [List.setIfInBounds_toArray, List.set_cons_zero, List.set_cons_succ]
        refine take_at 3 55 (fuel := 23) ?_ rfl rfl (by kernel_rfl) (by kernel_rfl) (by kernel_rfl) (Or.inl ⟨by rfl, ?_⟩) hSw ?_
        rotate_left
        · intro wx hSx
          (try dsimp only at hSx)
          go_split_ands
          go_simp
          (try with_reducible rfl)
        simp only [List.setIfInBounds_toArray, List.set_cons_zero, List.set_cons_succ]
        refine take_at 4 56 (fuel := 22) ?_ rfl rfl (by kernel_rfl) (by kernel_rfl) (by kernel_rfl) (Or.inl ⟨by rfl, ?_⟩) hSw ?_
        rotate_left
        · intro wx hSx
          (try dsimp only at hSx)
          go_split_ands
          go_simp
          (try with_reducible rfl)
        simp only [List.setIfInBounds_toArray, List.set_cons_zero, List.set_cons_succ]
        refine wpAnyH_ready (fuel := 21) (rs := [5]) (by kernel_rfl) (by simp) (AllReadyH.cons rfl (fun K hK => ?_) AllReadyH.nil)
        go_simp
        refine Calls.mono (fs _ hSw.2.2.2.2.2) ?_
        rintro e wv ⟨rfl, hwv⟩
        refine hK.out _ _ (Lp.allT (p := ⟨sb, off + j * 2 + 1, none⟩) hwv hsb hw2) (fun hSw => ?_)
        clear hK K
        simp only [List.setIfInBounds_toArray, List.set_cons_zero, List.set_cons_succ]
        refine take_at 6 58 (fuel := 20) ?_ rfl rfl (by kernel_rfl) (by kernel_rfl) (by kernel_rfl) (Or.inl ⟨by rfl, ?_⟩) hSw ?_
        rotate_left
        · intro wx hSx
          (try dsimp only at hSx)
          go_split_ands
          go_simp
          (try with_reducible rfl)
        simp only [List.setIfInBounds_toArray, List.set_cons_zero, List.set_cons_succ]
        refine take_at 7 59 (fuel := 19) ?_ rfl rfl (by kernel_rfl) (by kernel_rfl) (by kernel_rfl) (Or.inl ⟨by rfl, ?_⟩) hSw ?_
        rotate_left
        · intro wx hSx
          (try dsimp only at hSx)
          go_split_ands
          go_simp
          (try with_reducible rfl)
        simp only [List.setIfInBounds_toArray, List.set_cons_zero, List.set_cons_succ]
        refine take_at 8 60 (fuel := 18) ?_ rfl rfl (by kernel_rfl) (by kernel_rfl) (by kernel_rfl) (Or.inl ⟨by rfl, ?_⟩) hSw ?_
        rotate_left
        · intro wx hSx
          (try dsimp only at hSx)
          go_split_ands
          go_simp
          (try with_reducible rfl)
        simp only [List.setIfInBounds_toArray, List.set_cons_zero, List.set_cons_succ]
        refine take_at 9 61 (fuel := 17) ?_ rfl rfl (by kernel_rfl) (by kernel_rfl) (by kernel_rfl) (Or.inl ⟨by rfl, ?_⟩) hSw ?_
        rotate_left
        · intro wx hSx
          (try dsimp only at hSx)
          go_split_ands
          go_simp
          (try with_reducible rfl)
        simp only [List.setIfInBounds_toArray, List.set_cons_zero, List.set_cons_succ]
        refine take_at 10 62 (fuel := 16) ?_ rfl rfl (by kernel_rfl) (by kernel_rfl) (by kernel_rfl) (Or.inl ⟨by rfl, ?_⟩) hSw ?_
        rotate_left
        · intro wx hSx
          (try dsimp only at hSx)
          go_split_ands
          go_simp
          (try with_reducible rfl)
        simp only [List.setIfInBounds_toArray, List.set_cons_zero, List.set_cons_succ]
        refine take_at 11 63 (fuel := 15) ?_ rfl rfl (by kernel_rfl) (by kernel_rfl) (by kernel_rfl) (Or.inl ⟨by rfl, ?_⟩) hSw ?_
        rotate_left
        · intro wx hSx
          (try dsimp only at hSx)
          go_split_ands
          go_simp
          (try with_reducible rfl)
        simp only [List.setIfInBounds_toArray, List.set_cons_zero, List.set_cons_succ]
        refine take_at 12 64 (fuel := 14) ?_ rfl rfl (by kernel_rfl) (by kernel_rfl) (by kernel_rfl) (Or.inl ⟨by rfl, ?_⟩) hSw ?_
        rotate_left
        · intro wx hSx
          (try dsimp only at hSx)
          go_split_ands
          go_simp
          (try with_reducible rfl)
        simp only [List.setIfInBounds_toArray, List.set_cons_zero, List.set_cons_succ]
        refine take_at 13 65 (fuel := 13) ?_ rfl rfl (by kernel_rfl) (by kernel_rfl) (by kernel_rfl) (Or.inl ⟨by rfl, ?_⟩) hSw ?_
        rotate_left
        · intro wx hSx
          (try dsimp only at hSx)
          go_split_ands
          go_simp
          (try with_reducible rfl)
        simp only [List.setIfInBounds_toArray, List.set_cons_zero, List.set_cons_succ]
        refine take_at 14 66 (fuel := 12) ?_ rfl rfl (by kernel_rfl) (by kernel_rfl) (by kernel_rfl) (Or.inl ⟨by rfl, ?_⟩) hSw ?_
        rotate_left
        · intro wx hSx
          (try dsimp only at hSx)
          go_split_ands
          go_simp
          (try with_reducible rfl)
        simp only [List.setIfInBounds_toArray, List.set_cons_zero, List.set_cons_succ]
        refine take_at 17 69 (fuel := 11) ?_ rfl rfl (by kernel_rfl) (by kernel_rfl) (by kernel_rfl) (Or.inl ⟨by rfl, ?_⟩) hSw ?_
        rotate_left
        · intro wx hSx
          (try dsimp only at hSx)
          go_split_ands
          go_simp
          (try with_reducible rfl)
        simp only [List.setIfInBounds_toArray, List.set_cons_zero, List.set_cons_succ]
        refine take_at 18 70 (fuel := 10) ?_ rfl rfl (by kernel_rfl) (by kernel_rfl) (by kernel_rfl) (Or.inl ⟨by rfl, ?_⟩) hSw ?_
        rotate_left
        · intro wx hSx
          (try dsimp only at hSx)
          go_split_ands
          go_simp
          (try with_reducible rfl)
        simp only [List.setIfInBounds_toArray, List.set_cons_zero, List.set_cons_succ]
        refine take_at 19 71 (fuel := 9) ?_ rfl rfl (by kernel_rfl) (by kernel_rfl) (by kernel_rfl) (Or.inl ⟨by rfl, ?_⟩) hSw ?_
        rotate_left
        · intro wx hSx
          (try dsimp only at hSx)
          go_split_ands
          go_simp
          (try with_reducible rfl)
        simp only [List.setIfInBounds_toArray, List.set_cons_zero, List.set_cons_succ]
        refine take_at 20 72 (fuel := 8) ?_ rfl rfl (by kernel_rfl) (by kernel_rfl) (by kernel_rfl) (Or.inl ⟨by rfl, ?_⟩) hSw ?_
        rotate_left
        · intro wx hSx
          (try dsimp only at hSx)
          go_split_ands
          go_simp
          (try with_reducible rfl)
        simp only [List.setIfInBounds_toArray, List.set_cons_zero, List.set_cons_succ]
        refine take_at 21 73 (fuel := 7) ?_ rfl rfl (by kernel_rfl) (by kernel_rfl) (by kernel_rfl) (Or.inl ⟨by rfl, ?_⟩) hSw ?_
        rotate_left
        · intro wx hSx
          (try dsimp only at hSx)
          go_split_ands
          go_simp
          (try with_reducible rfl)
        simp only [List.setIfInBounds_toArray, List.set_cons_zero, List.set_cons_succ]
        refine take_at 22 74 (fuel := 6) ?_ rfl rfl (by kernel_rfl) (by kernel_rfl) (by kernel_rfl) (Or.inl ⟨by rfl, ?_⟩) hSw ?_
        rotate_left
        · intro wx hSx
          (try dsimp only at hSx)
          go_split_ands
          go_simp
          (try with_reducible rfl)
        simp only [List.setIfInBounds_toArray, List.set_cons_zero, List.set_cons_succ]
        refine wpAnyH_ready (fuel := 5) (rs := [15]) (by kernel_rfl) (by simp) (AllReadyH.cons rfl (fun K hK => ?_) AllReadyH.nil)
        go_simp
        refine Calls.mono (ff _) ?_
        rintro e wv ⟨rfl, rfl⟩
        refine hK.out _ _ hSw (fun hSw => ?_)
        clear hK K
        simp only [List.setIfInBounds_toArray, List.set_cons_zero, List.set_cons_succ]
        refine wpAnyH_ready (fuel := 4) (rs := [16]) (by kernel_rfl) (by simp) (AllReadyH.cons rfl (fun K hK => ?_) AllReadyH.nil)
        go_simp
        refine Calls.mono (fh _ hSw.2.2.2.2.2) ?_
        rintro e wv ⟨rfl, rfl⟩
        refine hK.out _ _ hSw (fun hSw => ?_)
        clear hK K
        simp only [List.setIfInBounds_toArray, List.set_cons_zero, List.set_cons_succ]
        refine wpAnyH_ready (fuel := 3) (rs := [23]) (by kernel_rfl) (by simp) (AllReadyH.cons rfl (fun K hK => ?_) AllReadyH.nil)
        go_simp
        refine Calls.mono (ff _) ?_
        rintro e wv ⟨rfl, rfl⟩
        refine hK.out _ _ hSw (fun hSw => ?_)
        clear hK K
        simp only [List.setIfInBounds_toArray, List.set_cons_zero, List.set_cons_succ]
        refine wpAnyH_ready (fuel := 2) (rs := [24]) (by kernel_rfl) (by simp) (AllReadyH.cons rfl (fun K hK => ?_) AllReadyH.nil)
        go_simp
        refine Calls.mono (fr _ hSw.2.2.2.2.2) ?_
        rintro e wv ⟨rfl, hwv⟩
        refine hK.out _ _ (Lp.allT (p := ⟨sb, off + j * 2 + 1, none⟩) hwv hsb hw2) (fun hSw => ?_)
        clear hK K
        simp only [List.setIfInBounds_toArray, List.set_cons_zero, List.set_cons_succ]
        refine take_at 25 77 (fuel := 1) ?_ rfl rfl (by kernel_rfl) (by kernel_rfl) (by kernel_rfl) (Or.inl ⟨by rfl, ?_⟩) hSw ?_
        rotate_left
        · intro wx hSx
          (try dsimp only at hSx)
          go_split_ands
          go_simp
          (try with_reducible rfl)
        simp only [List.setIfInBounds_toArray, List.set_cons_zero, List.set_cons_succ]
        refine take_at 26 78 (fuel := 0) ?_ rfl rfl (by kernel_rfl) (by kernel_rfl) (by kernel_rfl) (Or.inl ⟨by rfl, ?_⟩) hSw ?_
        rotate_left
        · intro wx hSx
          (try dsimp only at hSx)
          go_split_ands
          go_simp
          (try with_reducible rfl)
        simp only [List.setIfInBounds_toArray, List.set_cons_zero, List.set_cons_succ]
        refine wpAnyH_done (by kernel_rfl) ⟨rfl, ?_⟩ 0
        have hZ := hSw.2.2.2.2.2
        clear hSw hS11 hLp fs ff fh fr
        go_wp2_with fail
        go_roundw
        case rel => exact ⟨j + 1, A', P', m', v1, G', vs', by omega, by omega, by simp, rfl, hZ, hF1⟩
        case measure => simp [intOf]; omega
    · have hend : (j < n ∧ ¬ j < 120 ∧ decide ((j : Int) < (n : Int)) = true ∧ decide ((j : Int) < 120) = false) ∨ (¬ j < n ∧ decide ((j : Int) < (n : Int)) = false) := by
        by_cases h : j < n
        · exact .inl ⟨h, by omega, decide_eq_true (by omega), decide_eq_false (by omega)⟩
        · exact .inr ⟨h, decide_eq_false (by omega)⟩
      clear h1
      rcases hend with ⟨h2, h3, d1, d2⟩ | ⟨h2, d1⟩
      all_goals
        go_wp2_with fail
        go_ret
        exact ⟨rfl, hL.two.h.below⟩
end
set_option linter.unusedVariables false in
set_option maxRecDepth 100000 in
theorem arcPlays_lifted (os : Os) (started : os.Started) (H : Type) (enc : TypeId × Value → H) :
    ReturnsInHanded {} Try.checked os 8 .any (Rows.arcPlaysSpec.pre6 enc Try.prog Try.f8 Rows.arcPlaysRow.domain false) (Rows.arcPlaysSpec.post enc Try.prog Try.f8 false true false false) := by
  refine returnsInHanded_of_change (C := Try.checked) Kit.own started (by kernel_rfl) Try.func8
    (ChangeSpec.witness6 (enc := enc) (C := Try.checked) false ⟨#[], #[.int .i64 0, .slice none 0 0], []⟩ 8 (by kernel_rfl) (by kernel_rfl) (by kernel_rfl) (by kernel_rfl)) ?_
  intro W base args ds gs before hval0 hW hcnd _
  have hval : ∀ (j : Nat) t v, Try.f8.params[j]? = some t → args[j]? = some v → Value.okWide Try.prog W .any base t v := hval0
  have hW' := hW
  obtain ⟨p, q, hA0, hV, rfl, hfz, hnd⟩ := hW
  have hA : DataW.TrodAll enc Try.prog W 0 (fun _ => true) true Try.f8.params.toList args.toList ds p := hA0
  rw [Try.params8] at hA hval
  obtain ⟨v0, vs0, d0, ds0, p0, q0, hargs, rfl, rfl, h0, r0⟩ := trodAll_cons hA
  obtain ⟨v1, vs1, d1, ds1, p1, q1, rfl, rfl, rfl, h1, r1⟩ := trodAll_cons r0
  obtain ⟨rfl, rfl, rfl⟩ := trodAll_nil r1
  obtain ⟨rfl, rfl⟩ := trodVars_none hV
  obtain rfl : args = #[v0, v1] := by cases args; simp_all
  obtain ⟨a0, rfl, rfl, rfl, w0⟩ := open_int Try.underlying3 (hval 0 3 v0 rfl rfl) h0
  obtain ⟨b1, c1, e1, rfl⟩ := okWide_slice Try.underlying58 (hval 1 58 v1 rfl rfl)
  obtain ⟨fuel1, hf1⟩ := h1
  obtain ⟨ao1, len1, cap1, sb1, off1, kx1, tx1, hv1, ht1⟩ := open_acts (show DataW.trod enc Try.prog W 0 (fun _ => true) true fuel1 58 [.slice b1 c1 e1] = some _ from hf1)
  injection hv1 with hv1x hv1y hv1z
  subst hv1x hv1y hv1z
  clear hA0 hval0
  refine (arcPlays_walk a0 w0 _ _ _ _ _ _ _ W ht1).mono fun e W' ⟨he, hg⟩ => ?_
  subst he
  exact ⟨_, rfl, Kit.law_post hW' rfl (by kernel_rfl) rfl (by kernel_rfl) hg⟩

theorem arcPlays_over : Rows.arcPlaysRow.holds Try.pinned (OpenSpec.ofChange Rows.arcPlaysSpec) :=
  OpenClaim.holds_of_wide 8 Try.f8 rfl rfl rfl rfl rfl rfl rfl ⟨rfl, rfl, rfl, rfl, rfl⟩ rfl rfl rfl rfl rfl (by kernel_rfl) Try.func8 (by kernel_rfl)
    (of_decide_eq_true (by kernel_rfl)) (by unfold Func.isWrapper; first | (rw [if_pos (by decide +kernel)]; kernel_rfl) | (rw [if_neg (by decide +kernel)]; exact ⟨rfl, rfl⟩))
    (fun os started H enc _ => arcPlays_lifted os started H enc)

theorem arcPlays_holds : Rows.ArcPlaysSaid :=
  arcPlays_over

end Go.Proofs.Ytfhlnidjneaieaa.Arcy
