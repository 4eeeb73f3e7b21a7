/- A sketch of the program and the document's own beside it (layer 5): what each law of the two holds. No condition. -/
import Derived.Test.YtlimoelknmbcgaaSketchRefAdd
import Derived.Test.YtlimoelknmbcgaaSketchExport
import Derived.Test.YtlimoelknmbcgaaSketchRuns
namespace Go.Proofs.Ytlimoelknmbcgaa.Sketchy
open Go.ChangeShapes Go.WideShapes Go.ChangeAt Go.RowKit
open Wirey (Blk Row str str_size str_list str_cat Kp)

theorem i64_and31 (n : Int) : bits .and .i64 n 31 = n % 32 := by
  have h3 : (BitVec.ofInt 64 31).toNat = 2 ^ 5 - 1 := by decide
  have key : (BitVec.ofInt 64 n &&& BitVec.ofInt 64 31).toNat = (n % ((2 ^ 64 : Nat) : Int)).toNat % 2 ^ 5 := by
    rw [BitVec.toNat_and, BitVec.toNat_ofInt, h3, Nat.and_two_pow_sub_one_eq_mod]
  show IntKind.i64.wrap ((BitVec.ofInt 64 n &&& BitVec.ofInt 64 31).toNat : Nat) = n % 32
  rw [key, IntKind.wrap_i64]
  omega

/-- The program's sketch s in block B + 1, the document's t in the box M. -/
structure Pair (w : World) (B M R cap D : Nat) (G : Nat → Nat) (s t : Sk) (v : World) : Prop where
  sk : At v B s
  rf : Ref v R D G t
  box : Blk v M 28 (boxV R cap D t)
  below : Below w.heap.size w v
  lowB : w.heap.size ≤ B
  sepM : B + 5 < M
  sepR : B + 5 < R ∧ R ≠ M
  sepD : B + 5 < D ∧ D ≠ M
  sepG : ∀ i, i < 4 → B + 5 < G i ∧ G i ≠ M
section
variable {w v v' : World} {B M R cap D : Nat} {G : Nat → Nat} {s s' t t' : Sk}
theorem Pair.onto (h : Pair w B M R cap D G s t v) (hb : Below v.heap.size v v') : Pair w B M R cap D G s t v' :=
  ⟨h.sk.below hb h.sk.lt, h.rf.below hb (Nat.le_refl _), h.box.below hb h.box.lt, below_step h.below hb, h.lowB, h.sepM, h.sepR, h.sepD, h.sepG⟩
theorem Pair.drew (h : Pair w B M R cap D G s t v) : Pair w B M R cap D G s t v.drew := ⟨h.sk.drew, h.rf.drew, h.box, h.below.drew, h.lowB, h.sepM, h.sepR, h.sepD, h.sepG⟩
theorem Pair.drewN (h : Pair w B M R cap D G s t v) (n : Nat) : Pair w B M R cap D G s t (v.drewN n) := ⟨h.sk.drewN n, h.rf.drewN n, h.box, ⟨h.below.os, h.below.tape, h.below.output, h.below.size, h.below.block⟩, h.lowB, h.sepM, h.sepR, h.sepD, h.sepG⟩
theorem Pair.prog (h : Pair w B M R cap D G s t v) (hA : At v' B s') (hk : Kp (Six B) v v') : Pair w B M R cap D G s' t v' := by
  have out : ∀ k, B + 5 < k → ¬ Six B k := fun k hk e => by have := e.2; omega
  refine ⟨hA, ⟨Nat.lt_of_lt_of_le h.rf.lt hk.size, fun i hi => (World.cell?_of_block (hk.block R h.rf.lt (out R h.sepR.1))).trans (h.rf.rows i hi), fun i hi => hk.blk (h.rf.row i hi) (out _ (h.sepG i hi).1), hk.blk h.rf.door (out _ h.sepD.1)⟩,
    hk.blk h.box (out _ h.sepM), h.below.trans (six_below hk h.lowB h.below.size), h.lowB, h.sepM, h.sepR, h.sepD, h.sepG⟩
/-- The document's one is laid anew into its box. -/
theorem Pair.ref {R' cap' D' : Nat} {G' : Nat → Nat} (h : Pair w B M R cap D G s t v) (hb : Below v.heap.size v v') (hr : Ref v' R' D' G' t') (ha : Apart v.heap.size R' D' G') :
    Pair w B M R' cap' D' G' s t' (fill5 v' M (.int .i64 (t'.wide : Int)) (.int .u64 (t'.seed : Int)) (.slice (some ⟨R', 0, none⟩) 4 cap') (.slice (some ⟨D', 0, none⟩) t'.wide t'.wide) (.int .i64 (t'.added : Int))) := by
  have hM := h.box.lt
  have hB := h.sk.lt
  have h2 := h.onto hb
  have hx : Blk v' M 28 #[.int .i64 (t.wide : Int), .int .u64 (t.seed : Int), .slice (some ⟨R, 0, none⟩) 4 cap, .slice (some ⟨D, 0, none⟩) t.wide t.wide, .int .i64 (t.added : Int)] := h2.box
  have far : ∀ k, k < v.heap.size → k ≠ M → ∀ (a b c d e : Value), (fill5 v' M a b c d e).heap[k]? = v'.heap[k]? := fun k hk hne a b c d e => by
    unfold fill5
    rw [Below.heap_setCell _ _ _ _ hne, Below.heap_setCell _ _ _ _ hne, Below.heap_setCell _ _ _ _ hne, Below.heap_setCell _ _ _ _ hne, Below.heap_setCell _ _ _ _ hne]
  refine ⟨⟨(far _ (by omega) (by have := h.sepM; omega) _ _ _ _ _).trans h2.sk.hd, (far _ (by omega) (by have := h.sepM; omega) _ _ _ _ _).trans h2.sk.door, fun i hi => (far _ (by omega) (by have := h.sepM; omega) _ _ _ _ _).trans (h2.sk.row i hi)⟩,
    fill5_ref hr (by have := ha.hR; omega) (fun i hi => by have := ha.hG i hi; omega) (by have := ha.hD; omega) _ _ _ _ _, fill5_blk hx _ _ _ _ _,
    fill5_below h2.below (by have := h.lowB; have := h.sepM; omega) _ _ _ _ _, h.lowB, h.sepM, ⟨by have := ha.hR; omega, by have := ha.hR; omega⟩, ⟨by have := ha.hD; omega, by have := ha.hD; omega⟩, fun i hi => ⟨by have := ha.hG i hi; omega, by have := ha.hG i hi; omega⟩⟩
end

set_option maxHeartbeats 4000000 in
set_option maxRecDepth 100000 in
theorem both_c (a : Int) (n seed : Nat) (hn : bits .and .i64 a 31 = (n : Int)) (hn2 : n < 32) (w : World) :
    Calls Try.prog 8 #[.int .i64 a, .int .u64 (seed : Int)] w fun e w' => ∃ B R cap D G, e = .returned (.tuple #[.pointer (some ⟨B + 1, 0, none⟩), refV R cap D (Sk.new (n + 1) seed), .bool true]) ∧
      At w' B (Sk.new (n + 1) seed) ∧ Ref w' R D G (Sk.new (n + 1) seed) ∧ w.heap.size ≤ B ∧ Apart (B + 6) R D G ∧ Below w.heap.size w w' := by
  have e1 : (1 : Int) + (n : Int) = ((n + 1 : Nat) : Int) := by omega
  have hnew := fun W => new_c (n := n + 1) (seed := seed) (by omega) (by omega) W
  have hrn := fun W => rnew_c (n := n + 1) (seed := seed) (by omega) W
  have hbc := Blk.new w 28 #[.int .i64 0, .int .u64 0, .slice none 0 0, .slice none 0 0, .int .i64 0]
  have hbw := (Below.refl w.heap.size w).alloc (Nat.le_refl _) (.cells #[.int .i64 0, .int .u64 0, .slice none 0 0, .slice none 0 0, .int .i64 0] 28)
  have hN : ((n + 1 : Nat) : Int) ≤ 32 := by omega
  generalize n + 1 = N at e1 hnew hrn hN ⊢
  generalize Sk.new N seed = s0 at hnew hrn ⊢
  unfold refV at hrn
  go_enter Try.func8, Try.ntmps8
  go_wp2_with fail
  refine (hnew _).mono ?_
  rintro e v1 ⟨rfl, hA, hb1, hs1⟩
  rw [World.size_alloc] at hA hs1
  go_wp2_with fail
  refine (hrn _).mono ?_
  rintro e v2 ⟨R, cap, D, G, rfl, hR, hAp, hb2⟩
  have hA2 := hA.below hb2 hA.lt
  have hW := (hbw.trans (hb1.mono hbw.size)).trans (hb2.mono (Nat.le_trans hbw.size hb1.size))
  have hres := (hbc.below hb1 hbc.lt).below hb2 (by omega)
  rw [hs1] at hAp
  have r0 := hres.cell 0
  have r1 := hres.cell 1
  have r2 := hres.cell 2
  have r3 := hres.cell 3
  have r4 := hres.cell 4
  have f0 := hres.free 0
  have f1 := hres.free 1
  have f2 := hres.free 2
  have f3 := hres.free 3
  have f4 := hres.free 4
  simp only [List.getElem?_toArray, List.getElem?_cons_zero, List.getElem?_cons_succ] at r0 r1 r2 r3 r4
  have hRF := fill5_ref hR (B := w.heap.size) (by have := hAp.hR; omega) (fun i hi => by have := hAp.hG i hi; omega) (by have := hAp.hD; omega) (.int .i64 (s0.wide : Int)) (.int .u64 (s0.seed : Int)) (.slice (some ⟨R, 0, none⟩) 4 cap) (.slice (some ⟨D, 0, none⟩) s0.wide s0.wide) (.int .i64 (s0.added : Int))
  have hBF := fill5_below hW (B := w.heap.size) (Nat.le_refl _) (.int .i64 (s0.wide : Int)) (.int .u64 (s0.seed : Int)) (.slice (some ⟨R, 0, none⟩) 4 cap) (.slice (some ⟨D, 0, none⟩) s0.wide s0.wide) (.int .i64 (s0.added : Int))
  have hCF := fill5_blk hres (.int .i64 (s0.wide : Int)) (.int .u64 (s0.seed : Int)) (.slice (some ⟨R, 0, none⟩) 4 cap) (.slice (some ⟨D, 0, none⟩) s0.wide s0.wide) (.int .i64 (s0.added : Int))
  have hAF : At (fill5 v2 w.heap.size (.int .i64 (s0.wide : Int)) (.int .u64 (s0.seed : Int)) (.slice (some ⟨R, 0, none⟩) 4 cap) (.slice (some ⟨D, 0, none⟩) s0.wide s0.wide) (.int .i64 (s0.added : Int))) (w.heap.size + 1) s0 := by
    have far : ∀ k, k ≠ w.heap.size → ∀ (a b c d e : Value), (fill5 v2 w.heap.size a b c d e).heap[k]? = v2.heap[k]? := fun k hne a b c d e => by
      unfold fill5
      rw [Below.heap_setCell _ _ _ _ hne, Below.heap_setCell _ _ _ _ hne, Below.heap_setCell _ _ _ _ hne, Below.heap_setCell _ _ _ _ hne, Below.heap_setCell _ _ _ _ hne]
    exact ⟨(far _ (by omega) _ _ _ _ _).trans hA2.hd, (far _ (by omega) _ _ _ _ _).trans hA2.door, fun i hi => (far _ (by omega) _ _ _ _ _).trans (hA2.row i hi)⟩
  generalize hu : fill5 v2 w.heap.size (.int .i64 (s0.wide : Int)) (.int .u64 (s0.seed : Int)) (.slice (some ⟨R, 0, none⟩) 4 cap) (.slice (some ⟨D, 0, none⟩) s0.wide s0.wide) (.int .i64 (s0.added : Int)) = u at hRF hBF hCF hAF
  have HU := Lib.hid hu
  unfold fill5 at HU
  clear hu hres hA hA2 hR hb1 hb2
  go_wp2_with fail
  rw [HU.out]
  have p0 := hCF.cell 0
  have p1 := hCF.cell 1
  have p2 := hCF.cell 2
  have p3 := hCF.cell 3
  have p4 := hCF.cell 4
  simp only [List.getElem?_toArray, List.getElem?_cons_zero, List.getElem?_cons_succ] at p0 p1 p2 p3 p4
  refine bodyPost_ret (v := .tuple #[.pointer (some ⟨w.heap.size + 1 + 1, 0, none⟩), refV R cap D s0, .bool true]) (by unfold refV; simp [results, Try.results8, go_sem, p0, p1, p2, p3, p4]) rfl ?_
  exact ⟨w.heap.size + 1, R, cap, D, G, rfl, hAF, hRF, by omega, hAp.low (by omega), hBF⟩
end Go.Proofs.Ytlimoelknmbcgaa.Sketchy
