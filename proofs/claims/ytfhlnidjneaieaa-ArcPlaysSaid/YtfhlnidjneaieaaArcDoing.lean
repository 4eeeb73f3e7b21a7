/- Acts, and one act done to the program's ARC and to the document's. The only condition: both are the same, and as chapter 7 has it. -/
import Derived.Test.YtfhlnidjneaieaaRows
import Derived.Test.YtfhlnidjneaieaaMem
import Derived.Test.YtfhlnidjneaieaaTexts
import Derived.Deep.Slices
import Derived.Deep.Strs
import Derived.Test.YtfhlnidjneaieaaArcBeside
namespace Go.Proofs.Ytfhlnidjneaieaa.Arcy
open Go.ChangeShapes Go.WideShapes Go.ChangeAt Go.RowKit Go.Deep
open Wirey (str str_of str_size)

theorem act_cells : Try.prog.cellsOf 68 = 2 := by kernel_rfl
theorem int_cells : Try.prog.cellsOf 3 = 1 := by kernel_rfl
/-- A slice of n acts. -/
structure Acts (w : World) (ao : Option Addr) (n sb off : Nat) (K : Nat → Int) (T : Nat → List UInt8) : Prop where
  n63 : n ≤ 9223372036854775807
  ao : 0 < n → ao = some ⟨sb, off, none⟩
  kind : ∀ i, i < n → w.cell? ⟨sb, off + i * 2, none⟩ = some (.int .i64 (K i))
  key : ∀ i, i < n → w.cell? ⟨sb, off + i * 2 + 1, none⟩ = some (.string (str (T i)))
  wK : ∀ i, i < n → -9223372036854775808 ≤ K i ∧ K i ≤ 9223372036854775807
  size : ∀ i, i < n → (T i).length ≤ maxLen
  lt : 0 < n → sb < w.heap.size
theorem Acts.below {w w' : World} {ao : Option Addr} {n sb off C : Nat} {K : Nat → Int} {T : Nat → List UInt8} (h : Acts w ao n sb off K T) (hb : Below C w w') (hC : 0 < n → sb < C) : Acts w' ao n sb off K T :=
  ⟨h.n63, h.ao, fun i hi => (World.cell?_of_block (hb.block sb (hC (by omega)))).trans (h.kind i hi), fun i hi => (World.cell?_of_block (hb.block sb (hC (by omega)))).trans (h.key i hi), h.wK, h.size, fun hl => Nat.lt_of_lt_of_le (h.lt hl) hb.size⟩
theorem addr_add' (b o n : Nat) : (⟨b, o, none⟩ : Addr).add n = ⟨b, o + n, none⟩ := by
  unfold Addr.add
  split
  · subst_vars; rfl
  · rfl
theorem spot_none' {w : World} {a : Addr} {u : Value} (h : w.cell? a = some u) : a = ⟨a.block, a.off, none⟩ := by
  obtain ⟨b, o, s⟩ := a
  cases s with
  | none => rfl
  | some s =>
    unfold World.cell? at h
    split at h
    · simp at h
    · simp at h
set_option maxRecDepth 100000 in
theorem open_acts {H : Type} {enc : TypeId × Value → H} {w : World} {base : Nat} {spare : Nat → Bool} {held : Bool} {fuel : Nat} {v : Value} {x : DataW H × List MemPlace}
    (h : DataW.trod enc Try.prog w base spare held fuel 58 [v] = some x) :
    ∃ (ao : Option Addr) (len cap sb off : Nat) (K : Nat → Int) (T : Nat → List UInt8), v = .slice ao len cap ∧ Acts w ao len sb off K T := by
  rcases open_slice Try.underlying58 h with ⟨h0, _⟩ | ⟨a, len, cap, m, n, D, Pl, h0, _, hl, hm, hmm, _, hi⟩
  · obtain rfl : v = .slice none 0 0 := by simpa using h0
    exact ⟨none, 0, 0, 0, 0, fun _ => 0, fun _ => [], rfl, ⟨by omega, fun h => by omega, fun i hi => by omega, fun i hi => by omega, fun i hi => by omega, fun i hi => by omega, fun h => by omega⟩⟩
  · obtain rfl : v = .slice (some a) len cap := by simpa using h0
    have hlm : len ≤ m := by
      rw [hmm]; split
      · exact hl
      · exact Nat.le_refl _
    have each : ∀ i, ∃ (k : Int) (t : List UInt8), i < len → w.cell? ((a.add (i * 2)).add 0) = some (.int .i64 k) ∧ w.cell? ((a.add (i * 2)).add 1) = some (.string (str t)) ∧
        (-9223372036854775808 ≤ k ∧ k ≤ 9223372036854775807) ∧ t.length ≤ maxLen := by
      intro i
      by_cases hil : i < len
      · obtain ⟨cs, hc, ht⟩ := hi i (by omega)
        rw [act_cells] at hc
        obtain ⟨_, hcl, hat⟩ := World.cells?_some hc
        obtain ⟨y0, y1, n', _, _, t0, t1⟩ := trod_struct2 Try.underlying68 ht
        match cs, hcl with
        | [d0, d1], _ =>
          dsimp only at t0 t1
          rw [int_cells] at t0
          rw [Wirey.str_cells] at t1
          obtain ⟨k, e0, _, w0⟩ := DataW.trod_int Try.underlying3 t0
          obtain ⟨b, e2, _, w2⟩ := DataW.trod_string Try.underlying9 t1
          obtain rfl : d0 = .int .i64 k := by simpa using e0
          obtain rfl : d1 = .string b := by simpa using e2
          exact ⟨k, b.data.toList, fun _ => ⟨hat 0 (by omega), (hat 1 (by omega)).trans (congrArg (fun z => some (Value.string z)) (str_of b)), bounds_i64 w0, w2⟩⟩
      · exact ⟨0, [], fun h => absurd h hil⟩
    obtain ⟨K, T, hK⟩ : ∃ (K : Nat → Int) (T : Nat → List UInt8), ∀ i, i < len → w.cell? ((a.add (i * 2)).add 0) = some (.int .i64 (K i)) ∧ w.cell? ((a.add (i * 2)).add 1) = some (.string (str (T i))) ∧
        (-9223372036854775808 ≤ K i ∧ K i ≤ 9223372036854775807) ∧ (T i).length ≤ maxLen :=
      ⟨fun i => (each i).choose, fun i => (each i).choose_spec.choose, fun i => (each i).choose_spec.choose_spec⟩
    clear each
    by_cases hz : len = 0
    · subst hz
      exact ⟨some a, 0, cap, 0, 0, fun _ => 0, fun _ => [], rfl, ⟨by omega, fun h => by omega, fun i hi => by omega, fun i hi => by omega, fun i hi => by omega, fun i hi => by omega, fun h => by omega⟩⟩
    · obtain ⟨g0, _⟩ := hK 0 (by omega)
      have ha : a = ⟨a.block, a.off, none⟩ := spot_none' (show w.cell? a = some _ from g0)
      have hsb := World.block_lt_of_cell? w _ (show w.cell? a = some _ from g0)
      have hq : ∀ i, i < len → w.cell? ⟨a.block, a.off + i * 2, none⟩ = some (.int .i64 (K i)) ∧ w.cell? ⟨a.block, a.off + i * 2 + 1, none⟩ = some (.string (str (T i))) := fun i hil => by
        obtain ⟨q0, q1, _⟩ := hK i hil
        rw [ha, addr_add', addr_add'] at q0 q1
        exact ⟨q0, q1⟩
      exact ⟨some a, len, cap, a.block, a.off, K, T, rfl, ⟨Nat.le_trans hl hm, fun _ => congrArg some ha, fun i hil => (hq i hil).1, fun i hil => (hq i hil).2, fun i hil => (hK i hil).2.2.1, fun i hil => (hK i hil).2.2.2, fun _ => hsb⟩⟩
end Go.Proofs.Ytfhlnidjneaieaa.Arcy

namespace Go.Proofs.Ytfhlnidjneaieaa.Arcy
open Go.ChangeShapes Go.WideShapes Go.ChangeAt Go.RowKit Go.Shelf
open Wirey (Blk Row str str_size str_list str_cat Kp)
open Ringy Go.ChangeMaps Go.Maps

/-- What stands while an act is done: the call's own copies in blocks w.heap.size and the two behind it. -/
structure Ds (w0 : World) (K : Nat → Prop) (A P : Nat) (m : Rm) (v u : Av) (G : Nat) (vs : Nat → Value) (w : World) (v0 : Av) (G0 : Nat) (x : World) : Prop where
  two : Two w0 A P m v u G vs x
  box : Blk x w.heap.size 63 #[.int .i64 (v0.most : Int), .int .i64 (v0.tgt : Int), .slice (some ⟨G0, 0, none⟩) 4 4, .int .i64 (v0.pl : Int)]
  res : Blk x (w.heap.size + 2) 63 #[.int .i64 0, .int .i64 0, .slice none 0 0, .int .i64 0]
  n2 : NotIn (w.heap.size + 2) G vs 4
  sep : ∀ q, m.own q ∨ q = A → q < w.heap.size ∨ w.heap.size + 3 ≤ q
  lo : w0.heap.size ≤ w.heap.size
  hi : w.heap.size + 3 ≤ x.heap.size
  keep : ∀ q, K q → q < w.heap.size ∧ x.heap[q]? = w.heap[q]? ∧ ¬ (m.own q ∨ q = A) ∧ NotIn q G vs 4
section
variable {w0 w x y : World} {K : Nat → Prop} {A P : Nat} {m m' : Rm} {v v' u u' v0 : Av} {G G' G0 : Nat} {vs vs' : Nat → Value} {k : Key}
theorem Ds.onto (h : Ds w0 K A P m v u G vs w v0 G0 x) (hb : Below x.heap.size x y) : Ds w0 K A P m v u G vs w v0 G0 y :=
  ⟨h.two.onto hb, h.box.below hb h.box.lt, h.res.below hb h.res.lt, h.n2, h.sep, h.lo, Nat.le_trans h.hi hb.size, fun q hq => by
    obtain ⟨a, b, c, d⟩ := h.keep q hq
    exact ⟨a, (hb.block q (by have := h.hi; omega)).trans b, c, d⟩⟩
theorem Ds.drewN (h : Ds w0 K A P m v u G vs w v0 G0 x) (n : Nat) : Ds w0 K A P m v u G vs w v0 G0 (x.drewN n) := h.onto ⟨rfl, rfl, rfl, Nat.le_refl _, fun _ _ => rfl⟩
theorem Ds.goes (h : Ds w0 K A P m v u G vs w v0 G0 x) (hg : Goes x G vs u' G' vs' y) : Ds w0 K A P m v u' G' vs' w v0 G0 y :=
  ⟨h.two.goes hg, h.box.below hg.below h.box.lt, h.res.below hg.below h.res.lt, hg.not _ h.res.lt h.n2, h.sep, h.lo, Nat.le_trans h.hi hg.below.size, fun q hq => by
    obtain ⟨a, b, c, d⟩ := h.keep q hq
    have hlt : q < x.heap.size := by have := h.hi; omega
    exact ⟨a, (hg.below.block q hlt).trans b, c, hg.not q hlt d⟩⟩
theorem Ds.step (h : Ds w0 K A P m v u G vs w v0 G0 x) (hu : u.Ok) (hH : HeldA w0 A P y m' v') (hS : StepA A x m y m') : Ds w0 K A P m' v' u G vs w v0 G0 y :=
  ⟨h.two.step hu hH hS, (hS.kp.block _ h.box.lt (fun ho => by have := h.sep _ ho; omega)).trans h.box, (hS.kp.block _ h.res.lt (fun ho => by have := h.sep _ ho; omega)).trans h.res, h.n2, fun q hq => by
    rcases hq with hq | rfl
    · rcases hS.own q hq with h1 | h1
      · exact h.sep q (.inl h1)
      · have := h.hi; omega
    · exact h.sep q (.inr rfl), h.lo, Nat.le_trans h.hi hS.kp.size, fun q hq => by
    obtain ⟨a, b, c, d⟩ := h.keep q hq
    have hlt : q < x.heap.size := by have := h.hi; omega
    refine ⟨a, (hS.kp.block q hlt c).trans b, fun ho => ?_, d⟩
    rcases ho with ho | ho
    · rcases hS.own q ho with h1 | h1
      · exact c (.inl h1)
      · omega
    · exact c (.inr ho)⟩
/-- Another ARC of the program's, laid behind all. -/
theorem Ds.turn {A' : Nat} (h : Ds w0 K A P m v u G vs w v0 G0 x) (hu : u.Ok) (hb : Below x.heap.size x y) (hA : At y m' v'.rg) (hbx : Blk y A' 103 #[.int .i64 (v'.most : Int), .int .i64 (v'.tgt : Int), .pointer (some ⟨m'.R, 0, none⟩)]) (hown : ∀ b, m'.own b → x.heap.size ≤ b) (hlo : x.heap.size ≤ A') (hno : ¬ m'.own A') (hok : v'.Ok) : Ds w0 K A' m'.R m' v' u G vs w v0 G0 y := by
  have h1 := h.onto hb
  have hz := h.hi
  have hz0 := h.lo
  have hn : ∀ q, x.heap.size ≤ q → NotIn q G vs 4 := fun q hq => by have := h.two.d.not_in hq; rw [hu.n] at this; exact this
  refine ⟨⟨⟨⟨rfl, hA, h1.two.h.below, fun b hb2 => by have := hown b hb2; omega⟩, hbx, by omega, hno, hok⟩, h1.two.d, fun q hq => hn q ?_⟩, h1.box, h1.res, h.n2, fun q hq => ?_, h.lo, h1.hi, fun q hq => ?_⟩
  · rcases hq with hq | rfl
    · exact hown q hq
    · exact hlo
  · rcases hq with hq | rfl
    · have := hown q hq; omega
    · omega
  · obtain ⟨a, b, c, d⟩ := h1.keep q hq
    refine ⟨a, b, fun ho => ?_, d⟩
    rcases ho with ho | ho
    · have := hown q ho; omega
    · omega
def putD (w y : World) (m t G p : Nat) : World := ((((y.setCell ⟨w.heap.size + 2, 0, none⟩ (.int .i64 (m : Int))).setCell ⟨w.heap.size + 2, 1, none⟩ (.int .i64 (t : Int))).setCell ⟨w.heap.size + 2, 2, none⟩ (.slice (some ⟨G, 0, none⟩) 4 4)).setCell ⟨w.heap.size + 2, 3, none⟩ (.int .i64 (p : Int)))
theorem putD_cell {m t G p : Nat} {a : Addr} (h : a.block ≠ w.heap.size + 2) : (putD w x m t G p).cell? a = x.cell? a :=
  (((World.cell?_setCell_far _ _ a _ (Ne.symm h)).trans (World.cell?_setCell_far _ _ a _ (Ne.symm h))).trans (World.cell?_setCell_far _ _ a _ (Ne.symm h))).trans (World.cell?_setCell_far _ _ a _ (Ne.symm h))
theorem Two.beside {q : Nat} (h : Two w0 A P m v u G vs x) (hu : u.Ok) (hq : w0.heap.size ≤ q) (hn : ¬ (m.own q ∨ q = A)) (hG : NotIn q G vs 4) (i : Nat) (z : Value) : Two w0 A P m v u G vs (x.setCell ⟨q, i, none⟩ z) :=
  ⟨h.h.kp (O := fun b => b = q) (Kp.set (S := fun b => b = q) (Kp.refl _ x) (p := ⟨q, i, none⟩) rfl z) (fun b hb => by subst hb; exact ⟨hq, fun ho => hn (.inl ho), fun e => hn (.inr e)⟩), Dat.beside h.d hu hG i z, h.no⟩
theorem Ds.fin (h : Ds w0 K A P m v u G vs w v0 G0 x) (hu : u.Ok) : Two w0 A P m v u G vs (putD w x u.most u.tgt G u.pl) ∧ (putD w x u.most u.tgt G u.pl).cell? ⟨w.heap.size + 2, 0, none⟩ = some (.int .i64 (u.most : Int)) ∧ (putD w x u.most u.tgt G u.pl).cell? ⟨w.heap.size + 2, 1, none⟩ = some (.int .i64 (u.tgt : Int)) ∧ (putD w x u.most u.tgt G u.pl).cell? ⟨w.heap.size + 2, 2, none⟩ = some (.slice (some ⟨G, 0, none⟩) 4 4) ∧ (putD w x u.most u.tgt G u.pl).cell? ⟨w.heap.size + 2, 3, none⟩ = some (.int .i64 (u.pl : Int)) := by
  have hq : w0.heap.size ≤ w.heap.size + 2 := Nat.le_trans h.lo (Nat.le_add_right _ _)
  have hn : ¬ (m.own (w.heap.size + 2) ∨ w.heap.size + 2 = A) := fun ho => by have := h.sep _ ho; omega
  have hB : Blk (putD w x u.most u.tgt G u.pl) (w.heap.size + 2) 63 #[.int .i64 (u.most : Int), .int .i64 (u.tgt : Int), .slice (some ⟨G, 0, none⟩) 4 4, .int .i64 (u.pl : Int)] := (((h.res.put 0 (.int .i64 (u.most : Int))).put 1 (.int .i64 (u.tgt : Int))).put 2 (.slice (some ⟨G, 0, none⟩) 4 4)).put 3 (.int .i64 (u.pl : Int))
  exact ⟨(((h.two.beside hu hq hn h.n2 0 _).beside hu hq hn h.n2 1 _).beside hu hq hn h.n2 2 _).beside hu hq hn h.n2 3 _, hB.cell 0, hB.cell 1, hB.cell 2, hB.cell 3⟩
theorem Ds.zero (h : Ds w0 K A P m v u G vs w v0 G0 x) : x.cell? ⟨w.heap.size + 2, 0, none⟩ = some (.int .i64 0) ∧ x.cell? ⟨w.heap.size + 2, 1, none⟩ = some (.int .i64 0) ∧ x.cell? ⟨w.heap.size + 2, 2, none⟩ = some (.slice none 0 0) ∧ x.cell? ⟨w.heap.size + 2, 3, none⟩ = some (.int .i64 0) ∧
    x.frozen? ⟨w.heap.size + 2, 0, none⟩ = false ∧ x.frozen? ⟨w.heap.size + 2, 1, none⟩ = false ∧ x.frozen? ⟨w.heap.size + 2, 2, none⟩ = false ∧ x.frozen? ⟨w.heap.size + 2, 3, none⟩ = false :=
  ⟨h.res.cell 0, h.res.cell 1, h.res.cell 2, h.res.cell 3, h.res.free 0, h.res.free 1, h.res.free 2, h.res.free 3⟩
theorem Ds.all (h : Ds w0 K A P m v u G vs w v0 G0 x) : x.cell? ⟨w.heap.size, 0, none⟩ = some (.int .i64 (v0.most : Int)) ∧ x.cell? ⟨w.heap.size, 1, none⟩ = some (.int .i64 (v0.tgt : Int)) ∧ x.cell? ⟨w.heap.size, 2, none⟩ = some (.slice (some ⟨G0, 0, none⟩) 4 4) ∧ x.cell? ⟨w.heap.size, 3, none⟩ = some (.int .i64 (v0.pl : Int)) ∧ Ds w0 K A P m v u G vs w v0 G0 x := ⟨h.box.cell 0, h.box.cell 1, h.box.cell 2, h.box.cell 3, h⟩
theorem Ds.new {a b : Value} (hK : ∀ q, K q → q < w.heap.size ∧ ¬ (m.own q ∨ q = A) ∧ NotIn q G vs 4) (h : Two w0 A P m v v G vs w) : Ds w0 K A P m v v G vs w v G (((w.alloc (.cells #[.int .i64 (v.most : Int), .int .i64 (v.tgt : Int), .slice (some ⟨G, 0, none⟩) 4 4, .int .i64 (v.pl : Int)] 63)).alloc (.cells #[a, b] 68)).alloc (.cells #[.int .i64 0, .int .i64 0, .slice none 0 0, .int .i64 0] 63)) := by
  have s1 : (w.alloc (.cells #[.int .i64 (v.most : Int), .int .i64 (v.tgt : Int), .slice (some ⟨G, 0, none⟩) 4 4, .int .i64 (v.pl : Int)] 63)).heap.size = w.heap.size + 1 := by simp
  have s2 : ((w.alloc (.cells #[.int .i64 (v.most : Int), .int .i64 (v.tgt : Int), .slice (some ⟨G, 0, none⟩) 4 4, .int .i64 (v.pl : Int)] 63)).alloc (.cells #[a, b] 68)).heap.size = w.heap.size + 2 := by simp
  have s3 : (((w.alloc (.cells #[.int .i64 (v.most : Int), .int .i64 (v.tgt : Int), .slice (some ⟨G, 0, none⟩) 4 4, .int .i64 (v.pl : Int)] 63)).alloc (.cells #[a, b] 68)).alloc (.cells #[.int .i64 0, .int .i64 0, .slice none 0 0, .int .i64 0] 63)).heap.size = w.heap.size + 3 := by simp
  have hb := (((Below.refl _ w).alloc (Nat.le_refl _) (.cells #[.int .i64 (v.most : Int), .int .i64 (v.tgt : Int), .slice (some ⟨G, 0, none⟩) 4 4, .int .i64 (v.pl : Int)] 63)).alloc (by omega) (.cells #[a, b] 68)).alloc (by omega) (.cells #[.int .i64 0, .int .i64 0, .slice none 0 0, .int .i64 0] 63)
  have hr := Blk.new ((w.alloc (.cells #[.int .i64 (v.most : Int), .int .i64 (v.tgt : Int), .slice (some ⟨G, 0, none⟩) 4 4, .int .i64 (v.pl : Int)] 63)).alloc (.cells #[a, b] 68)) 63 #[.int .i64 0, .int .i64 0, .slice none 0 0, .int .i64 0]
  rw [s2] at hr
  have hn := h.d.not_in (q := w.heap.size + 2) (by omega)
  rw [h.h.ok.n] at hn
  exact ⟨h.onto hb, ((Blk.new w 63 #[.int .i64 (v.most : Int), .int .i64 (v.tgt : Int), .slice (some ⟨G, 0, none⟩) 4 4, .int .i64 (v.pl : Int)]).alloc _).alloc _, hr, hn, fun q hq => .inl (by rcases hq with hq | rfl; exact h.h.h.lt q hq; exact h.h.lt), h.h.below.size, by omega, fun q hq => ⟨(hK q hq).1, hb.block q (hK q hq).1, (hK q hq).2.1, (hK q hq).2.2⟩⟩
theorem Ds.keepD (h : Ds w0 K A P m v u G vs w v0 G0 x) (q : Nat) (hq : K q) (a b c d : Nat) : (putD w x a b c d).heap[q]? = w.heap[q]? ∧ ¬ (m.own q ∨ q = A) ∧ NotIn q G vs 4 := by
  obtain ⟨k1, k2, k3, k4⟩ := h.keep q hq
  have hne : q ≠ w.heap.size + 2 := by omega
  exact ⟨((((Below.heap_setCell _ ⟨w.heap.size + 2, 3, none⟩ _ q hne).trans (Below.heap_setCell _ ⟨w.heap.size + 2, 2, none⟩ _ q hne)).trans (Below.heap_setCell _ ⟨w.heap.size + 2, 1, none⟩ _ q hne)).trans (Below.heap_setCell x ⟨w.heap.size + 2, 0, none⟩ _ q hne)).trans k2, k3, k4⟩
/-- What an act comes to. -/
def DoP (w0 : World) (K : Nat → Prop) (w : World) (v' : Av) (e : Ending) (y : World) : Prop :=
  ∃ A' P' m' G' vs', e = .returned (.tuple #[.pointer (some ⟨A', 0, none⟩), .agg #[.int .i64 (v'.most : Int), .int .i64 (v'.tgt : Int), .slice (some ⟨G', 0, none⟩) 4 4, .int .i64 (v'.pl : Int)], .bool true]) ∧ Two w0 A' P' m' v' v' G' vs' y ∧ ∀ q, K q → y.heap[q]? = w.heap[q]? ∧ ¬ (m'.own q ∨ q = A') ∧ NotIn q G' vs' 4
set_option maxHeartbeats 1000000 in
set_option maxRecDepth 100000 in
theorem do_touch4 (T : List UInt8) (hT : T.length ≤ maxLen) (hf : v.Fine) (hK : ∀ q, K q → q < w.heap.size ∧ ¬ (m.own q ∨ q = A) ∧ NotIn q G vs 4) (h : Two w0 A P m v v G vs w) :
    Calls Try.prog 36 #[.pointer (some ⟨A, 0, none⟩), .agg #[.int .i64 (v.most : Int), .int .i64 (v.tgt : Int), .slice (some ⟨G, 0, none⟩) 4 4, .int .i64 (v.pl : Int)], .agg #[.int .i64 4, .string (str T)]] w (DoP w0 K w (v.touch (fewL T))) := by
  have hok := hf.ok
  have h1 := Ds.new (a := .int .i64 4) (b := .string (str T)) hK h
  have hact : (((w.alloc (.cells #[.int .i64 (v.most : Int), .int .i64 (v.tgt : Int), .slice (some ⟨G, 0, none⟩) 4 4, .int .i64 (v.pl : Int)] 63)).alloc (.cells #[.int .i64 4, .string (str T)] 68)).alloc (.cells #[.int .i64 0, .int .i64 0, .slice none 0 0, .int .i64 0] 63)).cell? ⟨w.heap.size + 1, 0, none⟩ = some (.int .i64 4) ∧ (((w.alloc (.cells #[.int .i64 (v.most : Int), .int .i64 (v.tgt : Int), .slice (some ⟨G, 0, none⟩) 4 4, .int .i64 (v.pl : Int)] 63)).alloc (.cells #[.int .i64 4, .string (str T)] 68)).alloc (.cells #[.int .i64 0, .int .i64 0, .slice none 0 0, .int .i64 0] 63)).cell? ⟨w.heap.size + 1, 1, none⟩ = some (.string (str T)) := by
    have hb := (Blk.new (w.alloc (.cells #[.int .i64 (v.most : Int), .int .i64 (v.tgt : Int), .slice (some ⟨G, 0, none⟩) 4 4, .int .i64 (v.pl : Int)] 63)) 68 #[.int .i64 4, .string (str T)]).alloc (.cells #[.int .i64 0, .int .i64 0, .slice none 0 0, .int .i64 0] 63)
    rw [show (w.alloc (.cells #[.int .i64 (v.most : Int), .int .i64 (v.tgt : Int), .slice (some ⟨G, 0, none⟩) 4 4, .int .i64 (v.pl : Int)] 63)).heap.size = w.heap.size + 1 by simp] at hb
    exact ⟨hb.cell 0, hb.cell 1⟩
  have hfl := fewL_max T
  have hfw := fun W => fewA_c T hT W
  clear h hK
  go_enter Try.func36, Try.ntmps36
  go_upto_region 1 with (fail)
  generalize ((w.alloc (.cells #[.int .i64 (v.most : Int), .int .i64 (v.tgt : Int), .slice (some ⟨G, 0, none⟩) 4 4, .int .i64 (v.pl : Int)] 63)).alloc (.cells #[.int .i64 4, .string (str T)] 68)).alloc (.cells #[.int .i64 0, .int .i64 0, .slice none 0 0, .int .i64 0] 63) = w1 at *
  obtain ⟨k0, k1⟩ := hact
  generalize hkk : fewL T = k at *
  go_wp2_with fail
  refine (hfw _).mono ?_
  rintro e w' ⟨rfl, rfl⟩
  clear hkk hfw
  obtain ⟨x0, x1, x2, x3, -⟩ := h1.all
  have hvu := (Av.touch_ok hok k).1
  have hnm : (v.touch k).most = v.most ∧ (v.touch k).tgt = v.tgt ∧ (v.touch k).pl = v.pl := by unfold Av.touch; split <;> exact ⟨rfl, rfl, rfl⟩
  have HNM := Lib.hid hnm
  clear hnm
  have fd := rtouch_c (k := k) hf hvu w1 h1.two.d
  go_wp2_with fail
  refine fd.mono ?_
  rintro e w4 ⟨G1, vs1, rfl, hg⟩
  have h4 : Ds w0 K A P m v (v.touch k) G1 vs1 w v G (w4.alloc (.cells #[.int .i64 (v.most : Int), .int .i64 (v.tgt : Int), .slice (some ⟨G1, 0, none⟩) 4 4, .int .i64 (v.pl : Int)] 63)) := (h1.goes hg).onto ((Below.refl _ w4).alloc (Nat.le_refl _) _)
  have hb4 := Blk.new w4 63 #[.int .i64 (v.most : Int), .int .i64 (v.tgt : Int), .slice (some ⟨G1, 0, none⟩) 4 4, .int .i64 (v.pl : Int)]
  have hq4 : ¬ (m.own w4.heap.size ∨ w4.heap.size = A) := fun ho => by
    rcases ho with ho | ho
    · have := (h1.goes hg).two.h.h.lt _ ho; omega
    · have := (h1.goes hg).two.h.lt; omega
  have hq2 : w4.heap.size ≠ w.heap.size + 2 := by have := (h1.goes hg).hi; omega
  clear x0 x1 x2 x3 fd h1 hg k0 k1
  go_upto_region 6 with (fail)
  generalize w4.heap.size = z at *
  generalize w4.alloc (.cells #[.int .i64 (v.most : Int), .int .i64 (v.tgt : Int), .slice (some ⟨G1, 0, none⟩) 4 4, .int .i64 (v.pl : Int)] 63) = w5 at *
  have h5 : Ds w0 K A P m v (v.touch k) G1 vs1 w v G w5.drew := h4.drewN 1
  have hb5 : Blk w5.drew z 63 #[.int .i64 (v.most : Int), .int .i64 (v.tgt : Int), .slice (some ⟨G1, 0, none⟩) 4 4, .int .i64 (v.pl : Int)] := hb4
  have hS5 : w5.drew.cell? ⟨z, 0, none⟩ = some (.int .i64 (v.most : Int)) ∧ w5.drew.cell? ⟨z, 1, none⟩ = some (.int .i64 (v.tgt : Int)) ∧ w5.drew.cell? ⟨z, 2, none⟩ = some (.slice (some ⟨G1, 0, none⟩) 4 4) ∧ w5.drew.cell? ⟨z, 3, none⟩ = some (.int .i64 (v.pl : Int)) := ⟨hb5.cell 0, hb5.cell 1, hb5.cell 2, hb5.cell 3⟩
  have fp := touch_c (k := k) hfl h5.two.h
  clear h4 hb4
  refine region_only 10 #[false, false, false, false, false, false, false, false, false, false] (S := (fun W => W.cell? ⟨z, 0, none⟩ = some (.int .i64 (v.most : Int)) ∧ W.cell? ⟨z, 1, none⟩ = some (.int .i64 (v.tgt : Int)) ∧ W.cell? ⟨z, 2, none⟩ = some (.slice (some ⟨G1, 0, none⟩) 4 4) ∧ W.cell? ⟨z, 3, none⟩ = some (.int .i64 (v.pl : Int)))) rfl rfl (by kernel_rfl) hS5 (fun hSw => ?_)
  refine take_at 0 37 (fuel := 9) ?_ rfl rfl (by kernel_rfl) (by kernel_rfl) (by kernel_rfl) (Or.inl ⟨by rfl, ?_⟩) hSw ?_
  rotate_left
  · intro wx hSx
    (try dsimp only at hSx)
    go_split_ands
    go_simp
    (try with_reducible rfl)
  simp only [List.setIfInBounds_toArray, List.set_cons_zero, List.set_cons_succ]
  refine take_at 1 38 (fuel := 8) ?_ rfl rfl (by kernel_rfl) (by kernel_rfl) (by kernel_rfl) (Or.inl ⟨by rfl, ?_⟩) hSw ?_
  rotate_left
  · intro wx hSx
    (try dsimp only at hSx)
    go_split_ands
    go_simp
    (try with_reducible rfl)
  simp only [List.setIfInBounds_toArray, List.set_cons_zero, List.set_cons_succ]
  refine take_at 2 39 (fuel := 7) ?_ rfl rfl (by kernel_rfl) (by kernel_rfl) (by kernel_rfl) (Or.inl ⟨by rfl, ?_⟩) hSw ?_
  rotate_left
  · intro wx hSx
    (try dsimp only at hSx)
    go_split_ands
    go_simp
    (try with_reducible rfl)
  simp only [List.setIfInBounds_toArray, List.set_cons_zero, List.set_cons_succ]
  refine take_at 3 40 (fuel := 6) ?_ rfl rfl (by kernel_rfl) (by kernel_rfl) (by kernel_rfl) (Or.inl ⟨by rfl, ?_⟩) hSw ?_
  rotate_left
  · intro wx hSx
    (try dsimp only at hSx)
    go_split_ands
    go_simp
    (try with_reducible rfl)
  simp only [List.setIfInBounds_toArray, List.set_cons_zero, List.set_cons_succ]
  refine take_at 5 42 (fuel := 5) ?_ rfl rfl (by kernel_rfl) (by kernel_rfl) (by kernel_rfl) (Or.inl ⟨by rfl, ?_⟩) hSw ?_
  rotate_left
  · intro wx hSx
    (try dsimp only at hSx)
    go_split_ands
    go_simp
    (try with_reducible rfl)
  simp only [List.setIfInBounds_toArray, List.set_cons_zero, List.set_cons_succ]
  refine wpAnyH_ready (fuel := 4) (rs := [4]) (by kernel_rfl) (by simp) (AllReadyH.cons rfl (fun K hK => ?_) AllReadyH.nil)
  go_simp
  refine Calls.mono (fp) ?_
  rintro e wv ⟨rfl, m', hHv, hSt⟩
  have hb6 : Blk wv z 63 #[.int .i64 (v.most : Int), .int .i64 (v.tgt : Int), .slice (some ⟨G1, 0, none⟩) 4 4, .int .i64 (v.pl : Int)] := (hSt.kp.block z hb5.lt hq4).trans hb5
  have h6 := h5.step hvu hHv hSt
  clear h5 hb5 hS5 fp
  obtain ⟨z0, z1, z2, z3, z4, z5, z6, z7⟩ := h6.zero
  refine hK.out _ _ ⟨hb6.cell 0, hb6.cell 1, hb6.cell 2, hb6.cell 3⟩ (fun hSw => ?_)
  clear hK K
  simp only [List.setIfInBounds_toArray, List.set_cons_zero, List.set_cons_succ]
  refine take_at 6 43 (fuel := 3) ?_ rfl rfl (by kernel_rfl) (by kernel_rfl) (by kernel_rfl) (Or.inl ⟨by rfl, ?_⟩) hSw ?_
  rotate_left
  · intro wx hSx
    (try dsimp only at hSx)
    go_split_ands
    go_simp
    (try with_reducible rfl)
  simp only [List.setIfInBounds_toArray, List.set_cons_zero, List.set_cons_succ]
  refine take_at 7 6 (fuel := 2) ?_ rfl rfl (by kernel_rfl) (by kernel_rfl) (by kernel_rfl) (Or.inl ⟨by rfl, ?_⟩) hSw ?_
  rotate_left
  · intro wx hSx
    (try dsimp only at hSx)
    go_split_ands
    go_simp
    (try with_reducible rfl)
  simp only [List.setIfInBounds_toArray, List.set_cons_zero, List.set_cons_succ]
  refine wpAnyH_ready (fuel := 1) (rs := [8]) (by kernel_rfl) (by simp) (AllReadyH.cons rfl (fun K hK => ?_) AllReadyH.nil)
  go_simp
  refine hK.out _ _ ⟨(putD_cell (x := wv) hq2).trans hSw.1, (putD_cell (x := wv) hq2).trans hSw.2.1, (putD_cell (x := wv) hq2).trans hSw.2.2.1, (putD_cell (x := wv) hq2).trans hSw.2.2.2⟩ (fun hSw => ?_)
  clear hK K
  simp only [List.setIfInBounds_toArray, List.set_cons_zero, List.set_cons_succ]
  refine take_at 9 8 (fuel := 0) ?_ rfl rfl (by kernel_rfl) (by kernel_rfl) (by kernel_rfl) (Or.inl ⟨by rfl, ?_⟩) hSw ?_
  rotate_left
  · intro wx hSx
    (try dsimp only at hSx)
    go_split_ands
    go_simp
    (try with_reducible rfl)
  simp only [List.setIfInBounds_toArray, List.set_cons_zero, List.set_cons_succ]
  refine wpAnyH_done (by kernel_rfl) ⟨rfl, ?_⟩ 0
  have hR : Two w0 A P m' (v.touch k) (v.touch k) G1 vs1 (putD w wv v.most v.tgt G1 v.pl) ∧ (putD w wv v.most v.tgt G1 v.pl).cell? ⟨w.heap.size + 2, 0, none⟩ = some (.int .i64 (v.most : Int)) ∧ (putD w wv v.most v.tgt G1 v.pl).cell? ⟨w.heap.size + 2, 1, none⟩ = some (.int .i64 (v.tgt : Int)) ∧ (putD w wv v.most v.tgt G1 v.pl).cell? ⟨w.heap.size + 2, 2, none⟩ = some (.slice (some ⟨G1, 0, none⟩) 4 4) ∧ (putD w wv v.most v.tgt G1 v.pl).cell? ⟨w.heap.size + 2, 3, none⟩ = some (.int .i64 (v.pl : Int)) := by
    have := h6.fin hvu
    rw [HNM.out.1, HNM.out.2.1, HNM.out.2.2] at this; exact this
  have hKD : ∀ q, K q → (putD w wv v.most v.tgt G1 v.pl).heap[q]? = w.heap[q]? ∧ ¬ (m'.own q ∨ q = A) ∧ NotIn q G1 vs1 4 := fun q hq => h6.keepD q hq _ _ _ _
  clear h6 hb6 hHv hSt z0 z1 z2 z3 z4 z5 z6 z7
  have hT9 := hR.1
  obtain ⟨-, p0, p1, p2, p3⟩ := hR
  unfold putD at hT9 p0 p1 p2 p3 hKD
  clear hSw 
  generalize ((((wv.setCell ⟨w.heap.size + 2, 0, none⟩ (.int .i64 (v.most : Int))).setCell ⟨w.heap.size + 2, 1, none⟩ (.int .i64 (v.tgt : Int))).setCell ⟨w.heap.size + 2, 2, none⟩ (.slice (some ⟨G1, 0, none⟩) 4 4)).setCell ⟨w.heap.size + 2, 3, none⟩ (.int .i64 (v.pl : Int))) = w9 at *
  go_wp2_with fail
  (try simp only [Exit.inBlock, Exit.then])
  refine bodyPost_ret (v := .tuple #[.pointer (some ⟨A, 0, none⟩), .agg #[.int .i64 (v.most : Int), .int .i64 (v.tgt : Int), .slice (some ⟨G1, 0, none⟩) 4 4, .int .i64 (v.pl : Int)], .bool true]) (by simp [results, Try.results36, go_sem, p0, p1, p2, p3]) rfl ?_
  exact ⟨A, _, _, G1, _, by rw [HNM.out.1, HNM.out.2.1, HNM.out.2.2], hT9, hKD⟩
set_option maxHeartbeats 1000000 in
set_option maxRecDepth 100000 in
theorem do_touch5 (T : List UInt8) (hT : T.length ≤ maxLen) (hf : v.Fine) (hK : ∀ q, K q → q < w.heap.size ∧ ¬ (m.own q ∨ q = A) ∧ NotIn q G vs 4) (h : Two w0 A P m v v G vs w) :
    Calls Try.prog 36 #[.pointer (some ⟨A, 0, none⟩), .agg #[.int .i64 (v.most : Int), .int .i64 (v.tgt : Int), .slice (some ⟨G, 0, none⟩) 4 4, .int .i64 (v.pl : Int)], .agg #[.int .i64 5, .string (str T)]] w (DoP w0 K w (v.touch (fewL T))) := by
  have hok := hf.ok
  have h1 := Ds.new (a := .int .i64 5) (b := .string (str T)) hK h
  have hact : (((w.alloc (.cells #[.int .i64 (v.most : Int), .int .i64 (v.tgt : Int), .slice (some ⟨G, 0, none⟩) 4 4, .int .i64 (v.pl : Int)] 63)).alloc (.cells #[.int .i64 5, .string (str T)] 68)).alloc (.cells #[.int .i64 0, .int .i64 0, .slice none 0 0, .int .i64 0] 63)).cell? ⟨w.heap.size + 1, 0, none⟩ = some (.int .i64 5) ∧ (((w.alloc (.cells #[.int .i64 (v.most : Int), .int .i64 (v.tgt : Int), .slice (some ⟨G, 0, none⟩) 4 4, .int .i64 (v.pl : Int)] 63)).alloc (.cells #[.int .i64 5, .string (str T)] 68)).alloc (.cells #[.int .i64 0, .int .i64 0, .slice none 0 0, .int .i64 0] 63)).cell? ⟨w.heap.size + 1, 1, none⟩ = some (.string (str T)) := by
    have hb := (Blk.new (w.alloc (.cells #[.int .i64 (v.most : Int), .int .i64 (v.tgt : Int), .slice (some ⟨G, 0, none⟩) 4 4, .int .i64 (v.pl : Int)] 63)) 68 #[.int .i64 5, .string (str T)]).alloc (.cells #[.int .i64 0, .int .i64 0, .slice none 0 0, .int .i64 0] 63)
    rw [show (w.alloc (.cells #[.int .i64 (v.most : Int), .int .i64 (v.tgt : Int), .slice (some ⟨G, 0, none⟩) 4 4, .int .i64 (v.pl : Int)] 63)).heap.size = w.heap.size + 1 by simp] at hb
    exact ⟨hb.cell 0, hb.cell 1⟩
  have hfl := fewL_max T
  have hfw := fun W => fewA_c T hT W
  clear h hK
  go_enter Try.func36, Try.ntmps36
  go_upto_region 1 with (fail)
  generalize ((w.alloc (.cells #[.int .i64 (v.most : Int), .int .i64 (v.tgt : Int), .slice (some ⟨G, 0, none⟩) 4 4, .int .i64 (v.pl : Int)] 63)).alloc (.cells #[.int .i64 5, .string (str T)] 68)).alloc (.cells #[.int .i64 0, .int .i64 0, .slice none 0 0, .int .i64 0] 63) = w1 at *
  obtain ⟨k0, k1⟩ := hact
  generalize hkk : fewL T = k at *
  go_wp2_with fail
  refine (hfw _).mono ?_
  rintro e w' ⟨rfl, rfl⟩
  clear hkk hfw
  obtain ⟨x0, x1, x2, x3, -⟩ := h1.all
  have hvu := (Av.touch_ok hok k).1
  have hnm : (v.touch k).most = v.most ∧ (v.touch k).tgt = v.tgt ∧ (v.touch k).pl = v.pl := by unfold Av.touch; split <;> exact ⟨rfl, rfl, rfl⟩
  have HNM := Lib.hid hnm
  clear hnm
  have fd := rtouch_c (k := k) hf hvu w1 h1.two.d
  go_wp2_with fail
  refine fd.mono ?_
  rintro e w4 ⟨G1, vs1, rfl, hg⟩
  have h4 : Ds w0 K A P m v (v.touch k) G1 vs1 w v G (w4.alloc (.cells #[.int .i64 (v.most : Int), .int .i64 (v.tgt : Int), .slice (some ⟨G1, 0, none⟩) 4 4, .int .i64 (v.pl : Int)] 63)) := (h1.goes hg).onto ((Below.refl _ w4).alloc (Nat.le_refl _) _)
  have hb4 := Blk.new w4 63 #[.int .i64 (v.most : Int), .int .i64 (v.tgt : Int), .slice (some ⟨G1, 0, none⟩) 4 4, .int .i64 (v.pl : Int)]
  have hq4 : ¬ (m.own w4.heap.size ∨ w4.heap.size = A) := fun ho => by
    rcases ho with ho | ho
    · have := (h1.goes hg).two.h.h.lt _ ho; omega
    · have := (h1.goes hg).two.h.lt; omega
  have hq2 : w4.heap.size ≠ w.heap.size + 2 := by have := (h1.goes hg).hi; omega
  clear x0 x1 x2 x3 fd h1 hg k0 k1
  go_upto_region 6 with (fail)
  generalize w4.heap.size = z at *
  generalize w4.alloc (.cells #[.int .i64 (v.most : Int), .int .i64 (v.tgt : Int), .slice (some ⟨G1, 0, none⟩) 4 4, .int .i64 (v.pl : Int)] 63) = w5 at *
  have h5 : Ds w0 K A P m v (v.touch k) G1 vs1 w v G w5.drew := h4.drewN 1
  have hb5 : Blk w5.drew z 63 #[.int .i64 (v.most : Int), .int .i64 (v.tgt : Int), .slice (some ⟨G1, 0, none⟩) 4 4, .int .i64 (v.pl : Int)] := hb4
  have hS5 : w5.drew.cell? ⟨z, 0, none⟩ = some (.int .i64 (v.most : Int)) ∧ w5.drew.cell? ⟨z, 1, none⟩ = some (.int .i64 (v.tgt : Int)) ∧ w5.drew.cell? ⟨z, 2, none⟩ = some (.slice (some ⟨G1, 0, none⟩) 4 4) ∧ w5.drew.cell? ⟨z, 3, none⟩ = some (.int .i64 (v.pl : Int)) := ⟨hb5.cell 0, hb5.cell 1, hb5.cell 2, hb5.cell 3⟩
  have fp := touch_c (k := k) hfl h5.two.h
  clear h4 hb4
  refine region_only 10 #[false, false, false, false, false, false, false, false, false, false] (S := (fun W => W.cell? ⟨z, 0, none⟩ = some (.int .i64 (v.most : Int)) ∧ W.cell? ⟨z, 1, none⟩ = some (.int .i64 (v.tgt : Int)) ∧ W.cell? ⟨z, 2, none⟩ = some (.slice (some ⟨G1, 0, none⟩) 4 4) ∧ W.cell? ⟨z, 3, none⟩ = some (.int .i64 (v.pl : Int)))) rfl rfl (by kernel_rfl) hS5 (fun hSw => ?_)
  refine take_at 0 37 (fuel := 9) ?_ rfl rfl (by kernel_rfl) (by kernel_rfl) (by kernel_rfl) (Or.inl ⟨by rfl, ?_⟩) hSw ?_
  rotate_left
  · intro wx hSx
    (try dsimp only at hSx)
    go_split_ands
    go_simp
    (try with_reducible rfl)
  simp only [List.setIfInBounds_toArray, List.set_cons_zero, List.set_cons_succ]
  refine take_at 1 38 (fuel := 8) ?_ rfl rfl (by kernel_rfl) (by kernel_rfl) (by kernel_rfl) (Or.inl ⟨by rfl, ?_⟩) hSw ?_
  rotate_left
  · intro wx hSx
    (try dsimp only at hSx)
    go_split_ands
    go_simp
    (try with_reducible rfl)
  simp only [List.setIfInBounds_toArray, List.set_cons_zero, List.set_cons_succ]
  refine take_at 2 39 (fuel := 7) ?_ rfl rfl (by kernel_rfl) (by kernel_rfl) (by kernel_rfl) (Or.inl ⟨by rfl, ?_⟩) hSw ?_
  rotate_left
  · intro wx hSx
    (try dsimp only at hSx)
    go_split_ands
    go_simp
    (try with_reducible rfl)
  simp only [List.setIfInBounds_toArray, List.set_cons_zero, List.set_cons_succ]
  refine take_at 3 40 (fuel := 6) ?_ rfl rfl (by kernel_rfl) (by kernel_rfl) (by kernel_rfl) (Or.inl ⟨by rfl, ?_⟩) hSw ?_
  rotate_left
  · intro wx hSx
    (try dsimp only at hSx)
    go_split_ands
    go_simp
    (try with_reducible rfl)
  simp only [List.setIfInBounds_toArray, List.set_cons_zero, List.set_cons_succ]
  refine take_at 5 42 (fuel := 5) ?_ rfl rfl (by kernel_rfl) (by kernel_rfl) (by kernel_rfl) (Or.inl ⟨by rfl, ?_⟩) hSw ?_
  rotate_left
  · intro wx hSx
    (try dsimp only at hSx)
    go_split_ands
    go_simp
    (try with_reducible rfl)
  simp only [List.setIfInBounds_toArray, List.set_cons_zero, List.set_cons_succ]
  refine wpAnyH_ready (fuel := 4) (rs := [4]) (by kernel_rfl) (by simp) (AllReadyH.cons rfl (fun K hK => ?_) AllReadyH.nil)
  go_simp
  refine Calls.mono (fp) ?_
  rintro e wv ⟨rfl, m', hHv, hSt⟩
  have hb6 : Blk wv z 63 #[.int .i64 (v.most : Int), .int .i64 (v.tgt : Int), .slice (some ⟨G1, 0, none⟩) 4 4, .int .i64 (v.pl : Int)] := (hSt.kp.block z hb5.lt hq4).trans hb5
  have h6 := h5.step hvu hHv hSt
  clear h5 hb5 hS5 fp
  obtain ⟨z0, z1, z2, z3, z4, z5, z6, z7⟩ := h6.zero
  refine hK.out _ _ ⟨hb6.cell 0, hb6.cell 1, hb6.cell 2, hb6.cell 3⟩ (fun hSw => ?_)
  clear hK K
  simp only [List.setIfInBounds_toArray, List.set_cons_zero, List.set_cons_succ]
  refine take_at 6 43 (fuel := 3) ?_ rfl rfl (by kernel_rfl) (by kernel_rfl) (by kernel_rfl) (Or.inl ⟨by rfl, ?_⟩) hSw ?_
  rotate_left
  · intro wx hSx
    (try dsimp only at hSx)
    go_split_ands
    go_simp
    (try with_reducible rfl)
  simp only [List.setIfInBounds_toArray, List.set_cons_zero, List.set_cons_succ]
  refine take_at 7 6 (fuel := 2) ?_ rfl rfl (by kernel_rfl) (by kernel_rfl) (by kernel_rfl) (Or.inl ⟨by rfl, ?_⟩) hSw ?_
  rotate_left
  · intro wx hSx
    (try dsimp only at hSx)
    go_split_ands
    go_simp
    (try with_reducible rfl)
  simp only [List.setIfInBounds_toArray, List.set_cons_zero, List.set_cons_succ]
  refine wpAnyH_ready (fuel := 1) (rs := [8]) (by kernel_rfl) (by simp) (AllReadyH.cons rfl (fun K hK => ?_) AllReadyH.nil)
  go_simp
  refine hK.out _ _ ⟨(putD_cell (x := wv) hq2).trans hSw.1, (putD_cell (x := wv) hq2).trans hSw.2.1, (putD_cell (x := wv) hq2).trans hSw.2.2.1, (putD_cell (x := wv) hq2).trans hSw.2.2.2⟩ (fun hSw => ?_)
  clear hK K
  simp only [List.setIfInBounds_toArray, List.set_cons_zero, List.set_cons_succ]
  refine take_at 9 8 (fuel := 0) ?_ rfl rfl (by kernel_rfl) (by kernel_rfl) (by kernel_rfl) (Or.inl ⟨by rfl, ?_⟩) hSw ?_
  rotate_left
  · intro wx hSx
    (try dsimp only at hSx)
    go_split_ands
    go_simp
    (try with_reducible rfl)
  simp only [List.setIfInBounds_toArray, List.set_cons_zero, List.set_cons_succ]
  refine wpAnyH_done (by kernel_rfl) ⟨rfl, ?_⟩ 0
  have hR : Two w0 A P m' (v.touch k) (v.touch k) G1 vs1 (putD w wv v.most v.tgt G1 v.pl) ∧ (putD w wv v.most v.tgt G1 v.pl).cell? ⟨w.heap.size + 2, 0, none⟩ = some (.int .i64 (v.most : Int)) ∧ (putD w wv v.most v.tgt G1 v.pl).cell? ⟨w.heap.size + 2, 1, none⟩ = some (.int .i64 (v.tgt : Int)) ∧ (putD w wv v.most v.tgt G1 v.pl).cell? ⟨w.heap.size + 2, 2, none⟩ = some (.slice (some ⟨G1, 0, none⟩) 4 4) ∧ (putD w wv v.most v.tgt G1 v.pl).cell? ⟨w.heap.size + 2, 3, none⟩ = some (.int .i64 (v.pl : Int)) := by
    have := h6.fin hvu
    rw [HNM.out.1, HNM.out.2.1, HNM.out.2.2] at this; exact this
  have hKD : ∀ q, K q → (putD w wv v.most v.tgt G1 v.pl).heap[q]? = w.heap[q]? ∧ ¬ (m'.own q ∨ q = A) ∧ NotIn q G1 vs1 4 := fun q hq => h6.keepD q hq _ _ _ _
  clear h6 hb6 hHv hSt z0 z1 z2 z3 z4 z5 z6 z7
  have hT9 := hR.1
  obtain ⟨-, p0, p1, p2, p3⟩ := hR
  unfold putD at hT9 p0 p1 p2 p3 hKD
  clear hSw 
  generalize ((((wv.setCell ⟨w.heap.size + 2, 0, none⟩ (.int .i64 (v.most : Int))).setCell ⟨w.heap.size + 2, 1, none⟩ (.int .i64 (v.tgt : Int))).setCell ⟨w.heap.size + 2, 2, none⟩ (.slice (some ⟨G1, 0, none⟩) 4 4)).setCell ⟨w.heap.size + 2, 3, none⟩ (.int .i64 (v.pl : Int))) = w9 at *
  go_wp2_with fail
  (try simp only [Exit.inBlock, Exit.then])
  refine bodyPost_ret (v := .tuple #[.pointer (some ⟨A, 0, none⟩), .agg #[.int .i64 (v.most : Int), .int .i64 (v.tgt : Int), .slice (some ⟨G1, 0, none⟩) 4 4, .int .i64 (v.pl : Int)], .bool true]) (by simp [results, Try.results36, go_sem, p0, p1, p2, p3]) rfl ?_
  exact ⟨A, _, _, G1, _, by rw [HNM.out.1, HNM.out.2.1, HNM.out.2.2], hT9, hKD⟩
set_option maxHeartbeats 1000000 in
set_option maxRecDepth 100000 in
theorem do_remove (T : List UInt8) (hT : T.length ≤ maxLen) (hf : v.Fine) (hK : ∀ q, K q → q < w.heap.size ∧ ¬ (m.own q ∨ q = A) ∧ NotIn q G vs 4) (h : Two w0 A P m v v G vs w) :
    Calls Try.prog 36 #[.pointer (some ⟨A, 0, none⟩), .agg #[.int .i64 (v.most : Int), .int .i64 (v.tgt : Int), .slice (some ⟨G, 0, none⟩) 4 4, .int .i64 (v.pl : Int)], .agg #[.int .i64 6, .string (str T)]] w (DoP w0 K w (v.dr (fewL T))) := by
  have hok := hf.ok
  have h1 := Ds.new (a := .int .i64 6) (b := .string (str T)) hK h
  have hact : (((w.alloc (.cells #[.int .i64 (v.most : Int), .int .i64 (v.tgt : Int), .slice (some ⟨G, 0, none⟩) 4 4, .int .i64 (v.pl : Int)] 63)).alloc (.cells #[.int .i64 6, .string (str T)] 68)).alloc (.cells #[.int .i64 0, .int .i64 0, .slice none 0 0, .int .i64 0] 63)).cell? ⟨w.heap.size + 1, 0, none⟩ = some (.int .i64 6) ∧ (((w.alloc (.cells #[.int .i64 (v.most : Int), .int .i64 (v.tgt : Int), .slice (some ⟨G, 0, none⟩) 4 4, .int .i64 (v.pl : Int)] 63)).alloc (.cells #[.int .i64 6, .string (str T)] 68)).alloc (.cells #[.int .i64 0, .int .i64 0, .slice none 0 0, .int .i64 0] 63)).cell? ⟨w.heap.size + 1, 1, none⟩ = some (.string (str T)) := by
    have hb := (Blk.new (w.alloc (.cells #[.int .i64 (v.most : Int), .int .i64 (v.tgt : Int), .slice (some ⟨G, 0, none⟩) 4 4, .int .i64 (v.pl : Int)] 63)) 68 #[.int .i64 6, .string (str T)]).alloc (.cells #[.int .i64 0, .int .i64 0, .slice none 0 0, .int .i64 0] 63)
    rw [show (w.alloc (.cells #[.int .i64 (v.most : Int), .int .i64 (v.tgt : Int), .slice (some ⟨G, 0, none⟩) 4 4, .int .i64 (v.pl : Int)] 63)).heap.size = w.heap.size + 1 by simp] at hb
    exact ⟨hb.cell 0, hb.cell 1⟩
  have hfl := fewL_max T
  have hfw := fun W => fewA_c T hT W
  clear h hK
  go_enter Try.func36, Try.ntmps36
  go_upto_region 1 with (fail)
  generalize ((w.alloc (.cells #[.int .i64 (v.most : Int), .int .i64 (v.tgt : Int), .slice (some ⟨G, 0, none⟩) 4 4, .int .i64 (v.pl : Int)] 63)).alloc (.cells #[.int .i64 6, .string (str T)] 68)).alloc (.cells #[.int .i64 0, .int .i64 0, .slice none 0 0, .int .i64 0] 63) = w1 at *
  obtain ⟨k0, k1⟩ := hact
  generalize hkk : fewL T = k at *
  go_wp2_with fail
  refine (hfw _).mono ?_
  rintro e w' ⟨rfl, rfl⟩
  clear hkk hfw
  obtain ⟨x0, x1, x2, x3, -⟩ := h1.all
  have hvu := hok.dr k
  have fd := rremove_c (k := k) hf w1 h1.two.d
  go_wp2_with fail
  refine fd.mono ?_
  rintro e w4 ⟨G1, vs1, rfl, hg⟩
  have h4 : Ds w0 K A P m v (v.dr k) G1 vs1 w v G (w4.alloc (.cells #[.int .i64 (v.most : Int), .int .i64 (v.tgt : Int), .slice (some ⟨G1, 0, none⟩) 4 4, .int .i64 (v.pl : Int)] 63)) := (h1.goes hg).onto ((Below.refl _ w4).alloc (Nat.le_refl _) _)
  have hb4 := Blk.new w4 63 #[.int .i64 (v.most : Int), .int .i64 (v.tgt : Int), .slice (some ⟨G1, 0, none⟩) 4 4, .int .i64 (v.pl : Int)]
  have hq4 : ¬ (m.own w4.heap.size ∨ w4.heap.size = A) := fun ho => by
    rcases ho with ho | ho
    · have := (h1.goes hg).two.h.h.lt _ ho; omega
    · have := (h1.goes hg).two.h.lt; omega
  have hq2 : w4.heap.size ≠ w.heap.size + 2 := by have := (h1.goes hg).hi; omega
  clear x0 x1 x2 x3 fd h1 hg k0 k1
  go_upto_region 9 with (fail)
  generalize w4.heap.size = z at *
  generalize w4.alloc (.cells #[.int .i64 (v.most : Int), .int .i64 (v.tgt : Int), .slice (some ⟨G1, 0, none⟩) 4 4, .int .i64 (v.pl : Int)] 63) = w5 at *
  have h5 : Ds w0 K A P m v (v.dr k) G1 vs1 w v G w5.drew := h4.drewN 1
  have hb5 : Blk w5.drew z 63 #[.int .i64 (v.most : Int), .int .i64 (v.tgt : Int), .slice (some ⟨G1, 0, none⟩) 4 4, .int .i64 (v.pl : Int)] := hb4
  have hS5 : w5.drew.cell? ⟨z, 0, none⟩ = some (.int .i64 (v.most : Int)) ∧ w5.drew.cell? ⟨z, 1, none⟩ = some (.int .i64 (v.tgt : Int)) ∧ w5.drew.cell? ⟨z, 2, none⟩ = some (.slice (some ⟨G1, 0, none⟩) 4 4) ∧ w5.drew.cell? ⟨z, 3, none⟩ = some (.int .i64 (v.pl : Int)) := ⟨hb5.cell 0, hb5.cell 1, hb5.cell 2, hb5.cell 3⟩
  have fp := remove_c (k := k) hfl h5.two.h
  clear h4 hb4
  refine region_only 10 #[false, false, false, false, false, false, false, false, false, false] (S := (fun W => W.cell? ⟨z, 0, none⟩ = some (.int .i64 (v.most : Int)) ∧ W.cell? ⟨z, 1, none⟩ = some (.int .i64 (v.tgt : Int)) ∧ W.cell? ⟨z, 2, none⟩ = some (.slice (some ⟨G1, 0, none⟩) 4 4) ∧ W.cell? ⟨z, 3, none⟩ = some (.int .i64 (v.pl : Int)))) rfl rfl (by kernel_rfl) hS5 (fun hSw => ?_)
  refine take_at 0 52 (fuel := 9) ?_ rfl rfl (by kernel_rfl) (by kernel_rfl) (by kernel_rfl) (Or.inl ⟨by rfl, ?_⟩) hSw ?_
  rotate_left
  · intro wx hSx
    (try dsimp only at hSx)
    go_split_ands
    go_simp
    (try with_reducible rfl)
  simp only [List.setIfInBounds_toArray, List.set_cons_zero, List.set_cons_succ]
  refine take_at 1 53 (fuel := 8) ?_ rfl rfl (by kernel_rfl) (by kernel_rfl) (by kernel_rfl) (Or.inl ⟨by rfl, ?_⟩) hSw ?_
  rotate_left
  · intro wx hSx
    (try dsimp only at hSx)
    go_split_ands
    go_simp
    (try with_reducible rfl)
  simp only [List.setIfInBounds_toArray, List.set_cons_zero, List.set_cons_succ]
  refine take_at 2 54 (fuel := 7) ?_ rfl rfl (by kernel_rfl) (by kernel_rfl) (by kernel_rfl) (Or.inl ⟨by rfl, ?_⟩) hSw ?_
  rotate_left
  · intro wx hSx
    (try dsimp only at hSx)
    go_split_ands
    go_simp
    (try with_reducible rfl)
  simp only [List.setIfInBounds_toArray, List.set_cons_zero, List.set_cons_succ]
  refine take_at 3 55 (fuel := 6) ?_ rfl rfl (by kernel_rfl) (by kernel_rfl) (by kernel_rfl) (Or.inl ⟨by rfl, ?_⟩) hSw ?_
  rotate_left
  · intro wx hSx
    (try dsimp only at hSx)
    go_split_ands
    go_simp
    (try with_reducible rfl)
  simp only [List.setIfInBounds_toArray, List.set_cons_zero, List.set_cons_succ]
  refine take_at 5 57 (fuel := 5) ?_ rfl rfl (by kernel_rfl) (by kernel_rfl) (by kernel_rfl) (Or.inl ⟨by rfl, ?_⟩) hSw ?_
  rotate_left
  · intro wx hSx
    (try dsimp only at hSx)
    go_split_ands
    go_simp
    (try with_reducible rfl)
  simp only [List.setIfInBounds_toArray, List.set_cons_zero, List.set_cons_succ]
  refine wpAnyH_ready (fuel := 4) (rs := [4]) (by kernel_rfl) (by simp) (AllReadyH.cons rfl (fun K hK => ?_) AllReadyH.nil)
  go_simp
  refine Calls.mono (fp) ?_
  rintro e wv ⟨rfl, m', hHv, hSt⟩
  have hb6 : Blk wv z 63 #[.int .i64 (v.most : Int), .int .i64 (v.tgt : Int), .slice (some ⟨G1, 0, none⟩) 4 4, .int .i64 (v.pl : Int)] := (hSt.kp.block z hb5.lt hq4).trans hb5
  have h6 := h5.step hvu hHv hSt
  clear h5 hb5 hS5 fp
  obtain ⟨z0, z1, z2, z3, z4, z5, z6, z7⟩ := h6.zero
  refine hK.out _ _ ⟨hb6.cell 0, hb6.cell 1, hb6.cell 2, hb6.cell 3⟩ (fun hSw => ?_)
  clear hK K
  simp only [List.setIfInBounds_toArray, List.set_cons_zero, List.set_cons_succ]
  refine take_at 6 58 (fuel := 3) ?_ rfl rfl (by kernel_rfl) (by kernel_rfl) (by kernel_rfl) (Or.inl ⟨by rfl, ?_⟩) hSw ?_
  rotate_left
  · intro wx hSx
    (try dsimp only at hSx)
    go_split_ands
    go_simp
    (try with_reducible rfl)
  simp only [List.setIfInBounds_toArray, List.set_cons_zero, List.set_cons_succ]
  refine take_at 7 6 (fuel := 2) ?_ rfl rfl (by kernel_rfl) (by kernel_rfl) (by kernel_rfl) (Or.inl ⟨by rfl, ?_⟩) hSw ?_
  rotate_left
  · intro wx hSx
    (try dsimp only at hSx)
    go_split_ands
    go_simp
    (try with_reducible rfl)
  simp only [List.setIfInBounds_toArray, List.set_cons_zero, List.set_cons_succ]
  refine wpAnyH_ready (fuel := 1) (rs := [8]) (by kernel_rfl) (by simp) (AllReadyH.cons rfl (fun K hK => ?_) AllReadyH.nil)
  go_simp
  refine hK.out _ _ ⟨(putD_cell (x := wv) hq2).trans hSw.1, (putD_cell (x := wv) hq2).trans hSw.2.1, (putD_cell (x := wv) hq2).trans hSw.2.2.1, (putD_cell (x := wv) hq2).trans hSw.2.2.2⟩ (fun hSw => ?_)
  clear hK K
  simp only [List.setIfInBounds_toArray, List.set_cons_zero, List.set_cons_succ]
  refine take_at 9 8 (fuel := 0) ?_ rfl rfl (by kernel_rfl) (by kernel_rfl) (by kernel_rfl) (Or.inl ⟨by rfl, ?_⟩) hSw ?_
  rotate_left
  · intro wx hSx
    (try dsimp only at hSx)
    go_split_ands
    go_simp
    (try with_reducible rfl)
  simp only [List.setIfInBounds_toArray, List.set_cons_zero, List.set_cons_succ]
  refine wpAnyH_done (by kernel_rfl) ⟨rfl, ?_⟩ 0
  have hR : Two w0 A P m' (v.dr k) (v.dr k) G1 vs1 (putD w wv v.most v.tgt G1 v.pl) ∧ (putD w wv v.most v.tgt G1 v.pl).cell? ⟨w.heap.size + 2, 0, none⟩ = some (.int .i64 (v.most : Int)) ∧ (putD w wv v.most v.tgt G1 v.pl).cell? ⟨w.heap.size + 2, 1, none⟩ = some (.int .i64 (v.tgt : Int)) ∧ (putD w wv v.most v.tgt G1 v.pl).cell? ⟨w.heap.size + 2, 2, none⟩ = some (.slice (some ⟨G1, 0, none⟩) 4 4) ∧ (putD w wv v.most v.tgt G1 v.pl).cell? ⟨w.heap.size + 2, 3, none⟩ = some (.int .i64 (v.pl : Int)) := by
    have := h6.fin hvu
    exact this
  have hKD : ∀ q, K q → (putD w wv v.most v.tgt G1 v.pl).heap[q]? = w.heap[q]? ∧ ¬ (m'.own q ∨ q = A) ∧ NotIn q G1 vs1 4 := fun q hq => h6.keepD q hq _ _ _ _
  clear h6 hb6 hHv hSt z0 z1 z2 z3 z4 z5 z6 z7
  have hT9 := hR.1
  obtain ⟨-, p0, p1, p2, p3⟩ := hR
  unfold putD at hT9 p0 p1 p2 p3 hKD
  clear hSw 
  generalize ((((wv.setCell ⟨w.heap.size + 2, 0, none⟩ (.int .i64 (v.most : Int))).setCell ⟨w.heap.size + 2, 1, none⟩ (.int .i64 (v.tgt : Int))).setCell ⟨w.heap.size + 2, 2, none⟩ (.slice (some ⟨G1, 0, none⟩) 4 4)).setCell ⟨w.heap.size + 2, 3, none⟩ (.int .i64 (v.pl : Int))) = w9 at *
  go_wp2_with fail
  (try simp only [Exit.inBlock, Exit.then])
  refine bodyPost_ret (v := .tuple #[.pointer (some ⟨A, 0, none⟩), .agg #[.int .i64 (v.most : Int), .int .i64 (v.tgt : Int), .slice (some ⟨G1, 0, none⟩) 4 4, .int .i64 (v.pl : Int)], .bool true]) (by simp [results, Try.results36, go_sem, p0, p1, p2, p3]) rfl ?_
  exact ⟨A, _, _, G1, _, by rfl, hT9, hKD⟩
end
end Go.Proofs.Ytfhlnidjneaieaa.Arcy

namespace Go.Proofs.Ytfhlnidjneaieaa.Arcy
open Go.ChangeShapes Go.WideShapes Go.ChangeAt Go.RowKit Go.Shelf
open Wirey (Blk Row str str_size str_list str_cat Kp)
open Ringy Go.ChangeMaps Go.Maps

section
variable {w0 w x y : World} {K : Nat → Prop} {A P : Nat} {m m' : Rm} {v v' u u' v0 : Av} {G G' G0 : Nat} {vs vs' : Nat → Value} {k : Key}
set_option maxHeartbeats 1000000 in
set_option maxRecDepth 100000 in
theorem do_read (T : List UInt8) (hT : T.length ≤ maxLen) (hf : v.Fine) (hK : ∀ q, K q → q < w.heap.size ∧ ¬ (m.own q ∨ q = A) ∧ NotIn q G vs 4) (h : Two w0 A P m v v G vs w) :
    Calls Try.prog 36 #[.pointer (some ⟨A, 0, none⟩), .agg #[.int .i64 (v.most : Int), .int .i64 (v.tgt : Int), .slice (some ⟨G, 0, none⟩) 4 4, .int .i64 (v.pl : Int)], .agg #[.int .i64 8, .string (str T)]] w (DoP w0 K w v) := by
  have hok := hf.ok
  have h1 := Ds.new (a := .int .i64 8) (b := .string (str T)) hK h
  have hact : (((w.alloc (.cells #[.int .i64 (v.most : Int), .int .i64 (v.tgt : Int), .slice (some ⟨G, 0, none⟩) 4 4, .int .i64 (v.pl : Int)] 63)).alloc (.cells #[.int .i64 8, .string (str T)] 68)).alloc (.cells #[.int .i64 0, .int .i64 0, .slice none 0 0, .int .i64 0] 63)).cell? ⟨w.heap.size + 1, 0, none⟩ = some (.int .i64 8) ∧ (((w.alloc (.cells #[.int .i64 (v.most : Int), .int .i64 (v.tgt : Int), .slice (some ⟨G, 0, none⟩) 4 4, .int .i64 (v.pl : Int)] 63)).alloc (.cells #[.int .i64 8, .string (str T)] 68)).alloc (.cells #[.int .i64 0, .int .i64 0, .slice none 0 0, .int .i64 0] 63)).cell? ⟨w.heap.size + 1, 1, none⟩ = some (.string (str T)) := by
    have hb := (Blk.new (w.alloc (.cells #[.int .i64 (v.most : Int), .int .i64 (v.tgt : Int), .slice (some ⟨G, 0, none⟩) 4 4, .int .i64 (v.pl : Int)] 63)) 68 #[.int .i64 8, .string (str T)]).alloc (.cells #[.int .i64 0, .int .i64 0, .slice none 0 0, .int .i64 0] 63)
    rw [show (w.alloc (.cells #[.int .i64 (v.most : Int), .int .i64 (v.tgt : Int), .slice (some ⟨G, 0, none⟩) 4 4, .int .i64 (v.pl : Int)] 63)).heap.size = w.heap.size + 1 by simp] at hb
    exact ⟨hb.cell 0, hb.cell 1⟩
  have hfl := fewL_max T
  have hfw := fun W => fewA_c T hT W
  clear h hK
  go_enter Try.func36, Try.ntmps36
  go_upto_region 1 with (fail)
  generalize ((w.alloc (.cells #[.int .i64 (v.most : Int), .int .i64 (v.tgt : Int), .slice (some ⟨G, 0, none⟩) 4 4, .int .i64 (v.pl : Int)] 63)).alloc (.cells #[.int .i64 8, .string (str T)] 68)).alloc (.cells #[.int .i64 0, .int .i64 0, .slice none 0 0, .int .i64 0] 63) = w1 at *
  obtain ⟨k0, k1⟩ := hact
  generalize hkk : fewL T = k at *
  go_wp2_with fail
  refine (hfw _).mono ?_
  rintro e w' ⟨rfl, rfl⟩
  clear hkk hfw
  obtain ⟨x0, x1, x2, x3, -⟩ := h1.all
  have fe := fun W (h : HeldA w0 A P W m v) => expA_c h
  have fi := fun W => importA_c hok W
  have fp := fun W (h : Dat W v G vs) => rput7_c hok W h
  clear hfl
  go_wp2_with fail
  refine (fe _ h1.two.h).mono ?_
  rintro e w3 ⟨rfl, hB⟩
  have h3 := h1.onto hB.b
  clear hB h1 x0 x1 x2 x3 k0 k1
  go_wp2_with fail
  refine (fi _).mono ?_
  rintro e w4 ⟨A', m', rfl, hAt, hbx, hown, hlo, hno, hbl⟩
  have h4o := h3.onto hbl
  have h4n := h3.turn hok hbl hAt hbx hown hlo hno hok
  clear h3 hAt hbx hown hlo hno hbl fi
  go_upto_region 16 with (fail)
  have h5o : Ds w0 K A P m v v G vs w v G w4.drew := h4o.drewN 1
  have h5n : Ds w0 K A' m'.R m' v v G vs w v G w4.drew := h4n.drewN 1
  have hS5 : w4.drew.cell? ⟨w.heap.size, 0, none⟩ = some (.int .i64 (v.most : Int)) ∧ w4.drew.cell? ⟨w.heap.size, 1, none⟩ = some (.int .i64 (v.tgt : Int)) ∧ w4.drew.cell? ⟨w.heap.size, 2, none⟩ = some (.slice (some ⟨G, 0, none⟩) 4 4) ∧ w4.drew.cell? ⟨w.heap.size, 3, none⟩ = some (.int .i64 (v.pl : Int)) := ⟨h5o.box.cell 0, h5o.box.cell 1, h5o.box.cell 2, h5o.box.cell 3⟩
  have hq2 : w.heap.size ≠ w.heap.size + 2 := by omega
  have fe5 := fe _ h5o.two.h
  clear h4o h4n fe
  refine region_only 14 #[false, false, false, false, false, false, false, false, false, false, false, false, false, false] (S := (fun W => W.cell? ⟨w.heap.size, 0, none⟩ = some (.int .i64 (v.most : Int)) ∧ W.cell? ⟨w.heap.size, 1, none⟩ = some (.int .i64 (v.tgt : Int)) ∧ W.cell? ⟨w.heap.size, 2, none⟩ = some (.slice (some ⟨G, 0, none⟩) 4 4) ∧ W.cell? ⟨w.heap.size, 3, none⟩ = some (.int .i64 (v.pl : Int)))) rfl rfl (by kernel_rfl) hS5 (fun hSw => ?_)
  refine take_at 0 90 (fuel := 13) ?_ rfl rfl (by kernel_rfl) (by kernel_rfl) (by kernel_rfl) (Or.inl ⟨by rfl, ?_⟩) hSw ?_
  rotate_left
  · intro wx hSx
    (try dsimp only at hSx)
    go_split_ands
    go_simp
    (try with_reducible rfl)
  simp only [List.setIfInBounds_toArray, List.set_cons_zero, List.set_cons_succ]
  refine take_at 1 91 (fuel := 12) ?_ rfl rfl (by kernel_rfl) (by kernel_rfl) (by kernel_rfl) (Or.inl ⟨by rfl, ?_⟩) hSw ?_
  rotate_left
  · intro wx hSx
    (try dsimp only at hSx)
    go_split_ands
    go_simp
    (try with_reducible rfl)
  simp only [List.setIfInBounds_toArray, List.set_cons_zero, List.set_cons_succ]
  refine take_at 2 92 (fuel := 11) ?_ rfl rfl (by kernel_rfl) (by kernel_rfl) (by kernel_rfl) (Or.inl ⟨by rfl, ?_⟩) hSw ?_
  rotate_left
  · intro wx hSx
    (try dsimp only at hSx)
    go_split_ands
    go_simp
    (try with_reducible rfl)
  simp only [List.setIfInBounds_toArray, List.set_cons_zero, List.set_cons_succ]
  refine take_at 3 93 (fuel := 10) ?_ rfl rfl (by kernel_rfl) (by kernel_rfl) (by kernel_rfl) (Or.inl ⟨by rfl, ?_⟩) hSw ?_
  rotate_left
  · intro wx hSx
    (try dsimp only at hSx)
    go_split_ands
    go_simp
    (try with_reducible rfl)
  simp only [List.setIfInBounds_toArray, List.set_cons_zero, List.set_cons_succ]
  refine take_at 4 94 (fuel := 9) ?_ rfl rfl (by kernel_rfl) (by kernel_rfl) (by kernel_rfl) (Or.inl ⟨by rfl, ?_⟩) hSw ?_
  rotate_left
  · intro wx hSx
    (try dsimp only at hSx)
    go_split_ands
    go_simp
    (try with_reducible rfl)
  simp only [List.setIfInBounds_toArray, List.set_cons_zero, List.set_cons_succ]
  refine take_at 5 95 (fuel := 8) ?_ rfl rfl (by kernel_rfl) (by kernel_rfl) (by kernel_rfl) (Or.inl ⟨by rfl, ?_⟩) hSw ?_
  rotate_left
  · intro wx hSx
    (try dsimp only at hSx)
    go_split_ands
    go_simp
    (try with_reducible rfl)
  simp only [List.setIfInBounds_toArray, List.set_cons_zero, List.set_cons_succ]
  refine take_at 7 97 (fuel := 7) ?_ rfl rfl (by kernel_rfl) (by kernel_rfl) (by kernel_rfl) (Or.inl ⟨by rfl, ?_⟩) hSw ?_
  rotate_left
  · intro wx hSx
    (try dsimp only at hSx)
    go_split_ands
    go_simp
    (try with_reducible rfl)
  simp only [List.setIfInBounds_toArray, List.set_cons_zero, List.set_cons_succ]
  refine wpAnyH_ready (fuel := 6) (rs := [6]) (by kernel_rfl) (by simp) (AllReadyH.cons rfl (fun K hK => ?_) AllReadyH.nil)
  go_simp
  refine Calls.mono (fe5) ?_
  rintro e wv ⟨rfl, hB6⟩
  have h6o := h5o.onto hB6.b
  have h6n := h5n.onto hB6.b
  have fp6 := fp _ h6o.two.d
  clear h5o h5n fe5 hB6 hS5 fp
  refine hK.out _ _ ⟨h6o.box.cell 0, h6o.box.cell 1, h6o.box.cell 2, h6o.box.cell 3⟩ (fun hSw => ?_)
  clear hK K
  simp only [List.setIfInBounds_toArray, List.set_cons_zero, List.set_cons_succ]
  refine wpAnyH_ready (fuel := 5) (rs := [8]) (by kernel_rfl) (by simp) (AllReadyH.cons rfl (fun K hK => ?_) AllReadyH.nil)
  go_simp
  refine Calls.mono (fp6) ?_
  rintro e wy ⟨rfl, hb7⟩
  have h7n := h6n.onto hb7
  clear h6o h6n fp6 hb7
  obtain ⟨z0, z1, z2, z3, z4, z5, z6, z7⟩ := h7n.zero
  refine hK.out _ _ ⟨h7n.box.cell 0, h7n.box.cell 1, h7n.box.cell 2, h7n.box.cell 3⟩ (fun hSw => ?_)
  clear hK K
  simp only [List.setIfInBounds_toArray, List.set_cons_zero, List.set_cons_succ]
  refine take_at 9 99 (fuel := 4) ?_ rfl rfl (by kernel_rfl) (by kernel_rfl) (by kernel_rfl) (Or.inl ⟨by rfl, ?_⟩) hSw ?_
  rotate_left
  · intro wx hSx
    (try dsimp only at hSx)
    go_split_ands
    go_simp
    (try with_reducible rfl)
  simp only [List.setIfInBounds_toArray, List.set_cons_zero, List.set_cons_succ]
  refine take_at 10 100 (fuel := 3) ?_ rfl rfl (by kernel_rfl) (by kernel_rfl) (by kernel_rfl) (Or.inl ⟨by rfl, ?_⟩) hSw ?_
  rotate_left
  · intro wx hSx
    (try dsimp only at hSx)
    go_split_ands
    go_simp
    (try with_reducible rfl)
  simp only [List.setIfInBounds_toArray, List.set_cons_zero, List.set_cons_succ]
  refine take_at 11 6 (fuel := 2) ?_ rfl rfl (by kernel_rfl) (by kernel_rfl) (by kernel_rfl) (Or.inl ⟨by rfl, ?_⟩) hSw ?_
  rotate_left
  · intro wx hSx
    (try dsimp only at hSx)
    go_split_ands
    go_simp
    (try with_reducible rfl)
  simp only [List.setIfInBounds_toArray, List.set_cons_zero, List.set_cons_succ]
  refine wpAnyH_ready (fuel := 1) (rs := [12]) (by kernel_rfl) (by simp) (AllReadyH.cons rfl (fun K hK => ?_) AllReadyH.nil)
  go_simp
  refine hK.out _ _ ⟨(putD_cell (x := wy) hq2).trans hSw.1, (putD_cell (x := wy) hq2).trans hSw.2.1, (putD_cell (x := wy) hq2).trans hSw.2.2.1, (putD_cell (x := wy) hq2).trans hSw.2.2.2⟩ (fun hSw => ?_)
  clear hK K
  simp only [List.setIfInBounds_toArray, List.set_cons_zero, List.set_cons_succ]
  refine take_at 13 8 (fuel := 0) ?_ rfl rfl (by kernel_rfl) (by kernel_rfl) (by kernel_rfl) (Or.inl ⟨by rfl, ?_⟩) hSw ?_
  rotate_left
  · intro wx hSx
    (try dsimp only at hSx)
    go_split_ands
    go_simp
    (try with_reducible rfl)
  simp only [List.setIfInBounds_toArray, List.set_cons_zero, List.set_cons_succ]
  refine wpAnyH_done (by kernel_rfl) ⟨rfl, ?_⟩ 0
  have hR := h7n.fin hok
  have hKD : ∀ q, K q → (putD w wy v.most v.tgt G v.pl).heap[q]? = w.heap[q]? ∧ ¬ (m'.own q ∨ q = A') ∧ NotIn q G vs 4 := fun q hq => h7n.keepD q hq _ _ _ _
  clear h7n z0 z1 z2 z3 z4 z5 z6 z7
  have hT9 := hR.1
  obtain ⟨-, p0, p1, p2, p3⟩ := hR
  unfold putD at hT9 p0 p1 p2 p3 hKD
  clear hSw 
  generalize ((((wy.setCell ⟨w.heap.size + 2, 0, none⟩ (.int .i64 (v.most : Int))).setCell ⟨w.heap.size + 2, 1, none⟩ (.int .i64 (v.tgt : Int))).setCell ⟨w.heap.size + 2, 2, none⟩ (.slice (some ⟨G, 0, none⟩) 4 4)).setCell ⟨w.heap.size + 2, 3, none⟩ (.int .i64 (v.pl : Int))) = w9 at *
  go_wp2_with fail
  (try simp only [Exit.inBlock, Exit.then])
  refine bodyPost_ret (v := .tuple #[.pointer (some ⟨A', 0, none⟩), .agg #[.int .i64 (v.most : Int), .int .i64 (v.tgt : Int), .slice (some ⟨G, 0, none⟩) 4 4, .int .i64 (v.pl : Int)], .bool true]) (by simp [results, Try.results36, go_sem, p0, p1, p2, p3]) rfl ?_
  exact ⟨A', _, _, G, _, by rfl, hT9, hKD⟩
set_option maxHeartbeats 1000000 in
set_option maxRecDepth 100000 in
theorem do_insert (T : List UInt8) (hT : T.length ≤ maxLen) (q : Int) (b4 : (q == 4) = false) (b5 : (q == 5) = false) (b6 : (q == 6) = false) (b7 : (q == 7) = false) (b8 : (q == 8) = false) (hf : v.Fine) (hK : ∀ q, K q → q < w.heap.size ∧ ¬ (m.own q ∨ q = A) ∧ NotIn q G vs 4) (h : Two w0 A P m v v G vs w) :
    Calls Try.prog 36 #[.pointer (some ⟨A, 0, none⟩), .agg #[.int .i64 (v.most : Int), .int .i64 (v.tgt : Int), .slice (some ⟨G, 0, none⟩) 4 4, .int .i64 (v.pl : Int)], .agg #[.int .i64 q, .string (str T)]] w (DoP w0 K w (v.insert (fewL T))) := by
  have hok := hf.ok
  have h1 := Ds.new (a := .int .i64 q) (b := .string (str T)) hK h
  have hact : (((w.alloc (.cells #[.int .i64 (v.most : Int), .int .i64 (v.tgt : Int), .slice (some ⟨G, 0, none⟩) 4 4, .int .i64 (v.pl : Int)] 63)).alloc (.cells #[.int .i64 q, .string (str T)] 68)).alloc (.cells #[.int .i64 0, .int .i64 0, .slice none 0 0, .int .i64 0] 63)).cell? ⟨w.heap.size + 1, 0, none⟩ = some (.int .i64 q) ∧ (((w.alloc (.cells #[.int .i64 (v.most : Int), .int .i64 (v.tgt : Int), .slice (some ⟨G, 0, none⟩) 4 4, .int .i64 (v.pl : Int)] 63)).alloc (.cells #[.int .i64 q, .string (str T)] 68)).alloc (.cells #[.int .i64 0, .int .i64 0, .slice none 0 0, .int .i64 0] 63)).cell? ⟨w.heap.size + 1, 1, none⟩ = some (.string (str T)) := by
    have hb := (Blk.new (w.alloc (.cells #[.int .i64 (v.most : Int), .int .i64 (v.tgt : Int), .slice (some ⟨G, 0, none⟩) 4 4, .int .i64 (v.pl : Int)] 63)) 68 #[.int .i64 q, .string (str T)]).alloc (.cells #[.int .i64 0, .int .i64 0, .slice none 0 0, .int .i64 0] 63)
    rw [show (w.alloc (.cells #[.int .i64 (v.most : Int), .int .i64 (v.tgt : Int), .slice (some ⟨G, 0, none⟩) 4 4, .int .i64 (v.pl : Int)] 63)).heap.size = w.heap.size + 1 by simp] at hb
    exact ⟨hb.cell 0, hb.cell 1⟩
  have hfl := fewL_max T
  have hfw := fun W => fewA_c T hT W
  clear h hK
  go_enter Try.func36, Try.ntmps36
  go_upto_region 1 with (fail)
  generalize ((w.alloc (.cells #[.int .i64 (v.most : Int), .int .i64 (v.tgt : Int), .slice (some ⟨G, 0, none⟩) 4 4, .int .i64 (v.pl : Int)] 63)).alloc (.cells #[.int .i64 q, .string (str T)] 68)).alloc (.cells #[.int .i64 0, .int .i64 0, .slice none 0 0, .int .i64 0] 63) = w1 at *
  obtain ⟨k0, k1⟩ := hact
  generalize hkk : fewL T = k at *
  go_wp2_with fail
  refine (hfw _).mono ?_
  rintro e w' ⟨rfl, rfl⟩
  clear hkk hfw
  obtain ⟨x0, x1, x2, x3, -⟩ := h1.all
  have hvu := (hf.insert k).ok
  have hgl : (v.insertK k).length ≤ 1 := by
    unfold Av.insertK
    split
    · exact Nat.zero_le _
    · exact (Av.ins_spec hok (k := k) (by omega)).glen
  have fd := rinsert_c (k := k) hfl hf w1 h1.two.d
  go_wp2_with fail
  refine fd.mono ?_
  rintro e w4 ⟨G1, vs1, val, rfl, hg, hrow⟩
  have h3 := h1.goes hg
  have hrn : ∀ b, val.ownBlock = some b → ¬ (m.own b ∨ b = A) := fun b hb ho => by
    have h9 := (hrow.lt b hb).1
    rcases ho with ho | ho
    · have := h1.two.h.h.lt _ ho; omega
    · have := h1.two.h.lt; omega
  have fi := fun W (h : HeldA w0 A P W m v) => insert_c (k := k) hfl h
  generalize v.insert k = u at *
  generalize v.insertK k = LK at *
  have h4 : Ds w0 K A P m v u G1 vs1 w v G (w4.alloc (.cells #[.int .i64 (u.most : Int), .int .i64 (u.tgt : Int), .slice (some ⟨G1, 0, none⟩) 4 4, .int .i64 (u.pl : Int)] 63)) := h3.onto ((Below.refl _ w4).alloc (Nat.le_refl _) _)
  have hrow4 := ownsRow_stay (w' := (w4.alloc (.cells #[.int .i64 (u.most : Int), .int .i64 (u.tgt : Int), .slice (some ⟨G1, 0, none⟩) 4 4, .int .i64 (u.pl : Int)] 63)).drew) hrow fun b hb => Below.heap_alloc w4 _ b (hrow.lt b hb).2
  have hb4 := Blk.new w4 63 #[.int .i64 (u.most : Int), .int .i64 (u.tgt : Int), .slice (some ⟨G1, 0, none⟩) 4 4, .int .i64 (u.pl : Int)]
  have hq4 : ¬ (m.own w4.heap.size ∨ w4.heap.size = A) := fun ho => by
    rcases ho with ho | ho
    · have := h3.two.h.h.lt _ ho; omega
    · have := h3.two.h.lt; omega
  have hq2 : w4.heap.size ≠ w.heap.size + 2 := by have := h3.hi; omega
  clear x0 x1 x2 x3 fd h1 hg k0 k1 hrow h3
  go_upto_region 18 with (fail)
  generalize w4.heap.size = z at *
  generalize w4.alloc (.cells #[.int .i64 (u.most : Int), .int .i64 (u.tgt : Int), .slice (some ⟨G1, 0, none⟩) 4 4, .int .i64 (u.pl : Int)] 63) = w5 at *
  have h5 : Ds w0 K A P m v u G1 vs1 w v G w5.drew := h4.drewN 1
  have hb5 : Blk w5.drew z 63 #[.int .i64 (u.most : Int), .int .i64 (u.tgt : Int), .slice (some ⟨G1, 0, none⟩) 4 4, .int .i64 (u.pl : Int)] := hb4
  have hS5 : w5.drew.cell? ⟨z, 0, none⟩ = some (.int .i64 (u.most : Int)) ∧ w5.drew.cell? ⟨z, 1, none⟩ = some (.int .i64 (u.tgt : Int)) ∧ w5.drew.cell? ⟨z, 2, none⟩ = some (.slice (some ⟨G1, 0, none⟩) 4 4) ∧ w5.drew.cell? ⟨z, 3, none⟩ = some (.int .i64 (u.pl : Int)) := ⟨hb5.cell 0, hb5.cell 1, hb5.cell 2, hb5.cell 3⟩
  have fp := fi _ h5.two.h
  clear h4 hb4 fi
  refine region_only 10 #[false, false, false, false, false, false, false, false, false, false] (S := (fun W => W.cell? ⟨z, 0, none⟩ = some (.int .i64 (u.most : Int)) ∧ W.cell? ⟨z, 1, none⟩ = some (.int .i64 (u.tgt : Int)) ∧ W.cell? ⟨z, 2, none⟩ = some (.slice (some ⟨G1, 0, none⟩) 4 4) ∧ W.cell? ⟨z, 3, none⟩ = some (.int .i64 (u.pl : Int)))) rfl rfl (by kernel_rfl) hS5 (fun hSw => ?_)
  refine take_at 0 107 (fuel := 9) ?_ rfl rfl (by kernel_rfl) (by kernel_rfl) (by kernel_rfl) (Or.inl ⟨by rfl, ?_⟩) hSw ?_
  rotate_left
  · intro wx hSx
    (try dsimp only at hSx)
    go_split_ands
    go_simp
    (try with_reducible rfl)
  simp only [List.setIfInBounds_toArray, List.set_cons_zero, List.set_cons_succ]
  refine take_at 1 108 (fuel := 8) ?_ rfl rfl (by kernel_rfl) (by kernel_rfl) (by kernel_rfl) (Or.inl ⟨by rfl, ?_⟩) hSw ?_
  rotate_left
  · intro wx hSx
    (try dsimp only at hSx)
    go_split_ands
    go_simp
    (try with_reducible rfl)
  simp only [List.setIfInBounds_toArray, List.set_cons_zero, List.set_cons_succ]
  refine take_at 2 109 (fuel := 7) ?_ rfl rfl (by kernel_rfl) (by kernel_rfl) (by kernel_rfl) (Or.inl ⟨by rfl, ?_⟩) hSw ?_
  rotate_left
  · intro wx hSx
    (try dsimp only at hSx)
    go_split_ands
    go_simp
    (try with_reducible rfl)
  simp only [List.setIfInBounds_toArray, List.set_cons_zero, List.set_cons_succ]
  refine take_at 3 110 (fuel := 6) ?_ rfl rfl (by kernel_rfl) (by kernel_rfl) (by kernel_rfl) (Or.inl ⟨by rfl, ?_⟩) hSw ?_
  rotate_left
  · intro wx hSx
    (try dsimp only at hSx)
    go_split_ands
    go_simp
    (try with_reducible rfl)
  simp only [List.setIfInBounds_toArray, List.set_cons_zero, List.set_cons_succ]
  refine take_at 5 112 (fuel := 5) ?_ rfl rfl (by kernel_rfl) (by kernel_rfl) (by kernel_rfl) (Or.inl ⟨by rfl, ?_⟩) hSw ?_
  rotate_left
  · intro wx hSx
    (try dsimp only at hSx)
    go_split_ands
    go_simp
    (try with_reducible rfl)
  simp only [List.setIfInBounds_toArray, List.set_cons_zero, List.set_cons_succ]
  refine wpAnyH_ready (fuel := 4) (rs := [4]) (by kernel_rfl) (by simp) (AllReadyH.cons rfl (fun K hK => ?_) AllReadyH.nil)
  go_simp
  refine Calls.mono (fp) ?_
  rintro e wv ⟨pv, m', rfl, hHv, hSt, hTl⟩
  have hb6 : Blk wv z 63 #[.int .i64 (u.most : Int), .int .i64 (u.tgt : Int), .slice (some ⟨G1, 0, none⟩) 4 4, .int .i64 (u.pl : Int)] := (hSt.kp.block z hb5.lt hq4).trans hb5
  have h6 := h5.step hvu hHv hSt
  have hrow6 := ownsRow_stay (w' := wv) hrow4 fun b hb => hSt.kp.block b (hrow4.lt b hb).2 (hrn b hb)
  have ft := texts_c (l := LK) (by omega) wv hTl.row hrow6
  clear h5 hb5 hS5 fp
  refine hK.out _ _ ⟨hb6.cell 0, hb6.cell 1, hb6.cell 2, hb6.cell 3⟩ (fun hSw => ?_)
  clear hK K
  simp only [List.setIfInBounds_toArray, List.set_cons_zero, List.set_cons_succ]
  refine wpAnyH_ready (fuel := 3) (rs := [6]) (by kernel_rfl) (by simp) (AllReadyH.cons rfl (fun K hK => ?_) AllReadyH.nil)
  go_simp
  refine Calls.mono (ft) ?_
  rintro e wy ⟨rfl, hbt⟩
  have hb7 := hb6.below hbt hb6.lt
  have h7 := h6.onto hbt
  clear h6 hb6 ft
  obtain ⟨z0, z1, z2, z3, z4, z5, z6, z7⟩ := h7.zero
  refine hK.out _ _ ⟨hb7.cell 0, hb7.cell 1, hb7.cell 2, hb7.cell 3⟩ (fun hSw => ?_)
  clear hK K
  simp only [List.setIfInBounds_toArray, List.set_cons_zero, List.set_cons_succ]
  refine take_at 7 6 (fuel := 2) ?_ rfl rfl (by kernel_rfl) (by kernel_rfl) (by kernel_rfl) (Or.inl ⟨by rfl, ?_⟩) hSw ?_
  rotate_left
  · intro wx hSx
    (try dsimp only at hSx)
    go_split_ands
    go_simp
    (try with_reducible rfl)
  simp only [List.setIfInBounds_toArray, List.set_cons_zero, List.set_cons_succ]
  refine wpAnyH_ready (fuel := 1) (rs := [8]) (by kernel_rfl) (by simp) (AllReadyH.cons rfl (fun K hK => ?_) AllReadyH.nil)
  go_simp
  refine hK.out _ _ ⟨(putD_cell (x := wy) hq2).trans hSw.1, (putD_cell (x := wy) hq2).trans hSw.2.1, (putD_cell (x := wy) hq2).trans hSw.2.2.1, (putD_cell (x := wy) hq2).trans hSw.2.2.2⟩ (fun hSw => ?_)
  clear hK K
  simp only [List.setIfInBounds_toArray, List.set_cons_zero, List.set_cons_succ]
  refine take_at 9 8 (fuel := 0) ?_ rfl rfl (by kernel_rfl) (by kernel_rfl) (by kernel_rfl) (Or.inl ⟨by rfl, ?_⟩) hSw ?_
  rotate_left
  · intro wx hSx
    (try dsimp only at hSx)
    go_split_ands
    go_simp
    (try with_reducible rfl)
  simp only [List.setIfInBounds_toArray, List.set_cons_zero, List.set_cons_succ]
  refine wpAnyH_done (by kernel_rfl) ⟨rfl, ?_⟩ 0
  have hR := h7.fin hvu
  have hKD : ∀ q, K q → (putD w wy u.most u.tgt G1 u.pl).heap[q]? = w.heap[q]? ∧ ¬ (m'.own q ∨ q = A) ∧ NotIn q G1 vs1 4 := fun q hq => h7.keepD q hq _ _ _ _
  clear h7 hb7 hHv hSt hTl hrow6 hrow4 hbt z0 z1 z2 z3 z4 z5 z6 z7
  have hT9 := hR.1
  obtain ⟨-, p0, p1, p2, p3⟩ := hR
  unfold putD at hT9 p0 p1 p2 p3 hKD
  clear hSw 
  generalize ((((wy.setCell ⟨w.heap.size + 2, 0, none⟩ (.int .i64 (u.most : Int))).setCell ⟨w.heap.size + 2, 1, none⟩ (.int .i64 (u.tgt : Int))).setCell ⟨w.heap.size + 2, 2, none⟩ (.slice (some ⟨G1, 0, none⟩) 4 4)).setCell ⟨w.heap.size + 2, 3, none⟩ (.int .i64 (u.pl : Int))) = w9 at *
  go_wp2_with fail
  (try simp only [Exit.inBlock, Exit.then])
  refine bodyPost_ret (v := .tuple #[.pointer (some ⟨A, 0, none⟩), .agg #[.int .i64 (u.most : Int), .int .i64 (u.tgt : Int), .slice (some ⟨G1, 0, none⟩) 4 4, .int .i64 (u.pl : Int)], .bool true]) (by simp [results, Try.results36, go_sem, p0, p1, p2, p3]) rfl ?_
  exact ⟨A, _, _, G1, _, by rfl, hT9, hKD⟩
end
end Go.Proofs.Ytfhlnidjneaieaa.Arcy

namespace Go.Proofs.Ytfhlnidjneaieaa.Arcy
open Go.ChangeShapes Go.WideShapes Go.ChangeAt Go.RowKit Go.Shelf
open Wirey (Blk Row str str_size str_list str_cat Kp)
open Ringy Go.ChangeMaps Go.Maps

section
variable {w0 w x y : World} {K : Nat → Prop} {A P : Nat} {m m' : Rm} {v v' u u' v0 : Av} {G G' G0 : Nat} {vs vs' : Nat → Value} {k : Key}
set_option maxHeartbeats 8000000 in
set_option maxRecDepth 100000 in
theorem do_evict (T : List UInt8) (hT : T.length ≤ maxLen) (hf : v.Fine) (hK : ∀ q, K q → q < w.heap.size ∧ ¬ (m.own q ∨ q = A) ∧ NotIn q G vs 4) (h : Two w0 A P m v v G vs w) :
    Calls Try.prog 36 #[.pointer (some ⟨A, 0, none⟩), .agg #[.int .i64 (v.most : Int), .int .i64 (v.tgt : Int), .slice (some ⟨G, 0, none⟩) 4 4, .int .i64 (v.pl : Int)], .agg #[.int .i64 7, .string (str T)]] w (DoP w0 K w (v.repl false)) := by
  have hok := hf.ok
  have h1 := Ds.new (a := .int .i64 7) (b := .string (str T)) hK h
  have hact : (((w.alloc (.cells #[.int .i64 (v.most : Int), .int .i64 (v.tgt : Int), .slice (some ⟨G, 0, none⟩) 4 4, .int .i64 (v.pl : Int)] 63)).alloc (.cells #[.int .i64 7, .string (str T)] 68)).alloc (.cells #[.int .i64 0, .int .i64 0, .slice none 0 0, .int .i64 0] 63)).cell? ⟨w.heap.size + 1, 0, none⟩ = some (.int .i64 7) ∧ (((w.alloc (.cells #[.int .i64 (v.most : Int), .int .i64 (v.tgt : Int), .slice (some ⟨G, 0, none⟩) 4 4, .int .i64 (v.pl : Int)] 63)).alloc (.cells #[.int .i64 7, .string (str T)] 68)).alloc (.cells #[.int .i64 0, .int .i64 0, .slice none 0 0, .int .i64 0] 63)).cell? ⟨w.heap.size + 1, 1, none⟩ = some (.string (str T)) := by
    have hb := (Blk.new (w.alloc (.cells #[.int .i64 (v.most : Int), .int .i64 (v.tgt : Int), .slice (some ⟨G, 0, none⟩) 4 4, .int .i64 (v.pl : Int)] 63)) 68 #[.int .i64 7, .string (str T)]).alloc (.cells #[.int .i64 0, .int .i64 0, .slice none 0 0, .int .i64 0] 63)
    rw [show (w.alloc (.cells #[.int .i64 (v.most : Int), .int .i64 (v.tgt : Int), .slice (some ⟨G, 0, none⟩) 4 4, .int .i64 (v.pl : Int)] 63)).heap.size = w.heap.size + 1 by simp] at hb
    exact ⟨hb.cell 0, hb.cell 1⟩
  have hfl := fewL_max T
  have hfw := fun W => fewA_c T hT W
  clear h hK
  go_enter Try.func36, Try.ntmps36
  go_upto_region 1 with (fail)
  generalize ((w.alloc (.cells #[.int .i64 (v.most : Int), .int .i64 (v.tgt : Int), .slice (some ⟨G, 0, none⟩) 4 4, .int .i64 (v.pl : Int)] 63)).alloc (.cells #[.int .i64 7, .string (str T)] 68)).alloc (.cells #[.int .i64 0, .int .i64 0, .slice none 0 0, .int .i64 0] 63) = w1 at *
  obtain ⟨k0, k1⟩ := hact
  generalize hkk : fewL T = k at *
  go_wp2_with fail
  refine (hfw _).mono ?_
  rintro e w' ⟨rfl, rfl⟩
  clear hkk hfw
  obtain ⟨x0, x1, x2, x3, -⟩ := h1.all
  have hvu := (hf.repl false).ok
  have hnm := Av.repl_num v false
  have hpl : (v.repl false).pl = v.pl := by unfold Av.pl; rw [hnm.1]
  have HNM := Lib.hid hnm
  have HPL := Lib.hid hpl
  clear hnm hpl
  have fd := revict_c hf w1 h1.two.d
  have fe := fun W m (h : HeldA w0 A P W m v) => evict_c h
  generalize (v.last (v.src false)).getD [] = t at *
  generalize (v.last (v.src false)).isSome = bb at *
  go_wp2_with fail
  refine fd.mono ?_
  rintro e w4 ⟨G1, vs1, rfl, hg⟩
  have h4 : Ds w0 K A P m v (v.repl false) G1 vs1 w v G (w4.alloc (.cells #[.int .i64 (v.most : Int), .int .i64 (v.tgt : Int), .slice (some ⟨G1, 0, none⟩) 4 4, .int .i64 (v.pl : Int)] 63)) := (h1.goes hg).onto ((Below.refl _ w4).alloc (Nat.le_refl _) _)
  have hb4 := Blk.new w4 63 #[.int .i64 (v.most : Int), .int .i64 (v.tgt : Int), .slice (some ⟨G1, 0, none⟩) 4 4, .int .i64 (v.pl : Int)]
  have hq4 : ¬ (m.own w4.heap.size ∨ w4.heap.size = A) := fun ho => by
    rcases ho with ho | ho
    · have := (h1.goes hg).two.h.h.lt _ ho; omega
    · have := (h1.goes hg).two.h.lt; omega
  have hq2 : w4.heap.size ≠ w.heap.size + 2 := by have := (h1.goes hg).hi; omega
  clear x0 x1 x2 x3 fd h1 hg k0 k1
  go_upto_region 12 with (fail)
  generalize w4.heap.size = z at *
  generalize w4.alloc (.cells #[.int .i64 (v.most : Int), .int .i64 (v.tgt : Int), .slice (some ⟨G1, 0, none⟩) 4 4, .int .i64 (v.pl : Int)] 63) = w5 at *
  go_wp2_with fail
  refine (fe _ _ h4.two.h).mono ?_
  rintro e w6 ⟨rfl, m', hHv, hSt⟩
  have hb6 : Blk w6 z 63 #[.int .i64 (v.most : Int), .int .i64 (v.tgt : Int), .slice (some ⟨G1, 0, none⟩) 4 4, .int .i64 (v.pl : Int)] := (hSt.kp.block z hb4.lt hq4).trans hb4
  have h6 := h4.step hvu hHv hSt
  have htl := Wirey.toList_str
  clear h4 hb4 hHv hSt fe
  go_upto_region 13 with (fail)
  have h6d : Ds w0 K A P m' (v.repl false) (v.repl false) G1 vs1 w v G w6.drew := h6.drewN 1
  obtain ⟨z0, z1, z2, z3, z4, z5, z6, z7⟩ := h6d.zero
  obtain ⟨r0, r1, r2, r3, r4, r5, r6, r7⟩ := h6.zero
  have hS5 : w6.drew.cell? ⟨z, 0, none⟩ = some (.int .i64 (v.most : Int)) ∧ w6.drew.cell? ⟨z, 1, none⟩ = some (.int .i64 (v.tgt : Int)) ∧ w6.drew.cell? ⟨z, 2, none⟩ = some (.slice (some ⟨G1, 0, none⟩) 4 4) ∧ w6.drew.cell? ⟨z, 3, none⟩ = some (.int .i64 (v.pl : Int)) := ⟨hb6.cell 0, hb6.cell 1, hb6.cell 2, hb6.cell 3⟩
  refine region_only 13 #[false, false, false, false, false, false, false, false, false, false, false, false, false] (S := (fun W => W.cell? ⟨z, 0, none⟩ = some (.int .i64 (v.most : Int)) ∧ W.cell? ⟨z, 1, none⟩ = some (.int .i64 (v.tgt : Int)) ∧ W.cell? ⟨z, 2, none⟩ = some (.slice (some ⟨G1, 0, none⟩) 4 4) ∧ W.cell? ⟨z, 3, none⟩ = some (.int .i64 (v.pl : Int)))) rfl rfl (by kernel_rfl) hS5 (fun hSw => ?_)
  refine take_at 0 72 (fuel := 12) ?_ rfl rfl (by kernel_rfl) (by kernel_rfl) (by kernel_rfl) (Or.inl ⟨by rfl, ?_⟩) hSw ?_
  rotate_left
  · intro wx hSx
    (try dsimp only at hSx)
    go_split_ands
    go_simp
    (try with_reducible rfl)
  simp only [List.setIfInBounds_toArray, List.set_cons_zero, List.set_cons_succ]
  refine take_at 1 73 (fuel := 11) ?_ rfl rfl (by kernel_rfl) (by kernel_rfl) (by kernel_rfl) (Or.inl ⟨by rfl, ?_⟩) hSw ?_
  rotate_left
  · intro wx hSx
    (try dsimp only at hSx)
    go_split_ands
    go_simp
    (try with_reducible rfl)
  simp only [List.setIfInBounds_toArray, List.set_cons_zero, List.set_cons_succ]
  refine take_at 2 74 (fuel := 10) ?_ rfl rfl (by kernel_rfl) (by kernel_rfl) (by kernel_rfl) (Or.inl ⟨by rfl, ?_⟩) hSw ?_
  rotate_left
  · intro wx hSx
    (try dsimp only at hSx)
    go_split_ands
    go_simp
    (try with_reducible rfl)
  simp only [List.setIfInBounds_toArray, List.set_cons_zero, List.set_cons_succ]
  refine take_at 3 75 (fuel := 9) ?_ rfl rfl (by kernel_rfl) (by kernel_rfl) (by kernel_rfl) (Or.inl ⟨by rfl, ?_⟩) hSw ?_
  rotate_left
  · intro wx hSx
    (try dsimp only at hSx)
    go_split_ands
    go_simp
    (try with_reducible rfl)
  simp only [List.setIfInBounds_toArray, List.set_cons_zero, List.set_cons_succ]
  refine take_at 4 76 (fuel := 8) ?_ rfl rfl (by kernel_rfl) (by kernel_rfl) (by kernel_rfl) (Or.inl ⟨by rfl, ?_⟩) hSw ?_
  rotate_left
  · intro wx hSx
    (try dsimp only at hSx)
    go_split_ands
    go_simp
    (try with_reducible rfl)
  simp only [List.setIfInBounds_toArray, List.set_cons_zero, List.set_cons_succ]
  refine take_at 5 77 (fuel := 7) ?_ rfl rfl (by kernel_rfl) (by kernel_rfl) (by kernel_rfl) (Or.inl ⟨by rfl, ?_⟩) hSw ?_
  rotate_left
  · intro wx hSx
    (try dsimp only at hSx)
    go_split_ands
    go_simp
    (try with_reducible rfl)
  simp only [List.setIfInBounds_toArray, List.set_cons_zero, List.set_cons_succ]
  refine take_at 6 78 (fuel := 6) ?_ rfl rfl (by kernel_rfl) (by kernel_rfl) (by kernel_rfl) (Or.inl ⟨by rfl, ?_⟩) hSw ?_
  rotate_left
  · intro wx hSx
    (try dsimp only at hSx)
    go_split_ands
    go_simp
    (try with_reducible rfl)
  simp only [List.setIfInBounds_toArray, List.set_cons_zero, List.set_cons_succ]
  refine take_at 7 79 (fuel := 5) ?_ rfl rfl (by kernel_rfl) (by kernel_rfl) (by kernel_rfl) (Or.inl ⟨by rfl, ?_⟩) hSw ?_
  rotate_left
  · intro wx hSx
    (try dsimp only at hSx)
    go_split_ands
    go_simp
    (try with_reducible rfl)
  simp only [List.setIfInBounds_toArray, List.set_cons_zero, List.set_cons_succ]
  refine take_at 8 80 (fuel := 4) ?_ rfl rfl (by kernel_rfl) (by kernel_rfl) (by kernel_rfl) (Or.inl ⟨by rfl, ?_⟩) hSw ?_
  rotate_left
  · intro wx hSx
    (try dsimp only at hSx)
    go_split_ands
    go_simp
    (try with_reducible rfl)
  simp only [List.setIfInBounds_toArray, List.set_cons_zero, List.set_cons_succ]
  refine take_at 9 81 (fuel := 3) ?_ rfl rfl (by kernel_rfl) (by kernel_rfl) (by kernel_rfl) (Or.inl ⟨by rfl, ?_⟩) hSw ?_
  rotate_left
  · intro wx hSx
    (try dsimp only at hSx)
    go_split_ands
    go_simp
    (try with_reducible rfl)
  simp only [List.setIfInBounds_toArray, List.set_cons_zero, List.set_cons_succ]
  refine take_at 10 6 (fuel := 2) ?_ rfl rfl (by kernel_rfl) (by kernel_rfl) (by kernel_rfl) (Or.inl ⟨by rfl, ?_⟩) hSw ?_
  rotate_left
  · intro wx hSx
    (try dsimp only at hSx)
    go_split_ands
    go_simp
    (try with_reducible rfl)
  simp only [List.setIfInBounds_toArray, List.set_cons_zero, List.set_cons_succ]
  refine wpAnyH_ready (fuel := 1) (rs := [11]) (by kernel_rfl) (by simp) (AllReadyH.cons rfl (fun K hK => ?_) AllReadyH.nil)
  go_simp
  refine hK.out _ _ ⟨(putD_cell (x := w6) hq2).trans hSw.1, (putD_cell (x := w6) hq2).trans hSw.2.1, (putD_cell (x := w6) hq2).trans hSw.2.2.1, (putD_cell (x := w6) hq2).trans hSw.2.2.2⟩ (fun hSw => ?_)
  clear hK K
  simp only [List.setIfInBounds_toArray, List.set_cons_zero, List.set_cons_succ]
  refine take_at 12 8 (fuel := 0) ?_ rfl rfl (by kernel_rfl) (by kernel_rfl) (by kernel_rfl) (Or.inl ⟨by rfl, ?_⟩) hSw ?_
  rotate_left
  · intro wx hSx
    (try dsimp only at hSx)
    go_split_ands
    go_simp
    (try with_reducible rfl)
  simp only [List.setIfInBounds_toArray, List.set_cons_zero, List.set_cons_succ]
  refine wpAnyH_done (by kernel_rfl) ⟨rfl, ?_⟩ 0
  have hR : Two w0 A P m' (v.repl false) (v.repl false) G1 vs1 (putD w w6 v.most v.tgt G1 v.pl) ∧ (putD w w6 v.most v.tgt G1 v.pl).cell? ⟨w.heap.size + 2, 0, none⟩ = some (.int .i64 (v.most : Int)) ∧ (putD w w6 v.most v.tgt G1 v.pl).cell? ⟨w.heap.size + 2, 1, none⟩ = some (.int .i64 (v.tgt : Int)) ∧ (putD w w6 v.most v.tgt G1 v.pl).cell? ⟨w.heap.size + 2, 2, none⟩ = some (.slice (some ⟨G1, 0, none⟩) 4 4) ∧ (putD w w6 v.most v.tgt G1 v.pl).cell? ⟨w.heap.size + 2, 3, none⟩ = some (.int .i64 (v.pl : Int)) := by
    have := h6.fin hvu
    rw [HNM.out.1, HNM.out.2, HPL.out] at this
    exact this
  have hKD : ∀ q, K q → (putD w w6 v.most v.tgt G1 v.pl).heap[q]? = w.heap[q]? ∧ ¬ (m'.own q ∨ q = A) ∧ NotIn q G1 vs1 4 := fun q hq => h6.keepD q hq _ _ _ _
  clear hSw h6 h6d hb6 hS5 z0 z1 z2 z3 z4 z5 z6 z7 r0 r1 r2 r3 r4 r5 r6 r7
  obtain ⟨hT9, p0, p1, p2, p3⟩ := hR
  unfold putD at hT9 p0 p1 p2 p3 hKD
  generalize ((((w6.setCell ⟨w.heap.size + 2, 0, none⟩ (.int .i64 (v.most : Int))).setCell ⟨w.heap.size + 2, 1, none⟩ (.int .i64 (v.tgt : Int))).setCell ⟨w.heap.size + 2, 2, none⟩ (.slice (some ⟨G1, 0, none⟩) 4 4)).setCell ⟨w.heap.size + 2, 3, none⟩ (.int .i64 (v.pl : Int))) = w9 at *
  have p0' : w9.drew.cell? ⟨w.heap.size + 2, 0, none⟩ = some (.int .i64 (v.most : Int)) := p0
  have p1' : w9.drew.cell? ⟨w.heap.size + 2, 1, none⟩ = some (.int .i64 (v.tgt : Int)) := p1
  have p2' : w9.drew.cell? ⟨w.heap.size + 2, 2, none⟩ = some (.slice (some ⟨G1, 0, none⟩) 4 4) := p2
  have p3' : w9.drew.cell? ⟨w.heap.size + 2, 3, none⟩ = some (.int .i64 (v.pl : Int)) := p3
  have hTd : Two w0 A P m' (v.repl false) (v.repl false) G1 vs1 w9.drew := hT9.drewN 1
  have hKd : ∀ q, K q → w9.drew.heap[q]? = w.heap[q]? ∧ ¬ (m'.own q ∨ q = A) ∧ NotIn q G1 vs1 4 := hKD
  clear p0 p1 p2 p3 hT9 hKD
  generalize w9.drew = wz at *
  go_wp2_with fail
  (try simp only [Exit.inBlock, Exit.then])
  refine bodyPost_ret (v := .tuple #[.pointer (some ⟨A, 0, none⟩), .agg #[.int .i64 (v.most : Int), .int .i64 (v.tgt : Int), .slice (some ⟨G1, 0, none⟩) 4 4, .int .i64 (v.pl : Int)], .bool true]) (by simp [results, Try.results36, go_sem, p0', p1', p2', p3']) rfl ?_
  exact ⟨A, _, _, G1, _, by rw [HNM.out.1, HNM.out.2, HPL.out], hTd, hKd⟩
end
end Go.Proofs.Ytfhlnidjneaieaa.Arcy
