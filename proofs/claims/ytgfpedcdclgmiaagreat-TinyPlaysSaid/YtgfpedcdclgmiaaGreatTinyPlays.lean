/- Layer 8 (tiny): one act done to the program's Tiny and to the document's. The only condition: both are the same, and as chapter 8 has it. -/
import Derived.Test.YtgfpedcdclgmiaaGreatTinySide
import Derived.BigQuiet
import Derived.Test.YtgfpedcdclgmiaaGreatKit
import Derived.Test.YtgfpedcdclgmiaaGreatTinyProg
import Derived.Deep.CutBlock
import Derived.Deep.CutRange
import Derived.Deep.RegionHeld3
import Derived.Deep.QuietTactic
namespace Go.Proofs.YtgfpedcdclgmiaaGreat.Tinyy
open Go.ChangeShapes Go.WideShapes Go.ChangeAt Go.RowKit Go.Shelf
open Wirey (Blk Row str str_size str_list str_cat Kp)
open Ringy Go.ChangeMaps Go.Maps
open Sketchy (Sk Six)

section
variable {w0 w x y : World} {A B P : Nat} {m m' : Rm} {v v' u u' v0 : Tv} {a a' a0 : Ad} {k : Key} {K : Nat → Prop} {i j : Nat}
theorem few_le8 (l : List UInt8) : (fewL l).length ≤ maxLen := by have := fewL_le l; unfold maxLen; omega
/-! The lists behind the third stay empty. -/
theorem Tv.Out.fr (h : v.Out) (hj : j < 3) (k : Key) : (v.fr j k).Out := fun i hi => by
  show (if i = j then k :: strike k (v.rg.l i) else strike k (v.rg.l i)) = []
  rw [if_neg (by omega), h i hi]
  rfl
theorem Tv.Out.dr (h : v.Out) (k : Key) : (v.dr k).Out := fun i hi => by
  show strike k (v.rg.l i) = []
  rw [h i hi]
  rfl
theorem Tv.Out.note (h : v.Out) (k : Key) : (v.note k).Out := h
theorem Tv.Out.safe (h : v.Out) (k : Key) : (v.safe k).Out := by
  unfold Tv.safe
  split
  · exact (h.fr (by omega) k).fr (by omega) _
  · exact h.fr (by omega) k
theorem Tv.Out.touch (h : v.Out) (k : Key) : (v.touch k).Out := by
  unfold Tv.touch
  split
  · exact h
  · exact (h.note k).fr (by omega) k
  · exact (h.note k).safe k
theorem Tv.Out.leave (h : v.Out) : v.leave.Out := by
  unfold Tv.leave Tv.leaveOf
  split
  · exact h.fr (by omega) _
  · split
    · exact h.dr _
    · exact (h.dr _).fr (by omega) _
theorem Tv.Out.fresh (h : v.Out) (k : Key) : (v.fresh k).Out := by
  have h1 : (v.came k).Out := (h.note k).fr (by omega) k
  unfold Tv.fresh
  split
  · exact h1
  · exact h1.leave
theorem Tv.Out.insert (h : v.Out) (k : Key) : (v.insert k).Out := by
  unfold Tv.insert Tv.ins
  split
  · exact h
  · split
    · exact h.touch k
    · exact h.fresh k
theorem Tv.Out.miss (h : v.Out) (k : Key) : (v.miss k).Out := by
  unfold Tv.miss
  split
  · exact h
  · exact h
theorem Tv.Out.evict (h : v.Out) : v.evict.Out := by
  unfold Tv.evict
  split
  · exact h
  · exact h.dr _
/-- What an act of a kind makes of a Tiny. -/
def Tv.act (v : Tv) (q : Int) (k : Key) : Tv := if q = 4 ∨ q = 5 then v.touch k else if q = 6 then v.dr k else if q = 7 then v.evict else if q = 8 then v.miss k else if q = 9 then v else v.insert k
theorem Tv.act_ok (h : v.Ok) (ho : v.Out) (q : Int) (k : Key) : (v.act q k).Ok ∧ (v.act q k).Out := by
  unfold Tv.act
  split
  · exact ⟨(Tv.touch_spec h k).1, ho.touch k⟩
  · split
    · exact ⟨h.dr k, ho.dr k⟩
    · split
      · exact ⟨(Tv.evict_ok h).1, ho.evict⟩
      · split
        · exact ⟨(Tv.miss_ok h k).1, ho.miss k⟩
        · split
          · exact ⟨h, ho⟩
          · exact ⟨(Tv.insert_ok h k).1, ho.insert k⟩
/-- The document's insert, whatever it finds. -/
theorem rins_c (hok : v.Fine) (hOk : v.Ok) (hk : k.length ≤ maxLen) (w : World) (h : Dt w v a) :
    Calls Tryz.prog 35 #[.agg #[.int .i64 (v.most : Int), .int .i64 (v.sk.wide : Int), .int .u64 (v.sk.seed : Int), .slice (some ⟨a.R, 0, none⟩) 4 a.c, .slice (some ⟨a.D, 0, none⟩) v.sk.wide v.sk.wide, .int .i64 (v.sk.added : Int), .slice (some ⟨a.G, 0, none⟩) 3 3, .int .i64 (v.pl : Int)], .string (str k)] w fun e w' => ∃ a' val, e = .returned (.tuple #[.agg #[.int .i64 ((v.insert k).most : Int), .int .i64 ((v.insert k).sk.wide : Int), .int .u64 ((v.insert k).sk.seed : Int), .slice (some ⟨a'.R, 0, none⟩) 4 a'.c, .slice (some ⟨a'.D, 0, none⟩) (v.insert k).sk.wide (v.insert k).sk.wide, .int .i64 ((v.insert k).sk.added : Int), .slice (some ⟨a'.G, 0, none⟩) 3 3, .int .i64 ((v.insert k).pl : Int)], val]) ∧ Goes w a (v.insert k) a' w' ∧ Told w val (v.insertK k) w' := by
  by_cases hl : 64 < k.length
  · rw [show v.insert k = v from if_pos hl, show v.insertK k = [] from if_pos hl]
    exact rins_long hok hl hk w h
  · rw [show v.insert k = v.ins k from if_neg hl, show v.insertK k = v.insK k from if_neg hl]
    cases hh : v.has k with
    | true =>
      rw [show v.ins k = v.touch k from if_pos hh, show v.insK k = [] from if_pos hh]
      exact rins_has hok hOk (by omega) hh w h
    | false =>
      rw [show v.ins k = v.fresh k from if_neg (by rw [hh]; decide), show v.insK k = v.freshK k from if_neg (by rw [hh]; decide)]
      exact rins_new hok hOk (by omega) hh w h
theorem Tv.insertK_len (hOk : v.Ok) (k : Key) : (v.insertK k).length ≤ 100000 := by
  unfold Tv.insertK
  split
  · exact Nat.zero_le _
  · have := (Tv.ins_spec hOk (k := k) (by omega)).glen
    omega
theorem results_tmp_row_tmp {fn : Func} {p t s : Tmp} {ty : TypeId} {Pg : Program} (h : fn.results = #[.tmp s, .cell p ty, .tmp t]) (tmps : Array Value) (w : World) (g : Nat) {cs : Array Value}
    (hp : tmps.getD p undef = .pointer (some ⟨g, 0, none⟩)) (hl : (loadVar ty ⟨g, 0, none⟩).run Pg w = .ok (.agg cs) w) :
    (results fn tmps).run Pg w = .ok (.tuple #[tmps.getD s undef, .agg cs, tmps.getD t undef]) w := by
  have hp' : tmps[p]?.getD undef = .pointer (some ⟨g, 0, none⟩) := by simpa using hp
  simp [results, h, hp', asAddr, Result.andThen, hl]
/-- What stands while an act is done: the call's own copies in blocks w.heap.size and the two behind it. -/
structure Ds (w0 : World) (K : Nat → Prop) (A B P : Nat) (m : Rm) (v u : Tv) (a : Ad) (w : World) (v0 : Tv) (a0 : Ad) (x : World) : Prop where
  two : Two w0 A B P m v u a x
  box : Blk x w.heap.size 36 #[.int .i64 (v0.most : Int), .int .i64 (v0.sk.wide : Int), .int .u64 (v0.sk.seed : Int), .slice (some ⟨a0.R, 0, none⟩) 4 a0.c, .slice (some ⟨a0.D, 0, none⟩) v0.sk.wide v0.sk.wide, .int .i64 (v0.sk.added : Int), .slice (some ⟨a0.G, 0, none⟩) 3 3, .int .i64 (v0.pl : Int)]
  res : Blk x (w.heap.size + 2) 36 #[.int .i64 0, .int .i64 0, .int .u64 0, .slice none 0 0, .slice none 0 0, .int .i64 0, .slice none 0 0, .int .i64 0]
  s0 : Side m A B a w.heap.size
  s2 : Side m A B a (w.heap.size + 2)
  lo : w0.heap.size ≤ w.heap.size
  hi : w.heap.size + 3 ≤ x.heap.size
  keep : ∀ q, K q → q < w.heap.size ∧ x.heap[q]? = w.heap[q]? ∧ Side m A B a q
theorem Ds.onto (h : Ds w0 K A B P m v u a w v0 a0 x) (hb : Below x.heap.size x y) : Ds w0 K A B P m v u a w v0 a0 y :=
  ⟨h.two.onto hb, h.box.below hb h.box.lt, h.res.below hb h.res.lt, h.s0, h.s2, h.lo, Nat.le_trans h.hi hb.size, fun q hq => by
    obtain ⟨a, b, c⟩ := h.keep q hq
    exact ⟨a, (hb.block q (by have := h.hi; omega)).trans b, c⟩⟩
theorem Ds.drewN (h : Ds w0 K A B P m v u a w v0 a0 x) (n : Nat) : Ds w0 K A B P m v u a w v0 a0 (x.drewN n) := h.onto ⟨rfl, rfl, rfl, Nat.le_refl _, fun _ _ => rfl⟩
theorem Ds.goes (h : Ds w0 K A B P m v u a w v0 a0 x) (hg : Goes x a u' a' y) : Ds w0 K A B P m v u' a' w v0 a0 y :=
  ⟨h.two.goes hg, h.box.below hg.below h.box.lt, h.res.below hg.below h.res.lt, h.s0.goes hg h.box.lt, h.s2.goes hg h.res.lt, h.lo, Nat.le_trans h.hi hg.below.size, fun q hq => by
    obtain ⟨a, b, c⟩ := h.keep q hq
    have hlt : q < x.heap.size := by have := h.hi; omega
    exact ⟨a, (hg.below.block q hlt).trans b, c.goes hg hlt⟩⟩
theorem Side.kp {q : Nat} (h : Side m A B a q) (hS : StepT B x m y m') (hq : q < x.heap.size) : y.heap[q]? = x.heap[q]? := hS.kp.block q hq (fun ho => ho.elim h.own h.six)
theorem Ds.step (h : Ds w0 K A B P m v u a w v0 a0 x) (hn : u.rg.n = 3) (hH : HeldT w0 A B P y m' v') (hS : StepT B x m y m') : Ds w0 K A B P m' v' u a w v0 a0 y :=
  ⟨h.two.step hn hH hS, (h.s0.kp hS h.box.lt).trans h.box, (h.s2.kp hS h.res.lt).trans h.res, h.s0.step hS h.box.lt, h.s2.step hS h.res.lt, h.lo, Nat.le_trans h.hi hS.kp.size, fun q hq => by
    obtain ⟨a, b, c⟩ := h.keep q hq
    have hlt : q < x.heap.size := by have := h.hi; omega
    exact ⟨a, (c.kp hS hlt).trans b, c.step hS hlt⟩⟩
/-- Another Tiny of the program's, laid behind all. -/
theorem Ds.turn {A' B' : Nat} (h : Ds w0 K A B P m v u a w v0 a0 x) (hn : u.rg.n = 3) (hb : Below x.heap.size x y) (hN : Newly x.heap.size A' B' m' v' y) (hf : v'.Fit) : Ds w0 K A' B' m'.R m' v' u a w v0 a0 y := by
  have h1 := h.onto hb
  have hz := h.hi
  have hz0 := h.lo
  have hs : ∀ q, q < x.heap.size → ¬ a.has q → Side m' A' B' a q := fun q hq ha => ⟨fun ho => by have := hN.own q ho; omega, fun e => by have := hN.lA; omega, fun ho => by have := hN.lB; have := ho.1; omega, ha⟩
  refine ⟨⟨hN.held hf h1.two.h.below (by omega), h1.two.d, fun q hq => ?_⟩, h1.box, h1.res, hs _ h.box.lt h.s0.ad, hs _ h.res.lt h.s2.ad, h.lo, h1.hi, fun q hq => ?_⟩
  · have h9 := h.two.d.lt hn hq
    exact ⟨fun ho => by have := hN.own q ho; omega, fun e => by have := hN.lA; omega, fun ho => by have := hN.lB; have := ho.1; omega⟩
  · obtain ⟨a, b, c⟩ := h1.keep q hq
    exact ⟨a, b, hs q (by omega) c.ad⟩
/-- The document's Tiny in the result's block. -/
theorem Ds.fin (h : Ds w0 K A B P m u u a w v0 a0 x) (hn : u.rg.n = 3) : Two w0 A B P m u u a ((((((((x.setCell ⟨w.heap.size + 2, 0, none⟩ (.int .i64 (u.most : Int))).setCell ⟨w.heap.size + 2, 1, none⟩ (.int .i64 (u.sk.wide : Int))).setCell ⟨w.heap.size + 2, 2, none⟩ (.int .u64 (u.sk.seed : Int))).setCell ⟨w.heap.size + 2, 3, none⟩ (.slice (some ⟨a.R, 0, none⟩) 4 a.c)).setCell ⟨w.heap.size + 2, 4, none⟩ (.slice (some ⟨a.D, 0, none⟩) u.sk.wide u.sk.wide)).setCell ⟨w.heap.size + 2, 5, none⟩ (.int .i64 (u.sk.added : Int))).setCell ⟨w.heap.size + 2, 6, none⟩ (.slice (some ⟨a.G, 0, none⟩) 3 3)).setCell ⟨w.heap.size + 2, 7, none⟩ (.int .i64 (u.pl : Int))) ∧ Blk ((((((((x.setCell ⟨w.heap.size + 2, 0, none⟩ (.int .i64 (u.most : Int))).setCell ⟨w.heap.size + 2, 1, none⟩ (.int .i64 (u.sk.wide : Int))).setCell ⟨w.heap.size + 2, 2, none⟩ (.int .u64 (u.sk.seed : Int))).setCell ⟨w.heap.size + 2, 3, none⟩ (.slice (some ⟨a.R, 0, none⟩) 4 a.c)).setCell ⟨w.heap.size + 2, 4, none⟩ (.slice (some ⟨a.D, 0, none⟩) u.sk.wide u.sk.wide)).setCell ⟨w.heap.size + 2, 5, none⟩ (.int .i64 (u.sk.added : Int))).setCell ⟨w.heap.size + 2, 6, none⟩ (.slice (some ⟨a.G, 0, none⟩) 3 3)).setCell ⟨w.heap.size + 2, 7, none⟩ (.int .i64 (u.pl : Int))) (w.heap.size + 2) 36 #[.int .i64 (u.most : Int), .int .i64 (u.sk.wide : Int), .int .u64 (u.sk.seed : Int), .slice (some ⟨a.R, 0, none⟩) 4 a.c, .slice (some ⟨a.D, 0, none⟩) u.sk.wide u.sk.wide, .int .i64 (u.sk.added : Int), .slice (some ⟨a.G, 0, none⟩) 3 3, .int .i64 (u.pl : Int)] ∧ ∀ q, K q → (((((((((x.setCell ⟨w.heap.size + 2, 0, none⟩ (.int .i64 (u.most : Int))).setCell ⟨w.heap.size + 2, 1, none⟩ (.int .i64 (u.sk.wide : Int))).setCell ⟨w.heap.size + 2, 2, none⟩ (.int .u64 (u.sk.seed : Int))).setCell ⟨w.heap.size + 2, 3, none⟩ (.slice (some ⟨a.R, 0, none⟩) 4 a.c)).setCell ⟨w.heap.size + 2, 4, none⟩ (.slice (some ⟨a.D, 0, none⟩) u.sk.wide u.sk.wide)).setCell ⟨w.heap.size + 2, 5, none⟩ (.int .i64 (u.sk.added : Int))).setCell ⟨w.heap.size + 2, 6, none⟩ (.slice (some ⟨a.G, 0, none⟩) 3 3)).setCell ⟨w.heap.size + 2, 7, none⟩ (.int .i64 (u.pl : Int)))).heap[q]? = w.heap[q]? ∧ Side m A B a q :=
  ⟨h.two.beside hn h.s2 (Nat.le_trans h.lo (Nat.le_add_right _ _)) (kp8 x _ _ _ _ _ _ _ _ _), blk8 h.res _ _ _ _ _ _ _ _, fun q hq => by
    obtain ⟨k1, k2, k3⟩ := h.keep q hq
    exact ⟨(far8 x (by omega) _ _ _ _ _ _ _ _).trans k2, k3⟩⟩
theorem Ds.new {p q : Value} (hK : ∀ b, K b → b < w.heap.size ∧ Side m A B a b) (h : Two w0 A B P m v v a w) : Ds w0 K A B P m v v a w v a (((w.alloc (.cells #[.int .i64 (v.most : Int), .int .i64 (v.sk.wide : Int), .int .u64 (v.sk.seed : Int), .slice (some ⟨a.R, 0, none⟩) 4 a.c, .slice (some ⟨a.D, 0, none⟩) v.sk.wide v.sk.wide, .int .i64 (v.sk.added : Int), .slice (some ⟨a.G, 0, none⟩) 3 3, .int .i64 (v.pl : Int)] 36)).alloc (.cells #[p, q] 42)).alloc (.cells #[.int .i64 0, .int .i64 0, .int .u64 0, .slice none 0 0, .slice none 0 0, .int .i64 0, .slice none 0 0, .int .i64 0] 36)) := by
  have hb1 := (Below.refl _ w).alloc (Nat.le_refl _) (.cells #[.int .i64 (v.most : Int), .int .i64 (v.sk.wide : Int), .int .u64 (v.sk.seed : Int), .slice (some ⟨a.R, 0, none⟩) 4 a.c, .slice (some ⟨a.D, 0, none⟩) v.sk.wide v.sk.wide, .int .i64 (v.sk.added : Int), .slice (some ⟨a.G, 0, none⟩) 3 3, .int .i64 (v.pl : Int)] 36)
  have hx1 := Blk.new w 36 #[.int .i64 (v.most : Int), .int .i64 (v.sk.wide : Int), .int .u64 (v.sk.seed : Int), .slice (some ⟨a.R, 0, none⟩) 4 a.c, .slice (some ⟨a.D, 0, none⟩) v.sk.wide v.sk.wide, .int .i64 (v.sk.added : Int), .slice (some ⟨a.G, 0, none⟩) 3 3, .int .i64 (v.pl : Int)]
  have s1 : (w.alloc (.cells #[.int .i64 (v.most : Int), .int .i64 (v.sk.wide : Int), .int .u64 (v.sk.seed : Int), .slice (some ⟨a.R, 0, none⟩) 4 a.c, .slice (some ⟨a.D, 0, none⟩) v.sk.wide v.sk.wide, .int .i64 (v.sk.added : Int), .slice (some ⟨a.G, 0, none⟩) 3 3, .int .i64 (v.pl : Int)] 36)).heap.size = w.heap.size + 1 := by simp
  generalize w.alloc (.cells #[.int .i64 (v.most : Int), .int .i64 (v.sk.wide : Int), .int .u64 (v.sk.seed : Int), .slice (some ⟨a.R, 0, none⟩) 4 a.c, .slice (some ⟨a.D, 0, none⟩) v.sk.wide v.sk.wide, .int .i64 (v.sk.added : Int), .slice (some ⟨a.G, 0, none⟩) 3 3, .int .i64 (v.pl : Int)] 36) = w1 at *
  have hb2 := hb1.alloc (by omega) (.cells #[p, q] 42)
  have hx2 := hx1.alloc (.cells #[p, q] 42)
  have s2 : (w1.alloc (.cells #[p, q] 42)).heap.size = w.heap.size + 2 := by simp [s1]
  generalize w1.alloc (.cells #[p, q] 42) = w2 at *
  have hb3 := hb2.alloc (by omega) (.cells #[.int .i64 0, .int .i64 0, .int .u64 0, .slice none 0 0, .slice none 0 0, .int .i64 0, .slice none 0 0, .int .i64 0] 36)
  have hr := Blk.new w2 36 #[.int .i64 0, .int .i64 0, .int .u64 0, .slice none 0 0, .slice none 0 0, .int .i64 0, .slice none 0 0, .int .i64 0]
  have s3 : (w2.alloc (.cells #[.int .i64 0, .int .i64 0, .int .u64 0, .slice none 0 0, .slice none 0 0, .int .i64 0, .slice none 0 0, .int .i64 0] 36)).heap.size = w.heap.size + 3 := by simp [s2]
  rw [s2] at hr
  exact ⟨h.onto hb3, hx2.alloc _, hr, h.fresh h.h.fit.n (Nat.le_refl _), h.fresh h.h.fit.n (by omega), h.h.below.size, by omega, fun b hb => ⟨(hK b hb).1, hb3.block b (hK b hb).1, (hK b hb).2⟩⟩
theorem Ds.all (h : Ds w0 K A B P m v u a w v0 a0 x) : (x.cell? ⟨w.heap.size, 0, none⟩ = some (.int .i64 (v0.most : Int)) ∧ x.cell? ⟨w.heap.size, 1, none⟩ = some (.int .i64 (v0.sk.wide : Int)) ∧ x.cell? ⟨w.heap.size, 2, none⟩ = some (.int .u64 (v0.sk.seed : Int)) ∧ x.cell? ⟨w.heap.size, 3, none⟩ = some (.slice (some ⟨a0.R, 0, none⟩) 4 a0.c) ∧ x.cell? ⟨w.heap.size, 4, none⟩ = some (.slice (some ⟨a0.D, 0, none⟩) v0.sk.wide v0.sk.wide) ∧ x.cell? ⟨w.heap.size, 5, none⟩ = some (.int .i64 (v0.sk.added : Int)) ∧ x.cell? ⟨w.heap.size, 6, none⟩ = some (.slice (some ⟨a0.G, 0, none⟩) 3 3) ∧ x.cell? ⟨w.heap.size, 7, none⟩ = some (.int .i64 (v0.pl : Int))) ∧ Ds w0 K A B P m v u a w v0 a0 x := ⟨⟨h.box.cell 0, h.box.cell 1, h.box.cell 2, h.box.cell 3, h.box.cell 4, h.box.cell 5, h.box.cell 6, h.box.cell 7⟩, h⟩
/-- What an act comes to. -/
def DoP (w0 : World) (K : Nat → Prop) (w : World) (v' : Tv) (e : Ending) (y : World) : Prop :=
  ∃ A' B' P' m' a', e = .returned (.tuple #[.pointer (some ⟨A', 0, none⟩), .agg #[.int .i64 (v'.most : Int), .int .i64 (v'.sk.wide : Int), .int .u64 (v'.sk.seed : Int), .slice (some ⟨a'.R, 0, none⟩) 4 a'.c, .slice (some ⟨a'.D, 0, none⟩) v'.sk.wide v'.sk.wide, .int .i64 (v'.sk.added : Int), .slice (some ⟨a'.G, 0, none⟩) 3 3, .int .i64 (v'.pl : Int)], .bool true]) ∧ Two w0 A' B' P' m' v' v' a' y ∧ ∀ q, K q → y.heap[q]? = w.heap[q]? ∧ Side m' A' B' a' q
theorem act_blk {p q : Value} {x : World} : ((x.alloc (.cells #[p, q] 42)).alloc (.cells #[.int .i64 0, .int .i64 0, .int .u64 0, .slice none 0 0, .slice none 0 0, .int .i64 0, .slice none 0 0, .int .i64 0] 36)).cell? ⟨x.heap.size, 0, none⟩ = some p ∧ ((x.alloc (.cells #[p, q] 42)).alloc (.cells #[.int .i64 0, .int .i64 0, .int .u64 0, .slice none 0 0, .slice none 0 0, .int .i64 0, .slice none 0 0, .int .i64 0] 36)).cell? ⟨x.heap.size, 1, none⟩ = some q := by
  have hb := (Blk.new x 42 #[p, q]).alloc (.cells #[.int .i64 0, .int .i64 0, .int .u64 0, .slice none 0 0, .slice none 0 0, .int .i64 0, .slice none 0 0, .int .i64 0] 36)
  exact ⟨hb.cell 0, hb.cell 1⟩
end
end Go.Proofs.YtgfpedcdclgmiaaGreat.Tinyy

namespace Go.Proofs.YtgfpedcdclgmiaaGreat.Tinyy
open Go.ChangeShapes Go.WideShapes Go.ChangeAt Go.RowKit Go.Shelf
open Wirey (Blk Row str str_size str_list str_cat Kp)
open Ringy Go.ChangeMaps Go.Maps
open Sketchy (Sk Six)

section
variable {w0 w x y : World} {A B P : Nat} {m m' : Rm} {v v' u u' v0 : Tv} {a a' a0 : Ad} {k : Key} {K : Nat → Prop} {i j : Nat}
set_option maxHeartbeats 8000000 in
set_option maxRecDepth 100000 in
theorem do_touch4 (T : List UInt8) (hT : T.length ≤ maxLen) (hf : v.Fine) (hOk : v.Ok) (hK : ∀ q, K q → q < w.heap.size ∧ Side m A B a q) (h : Two w0 A B P m v v a w) :
    Calls Tryz.prog 7 #[.pointer (some ⟨A, 0, none⟩), .agg #[.int .i64 (v.most : Int), .int .i64 (v.sk.wide : Int), .int .u64 (v.sk.seed : Int), .slice (some ⟨a.R, 0, none⟩) 4 a.c, .slice (some ⟨a.D, 0, none⟩) v.sk.wide v.sk.wide, .int .i64 (v.sk.added : Int), .slice (some ⟨a.G, 0, none⟩) 3 3, .int .i64 (v.pl : Int)], .agg #[.int .i64 4, .string (str T)]] w (DoP w0 K w (v.touch (fewL T))) := by
  have h1 := Ds.new (p := .int .i64 4) (q := .string (str T)) hK h
  have hact := act_blk (p := .int .i64 4) (q := .string (str T)) (x := w.alloc (.cells #[.int .i64 (v.most : Int), .int .i64 (v.sk.wide : Int), .int .u64 (v.sk.seed : Int), .slice (some ⟨a.R, 0, none⟩) 4 a.c, .slice (some ⟨a.D, 0, none⟩) v.sk.wide v.sk.wide, .int .i64 (v.sk.added : Int), .slice (some ⟨a.G, 0, none⟩) 3 3, .int .i64 (v.pl : Int)] 36))
  rw [show (w.alloc (.cells #[.int .i64 (v.most : Int), .int .i64 (v.sk.wide : Int), .int .u64 (v.sk.seed : Int), .slice (some ⟨a.R, 0, none⟩) 4 a.c, .slice (some ⟨a.D, 0, none⟩) v.sk.wide v.sk.wide, .int .i64 (v.sk.added : Int), .slice (some ⟨a.G, 0, none⟩) 3 3, .int .i64 (v.pl : Int)] 36)).heap.size = w.heap.size + 1 by simp] at hact
  have hfl := few_le8 T
  have hfw := fun W => fewT_c T hT W
  clear h hK
  go_enter Tryz.func7, Tryz.ntmps7
  go_upto_region 1 with (fail)
  generalize ((w.alloc (.cells #[.int .i64 (v.most : Int), .int .i64 (v.sk.wide : Int), .int .u64 (v.sk.seed : Int), .slice (some ⟨a.R, 0, none⟩) 4 a.c, .slice (some ⟨a.D, 0, none⟩) v.sk.wide v.sk.wide, .int .i64 (v.sk.added : Int), .slice (some ⟨a.G, 0, none⟩) 3 3, .int .i64 (v.pl : Int)] 36)).alloc (.cells #[.int .i64 4, .string (str T)] 42)).alloc (.cells #[.int .i64 0, .int .i64 0, .int .u64 0, .slice none 0 0, .slice none 0 0, .int .i64 0, .slice none 0 0, .int .i64 0] 36) = w1 at *
  obtain ⟨k0, k1⟩ := hact
  generalize hkk : fewL T = k at *
  go_wp2_with fail
  refine (hfw _).mono ?_
  rintro e w' ⟨rfl, rfl⟩
  clear hkk hfw
  obtain ⟨⟨x0, x1, x2, x3, x4, x5, x6, x7⟩, -⟩ := h1.all
  have HN := Lib.hid (Tv.touch_spec hOk k).1.fit.n
  have fd := rtouch_c (k := k) hf hOk w1 h1.two.d
  go_wp2_with fail
  refine fd.mono ?_
  rintro e w4 ⟨a1, rfl, hg⟩
  have h4 := (h1.goes hg).onto ((Below.refl _ w4).alloc (Nat.le_refl _) (.cells #[.int .i64 ((v.touch k).most : Int), .int .i64 ((v.touch k).sk.wide : Int), .int .u64 ((v.touch k).sk.seed : Int), .slice (some ⟨a1.R, 0, none⟩) 4 a1.c, .slice (some ⟨a1.D, 0, none⟩) (v.touch k).sk.wide (v.touch k).sk.wide, .int .i64 ((v.touch k).sk.added : Int), .slice (some ⟨a1.G, 0, none⟩) 3 3, .int .i64 ((v.touch k).pl : Int)] 36))
  have hb4 := Blk.new w4 36 #[.int .i64 ((v.touch k).most : Int), .int .i64 ((v.touch k).sk.wide : Int), .int .u64 ((v.touch k).sk.seed : Int), .slice (some ⟨a1.R, 0, none⟩) 4 a1.c, .slice (some ⟨a1.D, 0, none⟩) (v.touch k).sk.wide (v.touch k).sk.wide, .int .i64 ((v.touch k).sk.added : Int), .slice (some ⟨a1.G, 0, none⟩) 3 3, .int .i64 ((v.touch k).pl : Int)]
  have hs4 := (h1.goes hg).two.fresh HN.out (q := w4.heap.size) (Nat.le_refl _)
  have hq2 : w4.heap.size ≠ w.heap.size + 2 := by have := (h1.goes hg).hi; omega
  clear x0 x1 x2 x3 x4 x5 x6 x7 k0 k1
  clear fd h1 hg
  generalize hug : (v.touch k) = u at *
  go_upto_region 6 with (fail)
  generalize w4.heap.size = z at *
  generalize w4.alloc (.cells #[.int .i64 (u.most : Int), .int .i64 (u.sk.wide : Int), .int .u64 (u.sk.seed : Int), .slice (some ⟨a1.R, 0, none⟩) 4 a1.c, .slice (some ⟨a1.D, 0, none⟩) u.sk.wide u.sk.wide, .int .i64 (u.sk.added : Int), .slice (some ⟨a1.G, 0, none⟩) 3 3, .int .i64 (u.pl : Int)] 36) = w5 at *
  have h5 := h4.drewN 1
  have hb5 : Blk (w5.drewN 1) z 36 #[.int .i64 (u.most : Int), .int .i64 (u.sk.wide : Int), .int .u64 (u.sk.seed : Int), .slice (some ⟨a1.R, 0, none⟩) 4 a1.c, .slice (some ⟨a1.D, 0, none⟩) u.sk.wide u.sk.wide, .int .i64 (u.sk.added : Int), .slice (some ⟨a1.G, 0, none⟩) 3 3, .int .i64 (u.pl : Int)] := hb4
  have hS5 : (w5.drewN 1).cell? ⟨z, 0, none⟩ = some (.int .i64 (u.most : Int)) ∧ (w5.drewN 1).cell? ⟨z, 1, none⟩ = some (.int .i64 (u.sk.wide : Int)) ∧ (w5.drewN 1).cell? ⟨z, 2, none⟩ = some (.int .u64 (u.sk.seed : Int)) ∧ (w5.drewN 1).cell? ⟨z, 3, none⟩ = some (.slice (some ⟨a1.R, 0, none⟩) 4 a1.c) ∧ (w5.drewN 1).cell? ⟨z, 4, none⟩ = some (.slice (some ⟨a1.D, 0, none⟩) u.sk.wide u.sk.wide) ∧ (w5.drewN 1).cell? ⟨z, 5, none⟩ = some (.int .i64 (u.sk.added : Int)) ∧ (w5.drewN 1).cell? ⟨z, 6, none⟩ = some (.slice (some ⟨a1.G, 0, none⟩) 3 3) ∧ (w5.drewN 1).cell? ⟨z, 7, none⟩ = some (.int .i64 (u.pl : Int)) := ⟨hb5.cell 0, hb5.cell 1, hb5.cell 2, hb5.cell 3, hb5.cell 4, hb5.cell 5, hb5.cell 6, hb5.cell 7⟩
  have fp := touchT_c (k := k) hfl hOk h5.two.h
  rw [hug] at fp
  clear h4 hb4
  refine region_only 10 #[false, false, false, false, false, false, false, false, false, false] (S := (fun W => W.cell? ⟨z, 0, none⟩ = some (.int .i64 (u.most : Int)) ∧ W.cell? ⟨z, 1, none⟩ = some (.int .i64 (u.sk.wide : Int)) ∧ W.cell? ⟨z, 2, none⟩ = some (.int .u64 (u.sk.seed : Int)) ∧ W.cell? ⟨z, 3, none⟩ = some (.slice (some ⟨a1.R, 0, none⟩) 4 a1.c) ∧ W.cell? ⟨z, 4, none⟩ = some (.slice (some ⟨a1.D, 0, none⟩) u.sk.wide u.sk.wide) ∧ W.cell? ⟨z, 5, none⟩ = some (.int .i64 (u.sk.added : Int)) ∧ W.cell? ⟨z, 6, none⟩ = some (.slice (some ⟨a1.G, 0, none⟩) 3 3) ∧ W.cell? ⟨z, 7, none⟩ = some (.int .i64 (u.pl : Int)))) rfl rfl (by kernel_rfl) hS5 (fun hSw => ?_)
  refine take_at 0 37 (fuel := 9) ?_ rfl rfl (by kernel_rfl) (by kernel_rfl) (by kernel_rfl) (Or.inl ⟨by rfl, ?_⟩) hSw ?_
  rotate_left
  · intro wx hSx
    (try dsimp only at hSx)
    go_split_ands
    go_simp
    (try with_reducible rfl)
  simp only [List.setIfInBounds_toArray, List.set_cons_zero, List.set_cons_succ]
  refine take_at 1 38 (fuel := 8) ?_ rfl rfl (by kernel_rfl) (by kernel_rfl) (by kernel_rfl) (Or.inl ⟨by rfl, ?_⟩) hSw ?_
  rotate_left
  · intro wx hSx
    (try dsimp only at hSx)
    go_split_ands
    go_simp
    (try with_reducible rfl)
  simp only [List.setIfInBounds_toArray, List.set_cons_zero, List.set_cons_succ]
  refine take_at 2 39 (fuel := 7) ?_ rfl rfl (by kernel_rfl) (by kernel_rfl) (by kernel_rfl) (Or.inl ⟨by rfl, ?_⟩) hSw ?_
  rotate_left
  · intro wx hSx
    (try dsimp only at hSx)
    go_split_ands
    go_simp
    (try with_reducible rfl)
  simp only [List.setIfInBounds_toArray, List.set_cons_zero, List.set_cons_succ]
  refine take_at 3 40 (fuel := 6) ?_ rfl rfl (by kernel_rfl) (by kernel_rfl) (by kernel_rfl) (Or.inl ⟨by rfl, ?_⟩) hSw ?_
  rotate_left
  · intro wx hSx
    (try dsimp only at hSx)
    go_split_ands
    go_simp
    (try with_reducible rfl)
  simp only [List.setIfInBounds_toArray, List.set_cons_zero, List.set_cons_succ]
  refine take_at 5 42 (fuel := 5) ?_ rfl rfl (by kernel_rfl) (by kernel_rfl) (by kernel_rfl) (Or.inl ⟨by rfl, ?_⟩) hSw ?_
  rotate_left
  · intro wx hSx
    (try dsimp only at hSx)
    go_split_ands
    go_simp
    (try with_reducible rfl)
  simp only [List.setIfInBounds_toArray, List.set_cons_zero, List.set_cons_succ]
  refine wpAnyH_ready (fuel := 4) (rs := [4]) (by kernel_rfl) (by simp) (AllReadyH.cons rfl (fun K hK => ?_) AllReadyH.nil)
  go_simp
  refine Calls.mono (fp) ?_
  rintro e wv ⟨rfl, m', hHv, hSt⟩
  have hb6 : Blk wv z 36 #[.int .i64 (u.most : Int), .int .i64 (u.sk.wide : Int), .int .u64 (u.sk.seed : Int), .slice (some ⟨a1.R, 0, none⟩) 4 a1.c, .slice (some ⟨a1.D, 0, none⟩) u.sk.wide u.sk.wide, .int .i64 (u.sk.added : Int), .slice (some ⟨a1.G, 0, none⟩) 3 3, .int .i64 (u.pl : Int)] := (hs4.kp hSt hb5.lt).trans hb5
  have h6 := h5.step HN.out hHv hSt
  have hb7 : Blk ((((((((wv.setCell ⟨w.heap.size + 2, 0, none⟩ (.int .i64 (u.most : Int))).setCell ⟨w.heap.size + 2, 1, none⟩ (.int .i64 (u.sk.wide : Int))).setCell ⟨w.heap.size + 2, 2, none⟩ (.int .u64 (u.sk.seed : Int))).setCell ⟨w.heap.size + 2, 3, none⟩ (.slice (some ⟨a1.R, 0, none⟩) 4 a1.c)).setCell ⟨w.heap.size + 2, 4, none⟩ (.slice (some ⟨a1.D, 0, none⟩) u.sk.wide u.sk.wide)).setCell ⟨w.heap.size + 2, 5, none⟩ (.int .i64 (u.sk.added : Int))).setCell ⟨w.heap.size + 2, 6, none⟩ (.slice (some ⟨a1.G, 0, none⟩) 3 3)).setCell ⟨w.heap.size + 2, 7, none⟩ (.int .i64 (u.pl : Int))) z 36 #[.int .i64 (u.most : Int), .int .i64 (u.sk.wide : Int), .int .u64 (u.sk.seed : Int), .slice (some ⟨a1.R, 0, none⟩) 4 a1.c, .slice (some ⟨a1.D, 0, none⟩) u.sk.wide u.sk.wide, .int .i64 (u.sk.added : Int), .slice (some ⟨a1.G, 0, none⟩) 3 3, .int .i64 (u.pl : Int)] := (far8 wv hq2 _ _ _ _ _ _ _ _).trans hb6
  clear h5 hb5 hS5 fp
  have z0 := h6.res.cell 0
  have z1 := h6.res.cell 1
  have z2 := h6.res.cell 2
  have z3 := h6.res.cell 3
  have z4 := h6.res.cell 4
  have z5 := h6.res.cell 5
  have z6 := h6.res.cell 6
  have z7 := h6.res.cell 7
  have f0 := h6.res.free 0
  have f1 := h6.res.free 1
  have f2 := h6.res.free 2
  have f3 := h6.res.free 3
  have f4 := h6.res.free 4
  have f5 := h6.res.free 5
  have f6 := h6.res.free 6
  have f7 := h6.res.free 7
  simp only [List.getElem?_toArray, List.getElem?_cons_zero, List.getElem?_cons_succ] at z0 z1 z2 z3 z4 z5 z6 z7
  refine hK.out _ _ ⟨hb6.cell 0, hb6.cell 1, hb6.cell 2, hb6.cell 3, hb6.cell 4, hb6.cell 5, hb6.cell 6, hb6.cell 7⟩ (fun hSw => ?_)
  clear hK K
  simp only [List.setIfInBounds_toArray, List.set_cons_zero, List.set_cons_succ]
  refine take_at 6 43 (fuel := 3) ?_ rfl rfl (by kernel_rfl) (by kernel_rfl) (by kernel_rfl) (Or.inl ⟨by rfl, ?_⟩) hSw ?_
  rotate_left
  · intro wx hSx
    (try dsimp only at hSx)
    go_split_ands
    go_simp
    (try with_reducible rfl)
  simp only [List.setIfInBounds_toArray, List.set_cons_zero, List.set_cons_succ]
  refine take_at 7 6 (fuel := 2) ?_ rfl rfl (by kernel_rfl) (by kernel_rfl) (by kernel_rfl) (Or.inl ⟨by rfl, ?_⟩) hSw ?_
  rotate_left
  · intro wx hSx
    (try dsimp only at hSx)
    go_split_ands
    go_simp
    (try with_reducible rfl)
  simp only [List.setIfInBounds_toArray, List.set_cons_zero, List.set_cons_succ]
  refine wpAnyH_ready (fuel := 1) (rs := [8]) (by kernel_rfl) (by simp) (AllReadyH.cons rfl (fun K hK => ?_) AllReadyH.nil)
  go_simp
  refine hK.out _ _ ⟨hb7.cell 0, hb7.cell 1, hb7.cell 2, hb7.cell 3, hb7.cell 4, hb7.cell 5, hb7.cell 6, hb7.cell 7⟩ (fun hSw => ?_)
  clear hK K
  simp only [List.setIfInBounds_toArray, List.set_cons_zero, List.set_cons_succ]
  refine take_at 9 8 (fuel := 0) ?_ rfl rfl (by kernel_rfl) (by kernel_rfl) (by kernel_rfl) (Or.inl ⟨by rfl, ?_⟩) hSw ?_
  rotate_left
  · intro wx hSx
    (try dsimp only at hSx)
    go_split_ands
    go_simp
    (try with_reducible rfl)
  simp only [List.setIfInBounds_toArray, List.set_cons_zero, List.set_cons_succ]
  refine wpAnyH_done (by kernel_rfl) ⟨rfl, ?_⟩ 0
  clear hSw hb7 hb6 hHv hSt
  clear z0 f0 z1 f1 z2 f2 z3 f3 z4 f4 z5 f5 z6 f6 z7 f7
  obtain ⟨hT9, hB, hKD⟩ := h6.fin HN.out
  generalize ((((((((wv.setCell ⟨w.heap.size + 2, 0, none⟩ (.int .i64 (u.most : Int))).setCell ⟨w.heap.size + 2, 1, none⟩ (.int .i64 (u.sk.wide : Int))).setCell ⟨w.heap.size + 2, 2, none⟩ (.int .u64 (u.sk.seed : Int))).setCell ⟨w.heap.size + 2, 3, none⟩ (.slice (some ⟨a1.R, 0, none⟩) 4 a1.c)).setCell ⟨w.heap.size + 2, 4, none⟩ (.slice (some ⟨a1.D, 0, none⟩) u.sk.wide u.sk.wide)).setCell ⟨w.heap.size + 2, 5, none⟩ (.int .i64 (u.sk.added : Int))).setCell ⟨w.heap.size + 2, 6, none⟩ (.slice (some ⟨a1.G, 0, none⟩) 3 3)).setCell ⟨w.heap.size + 2, 7, none⟩ (.int .i64 (u.pl : Int))) = w9 at *
  clear h6
  go_wp2_with fail
  (try simp only [Exit.inBlock, Exit.then])
  refine bodyPost_ret (results_tmp_row_tmp rfl _ _ (w.heap.size + 2) rfl (run_loadVar_row _ _ _ _ _ _ _ hB Tryz.underlying36 rfl (by kernel_rfl))) rfl ?_
  exact ⟨A, B, _, _, a1, rfl, hT9, hKD⟩
set_option maxHeartbeats 8000000 in
set_option maxRecDepth 100000 in
theorem do_touch5 (T : List UInt8) (hT : T.length ≤ maxLen) (hf : v.Fine) (hOk : v.Ok) (hK : ∀ q, K q → q < w.heap.size ∧ Side m A B a q) (h : Two w0 A B P m v v a w) :
    Calls Tryz.prog 7 #[.pointer (some ⟨A, 0, none⟩), .agg #[.int .i64 (v.most : Int), .int .i64 (v.sk.wide : Int), .int .u64 (v.sk.seed : Int), .slice (some ⟨a.R, 0, none⟩) 4 a.c, .slice (some ⟨a.D, 0, none⟩) v.sk.wide v.sk.wide, .int .i64 (v.sk.added : Int), .slice (some ⟨a.G, 0, none⟩) 3 3, .int .i64 (v.pl : Int)], .agg #[.int .i64 5, .string (str T)]] w (DoP w0 K w (v.touch (fewL T))) := by
  have h1 := Ds.new (p := .int .i64 5) (q := .string (str T)) hK h
  have hact := act_blk (p := .int .i64 5) (q := .string (str T)) (x := w.alloc (.cells #[.int .i64 (v.most : Int), .int .i64 (v.sk.wide : Int), .int .u64 (v.sk.seed : Int), .slice (some ⟨a.R, 0, none⟩) 4 a.c, .slice (some ⟨a.D, 0, none⟩) v.sk.wide v.sk.wide, .int .i64 (v.sk.added : Int), .slice (some ⟨a.G, 0, none⟩) 3 3, .int .i64 (v.pl : Int)] 36))
  rw [show (w.alloc (.cells #[.int .i64 (v.most : Int), .int .i64 (v.sk.wide : Int), .int .u64 (v.sk.seed : Int), .slice (some ⟨a.R, 0, none⟩) 4 a.c, .slice (some ⟨a.D, 0, none⟩) v.sk.wide v.sk.wide, .int .i64 (v.sk.added : Int), .slice (some ⟨a.G, 0, none⟩) 3 3, .int .i64 (v.pl : Int)] 36)).heap.size = w.heap.size + 1 by simp] at hact
  have hfl := few_le8 T
  have hfw := fun W => fewT_c T hT W
  clear h hK
  go_enter Tryz.func7, Tryz.ntmps7
  go_upto_region 1 with (fail)
  generalize ((w.alloc (.cells #[.int .i64 (v.most : Int), .int .i64 (v.sk.wide : Int), .int .u64 (v.sk.seed : Int), .slice (some ⟨a.R, 0, none⟩) 4 a.c, .slice (some ⟨a.D, 0, none⟩) v.sk.wide v.sk.wide, .int .i64 (v.sk.added : Int), .slice (some ⟨a.G, 0, none⟩) 3 3, .int .i64 (v.pl : Int)] 36)).alloc (.cells #[.int .i64 5, .string (str T)] 42)).alloc (.cells #[.int .i64 0, .int .i64 0, .int .u64 0, .slice none 0 0, .slice none 0 0, .int .i64 0, .slice none 0 0, .int .i64 0] 36) = w1 at *
  obtain ⟨k0, k1⟩ := hact
  generalize hkk : fewL T = k at *
  go_wp2_with fail
  refine (hfw _).mono ?_
  rintro e w' ⟨rfl, rfl⟩
  clear hkk hfw
  obtain ⟨⟨x0, x1, x2, x3, x4, x5, x6, x7⟩, -⟩ := h1.all
  have HN := Lib.hid (Tv.touch_spec hOk k).1.fit.n
  have fd := rtouch_c (k := k) hf hOk w1 h1.two.d
  go_wp2_with fail
  refine fd.mono ?_
  rintro e w4 ⟨a1, rfl, hg⟩
  have h4 := (h1.goes hg).onto ((Below.refl _ w4).alloc (Nat.le_refl _) (.cells #[.int .i64 ((v.touch k).most : Int), .int .i64 ((v.touch k).sk.wide : Int), .int .u64 ((v.touch k).sk.seed : Int), .slice (some ⟨a1.R, 0, none⟩) 4 a1.c, .slice (some ⟨a1.D, 0, none⟩) (v.touch k).sk.wide (v.touch k).sk.wide, .int .i64 ((v.touch k).sk.added : Int), .slice (some ⟨a1.G, 0, none⟩) 3 3, .int .i64 ((v.touch k).pl : Int)] 36))
  have hb4 := Blk.new w4 36 #[.int .i64 ((v.touch k).most : Int), .int .i64 ((v.touch k).sk.wide : Int), .int .u64 ((v.touch k).sk.seed : Int), .slice (some ⟨a1.R, 0, none⟩) 4 a1.c, .slice (some ⟨a1.D, 0, none⟩) (v.touch k).sk.wide (v.touch k).sk.wide, .int .i64 ((v.touch k).sk.added : Int), .slice (some ⟨a1.G, 0, none⟩) 3 3, .int .i64 ((v.touch k).pl : Int)]
  have hs4 := (h1.goes hg).two.fresh HN.out (q := w4.heap.size) (Nat.le_refl _)
  have hq2 : w4.heap.size ≠ w.heap.size + 2 := by have := (h1.goes hg).hi; omega
  clear x0 x1 x2 x3 x4 x5 x6 x7 k0 k1
  clear fd h1 hg
  generalize hug : (v.touch k) = u at *
  go_upto_region 6 with (fail)
  generalize w4.heap.size = z at *
  generalize w4.alloc (.cells #[.int .i64 (u.most : Int), .int .i64 (u.sk.wide : Int), .int .u64 (u.sk.seed : Int), .slice (some ⟨a1.R, 0, none⟩) 4 a1.c, .slice (some ⟨a1.D, 0, none⟩) u.sk.wide u.sk.wide, .int .i64 (u.sk.added : Int), .slice (some ⟨a1.G, 0, none⟩) 3 3, .int .i64 (u.pl : Int)] 36) = w5 at *
  have h5 := h4.drewN 1
  have hb5 : Blk (w5.drewN 1) z 36 #[.int .i64 (u.most : Int), .int .i64 (u.sk.wide : Int), .int .u64 (u.sk.seed : Int), .slice (some ⟨a1.R, 0, none⟩) 4 a1.c, .slice (some ⟨a1.D, 0, none⟩) u.sk.wide u.sk.wide, .int .i64 (u.sk.added : Int), .slice (some ⟨a1.G, 0, none⟩) 3 3, .int .i64 (u.pl : Int)] := hb4
  have hS5 : (w5.drewN 1).cell? ⟨z, 0, none⟩ = some (.int .i64 (u.most : Int)) ∧ (w5.drewN 1).cell? ⟨z, 1, none⟩ = some (.int .i64 (u.sk.wide : Int)) ∧ (w5.drewN 1).cell? ⟨z, 2, none⟩ = some (.int .u64 (u.sk.seed : Int)) ∧ (w5.drewN 1).cell? ⟨z, 3, none⟩ = some (.slice (some ⟨a1.R, 0, none⟩) 4 a1.c) ∧ (w5.drewN 1).cell? ⟨z, 4, none⟩ = some (.slice (some ⟨a1.D, 0, none⟩) u.sk.wide u.sk.wide) ∧ (w5.drewN 1).cell? ⟨z, 5, none⟩ = some (.int .i64 (u.sk.added : Int)) ∧ (w5.drewN 1).cell? ⟨z, 6, none⟩ = some (.slice (some ⟨a1.G, 0, none⟩) 3 3) ∧ (w5.drewN 1).cell? ⟨z, 7, none⟩ = some (.int .i64 (u.pl : Int)) := ⟨hb5.cell 0, hb5.cell 1, hb5.cell 2, hb5.cell 3, hb5.cell 4, hb5.cell 5, hb5.cell 6, hb5.cell 7⟩
  have fp := touchT_c (k := k) hfl hOk h5.two.h
  rw [hug] at fp
  clear h4 hb4
  refine region_only 10 #[false, false, false, false, false, false, false, false, false, false] (S := (fun W => W.cell? ⟨z, 0, none⟩ = some (.int .i64 (u.most : Int)) ∧ W.cell? ⟨z, 1, none⟩ = some (.int .i64 (u.sk.wide : Int)) ∧ W.cell? ⟨z, 2, none⟩ = some (.int .u64 (u.sk.seed : Int)) ∧ W.cell? ⟨z, 3, none⟩ = some (.slice (some ⟨a1.R, 0, none⟩) 4 a1.c) ∧ W.cell? ⟨z, 4, none⟩ = some (.slice (some ⟨a1.D, 0, none⟩) u.sk.wide u.sk.wide) ∧ W.cell? ⟨z, 5, none⟩ = some (.int .i64 (u.sk.added : Int)) ∧ W.cell? ⟨z, 6, none⟩ = some (.slice (some ⟨a1.G, 0, none⟩) 3 3) ∧ W.cell? ⟨z, 7, none⟩ = some (.int .i64 (u.pl : Int)))) rfl rfl (by kernel_rfl) hS5 (fun hSw => ?_)
  refine take_at 0 37 (fuel := 9) ?_ rfl rfl (by kernel_rfl) (by kernel_rfl) (by kernel_rfl) (Or.inl ⟨by rfl, ?_⟩) hSw ?_
  rotate_left
  · intro wx hSx
    (try dsimp only at hSx)
    go_split_ands
    go_simp
    (try with_reducible rfl)
  simp only [List.setIfInBounds_toArray, List.set_cons_zero, List.set_cons_succ]
  refine take_at 1 38 (fuel := 8) ?_ rfl rfl (by kernel_rfl) (by kernel_rfl) (by kernel_rfl) (Or.inl ⟨by rfl, ?_⟩) hSw ?_
  rotate_left
  · intro wx hSx
    (try dsimp only at hSx)
    go_split_ands
    go_simp
    (try with_reducible rfl)
  simp only [List.setIfInBounds_toArray, List.set_cons_zero, List.set_cons_succ]
  refine take_at 2 39 (fuel := 7) ?_ rfl rfl (by kernel_rfl) (by kernel_rfl) (by kernel_rfl) (Or.inl ⟨by rfl, ?_⟩) hSw ?_
  rotate_left
  · intro wx hSx
    (try dsimp only at hSx)
    go_split_ands
    go_simp
    (try with_reducible rfl)
  simp only [List.setIfInBounds_toArray, List.set_cons_zero, List.set_cons_succ]
  refine take_at 3 40 (fuel := 6) ?_ rfl rfl (by kernel_rfl) (by kernel_rfl) (by kernel_rfl) (Or.inl ⟨by rfl, ?_⟩) hSw ?_
  rotate_left
  · intro wx hSx
    (try dsimp only at hSx)
    go_split_ands
    go_simp
    (try with_reducible rfl)
  simp only [List.setIfInBounds_toArray, List.set_cons_zero, List.set_cons_succ]
  refine take_at 5 42 (fuel := 5) ?_ rfl rfl (by kernel_rfl) (by kernel_rfl) (by kernel_rfl) (Or.inl ⟨by rfl, ?_⟩) hSw ?_
  rotate_left
  · intro wx hSx
    (try dsimp only at hSx)
    go_split_ands
    go_simp
    (try with_reducible rfl)
  simp only [List.setIfInBounds_toArray, List.set_cons_zero, List.set_cons_succ]
  refine wpAnyH_ready (fuel := 4) (rs := [4]) (by kernel_rfl) (by simp) (AllReadyH.cons rfl (fun K hK => ?_) AllReadyH.nil)
  go_simp
  refine Calls.mono (fp) ?_
  rintro e wv ⟨rfl, m', hHv, hSt⟩
  have hb6 : Blk wv z 36 #[.int .i64 (u.most : Int), .int .i64 (u.sk.wide : Int), .int .u64 (u.sk.seed : Int), .slice (some ⟨a1.R, 0, none⟩) 4 a1.c, .slice (some ⟨a1.D, 0, none⟩) u.sk.wide u.sk.wide, .int .i64 (u.sk.added : Int), .slice (some ⟨a1.G, 0, none⟩) 3 3, .int .i64 (u.pl : Int)] := (hs4.kp hSt hb5.lt).trans hb5
  have h6 := h5.step HN.out hHv hSt
  have hb7 : Blk ((((((((wv.setCell ⟨w.heap.size + 2, 0, none⟩ (.int .i64 (u.most : Int))).setCell ⟨w.heap.size + 2, 1, none⟩ (.int .i64 (u.sk.wide : Int))).setCell ⟨w.heap.size + 2, 2, none⟩ (.int .u64 (u.sk.seed : Int))).setCell ⟨w.heap.size + 2, 3, none⟩ (.slice (some ⟨a1.R, 0, none⟩) 4 a1.c)).setCell ⟨w.heap.size + 2, 4, none⟩ (.slice (some ⟨a1.D, 0, none⟩) u.sk.wide u.sk.wide)).setCell ⟨w.heap.size + 2, 5, none⟩ (.int .i64 (u.sk.added : Int))).setCell ⟨w.heap.size + 2, 6, none⟩ (.slice (some ⟨a1.G, 0, none⟩) 3 3)).setCell ⟨w.heap.size + 2, 7, none⟩ (.int .i64 (u.pl : Int))) z 36 #[.int .i64 (u.most : Int), .int .i64 (u.sk.wide : Int), .int .u64 (u.sk.seed : Int), .slice (some ⟨a1.R, 0, none⟩) 4 a1.c, .slice (some ⟨a1.D, 0, none⟩) u.sk.wide u.sk.wide, .int .i64 (u.sk.added : Int), .slice (some ⟨a1.G, 0, none⟩) 3 3, .int .i64 (u.pl : Int)] := (far8 wv hq2 _ _ _ _ _ _ _ _).trans hb6
  clear h5 hb5 hS5 fp
  have z0 := h6.res.cell 0
  have z1 := h6.res.cell 1
  have z2 := h6.res.cell 2
  have z3 := h6.res.cell 3
  have z4 := h6.res.cell 4
  have z5 := h6.res.cell 5
  have z6 := h6.res.cell 6
  have z7 := h6.res.cell 7
  have f0 := h6.res.free 0
  have f1 := h6.res.free 1
  have f2 := h6.res.free 2
  have f3 := h6.res.free 3
  have f4 := h6.res.free 4
  have f5 := h6.res.free 5
  have f6 := h6.res.free 6
  have f7 := h6.res.free 7
  simp only [List.getElem?_toArray, List.getElem?_cons_zero, List.getElem?_cons_succ] at z0 z1 z2 z3 z4 z5 z6 z7
  refine hK.out _ _ ⟨hb6.cell 0, hb6.cell 1, hb6.cell 2, hb6.cell 3, hb6.cell 4, hb6.cell 5, hb6.cell 6, hb6.cell 7⟩ (fun hSw => ?_)
  clear hK K
  simp only [List.setIfInBounds_toArray, List.set_cons_zero, List.set_cons_succ]
  refine take_at 6 43 (fuel := 3) ?_ rfl rfl (by kernel_rfl) (by kernel_rfl) (by kernel_rfl) (Or.inl ⟨by rfl, ?_⟩) hSw ?_
  rotate_left
  · intro wx hSx
    (try dsimp only at hSx)
    go_split_ands
    go_simp
    (try with_reducible rfl)
  simp only [List.setIfInBounds_toArray, List.set_cons_zero, List.set_cons_succ]
  refine take_at 7 6 (fuel := 2) ?_ rfl rfl (by kernel_rfl) (by kernel_rfl) (by kernel_rfl) (Or.inl ⟨by rfl, ?_⟩) hSw ?_
  rotate_left
  · intro wx hSx
    (try dsimp only at hSx)
    go_split_ands
    go_simp
    (try with_reducible rfl)
  simp only [List.setIfInBounds_toArray, List.set_cons_zero, List.set_cons_succ]
  refine wpAnyH_ready (fuel := 1) (rs := [8]) (by kernel_rfl) (by simp) (AllReadyH.cons rfl (fun K hK => ?_) AllReadyH.nil)
  go_simp
  refine hK.out _ _ ⟨hb7.cell 0, hb7.cell 1, hb7.cell 2, hb7.cell 3, hb7.cell 4, hb7.cell 5, hb7.cell 6, hb7.cell 7⟩ (fun hSw => ?_)
  clear hK K
  simp only [List.setIfInBounds_toArray, List.set_cons_zero, List.set_cons_succ]
  refine take_at 9 8 (fuel := 0) ?_ rfl rfl (by kernel_rfl) (by kernel_rfl) (by kernel_rfl) (Or.inl ⟨by rfl, ?_⟩) hSw ?_
  rotate_left
  · intro wx hSx
    (try dsimp only at hSx)
    go_split_ands
    go_simp
    (try with_reducible rfl)
  simp only [List.setIfInBounds_toArray, List.set_cons_zero, List.set_cons_succ]
  refine wpAnyH_done (by kernel_rfl) ⟨rfl, ?_⟩ 0
  clear hSw hb7 hb6 hHv hSt
  clear z0 f0 z1 f1 z2 f2 z3 f3 z4 f4 z5 f5 z6 f6 z7 f7
  obtain ⟨hT9, hB, hKD⟩ := h6.fin HN.out
  generalize ((((((((wv.setCell ⟨w.heap.size + 2, 0, none⟩ (.int .i64 (u.most : Int))).setCell ⟨w.heap.size + 2, 1, none⟩ (.int .i64 (u.sk.wide : Int))).setCell ⟨w.heap.size + 2, 2, none⟩ (.int .u64 (u.sk.seed : Int))).setCell ⟨w.heap.size + 2, 3, none⟩ (.slice (some ⟨a1.R, 0, none⟩) 4 a1.c)).setCell ⟨w.heap.size + 2, 4, none⟩ (.slice (some ⟨a1.D, 0, none⟩) u.sk.wide u.sk.wide)).setCell ⟨w.heap.size + 2, 5, none⟩ (.int .i64 (u.sk.added : Int))).setCell ⟨w.heap.size + 2, 6, none⟩ (.slice (some ⟨a1.G, 0, none⟩) 3 3)).setCell ⟨w.heap.size + 2, 7, none⟩ (.int .i64 (u.pl : Int))) = w9 at *
  clear h6
  go_wp2_with fail
  (try simp only [Exit.inBlock, Exit.then])
  refine bodyPost_ret (results_tmp_row_tmp rfl _ _ (w.heap.size + 2) rfl (run_loadVar_row _ _ _ _ _ _ _ hB Tryz.underlying36 rfl (by kernel_rfl))) rfl ?_
  exact ⟨A, B, _, _, a1, rfl, hT9, hKD⟩
set_option maxHeartbeats 8000000 in
set_option maxRecDepth 100000 in
theorem do_remove (T : List UInt8) (hT : T.length ≤ maxLen) (hf : v.Fine) (hOk : v.Ok) (hK : ∀ q, K q → q < w.heap.size ∧ Side m A B a q) (h : Two w0 A B P m v v a w) :
    Calls Tryz.prog 7 #[.pointer (some ⟨A, 0, none⟩), .agg #[.int .i64 (v.most : Int), .int .i64 (v.sk.wide : Int), .int .u64 (v.sk.seed : Int), .slice (some ⟨a.R, 0, none⟩) 4 a.c, .slice (some ⟨a.D, 0, none⟩) v.sk.wide v.sk.wide, .int .i64 (v.sk.added : Int), .slice (some ⟨a.G, 0, none⟩) 3 3, .int .i64 (v.pl : Int)], .agg #[.int .i64 6, .string (str T)]] w (DoP w0 K w (v.dr (fewL T))) := by
  have h1 := Ds.new (p := .int .i64 6) (q := .string (str T)) hK h
  have hact := act_blk (p := .int .i64 6) (q := .string (str T)) (x := w.alloc (.cells #[.int .i64 (v.most : Int), .int .i64 (v.sk.wide : Int), .int .u64 (v.sk.seed : Int), .slice (some ⟨a.R, 0, none⟩) 4 a.c, .slice (some ⟨a.D, 0, none⟩) v.sk.wide v.sk.wide, .int .i64 (v.sk.added : Int), .slice (some ⟨a.G, 0, none⟩) 3 3, .int .i64 (v.pl : Int)] 36))
  rw [show (w.alloc (.cells #[.int .i64 (v.most : Int), .int .i64 (v.sk.wide : Int), .int .u64 (v.sk.seed : Int), .slice (some ⟨a.R, 0, none⟩) 4 a.c, .slice (some ⟨a.D, 0, none⟩) v.sk.wide v.sk.wide, .int .i64 (v.sk.added : Int), .slice (some ⟨a.G, 0, none⟩) 3 3, .int .i64 (v.pl : Int)] 36)).heap.size = w.heap.size + 1 by simp] at hact
  have hfl := few_le8 T
  have hfw := fun W => fewT_c T hT W
  clear h hK
  go_enter Tryz.func7, Tryz.ntmps7
  go_upto_region 1 with (fail)
  generalize ((w.alloc (.cells #[.int .i64 (v.most : Int), .int .i64 (v.sk.wide : Int), .int .u64 (v.sk.seed : Int), .slice (some ⟨a.R, 0, none⟩) 4 a.c, .slice (some ⟨a.D, 0, none⟩) v.sk.wide v.sk.wide, .int .i64 (v.sk.added : Int), .slice (some ⟨a.G, 0, none⟩) 3 3, .int .i64 (v.pl : Int)] 36)).alloc (.cells #[.int .i64 6, .string (str T)] 42)).alloc (.cells #[.int .i64 0, .int .i64 0, .int .u64 0, .slice none 0 0, .slice none 0 0, .int .i64 0, .slice none 0 0, .int .i64 0] 36) = w1 at *
  obtain ⟨k0, k1⟩ := hact
  generalize hkk : fewL T = k at *
  go_wp2_with fail
  refine (hfw _).mono ?_
  rintro e w' ⟨rfl, rfl⟩
  clear hkk hfw
  obtain ⟨⟨x0, x1, x2, x3, x4, x5, x6, x7⟩, -⟩ := h1.all
  have HN := Lib.hid (hf.dr k).fit.n
  have _hOk := hOk
  have fd := rremove_c (k := k) hf w1 h1.two.d
  go_wp2_with fail
  refine fd.mono ?_
  rintro e w4 ⟨a1, rfl, hg⟩
  have h4 := (h1.goes hg).onto ((Below.refl _ w4).alloc (Nat.le_refl _) (.cells #[.int .i64 ((v.dr k).most : Int), .int .i64 ((v.dr k).sk.wide : Int), .int .u64 ((v.dr k).sk.seed : Int), .slice (some ⟨a1.R, 0, none⟩) 4 a1.c, .slice (some ⟨a1.D, 0, none⟩) (v.dr k).sk.wide (v.dr k).sk.wide, .int .i64 ((v.dr k).sk.added : Int), .slice (some ⟨a1.G, 0, none⟩) 3 3, .int .i64 ((v.dr k).pl : Int)] 36))
  have hb4 := Blk.new w4 36 #[.int .i64 ((v.dr k).most : Int), .int .i64 ((v.dr k).sk.wide : Int), .int .u64 ((v.dr k).sk.seed : Int), .slice (some ⟨a1.R, 0, none⟩) 4 a1.c, .slice (some ⟨a1.D, 0, none⟩) (v.dr k).sk.wide (v.dr k).sk.wide, .int .i64 ((v.dr k).sk.added : Int), .slice (some ⟨a1.G, 0, none⟩) 3 3, .int .i64 ((v.dr k).pl : Int)]
  have hs4 := (h1.goes hg).two.fresh HN.out (q := w4.heap.size) (Nat.le_refl _)
  have hq2 : w4.heap.size ≠ w.heap.size + 2 := by have := (h1.goes hg).hi; omega
  clear x0 x1 x2 x3 x4 x5 x6 x7 k0 k1
  clear fd h1 hg
  generalize hug : (v.dr k) = u at *
  go_upto_region 9 with (fail)
  generalize w4.heap.size = z at *
  generalize w4.alloc (.cells #[.int .i64 (u.most : Int), .int .i64 (u.sk.wide : Int), .int .u64 (u.sk.seed : Int), .slice (some ⟨a1.R, 0, none⟩) 4 a1.c, .slice (some ⟨a1.D, 0, none⟩) u.sk.wide u.sk.wide, .int .i64 (u.sk.added : Int), .slice (some ⟨a1.G, 0, none⟩) 3 3, .int .i64 (u.pl : Int)] 36) = w5 at *
  have h5 := h4.drewN 1
  have hb5 : Blk (w5.drewN 1) z 36 #[.int .i64 (u.most : Int), .int .i64 (u.sk.wide : Int), .int .u64 (u.sk.seed : Int), .slice (some ⟨a1.R, 0, none⟩) 4 a1.c, .slice (some ⟨a1.D, 0, none⟩) u.sk.wide u.sk.wide, .int .i64 (u.sk.added : Int), .slice (some ⟨a1.G, 0, none⟩) 3 3, .int .i64 (u.pl : Int)] := hb4
  have hS5 : (w5.drewN 1).cell? ⟨z, 0, none⟩ = some (.int .i64 (u.most : Int)) ∧ (w5.drewN 1).cell? ⟨z, 1, none⟩ = some (.int .i64 (u.sk.wide : Int)) ∧ (w5.drewN 1).cell? ⟨z, 2, none⟩ = some (.int .u64 (u.sk.seed : Int)) ∧ (w5.drewN 1).cell? ⟨z, 3, none⟩ = some (.slice (some ⟨a1.R, 0, none⟩) 4 a1.c) ∧ (w5.drewN 1).cell? ⟨z, 4, none⟩ = some (.slice (some ⟨a1.D, 0, none⟩) u.sk.wide u.sk.wide) ∧ (w5.drewN 1).cell? ⟨z, 5, none⟩ = some (.int .i64 (u.sk.added : Int)) ∧ (w5.drewN 1).cell? ⟨z, 6, none⟩ = some (.slice (some ⟨a1.G, 0, none⟩) 3 3) ∧ (w5.drewN 1).cell? ⟨z, 7, none⟩ = some (.int .i64 (u.pl : Int)) := ⟨hb5.cell 0, hb5.cell 1, hb5.cell 2, hb5.cell 3, hb5.cell 4, hb5.cell 5, hb5.cell 6, hb5.cell 7⟩
  have fp := removeT_c (k := k) hfl h5.two.h
  rw [hug] at fp
  clear h4 hb4
  refine region_only 10 #[false, false, false, false, false, false, false, false, false, false] (S := (fun W => W.cell? ⟨z, 0, none⟩ = some (.int .i64 (u.most : Int)) ∧ W.cell? ⟨z, 1, none⟩ = some (.int .i64 (u.sk.wide : Int)) ∧ W.cell? ⟨z, 2, none⟩ = some (.int .u64 (u.sk.seed : Int)) ∧ W.cell? ⟨z, 3, none⟩ = some (.slice (some ⟨a1.R, 0, none⟩) 4 a1.c) ∧ W.cell? ⟨z, 4, none⟩ = some (.slice (some ⟨a1.D, 0, none⟩) u.sk.wide u.sk.wide) ∧ W.cell? ⟨z, 5, none⟩ = some (.int .i64 (u.sk.added : Int)) ∧ W.cell? ⟨z, 6, none⟩ = some (.slice (some ⟨a1.G, 0, none⟩) 3 3) ∧ W.cell? ⟨z, 7, none⟩ = some (.int .i64 (u.pl : Int)))) rfl rfl (by kernel_rfl) hS5 (fun hSw => ?_)
  refine take_at 0 52 (fuel := 9) ?_ rfl rfl (by kernel_rfl) (by kernel_rfl) (by kernel_rfl) (Or.inl ⟨by rfl, ?_⟩) hSw ?_
  rotate_left
  · intro wx hSx
    (try dsimp only at hSx)
    go_split_ands
    go_simp
    (try with_reducible rfl)
  simp only [List.setIfInBounds_toArray, List.set_cons_zero, List.set_cons_succ]
  refine take_at 1 53 (fuel := 8) ?_ rfl rfl (by kernel_rfl) (by kernel_rfl) (by kernel_rfl) (Or.inl ⟨by rfl, ?_⟩) hSw ?_
  rotate_left
  · intro wx hSx
    (try dsimp only at hSx)
    go_split_ands
    go_simp
    (try with_reducible rfl)
  simp only [List.setIfInBounds_toArray, List.set_cons_zero, List.set_cons_succ]
  refine take_at 2 54 (fuel := 7) ?_ rfl rfl (by kernel_rfl) (by kernel_rfl) (by kernel_rfl) (Or.inl ⟨by rfl, ?_⟩) hSw ?_
  rotate_left
  · intro wx hSx
    (try dsimp only at hSx)
    go_split_ands
    go_simp
    (try with_reducible rfl)
  simp only [List.setIfInBounds_toArray, List.set_cons_zero, List.set_cons_succ]
  refine take_at 3 55 (fuel := 6) ?_ rfl rfl (by kernel_rfl) (by kernel_rfl) (by kernel_rfl) (Or.inl ⟨by rfl, ?_⟩) hSw ?_
  rotate_left
  · intro wx hSx
    (try dsimp only at hSx)
    go_split_ands
    go_simp
    (try with_reducible rfl)
  simp only [List.setIfInBounds_toArray, List.set_cons_zero, List.set_cons_succ]
  refine take_at 5 57 (fuel := 5) ?_ rfl rfl (by kernel_rfl) (by kernel_rfl) (by kernel_rfl) (Or.inl ⟨by rfl, ?_⟩) hSw ?_
  rotate_left
  · intro wx hSx
    (try dsimp only at hSx)
    go_split_ands
    go_simp
    (try with_reducible rfl)
  simp only [List.setIfInBounds_toArray, List.set_cons_zero, List.set_cons_succ]
  refine wpAnyH_ready (fuel := 4) (rs := [4]) (by kernel_rfl) (by simp) (AllReadyH.cons rfl (fun K hK => ?_) AllReadyH.nil)
  go_simp
  refine Calls.mono (fp) ?_
  rintro e wv ⟨rfl, m', hHv, hSt⟩
  have hb6 : Blk wv z 36 #[.int .i64 (u.most : Int), .int .i64 (u.sk.wide : Int), .int .u64 (u.sk.seed : Int), .slice (some ⟨a1.R, 0, none⟩) 4 a1.c, .slice (some ⟨a1.D, 0, none⟩) u.sk.wide u.sk.wide, .int .i64 (u.sk.added : Int), .slice (some ⟨a1.G, 0, none⟩) 3 3, .int .i64 (u.pl : Int)] := (hs4.kp hSt hb5.lt).trans hb5
  have h6 := h5.step HN.out hHv hSt
  have hb7 : Blk ((((((((wv.setCell ⟨w.heap.size + 2, 0, none⟩ (.int .i64 (u.most : Int))).setCell ⟨w.heap.size + 2, 1, none⟩ (.int .i64 (u.sk.wide : Int))).setCell ⟨w.heap.size + 2, 2, none⟩ (.int .u64 (u.sk.seed : Int))).setCell ⟨w.heap.size + 2, 3, none⟩ (.slice (some ⟨a1.R, 0, none⟩) 4 a1.c)).setCell ⟨w.heap.size + 2, 4, none⟩ (.slice (some ⟨a1.D, 0, none⟩) u.sk.wide u.sk.wide)).setCell ⟨w.heap.size + 2, 5, none⟩ (.int .i64 (u.sk.added : Int))).setCell ⟨w.heap.size + 2, 6, none⟩ (.slice (some ⟨a1.G, 0, none⟩) 3 3)).setCell ⟨w.heap.size + 2, 7, none⟩ (.int .i64 (u.pl : Int))) z 36 #[.int .i64 (u.most : Int), .int .i64 (u.sk.wide : Int), .int .u64 (u.sk.seed : Int), .slice (some ⟨a1.R, 0, none⟩) 4 a1.c, .slice (some ⟨a1.D, 0, none⟩) u.sk.wide u.sk.wide, .int .i64 (u.sk.added : Int), .slice (some ⟨a1.G, 0, none⟩) 3 3, .int .i64 (u.pl : Int)] := (far8 wv hq2 _ _ _ _ _ _ _ _).trans hb6
  clear h5 hb5 hS5 fp
  have z0 := h6.res.cell 0
  have z1 := h6.res.cell 1
  have z2 := h6.res.cell 2
  have z3 := h6.res.cell 3
  have z4 := h6.res.cell 4
  have z5 := h6.res.cell 5
  have z6 := h6.res.cell 6
  have z7 := h6.res.cell 7
  have f0 := h6.res.free 0
  have f1 := h6.res.free 1
  have f2 := h6.res.free 2
  have f3 := h6.res.free 3
  have f4 := h6.res.free 4
  have f5 := h6.res.free 5
  have f6 := h6.res.free 6
  have f7 := h6.res.free 7
  simp only [List.getElem?_toArray, List.getElem?_cons_zero, List.getElem?_cons_succ] at z0 z1 z2 z3 z4 z5 z6 z7
  refine hK.out _ _ ⟨hb6.cell 0, hb6.cell 1, hb6.cell 2, hb6.cell 3, hb6.cell 4, hb6.cell 5, hb6.cell 6, hb6.cell 7⟩ (fun hSw => ?_)
  clear hK K
  simp only [List.setIfInBounds_toArray, List.set_cons_zero, List.set_cons_succ]
  refine take_at 6 58 (fuel := 3) ?_ rfl rfl (by kernel_rfl) (by kernel_rfl) (by kernel_rfl) (Or.inl ⟨by rfl, ?_⟩) hSw ?_
  rotate_left
  · intro wx hSx
    (try dsimp only at hSx)
    go_split_ands
    go_simp
    (try with_reducible rfl)
  simp only [List.setIfInBounds_toArray, List.set_cons_zero, List.set_cons_succ]
  refine take_at 7 6 (fuel := 2) ?_ rfl rfl (by kernel_rfl) (by kernel_rfl) (by kernel_rfl) (Or.inl ⟨by rfl, ?_⟩) hSw ?_
  rotate_left
  · intro wx hSx
    (try dsimp only at hSx)
    go_split_ands
    go_simp
    (try with_reducible rfl)
  simp only [List.setIfInBounds_toArray, List.set_cons_zero, List.set_cons_succ]
  refine wpAnyH_ready (fuel := 1) (rs := [8]) (by kernel_rfl) (by simp) (AllReadyH.cons rfl (fun K hK => ?_) AllReadyH.nil)
  go_simp
  refine hK.out _ _ ⟨hb7.cell 0, hb7.cell 1, hb7.cell 2, hb7.cell 3, hb7.cell 4, hb7.cell 5, hb7.cell 6, hb7.cell 7⟩ (fun hSw => ?_)
  clear hK K
  simp only [List.setIfInBounds_toArray, List.set_cons_zero, List.set_cons_succ]
  refine take_at 9 8 (fuel := 0) ?_ rfl rfl (by kernel_rfl) (by kernel_rfl) (by kernel_rfl) (Or.inl ⟨by rfl, ?_⟩) hSw ?_
  rotate_left
  · intro wx hSx
    (try dsimp only at hSx)
    go_split_ands
    go_simp
    (try with_reducible rfl)
  simp only [List.setIfInBounds_toArray, List.set_cons_zero, List.set_cons_succ]
  refine wpAnyH_done (by kernel_rfl) ⟨rfl, ?_⟩ 0
  clear hSw hb7 hb6 hHv hSt
  clear z0 f0 z1 f1 z2 f2 z3 f3 z4 f4 z5 f5 z6 f6 z7 f7
  obtain ⟨hT9, hB, hKD⟩ := h6.fin HN.out
  generalize ((((((((wv.setCell ⟨w.heap.size + 2, 0, none⟩ (.int .i64 (u.most : Int))).setCell ⟨w.heap.size + 2, 1, none⟩ (.int .i64 (u.sk.wide : Int))).setCell ⟨w.heap.size + 2, 2, none⟩ (.int .u64 (u.sk.seed : Int))).setCell ⟨w.heap.size + 2, 3, none⟩ (.slice (some ⟨a1.R, 0, none⟩) 4 a1.c)).setCell ⟨w.heap.size + 2, 4, none⟩ (.slice (some ⟨a1.D, 0, none⟩) u.sk.wide u.sk.wide)).setCell ⟨w.heap.size + 2, 5, none⟩ (.int .i64 (u.sk.added : Int))).setCell ⟨w.heap.size + 2, 6, none⟩ (.slice (some ⟨a1.G, 0, none⟩) 3 3)).setCell ⟨w.heap.size + 2, 7, none⟩ (.int .i64 (u.pl : Int))) = w9 at *
  clear h6
  go_wp2_with fail
  (try simp only [Exit.inBlock, Exit.then])
  refine bodyPost_ret (results_tmp_row_tmp rfl _ _ (w.heap.size + 2) rfl (run_loadVar_row _ _ _ _ _ _ _ hB Tryz.underlying36 rfl (by kernel_rfl))) rfl ?_
  exact ⟨A, B, _, _, a1, rfl, hT9, hKD⟩
set_option maxHeartbeats 8000000 in
set_option maxRecDepth 100000 in
theorem do_miss (T : List UInt8) (hT : T.length ≤ maxLen) (hf : v.Fine) (hOk : v.Ok) (hK : ∀ q, K q → q < w.heap.size ∧ Side m A B a q) (h : Two w0 A B P m v v a w) :
    Calls Tryz.prog 7 #[.pointer (some ⟨A, 0, none⟩), .agg #[.int .i64 (v.most : Int), .int .i64 (v.sk.wide : Int), .int .u64 (v.sk.seed : Int), .slice (some ⟨a.R, 0, none⟩) 4 a.c, .slice (some ⟨a.D, 0, none⟩) v.sk.wide v.sk.wide, .int .i64 (v.sk.added : Int), .slice (some ⟨a.G, 0, none⟩) 3 3, .int .i64 (v.pl : Int)], .agg #[.int .i64 8, .string (str T)]] w (DoP w0 K w (v.miss (fewL T))) := by
  have h1 := Ds.new (p := .int .i64 8) (q := .string (str T)) hK h
  have hact := act_blk (p := .int .i64 8) (q := .string (str T)) (x := w.alloc (.cells #[.int .i64 (v.most : Int), .int .i64 (v.sk.wide : Int), .int .u64 (v.sk.seed : Int), .slice (some ⟨a.R, 0, none⟩) 4 a.c, .slice (some ⟨a.D, 0, none⟩) v.sk.wide v.sk.wide, .int .i64 (v.sk.added : Int), .slice (some ⟨a.G, 0, none⟩) 3 3, .int .i64 (v.pl : Int)] 36))
  rw [show (w.alloc (.cells #[.int .i64 (v.most : Int), .int .i64 (v.sk.wide : Int), .int .u64 (v.sk.seed : Int), .slice (some ⟨a.R, 0, none⟩) 4 a.c, .slice (some ⟨a.D, 0, none⟩) v.sk.wide v.sk.wide, .int .i64 (v.sk.added : Int), .slice (some ⟨a.G, 0, none⟩) 3 3, .int .i64 (v.pl : Int)] 36)).heap.size = w.heap.size + 1 by simp] at hact
  have hfl := few_le8 T
  have hfw := fun W => fewT_c T hT W
  clear h hK
  go_enter Tryz.func7, Tryz.ntmps7
  go_upto_region 1 with (fail)
  generalize ((w.alloc (.cells #[.int .i64 (v.most : Int), .int .i64 (v.sk.wide : Int), .int .u64 (v.sk.seed : Int), .slice (some ⟨a.R, 0, none⟩) 4 a.c, .slice (some ⟨a.D, 0, none⟩) v.sk.wide v.sk.wide, .int .i64 (v.sk.added : Int), .slice (some ⟨a.G, 0, none⟩) 3 3, .int .i64 (v.pl : Int)] 36)).alloc (.cells #[.int .i64 8, .string (str T)] 42)).alloc (.cells #[.int .i64 0, .int .i64 0, .int .u64 0, .slice none 0 0, .slice none 0 0, .int .i64 0, .slice none 0 0, .int .i64 0] 36) = w1 at *
  obtain ⟨k0, k1⟩ := hact
  generalize hkk : fewL T = k at *
  go_wp2_with fail
  refine (hfw _).mono ?_
  rintro e w' ⟨rfl, rfl⟩
  clear hkk hfw
  obtain ⟨⟨x0, x1, x2, x3, x4, x5, x6, x7⟩, -⟩ := h1.all
  have HN := Lib.hid (Tv.miss_ok hOk k).1.fit.n
  have HN0 := Lib.hid hf.fit.n
  have fp := missT_c (k := k) hfl h1.two.h
  have fd := fun W (h : Dt W v a) => rmiss_c (k := k) hf hfl W h
  go_wp2_with fail
  refine fp.mono ?_
  rintro e w4 ⟨rfl, hHv, hSt⟩
  have h4 := h1.step HN0.out hHv hSt
  clear fp h1 hHv hSt
  clear x0 x1 x2 x3 x4 x5 x6 x7 k0 k1
  obtain ⟨⟨x0, x1, x2, x3, x4, x5, x6, x7⟩, -⟩ := h4.all
  go_wp2_with fail
  refine (fd _ h4.two.d).mono ?_
  rintro e w5 ⟨a1, rfl, hg⟩
  have h6 := h4.goes hg
  clear h4 hg fd x0 x1 x2 x3 x4 x5 x6 x7
  generalize v.miss k = u at *
  have z0 := h6.res.cell 0
  have z1 := h6.res.cell 1
  have z2 := h6.res.cell 2
  have z3 := h6.res.cell 3
  have z4 := h6.res.cell 4
  have z5 := h6.res.cell 5
  have z6 := h6.res.cell 6
  have z7 := h6.res.cell 7
  have f0 := h6.res.free 0
  have f1 := h6.res.free 1
  have f2 := h6.res.free 2
  have f3 := h6.res.free 3
  have f4 := h6.res.free 4
  have f5 := h6.res.free 5
  have f6 := h6.res.free 6
  have f7 := h6.res.free 7
  simp only [List.getElem?_toArray, List.getElem?_cons_zero, List.getElem?_cons_succ] at z0 z1 z2 z3 z4 z5 z6 z7
  go_wp2_with fail
  obtain ⟨hT9, hB, hKD⟩ := h6.fin HN.out
  (try simp only [Exit.inBlock, Exit.then])
  refine bodyPost_ret (results_tmp_row_tmp rfl _ _ (w.heap.size + 2) rfl (run_loadVar_row _ _ _ _ _ _ _ hB Tryz.underlying36 rfl (by kernel_rfl))) rfl ?_
  exact ⟨A, B, _, _, a1, rfl, hT9, hKD⟩
end
end Go.Proofs.YtgfpedcdclgmiaaGreat.Tinyy

namespace Go.Proofs.YtgfpedcdclgmiaaGreat.Tinyy
open Go.ChangeShapes Go.WideShapes Go.ChangeAt Go.RowKit Go.Shelf
open Wirey (Blk Row str str_size str_list str_cat Kp)
open Ringy Go.ChangeMaps Go.Maps
open Sketchy (Sk Six)

section
theorem blk_drew {x : World} {b : Nat} {t : TypeId} {cs : Array Value} (h : Blk x b t cs) : Blk x.drew b t cs := h
variable {w0 w x y : World} {A B P : Nat} {m m' : Rm} {v v' u u' v0 : Tv} {a a' a0 : Ad} {k : Key} {K : Nat → Prop} {i j : Nat}
set_option maxHeartbeats 8000000 in
set_option maxRecDepth 100000 in
theorem do_evict (T : List UInt8) (hT : T.length ≤ maxLen) (hf : v.Fine) (hOk : v.Ok) (hK : ∀ q, K q → q < w.heap.size ∧ Side m A B a q) (h : Two w0 A B P m v v a w) :
    Calls Tryz.prog 7 #[.pointer (some ⟨A, 0, none⟩), .agg #[.int .i64 (v.most : Int), .int .i64 (v.sk.wide : Int), .int .u64 (v.sk.seed : Int), .slice (some ⟨a.R, 0, none⟩) 4 a.c, .slice (some ⟨a.D, 0, none⟩) v.sk.wide v.sk.wide, .int .i64 (v.sk.added : Int), .slice (some ⟨a.G, 0, none⟩) 3 3, .int .i64 (v.pl : Int)], .agg #[.int .i64 7, .string (str T)]] w (DoP w0 K w v.evict) := by
  have h1 := Ds.new (p := .int .i64 7) (q := .string (str T)) hK h
  have hact := act_blk (p := .int .i64 7) (q := .string (str T)) (x := w.alloc (.cells #[.int .i64 (v.most : Int), .int .i64 (v.sk.wide : Int), .int .u64 (v.sk.seed : Int), .slice (some ⟨a.R, 0, none⟩) 4 a.c, .slice (some ⟨a.D, 0, none⟩) v.sk.wide v.sk.wide, .int .i64 (v.sk.added : Int), .slice (some ⟨a.G, 0, none⟩) 3 3, .int .i64 (v.pl : Int)] 36))
  rw [show (w.alloc (.cells #[.int .i64 (v.most : Int), .int .i64 (v.sk.wide : Int), .int .u64 (v.sk.seed : Int), .slice (some ⟨a.R, 0, none⟩) 4 a.c, .slice (some ⟨a.D, 0, none⟩) v.sk.wide v.sk.wide, .int .i64 (v.sk.added : Int), .slice (some ⟨a.G, 0, none⟩) 3 3, .int .i64 (v.pl : Int)] 36)).heap.size = w.heap.size + 1 by simp] at hact
  have hfl := few_le8 T
  have hfw := fun W => fewT_c T hT W
  clear h hK
  go_enter Tryz.func7, Tryz.ntmps7
  go_upto_region 1 with (fail)
  generalize ((w.alloc (.cells #[.int .i64 (v.most : Int), .int .i64 (v.sk.wide : Int), .int .u64 (v.sk.seed : Int), .slice (some ⟨a.R, 0, none⟩) 4 a.c, .slice (some ⟨a.D, 0, none⟩) v.sk.wide v.sk.wide, .int .i64 (v.sk.added : Int), .slice (some ⟨a.G, 0, none⟩) 3 3, .int .i64 (v.pl : Int)] 36)).alloc (.cells #[.int .i64 7, .string (str T)] 42)).alloc (.cells #[.int .i64 0, .int .i64 0, .int .u64 0, .slice none 0 0, .slice none 0 0, .int .i64 0, .slice none 0 0, .int .i64 0] 36) = w1 at *
  obtain ⟨k0, k1⟩ := hact
  generalize hkk : fewL T = k at *
  go_wp2_with fail
  refine (hfw _).mono ?_
  rintro e w' ⟨rfl, rfl⟩
  clear hkk hfw
  obtain ⟨⟨x0, x1, x2, x3, x4, x5, x6, x7⟩, -⟩ := h1.all
  have HN := Lib.hid (Tv.evict_ok hOk).1.fit.n
  have fd := revict_c hf w1 h1.two.d
  have fe := fun W m (h : HeldT w0 A B P W m v) => evictT_c h
  generalize v.evict = u at *
  generalize v.goes.getD [] = t at *
  generalize v.goes.isSome = bb at *
  go_wp2_with fail
  refine fd.mono ?_
  rintro e w4 ⟨a1, rfl, hg⟩
  have h4 := (h1.goes hg).onto ((Below.refl _ w4).alloc (Nat.le_refl _) (.cells #[.int .i64 (u.most : Int), .int .i64 (u.sk.wide : Int), .int .u64 (u.sk.seed : Int), .slice (some ⟨a1.R, 0, none⟩) 4 a1.c, .slice (some ⟨a1.D, 0, none⟩) u.sk.wide u.sk.wide, .int .i64 (u.sk.added : Int), .slice (some ⟨a1.G, 0, none⟩) 3 3, .int .i64 (u.pl : Int)] 36))
  have hb4 := Blk.new w4 36 #[.int .i64 (u.most : Int), .int .i64 (u.sk.wide : Int), .int .u64 (u.sk.seed : Int), .slice (some ⟨a1.R, 0, none⟩) 4 a1.c, .slice (some ⟨a1.D, 0, none⟩) u.sk.wide u.sk.wide, .int .i64 (u.sk.added : Int), .slice (some ⟨a1.G, 0, none⟩) 3 3, .int .i64 (u.pl : Int)]
  have hs4 := (h1.goes hg).two.fresh HN.out (q := w4.heap.size) (Nat.le_refl _)
  have hq2 : w4.heap.size ≠ w.heap.size + 2 := by have := (h1.goes hg).hi; omega
  clear x0 x1 x2 x3 x4 x5 x6 x7 k0 k1
  clear fd h1 hg
  go_upto_region 12 with (fail)
  generalize w4.heap.size = z at *
  generalize w4.alloc (.cells #[.int .i64 (u.most : Int), .int .i64 (u.sk.wide : Int), .int .u64 (u.sk.seed : Int), .slice (some ⟨a1.R, 0, none⟩) 4 a1.c, .slice (some ⟨a1.D, 0, none⟩) u.sk.wide u.sk.wide, .int .i64 (u.sk.added : Int), .slice (some ⟨a1.G, 0, none⟩) 3 3, .int .i64 (u.pl : Int)] 36) = w5 at *
  go_wp2_with fail
  refine (fe _ _ h4.two.h).mono ?_
  rintro e w6 ⟨rfl, m', hHv, hSt⟩
  have hb6 : Blk w6 z 36 #[.int .i64 (u.most : Int), .int .i64 (u.sk.wide : Int), .int .u64 (u.sk.seed : Int), .slice (some ⟨a1.R, 0, none⟩) 4 a1.c, .slice (some ⟨a1.D, 0, none⟩) u.sk.wide u.sk.wide, .int .i64 (u.sk.added : Int), .slice (some ⟨a1.G, 0, none⟩) 3 3, .int .i64 (u.pl : Int)] := (hs4.kp hSt hb4.lt).trans hb4
  have h6 := h4.step HN.out hHv hSt
  have htl := Wirey.toList_str
  clear h4 hb4 hHv hSt fe
  go_upto_region 13 with (fail)
  have hb7 : Blk ((((((((w6.setCell ⟨w.heap.size + 2, 0, none⟩ (.int .i64 (u.most : Int))).setCell ⟨w.heap.size + 2, 1, none⟩ (.int .i64 (u.sk.wide : Int))).setCell ⟨w.heap.size + 2, 2, none⟩ (.int .u64 (u.sk.seed : Int))).setCell ⟨w.heap.size + 2, 3, none⟩ (.slice (some ⟨a1.R, 0, none⟩) 4 a1.c)).setCell ⟨w.heap.size + 2, 4, none⟩ (.slice (some ⟨a1.D, 0, none⟩) u.sk.wide u.sk.wide)).setCell ⟨w.heap.size + 2, 5, none⟩ (.int .i64 (u.sk.added : Int))).setCell ⟨w.heap.size + 2, 6, none⟩ (.slice (some ⟨a1.G, 0, none⟩) 3 3)).setCell ⟨w.heap.size + 2, 7, none⟩ (.int .i64 (u.pl : Int))) z 36 #[.int .i64 (u.most : Int), .int .i64 (u.sk.wide : Int), .int .u64 (u.sk.seed : Int), .slice (some ⟨a1.R, 0, none⟩) 4 a1.c, .slice (some ⟨a1.D, 0, none⟩) u.sk.wide u.sk.wide, .int .i64 (u.sk.added : Int), .slice (some ⟨a1.G, 0, none⟩) 3 3, .int .i64 (u.pl : Int)] := (far8 w6 hq2 _ _ _ _ _ _ _ _).trans hb6
  have hb8 := blk_drew hb7
  have hr7 : Blk w6.drew (w.heap.size + 2) 36 #[.int .i64 0, .int .i64 0, .int .u64 0, .slice none 0 0, .slice none 0 0, .int .i64 0, .slice none 0 0, .int .i64 0] := h6.res
  have hS5 : w6.drew.cell? ⟨z, 0, none⟩ = some (.int .i64 (u.most : Int)) ∧ w6.drew.cell? ⟨z, 1, none⟩ = some (.int .i64 (u.sk.wide : Int)) ∧ w6.drew.cell? ⟨z, 2, none⟩ = some (.int .u64 (u.sk.seed : Int)) ∧ w6.drew.cell? ⟨z, 3, none⟩ = some (.slice (some ⟨a1.R, 0, none⟩) 4 a1.c) ∧ w6.drew.cell? ⟨z, 4, none⟩ = some (.slice (some ⟨a1.D, 0, none⟩) u.sk.wide u.sk.wide) ∧ w6.drew.cell? ⟨z, 5, none⟩ = some (.int .i64 (u.sk.added : Int)) ∧ w6.drew.cell? ⟨z, 6, none⟩ = some (.slice (some ⟨a1.G, 0, none⟩) 3 3) ∧ w6.drew.cell? ⟨z, 7, none⟩ = some (.int .i64 (u.pl : Int)) := ⟨hb6.cell 0, hb6.cell 1, hb6.cell 2, hb6.cell 3, hb6.cell 4, hb6.cell 5, hb6.cell 6, hb6.cell 7⟩
  have z0 := hr7.cell 0
  have z1 := hr7.cell 1
  have z2 := hr7.cell 2
  have z3 := hr7.cell 3
  have z4 := hr7.cell 4
  have z5 := hr7.cell 5
  have z6 := hr7.cell 6
  have z7 := hr7.cell 7
  have f0 := hr7.free 0
  have f1 := hr7.free 1
  have f2 := hr7.free 2
  have f3 := hr7.free 3
  have f4 := hr7.free 4
  have f5 := hr7.free 5
  have f6 := hr7.free 6
  have f7 := hr7.free 7
  simp only [List.getElem?_toArray, List.getElem?_cons_zero, List.getElem?_cons_succ] at z0 z1 z2 z3 z4 z5 z6 z7
  have r0 := h6.res.cell 0
  have r1 := h6.res.cell 1
  have r2 := h6.res.cell 2
  have r3 := h6.res.cell 3
  have r4 := h6.res.cell 4
  have r5 := h6.res.cell 5
  have r6 := h6.res.cell 6
  have r7 := h6.res.cell 7
  have s0 := h6.res.free 0
  have s1 := h6.res.free 1
  have s2 := h6.res.free 2
  have s3 := h6.res.free 3
  have s4 := h6.res.free 4
  have s5 := h6.res.free 5
  have s6 := h6.res.free 6
  have s7 := h6.res.free 7
  simp only [List.getElem?_toArray, List.getElem?_cons_zero, List.getElem?_cons_succ] at r0 r1 r2 r3 r4 r5 r6 r7
  refine region_only 13 #[false, false, false, false, false, false, false, false, false, false, false, false, false] (S := (fun W => W.cell? ⟨z, 0, none⟩ = some (.int .i64 (u.most : Int)) ∧ W.cell? ⟨z, 1, none⟩ = some (.int .i64 (u.sk.wide : Int)) ∧ W.cell? ⟨z, 2, none⟩ = some (.int .u64 (u.sk.seed : Int)) ∧ W.cell? ⟨z, 3, none⟩ = some (.slice (some ⟨a1.R, 0, none⟩) 4 a1.c) ∧ W.cell? ⟨z, 4, none⟩ = some (.slice (some ⟨a1.D, 0, none⟩) u.sk.wide u.sk.wide) ∧ W.cell? ⟨z, 5, none⟩ = some (.int .i64 (u.sk.added : Int)) ∧ W.cell? ⟨z, 6, none⟩ = some (.slice (some ⟨a1.G, 0, none⟩) 3 3) ∧ W.cell? ⟨z, 7, none⟩ = some (.int .i64 (u.pl : Int)))) rfl rfl (by kernel_rfl) hS5 (fun hSw => ?_)
  refine take_at 0 72 (fuel := 12) ?_ rfl rfl (by kernel_rfl) (by kernel_rfl) (by kernel_rfl) (Or.inl ⟨by rfl, ?_⟩) hSw ?_
  rotate_left
  · intro wx hSx
    (try dsimp only at hSx)
    go_split_ands
    go_simp
    (try with_reducible rfl)
  simp only [List.setIfInBounds_toArray, List.set_cons_zero, List.set_cons_succ]
  refine take_at 1 73 (fuel := 11) ?_ rfl rfl (by kernel_rfl) (by kernel_rfl) (by kernel_rfl) (Or.inl ⟨by rfl, ?_⟩) hSw ?_
  rotate_left
  · intro wx hSx
    (try dsimp only at hSx)
    go_split_ands
    go_simp
    (try with_reducible rfl)
  simp only [List.setIfInBounds_toArray, List.set_cons_zero, List.set_cons_succ]
  refine take_at 2 74 (fuel := 10) ?_ rfl rfl (by kernel_rfl) (by kernel_rfl) (by kernel_rfl) (Or.inl ⟨by rfl, ?_⟩) hSw ?_
  rotate_left
  · intro wx hSx
    (try dsimp only at hSx)
    go_split_ands
    go_simp
    (try with_reducible rfl)
  simp only [List.setIfInBounds_toArray, List.set_cons_zero, List.set_cons_succ]
  refine take_at 3 75 (fuel := 9) ?_ rfl rfl (by kernel_rfl) (by kernel_rfl) (by kernel_rfl) (Or.inl ⟨by rfl, ?_⟩) hSw ?_
  rotate_left
  · intro wx hSx
    (try dsimp only at hSx)
    go_split_ands
    go_simp
    (try with_reducible rfl)
  simp only [List.setIfInBounds_toArray, List.set_cons_zero, List.set_cons_succ]
  refine take_at 4 76 (fuel := 8) ?_ rfl rfl (by kernel_rfl) (by kernel_rfl) (by kernel_rfl) (Or.inl ⟨by rfl, ?_⟩) hSw ?_
  rotate_left
  · intro wx hSx
    (try dsimp only at hSx)
    go_split_ands
    go_simp
    (try with_reducible rfl)
  simp only [List.setIfInBounds_toArray, List.set_cons_zero, List.set_cons_succ]
  refine take_at 5 77 (fuel := 7) ?_ rfl rfl (by kernel_rfl) (by kernel_rfl) (by kernel_rfl) (Or.inl ⟨by rfl, ?_⟩) hSw ?_
  rotate_left
  · intro wx hSx
    (try dsimp only at hSx)
    go_split_ands
    go_simp
    (try with_reducible rfl)
  simp only [List.setIfInBounds_toArray, List.set_cons_zero, List.set_cons_succ]
  refine take_at 6 78 (fuel := 6) ?_ rfl rfl (by kernel_rfl) (by kernel_rfl) (by kernel_rfl) (Or.inl ⟨by rfl, ?_⟩) hSw ?_
  rotate_left
  · intro wx hSx
    (try dsimp only at hSx)
    go_split_ands
    go_simp
    (try with_reducible rfl)
  simp only [List.setIfInBounds_toArray, List.set_cons_zero, List.set_cons_succ]
  refine take_at 7 79 (fuel := 5) ?_ rfl rfl (by kernel_rfl) (by kernel_rfl) (by kernel_rfl) (Or.inl ⟨by rfl, ?_⟩) hSw ?_
  rotate_left
  · intro wx hSx
    (try dsimp only at hSx)
    go_split_ands
    go_simp
    (try with_reducible rfl)
  simp only [List.setIfInBounds_toArray, List.set_cons_zero, List.set_cons_succ]
  refine take_at 8 80 (fuel := 4) ?_ rfl rfl (by kernel_rfl) (by kernel_rfl) (by kernel_rfl) (Or.inl ⟨by rfl, ?_⟩) hSw ?_
  rotate_left
  · intro wx hSx
    (try dsimp only at hSx)
    go_split_ands
    go_simp
    (try with_reducible rfl)
  simp only [List.setIfInBounds_toArray, List.set_cons_zero, List.set_cons_succ]
  refine take_at 9 81 (fuel := 3) ?_ rfl rfl (by kernel_rfl) (by kernel_rfl) (by kernel_rfl) (Or.inl ⟨by rfl, ?_⟩) hSw ?_
  rotate_left
  · intro wx hSx
    (try dsimp only at hSx)
    go_split_ands
    go_simp
    (try with_reducible rfl)
  simp only [List.setIfInBounds_toArray, List.set_cons_zero, List.set_cons_succ]
  refine take_at 10 6 (fuel := 2) ?_ rfl rfl (by kernel_rfl) (by kernel_rfl) (by kernel_rfl) (Or.inl ⟨by rfl, ?_⟩) hSw ?_
  rotate_left
  · intro wx hSx
    (try dsimp only at hSx)
    go_split_ands
    go_simp
    (try with_reducible rfl)
  simp only [List.setIfInBounds_toArray, List.set_cons_zero, List.set_cons_succ]
  refine wpAnyH_ready (fuel := 1) (rs := [11]) (by kernel_rfl) (by simp) (AllReadyH.cons rfl (fun K hK => ?_) AllReadyH.nil)
  go_simp
  refine hK.out _ _ ⟨hb8.cell 0, hb8.cell 1, hb8.cell 2, hb8.cell 3, hb8.cell 4, hb8.cell 5, hb8.cell 6, hb8.cell 7⟩ (fun hSw => ?_)
  clear hK K
  simp only [List.setIfInBounds_toArray, List.set_cons_zero, List.set_cons_succ]
  refine take_at 12 8 (fuel := 0) ?_ rfl rfl (by kernel_rfl) (by kernel_rfl) (by kernel_rfl) (Or.inl ⟨by rfl, ?_⟩) hSw ?_
  rotate_left
  · intro wx hSx
    (try dsimp only at hSx)
    go_split_ands
    go_simp
    (try with_reducible rfl)
  simp only [List.setIfInBounds_toArray, List.set_cons_zero, List.set_cons_succ]
  refine wpAnyH_done (by kernel_rfl) ⟨rfl, ?_⟩ 0
  clear hSw hS5 hb8 hb7 hb6 hr7
  clear z0 f0 z1 f1 z2 f2 z3 f3 z4 f4 z5 f5 z6 f6 z7 f7
  clear r0 s0 r1 s1 r2 s2 r3 s3 r4 s4 r5 s5 r6 s6 r7 s7
  obtain ⟨hT9, hB9, hKD9⟩ := h6.fin HN.out
  generalize ((((((((w6.setCell ⟨w.heap.size + 2, 0, none⟩ (.int .i64 (u.most : Int))).setCell ⟨w.heap.size + 2, 1, none⟩ (.int .i64 (u.sk.wide : Int))).setCell ⟨w.heap.size + 2, 2, none⟩ (.int .u64 (u.sk.seed : Int))).setCell ⟨w.heap.size + 2, 3, none⟩ (.slice (some ⟨a1.R, 0, none⟩) 4 a1.c)).setCell ⟨w.heap.size + 2, 4, none⟩ (.slice (some ⟨a1.D, 0, none⟩) u.sk.wide u.sk.wide)).setCell ⟨w.heap.size + 2, 5, none⟩ (.int .i64 (u.sk.added : Int))).setCell ⟨w.heap.size + 2, 6, none⟩ (.slice (some ⟨a1.G, 0, none⟩) 3 3)).setCell ⟨w.heap.size + 2, 7, none⟩ (.int .i64 (u.pl : Int))) = w9 at *
  have hT : Two w0 A B P m' u u a1 w9.drew := hT9.drewN 1
  have hB : Blk w9.drew (w.heap.size + 2) 36 #[.int .i64 (u.most : Int), .int .i64 (u.sk.wide : Int), .int .u64 (u.sk.seed : Int), .slice (some ⟨a1.R, 0, none⟩) 4 a1.c, .slice (some ⟨a1.D, 0, none⟩) u.sk.wide u.sk.wide, .int .i64 (u.sk.added : Int), .slice (some ⟨a1.G, 0, none⟩) 3 3, .int .i64 (u.pl : Int)] := hB9
  have hKD : ∀ q, K q → w9.drew.heap[q]? = w.heap[q]? ∧ Side m' A B a1 q := hKD9
  clear hT9 hB9 hKD9 h6
  generalize w9.drew = wz at *
  go_wp2_with fail
  (try simp only [Exit.inBlock, Exit.then])
  refine bodyPost_ret (results_tmp_row_tmp rfl _ _ (w.heap.size + 2) rfl (run_loadVar_row _ _ _ _ _ _ _ hB Tryz.underlying36 rfl (by kernel_rfl))) rfl ?_
  exact ⟨A, B, _, _, a1, rfl, hT, hKD⟩
end
end Go.Proofs.YtgfpedcdclgmiaaGreat.Tinyy

namespace Go.Proofs.YtgfpedcdclgmiaaGreat.Tinyy
open Go.ChangeShapes Go.WideShapes Go.ChangeAt Go.RowKit Go.Shelf
open Wirey (Blk Row str str_size str_list str_cat Kp)
open Ringy Go.ChangeMaps Go.Maps
open Sketchy (Sk Six)

section
variable {w0 w x y : World} {A B P : Nat} {m m' : Rm} {v v' u u' v0 : Tv} {a a' a0 : Ad} {k : Key} {K : Nat → Prop} {i j : Nat}
set_option maxHeartbeats 8000000 in
set_option maxRecDepth 100000 in
theorem do_insert (T : List UInt8) (hT : T.length ≤ maxLen) (q : Int) (b4 : (q == 4) = false) (b5 : (q == 5) = false) (b6 : (q == 6) = false) (b7 : (q == 7) = false) (b8 : (q == 8) = false) (b9 : (q == 9) = false) (hf : v.Fine) (hOk : v.Ok) (hK : ∀ q, K q → q < w.heap.size ∧ Side m A B a q) (h : Two w0 A B P m v v a w) :
    Calls Tryz.prog 7 #[.pointer (some ⟨A, 0, none⟩), .agg #[.int .i64 (v.most : Int), .int .i64 (v.sk.wide : Int), .int .u64 (v.sk.seed : Int), .slice (some ⟨a.R, 0, none⟩) 4 a.c, .slice (some ⟨a.D, 0, none⟩) v.sk.wide v.sk.wide, .int .i64 (v.sk.added : Int), .slice (some ⟨a.G, 0, none⟩) 3 3, .int .i64 (v.pl : Int)], .agg #[.int .i64 q, .string (str T)]] w (DoP w0 K w (v.insert (fewL T))) := by
  have h1 := Ds.new (p := .int .i64 q) (q := .string (str T)) hK h
  have hact := act_blk (p := .int .i64 q) (q := .string (str T)) (x := w.alloc (.cells #[.int .i64 (v.most : Int), .int .i64 (v.sk.wide : Int), .int .u64 (v.sk.seed : Int), .slice (some ⟨a.R, 0, none⟩) 4 a.c, .slice (some ⟨a.D, 0, none⟩) v.sk.wide v.sk.wide, .int .i64 (v.sk.added : Int), .slice (some ⟨a.G, 0, none⟩) 3 3, .int .i64 (v.pl : Int)] 36))
  rw [show (w.alloc (.cells #[.int .i64 (v.most : Int), .int .i64 (v.sk.wide : Int), .int .u64 (v.sk.seed : Int), .slice (some ⟨a.R, 0, none⟩) 4 a.c, .slice (some ⟨a.D, 0, none⟩) v.sk.wide v.sk.wide, .int .i64 (v.sk.added : Int), .slice (some ⟨a.G, 0, none⟩) 3 3, .int .i64 (v.pl : Int)] 36)).heap.size = w.heap.size + 1 by simp] at hact
  have hfl := few_le8 T
  have hfw := fun W => fewT_c T hT W
  clear h hK
  go_enter Tryz.func7, Tryz.ntmps7
  go_upto_region 1 with (fail)
  generalize ((w.alloc (.cells #[.int .i64 (v.most : Int), .int .i64 (v.sk.wide : Int), .int .u64 (v.sk.seed : Int), .slice (some ⟨a.R, 0, none⟩) 4 a.c, .slice (some ⟨a.D, 0, none⟩) v.sk.wide v.sk.wide, .int .i64 (v.sk.added : Int), .slice (some ⟨a.G, 0, none⟩) 3 3, .int .i64 (v.pl : Int)] 36)).alloc (.cells #[.int .i64 q, .string (str T)] 42)).alloc (.cells #[.int .i64 0, .int .i64 0, .int .u64 0, .slice none 0 0, .slice none 0 0, .int .i64 0, .slice none 0 0, .int .i64 0] 36) = w1 at *
  obtain ⟨k0, k1⟩ := hact
  generalize hkk : fewL T = k at *
  go_wp2_with fail
  refine (hfw _).mono ?_
  rintro e w' ⟨rfl, rfl⟩
  clear hkk hfw
  obtain ⟨⟨x0, x1, x2, x3, x4, x5, x6, x7⟩, -⟩ := h1.all
  have HN := Lib.hid (Tv.insert_ok hOk k).1.fit.n
  have HL := Lib.hid (Tv.insertK_len hOk k)
  have HN0 := Lib.hid hf.fit.n
  have fd := rins_c (k := k) hf hOk hfl w1 h1.two.d
  have fi := fun W (h : HeldT w0 A B P W m v) => insertT_c (k := k) hfl hOk h
  generalize v.insert k = u at *
  generalize v.insertK k = LK at *
  go_wp2_with fail
  refine fd.mono ?_
  rintro e w4 ⟨a1, val, rfl, hg, hrow⟩
  have h3 := h1.goes hg
  have hrs : ∀ b, val.ownBlock = some b → Side m A B a1 b ∨ w1.heap.size ≤ b := fun b hb => .inr (hrow.lt b hb).1
  have hrn : ∀ b, val.ownBlock = some b → ¬ (m.own b ∨ Six B b) := fun b hb ho => by
    have h9 := (hrow.lt b hb).1
    rcases ho with ho | ho
    · have := h1.two.h.h.lt _ ho; omega
    · have := h1.two.h.sk.lt; have := ho.2; omega
  have h4 := h3.onto ((Below.refl _ w4).alloc (Nat.le_refl _) (.cells #[.int .i64 (u.most : Int), .int .i64 (u.sk.wide : Int), .int .u64 (u.sk.seed : Int), .slice (some ⟨a1.R, 0, none⟩) 4 a1.c, .slice (some ⟨a1.D, 0, none⟩) u.sk.wide u.sk.wide, .int .i64 (u.sk.added : Int), .slice (some ⟨a1.G, 0, none⟩) 3 3, .int .i64 (u.pl : Int)] 36))
  have hrow4 := ownsRow_stay (w' := (w4.alloc (.cells #[.int .i64 (u.most : Int), .int .i64 (u.sk.wide : Int), .int .u64 (u.sk.seed : Int), .slice (some ⟨a1.R, 0, none⟩) 4 a1.c, .slice (some ⟨a1.D, 0, none⟩) u.sk.wide u.sk.wide, .int .i64 (u.sk.added : Int), .slice (some ⟨a1.G, 0, none⟩) 3 3, .int .i64 (u.pl : Int)] 36)).drewN 1) hrow fun b hb => Below.heap_alloc w4 _ b (hrow.lt b hb).2
  have hb4 := Blk.new w4 36 #[.int .i64 (u.most : Int), .int .i64 (u.sk.wide : Int), .int .u64 (u.sk.seed : Int), .slice (some ⟨a1.R, 0, none⟩) 4 a1.c, .slice (some ⟨a1.D, 0, none⟩) u.sk.wide u.sk.wide, .int .i64 (u.sk.added : Int), .slice (some ⟨a1.G, 0, none⟩) 3 3, .int .i64 (u.pl : Int)]
  have hs4 := h3.two.fresh HN.out (q := w4.heap.size) (Nat.le_refl _)
  have hq2 : w4.heap.size ≠ w.heap.size + 2 := by have := h3.hi; omega
  obtain ⟨va, vc, hval⟩ := own_form hrow
  subst hval
  clear hrs hrow
  clear x0 x1 x2 x3 x4 x5 x6 x7 k0 k1
  clear fd h1 hg h3
  go_upto_region 21 with (fail)
  generalize w4.heap.size = z at *
  generalize w4.alloc (.cells #[.int .i64 (u.most : Int), .int .i64 (u.sk.wide : Int), .int .u64 (u.sk.seed : Int), .slice (some ⟨a1.R, 0, none⟩) 4 a1.c, .slice (some ⟨a1.D, 0, none⟩) u.sk.wide u.sk.wide, .int .i64 (u.sk.added : Int), .slice (some ⟨a1.G, 0, none⟩) 3 3, .int .i64 (u.pl : Int)] 36) = w5 at *
  have h5 := h4.drewN 1
  have hb5 : Blk (w5.drewN 1) z 36 #[.int .i64 (u.most : Int), .int .i64 (u.sk.wide : Int), .int .u64 (u.sk.seed : Int), .slice (some ⟨a1.R, 0, none⟩) 4 a1.c, .slice (some ⟨a1.D, 0, none⟩) u.sk.wide u.sk.wide, .int .i64 (u.sk.added : Int), .slice (some ⟨a1.G, 0, none⟩) 3 3, .int .i64 (u.pl : Int)] := hb4
  have hS5 : (w5.drewN 1).cell? ⟨z, 0, none⟩ = some (.int .i64 (u.most : Int)) ∧ (w5.drewN 1).cell? ⟨z, 1, none⟩ = some (.int .i64 (u.sk.wide : Int)) ∧ (w5.drewN 1).cell? ⟨z, 2, none⟩ = some (.int .u64 (u.sk.seed : Int)) ∧ (w5.drewN 1).cell? ⟨z, 3, none⟩ = some (.slice (some ⟨a1.R, 0, none⟩) 4 a1.c) ∧ (w5.drewN 1).cell? ⟨z, 4, none⟩ = some (.slice (some ⟨a1.D, 0, none⟩) u.sk.wide u.sk.wide) ∧ (w5.drewN 1).cell? ⟨z, 5, none⟩ = some (.int .i64 (u.sk.added : Int)) ∧ (w5.drewN 1).cell? ⟨z, 6, none⟩ = some (.slice (some ⟨a1.G, 0, none⟩) 3 3) ∧ (w5.drewN 1).cell? ⟨z, 7, none⟩ = some (.int .i64 (u.pl : Int)) := ⟨hb5.cell 0, hb5.cell 1, hb5.cell 2, hb5.cell 3, hb5.cell 4, hb5.cell 5, hb5.cell 6, hb5.cell 7⟩
  have fp := fi _ h5.two.h
  clear h4 hb4 fi
  refine region_only 10 #[false, false, false, false, false, false, false, false, false, false] (S := (fun W => W.cell? ⟨z, 0, none⟩ = some (.int .i64 (u.most : Int)) ∧ W.cell? ⟨z, 1, none⟩ = some (.int .i64 (u.sk.wide : Int)) ∧ W.cell? ⟨z, 2, none⟩ = some (.int .u64 (u.sk.seed : Int)) ∧ W.cell? ⟨z, 3, none⟩ = some (.slice (some ⟨a1.R, 0, none⟩) 4 a1.c) ∧ W.cell? ⟨z, 4, none⟩ = some (.slice (some ⟨a1.D, 0, none⟩) u.sk.wide u.sk.wide) ∧ W.cell? ⟨z, 5, none⟩ = some (.int .i64 (u.sk.added : Int)) ∧ W.cell? ⟨z, 6, none⟩ = some (.slice (some ⟨a1.G, 0, none⟩) 3 3) ∧ W.cell? ⟨z, 7, none⟩ = some (.int .i64 (u.pl : Int)))) rfl rfl (by kernel_rfl) hS5 (fun hSw => ?_)
  refine take_at 0 116 (fuel := 9) ?_ rfl rfl (by kernel_rfl) (by kernel_rfl) (by kernel_rfl) (Or.inl ⟨by rfl, ?_⟩) hSw ?_
  rotate_left
  · intro wx hSx
    (try dsimp only at hSx)
    go_split_ands
    go_simp
    (try with_reducible rfl)
  simp only [List.setIfInBounds_toArray, List.set_cons_zero, List.set_cons_succ]
  refine take_at 1 117 (fuel := 8) ?_ rfl rfl (by kernel_rfl) (by kernel_rfl) (by kernel_rfl) (Or.inl ⟨by rfl, ?_⟩) hSw ?_
  rotate_left
  · intro wx hSx
    (try dsimp only at hSx)
    go_split_ands
    go_simp
    (try with_reducible rfl)
  simp only [List.setIfInBounds_toArray, List.set_cons_zero, List.set_cons_succ]
  refine take_at 2 118 (fuel := 7) ?_ rfl rfl (by kernel_rfl) (by kernel_rfl) (by kernel_rfl) (Or.inl ⟨by rfl, ?_⟩) hSw ?_
  rotate_left
  · intro wx hSx
    (try dsimp only at hSx)
    go_split_ands
    go_simp
    (try with_reducible rfl)
  simp only [List.setIfInBounds_toArray, List.set_cons_zero, List.set_cons_succ]
  refine take_at 3 119 (fuel := 6) ?_ rfl rfl (by kernel_rfl) (by kernel_rfl) (by kernel_rfl) (Or.inl ⟨by rfl, ?_⟩) hSw ?_
  rotate_left
  · intro wx hSx
    (try dsimp only at hSx)
    go_split_ands
    go_simp
    (try with_reducible rfl)
  simp only [List.setIfInBounds_toArray, List.set_cons_zero, List.set_cons_succ]
  refine take_at 5 121 (fuel := 5) ?_ rfl rfl (by kernel_rfl) (by kernel_rfl) (by kernel_rfl) (Or.inl ⟨by rfl, ?_⟩) hSw ?_
  rotate_left
  · intro wx hSx
    (try dsimp only at hSx)
    go_split_ands
    go_simp
    (try with_reducible rfl)
  simp only [List.setIfInBounds_toArray, List.set_cons_zero, List.set_cons_succ]
  refine wpAnyH_ready (fuel := 4) (rs := [4]) (by kernel_rfl) (by simp) (AllReadyH.cons rfl (fun K hK => ?_) AllReadyH.nil)
  go_simp
  refine Calls.mono (fp) ?_
  rintro e wv ⟨pv, m', rfl, hHv, hSt, hTl⟩
  have hb6 : Blk wv z 36 #[.int .i64 (u.most : Int), .int .i64 (u.sk.wide : Int), .int .u64 (u.sk.seed : Int), .slice (some ⟨a1.R, 0, none⟩) 4 a1.c, .slice (some ⟨a1.D, 0, none⟩) u.sk.wide u.sk.wide, .int .i64 (u.sk.added : Int), .slice (some ⟨a1.G, 0, none⟩) 3 3, .int .i64 (u.pl : Int)] := (hs4.kp hSt hb5.lt).trans hb5
  have h6 := h5.step HN.out hHv hSt
  have hrow6 := ownsRow_stay (w' := wv) hrow4 fun b hb => hSt.kp.block b (hrow4.lt b hb).2 (hrn b hb)
  have ft := texts_c (l := LK) HL.out wv hTl.row hrow6
  clear h5 hb5 hS5 fp
  refine hK.out _ _ ⟨hb6.cell 0, hb6.cell 1, hb6.cell 2, hb6.cell 3, hb6.cell 4, hb6.cell 5, hb6.cell 6, hb6.cell 7⟩ (fun hSw => ?_)
  clear hK K
  simp only [List.setIfInBounds_toArray, List.set_cons_zero, List.set_cons_succ]
  refine wpAnyH_ready (fuel := 3) (rs := [6]) (by kernel_rfl) (by simp) (AllReadyH.cons rfl (fun K hK => ?_) AllReadyH.nil)
  go_simp
  refine Calls.mono (ft) ?_
  rintro e wy ⟨rfl, hbt⟩
  have hb7 := hb6.below hbt hb6.lt
  have h7 := h6.onto hbt
  have hb8 : Blk ((((((((wy.setCell ⟨w.heap.size + 2, 0, none⟩ (.int .i64 (u.most : Int))).setCell ⟨w.heap.size + 2, 1, none⟩ (.int .i64 (u.sk.wide : Int))).setCell ⟨w.heap.size + 2, 2, none⟩ (.int .u64 (u.sk.seed : Int))).setCell ⟨w.heap.size + 2, 3, none⟩ (.slice (some ⟨a1.R, 0, none⟩) 4 a1.c)).setCell ⟨w.heap.size + 2, 4, none⟩ (.slice (some ⟨a1.D, 0, none⟩) u.sk.wide u.sk.wide)).setCell ⟨w.heap.size + 2, 5, none⟩ (.int .i64 (u.sk.added : Int))).setCell ⟨w.heap.size + 2, 6, none⟩ (.slice (some ⟨a1.G, 0, none⟩) 3 3)).setCell ⟨w.heap.size + 2, 7, none⟩ (.int .i64 (u.pl : Int))) z 36 #[.int .i64 (u.most : Int), .int .i64 (u.sk.wide : Int), .int .u64 (u.sk.seed : Int), .slice (some ⟨a1.R, 0, none⟩) 4 a1.c, .slice (some ⟨a1.D, 0, none⟩) u.sk.wide u.sk.wide, .int .i64 (u.sk.added : Int), .slice (some ⟨a1.G, 0, none⟩) 3 3, .int .i64 (u.pl : Int)] := (far8 wy hq2 _ _ _ _ _ _ _ _).trans hb7
  clear h6 hb6 ft
  have z0 := h7.res.cell 0
  have z1 := h7.res.cell 1
  have z2 := h7.res.cell 2
  have z3 := h7.res.cell 3
  have z4 := h7.res.cell 4
  have z5 := h7.res.cell 5
  have z6 := h7.res.cell 6
  have z7 := h7.res.cell 7
  have f0 := h7.res.free 0
  have f1 := h7.res.free 1
  have f2 := h7.res.free 2
  have f3 := h7.res.free 3
  have f4 := h7.res.free 4
  have f5 := h7.res.free 5
  have f6 := h7.res.free 6
  have f7 := h7.res.free 7
  simp only [List.getElem?_toArray, List.getElem?_cons_zero, List.getElem?_cons_succ] at z0 z1 z2 z3 z4 z5 z6 z7
  refine hK.out _ _ ⟨hb7.cell 0, hb7.cell 1, hb7.cell 2, hb7.cell 3, hb7.cell 4, hb7.cell 5, hb7.cell 6, hb7.cell 7⟩ (fun hSw => ?_)
  clear hK K
  simp only [List.setIfInBounds_toArray, List.set_cons_zero, List.set_cons_succ]
  refine take_at 7 6 (fuel := 2) ?_ rfl rfl (by kernel_rfl) (by kernel_rfl) (by kernel_rfl) (Or.inl ⟨by rfl, ?_⟩) hSw ?_
  rotate_left
  · intro wx hSx
    (try dsimp only at hSx)
    go_split_ands
    go_simp
    (try with_reducible rfl)
  simp only [List.setIfInBounds_toArray, List.set_cons_zero, List.set_cons_succ]
  refine wpAnyH_ready (fuel := 1) (rs := [8]) (by kernel_rfl) (by simp) (AllReadyH.cons rfl (fun K hK => ?_) AllReadyH.nil)
  go_simp
  refine hK.out _ _ ⟨hb8.cell 0, hb8.cell 1, hb8.cell 2, hb8.cell 3, hb8.cell 4, hb8.cell 5, hb8.cell 6, hb8.cell 7⟩ (fun hSw => ?_)
  clear hK K
  simp only [List.setIfInBounds_toArray, List.set_cons_zero, List.set_cons_succ]
  refine take_at 9 8 (fuel := 0) ?_ rfl rfl (by kernel_rfl) (by kernel_rfl) (by kernel_rfl) (Or.inl ⟨by rfl, ?_⟩) hSw ?_
  rotate_left
  · intro wx hSx
    (try dsimp only at hSx)
    go_split_ands
    go_simp
    (try with_reducible rfl)
  simp only [List.setIfInBounds_toArray, List.set_cons_zero, List.set_cons_succ]
  refine wpAnyH_done (by kernel_rfl) ⟨rfl, ?_⟩ 0
  clear hSw hb8 hb7 hHv hSt hTl hrow6 hrow4 hbt
  clear z0 f0 z1 f1 z2 f2 z3 f3 z4 f4 z5 f5 z6 f6 z7 f7
  obtain ⟨hT9, hB, hKD⟩ := h7.fin HN.out
  generalize ((((((((wy.setCell ⟨w.heap.size + 2, 0, none⟩ (.int .i64 (u.most : Int))).setCell ⟨w.heap.size + 2, 1, none⟩ (.int .i64 (u.sk.wide : Int))).setCell ⟨w.heap.size + 2, 2, none⟩ (.int .u64 (u.sk.seed : Int))).setCell ⟨w.heap.size + 2, 3, none⟩ (.slice (some ⟨a1.R, 0, none⟩) 4 a1.c)).setCell ⟨w.heap.size + 2, 4, none⟩ (.slice (some ⟨a1.D, 0, none⟩) u.sk.wide u.sk.wide)).setCell ⟨w.heap.size + 2, 5, none⟩ (.int .i64 (u.sk.added : Int))).setCell ⟨w.heap.size + 2, 6, none⟩ (.slice (some ⟨a1.G, 0, none⟩) 3 3)).setCell ⟨w.heap.size + 2, 7, none⟩ (.int .i64 (u.pl : Int))) = w9 at *
  clear h7
  go_wp2_with fail
  (try simp only [Exit.inBlock, Exit.then])
  refine bodyPost_ret (results_tmp_row_tmp rfl _ _ (w.heap.size + 2) rfl (run_loadVar_row _ _ _ _ _ _ _ hB Tryz.underlying36 rfl (by kernel_rfl))) rfl ?_
  exact ⟨A, B, _, _, a1, rfl, hT9, hKD⟩
end
end Go.Proofs.YtgfpedcdclgmiaaGreat.Tinyy

namespace Go.Proofs.YtgfpedcdclgmiaaGreat.Tinyy
open Go.ChangeShapes Go.WideShapes Go.ChangeAt Go.RowKit Go.Shelf
open Wirey (Blk Row str str_size str_list str_cat Kp)
open Ringy Go.ChangeMaps Go.Maps
open Sketchy (Sk Six)

section
variable {w0 w x y : World} {A B P : Nat} {m m' : Rm} {v v' u u' v0 : Tv} {a a' a0 : Ad} {k : Key} {K : Nat → Prop} {i j : Nat}
set_option maxHeartbeats 8000000 in
set_option maxRecDepth 100000 in
theorem do_read (T : List UInt8) (hT : T.length ≤ maxLen) (hf : v.Fine) (hOk : v.Ok) (hK : ∀ q, K q → q < w.heap.size ∧ Side m A B a q) (h : Two w0 A B P m v v a w) :
    Calls Tryz.prog 7 #[.pointer (some ⟨A, 0, none⟩), .agg #[.int .i64 (v.most : Int), .int .i64 (v.sk.wide : Int), .int .u64 (v.sk.seed : Int), .slice (some ⟨a.R, 0, none⟩) 4 a.c, .slice (some ⟨a.D, 0, none⟩) v.sk.wide v.sk.wide, .int .i64 (v.sk.added : Int), .slice (some ⟨a.G, 0, none⟩) 3 3, .int .i64 (v.pl : Int)], .agg #[.int .i64 9, .string (str T)]] w (DoP w0 K w v) := by
  have h1 := Ds.new (p := .int .i64 9) (q := .string (str T)) hK h
  have hact := act_blk (p := .int .i64 9) (q := .string (str T)) (x := w.alloc (.cells #[.int .i64 (v.most : Int), .int .i64 (v.sk.wide : Int), .int .u64 (v.sk.seed : Int), .slice (some ⟨a.R, 0, none⟩) 4 a.c, .slice (some ⟨a.D, 0, none⟩) v.sk.wide v.sk.wide, .int .i64 (v.sk.added : Int), .slice (some ⟨a.G, 0, none⟩) 3 3, .int .i64 (v.pl : Int)] 36))
  rw [show (w.alloc (.cells #[.int .i64 (v.most : Int), .int .i64 (v.sk.wide : Int), .int .u64 (v.sk.seed : Int), .slice (some ⟨a.R, 0, none⟩) 4 a.c, .slice (some ⟨a.D, 0, none⟩) v.sk.wide v.sk.wide, .int .i64 (v.sk.added : Int), .slice (some ⟨a.G, 0, none⟩) 3 3, .int .i64 (v.pl : Int)] 36)).heap.size = w.heap.size + 1 by simp] at hact
  have hfl := few_le8 T
  have hfw := fun W => fewT_c T hT W
  clear h hK
  go_enter Tryz.func7, Tryz.ntmps7
  go_upto_region 1 with (fail)
  generalize ((w.alloc (.cells #[.int .i64 (v.most : Int), .int .i64 (v.sk.wide : Int), .int .u64 (v.sk.seed : Int), .slice (some ⟨a.R, 0, none⟩) 4 a.c, .slice (some ⟨a.D, 0, none⟩) v.sk.wide v.sk.wide, .int .i64 (v.sk.added : Int), .slice (some ⟨a.G, 0, none⟩) 3 3, .int .i64 (v.pl : Int)] 36)).alloc (.cells #[.int .i64 9, .string (str T)] 42)).alloc (.cells #[.int .i64 0, .int .i64 0, .int .u64 0, .slice none 0 0, .slice none 0 0, .int .i64 0, .slice none 0 0, .int .i64 0] 36) = w1 at *
  obtain ⟨k0, k1⟩ := hact
  generalize hkk : fewL T = k at *
  go_wp2_with fail
  refine (hfw _).mono ?_
  rintro e w' ⟨rfl, rfl⟩
  clear hkk hfw
  obtain ⟨⟨x0, x1, x2, x3, x4, x5, x6, x7⟩, -⟩ := h1.all
  have HN := Lib.hid hf.fit.n
  have HF := Lib.hid hf.fit
  have fe := fun W (h : HeldT w0 A B P W m v) => expT_c hf h
  have fi := fun W => importT_c hf hOk W
  have fp := fun W (h : Dt W v a) => rput_t hf W h
  clear hfl
  go_wp2_with fail
  refine (fe _ h1.two.h).mono ?_
  rintro e w3 ⟨rfl, hB⟩
  have h3 := h1.onto hB.b
  clear hB h1
  clear x0 x1 x2 x3 x4 x5 x6 x7 k0 k1
  go_wp2_with fail
  refine (fi _).mono ?_
  rintro e w4 ⟨A', B', m', rfl, hN, hbl⟩
  have h4o := h3.onto hbl
  have h4n := h3.turn HN.out hbl hN HF.out
  clear h3 hN hbl fi
  go_upto_region 19 with (fail)
  have h5o := h4o.drewN 1
  have h5n := h4n.drewN 1
  have hS5 : (w4.drewN 1).cell? ⟨w.heap.size, 0, none⟩ = some (.int .i64 (v.most : Int)) ∧ (w4.drewN 1).cell? ⟨w.heap.size, 1, none⟩ = some (.int .i64 (v.sk.wide : Int)) ∧ (w4.drewN 1).cell? ⟨w.heap.size, 2, none⟩ = some (.int .u64 (v.sk.seed : Int)) ∧ (w4.drewN 1).cell? ⟨w.heap.size, 3, none⟩ = some (.slice (some ⟨a.R, 0, none⟩) 4 a.c) ∧ (w4.drewN 1).cell? ⟨w.heap.size, 4, none⟩ = some (.slice (some ⟨a.D, 0, none⟩) v.sk.wide v.sk.wide) ∧ (w4.drewN 1).cell? ⟨w.heap.size, 5, none⟩ = some (.int .i64 (v.sk.added : Int)) ∧ (w4.drewN 1).cell? ⟨w.heap.size, 6, none⟩ = some (.slice (some ⟨a.G, 0, none⟩) 3 3) ∧ (w4.drewN 1).cell? ⟨w.heap.size, 7, none⟩ = some (.int .i64 (v.pl : Int)) := ⟨h5o.box.cell 0, h5o.box.cell 1, h5o.box.cell 2, h5o.box.cell 3, h5o.box.cell 4, h5o.box.cell 5, h5o.box.cell 6, h5o.box.cell 7⟩
  have hq2 : w.heap.size ≠ w.heap.size + 2 := by omega
  have fe5 := fe _ h5o.two.h
  clear h4o h4n fe
  refine region_only 14 #[false, false, false, false, false, false, false, false, false, false, false, false, false, false] (S := (fun W => W.cell? ⟨w.heap.size, 0, none⟩ = some (.int .i64 (v.most : Int)) ∧ W.cell? ⟨w.heap.size, 1, none⟩ = some (.int .i64 (v.sk.wide : Int)) ∧ W.cell? ⟨w.heap.size, 2, none⟩ = some (.int .u64 (v.sk.seed : Int)) ∧ W.cell? ⟨w.heap.size, 3, none⟩ = some (.slice (some ⟨a.R, 0, none⟩) 4 a.c) ∧ W.cell? ⟨w.heap.size, 4, none⟩ = some (.slice (some ⟨a.D, 0, none⟩) v.sk.wide v.sk.wide) ∧ W.cell? ⟨w.heap.size, 5, none⟩ = some (.int .i64 (v.sk.added : Int)) ∧ W.cell? ⟨w.heap.size, 6, none⟩ = some (.slice (some ⟨a.G, 0, none⟩) 3 3) ∧ W.cell? ⟨w.heap.size, 7, none⟩ = some (.int .i64 (v.pl : Int)))) rfl rfl (by kernel_rfl) hS5 (fun hSw => ?_)
  refine take_at 0 99 (fuel := 13) ?_ rfl rfl (by kernel_rfl) (by kernel_rfl) (by kernel_rfl) (Or.inl ⟨by rfl, ?_⟩) hSw ?_
  rotate_left
  · intro wx hSx
    (try dsimp only at hSx)
    go_split_ands
    go_simp
    (try with_reducible rfl)
  simp only [List.setIfInBounds_toArray, List.set_cons_zero, List.set_cons_succ]
  refine take_at 1 100 (fuel := 12) ?_ rfl rfl (by kernel_rfl) (by kernel_rfl) (by kernel_rfl) (Or.inl ⟨by rfl, ?_⟩) hSw ?_
  rotate_left
  · intro wx hSx
    (try dsimp only at hSx)
    go_split_ands
    go_simp
    (try with_reducible rfl)
  simp only [List.setIfInBounds_toArray, List.set_cons_zero, List.set_cons_succ]
  refine take_at 2 101 (fuel := 11) ?_ rfl rfl (by kernel_rfl) (by kernel_rfl) (by kernel_rfl) (Or.inl ⟨by rfl, ?_⟩) hSw ?_
  rotate_left
  · intro wx hSx
    (try dsimp only at hSx)
    go_split_ands
    go_simp
    (try with_reducible rfl)
  simp only [List.setIfInBounds_toArray, List.set_cons_zero, List.set_cons_succ]
  refine take_at 3 102 (fuel := 10) ?_ rfl rfl (by kernel_rfl) (by kernel_rfl) (by kernel_rfl) (Or.inl ⟨by rfl, ?_⟩) hSw ?_
  rotate_left
  · intro wx hSx
    (try dsimp only at hSx)
    go_split_ands
    go_simp
    (try with_reducible rfl)
  simp only [List.setIfInBounds_toArray, List.set_cons_zero, List.set_cons_succ]
  refine take_at 4 103 (fuel := 9) ?_ rfl rfl (by kernel_rfl) (by kernel_rfl) (by kernel_rfl) (Or.inl ⟨by rfl, ?_⟩) hSw ?_
  rotate_left
  · intro wx hSx
    (try dsimp only at hSx)
    go_split_ands
    go_simp
    (try with_reducible rfl)
  simp only [List.setIfInBounds_toArray, List.set_cons_zero, List.set_cons_succ]
  refine take_at 5 104 (fuel := 8) ?_ rfl rfl (by kernel_rfl) (by kernel_rfl) (by kernel_rfl) (Or.inl ⟨by rfl, ?_⟩) hSw ?_
  rotate_left
  · intro wx hSx
    (try dsimp only at hSx)
    go_split_ands
    go_simp
    (try with_reducible rfl)
  simp only [List.setIfInBounds_toArray, List.set_cons_zero, List.set_cons_succ]
  refine take_at 7 106 (fuel := 7) ?_ rfl rfl (by kernel_rfl) (by kernel_rfl) (by kernel_rfl) (Or.inl ⟨by rfl, ?_⟩) hSw ?_
  rotate_left
  · intro wx hSx
    (try dsimp only at hSx)
    go_split_ands
    go_simp
    (try with_reducible rfl)
  simp only [List.setIfInBounds_toArray, List.set_cons_zero, List.set_cons_succ]
  refine wpAnyH_ready (fuel := 6) (rs := [6]) (by kernel_rfl) (by simp) (AllReadyH.cons rfl (fun K hK => ?_) AllReadyH.nil)
  go_simp
  refine Calls.mono (fe5) ?_
  rintro e wv ⟨rfl, hB6⟩
  have h6o := h5o.onto hB6.b
  have h6n := h5n.onto hB6.b
  have fp6 := fp _ h6o.two.d
  clear h5o h5n fe5 hB6 hS5 fp
  refine hK.out _ _ ⟨h6o.box.cell 0, h6o.box.cell 1, h6o.box.cell 2, h6o.box.cell 3, h6o.box.cell 4, h6o.box.cell 5, h6o.box.cell 6, h6o.box.cell 7⟩ (fun hSw => ?_)
  clear hK K
  simp only [List.setIfInBounds_toArray, List.set_cons_zero, List.set_cons_succ]
  refine wpAnyH_ready (fuel := 5) (rs := [8]) (by kernel_rfl) (by simp) (AllReadyH.cons rfl (fun K hK => ?_) AllReadyH.nil)
  go_simp
  refine Calls.mono (fp6) ?_
  rintro e wy ⟨rfl, hb7⟩
  have h7n := h6n.onto hb7
  clear h6o h6n fp6 hb7
  have hb7 : Blk ((((((((wy.setCell ⟨w.heap.size + 2, 0, none⟩ (.int .i64 (v.most : Int))).setCell ⟨w.heap.size + 2, 1, none⟩ (.int .i64 (v.sk.wide : Int))).setCell ⟨w.heap.size + 2, 2, none⟩ (.int .u64 (v.sk.seed : Int))).setCell ⟨w.heap.size + 2, 3, none⟩ (.slice (some ⟨a.R, 0, none⟩) 4 a.c)).setCell ⟨w.heap.size + 2, 4, none⟩ (.slice (some ⟨a.D, 0, none⟩) v.sk.wide v.sk.wide)).setCell ⟨w.heap.size + 2, 5, none⟩ (.int .i64 (v.sk.added : Int))).setCell ⟨w.heap.size + 2, 6, none⟩ (.slice (some ⟨a.G, 0, none⟩) 3 3)).setCell ⟨w.heap.size + 2, 7, none⟩ (.int .i64 (v.pl : Int))) w.heap.size 36 #[.int .i64 (v.most : Int), .int .i64 (v.sk.wide : Int), .int .u64 (v.sk.seed : Int), .slice (some ⟨a.R, 0, none⟩) 4 a.c, .slice (some ⟨a.D, 0, none⟩) v.sk.wide v.sk.wide, .int .i64 (v.sk.added : Int), .slice (some ⟨a.G, 0, none⟩) 3 3, .int .i64 (v.pl : Int)] := (far8 wy hq2 _ _ _ _ _ _ _ _).trans h7n.box
  have z0 := h7n.res.cell 0
  have z1 := h7n.res.cell 1
  have z2 := h7n.res.cell 2
  have z3 := h7n.res.cell 3
  have z4 := h7n.res.cell 4
  have z5 := h7n.res.cell 5
  have z6 := h7n.res.cell 6
  have z7 := h7n.res.cell 7
  have f0 := h7n.res.free 0
  have f1 := h7n.res.free 1
  have f2 := h7n.res.free 2
  have f3 := h7n.res.free 3
  have f4 := h7n.res.free 4
  have f5 := h7n.res.free 5
  have f6 := h7n.res.free 6
  have f7 := h7n.res.free 7
  simp only [List.getElem?_toArray, List.getElem?_cons_zero, List.getElem?_cons_succ] at z0 z1 z2 z3 z4 z5 z6 z7
  refine hK.out _ _ ⟨h7n.box.cell 0, h7n.box.cell 1, h7n.box.cell 2, h7n.box.cell 3, h7n.box.cell 4, h7n.box.cell 5, h7n.box.cell 6, h7n.box.cell 7⟩ (fun hSw => ?_)
  clear hK K
  simp only [List.setIfInBounds_toArray, List.set_cons_zero, List.set_cons_succ]
  refine take_at 9 108 (fuel := 4) ?_ rfl rfl (by kernel_rfl) (by kernel_rfl) (by kernel_rfl) (Or.inl ⟨by rfl, ?_⟩) hSw ?_
  rotate_left
  · intro wx hSx
    (try dsimp only at hSx)
    go_split_ands
    go_simp
    (try with_reducible rfl)
  simp only [List.setIfInBounds_toArray, List.set_cons_zero, List.set_cons_succ]
  refine take_at 10 109 (fuel := 3) ?_ rfl rfl (by kernel_rfl) (by kernel_rfl) (by kernel_rfl) (Or.inl ⟨by rfl, ?_⟩) hSw ?_
  rotate_left
  · intro wx hSx
    (try dsimp only at hSx)
    go_split_ands
    go_simp
    (try with_reducible rfl)
  simp only [List.setIfInBounds_toArray, List.set_cons_zero, List.set_cons_succ]
  refine take_at 11 6 (fuel := 2) ?_ rfl rfl (by kernel_rfl) (by kernel_rfl) (by kernel_rfl) (Or.inl ⟨by rfl, ?_⟩) hSw ?_
  rotate_left
  · intro wx hSx
    (try dsimp only at hSx)
    go_split_ands
    go_simp
    (try with_reducible rfl)
  simp only [List.setIfInBounds_toArray, List.set_cons_zero, List.set_cons_succ]
  refine wpAnyH_ready (fuel := 1) (rs := [12]) (by kernel_rfl) (by simp) (AllReadyH.cons rfl (fun K hK => ?_) AllReadyH.nil)
  go_simp
  refine hK.out _ _ ⟨hb7.cell 0, hb7.cell 1, hb7.cell 2, hb7.cell 3, hb7.cell 4, hb7.cell 5, hb7.cell 6, hb7.cell 7⟩ (fun hSw => ?_)
  clear hK K
  simp only [List.setIfInBounds_toArray, List.set_cons_zero, List.set_cons_succ]
  refine take_at 13 8 (fuel := 0) ?_ rfl rfl (by kernel_rfl) (by kernel_rfl) (by kernel_rfl) (Or.inl ⟨by rfl, ?_⟩) hSw ?_
  rotate_left
  · intro wx hSx
    (try dsimp only at hSx)
    go_split_ands
    go_simp
    (try with_reducible rfl)
  simp only [List.setIfInBounds_toArray, List.set_cons_zero, List.set_cons_succ]
  refine wpAnyH_done (by kernel_rfl) ⟨rfl, ?_⟩ 0
  clear hSw hb7
  clear z0 f0 z1 f1 z2 f2 z3 f3 z4 f4 z5 f5 z6 f6 z7 f7
  obtain ⟨hT9, hB, hKD⟩ := h7n.fin HN.out
  generalize ((((((((wy.setCell ⟨w.heap.size + 2, 0, none⟩ (.int .i64 (v.most : Int))).setCell ⟨w.heap.size + 2, 1, none⟩ (.int .i64 (v.sk.wide : Int))).setCell ⟨w.heap.size + 2, 2, none⟩ (.int .u64 (v.sk.seed : Int))).setCell ⟨w.heap.size + 2, 3, none⟩ (.slice (some ⟨a.R, 0, none⟩) 4 a.c)).setCell ⟨w.heap.size + 2, 4, none⟩ (.slice (some ⟨a.D, 0, none⟩) v.sk.wide v.sk.wide)).setCell ⟨w.heap.size + 2, 5, none⟩ (.int .i64 (v.sk.added : Int))).setCell ⟨w.heap.size + 2, 6, none⟩ (.slice (some ⟨a.G, 0, none⟩) 3 3)).setCell ⟨w.heap.size + 2, 7, none⟩ (.int .i64 (v.pl : Int))) = w9 at *
  clear h7n
  go_wp2_with fail
  (try simp only [Exit.inBlock, Exit.then])
  refine bodyPost_ret (results_tmp_row_tmp rfl _ _ (w.heap.size + 2) rfl (run_loadVar_row _ _ _ _ _ _ _ hB Tryz.underlying36 rfl (by kernel_rfl))) rfl ?_
  exact ⟨A', B', _, _, a, rfl, hT9, hKD⟩
end
end Go.Proofs.YtgfpedcdclgmiaaGreat.Tinyy

namespace Go.Proofs.YtgfpedcdclgmiaaGreat.Tinyy
open Go.ChangeShapes Go.WideShapes Go.ChangeAt Go.RowKit Go.Shelf
open Wirey (Blk Row str str_size str_list str_of str_take Kp)
open Ringy Go.ChangeMaps Go.Maps
open Sketchy (Sk Six)

theorem i64_andT (n : Int) (m k : Nat) (hk : (BitVec.ofInt 64 (m : Int)).toNat = 2 ^ k - 1) (hs : k ≤ 20) : bits .and .i64 n (m : Int) = ((n % ((2 ^ 64 : Nat) : Int)).toNat % 2 ^ k : Nat) := by
  have key : (BitVec.ofInt 64 n &&& BitVec.ofInt 64 (m : Int)).toNat = (n % ((2 ^ 64 : Nat) : Int)).toNat % 2 ^ k := by
    rw [BitVec.toNat_and, BitVec.toNat_ofInt, hk, Nat.and_two_pow_sub_one_eq_mod]
  show IntKind.i64.wrap ((BitVec.ofInt 64 n &&& BitVec.ofInt 64 (m : Int)).toNat : Nat) = _
  rw [key, IntKind.wrap_i64]
  have h1 : (n % ((2 ^ 64 : Nat) : Int)).toNat % 2 ^ k < 2 ^ k := Nat.mod_lt _ (Nat.two_pow_pos k)
  have h2 : 2 ^ k ≤ 2 ^ 20 := Nat.pow_le_pow_right (by omega) hs
  generalize (n % ((2 ^ 64 : Nat) : Int)).toNat % 2 ^ k = q at *
  omega
theorem and_natT (n : Int) (m k : Nat) (hk : (BitVec.ofInt 64 (m : Int)).toNat = 2 ^ k - 1) (hs : k ≤ 20) : ∃ q : Nat, bits .and .i64 n (m : Int) = (q : Int) ∧ q < 2 ^ k :=
  ⟨_, i64_andT n m k hk hs, Nat.mod_lt _ (Nat.two_pow_pos k)⟩
theorem natT_of {n : Int} (h : (Lit.int .u64 n).wf = true) : ∃ k : Nat, n = (k : Int) ∧ k < 18446744073709551616 := by
  have := bounds_u64 h
  exact ⟨n.toNat, by omega, by omega⟩
section
variable {w0 w x y : World} {A B P mb : Nat} {m m' : Rm} {v v' u u' v0 : Tv} {a a' a0 : Ad} {k : Key} {K : Nat → Prop} {i j : Nat}
theorem do_c (T : List UInt8) (hT : T.length ≤ maxLen) (q : Int) (hf : v.Fine) (hOk : v.Ok) (hK : ∀ q, K q → q < w.heap.size ∧ Side m A B a q) (h : Two w0 A B P m v v a w) :
    Calls Tryz.prog 7 #[.pointer (some ⟨A, 0, none⟩), .agg #[.int .i64 (v.most : Int), .int .i64 (v.sk.wide : Int), .int .u64 (v.sk.seed : Int), .slice (some ⟨a.R, 0, none⟩) 4 a.c, .slice (some ⟨a.D, 0, none⟩) v.sk.wide v.sk.wide, .int .i64 (v.sk.added : Int), .slice (some ⟨a.G, 0, none⟩) 3 3, .int .i64 (v.pl : Int)], .agg #[.int .i64 q, .string (str T)]] w (DoP w0 K w (v.act q (fewL T))) := by
  unfold Tv.act
  by_cases h4 : q = 4
  · subst h4
    rw [if_pos (.inl rfl)]
    exact do_touch4 T hT hf hOk hK h
  by_cases h5 : q = 5
  · subst h5
    rw [if_pos (.inr rfl)]
    exact do_touch5 T hT hf hOk hK h
  rw [if_neg (by rintro (e | e); exact h4 e; exact h5 e)]
  by_cases h6 : q = 6
  · subst h6
    rw [if_pos rfl]
    exact do_remove T hT hf hOk hK h
  rw [if_neg h6]
  by_cases h7 : q = 7
  · subst h7
    rw [if_pos rfl]
    exact do_evict T hT hf hOk hK h
  rw [if_neg h7]
  by_cases h8 : q = 8
  · subst h8
    rw [if_pos rfl]
    exact do_miss T hT hf hOk hK h
  rw [if_neg h8]
  by_cases h9 : q = 9
  · subst h9
    rw [if_pos rfl]
    exact do_read T hT hf hOk hK h
  rw [if_neg h9]
  exact do_insert T hT q (beq_eq_false_iff_ne.2 h4) (beq_eq_false_iff_ne.2 h5) (beq_eq_false_iff_ne.2 h6) (beq_eq_false_iff_ne.2 h7) (beq_eq_false_iff_ne.2 h8) (beq_eq_false_iff_ne.2 h9) hf hOk hK h
/-- What a round begins and ends with: both, the document's in the box mb. -/
structure Lp (w : World) (mb A B P : Nat) (m : Rm) (v : Tv) (a : Ad) (x : World) : Prop where
  two : Two w A B P m v v a x
  box : Blk x mb 36 #[.int .i64 (v.most : Int), .int .i64 (v.sk.wide : Int), .int .u64 (v.sk.seed : Int), .slice (some ⟨a.R, 0, none⟩) 4 a.c, .slice (some ⟨a.D, 0, none⟩) v.sk.wide v.sk.wide, .int .i64 (v.sk.added : Int), .slice (some ⟨a.G, 0, none⟩) 3 3, .int .i64 (v.pl : Int)]
  sd : Side m A B a mb
  mbl : w.heap.size ≤ mb
theorem Lp.onto (h : Lp w mb A B P m v a x) (hb : Below x.heap.size x y) : Lp w mb A B P m v a y := ⟨h.two.onto hb, h.box.below hb h.box.lt, h.sd, h.mbl⟩
theorem Lp.drewN (h : Lp w mb A B P m v a x) (n : Nat) : Lp w mb A B P m v a (x.drewN n) := h.onto ⟨rfl, rfl, rfl, Nat.le_refl _, fun _ _ => rfl⟩
theorem Lp.all (h : Lp w mb A B P m v a x) : (x.cell? ⟨mb, 0, none⟩ = some (.int .i64 (v.most : Int)) ∧ x.cell? ⟨mb, 1, none⟩ = some (.int .i64 (v.sk.wide : Int)) ∧ x.cell? ⟨mb, 2, none⟩ = some (.int .u64 (v.sk.seed : Int)) ∧ x.cell? ⟨mb, 3, none⟩ = some (.slice (some ⟨a.R, 0, none⟩) 4 a.c) ∧ x.cell? ⟨mb, 4, none⟩ = some (.slice (some ⟨a.D, 0, none⟩) v.sk.wide v.sk.wide) ∧ x.cell? ⟨mb, 5, none⟩ = some (.int .i64 (v.sk.added : Int)) ∧ x.cell? ⟨mb, 6, none⟩ = some (.slice (some ⟨a.G, 0, none⟩) 3 3) ∧ x.cell? ⟨mb, 7, none⟩ = some (.int .i64 (v.pl : Int))) ∧ Lp w mb A B P m v a x := ⟨⟨h.box.cell 0, h.box.cell 1, h.box.cell 2, h.box.cell 3, h.box.cell 4, h.box.cell 5, h.box.cell 6, h.box.cell 7⟩, h⟩
theorem lp_same (hOut : v.Out) (h : Lp w mb A B P m v a x) :
    Calls Tryz.prog 9 #[.pointer (some ⟨A, 0, none⟩), .agg #[.int .i64 (v.most : Int), .int .i64 (v.sk.wide : Int), .int .u64 (v.sk.seed : Int), .slice (some ⟨a.R, 0, none⟩) 4 a.c, .slice (some ⟨a.D, 0, none⟩) v.sk.wide v.sk.wide, .int .i64 (v.sk.added : Int), .slice (some ⟨a.G, 0, none⟩) 3 3, .int .i64 (v.pl : Int)]] x fun e y => e = .returned (.bool true) ∧ Lp w mb A B P m v a y := by
  refine (sameT_c ⟨h.two.h.fit, hOut⟩ h.two).mono ?_
  rintro e y ⟨rfl, hb⟩
  exact ⟨rfl, h.onto hb⟩
theorem lp_has (hk : k.length ≤ maxLen) (h : Lp w mb A B P m v a x) :
    Calls Tryz.prog 10 #[.pointer (some ⟨A, 0, none⟩), .string (str k)] x fun e y => e = .returned (.bool (v.has k)) ∧ Lp w mb A B P m v a y := by
  refine (has_t hk h.two.h).mono ?_
  rintro e y ⟨rfl, rfl⟩
  exact ⟨rfl, h⟩
theorem lp_rhas (hOut : v.Out) (h : Lp w mb A B P m v a x) :
    Calls Tryz.prog 11 #[.agg #[.int .i64 (v.most : Int), .int .i64 (v.sk.wide : Int), .int .u64 (v.sk.seed : Int), .slice (some ⟨a.R, 0, none⟩) 4 a.c, .slice (some ⟨a.D, 0, none⟩) v.sk.wide v.sk.wide, .int .i64 (v.sk.added : Int), .slice (some ⟨a.G, 0, none⟩) 3 3, .int .i64 (v.pl : Int)], .string (str k)] x fun e y => e = .returned (.bool (v.has k)) ∧ Lp w mb A B P m v a y := by
  refine (rhas_c ⟨h.two.h.fit, hOut⟩ x h.two.d).mono ?_
  rintro e y ⟨rfl, hb⟩
  exact ⟨rfl, h.onto hb⟩
theorem lp_seen (hk : k.length ≤ 1099511627776) (h : Lp w mb A B P m v a x) :
    Calls Tryz.prog 12 #[.pointer (some ⟨A, 0, none⟩), .string (str k)] x fun e y => e = .returned (.int .i64 (v.seen k : Int)) ∧ Lp w mb A B P m v a y := by
  refine (seenT_c hk h.two.h).mono ?_
  rintro e y ⟨rfl, n, rfl⟩
  exact ⟨rfl, h.drewN n⟩
theorem lp_rseen (hk : k.length ≤ 1099511627776) (hOut : v.Out) (h : Lp w mb A B P m v a x) :
    Calls Tryz.prog 13 #[.agg #[.int .i64 (v.sk.wide : Int), .int .u64 (v.sk.seed : Int), .slice (some ⟨a.R, 0, none⟩) 4 a.c, .slice (some ⟨a.D, 0, none⟩) v.sk.wide v.sk.wide, .int .i64 (v.sk.added : Int)], .string (str k)] x fun e y => e = .returned (.int .i64 (v.seen k : Int)) ∧ Lp w mb A B P m v a y := by
  refine (d_seen ⟨h.two.h.fit, hOut⟩ hk x h.two.d).mono ?_
  rintro e y ⟨rfl, hb⟩
  exact ⟨rfl, h.onto hb⟩
theorem lp_exp (hOut : v.Out) (h : Lp w mb A B P m v a x) :
    Calls Tryz.prog 14 #[.pointer (some ⟨A, 0, none⟩)] x fun e y => e = .returned (.string (str v.put)) ∧ Lp w mb A B P m v a y := by
  refine (expT_c ⟨h.two.h.fit, hOut⟩ h.two.h).mono ?_
  rintro e y ⟨rfl, hB⟩
  exact ⟨rfl, h.onto hB.b⟩
theorem lp_put (hOut : v.Out) (h : Lp w mb A B P m v a x) :
    Calls Tryz.prog 15 #[.agg #[.int .i64 (v.most : Int), .int .i64 (v.sk.wide : Int), .int .u64 (v.sk.seed : Int), .slice (some ⟨a.R, 0, none⟩) 4 a.c, .slice (some ⟨a.D, 0, none⟩) v.sk.wide v.sk.wide, .int .i64 (v.sk.added : Int), .slice (some ⟨a.G, 0, none⟩) 3 3, .int .i64 (v.pl : Int)]] x fun e y => e = .returned (.string (str v.put)) ∧ Lp w mb A B P m v a y := by
  refine (rput_t ⟨h.two.h.fit, hOut⟩ x h.two.d).mono ?_
  rintro e y ⟨rfl, hb⟩
  exact ⟨rfl, h.onto hb⟩
theorem lp_lay (h : Two w A B P m v v a x) (hb : Blk x mb 36 #[.int .i64 (v0.most : Int), .int .i64 (v0.sk.wide : Int), .int .u64 (v0.sk.seed : Int), .slice (some ⟨a0.R, 0, none⟩) 4 a0.c, .slice (some ⟨a0.D, 0, none⟩) v0.sk.wide v0.sk.wide, .int .i64 (v0.sk.added : Int), .slice (some ⟨a0.G, 0, none⟩) 3 3, .int .i64 (v0.pl : Int)]) (hs : Side m A B a mb) (hl : w.heap.size ≤ mb) : Lp w mb A B P m v a ((((((((x.setCell ⟨mb, 0, none⟩ (.int .i64 (v.most : Int))).setCell ⟨mb, 1, none⟩ (.int .i64 (v.sk.wide : Int))).setCell ⟨mb, 2, none⟩ (.int .u64 (v.sk.seed : Int))).setCell ⟨mb, 3, none⟩ (.slice (some ⟨a.R, 0, none⟩) 4 a.c)).setCell ⟨mb, 4, none⟩ (.slice (some ⟨a.D, 0, none⟩) v.sk.wide v.sk.wide)).setCell ⟨mb, 5, none⟩ (.int .i64 (v.sk.added : Int))).setCell ⟨mb, 6, none⟩ (.slice (some ⟨a.G, 0, none⟩) 3 3)).setCell ⟨mb, 7, none⟩ (.int .i64 (v.pl : Int))) :=
  ⟨h.beside h.h.fit.n hs hl (kp8 x _ _ _ _ _ _ _ _ _), blk8 hb _ _ _ _ _ _ _ _, hs, hl⟩
theorem far8c (x : World) {b : Nat} {p : Addr} (hp : p.block ≠ b) (c0 c1 c2 c3 c4 c5 c6 c7 : Value) : ((((((((x.setCell ⟨b, 0, none⟩ c0).setCell ⟨b, 1, none⟩ c1).setCell ⟨b, 2, none⟩ c2).setCell ⟨b, 3, none⟩ c3).setCell ⟨b, 4, none⟩ c4).setCell ⟨b, 5, none⟩ c5).setCell ⟨b, 6, none⟩ c6).setCell ⟨b, 7, none⟩ c7).cell? p = x.cell? p :=
  World.cell?_of_block (far8 x hp c0 c1 c2 c3 c4 c5 c6 c7)
theorem blk_far8 {x : World} {b q : Nat} {t : TypeId} {cs : Array Value} (h : Blk x q t cs) (hq : q ≠ b) (c0 c1 c2 c3 c4 c5 c6 c7 : Value) : Blk ((((((((x.setCell ⟨b, 0, none⟩ c0).setCell ⟨b, 1, none⟩ c1).setCell ⟨b, 2, none⟩ c2).setCell ⟨b, 3, none⟩ c3).setCell ⟨b, 4, none⟩ c4).setCell ⟨b, 5, none⟩ c5).setCell ⟨b, 6, none⟩ c6).setCell ⟨b, 7, none⟩ c7) q t cs :=
  (far8 x hq c0 c1 c2 c3 c4 c5 c6 c7).trans h
theorem blk_drewT {x : World} {b : Nat} {t : TypeId} {cs : Array Value} (h : Blk x b t cs) : Blk x.drew b t cs := h
set_option maxHeartbeats 8000000 in
set_option maxRecDepth 100000 in
theorem tinyPlays_walk (a0 : Int) (_w0 : (Lit.int .i64 a0).wf = true) (a1 : Int) (w1 : (Lit.int .u64 a1).wf = true) (ao : Option Addr) (n cap sb off : Nat) (K : Nat → Int) (T : Nat → List UInt8) (w : World) (ht : Acts w ao n sb off K T) :
    Calls Tryz.prog 3 #[.int .i64 a0, .int .u64 a1, .slice ao n cap] w fun e w' => e = .returned (.bool true) ∧ Below w.heap.size w w' := by
  obtain ⟨x, hx, hx2⟩ := and_natT a0 15 4 (by decide) (by omega)
  have hx : bits .and .i64 a0 15 = (x : Int) := hx
  obtain ⟨sd, rfl, hsd⟩ := natT_of w1
  have hn63 := ht.n63
  have hN := newT_c (n := 1 + x) (seed := sd) (by omega) (by omega) hsd w
  have hRN := fun W => rnewT_c (n := 1 + x) (seed := sd) (by omega) (by omega) hsd W
  have hO0 := Tv.new_ok (n := 1 + x) (seed := sd) (by omega) (by omega) hsd
  have hU0 := (Tv.new_fine (n := 1 + x) (seed := sd) (by omega) (by omega) hsd).out
  rw [Int.natCast_add] at hN
  simp only [Int.natCast_add] at hRN
  generalize Tv.new (1 + x) sd = v at *
  go_enter Tryz.func3, Tryz.ntmps3
  go_wp2_with fail
  refine hN.mono ?_
  rintro e w1 ⟨A, m, rfl, h1⟩
  go_wp2_with fail
  refine (hRN _).mono ?_
  rintro e w2 ⟨a, rfl, hd, hnew, hb2⟩
  have h2 := h1.later hb2 (Nat.le_refl _)
  have hT0 : Two w A w.heap.size (w.heap.size + 8) m v v a w2 := ⟨h2, hd, fun q hq => by
    have h9 := hnew q hq
    exact ⟨fun ho => by have := h1.h.lt q ho; omega, fun e => by have := h1.lt; omega, fun ho => by have := h1.sk.lt; have := ho.2; omega⟩⟩
  have hL0 : Lp w w2.heap.size A w.heap.size (w.heap.size + 8) m v a (w2.alloc (.cells #[.int .i64 (v.most : Int), .int .i64 (v.sk.wide : Int), .int .u64 (v.sk.seed : Int), .slice (some ⟨a.R, 0, none⟩) 4 a.c, .slice (some ⟨a.D, 0, none⟩) v.sk.wide v.sk.wide, .int .i64 (v.sk.added : Int), .slice (some ⟨a.G, 0, none⟩) 3 3, .int .i64 (v.pl : Int)] 36)) := ⟨hT0.onto ((Below.refl _ w2).alloc (Nat.le_refl _) (.cells #[.int .i64 (v.most : Int), .int .i64 (v.sk.wide : Int), .int .u64 (v.sk.seed : Int), .slice (some ⟨a.R, 0, none⟩) 4 a.c, .slice (some ⟨a.D, 0, none⟩) v.sk.wide v.sk.wide, .int .i64 (v.sk.added : Int), .slice (some ⟨a.G, 0, none⟩) 3 3, .int .i64 (v.pl : Int)] 36)), Blk.new w2 36 #[.int .i64 (v.most : Int), .int .i64 (v.sk.wide : Int), .int .u64 (v.sk.seed : Int), .slice (some ⟨a.R, 0, none⟩) 4 a.c, .slice (some ⟨a.D, 0, none⟩) v.sk.wide v.sk.wide, .int .i64 (v.sk.added : Int), .slice (some ⟨a.G, 0, none⟩) 3 3, .int .i64 (v.pl : Int)], hT0.fresh hO0.fit.n (Nat.le_refl _), h2.below.size⟩
  clear hN hRN h1 h2 hd hnew hb2 hT0
  go_upto_region 4 with (fail)
  generalize w2.heap.size = mb at *
  generalize w2.alloc (.cells #[.int .i64 (v.most : Int), .int .i64 (v.sk.wide : Int), .int .u64 (v.sk.seed : Int), .slice (some ⟨a.R, 0, none⟩) 4 a.c, .slice (some ⟨a.D, 0, none⟩) v.sk.wide v.sk.wide, .int .i64 (v.sk.added : Int), .slice (some ⟨a.G, 0, none⟩) 3 3, .int .i64 (v.pl : Int)] 36) = w3 at *
  go_wp2_with fail
  refine (awakeT_c _).mono ?_
  rintro e w4 ⟨rfl, hb4⟩
  have hL4 := hL0.onto hb4
  clear hL0 hb4
  go_wp2_with fail
  go_loopw [8, 11] (fun v8 i wr => ∃ (j A B P : Nat) (m : Rm) (v : Tv) (a : Ad), j ≤ n ∧ j ≤ 80 ∧ i = .int .i64 j ∧ v8 = .pointer (some ⟨A, 0, none⟩) ∧ Lp w mb A B P m v a wr ∧ v.Ok ∧ v.Out) (fun _ i _ => 80 - (intOf i).toNat)
  case atStart => exact ⟨0, A, _, _, m, v, a, by omega, by omega, rfl, rfl, hL4, hO0, hU0⟩
  case round =>
    obtain ⟨j, A, B, P, m, v, a, hjn, hj120, rfl, rfl, hL, hOk, hOut⟩ := hrel
    clear hL4 hO0 hU0
    by_cases h1 : j < n ∧ j < 80
    · obtain ⟨h1, h120⟩ := h1
      have d1 : decide ((j : Int) < (n : Int)) = true := decide_eq_true (by omega)
      have d2 : decide ((j : Int) < 80) = true := decide_eq_true (by omega)
      have q1 : (0 : Int) ≤ (j : Int) := by omega
      have q2 : (j : Int) < (n : Int) := by omega
      have hao := ht.ao (by omega)
      have hsb := ht.lt (by omega)
      have hw1 := ht.kind j h1
      have hw2 := ht.key j h1
      have hsize := ht.size j h1
      subst hao
      have hfl := few_le8 (T j)
      have hfs : (fewL (T j)).length ≤ 1099511627776 := by have := fewL_le (T j); omega
      generalize K j = q at *
      have hF1 := Tv.act_ok hOk hOut q (fewL (T j))
      go_upto_region 9 with (fail)
      have hLd : Lp w mb A B P m v a wr.drew := hL.drewN 1
      have hactd : wr.drew.cell? ⟨sb, off + j * 2, none⟩ = some (.int .i64 q) ∧ wr.drew.cell? ⟨sb, off + j * 2 + 1, none⟩ = some (.string (str (T j))) := ⟨(World.cell?_of_block (hLd.two.h.below.block sb hsb)).trans hw1, (World.cell?_of_block (hLd.two.h.below.block sb hsb)).trans hw2⟩
      have hS9 : wr.drew.cell? ⟨mb, 0, none⟩ = some (.int .i64 (v.most : Int)) ∧ wr.drew.cell? ⟨mb, 1, none⟩ = some (.int .i64 (v.sk.wide : Int)) ∧ wr.drew.cell? ⟨mb, 2, none⟩ = some (.int .u64 (v.sk.seed : Int)) ∧ wr.drew.cell? ⟨mb, 3, none⟩ = some (.slice (some ⟨a.R, 0, none⟩) 4 a.c) ∧ wr.drew.cell? ⟨mb, 4, none⟩ = some (.slice (some ⟨a.D, 0, none⟩) v.sk.wide v.sk.wide) ∧ wr.drew.cell? ⟨mb, 5, none⟩ = some (.int .i64 (v.sk.added : Int)) ∧ wr.drew.cell? ⟨mb, 6, none⟩ = some (.slice (some ⟨a.G, 0, none⟩) 3 3) ∧ wr.drew.cell? ⟨mb, 7, none⟩ = some (.int .i64 (v.pl : Int)) ∧ wr.drew.cell? ⟨sb, off + j * 2, none⟩ = some (.int .i64 q) ∧ wr.drew.cell? ⟨sb, off + j * 2 + 1, none⟩ = some (.string (str (T j))) := ⟨hLd.box.cell 0, hLd.box.cell 1, hLd.box.cell 2, hLd.box.cell 3, hLd.box.cell 4, hLd.box.cell 5, hLd.box.cell 6, hLd.box.cell 7, hactd⟩
      have fdA := fun W (h : Lp w mb A B P m v a W) => do_c (K := fun q => q = mb) (T j) hsize q ⟨hOk.fit, hOut⟩ hOk (fun q hq => by subst hq; exact ⟨h.box.lt, h.sd⟩) h.two
      generalize hv1 : v.act q (fewL (T j)) = v1 at *
      go_cut [12, 13, 14] from 44 to 54 (fun v10 v11 v12 wx => ∃ (nb A' B' P' : Nat) (m' : Rm) (a' : Ad), v10 = .pointer (some ⟨A', 0, none⟩) ∧ v11 = .pointer (some ⟨nb, 0, none⟩) ∧ v12 = .bool true ∧ Blk wx nb 36 #[.int .i64 (v1.most : Int), .int .i64 (v1.sk.wide : Int), .int .u64 (v1.sk.seed : Int), .slice (some ⟨a'.R, 0, none⟩) 4 a'.c, .slice (some ⟨a'.D, 0, none⟩) v1.sk.wide v1.sk.wide, .int .i64 (v1.sk.added : Int), .slice (some ⟨a'.G, 0, none⟩) 3 3, .int .i64 (v1.pl : Int)] ∧ Blk wx mb 36 #[.int .i64 (v.most : Int), .int .i64 (v.sk.wide : Int), .int .u64 (v.sk.seed : Int), .slice (some ⟨a.R, 0, none⟩) 4 a.c, .slice (some ⟨a.D, 0, none⟩) v.sk.wide v.sk.wide, .int .i64 (v.sk.added : Int), .slice (some ⟨a.G, 0, none⟩) 3 3, .int .i64 (v.pl : Int)] ∧ Side m' A' B' a' mb ∧ nb ≠ mb ∧ Two w A' B' P' m' v1 v1 a' wx)
      case first =>
        refine region_only 15 #[false, false, false, false, false, false, false, false, false, false, false, false, false, false, false] (S := (fun W => W.cell? ⟨mb, 0, none⟩ = some (.int .i64 (v.most : Int)) ∧ W.cell? ⟨mb, 1, none⟩ = some (.int .i64 (v.sk.wide : Int)) ∧ W.cell? ⟨mb, 2, none⟩ = some (.int .u64 (v.sk.seed : Int)) ∧ W.cell? ⟨mb, 3, none⟩ = some (.slice (some ⟨a.R, 0, none⟩) 4 a.c) ∧ W.cell? ⟨mb, 4, none⟩ = some (.slice (some ⟨a.D, 0, none⟩) v.sk.wide v.sk.wide) ∧ W.cell? ⟨mb, 5, none⟩ = some (.int .i64 (v.sk.added : Int)) ∧ W.cell? ⟨mb, 6, none⟩ = some (.slice (some ⟨a.G, 0, none⟩) 3 3) ∧ W.cell? ⟨mb, 7, none⟩ = some (.int .i64 (v.pl : Int)) ∧ W.cell? ⟨sb, off + j * 2, none⟩ = some (.int .i64 q) ∧ W.cell? ⟨sb, off + j * 2 + 1, none⟩ = some (.string (str (T j))))) rfl rfl (by kernel_rfl) hS9 (fun hSw => ?_)
        refine take_at 0 45 (fuel := 14) ?_ rfl rfl (by kernel_rfl) (by kernel_rfl) (by kernel_rfl) (Or.inl ⟨by rfl, ?_⟩) hSw ?_
        rotate_left
        · intro wx hSx
          (try dsimp only at hSx)
          go_split_ands
          go_simp
          (try with_reducible rfl)
        simp only [List.setIfInBounds_toArray, List.set_cons_zero, List.set_cons_succ]
        refine take_at 1 46 (fuel := 13) ?_ rfl rfl (by kernel_rfl) (by kernel_rfl) (by kernel_rfl) (Or.inl ⟨by rfl, ?_⟩) hSw ?_
        rotate_left
        · intro wx hSx
          (try dsimp only at hSx)
          go_split_ands
          go_simp
          (try with_reducible rfl)
        simp only [List.setIfInBounds_toArray, List.set_cons_zero, List.set_cons_succ]
        refine take_at 2 47 (fuel := 12) ?_ rfl rfl (by kernel_rfl) (by kernel_rfl) (by kernel_rfl) (Or.inl ⟨by rfl, ?_⟩) hSw ?_
        rotate_left
        · intro wx hSx
          (try dsimp only at hSx)
          go_split_ands
          go_simp
          (try with_reducible rfl)
        simp only [List.setIfInBounds_toArray, List.set_cons_zero, List.set_cons_succ]
        refine take_at 3 48 (fuel := 11) ?_ rfl rfl (by kernel_rfl) (by kernel_rfl) (by kernel_rfl) (Or.inl ⟨by rfl, ?_⟩) hSw ?_
        rotate_left
        · intro wx hSx
          (try dsimp only at hSx)
          go_split_ands
          go_simp
          (try with_reducible rfl)
        simp only [List.setIfInBounds_toArray, List.set_cons_zero, List.set_cons_succ]
        refine take_at 4 49 (fuel := 10) ?_ rfl rfl (by kernel_rfl) (by kernel_rfl) (by kernel_rfl) (Or.inl ⟨by rfl, ?_⟩) hSw ?_
        rotate_left
        · intro wx hSx
          (try dsimp only at hSx)
          go_split_ands
          go_simp
          (try with_reducible rfl)
        simp only [List.setIfInBounds_toArray, List.set_cons_zero, List.set_cons_succ]
        refine take_at 5 50 (fuel := 9) ?_ rfl rfl (by kernel_rfl) (by kernel_rfl) (by kernel_rfl) (Or.inl ⟨by rfl, ?_⟩) hSw ?_
        rotate_left
        · intro wx hSx
          (try dsimp only at hSx)
          go_split_ands
          go_simp
          (try with_reducible rfl)
        simp only [List.setIfInBounds_toArray, List.set_cons_zero, List.set_cons_succ]
        refine wpAnyH_ready (fuel := 8) (rs := [6, 11]) (by kernel_rfl) (by simp) (AllReadyH.cons rfl (fun K hK => ?_) (AllReadyH.cons rfl (fun K hK => ?_) AllReadyH.nil))
        · go_simp
          refine Calls.mono (fdA _ hLd) ?_
          rintro e wv ⟨A', B', P', m', a', rfl, hT', hKp⟩
          obtain ⟨e1, e2⟩ := hKp mb rfl
          have hb1 : Blk wv mb 36 #[.int .i64 (v.most : Int), .int .i64 (v.sk.wide : Int), .int .u64 (v.sk.seed : Int), .slice (some ⟨a.R, 0, none⟩) 4 a.c, .slice (some ⟨a.D, 0, none⟩) v.sk.wide v.sk.wide, .int .i64 (v.sk.added : Int), .slice (some ⟨a.G, 0, none⟩) 3 3, .int .i64 (v.pl : Int)] := e1.trans hLd.box
          have hact' : wv.cell? ⟨sb, off + j * 2, none⟩ = some (.int .i64 q) ∧ wv.cell? ⟨sb, off + j * 2 + 1, none⟩ = some (.string (str (T j))) := ⟨(World.cell?_of_block (hT'.h.below.block sb hsb)).trans hw1, (World.cell?_of_block (hT'.h.below.block sb hsb)).trans hw2⟩
          refine hK.out _ _ ⟨hb1.cell 0, hb1.cell 1, hb1.cell 2, hb1.cell 3, hb1.cell 4, hb1.cell 5, hb1.cell 6, hb1.cell 7, hact'⟩ (fun hSw => ?_)
          clear hK K
          simp only [List.setIfInBounds_toArray, List.set_cons_zero, List.set_cons_succ]
          refine take_at 7 44 (fuel := 7) ?_ rfl rfl (by kernel_rfl) (by kernel_rfl) (by kernel_rfl) (Or.inl ⟨by rfl, ?_⟩) hSw ?_
          rotate_left
          · intro wx hSx
            (try dsimp only at hSx)
            go_split_ands
            go_simp
            (try with_reducible rfl)
          simp only [List.setIfInBounds_toArray, List.set_cons_zero, List.set_cons_succ]
          refine take_at 8 52 (fuel := 6) ?_ rfl rfl (by kernel_rfl) (by kernel_rfl) (by kernel_rfl) (Or.inl ⟨by rfl, ?_⟩) hSw ?_
          rotate_left
          · intro wx hSx
            (try dsimp only at hSx)
            go_split_ands
            go_simp
            (try with_reducible rfl)
          simp only [List.setIfInBounds_toArray, List.set_cons_zero, List.set_cons_succ]
          refine take_at 9 53 (fuel := 5) ?_ rfl rfl (by kernel_rfl) (by kernel_rfl) (by kernel_rfl) (Or.inl ⟨by rfl, ?_⟩) hSw ?_
          rotate_left
          · intro wx hSx
            (try dsimp only at hSx)
            go_split_ands
            go_simp
            (try with_reducible rfl)
          simp only [List.setIfInBounds_toArray, List.set_cons_zero, List.set_cons_succ]
          refine take_at 10 54 (fuel := 4) ?_ rfl rfl (by kernel_rfl) (by kernel_rfl) (by kernel_rfl) (Or.inl ⟨by rfl, ?_⟩) hSw ?_
          rotate_left
          · intro wx hSx
            (try dsimp only at hSx)
            go_split_ands
            go_simp
            (try with_reducible rfl)
          simp only [List.setIfInBounds_toArray, List.set_cons_zero, List.set_cons_succ]
          refine wpAnyH_ready (fuel := 3) (rs := [11]) (by kernel_rfl) (by simp) (AllReadyH.cons rfl (fun K hK => ?_) AllReadyH.nil)
          go_simp
          have hb2 := hb1.alloc (.cells #[.int .i64 0, .int .i64 0, .int .u64 0, .slice none 0 0, .slice none 0 0, .int .i64 0, .slice none 0 0, .int .i64 0] 36)
          have hsbv : sb < wv.heap.size := Nat.lt_of_lt_of_le hsb hT'.h.below.size
          have hact2 : (wv.alloc (.cells #[.int .i64 0, .int .i64 0, .int .u64 0, .slice none 0 0, .slice none 0 0, .int .i64 0, .slice none 0 0, .int .i64 0] 36)).cell? ⟨sb, off + j * 2, none⟩ = some (.int .i64 q) ∧ (wv.alloc (.cells #[.int .i64 0, .int .i64 0, .int .u64 0, .slice none 0 0, .slice none 0 0, .int .i64 0, .slice none 0 0, .int .i64 0] 36)).cell? ⟨sb, off + j * 2 + 1, none⟩ = some (.string (str (T j))) := ⟨(World.cell?_of_block (Below.heap_alloc wv _ sb hsbv)).trans hact'.1, (World.cell?_of_block (Below.heap_alloc wv _ sb hsbv)).trans hact'.2⟩
          refine hK.out _ _ ⟨hb2.cell 0, hb2.cell 1, hb2.cell 2, hb2.cell 3, hb2.cell 4, hb2.cell 5, hb2.cell 6, hb2.cell 7, hact2⟩ (fun hSw => ?_)
          clear hK K
          simp only [List.setIfInBounds_toArray, List.set_cons_zero, List.set_cons_succ]
          refine take_at 12 12 (fuel := 2) ?_ rfl rfl (by kernel_rfl) (by kernel_rfl) (by kernel_rfl) (Or.inl ⟨by rfl, ?_⟩) hSw ?_
          rotate_left
          · intro wx hSx
            (try dsimp only at hSx)
            go_split_ands
            go_simp
            (try with_reducible rfl)
          simp only [List.setIfInBounds_toArray, List.set_cons_zero, List.set_cons_succ]
          have hbn := Blk.new wv 36 #[.int .i64 0, .int .i64 0, .int .u64 0, .slice none 0 0, .slice none 0 0, .int .i64 0, .slice none 0 0, .int .i64 0]
          have hne : wv.heap.size ≠ mb := Nat.ne_of_gt hb1.lt
          have hx9 := hT'.onto ((Below.refl _ wv).alloc (Nat.le_refl _) (.cells #[.int .i64 0, .int .i64 0, .int .u64 0, .slice none 0 0, .slice none 0 0, .int .i64 0, .slice none 0 0, .int .i64 0] 36))
          have hns := hT'.fresh hT'.h.fit.n (q := wv.heap.size) (Nat.le_refl _)
          have hnl : w.heap.size ≤ wv.heap.size := hT'.h.below.size
          have hsn : sb ≠ wv.heap.size := by omega
          clear hact' hT' hb1
          generalize wv.heap.size = nb at *
          generalize wv.alloc (.cells #[.int .i64 0, .int .i64 0, .int .u64 0, .slice none 0 0, .slice none 0 0, .int .i64 0, .slice none 0 0, .int .i64 0] 36) = wa at *
          have z0 := hbn.cell 0
          have z1 := hbn.cell 1
          have z2 := hbn.cell 2
          have z3 := hbn.cell 3
          have z4 := hbn.cell 4
          have z5 := hbn.cell 5
          have z6 := hbn.cell 6
          have z7 := hbn.cell 7
          have f0 := hbn.free 0
          have f1 := hbn.free 1
          have f2 := hbn.free 2
          have f3 := hbn.free 3
          have f4 := hbn.free 4
          have f5 := hbn.free 5
          have f6 := hbn.free 6
          have f7 := hbn.free 7
          simp only [List.getElem?_toArray, List.getElem?_cons_zero, List.getElem?_cons_succ] at z0 z1 z2 z3 z4 z5 z6 z7
          have hbp : Blk ((((((((wa.setCell ⟨nb, 0, none⟩ (.int .i64 (v1.most : Int))).setCell ⟨nb, 1, none⟩ (.int .i64 (v1.sk.wide : Int))).setCell ⟨nb, 2, none⟩ (.int .u64 (v1.sk.seed : Int))).setCell ⟨nb, 3, none⟩ (.slice (some ⟨a'.R, 0, none⟩) 4 a'.c)).setCell ⟨nb, 4, none⟩ (.slice (some ⟨a'.D, 0, none⟩) v1.sk.wide v1.sk.wide)).setCell ⟨nb, 5, none⟩ (.int .i64 (v1.sk.added : Int))).setCell ⟨nb, 6, none⟩ (.slice (some ⟨a'.G, 0, none⟩) 3 3)).setCell ⟨nb, 7, none⟩ (.int .i64 (v1.pl : Int))) nb 36 #[.int .i64 (v1.most : Int), .int .i64 (v1.sk.wide : Int), .int .u64 (v1.sk.seed : Int), .slice (some ⟨a'.R, 0, none⟩) 4 a'.c, .slice (some ⟨a'.D, 0, none⟩) v1.sk.wide v1.sk.wide, .int .i64 (v1.sk.added : Int), .slice (some ⟨a'.G, 0, none⟩) 3 3, .int .i64 (v1.pl : Int)] := blk8 hbn _ _ _ _ _ _ _ _
          have hbm : Blk ((((((((wa.setCell ⟨nb, 0, none⟩ (.int .i64 (v1.most : Int))).setCell ⟨nb, 1, none⟩ (.int .i64 (v1.sk.wide : Int))).setCell ⟨nb, 2, none⟩ (.int .u64 (v1.sk.seed : Int))).setCell ⟨nb, 3, none⟩ (.slice (some ⟨a'.R, 0, none⟩) 4 a'.c)).setCell ⟨nb, 4, none⟩ (.slice (some ⟨a'.D, 0, none⟩) v1.sk.wide v1.sk.wide)).setCell ⟨nb, 5, none⟩ (.int .i64 (v1.sk.added : Int))).setCell ⟨nb, 6, none⟩ (.slice (some ⟨a'.G, 0, none⟩) 3 3)).setCell ⟨nb, 7, none⟩ (.int .i64 (v1.pl : Int))) mb 36 #[.int .i64 (v.most : Int), .int .i64 (v.sk.wide : Int), .int .u64 (v.sk.seed : Int), .slice (some ⟨a.R, 0, none⟩) 4 a.c, .slice (some ⟨a.D, 0, none⟩) v.sk.wide v.sk.wide, .int .i64 (v.sk.added : Int), .slice (some ⟨a.G, 0, none⟩) 3 3, .int .i64 (v.pl : Int)] := blk_far8 hb2 (Ne.symm hne) _ _ _ _ _ _ _ _
          have hact3 : (((((((((wa.setCell ⟨nb, 0, none⟩ (.int .i64 (v1.most : Int))).setCell ⟨nb, 1, none⟩ (.int .i64 (v1.sk.wide : Int))).setCell ⟨nb, 2, none⟩ (.int .u64 (v1.sk.seed : Int))).setCell ⟨nb, 3, none⟩ (.slice (some ⟨a'.R, 0, none⟩) 4 a'.c)).setCell ⟨nb, 4, none⟩ (.slice (some ⟨a'.D, 0, none⟩) v1.sk.wide v1.sk.wide)).setCell ⟨nb, 5, none⟩ (.int .i64 (v1.sk.added : Int))).setCell ⟨nb, 6, none⟩ (.slice (some ⟨a'.G, 0, none⟩) 3 3)).setCell ⟨nb, 7, none⟩ (.int .i64 (v1.pl : Int)))).cell? ⟨sb, off + j * 2, none⟩ = some (.int .i64 q) ∧ (((((((((wa.setCell ⟨nb, 0, none⟩ (.int .i64 (v1.most : Int))).setCell ⟨nb, 1, none⟩ (.int .i64 (v1.sk.wide : Int))).setCell ⟨nb, 2, none⟩ (.int .u64 (v1.sk.seed : Int))).setCell ⟨nb, 3, none⟩ (.slice (some ⟨a'.R, 0, none⟩) 4 a'.c)).setCell ⟨nb, 4, none⟩ (.slice (some ⟨a'.D, 0, none⟩) v1.sk.wide v1.sk.wide)).setCell ⟨nb, 5, none⟩ (.int .i64 (v1.sk.added : Int))).setCell ⟨nb, 6, none⟩ (.slice (some ⟨a'.G, 0, none⟩) 3 3)).setCell ⟨nb, 7, none⟩ (.int .i64 (v1.pl : Int)))).cell? ⟨sb, off + j * 2 + 1, none⟩ = some (.string (str (T j))) := ⟨(far8c wa (p := ⟨sb, off + j * 2, none⟩) hsn _ _ _ _ _ _ _ _).trans hact2.1, (far8c wa (p := ⟨sb, off + j * 2 + 1, none⟩) hsn _ _ _ _ _ _ _ _).trans hact2.2⟩
          have hTp := hx9.beside hx9.h.fit.n hns hnl (kp8 wa nb (.int .i64 (v1.most : Int)) (.int .i64 (v1.sk.wide : Int)) (.int .u64 (v1.sk.seed : Int)) (.slice (some ⟨a'.R, 0, none⟩) 4 a'.c) (.slice (some ⟨a'.D, 0, none⟩) v1.sk.wide v1.sk.wide) (.int .i64 (v1.sk.added : Int)) (.slice (some ⟨a'.G, 0, none⟩) 3 3) (.int .i64 (v1.pl : Int)))
          refine wpAnyH_ready (fuel := 1) (rs := [13]) (by kernel_rfl) (by simp) (AllReadyH.cons rfl (fun K hK => ?_) AllReadyH.nil)
          go_simp
          refine hK.out _ _ ⟨hbm.cell 0, hbm.cell 1, hbm.cell 2, hbm.cell 3, hbm.cell 4, hbm.cell 5, hbm.cell 6, hbm.cell 7, hact3⟩ (fun hSw => ?_)
          clear hK K
          simp only [List.setIfInBounds_toArray, List.set_cons_zero, List.set_cons_succ]
          refine take_at 14 14 (fuel := 0) ?_ rfl rfl (by kernel_rfl) (by kernel_rfl) (by kernel_rfl) (Or.inl ⟨by rfl, ?_⟩) hSw ?_
          rotate_left
          · intro wx hSx
            (try dsimp only at hSx)
            go_split_ands
            go_simp
            (try with_reducible rfl)
          simp only [List.setIfInBounds_toArray, List.set_cons_zero, List.set_cons_succ]
          refine wpAnyH_done (by kernel_rfl) ⟨rfl, ?_⟩ 0
          go_wp2_with fail
          go_meet
          exact ⟨nb, A', B', P', m', a', rfl, rfl, rfl, hbp, hbm, e2, hne, hTp⟩
        · go_simp
          have hbn := Blk.new wr 36 #[.int .i64 0, .int .i64 0, .int .u64 0, .slice none 0 0, .slice none 0 0, .int .i64 0, .slice none 0 0, .int .i64 0]
          have hne : wr.heap.size ≠ mb := Nat.ne_of_gt hL.box.lt
          have hLn : Lp w mb A B P m v a (wr.alloc (.cells #[.int .i64 0, .int .i64 0, .int .u64 0, .slice none 0 0, .slice none 0 0, .int .i64 0, .slice none 0 0, .int .i64 0] 36)).drew := (hL.onto ((Below.refl _ wr).alloc (Nat.le_refl _) (.cells #[.int .i64 0, .int .i64 0, .int .u64 0, .slice none 0 0, .slice none 0 0, .int .i64 0, .slice none 0 0, .int .i64 0] 36))).drewN 1
          have hbn0 : Blk (wr.alloc (.cells #[.int .i64 0, .int .i64 0, .int .u64 0, .slice none 0 0, .slice none 0 0, .int .i64 0, .slice none 0 0, .int .i64 0] 36)).drew wr.heap.size 36 #[.int .i64 0, .int .i64 0, .int .u64 0, .slice none 0 0, .slice none 0 0, .int .i64 0, .slice none 0 0, .int .i64 0] := hbn
          have hns0 := hL.two.fresh hL.two.h.fit.n (q := wr.heap.size) (Nat.le_refl _)
          have hnl : w.heap.size ≤ wr.heap.size := hL.two.h.below.size
          have hsn : sb ≠ wr.heap.size := by omega
          have hactn : (wr.alloc (.cells #[.int .i64 0, .int .i64 0, .int .u64 0, .slice none 0 0, .slice none 0 0, .int .i64 0, .slice none 0 0, .int .i64 0] 36)).drew.cell? ⟨sb, off + j * 2, none⟩ = some (.int .i64 q) ∧ (wr.alloc (.cells #[.int .i64 0, .int .i64 0, .int .u64 0, .slice none 0 0, .slice none 0 0, .int .i64 0, .slice none 0 0, .int .i64 0] 36)).drew.cell? ⟨sb, off + j * 2 + 1, none⟩ = some (.string (str (T j))) := ⟨(World.cell?_of_block (hLn.two.h.below.block sb hsb)).trans hw1, (World.cell?_of_block (hLn.two.h.below.block sb hsb)).trans hw2⟩
          refine hK.out _ _ ⟨hLn.box.cell 0, hLn.box.cell 1, hLn.box.cell 2, hLn.box.cell 3, hLn.box.cell 4, hLn.box.cell 5, hLn.box.cell 6, hLn.box.cell 7, hactn⟩ (fun hSw => ?_)
          clear hK K hbn
          simp only [List.setIfInBounds_toArray, List.set_cons_zero, List.set_cons_succ]
          generalize wr.heap.size = nb at *
          generalize (wr.alloc (.cells #[.int .i64 0, .int .i64 0, .int .u64 0, .slice none 0 0, .slice none 0 0, .int .i64 0, .slice none 0 0, .int .i64 0] 36)).drew = wa at *
          have fdB := fun (Kq : Nat → Prop) (hK : ∀ q, Kq q → q < wa.heap.size ∧ Side m A B a q) => by have hc := do_c (K := Kq) (T j) hsize q ⟨hOk.fit, hOut⟩ hOk hK hLn.two; rw [hv1] at hc; exact hc
          refine wpAnyH_ready (fuel := 7) (rs := [6]) (by kernel_rfl) (by simp) (AllReadyH.cons rfl (fun K hK => ?_) AllReadyH.nil)
          go_simp
          refine Calls.mono (fdB (fun q => q = mb ∨ q = nb) (fun q hq => by
            rcases hq with rfl | rfl
            · exact ⟨hLn.box.lt, hLn.sd⟩
            · exact ⟨hbn0.lt, hns0⟩)) ?_
          rintro e wv ⟨A', B', P', m', a', rfl, hT', hKp⟩
          obtain ⟨e1, e2⟩ := hKp mb (.inl rfl)
          obtain ⟨e4, hns⟩ := hKp nb (.inr rfl)
          have hb1 : Blk wv mb 36 #[.int .i64 (v.most : Int), .int .i64 (v.sk.wide : Int), .int .u64 (v.sk.seed : Int), .slice (some ⟨a.R, 0, none⟩) 4 a.c, .slice (some ⟨a.D, 0, none⟩) v.sk.wide v.sk.wide, .int .i64 (v.sk.added : Int), .slice (some ⟨a.G, 0, none⟩) 3 3, .int .i64 (v.pl : Int)] := e1.trans hLn.box
          have hbn : Blk wv nb 36 #[.int .i64 0, .int .i64 0, .int .u64 0, .slice none 0 0, .slice none 0 0, .int .i64 0, .slice none 0 0, .int .i64 0] := e4.trans hbn0
          have hact' : wv.cell? ⟨sb, off + j * 2, none⟩ = some (.int .i64 q) ∧ wv.cell? ⟨sb, off + j * 2 + 1, none⟩ = some (.string (str (T j))) := ⟨(World.cell?_of_block (hT'.h.below.block sb hsb)).trans hw1, (World.cell?_of_block (hT'.h.below.block sb hsb)).trans hw2⟩
          refine hK.out _ _ ⟨hb1.cell 0, hb1.cell 1, hb1.cell 2, hb1.cell 3, hb1.cell 4, hb1.cell 5, hb1.cell 6, hb1.cell 7, hact'⟩ (fun hSw => ?_)
          clear hK K
          simp only [List.setIfInBounds_toArray, List.set_cons_zero, List.set_cons_succ]
          refine take_at 7 44 (fuel := 6) ?_ rfl rfl (by kernel_rfl) (by kernel_rfl) (by kernel_rfl) (Or.inl ⟨by rfl, ?_⟩) hSw ?_
          rotate_left
          · intro wx hSx
            (try dsimp only at hSx)
            go_split_ands
            go_simp
            (try with_reducible rfl)
          simp only [List.setIfInBounds_toArray, List.set_cons_zero, List.set_cons_succ]
          refine take_at 8 52 (fuel := 5) ?_ rfl rfl (by kernel_rfl) (by kernel_rfl) (by kernel_rfl) (Or.inl ⟨by rfl, ?_⟩) hSw ?_
          rotate_left
          · intro wx hSx
            (try dsimp only at hSx)
            go_split_ands
            go_simp
            (try with_reducible rfl)
          simp only [List.setIfInBounds_toArray, List.set_cons_zero, List.set_cons_succ]
          refine take_at 9 53 (fuel := 4) ?_ rfl rfl (by kernel_rfl) (by kernel_rfl) (by kernel_rfl) (Or.inl ⟨by rfl, ?_⟩) hSw ?_
          rotate_left
          · intro wx hSx
            (try dsimp only at hSx)
            go_split_ands
            go_simp
            (try with_reducible rfl)
          simp only [List.setIfInBounds_toArray, List.set_cons_zero, List.set_cons_succ]
          refine take_at 10 54 (fuel := 3) ?_ rfl rfl (by kernel_rfl) (by kernel_rfl) (by kernel_rfl) (Or.inl ⟨by rfl, ?_⟩) hSw ?_
          rotate_left
          · intro wx hSx
            (try dsimp only at hSx)
            go_split_ands
            go_simp
            (try with_reducible rfl)
          simp only [List.setIfInBounds_toArray, List.set_cons_zero, List.set_cons_succ]
          refine take_at 12 12 (fuel := 2) ?_ rfl rfl (by kernel_rfl) (by kernel_rfl) (by kernel_rfl) (Or.inl ⟨by rfl, ?_⟩) hSw ?_
          rotate_left
          · intro wx hSx
            (try dsimp only at hSx)
            go_split_ands
            go_simp
            (try with_reducible rfl)
          simp only [List.setIfInBounds_toArray, List.set_cons_zero, List.set_cons_succ]
          have hx9 := hT'
          have hb2 := hb1
          have hact2 := hact'
          clear hT' hb1 hact' hbn0 hLn fdB e4
          have z0 := hbn.cell 0
          have z1 := hbn.cell 1
          have z2 := hbn.cell 2
          have z3 := hbn.cell 3
          have z4 := hbn.cell 4
          have z5 := hbn.cell 5
          have z6 := hbn.cell 6
          have z7 := hbn.cell 7
          have f0 := hbn.free 0
          have f1 := hbn.free 1
          have f2 := hbn.free 2
          have f3 := hbn.free 3
          have f4 := hbn.free 4
          have f5 := hbn.free 5
          have f6 := hbn.free 6
          have f7 := hbn.free 7
          simp only [List.getElem?_toArray, List.getElem?_cons_zero, List.getElem?_cons_succ] at z0 z1 z2 z3 z4 z5 z6 z7
          have hbp : Blk ((((((((wv.setCell ⟨nb, 0, none⟩ (.int .i64 (v1.most : Int))).setCell ⟨nb, 1, none⟩ (.int .i64 (v1.sk.wide : Int))).setCell ⟨nb, 2, none⟩ (.int .u64 (v1.sk.seed : Int))).setCell ⟨nb, 3, none⟩ (.slice (some ⟨a'.R, 0, none⟩) 4 a'.c)).setCell ⟨nb, 4, none⟩ (.slice (some ⟨a'.D, 0, none⟩) v1.sk.wide v1.sk.wide)).setCell ⟨nb, 5, none⟩ (.int .i64 (v1.sk.added : Int))).setCell ⟨nb, 6, none⟩ (.slice (some ⟨a'.G, 0, none⟩) 3 3)).setCell ⟨nb, 7, none⟩ (.int .i64 (v1.pl : Int))) nb 36 #[.int .i64 (v1.most : Int), .int .i64 (v1.sk.wide : Int), .int .u64 (v1.sk.seed : Int), .slice (some ⟨a'.R, 0, none⟩) 4 a'.c, .slice (some ⟨a'.D, 0, none⟩) v1.sk.wide v1.sk.wide, .int .i64 (v1.sk.added : Int), .slice (some ⟨a'.G, 0, none⟩) 3 3, .int .i64 (v1.pl : Int)] := blk8 hbn _ _ _ _ _ _ _ _
          have hbm : Blk ((((((((wv.setCell ⟨nb, 0, none⟩ (.int .i64 (v1.most : Int))).setCell ⟨nb, 1, none⟩ (.int .i64 (v1.sk.wide : Int))).setCell ⟨nb, 2, none⟩ (.int .u64 (v1.sk.seed : Int))).setCell ⟨nb, 3, none⟩ (.slice (some ⟨a'.R, 0, none⟩) 4 a'.c)).setCell ⟨nb, 4, none⟩ (.slice (some ⟨a'.D, 0, none⟩) v1.sk.wide v1.sk.wide)).setCell ⟨nb, 5, none⟩ (.int .i64 (v1.sk.added : Int))).setCell ⟨nb, 6, none⟩ (.slice (some ⟨a'.G, 0, none⟩) 3 3)).setCell ⟨nb, 7, none⟩ (.int .i64 (v1.pl : Int))) mb 36 #[.int .i64 (v.most : Int), .int .i64 (v.sk.wide : Int), .int .u64 (v.sk.seed : Int), .slice (some ⟨a.R, 0, none⟩) 4 a.c, .slice (some ⟨a.D, 0, none⟩) v.sk.wide v.sk.wide, .int .i64 (v.sk.added : Int), .slice (some ⟨a.G, 0, none⟩) 3 3, .int .i64 (v.pl : Int)] := blk_far8 hb2 (Ne.symm hne) _ _ _ _ _ _ _ _
          have hact3 : (((((((((wv.setCell ⟨nb, 0, none⟩ (.int .i64 (v1.most : Int))).setCell ⟨nb, 1, none⟩ (.int .i64 (v1.sk.wide : Int))).setCell ⟨nb, 2, none⟩ (.int .u64 (v1.sk.seed : Int))).setCell ⟨nb, 3, none⟩ (.slice (some ⟨a'.R, 0, none⟩) 4 a'.c)).setCell ⟨nb, 4, none⟩ (.slice (some ⟨a'.D, 0, none⟩) v1.sk.wide v1.sk.wide)).setCell ⟨nb, 5, none⟩ (.int .i64 (v1.sk.added : Int))).setCell ⟨nb, 6, none⟩ (.slice (some ⟨a'.G, 0, none⟩) 3 3)).setCell ⟨nb, 7, none⟩ (.int .i64 (v1.pl : Int)))).cell? ⟨sb, off + j * 2, none⟩ = some (.int .i64 q) ∧ (((((((((wv.setCell ⟨nb, 0, none⟩ (.int .i64 (v1.most : Int))).setCell ⟨nb, 1, none⟩ (.int .i64 (v1.sk.wide : Int))).setCell ⟨nb, 2, none⟩ (.int .u64 (v1.sk.seed : Int))).setCell ⟨nb, 3, none⟩ (.slice (some ⟨a'.R, 0, none⟩) 4 a'.c)).setCell ⟨nb, 4, none⟩ (.slice (some ⟨a'.D, 0, none⟩) v1.sk.wide v1.sk.wide)).setCell ⟨nb, 5, none⟩ (.int .i64 (v1.sk.added : Int))).setCell ⟨nb, 6, none⟩ (.slice (some ⟨a'.G, 0, none⟩) 3 3)).setCell ⟨nb, 7, none⟩ (.int .i64 (v1.pl : Int)))).cell? ⟨sb, off + j * 2 + 1, none⟩ = some (.string (str (T j))) := ⟨(far8c wv (p := ⟨sb, off + j * 2, none⟩) hsn _ _ _ _ _ _ _ _).trans hact2.1, (far8c wv (p := ⟨sb, off + j * 2 + 1, none⟩) hsn _ _ _ _ _ _ _ _).trans hact2.2⟩
          have hTp := hx9.beside hx9.h.fit.n hns hnl (kp8 wv nb (.int .i64 (v1.most : Int)) (.int .i64 (v1.sk.wide : Int)) (.int .u64 (v1.sk.seed : Int)) (.slice (some ⟨a'.R, 0, none⟩) 4 a'.c) (.slice (some ⟨a'.D, 0, none⟩) v1.sk.wide v1.sk.wide) (.int .i64 (v1.sk.added : Int)) (.slice (some ⟨a'.G, 0, none⟩) 3 3) (.int .i64 (v1.pl : Int)))
          refine wpAnyH_ready (fuel := 1) (rs := [13]) (by kernel_rfl) (by simp) (AllReadyH.cons rfl (fun K hK => ?_) AllReadyH.nil)
          go_simp
          refine hK.out _ _ ⟨hbm.cell 0, hbm.cell 1, hbm.cell 2, hbm.cell 3, hbm.cell 4, hbm.cell 5, hbm.cell 6, hbm.cell 7, hact3⟩ (fun hSw => ?_)
          clear hK K
          simp only [List.setIfInBounds_toArray, List.set_cons_zero, List.set_cons_succ]
          refine take_at 14 14 (fuel := 0) ?_ rfl rfl (by kernel_rfl) (by kernel_rfl) (by kernel_rfl) (Or.inl ⟨by rfl, ?_⟩) hSw ?_
          rotate_left
          · intro wx hSx
            (try dsimp only at hSx)
            go_split_ands
            go_simp
            (try with_reducible rfl)
          simp only [List.setIfInBounds_toArray, List.set_cons_zero, List.set_cons_succ]
          refine wpAnyH_done (by kernel_rfl) ⟨rfl, ?_⟩ 0
          go_wp2_with fail
          go_meet
          exact ⟨nb, A', B', P', m', a', rfl, rfl, rfl, hbp, hbm, e2, hne, hTp⟩
      case rest =>
        obtain ⟨nb, A', B', P', m', a', rfl, rfl, rfl, hbn, hbm, hsm, hne, hT1⟩ := hcut
        have hmbl := hL.mbl
        clear hL hLd hactd hS9 fdA
        go_upto_region 10 with (fail)
        have hS10 : wc.drew.cell? ⟨nb, 0, none⟩ = some (.int .i64 (v1.most : Int)) ∧ wc.drew.cell? ⟨nb, 1, none⟩ = some (.int .i64 (v1.sk.wide : Int)) ∧ wc.drew.cell? ⟨nb, 2, none⟩ = some (.int .u64 (v1.sk.seed : Int)) ∧ wc.drew.cell? ⟨nb, 3, none⟩ = some (.slice (some ⟨a'.R, 0, none⟩) 4 a'.c) ∧ wc.drew.cell? ⟨nb, 4, none⟩ = some (.slice (some ⟨a'.D, 0, none⟩) v1.sk.wide v1.sk.wide) ∧ wc.drew.cell? ⟨nb, 5, none⟩ = some (.int .i64 (v1.sk.added : Int)) ∧ wc.drew.cell? ⟨nb, 6, none⟩ = some (.slice (some ⟨a'.G, 0, none⟩) 3 3) ∧ wc.drew.cell? ⟨nb, 7, none⟩ = some (.int .i64 (v1.pl : Int)) := ⟨hbn.cell 0, hbn.cell 1, hbn.cell 2, hbn.cell 3, hbn.cell 4, hbn.cell 5, hbn.cell 6, hbn.cell 7⟩
        have hbm' := blk_drewT hbm
        have z0 := hbm.cell 0
        have z1 := hbm.cell 1
        have z2 := hbm.cell 2
        have z3 := hbm.cell 3
        have z4 := hbm.cell 4
        have z5 := hbm.cell 5
        have z6 := hbm.cell 6
        have z7 := hbm.cell 7
        have f0 := hbm.free 0
        have f1 := hbm.free 1
        have f2 := hbm.free 2
        have f3 := hbm.free 3
        have f4 := hbm.free 4
        have f5 := hbm.free 5
        have f6 := hbm.free 6
        have f7 := hbm.free 7
        simp only [List.getElem?_toArray, List.getElem?_cons_zero, List.getElem?_cons_succ] at z0 z1 z2 z3 z4 z5 z6 z7
        have r0 := hbm'.cell 0
        have r1 := hbm'.cell 1
        have r2 := hbm'.cell 2
        have r3 := hbm'.cell 3
        have r4 := hbm'.cell 4
        have r5 := hbm'.cell 5
        have r6 := hbm'.cell 6
        have r7 := hbm'.cell 7
        have s0 := hbm'.free 0
        have s1 := hbm'.free 1
        have s2 := hbm'.free 2
        have s3 := hbm'.free 3
        have s4 := hbm'.free 4
        have s5 := hbm'.free 5
        have s6 := hbm'.free 6
        have s7 := hbm'.free 7
        simp only [List.getElem?_toArray, List.getElem?_cons_zero, List.getElem?_cons_succ] at r0 r1 r2 r3 r4 r5 r6 r7
        have hbq : Blk ((((((((wc.setCell ⟨mb, 0, none⟩ (.int .i64 (v1.most : Int))).setCell ⟨mb, 1, none⟩ (.int .i64 (v1.sk.wide : Int))).setCell ⟨mb, 2, none⟩ (.int .u64 (v1.sk.seed : Int))).setCell ⟨mb, 3, none⟩ (.slice (some ⟨a'.R, 0, none⟩) 4 a'.c)).setCell ⟨mb, 4, none⟩ (.slice (some ⟨a'.D, 0, none⟩) v1.sk.wide v1.sk.wide)).setCell ⟨mb, 5, none⟩ (.int .i64 (v1.sk.added : Int))).setCell ⟨mb, 6, none⟩ (.slice (some ⟨a'.G, 0, none⟩) 3 3)).setCell ⟨mb, 7, none⟩ (.int .i64 (v1.pl : Int))) nb 36 #[.int .i64 (v1.most : Int), .int .i64 (v1.sk.wide : Int), .int .u64 (v1.sk.seed : Int), .slice (some ⟨a'.R, 0, none⟩) 4 a'.c, .slice (some ⟨a'.D, 0, none⟩) v1.sk.wide v1.sk.wide, .int .i64 (v1.sk.added : Int), .slice (some ⟨a'.G, 0, none⟩) 3 3, .int .i64 (v1.pl : Int)] := (far8 wc hne _ _ _ _ _ _ _ _).trans hbn
        have hbr := blk_drewT hbq
        refine region_only 4 #[false, false, false, false] (S := (fun W => W.cell? ⟨nb, 0, none⟩ = some (.int .i64 (v1.most : Int)) ∧ W.cell? ⟨nb, 1, none⟩ = some (.int .i64 (v1.sk.wide : Int)) ∧ W.cell? ⟨nb, 2, none⟩ = some (.int .u64 (v1.sk.seed : Int)) ∧ W.cell? ⟨nb, 3, none⟩ = some (.slice (some ⟨a'.R, 0, none⟩) 4 a'.c) ∧ W.cell? ⟨nb, 4, none⟩ = some (.slice (some ⟨a'.D, 0, none⟩) v1.sk.wide v1.sk.wide) ∧ W.cell? ⟨nb, 5, none⟩ = some (.int .i64 (v1.sk.added : Int)) ∧ W.cell? ⟨nb, 6, none⟩ = some (.slice (some ⟨a'.G, 0, none⟩) 3 3) ∧ W.cell? ⟨nb, 7, none⟩ = some (.int .i64 (v1.pl : Int)))) rfl rfl (by kernel_rfl) hS10 (fun hSw => ?_)
        refine take_at 0 55 (fuel := 3) ?_ rfl rfl (by kernel_rfl) (by kernel_rfl) (by kernel_rfl) (Or.inl ⟨by rfl, ?_⟩) hSw ?_
        rotate_left
        · intro wx hSx
          (try dsimp only at hSx)
          go_split_ands
          go_simp
          (try with_reducible rfl)
        simp only [List.setIfInBounds_toArray, List.set_cons_zero, List.set_cons_succ]
        refine take_at 1 56 (fuel := 2) ?_ rfl rfl (by kernel_rfl) (by kernel_rfl) (by kernel_rfl) (Or.inl ⟨by rfl, ?_⟩) hSw ?_
        rotate_left
        · intro wx hSx
          (try dsimp only at hSx)
          go_split_ands
          go_simp
          (try with_reducible rfl)
        simp only [List.setIfInBounds_toArray, List.set_cons_zero, List.set_cons_succ]
        refine take_at 2 8 (fuel := 1) ?_ rfl rfl (by kernel_rfl) (by kernel_rfl) (by kernel_rfl) (Or.inl ⟨by rfl, ?_⟩) hSw ?_
        rotate_left
        · intro wx hSx
          (try dsimp only at hSx)
          go_split_ands
          go_simp
          (try with_reducible rfl)
        simp only [List.setIfInBounds_toArray, List.set_cons_zero, List.set_cons_succ]
        refine wpAnyH_ready (fuel := 0) (rs := [3]) (by kernel_rfl) (by simp) (AllReadyH.cons rfl (fun K hK => ?_) AllReadyH.nil)
        go_simp
        refine hK.out _ _ ⟨hbr.cell 0, hbr.cell 1, hbr.cell 2, hbr.cell 3, hbr.cell 4, hbr.cell 5, hbr.cell 6, hbr.cell 7⟩ (fun hSw => ?_)
        clear hK K
        simp only [List.setIfInBounds_toArray, List.set_cons_zero, List.set_cons_succ]
        refine wpAnyH_done (by kernel_rfl) ⟨rfl, ?_⟩ 0
        have hLp : Lp w mb A' B' P' m' v1 a' (((((((((wc.setCell ⟨mb, 0, none⟩ (.int .i64 (v1.most : Int))).setCell ⟨mb, 1, none⟩ (.int .i64 (v1.sk.wide : Int))).setCell ⟨mb, 2, none⟩ (.int .u64 (v1.sk.seed : Int))).setCell ⟨mb, 3, none⟩ (.slice (some ⟨a'.R, 0, none⟩) 4 a'.c)).setCell ⟨mb, 4, none⟩ (.slice (some ⟨a'.D, 0, none⟩) v1.sk.wide v1.sk.wide)).setCell ⟨mb, 5, none⟩ (.int .i64 (v1.sk.added : Int))).setCell ⟨mb, 6, none⟩ (.slice (some ⟨a'.G, 0, none⟩) 3 3)).setCell ⟨mb, 7, none⟩ (.int .i64 (v1.pl : Int)))).drew := (lp_lay hT1 hbm hsm hmbl).drewN 1
        clear hSw hS10 hbn hbm hbm' hbq hbr hT1
        clear z0 f0 z1 f1 z2 f2 z3 f3 z4 f4 z5 f5 z6 f6 z7 f7
        clear r0 s0 r1 s1 r2 s2 r3 s3 r4 s4 r5 s5 r6 s6 r7 s7
        have fs := fun W (h : Lp w mb A' B' P' m' v1 a' W) => lp_same hF1.2 h
        have ff := fun W => fewT_c (T j) hsize W
        have fh := fun W (h : Lp w mb A' B' P' m' v1 a' W) => lp_has (k := fewL (T j)) hfl h
        have fr := fun W (h : Lp w mb A' B' P' m' v1 a' W) => lp_rhas (k := fewL (T j)) hF1.2 h
        have fn := fun W (h : Lp w mb A' B' P' m' v1 a' W) => lp_seen (k := fewL (T j)) hfs h
        have fm := fun W (h : Lp w mb A' B' P' m' v1 a' W) => lp_rseen (k := fewL (T j)) hfs hF1.2 h
        go_upto_region 11 with (fail)
        generalize (((((((((wc.setCell ⟨mb, 0, none⟩ (.int .i64 (v1.most : Int))).setCell ⟨mb, 1, none⟩ (.int .i64 (v1.sk.wide : Int))).setCell ⟨mb, 2, none⟩ (.int .u64 (v1.sk.seed : Int))).setCell ⟨mb, 3, none⟩ (.slice (some ⟨a'.R, 0, none⟩) 4 a'.c)).setCell ⟨mb, 4, none⟩ (.slice (some ⟨a'.D, 0, none⟩) v1.sk.wide v1.sk.wide)).setCell ⟨mb, 5, none⟩ (.int .i64 (v1.sk.added : Int))).setCell ⟨mb, 6, none⟩ (.slice (some ⟨a'.G, 0, none⟩) 3 3)).setCell ⟨mb, 7, none⟩ (.int .i64 (v1.pl : Int)))).drew = w5 at *
        have hc5 : w5.cell? ⟨sb, off + j * 2 + 1, none⟩ = some (.string (str (T j))) := (World.cell?_of_block (hLp.two.h.below.block sb hsb)).trans hw2
        go_wp2_with fail
        refine (ff _).mono ?_
        rintro e w6 ⟨rfl, rfl⟩
        generalize fewL (T j) = k at *
        clear hc5 ff hfl hfs hsize
        go_upto_region 12 with (fail)
        have hS12 := (hLp.drewN 1).all
        refine region_only 27 #[false, false, false, false, false, false, false, false, false, false, false, false, false, false, false, false, false, false, false, false, false, false, false, false, false, false, false] (S := (fun W => (W.cell? ⟨mb, 0, none⟩ = some (.int .i64 (v1.most : Int)) ∧ W.cell? ⟨mb, 1, none⟩ = some (.int .i64 (v1.sk.wide : Int)) ∧ W.cell? ⟨mb, 2, none⟩ = some (.int .u64 (v1.sk.seed : Int)) ∧ W.cell? ⟨mb, 3, none⟩ = some (.slice (some ⟨a'.R, 0, none⟩) 4 a'.c) ∧ W.cell? ⟨mb, 4, none⟩ = some (.slice (some ⟨a'.D, 0, none⟩) v1.sk.wide v1.sk.wide) ∧ W.cell? ⟨mb, 5, none⟩ = some (.int .i64 (v1.sk.added : Int)) ∧ W.cell? ⟨mb, 6, none⟩ = some (.slice (some ⟨a'.G, 0, none⟩) 3 3) ∧ W.cell? ⟨mb, 7, none⟩ = some (.int .i64 (v1.pl : Int))) ∧ Lp w mb A' B' P' m' v1 a' W)) rfl rfl (by kernel_rfl) hS12 (fun hSw => ?_)
        refine take_at 0 63 (fuel := 26) ?_ rfl rfl (by kernel_rfl) (by kernel_rfl) (by kernel_rfl) (Or.inl ⟨by rfl, ?_⟩) hSw ?_
        rotate_left
        · intro wx hSx
          (try dsimp only at hSx)
          go_split_ands
          go_simp
          (try with_reducible rfl)
        simp only [List.setIfInBounds_toArray, List.set_cons_zero, List.set_cons_succ]
        refine take_at 1 64 (fuel := 25) ?_ rfl rfl (by kernel_rfl) (by kernel_rfl) (by kernel_rfl) (Or.inl ⟨by rfl, ?_⟩) hSw ?_
        rotate_left
        · intro wx hSx
          (try dsimp only at hSx)
          go_split_ands
          go_simp
          (try with_reducible rfl)
        simp only [List.setIfInBounds_toArray, List.set_cons_zero, List.set_cons_succ]
        refine take_at 2 65 (fuel := 24) ?_ rfl rfl (by kernel_rfl) (by kernel_rfl) (by kernel_rfl) (Or.inl ⟨by rfl, ?_⟩) hSw ?_
        rotate_left
        · intro wx hSx
          (try dsimp only at hSx)
          go_split_ands
          go_simp
          (try with_reducible rfl)
        simp only [List.setIfInBounds_toArray, List.set_cons_zero, List.set_cons_succ]
        refine take_at 3 66 (fuel := 23) ?_ rfl rfl (by kernel_rfl) (by kernel_rfl) (by kernel_rfl) (Or.inl ⟨by rfl, ?_⟩) hSw ?_
        rotate_left
        · intro wx hSx
          (try dsimp only at hSx)
          go_split_ands
          go_simp
          (try with_reducible rfl)
        simp only [List.setIfInBounds_toArray, List.set_cons_zero, List.set_cons_succ]
        refine take_at 4 67 (fuel := 22) ?_ rfl rfl (by kernel_rfl) (by kernel_rfl) (by kernel_rfl) (Or.inl ⟨by rfl, ?_⟩) hSw ?_
        rotate_left
        · intro wx hSx
          (try dsimp only at hSx)
          go_split_ands
          go_simp
          (try with_reducible rfl)
        simp only [List.setIfInBounds_toArray, List.set_cons_zero, List.set_cons_succ]
        refine wpAnyH_ready (fuel := 21) (rs := [5]) (by kernel_rfl) (by simp) (AllReadyH.cons rfl (fun K hK => ?_) AllReadyH.nil)
        go_simp
        refine Calls.mono (fs _ hSw.2) ?_
        rintro e wv ⟨rfl, hwv⟩
        refine hK.out _ _ hwv.all (fun hSw => ?_)
        clear hK K
        simp only [List.setIfInBounds_toArray, List.set_cons_zero, List.set_cons_succ]
        refine take_at 6 69 (fuel := 20) ?_ rfl rfl (by kernel_rfl) (by kernel_rfl) (by kernel_rfl) (Or.inl ⟨by rfl, ?_⟩) hSw ?_
        rotate_left
        · intro wx hSx
          (try dsimp only at hSx)
          go_split_ands
          go_simp
          (try with_reducible rfl)
        simp only [List.setIfInBounds_toArray, List.set_cons_zero, List.set_cons_succ]
        refine take_at 7 70 (fuel := 19) ?_ rfl rfl (by kernel_rfl) (by kernel_rfl) (by kernel_rfl) (Or.inl ⟨by rfl, ?_⟩) hSw ?_
        rotate_left
        · intro wx hSx
          (try dsimp only at hSx)
          go_split_ands
          go_simp
          (try with_reducible rfl)
        simp only [List.setIfInBounds_toArray, List.set_cons_zero, List.set_cons_succ]
        refine take_at 8 71 (fuel := 18) ?_ rfl rfl (by kernel_rfl) (by kernel_rfl) (by kernel_rfl) (Or.inl ⟨by rfl, ?_⟩) hSw ?_
        rotate_left
        · intro wx hSx
          (try dsimp only at hSx)
          go_split_ands
          go_simp
          (try with_reducible rfl)
        simp only [List.setIfInBounds_toArray, List.set_cons_zero, List.set_cons_succ]
        refine take_at 9 72 (fuel := 17) ?_ rfl rfl (by kernel_rfl) (by kernel_rfl) (by kernel_rfl) (Or.inl ⟨by rfl, ?_⟩) hSw ?_
        rotate_left
        · intro wx hSx
          (try dsimp only at hSx)
          go_split_ands
          go_simp
          (try with_reducible rfl)
        simp only [List.setIfInBounds_toArray, List.set_cons_zero, List.set_cons_succ]
        refine take_at 10 73 (fuel := 16) ?_ rfl rfl (by kernel_rfl) (by kernel_rfl) (by kernel_rfl) (Or.inl ⟨by rfl, ?_⟩) hSw ?_
        rotate_left
        · intro wx hSx
          (try dsimp only at hSx)
          go_split_ands
          go_simp
          (try with_reducible rfl)
        simp only [List.setIfInBounds_toArray, List.set_cons_zero, List.set_cons_succ]
        refine take_at 12 75 (fuel := 15) ?_ rfl rfl (by kernel_rfl) (by kernel_rfl) (by kernel_rfl) (Or.inl ⟨by rfl, ?_⟩) hSw ?_
        rotate_left
        · intro wx hSx
          (try dsimp only at hSx)
          go_split_ands
          go_simp
          (try with_reducible rfl)
        simp only [List.setIfInBounds_toArray, List.set_cons_zero, List.set_cons_succ]
        refine take_at 13 76 (fuel := 14) ?_ rfl rfl (by kernel_rfl) (by kernel_rfl) (by kernel_rfl) (Or.inl ⟨by rfl, ?_⟩) hSw ?_
        rotate_left
        · intro wx hSx
          (try dsimp only at hSx)
          go_split_ands
          go_simp
          (try with_reducible rfl)
        simp only [List.setIfInBounds_toArray, List.set_cons_zero, List.set_cons_succ]
        refine wpAnyH_ready (fuel := 13) (rs := [11]) (by kernel_rfl) (by simp) (AllReadyH.cons rfl (fun K hK => ?_) AllReadyH.nil)
        go_simp
        refine Calls.mono (fh _ hSw.2) ?_
        rintro e wv ⟨rfl, hwv⟩
        refine hK.out _ _ hwv.all (fun hSw => ?_)
        clear hK K
        simp only [List.setIfInBounds_toArray, List.set_cons_zero, List.set_cons_succ]
        refine wpAnyH_ready (fuel := 12) (rs := [14]) (by kernel_rfl) (by simp) (AllReadyH.cons rfl (fun K hK => ?_) AllReadyH.nil)
        go_simp
        refine Calls.mono (fr _ hSw.2) ?_
        rintro e wv ⟨rfl, hwv⟩
        refine hK.out _ _ hwv.all (fun hSw => ?_)
        clear hK K
        simp only [List.setIfInBounds_toArray, List.set_cons_zero, List.set_cons_succ]
        refine take_at 15 78 (fuel := 11) ?_ rfl rfl (by kernel_rfl) (by kernel_rfl) (by kernel_rfl) (Or.inl ⟨by rfl, ?_⟩) hSw ?_
        rotate_left
        · intro wx hSx
          (try dsimp only at hSx)
          go_split_ands
          go_simp
          (try with_reducible rfl)
        simp only [List.setIfInBounds_toArray, List.set_cons_zero, List.set_cons_succ]
        refine take_at 16 79 (fuel := 10) ?_ rfl rfl (by kernel_rfl) (by kernel_rfl) (by kernel_rfl) (Or.inl ⟨by rfl, ?_⟩) hSw ?_
        rotate_left
        · intro wx hSx
          (try dsimp only at hSx)
          go_split_ands
          go_simp
          (try with_reducible rfl)
        simp only [List.setIfInBounds_toArray, List.set_cons_zero, List.set_cons_succ]
        refine take_at 17 80 (fuel := 9) ?_ rfl rfl (by kernel_rfl) (by kernel_rfl) (by kernel_rfl) (Or.inl ⟨by rfl, ?_⟩) hSw ?_
        rotate_left
        · intro wx hSx
          (try dsimp only at hSx)
          go_split_ands
          go_simp
          (try with_reducible rfl)
        simp only [List.setIfInBounds_toArray, List.set_cons_zero, List.set_cons_succ]
        refine take_at 18 81 (fuel := 8) ?_ rfl rfl (by kernel_rfl) (by kernel_rfl) (by kernel_rfl) (Or.inl ⟨by rfl, ?_⟩) hSw ?_
        rotate_left
        · intro wx hSx
          (try dsimp only at hSx)
          go_split_ands
          go_simp
          (try with_reducible rfl)
        simp only [List.setIfInBounds_toArray, List.set_cons_zero, List.set_cons_succ]
        refine take_at 19 82 (fuel := 7) ?_ rfl rfl (by kernel_rfl) (by kernel_rfl) (by kernel_rfl) (Or.inl ⟨by rfl, ?_⟩) hSw ?_
        rotate_left
        · intro wx hSx
          (try dsimp only at hSx)
          go_split_ands
          go_simp
          (try with_reducible rfl)
        simp only [List.setIfInBounds_toArray, List.set_cons_zero, List.set_cons_succ]
        refine take_at 21 84 (fuel := 6) ?_ rfl rfl (by kernel_rfl) (by kernel_rfl) (by kernel_rfl) (Or.inl ⟨by rfl, ?_⟩) hSw ?_
        rotate_left
        · intro wx hSx
          (try dsimp only at hSx)
          go_split_ands
          go_simp
          (try with_reducible rfl)
        simp only [List.setIfInBounds_toArray, List.set_cons_zero, List.set_cons_succ]
        refine take_at 22 85 (fuel := 5) ?_ rfl rfl (by kernel_rfl) (by kernel_rfl) (by kernel_rfl) (Or.inl ⟨by rfl, ?_⟩) hSw ?_
        rotate_left
        · intro wx hSx
          (try dsimp only at hSx)
          go_split_ands
          go_simp
          (try with_reducible rfl)
        simp only [List.setIfInBounds_toArray, List.set_cons_zero, List.set_cons_succ]
        refine take_at 23 86 (fuel := 4) ?_ rfl rfl (by kernel_rfl) (by kernel_rfl) (by kernel_rfl) (Or.inl ⟨by rfl, ?_⟩) hSw ?_
        rotate_left
        · intro wx hSx
          (try dsimp only at hSx)
          go_split_ands
          go_simp
          (try with_reducible rfl)
        simp only [List.setIfInBounds_toArray, List.set_cons_zero, List.set_cons_succ]
        refine wpAnyH_ready (fuel := 3) (rs := [20]) (by kernel_rfl) (by simp) (AllReadyH.cons rfl (fun K hK => ?_) AllReadyH.nil)
        go_simp
        refine Calls.mono (fn _ hSw.2) ?_
        rintro e wv ⟨rfl, hwv⟩
        refine hK.out _ _ hwv.all (fun hSw => ?_)
        clear hK K
        simp only [List.setIfInBounds_toArray, List.set_cons_zero, List.set_cons_succ]
        refine wpAnyH_ready (fuel := 2) (rs := [24]) (by kernel_rfl) (by simp) (AllReadyH.cons rfl (fun K hK => ?_) AllReadyH.nil)
        go_simp
        refine Calls.mono (fm _ hSw.2) ?_
        rintro e wv ⟨rfl, hwv⟩
        refine hK.out _ _ hwv.all (fun hSw => ?_)
        clear hK K
        simp only [List.setIfInBounds_toArray, List.set_cons_zero, List.set_cons_succ]
        refine take_at 25 88 (fuel := 1) ?_ rfl rfl (by kernel_rfl) (by kernel_rfl) (by kernel_rfl) (Or.inl ⟨by rfl, ?_⟩) hSw ?_
        rotate_left
        · intro wx hSx
          (try dsimp only at hSx)
          go_split_ands
          go_simp
          (try with_reducible rfl)
        simp only [List.setIfInBounds_toArray, List.set_cons_zero, List.set_cons_succ]
        refine take_at 26 89 (fuel := 0) ?_ rfl rfl (by kernel_rfl) (by kernel_rfl) (by kernel_rfl) (Or.inl ⟨by rfl, ?_⟩) hSw ?_
        rotate_left
        · intro wx hSx
          (try dsimp only at hSx)
          go_split_ands
          go_simp
          (try with_reducible rfl)
        simp only [List.setIfInBounds_toArray, List.set_cons_zero, List.set_cons_succ]
        refine wpAnyH_done (by kernel_rfl) ⟨rfl, ?_⟩ 0
        have hZ := hSw.2
        clear hSw hS12 hLp fs fh fr fn fm
        go_wp2_with fail
        go_roundw
        case rel => exact ⟨j + 1, A', B', P', m', v1, a', by omega, by omega, by simp, rfl, hZ, hF1.1, hF1.2⟩
        case measure => simp [intOf]; omega
    · have hend : (j < n ∧ ¬ j < 80 ∧ decide ((j : Int) < (n : Int)) = true ∧ decide ((j : Int) < 80) = false) ∨ (¬ j < n ∧ decide ((j : Int) < (n : Int)) = false) := by
        by_cases h : j < n
        · exact .inl ⟨h, by omega, decide_eq_true (by omega), decide_eq_false (by omega)⟩
        · exact .inr ⟨h, decide_eq_false (by omega)⟩
      clear h1
      have fe := fun W (h : Lp w mb A B P m v a W) => lp_exp hOut h
      have fp := fun W (h : Lp w mb A B P m v a W) => lp_put hOut h
      have htl := Wirey.toList_str
      rcases hend with ⟨h2, h3, d1, d2⟩ | ⟨h2, d1⟩
      all_goals
        go_upto_region 14 with (fail)
        have hS14 := (hL.drewN 1).all
        refine region_only 6 #[false, false, false, false, false, false] (S := (fun W => (W.cell? ⟨mb, 0, none⟩ = some (.int .i64 (v.most : Int)) ∧ W.cell? ⟨mb, 1, none⟩ = some (.int .i64 (v.sk.wide : Int)) ∧ W.cell? ⟨mb, 2, none⟩ = some (.int .u64 (v.sk.seed : Int)) ∧ W.cell? ⟨mb, 3, none⟩ = some (.slice (some ⟨a.R, 0, none⟩) 4 a.c) ∧ W.cell? ⟨mb, 4, none⟩ = some (.slice (some ⟨a.D, 0, none⟩) v.sk.wide v.sk.wide) ∧ W.cell? ⟨mb, 5, none⟩ = some (.int .i64 (v.sk.added : Int)) ∧ W.cell? ⟨mb, 6, none⟩ = some (.slice (some ⟨a.G, 0, none⟩) 3 3) ∧ W.cell? ⟨mb, 7, none⟩ = some (.int .i64 (v.pl : Int))) ∧ Lp w mb A B P m v a W)) rfl rfl (by kernel_rfl) hS14 (fun hSw => ?_)
        refine take_at 0 90 (fuel := 5) ?_ rfl rfl (by kernel_rfl) (by kernel_rfl) (by kernel_rfl) (Or.inl ⟨by rfl, ?_⟩) hSw ?_
        rotate_left
        · intro wx hSx
          (try dsimp only at hSx)
          go_split_ands
          go_simp
          (try with_reducible rfl)
        simp only [List.setIfInBounds_toArray, List.set_cons_zero, List.set_cons_succ]
        refine take_at 2 92 (fuel := 4) ?_ rfl rfl (by kernel_rfl) (by kernel_rfl) (by kernel_rfl) (Or.inl ⟨by rfl, ?_⟩) hSw ?_
        rotate_left
        · intro wx hSx
          (try dsimp only at hSx)
          go_split_ands
          go_simp
          (try with_reducible rfl)
        simp only [List.setIfInBounds_toArray, List.set_cons_zero, List.set_cons_succ]
        refine wpAnyH_ready (fuel := 3) (rs := [1]) (by kernel_rfl) (by simp) (AllReadyH.cons rfl (fun K hK => ?_) AllReadyH.nil)
        go_simp
        refine Calls.mono (fe _ hSw.2) ?_
        rintro e wv ⟨rfl, hwv⟩
        refine hK.out _ _ hwv.all (fun hSw => ?_)
        clear hK K
        simp only [List.setIfInBounds_toArray, List.set_cons_zero, List.set_cons_succ]
        refine wpAnyH_ready (fuel := 2) (rs := [3]) (by kernel_rfl) (by simp) (AllReadyH.cons rfl (fun K hK => ?_) AllReadyH.nil)
        go_simp
        refine Calls.mono (fp _ hSw.2) ?_
        rintro e wv ⟨rfl, hwv⟩
        refine hK.out _ _ hwv.all (fun hSw => ?_)
        clear hK K
        simp only [List.setIfInBounds_toArray, List.set_cons_zero, List.set_cons_succ]
        refine take_at 4 94 (fuel := 1) ?_ rfl rfl (by kernel_rfl) (by kernel_rfl) (by kernel_rfl) (Or.inl ⟨by rfl, ?_⟩) hSw ?_
        rotate_left
        · intro wx hSx
          (try dsimp only at hSx)
          go_split_ands
          go_simp
          (try with_reducible rfl)
        simp only [List.setIfInBounds_toArray, List.set_cons_zero, List.set_cons_succ]
        refine take_at 5 6 (fuel := 0) ?_ rfl rfl (by kernel_rfl) (by kernel_rfl) (by kernel_rfl) (Or.inl ⟨by rfl, ?_⟩) hSw ?_
        rotate_left
        · intro wx hSx
          (try dsimp only at hSx)
          go_split_ands
          go_simp
          (try with_reducible rfl)
        simp only [List.setIfInBounds_toArray, List.set_cons_zero, List.set_cons_succ]
        refine wpAnyH_done (by kernel_rfl) ⟨rfl, ?_⟩ 0
        have hZ := hSw.2
        clear hSw hS14
        go_wp2_with fail
        go_ret
        exact ⟨rfl, hZ.two.h.below⟩
end
set_option linter.unusedVariables false in
set_option maxRecDepth 100000 in
theorem tinyPlays_lifted (os : Os) (started : os.Started) (H : Type) (enc : TypeId × Value → H) :
    ReturnsInHanded {} Tryz.checked os 3 .any (Rows.tinyPlaysSpec.pre6 enc Tryz.prog Tryz.f3 Rows.tinyPlaysRow.domain false) (Rows.tinyPlaysSpec.post enc Tryz.prog Tryz.f3 false true false false) := by
  refine returnsInHanded_of_change (C := Tryz.checked) Kit.own started (by kernel_rfl) Tryz.func3
    (ChangeSpec.witness6 (enc := enc) (C := Tryz.checked) false ⟨#[], #[.int .i64 0, .int .u64 0, .slice none 0 0], []⟩ 8 (by kernel_rfl) (by kernel_rfl) (by kernel_rfl) (by kernel_rfl)) ?_
  intro W base args ds gs before hval0 hW hcnd _
  have hval : ∀ (j : Nat) t v, Tryz.f3.params[j]? = some t → args[j]? = some v → Value.okWide Tryz.prog W .any base t v := hval0
  have hW' := hW
  obtain ⟨p, q, hA0, hV, rfl, hfz, hnd⟩ := hW
  have hA : DataW.TrodAll enc Tryz.prog W 0 (fun _ => true) true Tryz.f3.params.toList args.toList ds p := hA0
  rw [Tryz.params3] at hA hval
  obtain ⟨v0, vs0, d0, ds0, p0, q0, hargs, rfl, rfl, h0, r0⟩ := trodAll_cons hA
  obtain ⟨v1, vs1, d1, ds1, p1, q1, rfl, rfl, rfl, h1, r1⟩ := trodAll_cons r0
  obtain ⟨v2, vs2, d2, ds2, p2, q2, rfl, rfl, rfl, h2, r2⟩ := trodAll_cons r1
  obtain ⟨rfl, rfl, rfl⟩ := trodAll_nil r2
  obtain ⟨rfl, rfl⟩ := trodVars_none hV
  obtain rfl : args = #[v0, v1, v2] := by cases args; simp_all
  obtain ⟨a0, rfl, rfl, rfl, w0⟩ := open_int Tryz.underlying3 (hval 0 3 v0 rfl rfl) h0
  obtain ⟨a1, rfl, rfl, rfl, w1⟩ := open_int Tryz.underlying22 (hval 1 22 v1 rfl rfl) h1
  obtain ⟨b1, c1, e1, rfl⟩ := okWide_slice Tryz.underlying23 (hval 2 23 v2 rfl rfl)
  obtain ⟨fuel1, hf1⟩ := h2
  obtain ⟨ao1, len1, cap1, sb1, off1, kx1, tx1, hv1, ht1⟩ := open_acts (show DataW.trod enc Tryz.prog W 0 (fun _ => true) true fuel1 23 [.slice b1 c1 e1] = some _ from hf1)
  injection hv1 with hv1x hv1y hv1z
  subst hv1x hv1y hv1z
  clear hA0 hval0
  refine (tinyPlays_walk a0 w0 a1 w1 _ _ _ _ _ _ _ W ht1).mono fun e W' ⟨he, hg⟩ => ?_
  subst he
  exact ⟨_, rfl, Kit.law_post hW' rfl (by kernel_rfl) rfl (by kernel_rfl) hg⟩

theorem tinyPlays_over : Rows.tinyPlaysRow.holds Tryz.pinned (OpenSpec.ofChange Rows.tinyPlaysSpec) :=
  OpenClaim.holds_of_wide 3 Tryz.f3 rfl rfl rfl rfl rfl rfl rfl ⟨rfl, rfl, rfl, rfl, rfl⟩ rfl rfl rfl rfl rfl (by kernel_rfl) Tryz.func3 (by kernel_rfl)
    (of_decide_eq_true (by kernel_rfl)) (by unfold Func.isWrapper; first | (rw [if_pos (by decide +kernel)]; kernel_rfl) | (rw [if_neg (by decide +kernel)]; exact ⟨rfl, rfl⟩))
    (fun os started H enc _ => tinyPlays_lifted os started H enc)

theorem tinyPlays_holds : Rows.TinyPlaysSaid :=
  tinyPlays_over

end Go.Proofs.YtgfpedcdclgmiaaGreat.Tinyy
