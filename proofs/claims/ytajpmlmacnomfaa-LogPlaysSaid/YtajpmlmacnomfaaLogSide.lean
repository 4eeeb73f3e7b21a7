/- Layer 13: what its law plays with, side by side. No condition. -/
import Derived.Test.YtajpmlmacnomfaaLogCalls
import Derived.Test.YtajpmlmacnomfaaBits
import Derived.Test.YtajpmlmacnomfaaKit
import Derived.Test.YtajpmlmacnomfaaLogAwake
import Derived.Test.YtajpmlmacnomfaaLogOpen
import Derived.Test.YtajpmlmacnomfaaRows
import Derived.Test.YtajpmlmacnomfaaRegion
import Derived.Test.YtajpmlmacnomfaaRegionK
import Derived.Test.YtajpmlmacnomfaaLogModel
import Derived.Lib.Hide
import Derived.BigQuiet
namespace Go.Proofs.Ytajpmlmacnomfaa.Logy
open Go.ChangeShapes Go.WideShapes Go.ChangeAt Go.RowKit
open Wirey (Blk Row str str_size str_list str_cat Kp)
open Regy Slsy

section
variable {w w2 W W' : World} {P P' P'' : Nat → Prop}
theorem Mv.pre (hb : Below w.heap.size w w2) (h : Mv P P' w2 W) : Mv P P' w W :=
  ⟨(Kp.of_below hb).trans h.kp, fun k hk => (h.new k hk).elim .inl fun h1 => .inr (Nat.le_trans hb.size h1)⟩
theorem Mv.post (h : Mv P P' w W) (hb : Below W.heap.size W W') : Mv P P' w W' := ⟨h.kp.trans (Kp.of_below hb), h.new⟩
theorem Mv.none (hb : Below w.heap.size w W) : Mv P P w W := ⟨Kp.of_below hb, fun _ h => .inl h⟩
theorem Mv.cell (h : Mv P P' w W) {p : Addr} (hp : w.heap.size ≤ p.block) (u : Value) : Mv P P' w (W.setCell p u) :=
  ⟨⟨h.kp.os, h.kp.tape, h.kp.output, Nat.le_trans h.kp.size (by simp [World.setCell]), fun k hk hS => (Below.heap_setCell _ _ _ _ (by omega)).trans (h.kp.block k hk hS)⟩, h.new⟩
end
/-- The law's own places, beside the program's log. -/
structure Do (w0 w W : World) (P P' : Nat → Prop) (b B most : Nat) (lp' : List Rc) (MB XB : Nat) (Bm : Nat) (v : Value) (l : List Rc) (s num : Nat) : Prop where
  held : HeldL w0 W P' b B most lp'
  mv : Mv P P' w W
  bm : Blk W MB 30 #[.int .u64 (Bm : Int), v, .int .i64 (most : Int)]
  br : Blk W (w.heap.size + 2) 30 #[.int .u64 0, .slice none 0 0, .int .i64 0]
  bx : Blk W XB 43 #[.int .u64 (s : Int), .int .u64 0, .int .u64 0, .int .u64 (num : Int), .int .i64 0, .string ⟨#[]⟩, .string ⟨#[]⟩, .int .u64 0, .int .u64 0]
  vw : Vw W Rc.enc 9 v l
  no : ∀ g, v.ownBlock = some g → ¬ P' g ∧ g ≠ MB ∧ g ≠ w.heap.size + 2 ∧ g ≠ XB
  hM : w.heap.size ≤ MB ∧ MB ≠ w.heap.size + 2 ∧ MB ≠ XB ∧ w.heap.size + 2 ≠ XB ∧ w.heap.size ≤ XB
  nM : ¬ P' MB ∧ ¬ P' (w.heap.size + 2) ∧ ¬ P' XB
section
variable {w0 w W W' : World} {P P' P'' : Nat → Prop} {b B B2 most MB XB Bm Bm2 s num : Nat} {lp' lp2 l l2 : List Rc} {v v2 : Value}
theorem Do.below (h : Do w0 w W P P' b B most lp' MB XB Bm v l s num) (hb : Below W.heap.size W W') : Do w0 w W' P P' b B most lp' MB XB Bm v l s num :=
  ⟨h.held.below hb, h.mv.post hb, h.bm.below hb h.bm.lt, h.br.below hb h.br.lt, h.bx.below hb h.bx.lt, h.vw.below hb, h.no, h.hM, h.nM⟩
theorem Do.prog (h : Do w0 w W P P' b B most lp' MB XB Bm v l s num) (hH : HeldL w0 W' P'' b B2 most lp2) (hM : Mv P' P'' W W') : Do w0 w W' P P'' b B2 most lp2 MB XB Bm v l s num := by
  have no : ∀ k, k < W.heap.size → ¬ P' k → ¬ P'' k := fun k hk hp hq => (hM.new k hq).elim hp fun h1 => by omega
  exact ⟨hH, ⟨⟨hM.kp.os.trans h.mv.kp.os, hM.kp.tape.trans h.mv.kp.tape, hM.kp.output.trans h.mv.kp.output, Nat.le_trans h.mv.kp.size hM.kp.size, fun k hk hS => (hM.kp.block k (Nat.lt_of_lt_of_le hk h.mv.kp.size) fun hp => (h.mv.new k hp).elim hS fun h1 => by omega).trans (h.mv.kp.block k hk hS)⟩,
      fun k hk => (hM.new k hk).elim (h.mv.new k) fun h1 => .inr (Nat.le_trans h.mv.kp.size h1)⟩,
    (hM.kp.block _ h.bm.lt h.nM.1).trans h.bm, (hM.kp.block _ h.br.lt h.nM.2.1).trans h.br, (hM.kp.block _ h.bx.lt h.nM.2.2).trans h.bx,
    h.vw.stay hM.kp.size fun g hg => hM.kp.block g (h.vw.lt g hg) (h.no g hg).1, fun g hg => ⟨no g (h.vw.lt g hg) (h.no g hg).1, (h.no g hg).2⟩, h.hM,
    no _ h.bm.lt h.nM.1, no _ h.br.lt h.nM.2.1, no _ h.bx.lt h.nM.2.2⟩
/-- The model's own box is written anew. -/
theorem Do.model (h : Do w0 w W P P' b B most lp' MB XB Bm v l s num) (hv : Vw W Rc.enc 9 v2 l2) (ho : ∀ g, v2.ownBlock = some g → ¬ P' g ∧ g ≠ MB ∧ g ≠ w.heap.size + 2 ∧ g ≠ XB) {u : Value} (hu : u = .int .u64 (Bm2 : Int)) :
    Do w0 w (((W.setCell ⟨MB, 0, none⟩ u).setCell ⟨MB, 1, none⟩ v2).setCell ⟨MB, 2, none⟩ (.int .i64 (most : Int))) P P' b B most lp' MB XB Bm2 v2 l2 s num := by
  subst hu
  have hK : Kp (fun k => k = MB) W (((W.setCell ⟨MB, 0, none⟩ (.int .u64 (Bm2 : Int))).setCell ⟨MB, 1, none⟩ v2).setCell ⟨MB, 2, none⟩ (.int .i64 (most : Int))) :=
    (((Kp.refl (fun k => k = MB) W).set (p := ⟨MB, 0, none⟩) rfl _).set (p := ⟨MB, 1, none⟩) rfl _).set (p := ⟨MB, 2, none⟩) rfl _
  have hT := ((h.bm.put 0 (.int .u64 (Bm2 : Int))).put 1 v2).put 2 (.int .i64 (most : Int))
  simp only [List.setIfInBounds_toArray, List.set_cons_zero, List.set_cons_succ] at hT
  exact ⟨h.held.kp hK fun k hp e => h.nM.1 (e ▸ hp), ((h.mv.cell (p := ⟨MB, 0, none⟩) h.hM.1 _).cell (p := ⟨MB, 1, none⟩) h.hM.1 _).cell (p := ⟨MB, 2, none⟩) h.hM.1 _, hT,
    hK.blk h.br (fun e => h.hM.2.1 e.symm), hK.blk h.bx (fun e => h.hM.2.2.1 e.symm), hv.stay hK.size fun g hg => hK.block g (hv.lt g hg) (ho g hg).2.1, ho, h.hM, h.nM⟩
/-- One cell of it: what is kept. -/
theorem Do.list (h : Do w0 w W P P' b B most lp' MB XB Bm v l s num) (hv : Vw W Rc.enc 9 v2 l2) (ho : ∀ g, v2.ownBlock = some g → ¬ P' g ∧ g ≠ MB ∧ g ≠ w.heap.size + 2 ∧ g ≠ XB) :
    Do w0 w (W.setCell ⟨MB, 1, none⟩ v2) P P' b B most lp' MB XB Bm v2 l2 s num := by
  have hK : Kp (fun k => k = MB) W (W.setCell ⟨MB, 1, none⟩ v2) := (Kp.refl (fun k => k = MB) W).set (p := ⟨MB, 1, none⟩) rfl _
  have hT := h.bm.put 1 v2
  simp only [List.setIfInBounds_toArray, List.set_cons_zero, List.set_cons_succ] at hT
  exact ⟨h.held.kp hK fun k hp e => h.nM.1 (e ▸ hp), h.mv.cell (p := ⟨MB, 1, none⟩) h.hM.1 _, hT,
    hK.blk h.br (fun e => h.hM.2.1 e.symm), hK.blk h.bx (fun e => h.hM.2.2.1 e.symm), hv.stay hK.size fun g hg => hK.block g (hv.lt g hg) (ho g hg).2.1, ho, h.hM, h.nM⟩
/-- The record's place is another one. -/
theorem Do.seq (h : Do w0 w W P P' b B most lp' MB XB Bm v l s num) (s2 : Nat) {u : Value} (hu : u = .int .u64 (s2 : Int)) :
    Do w0 w (W.setCell ⟨XB, 0, none⟩ u) P P' b B most lp' MB XB Bm v l s2 num := by
  subst hu
  have hK : Kp (fun k => k = XB) W (W.setCell ⟨XB, 0, none⟩ (.int .u64 (s2 : Int))) := (Kp.refl (fun k => k = XB) W).set (p := ⟨XB, 0, none⟩) rfl _
  have hT := h.bx.put 0 (.int .u64 (s2 : Int))
  simp only [List.setIfInBounds_toArray, List.set_cons_zero] at hT
  exact ⟨h.held.kp hK fun k hp e => h.nM.2.2 (e ▸ hp), h.mv.cell (p := ⟨XB, 0, none⟩) h.hM.2.2.2.2 _, hK.blk h.bm (fun e => h.hM.2.2.1 e), hK.blk h.br (fun e => h.hM.2.2.2.1 e), hT,
    h.vw.stay hK.size fun g hg => hK.block g (h.vw.lt g hg) (h.no g hg).2.2.2, h.no, h.hM, h.nM⟩
/-- The result's box is written, and what is handed back. -/
theorem Do.out (h : Do w0 w W P P' b B most lp' MB XB Bm v l s num) {u v3 : Value} {B3 : Nat} {l3 : List Rc} (hv : Vw W Rc.enc 9 v3 l3) (ho : ∀ g, v3.ownBlock = some g → ¬ P' g ∧ g ≠ w.heap.size + 2) (hu : u = .int .u64 (B3 : Int)) :
    Blk (((W.setCell ⟨w.heap.size + 2, 0, none⟩ u).setCell ⟨w.heap.size + 2, 1, none⟩ v3).setCell ⟨w.heap.size + 2, 2, none⟩ (.int .i64 (most : Int))) (w.heap.size + 2) 30 #[.int .u64 (B3 : Int), v3, .int .i64 (most : Int)] ∧
    HeldL w0 (((W.setCell ⟨w.heap.size + 2, 0, none⟩ u).setCell ⟨w.heap.size + 2, 1, none⟩ v3).setCell ⟨w.heap.size + 2, 2, none⟩ (.int .i64 (most : Int))) P' b B most lp' ∧
    Vw (((W.setCell ⟨w.heap.size + 2, 0, none⟩ u).setCell ⟨w.heap.size + 2, 1, none⟩ v3).setCell ⟨w.heap.size + 2, 2, none⟩ (.int .i64 (most : Int))) Rc.enc 9 v3 l3 ∧
    Mv P P' w (((W.setCell ⟨w.heap.size + 2, 0, none⟩ u).setCell ⟨w.heap.size + 2, 1, none⟩ v3).setCell ⟨w.heap.size + 2, 2, none⟩ (.int .i64 (most : Int))) := by
  subst hu
  have hK : Kp (fun k => k = w.heap.size + 2) W (((W.setCell ⟨w.heap.size + 2, 0, none⟩ (.int .u64 (B3 : Int))).setCell ⟨w.heap.size + 2, 1, none⟩ v3).setCell ⟨w.heap.size + 2, 2, none⟩ (.int .i64 (most : Int))) :=
    (((Kp.refl (fun k => k = w.heap.size + 2) W).set (p := ⟨w.heap.size + 2, 0, none⟩) rfl _).set (p := ⟨w.heap.size + 2, 1, none⟩) rfl _).set (p := ⟨w.heap.size + 2, 2, none⟩) rfl _
  have hT := ((h.br.put 0 (.int .u64 (B3 : Int))).put 1 v3).put 2 (.int .i64 (most : Int))
  simp only [List.setIfInBounds_toArray, List.set_cons_zero, List.set_cons_succ] at hT
  have hr : w.heap.size ≤ w.heap.size + 2 := by omega
  exact ⟨hT, h.held.kp hK fun k hp e => h.nM.2.1 (e ▸ hp), hv.stay hK.size fun g hg => hK.block g (hv.lt g hg) (ho g hg).2,
    ((h.mv.cell (p := ⟨w.heap.size + 2, 0, none⟩) hr _).cell (p := ⟨w.heap.size + 2, 1, none⟩) hr _).cell (p := ⟨w.heap.size + 2, 2, none⟩) hr _⟩
end
end Go.Proofs.Ytajpmlmacnomfaa.Logy
