/- Layer 3: Read around the function of WireReads: the error of the first that can't be taken, or that bytes are left; how many were left behind each. Nothing that was there turns but what it captured. -/
import Derived.Test.YtmoammadibepkaaDoorWireSteps
namespace Go.Proofs.YtmoammadibepkaaDoor.Wirey
open Go.ChangeShapes Go.WideShapes Go.ChangeAt Go.RowKit

theorem enters_steps : ∀ (args : Array Value) (w : World), (callFunc 32 args).run Tryd.prog w = .ok (.enter 32 args) w := fun _ _ => by kernel_rfl
/-- What Read tells. -/
def runE (l : List UInt8) (ss : List St) : Nat := if (runF ss l).2.1 = 0 then endE (runF ss l).2.2 else (runF ss l).2.1
/-- What was captured holds how many were left. -/
def LeftAt (XB N : Nat) (v0 : Value) (l : List UInt8) (ss : List St) (w2 : World) : Prop :=
  ∃ v, w2.cell? ⟨XB, 0, none⟩ = some v ∧ w2.ownsRow 0 3 1 v (runF ss l).1.length (ints (runF ss l).1) ∧ (∀ g, v.ownBlock = some g → v0.ownBlock = some g ∨ N ≤ g)
theorem LeftAt.on {w2 w3 : World} {XB N : Nat} {v0 : Value} {l : List UInt8} {ss : List St} {S : Nat → Prop} (h : LeftAt XB N v0 l ss w2) (hk : Kp S w2 w3) (hX : ¬ S XB) (h0 : ∀ g, v0.ownBlock = some g → ¬ S g) (hN : ∀ g, N ≤ g → ¬ S g) : LeftAt XB N v0 l ss w3 := by
  obtain ⟨v, h1, h2, h3⟩ := h
  exact ⟨v, hk.cell h1 hX, owns_keep h2 fun g hg hl => hk.block g hl ((h3 g hg).elim (h0 g) (hN g)), h3⟩

theorem reads_c (hSame : ∀ l, numR l = numF l) {NB LB XB sb off len cap : Nat} {ao : Option Addr} {l : List UInt8} {ss : List St} {v0 : Value} (w : World) (hl : l.length < 549755813888) (c1 : w.cell? ⟨NB, 0, none⟩ = some (.int .i64 (ss.length : Int))) (c2 : w.cell? ⟨LB, 0, none⟩ = some (.slice ao len cap)) (hao : 0 < ss.length → ao = some ⟨sb, off, none⟩) (hlen : ss.length ≤ len) (hl2 : len ≤ 9223372036854775807) (h12 : ss.length ≤ 12)
    (c3 : StepsAt w sb off ss) (hsb : sb < w.heap.size) (hns : ∀ s ∈ ss, s.n ≤ 9223372036854775807) (c5 : w.cell? ⟨XB, 0, none⟩ = some v0) (hv : w.ownsRow 0 3 1 v0 0 []) (hvl : ∀ g, v0.ownBlock = some g → g < w.heap.size) (z5 : w.frozen? ⟨XB, 0, none⟩ = false)
    (hX : XB ≠ NB ∧ XB ≠ LB ∧ XB ≠ sb ∧ v0.ownBlock ≠ some XB) (hv0 : v0.ownBlock ≠ some NB ∧ v0.ownBlock ≠ some LB ∧ v0.ownBlock ≠ some sb) :
    Calls Tryd.prog 31 #[.string (str l), .func (.func 32) #[] #[.pointer (some ⟨NB, 0, none⟩), .pointer (some ⟨LB, 0, none⟩), .pointer (some ⟨XB, 0, none⟩)]] w fun e w' =>
      e = .returned (.int .i64 (runE l ss : Int)) ∧ Kp (fun k => k = XB ∨ v0.ownBlock = some k) w w' ∧ LeftAt XB (w.heap.size + 2) v0 l ss w' := by
  have lN := World.block_lt_of_cell? w _ c1
  have lL := World.block_lt_of_cell? w _ c2
  have lX := World.block_lt_of_cell? w _ c5
  have hC : ∀ k, (k = XB ∨ v0.ownBlock = some k) → k < w.heap.size := by
    rintro k (rfl | h)
    · exact lX
    · exact hvl k h
  have hQ : ∀ w2 w3, w.heap.size + 3 < w2.heap.size → LeftAt XB (w.heap.size + 2) v0 l ss w2 → Kp (fun k => k = w.heap.size ∨ k = w.heap.size + 1) w2 w3 → LeftAt XB (w.heap.size + 2) v0 l ss w3 := fun w2 w3 _ h hk =>
    h.on hk (by simp only [] at lX; omega) (fun g hg => by have := hvl g hg; omega) (fun g hg => by omega)
  have hone : ∀ R O w1, RS w1 R O l → Below w.heap.size w w1 → w.heap.size ≤ R → w.heap.size ≤ O →
      Calls Tryd.prog 32 (#[.pointer (some ⟨R, 0, none⟩)] ++ #[.pointer (some ⟨NB, 0, none⟩), .pointer (some ⟨LB, 0, none⟩), .pointer (some ⟨XB, 0, none⟩)]) w1 fun e w2 =>
        (((runF ss l).2.1 = 0 ∧ e = .returned (.tuple #[]) ∧ RS w2 R O (runF ss l).2.2) ∨ ((runF ss l).2.1 ≠ 0 ∧ e = .panicked (flt O) ∧ Wrong w2 O (runF ss l).2.1)) ∧
        Kp (fun k => k = R ∨ k = O ∨ k = XB ∨ v0.ownBlock = some k) w1 w2 ∧ LeftAt XB (w.heap.size + 2) v0 l ss w2 := by
    intro R O w1 hr hb hR hO
    have hne : R ≠ O := hr.rd.ne_ hr.of (by decide)
    have hRl := hr.rd.lt
    have hOl := hr.of.lt
    refine (take_steps (R := R) (O := O) (B := 0) (ss := ss) w1 hr (Nat.zero_le _) hl ((hb.cell lN).trans c1) ((hb.cell lL).trans c2) hao hlen hl2 h12 ?_ hns ((hb.cell lX).trans c5) ?_ ((World.frozen?_of_block (hb.block _ lX)).trans z5) ?_ ?_ hX hv0 hSame).mono ?_
    · intro j s hs
      obtain ⟨d1, d2, d3⟩ := c3 j s hs
      exact ⟨(hb.cell hsb).trans d1, (hb.cell hsb).trans d2, (hb.cell hsb).trans d3⟩
    · exact owns_keep hv fun g hg hgl => hb.block g hgl
    · simp only [] at lN lL lX
      refine ⟨by omega, by omega, by omega, by omega, fun e => ?_⟩
      have := hvl R e; omega
    · simp only [] at lN lL lX
      refine ⟨by omega, by omega, by omega, by omega, fun e => ?_⟩
      have := hvl O e; omega
    · rintro e w2 ⟨h1, h2, v, h3, h4, h5⟩
      exact ⟨h1, h2, v, h3, h4, fun g hg => (h5 g hg).imp id (by omega)⟩
  unfold runE
  by_cases h0 : (runF ss l).2.1 = 0
  · rw [if_pos h0]
    refine read_ok2 _ enters_steps _ l (runF ss l).2.2 w _ (LeftAt XB (w.heap.size + 2) v0 l ss) hC hQ ?_
    intro R O w1 hr hb hR hO
    refine (hone R O w1 hr hb hR hO).mono ?_
    rintro e w2 ⟨(⟨_, h1, h2⟩ | ⟨h1, _⟩), h3, h4⟩
    · exact ⟨h1, h2, h3, h4⟩
    · exact absurd h0 h1
  · rw [if_neg h0]
    refine read_wrong2 _ enters_steps _ l (runF ss l).2.1 w _ (LeftAt XB (w.heap.size + 2) v0 l ss) hC hQ ?_
    intro R O w1 hr hb hR hO
    refine (hone R O w1 hr hb hR hO).mono ?_
    rintro e w2 ⟨(⟨h1, _⟩ | ⟨_, h1, h2⟩), h3, h4⟩
    · exact absurd h1 h0
    · exact ⟨h1, h2, h3, h4⟩
end Go.Proofs.YtmoammadibepkaaDoor.Wirey
