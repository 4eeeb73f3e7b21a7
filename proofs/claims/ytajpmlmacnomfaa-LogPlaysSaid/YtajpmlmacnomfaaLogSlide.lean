/- The program's log: one slides in. The only condition: places are not near the end of the numbers. -/
import Derived.Test.YtajpmlmacnomfaaLogCutIt
namespace Go.Proofs.Ytajpmlmacnomfaa.Logy
open Go.ChangeShapes Go.WideShapes Go.ChangeAt Go.RowKit
open Wirey (Blk Row str str_size str_list str_cat Kp)
open Regy Slsy
section
variable {w0 w w' : World} {P S : Nat → Prop} {b base most : Nat} {l : List Rc}
set_option maxRecDepth 100000 in
theorem slide_c (x : Rc) (hs : x.seq < 18446744073709551616) (hb : base + 1000 < 18446744073709551616) (h : HeldL w0 w P b base most l) : Calls Try.prog 18 #[lp b, .agg x.cs] w fun e w' => e = .returned (.int .i64 (slE base l x : Int)) ∧ ∃ P', HeldL w0 w' P' b (slB base most l x) most (slL base most l x) ∧ Mv P P' w w' := by
  have hX := Blk.new w RT #[.int .u64 (x.seq : Int), .int .u64 (x.now : Int), .int .u64 (x.ses : Int), .int .u64 (x.num : Int), .int .i64 x.kind, .string (str x.key), .string (str x.val), .int .u64 (x.ttl : Int), .int .u64 (x.ver : Int)]
  have hb1 : Below w.heap.size w (w.alloc (.cells #[.int .u64 (x.seq : Int), .int .u64 (x.now : Int), .int .u64 (x.ses : Int), .int .u64 (x.num : Int), .int .i64 x.kind, .string (str x.key), .string (str x.val), .int .u64 (x.ttl : Int), .int .u64 (x.ver : Int)] RT)) := (Below.refl _ w).alloc (Nat.le_refl _) _
  have h1 := h.below hb1
  have hle := h.le
  have hPX : ¬ P w.heap.size := fun hp => absurd (h.low _ hp).2 (Nat.lt_irrefl _)
  by_cases e1 : x.seq = base + l.length + 1 ∧ most ≤ l.length
  rotate_left
  · have hE : addE base most l x = slE base l x ∧ addL base most l x = slL base most l x ∧ slB base most l x = base ∧ ¬ addE base most l x = 130 := by
      unfold addE addL slE slL slB
      by_cases e2 : x.seq = base + l.length + 1
      · have e3 : ¬ most ≤ l.length := fun h => e1 ⟨e2, h⟩
        simp [e2, e3]
      · simp [e2]
    obtain ⟨hE1, hE2, hE3, hE4⟩ := hE
    have hadd := add_q x hs (by omega) h1
    rw [hE2, hE1] at hadd
    rw [hE1] at hE4
    rw [hE3]
    clear hE1 hE2 hE3 e1
    generalize slE base l x = E at *
    have d0 : decide ((E : Int) = 130) = false := decide_eq_false (by omega)
    go_enter Try.func18, Try.ntmps18
    go_wp2_with fail
    generalize w.alloc (.cells #[.int .u64 (x.seq : Int), .int .u64 (x.now : Int), .int .u64 (x.ses : Int), .int .u64 (x.num : Int), .int .i64 x.kind, .string (str x.key), .string (str x.val), .int .u64 (x.ttl : Int), .int .u64 (x.ver : Int)] RT) = w1 at *
    refine hadd.mono ?_
    rintro e w2 ⟨rfl, P2, h2, hM⟩
    go_wp2_with fail
    go_ret
    exact ⟨rfl, P2, h2, hM.old hb1⟩
  · obtain ⟨e2, e3⟩ := e1
    have hE : addE base most l x = 130 := by unfold addE; rw [if_neg (by omega), if_pos e3]
    have hL : addL base most l x = l := by unfold addL; rw [if_neg (by omega), if_pos e3]
    have hE1 : slE base l x = 0 := by unfold slE; rw [if_neg (by omega)]
    have hB1 : slB base most l x = base + 1 := by unfold slB; rw [if_neg (by omega), if_pos e3]
    have hL1 : slL base most l x = l.drop 1 ++ [x] := by unfold slL; rw [if_neg (by omega), if_pos e3, List.drop_one]
    have hadd := add_q x hs (by omega) h1
    rw [hE, hL] at hadd
    have hc : cutN base (base + 1) l = 1 := by unfold cutN; omega
    have hd1 : (l.drop 1).length = l.length - 1 := List.length_drop
    have hE2 : addE (base + 1) most (l.drop 1) x = 0 := by unfold addE; rw [if_neg (by omega), if_neg (by omega)]
    have hL2 : addL (base + 1) most (l.drop 1) x = l.drop 1 ++ [x] := by unfold addL; rw [if_neg (by omega), if_neg (by omega)]
    rw [hE1, hB1, hL1]
    have hw : IntKind.u64.wrap ((base : Int) + 1) = (base : Int) + 1 := IntWalk.u64_in _ (by omega)
    clear hE hL hE1 hB1 hL1 e2 e3
    have HC := Lib.hid hc
    have HE := Lib.hid hE2
    have HL := Lib.hid hL2
    clear hc hE2 hL2 hd1
    go_enter Try.func18, Try.ntmps18
    go_wp2_with fail
    generalize w.alloc (.cells #[.int .u64 (x.seq : Int), .int .u64 (x.now : Int), .int .u64 (x.ses : Int), .int .u64 (x.num : Int), .int .i64 x.kind, .string (str x.key), .string (str x.val), .int .u64 (x.ttl : Int), .int .u64 (x.ver : Int)] RT) = w1 at *
    refine hadd.mono ?_
    rintro e w2 ⟨rfl, P2, h2, hM⟩
    have hXP : ¬ P2 w.heap.size := fun hp => (hM.new _ hp).elim hPX fun h => absurd hX.lt (Nat.not_lt.2 h)
    replace hX := hM.kp.blk hX hPX
    obtain ⟨a, c, c0, c1, c2⟩ := h2.cs
    clear hadd h1
    go_wp2_with fail
    refine (cut_q (base + 1) (by omega) (by omega) (Int.natCast_add base 1).symm h2).mono ?_
    rw [HC.out]
    rintro e w3 ⟨rfl, P3, h3, hM3⟩
    have hXP3 : ¬ P3 w.heap.size := fun hp => (hM3.new _ hp).elim hXP fun h => absurd hX.lt (Nat.not_lt.2 h)
    replace hX := hM3.kp.blk hX hXP
    clear c0 c1 c2
    have x0 : w3.cell? ⟨w.heap.size, 0, none⟩ = some (.int .u64 (x.seq : Int)) := hX.cell 0
    have x1 : w3.cell? ⟨w.heap.size, 1, none⟩ = some (.int .u64 (x.now : Int)) := hX.cell 1
    have x2 : w3.cell? ⟨w.heap.size, 2, none⟩ = some (.int .u64 (x.ses : Int)) := hX.cell 2
    have x3 : w3.cell? ⟨w.heap.size, 3, none⟩ = some (.int .u64 (x.num : Int)) := hX.cell 3
    have x4 : w3.cell? ⟨w.heap.size, 4, none⟩ = some (.int .i64 x.kind) := hX.cell 4
    have x5 : w3.cell? ⟨w.heap.size, 5, none⟩ = some (.string (str x.key)) := hX.cell 5
    have x6 : w3.cell? ⟨w.heap.size, 6, none⟩ = some (.string (str x.val)) := hX.cell 6
    have x7 : w3.cell? ⟨w.heap.size, 7, none⟩ = some (.int .u64 (x.ttl : Int)) := hX.cell 7
    have x8 : w3.cell? ⟨w.heap.size, 8, none⟩ = some (.int .u64 (x.ver : Int)) := hX.cell 8
    go_wp2_with fail
    refine (add_q x hs (by omega) h3).mono ?_
    rw [HE.out, HL.out]
    rintro e w4 ⟨rfl, P4, h4, hM4⟩
    go_wp2_with fail
    go_ret
    exact ⟨rfl, P4, h4, ((hM.old hb1).then_ hM3).then_ hM4⟩
end
end Go.Proofs.Ytajpmlmacnomfaa.Logy
