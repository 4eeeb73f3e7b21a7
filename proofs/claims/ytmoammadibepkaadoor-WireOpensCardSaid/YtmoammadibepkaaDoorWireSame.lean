/- Layer 3: the laws' own num and text against the document's own, state by state. Nothing that was there turns. -/
import Derived.Test.YtmoammadibepkaaDoorWireOwn
import Derived.Test.YtmoammadibepkaaDoorWireRefFlag
namespace Go.Proofs.YtmoammadibepkaaDoor.Wirey
open Go.ChangeShapes Go.WideShapes Go.ChangeAt Go.RowKit

/-- What an end tells. -/
def endN (m : List UInt8) (e : Nat) : Nat := if e = 0 then endE m else e
theorem aend_c (m : List UInt8) (e0 : Nat) (w : World) :
    Calls Tryd.prog 17 #[atV m e0] w fun e w' => e = .returned (.int .i64 (endN m e0 : Int)) ∧ Below w.heap.size w w' := by
  unfold endN
  by_cases h : e0 = 0
  · subst h; rw [if_pos rfl]; exact aend_ok w
  · rw [if_neg h]; exact aend_err e0 h w
/-- What is told of a number alone. -/
def nEnd (l : List UInt8) (top : Nat) : Nat := if nErr l top = 0 then endE (l.drop (numF l).2.1) else nErr l top
theorem nEnd_eq {l m : List UInt8} {top : Nat} (hm : nErr l top = 0 → m = l.drop (numF l).2.1) : endN m (nErr l top) = nEnd l top := by
  unfold endN nEnd
  by_cases h : nErr l top = 0
  · rw [if_pos h, if_pos h, hm h]
  · rw [if_neg h, if_neg h]
theorem lnum_c (hSame : ∀ l, numR l = numF l) (l : List UInt8) (top : Nat) (hl : l.length < 549755813888) (w : World) :
    Calls Tryd.prog 11 #[.string (str l), .int .u64 (top : Int)] w fun e w' => e = .returned (.tuple #[.int .u64 (nVal l top : Int), .int .i64 (nEnd l top : Int)]) ∧ Below w.heap.size w w' := by
  obtain ⟨n, k, e0, hF⟩ : ∃ n k e0, numF l = (n, k, e0) := ⟨_, _, _, rfl⟩
  have hR := (hSame l).trans hF
  by_cases he : e0 ≠ 0
  · have h1 : nErr l top = e0 := by unfold nErr; rw [hF, if_pos he]
    have h2 : nVal l top = 0 := by unfold nVal; rw [h1, if_neg he]
    have h3 : nEnd l top = e0 := by unfold nEnd; rw [h1, if_neg he]
    rw [h2, h3]
    exact lnum_wrong top w e0 fun R O w1 h => num_bad top hR he (by omega) w1 h
  · obtain rfl : e0 = 0 := by omega
    by_cases ht : top < n
    · have h1 : nErr l top = 3 := by unfold nErr; rw [hF, if_neg (by simp), if_pos ht]
      have h2 : nVal l top = 0 := by unfold nVal; rw [h1]; rfl
      have h3 : nEnd l top = 3 := by unfold nEnd; rw [h1]; rfl
      rw [h2, h3]
      exact lnum_wrong top w 3 fun R O w1 h => num_over top hR ht (by omega) w1 h
    · have h1 : nErr l top = 0 := by unfold nErr; rw [hF, if_neg (by simp), if_neg ht]
      have h2 : nVal l top = n := by unfold nVal; rw [h1, if_pos rfl, hF]
      have h3 : nEnd l top = endE (l.drop k) := by unfold nEnd; rw [h1, if_pos rfl, hF]
      rw [h2, h3]
      exact lnum_good n top w fun R O w1 h => num_ok top hR (by omega) (by omega) w1 h

/-- Why it is no text of at most so many bytes. -/
def tErr (l : List UInt8) (top : Int) : Nat := if nErr l (topN top) ≠ 0 then nErr l (topN top) else if l.length < (numF l).2.1 + (numF l).1 then 4 else 0
def tVal (l : List UInt8) (top : Int) : List UInt8 := if tErr l top = 0 then (l.drop (numF l).2.1).take (numF l).1 else []
def tEnd (l : List UInt8) (top : Int) : Nat := if tErr l top = 0 then endE (l.drop ((numF l).2.1 + (numF l).1)) else tErr l top
theorem ltext_c (hSame : ∀ l, numR l = numF l) (l : List UInt8) (top : Int) (htop : top ≤ 9223372036854775807) (hl : l.length < 549755813888) (w : World) :
    Calls Tryd.prog 18 #[.string (str l), .int .i64 top] w fun e w' => e = .returned (.tuple #[.string (str (tVal l top)), .int .i64 (tEnd l top : Int)]) ∧ Below w.heap.size w w' := by
  obtain ⟨n, k, e0, hF⟩ : ∃ n k e0, numF l = (n, k, e0) := ⟨_, _, _, rfl⟩
  have hR := (hSame l).trans hF
  have fin : ∀ e1, e1 ≠ 0 → tErr l top = e1 → tVal l top = [] ∧ tEnd l top = e1 := fun e1 he h => ⟨by unfold tVal; rw [h, if_neg he], by unfold tEnd; rw [h, if_neg he]⟩
  by_cases he : e0 ≠ 0
  · have h1 : nErr l (topN top) = e0 := by unfold nErr; rw [hF, if_pos he]
    obtain ⟨h2, h3⟩ := fin e0 he (by unfold tErr; rw [h1, if_pos he])
    rw [h2, h3]
    exact ltext_wrong top w e0 fun R O w1 h => gtext_bad top htop hR he (by omega) w1 h
  · obtain rfl : e0 = 0 := by omega
    by_cases ht : topN top < n
    · have h1 : nErr l (topN top) = 3 := by unfold nErr; rw [hF, if_neg (by simp), if_pos ht]
      obtain ⟨h2, h3⟩ := fin 3 (by decide) (by unfold tErr; rw [h1]; rfl)
      rw [h2, h3]
      exact ltext_wrong top w 3 fun R O w1 h => gtext_over top htop hR ht (by omega) w1 h
    · have h1 : nErr l (topN top) = 0 := by unfold nErr; rw [hF, if_neg (by simp), if_neg ht]
      by_cases hn : l.length < k + n
      · obtain ⟨h2, h3⟩ := fin 4 (by decide) (by unfold tErr; rw [h1, if_neg (by simp), hF, if_pos hn])
        rw [h2, h3]
        exact ltext_wrong top w 4 fun R O w1 h => gtext_short top htop hR (by omega) hn (by omega) w1 h
      · have h0 : tErr l top = 0 := by unfold tErr; rw [h1, if_neg (by simp), hF, if_neg hn]
        have h2 : tVal l top = (l.drop k).take n := by unfold tVal; rw [h0, if_pos rfl, hF]
        have h3 : tEnd l top = endE (l.drop (k + n)) := by unfold tEnd; rw [h0, if_pos rfl, hF]
        rw [h2, h3]
        exact ltext_good _ top w fun R O w1 h => gtext_ok top htop hR (by omega) (by omega) (by omega) w1 h
theorem atext_c (l : List UInt8) (top : Int) (htop : top ≤ 9223372036854775807) (hl : l.length < 549755813888) (w : World) :
    Calls Tryd.prog 20 #[atV l 0, .int .i64 top] w fun e w' => Below w.heap.size w w' ∧ ∃ m, e = .returned (.tuple #[atV m (tErr l top), .string (str (tVal l top))]) ∧ endN m (tErr l top) = tEnd l top := by
  obtain ⟨n, k, e0, hF⟩ : ∃ n k e0, numF l = (n, k, e0) := ⟨_, _, _, rfl⟩
  have bad : ∀ m e1, e1 ≠ 0 → tErr l top = e1 → tVal l top = [] ∧ endN m (tErr l top) = tEnd l top := fun m e1 he h => ⟨by unfold tVal; rw [h, if_neg he], by unfold tEnd endN; rw [h, if_neg he, if_neg he]⟩
  by_cases he : nErr l (topN top) ≠ 0
  · have h1 : tErr l top = nErr l (topN top) := by unfold tErr; rw [if_pos he]
    refine (atext_bad top htop (by omega) he w).mono ?_
    rintro e w' ⟨hb, m, h⟩
    obtain ⟨h2, h3⟩ := bad m _ he h1
    exact ⟨hb, m, by rw [h2, h1]; exact h, h3⟩
  · have he0 : nErr l (topN top) = 0 := by omega
    have h5 : e0 = 0 ∧ ¬ topN top < n := by
      unfold nErr at he0
      rw [hF] at he0
      by_cases h : e0 ≠ 0
      · rw [if_pos h] at he0; exact absurd he0 h
      · rw [if_neg h] at he0
        refine ⟨by omega, fun ht => ?_⟩
        rw [if_pos ht] at he0; simp at he0
    obtain ⟨rfl, ht⟩ := h5
    by_cases hn : l.length < k + n
    · have h1 : tErr l top = 4 := by unfold tErr; rw [he0, if_neg (by simp), hF, if_pos hn]
      refine (atext_short top htop (by omega) hF (by omega) hn w).mono ?_
      rintro e w' ⟨h, hb⟩
      obtain ⟨h2, h3⟩ := bad (l.drop k) 4 (by decide) h1
      exact ⟨hb, _, by rw [h2, h1]; exact h, h3⟩
    · have h0 : tErr l top = 0 := by unfold tErr; rw [he0, if_neg (by simp), hF, if_neg hn]
      have h2 : tVal l top = (l.drop k).take n := by unfold tVal; rw [h0, if_pos rfl, hF]
      have h3 : tEnd l top = endE (l.drop (k + n)) := by unfold tEnd; rw [h0, if_pos rfl, hF]
      refine (atext_ok top htop (by omega) hF (by omega) (by omega) w).mono ?_
      rintro e w' ⟨h, hb⟩
      exact ⟨hb, _, by rw [h2, h0]; exact h, by rw [h3, h0]; rfl⟩
/-- Why it is neither yes nor no; which; what is told. -/
def fErr : List UInt8 → Nat
  | [] => 4
  | c :: _ => if 1 < c.toNat then 6 else 0
def fVal : List UInt8 → Bool
  | [] => false
  | c :: _ => if 1 < c.toNat then false else (c.toNat : Int) == 1
def fEnd : List UInt8 → Nat
  | [] => 4
  | c :: l => if 1 < c.toNat then 6 else endE l
theorem lflag_c (l : List UInt8) (hl : l.length < 549755813888) (w : World) :
    Calls Tryd.prog 19 #[.string (str l)] w fun e w' => e = .returned (.tuple #[.bool (fVal l), .int .i64 (fEnd l : Int)]) ∧ Below w.heap.size w w' := by
  rcases l with _ | ⟨c, l⟩
  · exact lflag_wrong w 4 fun R O w1 h => rflag_none w1 h
  · rw [List.length_cons] at hl
    unfold fVal fEnd
    dsimp only
    by_cases hc : 1 < c.toNat
    · rw [if_pos hc, if_pos hc]
      exact lflag_wrong w 6 fun R O w1 h => rflag_bad (by omega) hc w1 h
    · rw [if_neg hc, if_neg hc]
      by_cases h0 : c.toNat = 0
      · obtain rfl : c = 0 := UInt8.toNat_inj.1 h0
        exact lflag_good false w fun R O w1 h => rflag_no (by omega) w1 h
      · obtain rfl : c = 1 := UInt8.toNat_inj.1 (by have e1 : (1 : UInt8).toNat = 1 := rfl; omega)
        exact lflag_good true w fun R O w1 h => rflag_yes (by omega) w1 h
theorem aflag_c (l : List UInt8) (w : World) :
    Calls Tryd.prog 21 #[atV l 0] w fun e w' => Below w.heap.size w w' ∧ ∃ m, e = .returned (.tuple #[atV m (fErr l), .bool (fVal l)]) ∧ endN m (fErr l) = fEnd l := by
  rcases l with _ | ⟨c, l⟩
  · exact (aflag_none w).mono fun e w' ⟨h, hb⟩ => ⟨hb, [], h, rfl⟩
  · unfold fErr fVal fEnd
    dsimp only
    by_cases hc : 1 < c.toNat
    · rw [if_pos hc, if_pos hc, if_pos hc]
      exact (aflag_bad hc w).mono fun e w' ⟨h, hb⟩ => ⟨hb, l, h, rfl⟩
    · rw [if_neg hc, if_neg hc, if_neg hc]
      exact (aflag_ok (by omega) w).mono fun e w' ⟨h, hb⟩ => ⟨hb, l, h, rfl⟩
end Go.Proofs.YtmoammadibepkaaDoor.Wirey
