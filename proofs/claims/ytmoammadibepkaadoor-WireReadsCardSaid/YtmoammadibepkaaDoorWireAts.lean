/- Layer 3: what the document's own reader takes, whatever it is and whether or not something failed ahead of it. Nothing that was there turns. -/
import Derived.Test.YtmoammadibepkaaDoorWireTakes
namespace Go.Proofs.YtmoammadibepkaaDoor.Wirey
open Go.ChangeShapes Go.WideShapes Go.ChangeAt Go.RowKit

/-- The error behind one more that was taken. -/
def errN (e0 : Nat) (p : Nat) : Nat := if e0 ≠ 0 then e0 else p
theorem errN_zero (p : Nat) : errN 0 p = p := rfl
theorem errN_some {e0 : Nat} (h : e0 ≠ 0) (p : Nat) : errN e0 p = e0 := by unfold errN; rw [if_pos h]
def AOne (e0 : Nat) (p : Nat × List UInt8) (w : World) (e : Ending) (w' : World) : Prop :=
  Below w.heap.size w w' ∧ ∃ m x, e = .returned (.tuple #[atV m (errN e0 p.1), x]) ∧ (e0 = 0 → p.1 = 0 → m = p.2)
theorem numA {l : List UInt8} (e0 : Nat) (top : Nat) (hl : e0 = 0 → l.length < 549755813888) (w : World) :
    Calls Tryd.prog 13 #[atV l e0, .int .u64 (top : Int)] w (AOne e0 (nErr l top, l.drop (numF l).2.1) w) := by
  by_cases he : e0 = 0
  · subst he
    refine (anum_c top (by have := hl rfl; omega) w).mono ?_
    rintro e w' ⟨hb, m, h1, h2⟩
    exact ⟨hb, m, _, h1, fun _ => h2⟩
  · refine (anum_err top e0 he w).mono ?_
    rintro e w' ⟨h1, hb⟩
    exact ⟨hb, l, _, by rw [errN_some he]; exact h1, fun h => absurd h he⟩
theorem textA {l : List UInt8} (e0 : Nat) (top : Int) (htop : top ≤ 9223372036854775807) (hl : e0 = 0 → l.length < 549755813888) (w : World) :
    Calls Tryd.prog 20 #[atV l e0, .int .i64 top] w (AOne e0 (tErr l top, l.drop ((numF l).2.1 + (numF l).1)) w) := by
  by_cases hz : e0 = 0
  · subst hz
    have hl := hl rfl
    obtain ⟨n, k, e0, hF⟩ : ∃ n k e0, numF l = (n, k, e0) := ⟨_, _, _, rfl⟩
    by_cases he : nErr l (topN top) ≠ 0
    · have h1 : tErr l top = nErr l (topN top) := by unfold tErr; rw [if_pos he]
      refine (atext_bad top htop (by omega) he w).mono ?_
      rintro e w' ⟨hb, m, h⟩
      exact ⟨hb, m, _, by rw [errN_zero]; rw [h1]; exact h, fun _ h0 => absurd (h1.symm.trans h0) he⟩
    · have he0 : nErr l (topN top) = 0 := by omega
      have h5 : e0 = 0 ∧ ¬ topN top < n := by
        unfold nErr at he0
        rw [hF] at he0
        by_cases h : e0 ≠ 0
        · rw [if_pos h] at he0; exact absurd he0 h
        · rw [if_neg h] at he0
          refine ⟨by omega, fun ht => ?_⟩
          rw [if_pos ht] at he0; simp at he0
      obtain ⟨rfl, ht⟩ := h5
      by_cases hn : l.length < k + n
      · have h1 : tErr l top = 4 := by unfold tErr; rw [he0, if_neg (by simp), hF, if_pos hn]
        refine (atext_short top htop (by omega) hF (by omega) hn w).mono ?_
        rintro e w' ⟨h, hb⟩
        rw [h1]
        exact ⟨hb, _, _, h, fun _ h0 => by simp at h0⟩
      · have h0 : tErr l top = 0 := by unfold tErr; rw [he0, if_neg (by simp), hF, if_neg hn]
        refine (atext_ok top htop (by omega) hF (by omega) (by omega) w).mono ?_
        rintro e w' ⟨h, hb⟩
        rw [h0, hF]
        exact ⟨hb, _, _, h, fun _ _ => rfl⟩
  · refine (atext_err top htop e0 hz w).mono ?_
    rintro e w' ⟨h1, hb⟩
    exact ⟨hb, l, _, by rw [errN_some hz]; exact h1, fun h => absurd h hz⟩
theorem flagA {l : List UInt8} (e0 : Nat) (w : World) :
    Calls Tryd.prog 21 #[atV l e0] w (AOne e0 (fErr l, l.drop 1) w) := by
  by_cases hz : e0 = 0
  · subst hz
    rcases l with _ | ⟨c, l⟩
    · exact (aflag_none w).mono fun e w' ⟨h, hb⟩ => ⟨hb, [], _, h, fun _ _ => rfl⟩
    · unfold fErr
      dsimp only
      by_cases hc : 1 < c.toNat
      · rw [if_pos hc]
        exact (aflag_bad hc w).mono fun e w' ⟨h, hb⟩ => ⟨hb, l, _, h, fun _ _ => rfl⟩
      · rw [if_neg hc]
        exact (aflag_ok (by omega) w).mono fun e w' ⟨h, hb⟩ => ⟨hb, l, _, h, fun _ _ => rfl⟩
  · refine (aflag_err e0 hz w).mono ?_
    rintro e w' ⟨h1, hb⟩
    exact ⟨hb, l, _, by rw [errN_some hz]; exact h1, fun h => absurd h hz⟩
theorem bytesA {l : List UInt8} (e0 : Nat) (n : Int) (w : World) :
    Calls Tryd.prog 39 #[atV l e0, .int .i64 n] w (AOne e0 (if n < 0 ∨ (l.length : Int) < n then 4 else 0, l.drop n.toNat) w) := by
  by_cases hz : e0 = 0
  · subst hz
    by_cases hn : n < 0 ∨ (l.length : Int) < n
    · rw [if_pos hn]
      exact (abytes_short n hn w).mono fun e w' ⟨h, hb⟩ => ⟨hb, l, _, h, fun _ h0 => by simp at h0⟩
    · rw [if_neg hn]
      obtain ⟨k, rfl⟩ : ∃ k : Nat, n = k := ⟨n.toNat, by omega⟩
      rw [Int.toNat_natCast]
      exact (abytes_ok k (by omega) w).mono fun e w' ⟨h, hb⟩ => ⟨hb, _, _, h, fun _ _ => rfl⟩
  · refine (abytes_err n e0 hz w).mono ?_
    rintro e w' ⟨h1, hb⟩
    exact ⟨hb, l, _, by rw [errN_some hz]; exact h1, fun h => absurd h hz⟩
theorem mustA {l : List UInt8} (e0 : Nat) (b : Bool) (w : World) :
    Calls Tryd.prog 40 #[atV l e0, .bool b] w fun e w' => e = .returned (atV l (errN e0 (if b then 0 else 6))) ∧ Below w.heap.size w w' := by
  by_cases hz : e0 = 0
  · subst hz
    rcases b with _ | _
    · exact amust_no w
    · exact amust_ok w
  · rw [errN_some hz]
    exact amust_err b e0 hz w
end Go.Proofs.YtmoammadibepkaaDoor.Wirey
