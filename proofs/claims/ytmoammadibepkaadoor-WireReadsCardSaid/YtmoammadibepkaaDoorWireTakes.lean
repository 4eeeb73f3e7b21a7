/- Layer 3: what is taken off a Reader, whatever it is: one contract for each kind. Nothing that was there turns but the reader's own. -/
import Derived.Test.YtmoammadibepkaaDoorWireSame
namespace Go.Proofs.YtmoammadibepkaaDoor.Wirey
open Go.ChangeShapes Go.WideShapes Go.ChangeAt Go.RowKit

/-- Something that is taken: its kind, its number, whether something is so. -/
structure St where
  k : Int
  n : Int
  ok : Bool
/-- An int as a number of 64 bits. -/
def u64Of (n : Int) : Nat := (n % 18446744073709551616).toNat
/-- The error of one that is taken, and what is left. -/
def takeF (s : St) (l : List UInt8) : Nat × List UInt8 :=
  if s.k = 0 then (nErr l (u64Of s.n), l.drop (numF l).2.1)
  else if s.k = 1 then (tErr l s.n, l.drop ((numF l).2.1 + (numF l).1))
  else if s.k = 2 then (fErr l, l.drop 1)
  else if s.k = 3 then (if s.n < 0 ∨ (l.length : Int) < s.n then 4 else 0, l.drop s.n.toNat)
  else (if s.ok then 0 else 6, l)
/-- All that is taken: how many bytes were left behind each, the error, what is left. -/
def runF : List St → List UInt8 → List Nat × Nat × List UInt8
  | [], l => ([], 0, l)
  | s :: ss, l => if (takeF s l).1 ≠ 0 then ([], (takeF s l).1, []) else ((takeF s l).2.length :: (runF ss (takeF s l).2).1, (runF ss (takeF s l).2).2)
theorem runF_bad {s : St} {ss : List St} {l : List UInt8} (h : (takeF s l).1 ≠ 0) : runF (s :: ss) l = ([], (takeF s l).1, []) := by
  show (if _ then _ else _) = _
  rw [if_pos h]
theorem runF_good {s : St} {ss : List St} {l : List UInt8} (h : (takeF s l).1 = 0) : runF (s :: ss) l = ((takeF s l).2.length :: (runF ss (takeF s l).2).1, (runF ss (takeF s l).2).2) := by
  show (if _ then _ else _) = _
  rw [if_neg (by simp [h])]
theorem takeF_le (s : St) (l : List UInt8) : (takeF s l).2.length ≤ l.length := by
  unfold takeF
  split
  · rw [List.length_drop]; omega
  · split
    · rw [List.length_drop]; omega
    · split
      · rw [List.length_drop]; omega
      · split
        · rw [List.length_drop]; omega
        · exact Nat.le_refl _
/-- How the taking of one ends. -/
def OneEnd (w : World) (R O : Nat) (p : Nat × List UInt8) (e : Ending) (w2 : World) : Prop :=
  (p.1 = 0 ∧ ∃ v, Took w R O v p.2 e w2) ∨ (p.1 ≠ 0 ∧ Fell w R O p.1 e w2)
theorem numT (hSame : ∀ l, numR l = numF l) {R O : Nat} {l : List UInt8} (top : Nat) (hl : l.length < 549755813888) (w : World) (h : RS w R O l) :
    Calls Tryd.prog 33 #[.pointer (some ⟨R, 0, none⟩), .int .u64 (top : Int)] w (OneEnd w R O (nErr l top, l.drop (numF l).2.1)) := by
  obtain ⟨n, k, e0, hF⟩ : ∃ n k e0, numF l = (n, k, e0) := ⟨_, _, _, rfl⟩
  have hR := (hSame l).trans hF
  by_cases he : e0 ≠ 0
  · have h1 : nErr l top = e0 := by unfold nErr; rw [hF, if_pos he]
    rw [h1]
    exact (num_bad top hR he (by omega) w h).mono fun e w2 h2 => .inr ⟨he, h2⟩
  · obtain rfl : e0 = 0 := by omega
    by_cases ht : top < n
    · have h1 : nErr l top = 3 := by unfold nErr; rw [hF, if_neg (by simp), if_pos ht]
      rw [h1]
      exact (num_over top hR ht (by omega) w h).mono fun e w2 h2 => .inr ⟨by simp, h2⟩
    · have h1 : nErr l top = 0 := by unfold nErr; rw [hF, if_neg (by simp), if_neg ht]
      rw [h1, hF]
      exact (num_ok top hR (by omega) (by omega) w h).mono fun e w2 h2 => .inl ⟨rfl, _, h2⟩
theorem textT (hSame : ∀ l, numR l = numF l) {R O : Nat} {l : List UInt8} (top : Int) (htop : top ≤ 9223372036854775807) (hl : l.length < 549755813888) (w : World) (h : RS w R O l) :
    Calls Tryd.prog 34 #[.pointer (some ⟨R, 0, none⟩), .int .i64 top] w (OneEnd w R O (tErr l top, l.drop ((numF l).2.1 + (numF l).1))) := by
  obtain ⟨n, k, e0, hF⟩ : ∃ n k e0, numF l = (n, k, e0) := ⟨_, _, _, rfl⟩
  have hR := (hSame l).trans hF
  by_cases he : e0 ≠ 0
  · have h1 : nErr l (topN top) = e0 := by unfold nErr; rw [hF, if_pos he]
    have h2 : tErr l top = e0 := by unfold tErr; rw [h1, if_pos he]
    rw [h2]
    exact (gtext_bad top htop hR he (by omega) w h).mono fun e w2 h2 => .inr ⟨he, h2⟩
  · obtain rfl : e0 = 0 := by omega
    by_cases ht : topN top < n
    · have h1 : nErr l (topN top) = 3 := by unfold nErr; rw [hF, if_neg (by simp), if_pos ht]
      have h2 : tErr l top = 3 := by unfold tErr; rw [h1]; rfl
      rw [h2]
      exact (gtext_over top htop hR ht (by omega) w h).mono fun e w2 h2 => .inr ⟨by simp, h2⟩
    · have h1 : nErr l (topN top) = 0 := by unfold nErr; rw [hF, if_neg (by simp), if_neg ht]
      by_cases hn : l.length < k + n
      · have h2 : tErr l top = 4 := by unfold tErr; rw [h1, if_neg (by simp), hF, if_pos hn]
        rw [h2]
        exact (gtext_short top htop hR (by omega) hn (by omega) w h).mono fun e w2 h2 => .inr ⟨by simp, h2⟩
      · have h2 : tErr l top = 0 := by unfold tErr; rw [h1, if_neg (by simp), hF, if_neg hn]
        rw [h2, hF]
        exact (gtext_ok top htop hR (by omega) (by omega) (by omega) w h).mono fun e w2 h2 => .inl ⟨rfl, _, h2⟩
theorem flagT {R O : Nat} {l : List UInt8} (hl : l.length < 549755813888) (w : World) (h : RS w R O l) :
    Calls Tryd.prog 35 #[.pointer (some ⟨R, 0, none⟩)] w (OneEnd w R O (fErr l, l.drop 1)) := by
  rcases l with _ | ⟨c, l⟩
  · exact (rflag_none w h).mono fun e w2 h2 => .inr ⟨by decide, h2⟩
  · rw [List.length_cons] at hl
    unfold fErr
    dsimp only
    by_cases hc : 1 < c.toNat
    · rw [if_pos hc]
      exact (rflag_bad (by omega) hc w h).mono fun e w2 h2 => .inr ⟨by simp, h2⟩
    · rw [if_neg hc]
      by_cases h0 : c.toNat = 0
      · obtain rfl : c = 0 := UInt8.toNat_inj.1 h0
        exact (rflag_no (by omega) w h).mono fun e w2 h2 => .inl ⟨rfl, _, h2⟩
      · obtain rfl : c = 1 := UInt8.toNat_inj.1 (by have e1 : (1 : UInt8).toNat = 1 := rfl; omega)
        exact (rflag_yes (by omega) w h).mono fun e w2 h2 => .inl ⟨rfl, _, h2⟩
theorem bytesT {R O : Nat} {l : List UInt8} (n : Int) (hl : l.length < 549755813888) (w : World) (h : RS w R O l) :
    Calls Tryd.prog 36 #[.pointer (some ⟨R, 0, none⟩), .int .i64 n] w (OneEnd w R O (if n < 0 ∨ (l.length : Int) < n then 4 else 0, l.drop n.toNat)) := by
  by_cases hn : n < 0 ∨ (l.length : Int) < n
  · rw [if_pos hn]
    exact (bytes_short n hn w h).mono fun e w2 h2 => .inr ⟨by simp, h2⟩
  · rw [if_neg hn]
    obtain ⟨k, rfl⟩ : ∃ k : Nat, n = k := ⟨n.toNat, by omega⟩
    rw [Int.toNat_natCast]
    exact (bytes_ok k (by omega) (by omega) w h).mono fun e w2 h2 => .inl ⟨rfl, _, h2⟩
theorem mustT {R O : Nat} {l : List UInt8} (b : Bool) (w : World) (h : RS w R O l) :
    Calls Tryd.prog 37 #[.pointer (some ⟨R, 0, none⟩), .bool b] w (OneEnd w R O (if b then 0 else 6, l)) := by
  rcases b with _ | _
  · exact (must_no w h).mono fun e w2 h2 => .inr ⟨by simp, h2⟩
  · exact (must_ok w).mono fun e w2 h2 => .inl ⟨rfl, _, h2.1, by rw [← h2.2]; exact Kept.refl _ _ _, by rw [← h2.2]; exact h⟩
end Go.Proofs.YtmoammadibepkaaDoor.Wirey
