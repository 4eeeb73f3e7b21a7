/- Layer 3: how far the document's own reader has come. -/
import Derived.Test.YtmoammadibepkaaDoorWireRun
import Derived.Test.YtmoammadibepkaaDoorWireAts
namespace Go.Proofs.YtmoammadibepkaaDoor.Wirey
open Go.ChangeShapes Go.WideShapes Go.ChangeAt Go.RowKit

/-- Behind j steps: m is left, e is the first error, acc is how many were left behind each. -/
def RefAt (ss : List St) (l : List UInt8) (j : Nat) (m : List UInt8) (e : Nat) (acc : List Nat) : Prop :=
  (e = 0 → m.length ≤ l.length ∧ runF ss l = (acc ++ (runF (ss.drop j) m).1, (runF (ss.drop j) m).2)) ∧ (e ≠ 0 → (runF ss l).1 = acc ∧ (runF ss l).2.1 = e)
theorem RefAt.start (ss : List St) (l : List UInt8) : RefAt ss l 0 l 0 [] := ⟨fun _ => ⟨Nat.le_refl _, rfl⟩, fun h => absurd rfl h⟩
theorem RefAt.step {ss : List St} {l m m2 : List UInt8} {j e : Nat} {acc : List Nat} {s : St} (h : RefAt ss l j m e acc) (hs : ss[j]? = some s) (hm : e = 0 → (takeF s m).1 = 0 → m2 = (takeF s m).2) :
    RefAt ss l (j + 1) m2 (errN e (takeF s m).1) (if errN e (takeF s m).1 = 0 then acc ++ [m2.length] else acc) := by
  by_cases he : e = 0
  · subst he
    obtain ⟨h1, h2⟩ := h.1 rfl
    obtain ⟨r1, r2⟩ := run_split hs h2
    rw [errN_zero]
    by_cases ht : (takeF s m).1 = 0
    · obtain rfl := hm rfl ht
      rw [if_pos ht]
      exact ⟨fun _ => ⟨Nat.le_trans (takeF_le s m) h1, r2 ht⟩, fun h => absurd ht h⟩
    · rw [if_neg ht]
      exact ⟨fun h => absurd h ht, fun _ => by rw [r1 ht]; exact ⟨rfl, rfl⟩⟩
  · rw [errN_some he, if_neg he]
    exact ⟨fun h => absurd h he, h.2⟩
theorem RefAt.done {ss : List St} {l m : List UInt8} {e : Nat} {acc : List Nat} (h : RefAt ss l ss.length m e acc) : (runF ss l).1 = acc ∧ endN m e = runE l ss := by
  by_cases he : e = 0
  · subst he
    obtain ⟨h1, h2⟩ := h.1 rfl
    rw [List.drop_length] at h2
    have h3 : runF ss l = (acc, 0, m) := by rw [h2]; show (acc ++ [], _) = _; rw [List.append_nil]; rfl
    unfold endN runE
    rw [h3]
    exact ⟨rfl, rfl⟩
  · obtain ⟨h1, h2⟩ := h.2 he
    refine ⟨h1, ?_⟩
    unfold endN runE
    rw [h2, if_neg he, if_neg he]
end Go.Proofs.YtmoammadibepkaaDoor.Wirey
