/- What a list of texts lays before a law that is given one: its cells, one text each. -/
import Derived.Test.YteopkdmlcjndcaaDoorRows
import Derived.Test.YteopkdmlcjndcaaDoorMem
import Derived.Deep.Slices
import Derived.Deep.Strs
namespace Go.Proofs.YteopkdmlcjndcaaDoor.Wirey
open Go.ChangeShapes Go.WideShapes Go.ChangeAt Go.RowKit Go.Deep

/-- A slice of len texts. -/
structure Texts (w : World) (ao : Option Addr) (n sb off : Nat) (T : Nat → List UInt8) : Prop where
  n63 : n ≤ 9223372036854775807
  ao : 0 < n → ao = some ⟨sb, off, none⟩
  cell : ∀ i, i < n → w.cell? ⟨sb, off + i, none⟩ = some (.string (str (T i)))
  size : ∀ i, i < n → (T i).length ≤ maxLen
  lt : 0 < n → sb < w.heap.size
theorem Texts.below {w w' : World} {ao : Option Addr} {n sb off C : Nat} {T : Nat → List UInt8} (h : Texts w ao n sb off T) (hb : Below C w w') (hC : 0 < n → sb < C) : Texts w' ao n sb off T :=
  ⟨h.n63, h.ao, fun i hi => (World.cell?_of_block (hb.block sb (hC (by omega)))).trans (h.cell i hi), h.size, fun hl => Nat.lt_of_lt_of_le (h.lt hl) hb.size⟩
theorem str_cells : Tryd.prog.cellsOf 9 = 1 := by kernel_rfl
theorem open_texts {H : Type} {enc : TypeId × Value → H} {w : World} {base : Nat} {spare : Nat → Bool} {held : Bool} {fuel : Nat} {v : Value} {x : DataW H × List MemPlace}
    (h : DataW.trod enc Tryd.prog w base spare held fuel 25 [v] = some x) :
    ∃ (ao : Option Addr) (len cap sb off : Nat) (T : Nat → List UInt8), v = .slice ao len cap ∧ Texts w ao len sb off T := by
  rcases open_strs Tryd.underlying25 Tryd.underlying9 str_cells h with ⟨h0, _⟩ | ⟨a, len, cap, m, Sx, h0, _, hl, hm, hmm, _, hi⟩
  · obtain rfl : v = .slice none 0 0 := by simpa using h0
    exact ⟨none, 0, 0, 0, 0, fun _ => [], rfl, ⟨by omega, fun h => by omega, fun i hi => by omega, fun i hi => by omega, fun h => by omega⟩⟩
  · obtain rfl : v = .slice (some a) len cap := by simpa using h0
    have hlm : len ≤ m := by
      rw [hmm]; split
      · exact hl
      · exact Nat.le_refl _
    have spot : ∀ u, w.cell? a = some u → a = ⟨a.block, a.off, none⟩ := by
      intro u hu
      obtain ⟨b, o, s⟩ := a
      cases s with
      | none => rfl
      | some s =>
        unfold World.cell? at hu
        split at hu
        · simp at hu
        · simp at hu
    have h00 : a.add 0 = a := by obtain ⟨b, o, s⟩ := a; rfl
    refine ⟨some a, len, cap, a.block, a.off, fun i => (Sx i).data.toList, rfl, ⟨Nat.le_trans hl hm, fun hp => ?_, fun i hil => ?_, fun i hil => ?_, fun hp => ?_⟩⟩
    · have h1 := (hi 0 (by omega)).1
      rw [h00] at h1
      exact congrArg some (spot _ h1)
    · have h1 := (hi 0 (by omega)).1
      rw [h00] at h1
      have e := spot _ h1
      have h2 := (hi i (by omega)).1
      rw [e] at h2
      have e2 : (⟨a.block, a.off, none⟩ : Addr).add i = ⟨a.block, a.off + i, none⟩ := by
        unfold Addr.add
        split
        · subst_vars; rfl
        · rfl
      rw [e2, str_of (Sx i)] at h2
      exact h2
    · exact (hi i (by omega)).2
    · have h1 := (hi 0 (by omega)).1
      rw [h00] at h1
      exact World.block_lt_of_cell? w _ h1
end Go.Proofs.YteopkdmlcjndcaaDoor.Wirey
