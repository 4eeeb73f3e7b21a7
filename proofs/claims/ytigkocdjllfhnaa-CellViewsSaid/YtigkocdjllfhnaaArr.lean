/- A slice of structs that is handed in: where its elements lie, and what each is read as. No condition. -/
import Derived.Test.YtigkocdjllfhnaaMem
import Derived.Deep.Slices
namespace Go.Proofs.Ytigkocdjllfhnaa.Arry
open Go.ChangeShapes Go.WideShapes Go.ChangeAt Go.RowKit Go.Deep
open Wirey (str str_of)

theorem spot_none {w : World} {a : Addr} {u : Value} (h : w.cell? a = some u) : a = ⟨a.block, a.off, none⟩ := by
  obtain ⟨b, o, s⟩ := a
  cases s with
  | none => rfl
  | some s =>
    unfold World.cell? at h
    split at h
    · simp at h
    · simp at h
theorem addr_add (b o k : Nat) : (⟨b, o, none⟩ : Addr).add k = ⟨b, o + k, none⟩ := by unfold Addr.add; split <;> simp_all
theorem list_n {α : Type} : ∀ (n : Nat) (l : List α), l.length = n + 1 → ∃ a m, l = a :: m ∧ m.length = n
  | n, a :: m, h => ⟨a, m, rfl, by simpa using h⟩
theorem u64_nat {n : Int} (h : (Lit.int .u64 n).wf = true) : ∃ m : Nat, n = (m : Int) ∧ m < 18446744073709551616 := by
  have hb := bounds_u64 h
  exact ⟨n.toNat, by omega, by omega⟩
/-- The elements of a slice, N cells each: element i's cells are C i. -/
structure Arr (w : World) (ao : Option Addr) (len sb off N : Nat) (C : Nat → List Value) : Prop where
  most : len ≤ maxLen
  at_ : 0 < len → ao = some ⟨sb, off, none⟩
  lt : 0 < len → sb < w.heap.size
  cell : ∀ i, i < len → ∀ j, j < N → w.cell? ⟨sb, off + i * N + j, none⟩ = (C i)[j]?
theorem Arr.below {w w' : World} {ao : Option Addr} {len sb off N : Nat} {C : Nat → List Value} (h : Arr w ao len sb off N C) (hb : Below w.heap.size w w') : Arr w' ao len sb off N C :=
  ⟨h.most, h.at_, fun hl => Nat.lt_of_lt_of_le (h.lt hl) hb.size, fun i hi j hj => (World.cell?_of_block (a := ⟨sb, off + i * N + j, none⟩) (hb.block sb (h.lt (by omega)))).trans (h.cell i hi j hj)⟩
theorem open_arr {H : Type} {enc : TypeId × Value → H} {P : Program} {w : World} {base : Nat} {spare : Nat → Bool} {held : Bool} {t e : TypeId} {N fuel : Nat} {v : Value} {x : DataW H × List MemPlace}
    (ht : P.underlying t = some (.slice e)) (hN : P.cellsOf e = N) (hpos : 0 < N) (h : DataW.trod enc P w base spare held fuel t [v] = some x) :
    ∃ (ao : Option Addr) (len cap sb off : Nat) (C : Nat → List Value), v = .slice ao len cap ∧ Arr w ao len sb off N C ∧
      ∀ i, i < len → ∃ n y, DataW.trod enc P w base spare held n e (C i) = some y := by
  rcases open_slice ht h with ⟨h0, _⟩ | ⟨a, len, cap, m, n, D, Pl, h0, _, hl, hm, hmm, _, hi⟩
  · obtain rfl : v = .slice none 0 0 := by simpa using h0
    exact ⟨none, 0, 0, 0, 0, fun _ => [], rfl, ⟨by omega, fun h => by omega, fun h => by omega, fun i hi => by omega⟩, fun i hi => by omega⟩
  · obtain rfl : v = .slice (some a) len cap := by simpa using h0
    have hlm : len ≤ m := by
      rw [hmm]; split
      · exact hl
      · exact Nat.le_refl _
    rw [hN] at hi
    have each : ∀ i, ∃ cs : List Value, i < len → (∀ j, j < N → w.cell? ((a.add (i * N)).add j) = cs[j]?) ∧ cs.length = N ∧ ∃ n y, DataW.trod enc P w base spare held n e cs = some y := by
      intro i
      by_cases hil : i < len
      · obtain ⟨cs, hc, ht⟩ := hi i (by omega)
        obtain ⟨_, hcl, hat⟩ := World.cells?_some hc
        exact ⟨cs, fun _ => ⟨hat, hcl, _, _, ht⟩⟩
      · exact ⟨[], fun h => absurd h hil⟩
    obtain ⟨C, hC⟩ : ∃ C : Nat → List Value, ∀ i, i < len → (∀ j, j < N → w.cell? ((a.add (i * N)).add j) = (C i)[j]?) ∧ (C i).length = N ∧ ∃ n y, DataW.trod enc P w base spare held n e (C i) = some y :=
      ⟨fun i => (each i).choose, fun i => (each i).choose_spec⟩
    clear each
    by_cases hz : len = 0
    · subst hz
      exact ⟨some a, 0, cap, 0, 0, fun _ => [], rfl, ⟨by omega, fun h => by omega, fun h => by omega, fun i hi => by omega⟩, fun i hi => by omega⟩
    · obtain ⟨g0, gl, _⟩ := hC 0 (by omega)
      obtain ⟨u, hu⟩ : ∃ u, (C 0)[0]? = some u := ⟨_, List.getElem?_eq_getElem (by omega)⟩
      have g1 := (g0 0 hpos).trans hu
      have g2 : w.cell? a = some u := by
        have : (a.add (0 * N)).add 0 = a := by
          unfold Addr.add; cases a with | mk b o s => cases s <;> simp
        rwa [this] at g1
      have ha : a = ⟨a.block, a.off, none⟩ := spot_none g2
      have hsb := World.block_lt_of_cell? w _ g2
      refine ⟨some a, len, cap, a.block, a.off, C, rfl, ⟨Nat.le_trans hl hm, fun _ => congrArg some ha, fun _ => hsb, fun i hil j hj => ?_⟩, fun i hil => (hC i hil).2.2⟩
      have := (hC i hil).1 j hj
      rw [ha, addr_add, addr_add] at this
      exact this
end Go.Proofs.Ytigkocdjllfhnaa.Arry
