/- The cache's tally, and a list of operations that is handed in. The only condition: keys have at most 64 bytes. -/
import Derived.Test.YtniniaokibnhfaaGreatStorePl
namespace Go.Proofs.YtniniaokibnhfaaGreat.Arry
open Go.ChangeShapes Go.WideShapes Go.ChangeAt Go.RowKit Go.Deep
open Wirey (str str_of)
theorem spot_noneT {w : World} {a : Addr} {u : Value} (h : w.cell? a = some u) : a = ⟨a.block, a.off, none⟩ := by
  obtain ⟨b, o, s⟩ := a
  cases s with
  | none => rfl
  | some s =>
    unfold World.cell? at h
    split at h
    · simp at h
    · simp at h
theorem addr_addT (b o k : Nat) : (⟨b, o, none⟩ : Addr).add k = ⟨b, o + k, none⟩ := by unfold Addr.add; split <;> simp_all
theorem open_arrT {H : Type} {enc : TypeId × Value → H} {P : Program} {w : World} {base : Nat} {spare : Nat → Bool} {held : Bool} {t e : TypeId} {N fuel : Nat} {v : Value} {x : DataW H × List MemPlace}
    (ht : P.underlying t = some (.slice e)) (hN : P.cellsOf e = N) (hpos : 0 < N) (h : DataW.trod enc P w base spare held fuel t [v] = some x) :
    ∃ (ao : Option Addr) (len cap sb off : Nat) (C : Nat → List Value), v = .slice ao len cap ∧ Arr w ao len sb off N C ∧
      ∀ i, i < len → ∃ n y, DataW.trod enc P w base spare held n e (C i) = some y := by
  rcases open_slice ht h with ⟨h0, _⟩ | ⟨a, len, cap, m, n, D, Pl, h0, _, hl, hm, hmm, _, hi⟩
  · obtain rfl : v = .slice none 0 0 := by simpa using h0
    exact ⟨none, 0, 0, 0, 0, fun _ => [], rfl, ⟨by omega, fun h => by omega, fun h => by omega, fun i hi => by omega⟩, fun i hi => by omega⟩
  · obtain rfl : v = .slice (some a) len cap := by simpa using h0
    have hlm : len ≤ m := by
      rw [hmm]; split
      · exact hl
      · exact Nat.le_refl _
    rw [hN] at hi
    have each : ∀ i, ∃ cs : List Value, i < len → (∀ j, j < N → w.cell? ((a.add (i * N)).add j) = cs[j]?) ∧ cs.length = N ∧ ∃ n y, DataW.trod enc P w base spare held n e cs = some y := by
      intro i
      by_cases hil : i < len
      · obtain ⟨cs, hc, ht⟩ := hi i (by omega)
        obtain ⟨_, hcl, hat⟩ := World.cells?_some hc
        exact ⟨cs, fun _ => ⟨hat, hcl, _, _, ht⟩⟩
      · exact ⟨[], fun h => absurd h hil⟩
    obtain ⟨C, hC⟩ : ∃ C : Nat → List Value, ∀ i, i < len → (∀ j, j < N → w.cell? ((a.add (i * N)).add j) = (C i)[j]?) ∧ (C i).length = N ∧ ∃ n y, DataW.trod enc P w base spare held n e (C i) = some y :=
      ⟨fun i => (each i).choose, fun i => (each i).choose_spec⟩
    clear each
    by_cases hz : len = 0
    · subst hz
      exact ⟨some a, 0, cap, 0, 0, fun _ => [], rfl, ⟨by omega, fun h => by omega, fun h => by omega, fun i hi => by omega⟩, fun i hi => by omega⟩
    · obtain ⟨g0, gl, _⟩ := hC 0 (by omega)
      obtain ⟨u, hu⟩ : ∃ u, (C 0)[0]? = some u := ⟨_, List.getElem?_eq_getElem (by omega)⟩
      have g1 := (g0 0 hpos).trans hu
      have g2 : w.cell? a = some u := by
        have : (a.add (0 * N)).add 0 = a := by
          unfold Addr.add; cases a with | mk b o s => cases s <;> simp
        rwa [this] at g1
      have ha : a = ⟨a.block, a.off, none⟩ := spot_noneT g2
      have hsb := World.block_lt_of_cell? w _ g2
      refine ⟨some a, len, cap, a.block, a.off, C, rfl, ⟨Nat.le_trans hl hm, fun _ => congrArg some ha, fun _ => hsb, fun i hil j hj => ?_⟩, fun i hil => (hC i hil).2.2⟩
      have := (hC i hil).1 j hj
      rw [ha, addr_addT, addr_addT] at this
      exact this
end Go.Proofs.YtniniaokibnhfaaGreat.Arry
namespace Go.Proofs.YtniniaokibnhfaaGreat.Storey
open Go.ChangeShapes Go.WideShapes Go.ChangeAt Go.RowKit
open Wirey (Blk Row str str_size str_list Kp)
open Taby (En TabAt Tbl tp find ins drop size ended)
open Policyy (Pv HeldP StepP Tell)
open Ringy (Key)
open Arry

section
variable {w0 w : World} {b T M C S : Nat} {H : Nat → Prop} {s : Sv} {k : Key}
theorem tally_t (h : At w0 w b T M C S H s) : Calls Tryz.prog 27 #[tp b] w fun e w' => e = .returned (.agg #[.int .i64 (s.asked : Int), .int .i64 (s.hits : Int)]) ∧ Below w.heap.size w w' := by
  go_enter Tryz.func27, Tryz.ntmps27
  go_wp2_with fail
  have h1 := h.alloc (.cells #[.int .i64 0, .int .i64 0] 78)
  obtain ⟨-, -, -, -, -, -, -, e7, e8, -, -, -⟩ := h1.cs
  refine (made_s h1).mono ?_
  rintro e w' ⟨rfl, rfl⟩
  go_wp2_with fail
  exact bodyPost_ret (results_cell_row rfl _ _ w.heap.size 78 _ _ _ rfl (Blk.new w _ _) Tryz.underlying78 rfl (by kernel_rfl)) rfl ⟨rfl, (Below.refl _ w).alloc (Nat.le_refl _) _⟩
end
section
variable {H : Type} {enc : TypeId × Value → H} {w : World} {base : Nat} {spare : Nat → Bool} {held : Bool}
theorem open_opsT {fuel : Nat} {v : Value} {x : DataW H × List MemPlace} (h : DataW.trod enc Tryz.prog w base spare held fuel 91 [v] = some x) :
    ∃ (ao : Option Addr) (len cap sb off : Nat) (X : Nat → Opn), v = .slice ao len cap ∧ Ops w ao len sb off X := by
  obtain ⟨ao, len, cap, sb, off, C, rfl, hA, hC⟩ := open_arrT Tryz.underlying91 c_op (by omega) h
  have each : ∀ i, ∃ x : Opn, i < len → C i = x.row ∧ x.Big := fun i => by
    by_cases hi : i < len
    · obtain ⟨n, y, hy⟩ := hC i hi
      obtain ⟨x, e, hx⟩ := open_op hy
      exact ⟨x, fun _ => ⟨e, hx⟩⟩
    · exact ⟨⟨0, [], [], 0, 0⟩, fun h => absurd h hi⟩
  exact ⟨ao, len, cap, sb, off, fun i => (each i).choose, rfl, ⟨⟨C, hA, fun i hi => ((each i).choose_spec hi).1⟩, fun i hi => ((each i).choose_spec hi).2⟩⟩
end
end Go.Proofs.YtniniaokibnhfaaGreat.Storey
