/- What a list of acts lays before a law that is given one: of each its number and its text. -/
import Derived.Test.YtgfpedcdclgmiaaRows
import Derived.Test.YtgfpedcdclgmiaaMem
import Derived.Test.YtgfpedcdclgmiaaTexts
import Derived.Deep.Slices
import Derived.Deep.Strs
namespace Go.Proofs.Ytgfpedcdclgmiaa.Tinyy
open Go.ChangeShapes Go.WideShapes Go.ChangeAt Go.RowKit Go.Deep
open Wirey (str str_of str_size)

theorem act_cells : Try.prog.cellsOf 36 = 2 := by kernel_rfl
theorem int_cells : Try.prog.cellsOf 3 = 1 := by kernel_rfl
/-- A slice of n acts. -/
structure Acts (w : World) (ao : Option Addr) (n sb off : Nat) (K : Nat → Int) (T : Nat → List UInt8) : Prop where
  n63 : n ≤ 9223372036854775807
  ao : 0 < n → ao = some ⟨sb, off, none⟩
  kind : ∀ i, i < n → w.cell? ⟨sb, off + i * 2, none⟩ = some (.int .i64 (K i))
  key : ∀ i, i < n → w.cell? ⟨sb, off + i * 2 + 1, none⟩ = some (.string (str (T i)))
  wK : ∀ i, i < n → -9223372036854775808 ≤ K i ∧ K i ≤ 9223372036854775807
  size : ∀ i, i < n → (T i).length ≤ maxLen
  lt : 0 < n → sb < w.heap.size
theorem Acts.below {w w' : World} {ao : Option Addr} {n sb off C : Nat} {K : Nat → Int} {T : Nat → List UInt8} (h : Acts w ao n sb off K T) (hb : Below C w w') (hC : 0 < n → sb < C) : Acts w' ao n sb off K T :=
  ⟨h.n63, h.ao, fun i hi => (World.cell?_of_block (hb.block sb (hC (by omega)))).trans (h.kind i hi), fun i hi => (World.cell?_of_block (hb.block sb (hC (by omega)))).trans (h.key i hi), h.wK, h.size, fun hl => Nat.lt_of_lt_of_le (h.lt hl) hb.size⟩
theorem addr_add' (b o n : Nat) : (⟨b, o, none⟩ : Addr).add n = ⟨b, o + n, none⟩ := by
  unfold Addr.add
  split
  · subst_vars; rfl
  · rfl
theorem spot_none' {w : World} {a : Addr} {u : Value} (h : w.cell? a = some u) : a = ⟨a.block, a.off, none⟩ := by
  obtain ⟨b, o, s⟩ := a
  cases s with
  | none => rfl
  | some s =>
    unfold World.cell? at h
    split at h
    · simp at h
    · simp at h
set_option maxRecDepth 100000 in
theorem open_acts {H : Type} {enc : TypeId × Value → H} {w : World} {base : Nat} {spare : Nat → Bool} {held : Bool} {fuel : Nat} {v : Value} {x : DataW H × List MemPlace}
    (h : DataW.trod enc Try.prog w base spare held fuel 22 [v] = some x) :
    ∃ (ao : Option Addr) (len cap sb off : Nat) (K : Nat → Int) (T : Nat → List UInt8), v = .slice ao len cap ∧ Acts w ao len sb off K T := by
  rcases open_slice Try.underlying22 h with ⟨h0, _⟩ | ⟨a, len, cap, m, n, D, Pl, h0, _, hl, hm, hmm, _, hi⟩
  · obtain rfl : v = .slice none 0 0 := by simpa using h0
    exact ⟨none, 0, 0, 0, 0, fun _ => 0, fun _ => [], rfl, ⟨by omega, fun h => by omega, fun i hi => by omega, fun i hi => by omega, fun i hi => by omega, fun i hi => by omega, fun h => by omega⟩⟩
  · obtain rfl : v = .slice (some a) len cap := by simpa using h0
    have hlm : len ≤ m := by
      rw [hmm]; split
      · exact hl
      · exact Nat.le_refl _
    have each : ∀ i, ∃ (k : Int) (t : List UInt8), i < len → w.cell? ((a.add (i * 2)).add 0) = some (.int .i64 k) ∧ w.cell? ((a.add (i * 2)).add 1) = some (.string (str t)) ∧
        (-9223372036854775808 ≤ k ∧ k ≤ 9223372036854775807) ∧ t.length ≤ maxLen := by
      intro i
      by_cases hil : i < len
      · obtain ⟨cs, hc, ht⟩ := hi i (by omega)
        rw [act_cells] at hc
        obtain ⟨_, hcl, hat⟩ := World.cells?_some hc
        obtain ⟨y0, y1, n', _, _, t0, t1⟩ := trod_struct2 Try.underlying36 ht
        match cs, hcl with
        | [d0, d1], _ =>
          dsimp only at t0 t1
          rw [int_cells] at t0
          rw [Wirey.str_cells] at t1
          obtain ⟨k, e0, _, w0⟩ := DataW.trod_int Try.underlying3 t0
          obtain ⟨b, e2, _, w2⟩ := DataW.trod_string Try.underlying9 t1
          obtain rfl : d0 = .int .i64 k := by simpa using e0
          obtain rfl : d1 = .string b := by simpa using e2
          exact ⟨k, b.data.toList, fun _ => ⟨hat 0 (by omega), (hat 1 (by omega)).trans (congrArg (fun z => some (Value.string z)) (str_of b)), bounds_i64 w0, w2⟩⟩
      · exact ⟨0, [], fun h => absurd h hil⟩
    obtain ⟨K, T, hK⟩ : ∃ (K : Nat → Int) (T : Nat → List UInt8), ∀ i, i < len → w.cell? ((a.add (i * 2)).add 0) = some (.int .i64 (K i)) ∧ w.cell? ((a.add (i * 2)).add 1) = some (.string (str (T i))) ∧
        (-9223372036854775808 ≤ K i ∧ K i ≤ 9223372036854775807) ∧ (T i).length ≤ maxLen :=
      ⟨fun i => (each i).choose, fun i => (each i).choose_spec.choose, fun i => (each i).choose_spec.choose_spec⟩
    clear each
    by_cases hz : len = 0
    · subst hz
      exact ⟨some a, 0, cap, 0, 0, fun _ => 0, fun _ => [], rfl, ⟨by omega, fun h => by omega, fun i hi => by omega, fun i hi => by omega, fun i hi => by omega, fun i hi => by omega, fun h => by omega⟩⟩
    · obtain ⟨g0, _⟩ := hK 0 (by omega)
      have ha : a = ⟨a.block, a.off, none⟩ := spot_none' (show w.cell? a = some _ from g0)
      have hsb := World.block_lt_of_cell? w _ (show w.cell? a = some _ from g0)
      have hq : ∀ i, i < len → w.cell? ⟨a.block, a.off + i * 2, none⟩ = some (.int .i64 (K i)) ∧ w.cell? ⟨a.block, a.off + i * 2 + 1, none⟩ = some (.string (str (T i))) := fun i hil => by
        obtain ⟨q0, q1, _⟩ := hK i hil
        rw [ha, addr_add', addr_add'] at q0 q1
        exact ⟨q0, q1⟩
      exact ⟨some a, len, cap, a.block, a.off, K, T, rfl, ⟨Nat.le_trans hl hm, fun _ => congrArg some ha, fun i hil => (hq i hil).1, fun i hil => (hq i hil).2, fun i hil => (hK i hil).2.2.1, fun i hil => (hK i hil).2.2.2, fun _ => hsb⟩⟩
end Go.Proofs.Ytgfpedcdclgmiaa.Tinyy
