/- Layer 3: what a list of steps lays before WireReads. -/
import Derived.Test.YtmoammadibepkaaDoorWireSteps
import Derived.Deep.Slices
import Derived.Deep.Strs
namespace Go.Proofs.YtmoammadibepkaaDoor.Wirey
open Go.ChangeShapes Go.WideShapes Go.ChangeAt Go.RowKit Go.Deep

theorem addr_add (b o n : Nat) : (⟨b, o, none⟩ : Addr).add n = ⟨b, o + n, none⟩ := by
  unfold Addr.add
  split
  · subst_vars; rfl
  · rfl
theorem spot_none {w : World} {a : Addr} {u : Value} (h : w.cell? a = some u) : a = ⟨a.block, a.off, none⟩ := by
  obtain ⟨b, o, s⟩ := a
  cases s with
  | none => rfl
  | some s =>
    unfold World.cell? at h
    split at h
    · simp at h
    · simp at h
theorem listed {P : Nat → St → Prop} : ∀ n, (∀ i, i < n → ∃ s, P i s) → ∃ ss : List St, ss.length = n ∧ ∀ j s, ss[j]? = some s → P j s
  | 0, _ => ⟨[], rfl, fun j s h => by simp at h⟩
  | n + 1, h => by
    obtain ⟨ss, hl, hs⟩ := listed n fun i hi => h i (by omega)
    obtain ⟨s, hP⟩ := h n (by omega)
    refine ⟨ss ++ [s], by rw [List.length_append, hl]; rfl, fun j s' hj => ?_⟩
    by_cases hjn : j < ss.length
    · rw [List.getElem?_append_left hjn] at hj
      exact hs j s' hj
    · rw [List.getElem?_append_right (by omega)] at hj
      have hlt := (List.getElem?_eq_some_iff.1 hj).1
      have e0 : j - ss.length = 0 := by simp at hlt; omega
      rw [e0] at hj
      obtain rfl : s = s' := by simpa using hj
      obtain rfl : j = n := by omega
      exact hP
theorem c59 : Tryd.prog.cellsOf 59 = 3 := by kernel_rfl
theorem c3_ : Tryd.prog.cellsOf 3 = 1 := by kernel_rfl
theorem c4_ : Tryd.prog.cellsOf 4 = 1 := by kernel_rfl

theorem open_steps {H : Type} {enc : TypeId × Value → H} {w : World} {base : Nat} {spare : Nat → Bool} {held : Bool} {fuel : Nat} {v : Value} {x : DataW H × List MemPlace} (hpos : 0 < w.heap.size)
    (h : DataW.trod enc Tryd.prog w base spare held fuel 54 [v] = some x) :
    ∃ (ao : Option Addr) (len cap sb off : Nat) (ss : List St), v = .slice ao len cap ∧ len ≤ 9223372036854775807 ∧ (0 < ss.length → ao = some ⟨sb, off, none⟩) ∧ (ss.length = if len ≤ 12 then len else 12) ∧ StepsAt w sb off ss ∧ sb < w.heap.size ∧ ∀ s ∈ ss, s.n ≤ 9223372036854775807 := by
  rcases open_slice Tryd.underlying54 h with ⟨h0, _⟩ | ⟨a, len, cap, m, n, D, Pl, h0, _, hl, hm, hmm, _, hi⟩
  · obtain rfl : v = .slice none 0 0 := by simpa using h0
    exact ⟨none, 0, 0, 0, 0, [], rfl, by omega, fun h => by simp at h, rfl, fun j s hs => by simp at hs, hpos, fun s hs => by simp at hs⟩
  · obtain rfl : v = .slice (some a) len cap := by simpa using h0
    have hlm : len ≤ m := by
      rw [hmm]; split
      · exact hl
      · exact Nat.le_refl _
    have each : ∀ i, i < len → ∃ s : St, w.cell? ((a.add (i * 3)).add 0) = some (.int .i64 s.k) ∧ w.cell? ((a.add (i * 3)).add 1) = some (.int .i64 s.n) ∧ w.cell? ((a.add (i * 3)).add 2) = some (.bool s.ok) ∧ s.n ≤ 9223372036854775807 := by
      intro i hil
      obtain ⟨cs, hc, ht⟩ := hi i (by omega)
      rw [c59] at hc
      obtain ⟨_, hcl, hat⟩ := World.cells?_some hc
      obtain ⟨y0, y1, y2, n', _, _, t0, t1, t2⟩ := trod_struct3 Tryd.underlying59 ht
      match cs, hcl with
      | [d0, d1, d2], _ =>
        dsimp only at t0 t1 t2
        rw [c3_] at t0 t1
        rw [c4_] at t2
        obtain ⟨k, e0, _, _⟩ := DataW.trod_int Tryd.underlying3 t0
        obtain ⟨q, e1, _, w1⟩ := DataW.trod_int Tryd.underlying3 t1
        obtain ⟨b, e2, _⟩ := DataW.trod_bool Tryd.underlying4 t2
        obtain rfl : d0 = .int .i64 k := by simpa using e0
        obtain rfl : d1 = .int .i64 q := by simpa using e1
        obtain rfl : d2 = .bool b := by simpa using e2
        exact ⟨⟨k, q, b⟩, hat 0 (by omega), hat 1 (by omega), hat 2 (by omega), (bounds_i64 w1).2⟩
    by_cases hz : len = 0
    · subst hz
      exact ⟨some a, 0, cap, 0, 0, [], rfl, by omega, fun h => by simp at h, rfl, fun j s hs => by simp at hs, hpos, fun s hs => by simp at hs⟩
    · obtain ⟨s0, g0, _⟩ := each 0 (by omega)
      have ha : a = ⟨a.block, a.off, none⟩ := spot_none (show w.cell? a = some _ from g0)
      have hsb := World.block_lt_of_cell? w _ (show w.cell? a = some _ from g0)
      obtain ⟨ss, hss, hall⟩ := listed (if len ≤ 12 then len else 12) fun i hi => each i (by split at hi <;> omega)
      refine ⟨some a, len, cap, a.block, a.off, ss, rfl, Nat.le_trans hl hm, fun _ => congrArg some ha, hss, fun j s hs => ?_, hsb, fun s hs => ?_⟩
      · obtain ⟨q0, q1, q2, _⟩ := hall j s hs
        rw [ha, addr_add, addr_add] at q0 q1 q2
        exact ⟨q0, q1, q2⟩
      · obtain ⟨j, hj⟩ := List.getElem?_of_mem hs
        exact (hall j s hj).2.2.2
end Go.Proofs.YtmoammadibepkaaDoor.Wirey
