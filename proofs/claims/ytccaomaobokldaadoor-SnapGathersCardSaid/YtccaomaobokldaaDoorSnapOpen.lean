/- Layer 14: what is handed to its laws: a piece, a list of numbers. No condition. -/
import Derived.Test.YtccaomaobokldaaDoorKit
import Derived.Test.YtccaomaobokldaaDoorSnapMem
import Derived.Test.YtccaomaobokldaaDoorArr
namespace Go.Proofs.YtccaomaobokldaaDoor.Snapy
open Go.ChangeShapes Go.WideShapes Go.ChangeAt Go.RowKit
open Wirey Arry
theorem c_i : Tryd.prog.cellsOf 3 = 1 := by kernel_rfl
theorem c_s : Tryd.prog.cellsOf 9 = 1 := by kernel_rfl
theorem c_pc : Tryd.prog.cellsOf 33 = 5 := by kernel_rfl
structure Pc.Big (p : Pc) : Prop where
  n : (Lit.int .i64 p.n).wf = true
  of_ : (Lit.int .i64 p.of_).wf = true
  data : p.data.length ≤ maxLen
  sum : p.sum.length ≤ maxLen
  whole : p.whole.length ≤ maxLen
section
variable {H : Type} {enc : TypeId × Value → H} {w : World} {base : Nat} {spare : Nat → Bool} {held : Bool}
theorem open_pc {fuel : Nat} {cs : List Value} {x : DataW H × List MemPlace} (h : DataW.trod enc Tryd.prog w base spare held fuel 33 cs = some x) :
    ∃ p : Pc, cs = p.enc ∧ p.Big := by
  obtain ⟨xs, m, -, -, hl, hlen, hf⟩ := DataW.trod_struct Tryd.underlying33 h
  rw [c_pc] at hl
  obtain ⟨d0, r0, rfl, hl0⟩ := list_n _ cs hl
  obtain ⟨d1, r1, rfl, hl1⟩ := list_n _ r0 hl0
  obtain ⟨d2, r2, rfl, hl2⟩ := list_n _ r1 hl1
  obtain ⟨d3, r3, rfl, hl3⟩ := list_n _ r2 hl2
  obtain ⟨d4, r4, rfl, hl4⟩ := list_n _ r3 hl3
  obtain rfl := List.length_eq_zero_iff.1 hl4
  have q0 := hf 0 _ rfl
  rw [List.getElem?_eq_getElem (by rw [hlen]; decide)] at q0
  simp only [List.getElem_toArray, List.getElem_cons_zero] at q0
  rw [c_i] at q0
  obtain ⟨n0, e0, -, w0⟩ := DataW.trod_int Tryd.underlying3 q0
  have q1 := hf 1 _ rfl
  rw [List.getElem?_eq_getElem (by rw [hlen]; decide)] at q1
  simp only [List.getElem_toArray, List.getElem_cons_zero, List.getElem_cons_succ] at q1
  rw [c_i] at q1
  obtain ⟨n1, e1, -, w1⟩ := DataW.trod_int Tryd.underlying3 q1
  have q2 := hf 2 _ rfl
  rw [List.getElem?_eq_getElem (by rw [hlen]; decide)] at q2
  simp only [List.getElem_toArray, List.getElem_cons_zero, List.getElem_cons_succ] at q2
  rw [c_s] at q2
  obtain ⟨s2, e2, -, w2⟩ := DataW.trod_string Tryd.underlying9 q2
  have q3 := hf 3 _ rfl
  rw [List.getElem?_eq_getElem (by rw [hlen]; decide)] at q3
  simp only [List.getElem_toArray, List.getElem_cons_zero, List.getElem_cons_succ] at q3
  rw [c_s] at q3
  obtain ⟨s3, e3, -, w3⟩ := DataW.trod_string Tryd.underlying9 q3
  have q4 := hf 4 _ rfl
  rw [List.getElem?_eq_getElem (by rw [hlen]; decide)] at q4
  simp only [List.getElem_toArray, List.getElem_cons_zero, List.getElem_cons_succ] at q4
  rw [c_s] at q4
  obtain ⟨s4, e4, -, w4⟩ := DataW.trod_string Tryd.underlying9 q4
  simp only [List.drop_zero, List.drop_succ_cons, List.take_succ_cons, List.take_zero, List.cons.injEq, and_true] at e0 e1 e2 e3 e4
  subst e0 e1 e2 e3 e4
  refine ⟨⟨n0, n1, s2.data.toList, s3.data.toList, s4.data.toList⟩, ?_, w0, w1, by simpa using w2, by simpa using w3, by simpa using w4⟩
  show _ = [Value.int .i64 n0, Value.int .i64 n1, Value.string (str s2.data.toList), Value.string (str s3.data.toList), Value.string (str s4.data.toList)]
  rw [← str_of, ← str_of, ← str_of]
/-- A list of numbers that is handed in. -/
structure Ints (w : World) (ao : Option Addr) (len sb off : Nat) (X : Nat → Int) : Prop where
  most : len ≤ maxLen
  at_ : 0 < len → ao = some ⟨sb, off, none⟩
  lt : 0 < len → sb < w.heap.size
  cell : ∀ i, i < len → w.cell? ⟨sb, off + i, none⟩ = some (.int .i64 (X i))
theorem Ints.below {w w' : World} {ao : Option Addr} {len sb off : Nat} {X : Nat → Int} (h : Ints w ao len sb off X) (hb : Below w.heap.size w w') : Ints w' ao len sb off X :=
  ⟨h.most, h.at_, fun hl => Nat.lt_of_lt_of_le (h.lt hl) hb.size, fun i hi => (World.cell?_of_block (a := ⟨sb, off + i, none⟩) (hb.block sb (h.lt (by omega)))).trans (h.cell i hi)⟩
theorem open_ints {fuel : Nat} {v : Value} {x : DataW H × List MemPlace} (h : DataW.trod enc Tryd.prog w base spare held fuel 22 [v] = some x) :
    ∃ (ao : Option Addr) (len cap sb off : Nat) (X : Nat → Int), v = .slice ao len cap ∧ Ints w ao len sb off X := by
  obtain ⟨ao, len, cap, sb, off, C, rfl, hA, hC⟩ := open_arr Tryd.underlying22 c_i (by omega) h
  have each : ∀ i, ∃ z : Int, i < len → C i = [.int .i64 z] := fun i => by
    by_cases hi : i < len
    · obtain ⟨n, y, hy⟩ := hC i hi
      obtain ⟨z, e, -, -⟩ := DataW.trod_int Tryd.underlying3 hy
      exact ⟨z, fun _ => e⟩
    · exact ⟨0, fun h => absurd h hi⟩
  refine ⟨ao, len, cap, sb, off, fun i => (each i).choose, rfl, hA.most, hA.at_, hA.lt, fun i hi => ?_⟩
  have h1 := hA.cell i hi 0 (by omega)
  rw [Nat.mul_one, Nat.add_zero, ((each i).choose_spec hi)] at h1
  exact h1
end
end Go.Proofs.YtccaomaobokldaaDoor.Snapy
