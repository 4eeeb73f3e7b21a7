/- What a view, a list of numbers, a list of views that are handed in consist of. No condition. -/
import Derived.Test.YtigkocdjllfhnaaKit
import Derived.Test.YtigkocdjllfhnaaCellMem
import Derived.Test.YtigkocdjllfhnaaArr
namespace Go.Proofs.Ytigkocdjllfhnaa.Celly
open Go.ChangeShapes Go.WideShapes Go.ChangeAt Go.RowKit
open Arry
theorem c_u : Try.prog.cellsOf 23 = 1 := by kernel_rfl
theorem c_i : Try.prog.cellsOf 3 = 1 := by kernel_rfl
theorem c_v : Try.prog.cellsOf 25 = 6 := by kernel_rfl
section
variable {H : Type} {enc : TypeId × Value → H} {w : World} {base : Nat} {spare : Nat → Bool} {held : Bool}
theorem open_vw {fuel : Nat} {cs : List Value} {x : DataW H × List MemPlace} (h : DataW.trod enc Try.prog w base spare held fuel 25 cs = some x) :
    ∃ x : Vw, cs = x.enc ∧ x.Big := by
  obtain ⟨xs, m, -, -, hl, hlen, hf⟩ := DataW.trod_struct Try.underlying25 h
  rw [c_v] at hl
  obtain ⟨d0, r0, rfl, hl0⟩ := list_n _ cs hl
  obtain ⟨d1, r1, rfl, hl1⟩ := list_n _ r0 hl0
  obtain ⟨d2, r2, rfl, hl2⟩ := list_n _ r1 hl1
  obtain ⟨d3, r3, rfl, hl3⟩ := list_n _ r2 hl2
  obtain ⟨d4, r4, rfl, hl4⟩ := list_n _ r3 hl3
  obtain ⟨d5, r5, rfl, hl5⟩ := list_n _ r4 hl4
  obtain rfl := List.length_eq_zero_iff.1 hl5
  have q0 := hf 0 _ rfl
  rw [List.getElem?_eq_getElem (by rw [hlen]; decide)] at q0
  simp only [List.getElem_toArray, List.getElem_cons_zero] at q0
  rw [c_u] at q0
  obtain ⟨n0, e0, -, w0⟩ := DataW.trod_int Try.underlying23 q0
  have q1 := hf 1 _ rfl
  rw [List.getElem?_eq_getElem (by rw [hlen]; decide)] at q1
  simp only [List.getElem_toArray, List.getElem_cons_zero, List.getElem_cons_succ] at q1
  rw [c_i] at q1
  obtain ⟨n1, e1, -, w1⟩ := DataW.trod_int Try.underlying3 q1
  have q2 := hf 2 _ rfl
  rw [List.getElem?_eq_getElem (by rw [hlen]; decide)] at q2
  simp only [List.getElem_toArray, List.getElem_cons_zero, List.getElem_cons_succ] at q2
  rw [c_u] at q2
  obtain ⟨n2, e2, -, w2⟩ := DataW.trod_int Try.underlying23 q2
  have q3 := hf 3 _ rfl
  rw [List.getElem?_eq_getElem (by rw [hlen]; decide)] at q3
  simp only [List.getElem_toArray, List.getElem_cons_zero, List.getElem_cons_succ] at q3
  rw [c_i] at q3
  obtain ⟨n3, e3, -, w3⟩ := DataW.trod_int Try.underlying3 q3
  have q4 := hf 4 _ rfl
  rw [List.getElem?_eq_getElem (by rw [hlen]; decide)] at q4
  simp only [List.getElem_toArray, List.getElem_cons_zero, List.getElem_cons_succ] at q4
  rw [c_u] at q4
  obtain ⟨n4, e4, -, w4⟩ := DataW.trod_int Try.underlying23 q4
  have q5 := hf 5 _ rfl
  rw [List.getElem?_eq_getElem (by rw [hlen]; decide)] at q5
  simp only [List.getElem_toArray, List.getElem_cons_zero, List.getElem_cons_succ] at q5
  rw [c_u] at q5
  obtain ⟨n5, e5, -, w5⟩ := DataW.trod_int Try.underlying23 q5
  simp only [List.drop_zero, List.drop_succ_cons, List.take_succ_cons, List.take_zero, List.cons.injEq, and_true] at e0 e1 e2 e3 e4 e5
  subst e0 e1 e2 e3 e4 e5
  obtain ⟨m0, rfl, l0⟩ := u64_nat w0
  obtain ⟨m2, rfl, l2⟩ := u64_nat w2
  obtain ⟨m4, rfl, l4⟩ := u64_nat w4
  obtain ⟨m5, rfl, l5⟩ := u64_nat w5
  exact ⟨⟨m0, n1, m2, n3, m4, m5⟩, rfl, l0, w1, l2, w3, l4, l5⟩
/-- A list of numbers; a list of views. -/
structure Nums (w : World) (ao : Option Addr) (len sb off : Nat) (X : Nat → Nat) : Prop where
  most : len ≤ maxLen
  at_ : 0 < len → ao = some ⟨sb, off, none⟩
  lt : 0 < len → sb < w.heap.size
  cell : ∀ i, i < len → w.cell? ⟨sb, off + i, none⟩ = some (.int .u64 (X i : Int))
  big : ∀ i, i < len → X i < 18446744073709551616
structure Vws (w : World) (ao : Option Addr) (len sb off : Nat) (X : Nat → Vw) : Prop where
  most : len ≤ maxLen
  at_ : 0 < len → ao = some ⟨sb, off, none⟩
  lt : 0 < len → sb < w.heap.size
  cell : ∀ i, i < len → ∀ j, j < 6 → w.cell? ⟨sb, off + i * 6 + j, none⟩ = (X i).enc[j]?
  big : ∀ i, i < len → (X i).Big
theorem Nums.below {w w' : World} {ao : Option Addr} {len sb off : Nat} {X : Nat → Nat} (h : Nums w ao len sb off X) (hb : Below w.heap.size w w') : Nums w' ao len sb off X :=
  ⟨h.most, h.at_, fun hl => Nat.lt_of_lt_of_le (h.lt hl) hb.size, fun i hi => (World.cell?_of_block (a := ⟨sb, off + i, none⟩) (hb.block sb (h.lt (by omega)))).trans (h.cell i hi), h.big⟩
theorem Vws.below {w w' : World} {ao : Option Addr} {len sb off : Nat} {X : Nat → Vw} (h : Vws w ao len sb off X) (hb : Below w.heap.size w w') : Vws w' ao len sb off X :=
  ⟨h.most, h.at_, fun hl => Nat.lt_of_lt_of_le (h.lt hl) hb.size, fun i hi j hj => (World.cell?_of_block (a := ⟨sb, off + i * 6 + j, none⟩) (hb.block sb (h.lt (by omega)))).trans (h.cell i hi j hj), h.big⟩
theorem open_nums {fuel : Nat} {v : Value} {x : DataW H × List MemPlace} (h : DataW.trod enc Try.prog w base spare held fuel 22 [v] = some x) :
    ∃ (ao : Option Addr) (len cap sb off : Nat) (X : Nat → Nat), v = .slice ao len cap ∧ Nums w ao len sb off X := by
  obtain ⟨ao, len, cap, sb, off, C, rfl, hA, hC⟩ := open_arr Try.underlying22 c_u (by omega) h
  have each : ∀ i, ∃ z : Nat, i < len → C i = [.int .u64 (z : Int)] ∧ z < 18446744073709551616 := fun i => by
    by_cases hi : i < len
    · obtain ⟨n, y, hy⟩ := hC i hi
      obtain ⟨z, e, -, hw⟩ := DataW.trod_int Try.underlying23 hy
      obtain ⟨m, rfl, hm⟩ := u64_nat hw
      exact ⟨m, fun _ => ⟨e, hm⟩⟩
    · exact ⟨0, fun h => absurd h hi⟩
  refine ⟨ao, len, cap, sb, off, fun i => (each i).choose, rfl, hA.most, hA.at_, hA.lt, fun i hi => ?_, fun i hi => ((each i).choose_spec hi).2⟩
  have h1 := hA.cell i hi 0 (by omega)
  rw [Nat.mul_one, Nat.add_zero, ((each i).choose_spec hi).1] at h1
  exact h1
theorem open_vws {fuel : Nat} {v : Value} {x : DataW H × List MemPlace} (h : DataW.trod enc Try.prog w base spare held fuel 42 [v] = some x) :
    ∃ (ao : Option Addr) (len cap sb off : Nat) (X : Nat → Vw), v = .slice ao len cap ∧ Vws w ao len sb off X := by
  obtain ⟨ao, len, cap, sb, off, C, rfl, hA, hC⟩ := open_arr Try.underlying42 c_v (by omega) h
  have each : ∀ i, ∃ z : Vw, i < len → C i = z.enc ∧ z.Big := fun i => by
    by_cases hi : i < len
    · obtain ⟨n, y, hy⟩ := hC i hi
      obtain ⟨z, e, hz⟩ := open_vw hy
      exact ⟨z, fun _ => ⟨e, hz⟩⟩
    · exact ⟨noV, fun h => absurd h hi⟩
  refine ⟨ao, len, cap, sb, off, fun i => (each i).choose, rfl, hA.most, hA.at_, hA.lt, fun i hi j hj => ?_, fun i hi => ((each i).choose_spec hi).2⟩
  exact (hA.cell i hi j hj).trans (congrArg (fun l : List Value => l[j]?) ((each i).choose_spec hi).1)
end
end Go.Proofs.Ytigkocdjllfhnaa.Celly
