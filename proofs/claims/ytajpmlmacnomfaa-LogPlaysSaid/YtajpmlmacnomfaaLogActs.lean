/- Layer 13: acts that are handed in. No condition. -/
import Derived.Test.YtajpmlmacnomfaaLogCalls
import Derived.Test.YtajpmlmacnomfaaBits
import Derived.Test.YtajpmlmacnomfaaKit
import Derived.Test.YtajpmlmacnomfaaLogAwake
import Derived.Test.YtajpmlmacnomfaaLogOpen
import Derived.Test.YtajpmlmacnomfaaRows
import Derived.Test.YtajpmlmacnomfaaRegion
import Derived.Lib.Hide
import Derived.BigQuiet
namespace Go.Proofs.Ytajpmlmacnomfaa.Logy
open Go.ChangeShapes Go.WideShapes Go.ChangeAt Go.RowKit
open Wirey (Blk Row str str_size str_list str_cat Kp)
open Regy Slsy

theorem c_act : Try.prog.cellsOf 35 = 3 := by kernel_rfl
/-- Acts that are handed in. -/
structure Acts (w : World) (ao : Option Addr) (len sb off : Nat) (K : Nat → Int) (A U : Nat → Nat) : Prop where
  arr : ∃ C, Arry.Arr w ao len sb off 3 C ∧ ∀ i, i < len → C i = [.int .i64 (K i), .int .u64 (A i : Int), .int .u64 (U i : Int)]
  num : ∀ i, i < len → A i < 18446744073709551616 ∧ U i < 18446744073709551616
theorem Acts.below {w w' : World} {ao : Option Addr} {len sb off : Nat} {K : Nat → Int} {A U : Nat → Nat} (h : Acts w ao len sb off K A U) (hb : Below w.heap.size w w') : Acts w' ao len sb off K A U :=
  ⟨by obtain ⟨C, a, b⟩ := h.arr; exact ⟨C, a.below hb, b⟩, h.num⟩
theorem Acts.at_ {w : World} {ao : Option Addr} {len sb off : Nat} {K : Nat → Int} {A U : Nat → Nat} (h : Acts w ao len sb off K A U) {i : Nat} (hi : i < len) : ao = some ⟨sb, off, none⟩ ∧ w.cell? ⟨sb, off + i * 3, none⟩ = some (.int .i64 (K i)) ∧ w.cell? ⟨sb, off + i * 3 + 1, none⟩ = some (.int .u64 (A i : Int)) ∧ w.cell? ⟨sb, off + i * 3 + 2, none⟩ = some (.int .u64 (U i : Int)) := by
  obtain ⟨C, a, b⟩ := h.arr
  have hc := a.cell i hi
  rw [b i hi] at hc
  exact ⟨a.at_ (by omega), hc 0 (by omega), hc 1 (by omega), hc 2 (by omega)⟩
section
variable {H : Type} {enc : TypeId × Value → H} {w : World} {base : Nat} {spare : Nat → Bool} {held : Bool}
theorem open_act {fuel : Nat} {cs : List Value} {x : DataW H × List MemPlace} (h : DataW.trod enc Try.prog w base spare held fuel 35 cs = some x) :
    ∃ (k : Int) (a u : Nat), cs = [.int .i64 k, .int .u64 (a : Int), .int .u64 (u : Int)] ∧ a < 18446744073709551616 ∧ u < 18446744073709551616 := by
  obtain ⟨xs, m, -, -, hl, hlen, hf⟩ := DataW.trod_struct Try.underlying35 h
  rw [c_act] at hl
  obtain ⟨d0, r0, rfl, hl0⟩ := Arry.list_n _ cs hl
  obtain ⟨d1, r1, rfl, hl1⟩ := Arry.list_n _ r0 hl0
  obtain ⟨d2, r2, rfl, hl2⟩ := Arry.list_n _ r1 hl1
  obtain rfl := List.length_eq_zero_iff.1 hl2
  have q0 := hf 0 _ rfl
  rw [List.getElem?_eq_getElem (by rw [hlen]; decide)] at q0
  simp only [List.getElem_toArray, List.getElem_cons_zero] at q0
  rw [c_i] at q0
  obtain ⟨k, e0, -, w0⟩ := DataW.trod_int Try.underlying3 q0
  have q1 := hf 1 _ rfl
  rw [List.getElem?_eq_getElem (by rw [hlen]; decide)] at q1
  simp only [List.getElem_toArray, List.getElem_cons_zero, List.getElem_cons_succ] at q1
  rw [c_u] at q1
  obtain ⟨a, e1, -, w1⟩ := DataW.trod_int Try.underlying22 q1
  have q2 := hf 2 _ rfl
  rw [List.getElem?_eq_getElem (by rw [hlen]; decide)] at q2
  simp only [List.getElem_toArray, List.getElem_cons_zero, List.getElem_cons_succ] at q2
  rw [c_u] at q2
  obtain ⟨u, e2, -, w2⟩ := DataW.trod_int Try.underlying22 q2
  simp only [List.drop_zero, List.drop_succ_cons, List.take_succ_cons, List.take_zero, List.cons.injEq, and_true] at e0 e1 e2
  subst e0 e1 e2
  obtain ⟨a, rfl, ha⟩ := Arry.u64_nat w1
  obtain ⟨u, rfl, hu⟩ := Arry.u64_nat w2
  exact ⟨k, a, u, rfl, ha, hu⟩
theorem open_acts {fuel : Nat} {v : Value} {x : DataW H × List MemPlace} (h : DataW.trod enc Try.prog w base spare held fuel 23 [v] = some x) :
    ∃ (ao : Option Addr) (len cap sb off : Nat) (K : Nat → Int) (A U : Nat → Nat), v = .slice ao len cap ∧ Acts w ao len sb off K A U := by
  obtain ⟨ao, len, cap, sb, off, C, rfl, hA, hC⟩ := Arry.open_arr Try.underlying23 c_act (by omega) h
  have each : ∀ i, ∃ (k : Int) (a u : Nat), i < len → C i = [.int .i64 k, .int .u64 (a : Int), .int .u64 (u : Int)] ∧ a < 18446744073709551616 ∧ u < 18446744073709551616 := fun i => by
    by_cases hi : i < len
    · obtain ⟨n, y, hy⟩ := hC i hi
      obtain ⟨k, a, u, e, ha, hu⟩ := open_act hy
      exact ⟨k, a, u, fun _ => ⟨e, ha, hu⟩⟩
    · exact ⟨0, 0, 0, fun h => absurd h hi⟩
  exact ⟨ao, len, cap, sb, off, fun i => (each i).choose, fun i => (each i).choose_spec.choose, fun i => (each i).choose_spec.choose_spec.choose, rfl,
    ⟨⟨C, hA, fun i hi => ((each i).choose_spec.choose_spec.choose_spec hi).1⟩, fun i hi => ((each i).choose_spec.choose_spec.choose_spec hi).2⟩⟩
end
end Go.Proofs.Ytajpmlmacnomfaa.Logy
