/- Layer 11: what entries and acts that are handed in consist of. No condition. -/
import Derived.Test.YtdjfdpmfpnbpjaaTabMem
import Derived.Test.YtdjfdpmfpnbpjaaArr
namespace Go.Proofs.Ytdjfdpmfpnbpjaa.Taby
open Go.ChangeShapes Go.WideShapes Go.ChangeAt Go.RowKit
open Wirey (str str_of)
open Arry
theorem c_u : Try.prog.cellsOf 22 = 1 := by kernel_rfl
theorem c_i : Try.prog.cellsOf 3 = 1 := by kernel_rfl
theorem c_s : Try.prog.cellsOf 9 = 1 := by kernel_rfl
theorem c_entry : Try.prog.cellsOf 32 = 4 := by kernel_rfl
theorem c_act : Try.prog.cellsOf 35 = 5 := by kernel_rfl
/-- What is known of an entry that is handed in. -/
structure En.Big (x : En) : Prop where
  key : x.key.length ≤ maxLen
  val : x.val.length ≤ maxLen
  ver : x.ver < 18446744073709551616
  fin : x.fin < 18446744073709551616
section
variable {H : Type} {enc : TypeId × Value → H} {w : World} {base : Nat} {spare : Nat → Bool} {held : Bool}
theorem open_entry {fuel : Nat} {cs : List Value} {x : DataW H × List MemPlace} (h : DataW.trod enc Try.prog w base spare held fuel 32 cs = some x) :
    ∃ x : En, cs = x.row ∧ x.Big := by
  obtain ⟨xs, m, -, -, hl, hlen, hf⟩ := DataW.trod_struct Try.underlying32 h
  rw [c_entry] at hl
  obtain ⟨d0, r0, rfl, hl0⟩ := list_n _ cs hl
  obtain ⟨d1, r1, rfl, hl1⟩ := list_n _ r0 hl0
  obtain ⟨d2, r2, rfl, hl2⟩ := list_n _ r1 hl1
  obtain ⟨d3, r3, rfl, hl3⟩ := list_n _ r2 hl2
  obtain rfl := List.length_eq_zero_iff.1 hl3
  have q0 := hf 0 _ rfl
  rw [List.getElem?_eq_getElem (by rw [hlen]; decide)] at q0
  simp only [List.getElem_toArray, List.getElem_cons_zero] at q0
  rw [c_s] at q0
  obtain ⟨key, e0, -, w0⟩ := DataW.trod_string Try.underlying9 q0
  have q1 := hf 1 _ rfl
  rw [List.getElem?_eq_getElem (by rw [hlen]; decide)] at q1
  simp only [List.getElem_toArray, List.getElem_cons_zero, List.getElem_cons_succ] at q1
  rw [c_s] at q1
  obtain ⟨val, e1, -, w1⟩ := DataW.trod_string Try.underlying9 q1
  have q2 := hf 2 _ rfl
  rw [List.getElem?_eq_getElem (by rw [hlen]; decide)] at q2
  simp only [List.getElem_toArray, List.getElem_cons_zero, List.getElem_cons_succ] at q2
  rw [c_u] at q2
  obtain ⟨t, e2, -, w2⟩ := DataW.trod_int Try.underlying22 q2
  have q3 := hf 3 _ rfl
  rw [List.getElem?_eq_getElem (by rw [hlen]; decide)] at q3
  simp only [List.getElem_toArray, List.getElem_cons_zero, List.getElem_cons_succ] at q3
  rw [c_u] at q3
  obtain ⟨v, e3, -, w3⟩ := DataW.trod_int Try.underlying22 q3
  simp only [List.drop_zero, List.drop_succ_cons, List.take_succ_cons, List.take_zero, List.cons.injEq, and_true] at e0 e1 e2 e3
  subst e0 e1 e2 e3
  obtain ⟨t, rfl, ht⟩ := u64_nat w2
  obtain ⟨v, rfl, hv⟩ := u64_nat w3
  refine ⟨⟨key.data.toList, val.data.toList, t, v⟩, ?_, by simpa using w0, by simpa using w1, ht, hv⟩
  show _ = [Value.string (str key.data.toList), Value.string (str val.data.toList), _, _]
  rw [← str_of, ← str_of]
theorem open_act {fuel : Nat} {cs : List Value} {x : DataW H × List MemPlace} (h : DataW.trod enc Try.prog w base spare held fuel 35 cs = some x) :
    ∃ (k : Int) (x : En), cs = .int .i64 k :: x.row ∧ (Lit.int .i64 k).wf = true ∧ x.Big := by
  obtain ⟨xs, m, -, -, hl, hlen, hf⟩ := DataW.trod_struct Try.underlying35 h
  rw [c_act] at hl
  obtain ⟨d0, r0, rfl, hl0⟩ := list_n _ cs hl
  obtain ⟨d1, r1, rfl, hl1⟩ := list_n _ r0 hl0
  obtain ⟨d2, r2, rfl, hl2⟩ := list_n _ r1 hl1
  obtain ⟨d3, r3, rfl, hl3⟩ := list_n _ r2 hl2
  obtain ⟨d4, r4, rfl, hl4⟩ := list_n _ r3 hl3
  obtain rfl := List.length_eq_zero_iff.1 hl4
  have q0 := hf 0 _ rfl
  rw [List.getElem?_eq_getElem (by rw [hlen]; decide)] at q0
  simp only [List.getElem_toArray, List.getElem_cons_zero] at q0
  rw [c_i] at q0
  obtain ⟨k, e0, -, w0⟩ := DataW.trod_int Try.underlying3 q0
  have q1 := hf 1 _ rfl
  rw [List.getElem?_eq_getElem (by rw [hlen]; decide)] at q1
  simp only [List.getElem_toArray, List.getElem_cons_zero, List.getElem_cons_succ] at q1
  rw [c_entry] at q1
  obtain ⟨x, e1, hx⟩ := open_entry q1
  simp only [List.drop_zero, List.drop_succ_cons, List.take_succ_cons, List.take_zero, List.cons.injEq, and_true] at e0 e1
  subst e0
  exact ⟨k, x, by rw [e1], w0, hx⟩
end
/-- Entries that are handed in. -/
structure Ents (w : World) (ao : Option Addr) (len sb off : Nat) (X : Nat → En) : Prop where
  arr : ∃ C, Arr w ao len sb off 4 C ∧ ∀ i, i < len → C i = (X i).row
  big : ∀ i, i < len → (X i).Big
/-- Acts that are handed in. -/
structure Acts (w : World) (ao : Option Addr) (len sb off : Nat) (K : Nat → Int) (X : Nat → En) : Prop where
  arr : ∃ C, Arr w ao len sb off 5 C ∧ ∀ i, i < len → C i = .int .i64 (K i) :: (X i).row
  kind : ∀ i, i < len → -9223372036854775808 ≤ K i ∧ K i ≤ 9223372036854775807
  big : ∀ i, i < len → (X i).Big
section
variable {w w' : World} {ao : Option Addr} {len sb off : Nat} {K : Nat → Int} {X : Nat → En}
theorem Ents.below (h : Ents w ao len sb off X) (hb : Below w.heap.size w w') : Ents w' ao len sb off X :=
  ⟨by obtain ⟨C, a, b⟩ := h.arr; exact ⟨C, a.below hb, b⟩, h.big⟩
theorem Acts.below (h : Acts w ao len sb off K X) (hb : Below w.heap.size w w') : Acts w' ao len sb off K X :=
  ⟨by obtain ⟨C, a, b⟩ := h.arr; exact ⟨C, a.below hb, b⟩, h.kind, h.big⟩
theorem Ents.most (h : Ents w ao len sb off X) : len ≤ maxLen := by obtain ⟨C, a, b⟩ := h.arr; exact a.most
theorem Acts.most (h : Acts w ao len sb off K X) : len ≤ maxLen := by obtain ⟨C, a, b⟩ := h.arr; exact a.most
theorem Ents.at_ (h : Ents w ao len sb off X) {i : Nat} (hi : i < len) : ao = some ⟨sb, off, none⟩ ∧ w.cell? ⟨sb, off + i * 4, none⟩ = some (.string (str (X i).key)) ∧ w.cell? ⟨sb, off + i * 4 + 1, none⟩ = some (.string (str (X i).val)) ∧ w.cell? ⟨sb, off + i * 4 + 2, none⟩ = some (.int .u64 ((X i).ver : Int)) ∧ w.cell? ⟨sb, off + i * 4 + 3, none⟩ = some (.int .u64 ((X i).fin : Int)) := by
  obtain ⟨C, a, b⟩ := h.arr
  have hc := a.cell i hi
  rw [b i hi] at hc
  exact ⟨a.at_ (by omega), hc 0 (by omega), hc 1 (by omega), hc 2 (by omega), hc 3 (by omega)⟩
theorem Acts.at_ (h : Acts w ao len sb off K X) {i : Nat} (hi : i < len) : ao = some ⟨sb, off, none⟩ ∧ w.cell? ⟨sb, off + i * 5, none⟩ = some (.int .i64 (K i)) ∧ w.cell? ⟨sb, off + i * 5 + 1, none⟩ = some (.string (str (X i).key)) ∧ w.cell? ⟨sb, off + i * 5 + 2, none⟩ = some (.string (str (X i).val)) ∧ w.cell? ⟨sb, off + i * 5 + 3, none⟩ = some (.int .u64 ((X i).ver : Int)) ∧ w.cell? ⟨sb, off + i * 5 + 4, none⟩ = some (.int .u64 ((X i).fin : Int)) := by
  obtain ⟨C, a, b⟩ := h.arr
  have hc := a.cell i hi
  rw [b i hi] at hc
  exact ⟨a.at_ (by omega), hc 0 (by omega), hc 1 (by omega), hc 2 (by omega), hc 3 (by omega), hc 4 (by omega)⟩
end
section
variable {H : Type} {enc : TypeId × Value → H} {w : World} {base : Nat} {spare : Nat → Bool} {held : Bool}
theorem open_ents {fuel : Nat} {v : Value} {x : DataW H × List MemPlace} (h : DataW.trod enc Try.prog w base spare held fuel 29 [v] = some x) :
    ∃ (ao : Option Addr) (len cap sb off : Nat) (X : Nat → En), v = .slice ao len cap ∧ Ents w ao len sb off X := by
  obtain ⟨ao, len, cap, sb, off, C, rfl, hA, hC⟩ := open_arr Try.underlying29 c_entry (by omega) h
  have each : ∀ i, ∃ x : En, i < len → C i = x.row ∧ x.Big := fun i => by
    by_cases hi : i < len
    · obtain ⟨n, y, hy⟩ := hC i hi
      obtain ⟨x, e, hx⟩ := open_entry hy
      exact ⟨x, fun _ => ⟨e, hx⟩⟩
    · exact ⟨En.none, fun h => absurd h hi⟩
  exact ⟨ao, len, cap, sb, off, fun i => (each i).choose, rfl, ⟨⟨C, hA, fun i hi => ((each i).choose_spec hi).1⟩, fun i hi => ((each i).choose_spec hi).2⟩⟩
theorem open_acts {fuel : Nat} {v : Value} {x : DataW H × List MemPlace} (h : DataW.trod enc Try.prog w base spare held fuel 26 [v] = some x) :
    ∃ (ao : Option Addr) (len cap sb off : Nat) (K : Nat → Int) (X : Nat → En), v = .slice ao len cap ∧ Acts w ao len sb off K X := by
  obtain ⟨ao, len, cap, sb, off, C, rfl, hA, hC⟩ := open_arr Try.underlying26 c_act (by omega) h
  have each : ∀ i, ∃ (k : Int) (x : En), i < len → C i = .int .i64 k :: x.row ∧ (Lit.int .i64 k).wf = true ∧ x.Big := fun i => by
    by_cases hi : i < len
    · obtain ⟨n, y, hy⟩ := hC i hi
      obtain ⟨k, x, e, hk, hx⟩ := open_act hy
      exact ⟨k, x, fun _ => ⟨e, hk, hx⟩⟩
    · exact ⟨0, En.none, fun h => absurd h hi⟩
  exact ⟨ao, len, cap, sb, off, fun i => (each i).choose, fun i => (each i).choose_spec.choose, rfl,
    ⟨⟨C, hA, fun i hi => ((each i).choose_spec.choose_spec hi).1⟩, fun i hi => bounds_i64 ((each i).choose_spec.choose_spec hi).2.1, fun i hi => ((each i).choose_spec.choose_spec hi).2.2⟩⟩
end
end Go.Proofs.Ytdjfdpmfpnbpjaa.Taby
