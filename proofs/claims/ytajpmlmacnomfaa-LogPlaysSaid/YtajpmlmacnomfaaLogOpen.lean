/- What an operation, or a record, that is handed in consists of. No condition. -/
import Derived.Test.YtajpmlmacnomfaaKit
import Derived.Test.YtajpmlmacnomfaaLogMath
import Derived.Test.YtajpmlmacnomfaaArr
namespace Go.Proofs.Ytajpmlmacnomfaa.Logy
open Go.ChangeShapes Go.WideShapes Go.ChangeAt Go.RowKit
open Wirey (str str_of)
open Arry
theorem c_u : Try.prog.cellsOf 22 = 1 := by kernel_rfl
theorem c_i : Try.prog.cellsOf 3 = 1 := by kernel_rfl
theorem c_s : Try.prog.cellsOf 9 = 1 := by kernel_rfl
theorem c_op : Try.prog.cellsOf 41 = 5 := by kernel_rfl
theorem c_rec : Try.prog.cellsOf 43 = 9 := by kernel_rfl
/-- What is known of a record that is handed in. -/
structure Rc.Big (x : Rc) : Prop where
  seq : x.seq < 18446744073709551616
  now : x.now < 18446744073709551616
  ses : x.ses < 18446744073709551616
  num : x.num < 18446744073709551616
  kind : (Lit.int .i64 x.kind).wf = true
  key : x.key.length ≤ maxLen
  val : x.val.length ≤ maxLen
  ttl : x.ttl < 18446744073709551616
  ver : x.ver < 18446744073709551616
section
variable {H : Type} {enc : TypeId × Value → H} {w : World} {base : Nat} {spare : Nat → Bool} {held : Bool}
theorem open_op {fuel : Nat} {cs : List Value} {x : DataW H × List MemPlace} (h : DataW.trod enc Try.prog w base spare held fuel 41 cs = some x) :
    ∃ (k : Int) (key val : List UInt8) (t v : Nat), cs = [.int .i64 k, .string (str key), .string (str val), .int .u64 (t : Int), .int .u64 (v : Int)] ∧ (Lit.int .i64 k).wf = true ∧ key.length ≤ maxLen ∧ val.length ≤ maxLen ∧ t < 18446744073709551616 ∧ v < 18446744073709551616 := by
  obtain ⟨xs, m, -, -, hl, hlen, hf⟩ := DataW.trod_struct Try.underlying41 h
  rw [c_op] at hl
  obtain ⟨d0, r0, rfl, hl0⟩ := list_n _ cs hl
  obtain ⟨d1, r1, rfl, hl1⟩ := list_n _ r0 hl0
  obtain ⟨d2, r2, rfl, hl2⟩ := list_n _ r1 hl1
  obtain ⟨d3, r3, rfl, hl3⟩ := list_n _ r2 hl2
  obtain ⟨d4, r4, rfl, hl4⟩ := list_n _ r3 hl3
  obtain rfl := List.length_eq_zero_iff.1 hl4
  have q0 := hf 0 _ rfl
  rw [List.getElem?_eq_getElem (by rw [hlen]; decide)] at q0
  simp only [List.getElem_toArray, List.getElem_cons_zero] at q0
  rw [c_i] at q0
  obtain ⟨k, e0, -, w0⟩ := DataW.trod_int Try.underlying3 q0
  have q1 := hf 1 _ rfl
  rw [List.getElem?_eq_getElem (by rw [hlen]; decide)] at q1
  simp only [List.getElem_toArray, List.getElem_cons_zero, List.getElem_cons_succ] at q1
  rw [c_s] at q1
  obtain ⟨key, e1, -, w1⟩ := DataW.trod_string Try.underlying9 q1
  have q2 := hf 2 _ rfl
  rw [List.getElem?_eq_getElem (by rw [hlen]; decide)] at q2
  simp only [List.getElem_toArray, List.getElem_cons_zero, List.getElem_cons_succ] at q2
  rw [c_s] at q2
  obtain ⟨val, e2, -, w2⟩ := DataW.trod_string Try.underlying9 q2
  have q3 := hf 3 _ rfl
  rw [List.getElem?_eq_getElem (by rw [hlen]; decide)] at q3
  simp only [List.getElem_toArray, List.getElem_cons_zero, List.getElem_cons_succ] at q3
  rw [c_u] at q3
  obtain ⟨t, e3, -, w3⟩ := DataW.trod_int Try.underlying22 q3
  have q4 := hf 4 _ rfl
  rw [List.getElem?_eq_getElem (by rw [hlen]; decide)] at q4
  simp only [List.getElem_toArray, List.getElem_cons_zero, List.getElem_cons_succ] at q4
  rw [c_u] at q4
  obtain ⟨v, e4, -, w4⟩ := DataW.trod_int Try.underlying22 q4
  simp only [List.drop_zero, List.drop_succ_cons, List.take_succ_cons, List.take_zero, List.cons.injEq, and_true] at e0 e1 e2 e3 e4
  subst e0 e1 e2 e3 e4
  obtain ⟨t, rfl, ht⟩ := u64_nat w3
  obtain ⟨v, rfl, hv⟩ := u64_nat w4
  refine ⟨k, key.data.toList, val.data.toList, t, v, ?_, w0, by simpa using w1, by simpa using w2, ht, hv⟩
  rw [← str_of, ← str_of]
theorem open_rc {fuel : Nat} {cs : List Value} {x : DataW H × List MemPlace} (h : DataW.trod enc Try.prog w base spare held fuel 43 cs = some x) :
    ∃ x : Rc, cs = x.enc ∧ x.Big := by
  obtain ⟨xs, m, -, -, hl, hlen, hf⟩ := DataW.trod_struct Try.underlying43 h
  rw [c_rec] at hl
  obtain ⟨d0, r0, rfl, hl0⟩ := list_n _ cs hl
  obtain ⟨d1, r1, rfl, hl1⟩ := list_n _ r0 hl0
  obtain ⟨d2, r2, rfl, hl2⟩ := list_n _ r1 hl1
  obtain ⟨d3, r3, rfl, hl3⟩ := list_n _ r2 hl2
  obtain ⟨d4, r4, rfl, hl4⟩ := list_n _ r3 hl3
  obtain ⟨d5, r5, rfl, hl5⟩ := list_n _ r4 hl4
  obtain ⟨d6, r6, rfl, hl6⟩ := list_n _ r5 hl5
  obtain ⟨d7, r7, rfl, hl7⟩ := list_n _ r6 hl6
  obtain ⟨d8, r8, rfl, hl8⟩ := list_n _ r7 hl7
  obtain rfl := List.length_eq_zero_iff.1 hl8
  have q0 := hf 0 _ rfl
  rw [List.getElem?_eq_getElem (by rw [hlen]; decide)] at q0
  simp only [List.getElem_toArray, List.getElem_cons_zero] at q0
  rw [c_u] at q0
  obtain ⟨n0, e0, -, w0⟩ := DataW.trod_int Try.underlying22 q0
  have q1 := hf 1 _ rfl
  rw [List.getElem?_eq_getElem (by rw [hlen]; decide)] at q1
  simp only [List.getElem_toArray, List.getElem_cons_zero, List.getElem_cons_succ] at q1
  rw [c_u] at q1
  obtain ⟨n1, e1, -, w1⟩ := DataW.trod_int Try.underlying22 q1
  have q2 := hf 2 _ rfl
  rw [List.getElem?_eq_getElem (by rw [hlen]; decide)] at q2
  simp only [List.getElem_toArray, List.getElem_cons_zero, List.getElem_cons_succ] at q2
  rw [c_u] at q2
  obtain ⟨n2, e2, -, w2⟩ := DataW.trod_int Try.underlying22 q2
  have q3 := hf 3 _ rfl
  rw [List.getElem?_eq_getElem (by rw [hlen]; decide)] at q3
  simp only [List.getElem_toArray, List.getElem_cons_zero, List.getElem_cons_succ] at q3
  rw [c_u] at q3
  obtain ⟨n3, e3, -, w3⟩ := DataW.trod_int Try.underlying22 q3
  have q4 := hf 4 _ rfl
  rw [List.getElem?_eq_getElem (by rw [hlen]; decide)] at q4
  simp only [List.getElem_toArray, List.getElem_cons_zero, List.getElem_cons_succ] at q4
  rw [c_op] at q4
  obtain ⟨k, key, val, t, v, e4, wk, hk, hv, ht, hv2⟩ := open_op q4
  simp only [List.drop_zero, List.drop_succ_cons, List.take_succ_cons, List.take_zero, List.cons.injEq, and_true] at e0 e1 e2 e3 e4
  obtain ⟨rfl, rfl, rfl, rfl, rfl⟩ := e4
  subst e0 e1 e2 e3
  obtain ⟨m0, rfl, l0⟩ := u64_nat w0
  obtain ⟨m1, rfl, l1⟩ := u64_nat w1
  obtain ⟨m2, rfl, l2⟩ := u64_nat w2
  obtain ⟨m3, rfl, l3⟩ := u64_nat w3
  exact ⟨⟨m0, m1, m2, m3, k, key, val, t, v⟩, rfl, l0, l1, l2, l3, wk, hk, hv, ht, hv2⟩
end
end Go.Proofs.Ytajpmlmacnomfaa.Logy
