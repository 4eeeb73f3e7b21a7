/- What is handed in: an act, a row of acts, a row of operations; and the record of an act. No condition but that numbers do not come to the end of what a number may be. -/
import Derived.Test.YtkiabladmgagdabGreatDoorStoreExpSesAll
import Derived.Test.YtkiabladmgagdabGreatDoorOpPutAll
import Derived.Test.YtkiabladmgagdabGreatDoorMemAll
import Derived.Test.YtkiabladmgagdabGreatDoorSq
namespace Go.Proofs.YtkiabladmgagdabGreatDoor.Storey
open Go.ChangeShapes Go.WideShapes Go.ChangeAt Go.RowKit
open Wirey (Blk Row str str_size str_list str_cat Kp)
open Taby (En TabAt Tbl tp find ins drop size ended St)
open Policyy (Pv HeldP StepP Tell)
open Ringy (Key)
open Regy
open Arry
open Wirey (str_of str_take)

section
variable {w0 w w' w'' : World} {B b T M C S : Nat} {H H' : Nat → Prop} {s t : Sv} {k : Key} {v : Value} {l : List Key} {o : Opn} {x : Rcd}
theorem c_u : Tryz.prog.cellsOf 22 = 1 := by kernel_rfl
theorem c_i : Tryz.prog.cellsOf 3 = 1 := by kernel_rfl
theorem c_s : Tryz.prog.cellsOf 9 = 1 := by kernel_rfl
theorem c_op : Tryz.prog.cellsOf 36 = 5 := by kernel_rfl
theorem c_act : Tryz.prog.cellsOf 43 = 9 := by kernel_rfl
structure Ac where
 ticks : Nat
 ses : Nat
 num : Nat
 op : Opn
 skip : Int
structure Opn.Big (o : Opn) : Prop where
 key : o.key.length ≤ maxLen
 val : o.val.length ≤ maxLen
 ttl : o.ttl < 18446744073709551616
 ver : o.ver < 18446744073709551616
structure Ac.Big (a : Ac) : Prop where
 ticks : a.ticks < 18446744073709551616
 ses : a.ses < 18446744073709551616
 num : a.num < 18446744073709551616
 op : a.op.Big
def Opn.row (o : Opn) : List Value := [.int .i64 o.kind, .string (str o.key), .string (str o.val), .int .u64 o.ttl, .int .u64 o.ver]
abbrev Ac.cs (a : Ac) : Array Value := #[.int .u64 a.ticks, .int .u64 a.ses, .int .u64 a.num, .int .i64 a.op.kind, .string (str a.op.key), .string (str a.op.val), .int .u64 a.op.ttl, .int .u64 a.op.ver, .int .i64 a.skip]
def Ac.row (a : Ac) : List Value := [.int .u64 a.ticks, .int .u64 a.ses, .int .u64 a.num, .int .i64 a.op.kind, .string (str a.op.key), .string (str a.op.val), .int .u64 a.op.ttl, .int .u64 a.op.ver, .int .i64 a.skip]
section
variable {H : Type} {enc : TypeId × Value → H} {w : World} {base : Nat} {spare : Nat → Bool} {held : Bool}
theorem open_op {fuel : Nat} {cs : List Value} {x : DataW H × List MemPlace} (h : DataW.trod enc Tryz.prog w base spare held fuel 36 cs = some x) :
  ∃ o : Opn, cs = o.row ∧ o.Big := by
 obtain ⟨xs, m, -, -, hl, hlen, hf⟩ := DataW.trod_struct Tryz.underlying36 h
 rw [c_op] at hl
 obtain ⟨d0, r0, rfl, hl0⟩ := list_n _ cs hl
 obtain ⟨d1, r1, rfl, hl1⟩ := list_n _ r0 hl0
 obtain ⟨d2, r2, rfl, hl2⟩ := list_n _ r1 hl1
 obtain ⟨d3, r3, rfl, hl3⟩ := list_n _ r2 hl2
 obtain ⟨d4, r4, rfl, hl4⟩ := list_n _ r3 hl3
 obtain rfl := List.length_eq_zero_iff.1 hl4
 have q0 := hf 0 _ rfl
 rw [List.getElem?_eq_getElem (by rw [hlen]; decide)] at q0
 simp only [List.getElem_toArray, List.getElem_cons_zero] at q0
 rw [c_i] at q0
 obtain ⟨k, e0, -, w0⟩ := DataW.trod_int Tryz.underlying3 q0
 have q1 := hf 1 _ rfl
 rw [List.getElem?_eq_getElem (by rw [hlen]; decide)] at q1
 simp only [List.getElem_toArray, List.getElem_cons_zero, List.getElem_cons_succ] at q1
 rw [c_s] at q1
 obtain ⟨key, e1, -, w1⟩ := DataW.trod_string Tryz.underlying9 q1
 have q2 := hf 2 _ rfl
 rw [List.getElem?_eq_getElem (by rw [hlen]; decide)] at q2
 simp only [List.getElem_toArray, List.getElem_cons_zero, List.getElem_cons_succ] at q2
 rw [c_s] at q2
 obtain ⟨val, e2, -, w2⟩ := DataW.trod_string Tryz.underlying9 q2
 have q3 := hf 3 _ rfl
 rw [List.getElem?_eq_getElem (by rw [hlen]; decide)] at q3
 simp only [List.getElem_toArray, List.getElem_cons_zero, List.getElem_cons_succ] at q3
 rw [c_u] at q3
 obtain ⟨t, e3, -, w3⟩ := DataW.trod_int Tryz.underlying22 q3
 have q4 := hf 4 _ rfl
 rw [List.getElem?_eq_getElem (by rw [hlen]; decide)] at q4
 simp only [List.getElem_toArray, List.getElem_cons_zero, List.getElem_cons_succ] at q4
 rw [c_u] at q4
 obtain ⟨v, e4, -, w4⟩ := DataW.trod_int Tryz.underlying22 q4
 simp only [List.drop_zero, List.drop_succ_cons, List.take_succ_cons, List.take_zero, List.cons.injEq, and_true] at e0 e1 e2 e3 e4
 subst e0 e1 e2 e3 e4
 obtain ⟨t, rfl, ht⟩ := u64_nat w3
 obtain ⟨v, rfl, hv⟩ := u64_nat w4
 refine ⟨⟨k, key.data.toList, val.data.toList, t, v⟩, ?_, by simpa using w1, by simpa using w2, ht, hv⟩
 show _ = [Value.int .i64 k, Value.string (str key.data.toList), Value.string (str val.data.toList), _, _]
 rw [← str_of, ← str_of]
theorem open_ac {fuel : Nat} {cs : List Value} {x : DataW H × List MemPlace} (h : DataW.trod enc Tryz.prog w base spare held fuel 43 cs = some x) :
  ∃ a : Ac, cs = a.row ∧ a.Big ∧ -9223372036854775808 ≤ a.skip ∧ a.skip ≤ 9223372036854775807 := by
 obtain ⟨xs, m, -, -, hl, hlen, hf⟩ := DataW.trod_struct Tryz.underlying43 h
 rw [c_act] at hl
 obtain ⟨d0, r0, rfl, hl0⟩ := list_n _ cs hl
 obtain ⟨d1, r1, rfl, hl1⟩ := list_n _ r0 hl0
 obtain ⟨d2, r2, rfl, hl2⟩ := list_n _ r1 hl1
 obtain ⟨d3, r3, rfl, hl3⟩ := list_n _ r2 hl2
 obtain ⟨d4, r4, rfl, hl4⟩ := list_n _ r3 hl3
 obtain ⟨d5, r5, rfl, hl5⟩ := list_n _ r4 hl4
 obtain ⟨d6, r6, rfl, hl6⟩ := list_n _ r5 hl5
 obtain ⟨d7, r7, rfl, hl7⟩ := list_n _ r6 hl6
 obtain ⟨d8, r8, rfl, hl8⟩ := list_n _ r7 hl7
 obtain rfl := List.length_eq_zero_iff.1 hl8
 have q0 := hf 0 _ rfl
 rw [List.getElem?_eq_getElem (by rw [hlen]; decide)] at q0
 simp only [List.getElem_toArray, List.getElem_cons_zero] at q0
 rw [c_u] at q0
 obtain ⟨n0, e0, -, w0⟩ := DataW.trod_int Tryz.underlying22 q0
 have q1 := hf 1 _ rfl
 rw [List.getElem?_eq_getElem (by rw [hlen]; decide)] at q1
 simp only [List.getElem_toArray, List.getElem_cons_zero, List.getElem_cons_succ] at q1
 rw [c_u] at q1
 obtain ⟨n1, e1, -, w1⟩ := DataW.trod_int Tryz.underlying22 q1
 have q2 := hf 2 _ rfl
 rw [List.getElem?_eq_getElem (by rw [hlen]; decide)] at q2
 simp only [List.getElem_toArray, List.getElem_cons_zero, List.getElem_cons_succ] at q2
 rw [c_u] at q2
 obtain ⟨n2, e2, -, w2⟩ := DataW.trod_int Tryz.underlying22 q2
 have q3 := hf 3 _ rfl
 rw [List.getElem?_eq_getElem (by rw [hlen]; decide)] at q3
 simp only [List.getElem_toArray, List.getElem_cons_zero, List.getElem_cons_succ] at q3
 rw [c_op] at q3
 obtain ⟨o, e3, ho⟩ := open_op q3
 have q4 := hf 4 _ rfl
 rw [List.getElem?_eq_getElem (by rw [hlen]; decide)] at q4
 simp only [List.getElem_toArray, List.getElem_cons_zero, List.getElem_cons_succ] at q4
 rw [c_i] at q4
 obtain ⟨k, e4, -, w4⟩ := DataW.trod_int Tryz.underlying3 q4
 simp only [List.drop_zero, List.drop_succ_cons, List.take_succ_cons, List.take_zero, List.cons.injEq, and_true, Opn.row] at e0 e1 e2 e3 e4
 obtain ⟨rfl, rfl, rfl, rfl, rfl⟩ := e3
 subst e0 e1 e2 e4
 obtain ⟨m0, rfl, l0⟩ := u64_nat w0
 obtain ⟨m1, rfl, l1⟩ := u64_nat w1
 obtain ⟨m2, rfl, l2⟩ := u64_nat w2
 exact ⟨⟨m0, m1, m2, o, k⟩, rfl, ⟨l0, l1, l2, ho⟩, bounds_i64 w4⟩
end
structure Acs (w : World) (ao : Option Addr) (len sb off : Nat) (X : Nat → Ac) : Prop where
 arr : ∃ C, Arr w ao len sb off 9 C ∧ ∀ i, i < len → C i = (X i).row
 big : ∀ i, i < len → (X i).Big
def acAt (w : World) (sb off i : Nat) (A : Ac) : Prop := w.cell? ⟨sb, off + i * 9, none⟩ = some (.int .u64 A.ticks) ∧ w.cell? ⟨sb, off + i * 9 + 1, none⟩ = some (.int .u64 A.ses) ∧ w.cell? ⟨sb, off + i * 9 + 2, none⟩ = some (.int .u64 A.num) ∧ w.cell? ⟨sb, off + i * 9 + 3, none⟩ = some (.int .i64 A.op.kind) ∧ w.cell? ⟨sb, off + i * 9 + 4, none⟩ = some (.string (str A.op.key)) ∧ w.cell? ⟨sb, off + i * 9 + 5, none⟩ = some (.string (str A.op.val)) ∧ w.cell? ⟨sb, off + i * 9 + 6, none⟩ = some (.int .u64 A.op.ttl) ∧ w.cell? ⟨sb, off + i * 9 + 7, none⟩ = some (.int .u64 A.op.ver) ∧ w.cell? ⟨sb, off + i * 9 + 8, none⟩ = some (.int .i64 A.skip)
section
variable {w w' : World} {ao : Option Addr} {len sb off : Nat} {X : Nat → Ac} {Y : Nat → Opn}
theorem Acs.below (h : Acs w ao len sb off X) (hb : Below w.heap.size w w') : Acs w' ao len sb off X := ⟨by obtain ⟨C, a, b⟩ := h.arr; exact ⟨C, a.below hb, b⟩, h.big⟩
theorem Acs.most (h : Acs w ao len sb off X) : len ≤ maxLen := by obtain ⟨C, a, b⟩ := h.arr; exact a.most
theorem Acs.is (h : Acs w ao len sb off X) (hl : 0 < len) : ao = some ⟨sb, off, none⟩ ∧ sb < w.heap.size := by obtain ⟨C, a, b⟩ := h.arr; exact ⟨a.at_ hl, a.lt hl⟩
theorem Acs.at_ (h : Acs w ao len sb off X) {i : Nat} (hi : i < len) : acAt w sb off i (X i) := by
 obtain ⟨C, a, b⟩ := h.arr
 have hc := a.cell i hi
 rw [b i hi] at hc
 exact ⟨hc 0 (by omega), hc 1 (by omega), hc 2 (by omega), hc 3 (by omega), hc 4 (by omega), hc 5 (by omega), hc 6 (by omega), hc 7 (by omega), hc 8 (by omega)⟩
end
section
variable {H : Type} {enc : TypeId × Value → H} {w : World} {base : Nat} {spare : Nat → Bool} {held : Bool}
theorem open_acs {fuel : Nat} {v : Value} {x : DataW H × List MemPlace} (h : DataW.trod enc Tryz.prog w base spare held fuel 25 [v] = some x) :
  ∃ (ao : Option Addr) (len cap sb off : Nat) (X : Nat → Ac), v = .slice ao len cap ∧ Acs w ao len sb off X := by
 obtain ⟨ao, len, cap, sb, off, C, rfl, hA, hC⟩ := open_arr Tryz.underlying25 c_act (by omega) h
 have each : ∀ i, ∃ x : Ac, i < len → C i = x.row ∧ x.Big := fun i => by
  by_cases hi : i < len
  ·obtain ⟨n, y, hy⟩ := hC i hi
   obtain ⟨x, e, hx, -⟩ := open_ac hy
   exact ⟨x, fun _ => ⟨e, hx⟩⟩
  ·exact ⟨⟨0, 0, 0, ⟨0, [], [], 0, 0⟩, 0⟩, fun h => absurd h hi⟩
 exact ⟨ao, len, cap, sb, off, fun i => (each i).choose, rfl, ⟨⟨C, hA, fun i hi => ((each i).choose_spec hi).1⟩, fun i hi => ((each i).choose_spec hi).2⟩⟩
end
def Opn.cut (o : Opn) : Opn := ⟨o.kind, if 70 < o.key.length then o.key.take 70 else o.key, if 1200 < o.val.length then o.val.take 1200 else o.val, o.ttl, o.ver⟩
def nextOf (now : Nat) (a : Ac) : Nat := if a.ticks ≤ 100 then now + a.ticks else now
def and3 (z : Int) : Nat := (z % ((2 ^ 64 : Nat) : Int)).toNat % 2 ^ 2
def and7 (z : Int) : Nat := (z % ((2 ^ 64 : Nat) : Int)).toNat % 2 ^ 3
def and31 (z : Int) : Nat := (z % ((2 ^ 64 : Nat) : Int)).toNat % 2 ^ 5
def recOf (seq now : Nat) (a : Ac) : Rcd := ⟨seq + 1 + and3 a.skip / 3, nextOf now a, and7 a.ses, and31 a.num, a.op.cut⟩
theorem and3_lt (z : Int) : and3 z < 4 := Nat.mod_lt _ (by decide)
theorem and7_lt (z : Int) : and7 z < 8 := Nat.mod_lt _ (by decide)
theorem and31_lt (z : Int) : and31 z < 32 := Nat.mod_lt _ (by decide)
theorem nextOf_le (now : Nat) (a : Ac) : now ≤ nextOf now a ∧ nextOf now a ≤ now + 100 := by unfold nextOf; split <;> omega
theorem Opn.cut_len (o : Opn) : o.cut.key.length ≤ 70 ∧ o.cut.val.length ≤ 1200 := by
 unfold Opn.cut
 constructor
 ·show (if 70 < o.key.length then o.key.take 70 else o.key).length ≤ 70
  split
  ·rw [List.length_take]; omega
  ·omega
 ·show (if 1200 < o.val.length then o.val.take 1200 else o.val).length ≤ 1200
  split
  ·rw [List.length_take]; omega
  ·omega
theorem recOf_ok {seq now : Nat} {a : Ac} (hs : seq + 2 < 18446744073709551616) (hn : now + 100 < 18446744073709551616) (ha : a.Big) : (recOf seq now a).Ok := by
 have h1 := and3_lt a.skip
 have h2 := and7_lt a.ses
 have h3 := and31_lt a.num
 have h4 := nextOf_le now a
 have h5 := a.op.cut_len
 refine ⟨?_, ?_, ?_, ?_, ?_, ?_, ha.op.ttl, ha.op.ver⟩
 ·show seq + 1 + and3 a.skip / 3 < _; omega
 ·show nextOf now a < _; omega
 ·show and7 a.ses < _; omega
 ·show and31 a.num < _; omega
 ·show a.op.cut.key.length ≤ maxLen; unfold maxLen; omega
 ·show a.op.cut.val.length ≤ maxLen; unfold maxLen; omega
theorem put9 {w : World} {g : Nat} {t : TypeId} {v0 v1 v2 v3 v4 v5 v6 v7 v8 : Value} (h : Blk w g t #[v0, v1, v2, v3, v4, v5, v6, v7, v8]) (u0 u1 u2 u3 u4 u5 u6 u7 u8 : Value) : Blk (((((((((w.setCell ⟨g, 0, none⟩ u0).setCell ⟨g, 1, none⟩ u1).setCell ⟨g, 2, none⟩ u2).setCell ⟨g, 3, none⟩ u3).setCell ⟨g, 4, none⟩ u4).setCell ⟨g, 5, none⟩ u5).setCell ⟨g, 6, none⟩ u6).setCell ⟨g, 7, none⟩ u7).setCell ⟨g, 8, none⟩ u8) g t #[u0, u1, u2, u3, u4, u5, u6, u7, u8] := by
 have := ((((((((h.put 0 u0).put 1 u1).put 2 u2).put 3 u3).put 4 u4).put 5 u5).put 6 u6).put 7 u7).put 8 u8
 simp only [sA, List.set_cons_zero, sC] at this
 exact this
theorem below9 {w W : World} {g B : Nat} (h : Below B w W) (hg : B ≤ g) (u0 u1 u2 u3 u4 u5 u6 u7 u8 : Value) : Below B w (((((((((W.setCell ⟨g, 0, none⟩ u0).setCell ⟨g, 1, none⟩ u1).setCell ⟨g, 2, none⟩ u2).setCell ⟨g, 3, none⟩ u3).setCell ⟨g, 4, none⟩ u4).setCell ⟨g, 5, none⟩ u5).setCell ⟨g, 6, none⟩ u6).setCell ⟨g, 7, none⟩ u7).setCell ⟨g, 8, none⟩ u8) :=
 (((((((((h.setCell (p := ⟨g, 0, none⟩) hg u0).setCell (p := ⟨g, 1, none⟩) hg u1).setCell (p := ⟨g, 2, none⟩) hg u2).setCell (p := ⟨g, 3, none⟩) hg u3).setCell (p := ⟨g, 4, none⟩) hg u4).setCell (p := ⟨g, 5, none⟩) hg u5).setCell (p := ⟨g, 6, none⟩) hg u6).setCell (p := ⟨g, 7, none⟩) hg u7).setCell (p := ⟨g, 8, none⟩) hg u8)
set_option maxHeartbeats 4000000 in
set_option maxRecDepth 100000 in
theorem record_c {seq now : Nat} {a : Ac} (hs : seq + 2 < 18446744073709551616) (hn : now + 100 < 18446744073709551616) (ha : a.Big) (w : World) :
  Calls Tryz.prog 9 #[.int .u64 seq, .int .u64 now, .agg a.cs] w fun e w' => e = .returned (.tuple #[.agg (recOf seq now a).cs, .int .u64 (nextOf now a : Int)]) ∧ Below w.heap.size w w' := by
 have hsz := str_size
 have hk := ha.op.key
 have hv := ha.op.val
 have htk := ha.ticks
 unfold maxLen at hk hv
 have t1 := str_take a.op.key 70
 have t2 := str_take a.op.val 1200
 have b3 : bits .and .i64 a.skip 3 = (and3 a.skip : Int) := Bity.i64_and a.skip 3 2 rfl (by omega)
 have b7 : bits .and .u64 (a.ses : Int) 7 = (and7 a.ses : Int) := Bity.u64_and (a.ses : Int) 7 3 rfl (by omega)
 have b31 : bits .and .u64 (a.num : Int) 31 = (and31 a.num : Int) := Bity.u64_and (a.num : Int) 31 5 rfl (by omega)
 have l3 := and3_lt a.skip
 have HR : Hid (recOf seq now a = ⟨seq + 1 + and3 a.skip / 3, nextOf now a, and7 a.ses, and31 a.num, a.op.cut⟩) := Lib.hid rfl
 generalize and3 a.skip = n3 at *
 generalize and7 a.ses = n7 at *
 generalize and31 a.num = n31 at *
 have hcut : Hid (a.op.cut = ⟨a.op.kind, if 70 < a.op.key.length then a.op.key.take 70 else a.op.key, if 1200 < a.op.val.length then a.op.val.take 1200 else a.op.val, a.op.ttl, a.op.ver⟩) := Lib.hid rfl
 have hnx : Hid (nextOf now a = if a.ticks ≤ 100 then now + a.ticks else now) := Lib.hid rfl
 have e1 : (w.alloc (.cells a.cs 43)).heap.size = w.heap.size + 1 := by simp
 have e2 : ((w.alloc (.cells a.cs 43)).alloc (.cells #[.int .u64 0, .int .u64 0, .int .u64 0, .int .u64 0, .int .i64 0, .string ⟨#[]⟩, .string ⟨#[]⟩, .int .u64 0, .int .u64 0] 38)).heap.size = w.heap.size + 2 := by simp
 have hA := ((Blk.new w 43 a.cs).alloc (.cells #[.int .u64 0, .int .u64 0, .int .u64 0, .int .u64 0, .int .i64 0, .string ⟨#[]⟩, .string ⟨#[]⟩, .int .u64 0, .int .u64 0] 38)).alloc (.cells #[.int .i64 a.op.kind, .string (str a.op.key), .string (str a.op.val), .int .u64 a.op.ttl, .int .u64 a.op.ver] 36)
 have hRb := (Blk.new (w.alloc (.cells a.cs 43)) 38 #[.int .u64 0, .int .u64 0, .int .u64 0, .int .u64 0, .int .i64 0, .string ⟨#[]⟩, .string ⟨#[]⟩, .int .u64 0, .int .u64 0]).alloc (.cells #[.int .i64 a.op.kind, .string (str a.op.key), .string (str a.op.val), .int .u64 a.op.ttl, .int .u64 a.op.ver] 36)
 rw [e1] at hRb
 have hO := Blk.new ((w.alloc (.cells a.cs 43)).alloc (.cells #[.int .u64 0, .int .u64 0, .int .u64 0, .int .u64 0, .int .i64 0, .string ⟨#[]⟩, .string ⟨#[]⟩, .int .u64 0, .int .u64 0] 38)) 36 #[.int .i64 a.op.kind, .string (str a.op.key), .string (str a.op.val), .int .u64 a.op.ttl, .int .u64 a.op.ver]
 rw [e2] at hO
 have hb := (((Below.refl _ w).alloc (Nat.le_refl _) (.cells a.cs 43)).alloc (by simp) (.cells #[.int .u64 0, .int .u64 0, .int .u64 0, .int .u64 0, .int .i64 0, .string ⟨#[]⟩, .string ⟨#[]⟩, .int .u64 0, .int .u64 0] 38)).alloc (by simp; omega) (.cells #[.int .i64 a.op.kind, .string (str a.op.key), .string (str a.op.val), .int .u64 a.op.ttl, .int .u64 a.op.ver] 36)
 go_enter Tryz.func9, Tryz.ntmps9
 go_upto_region 2 with (fail)
 generalize ((w.alloc (.cells a.cs 43)).alloc (.cells #[.int .u64 0, .int .u64 0, .int .u64 0, .int .u64 0, .int .i64 0, .string ⟨#[]⟩, .string ⟨#[]⟩, .int .u64 0, .int .u64 0] 38)).alloc (.cells #[.int .i64 a.op.kind, .string (str a.op.key), .string (str a.op.val), .int .u64 a.op.ttl, .int .u64 a.op.ver] 36) = w1 at *
 have n1 : w.heap.size ≠ w.heap.size + 2 := by omega
 have n2 : w.heap.size + 1 ≠ w.heap.size + 2 := by omega
 have g1 : w.heap.size ≤ w.heap.size + 1 := by omega
 have g2 : w.heap.size ≤ w.heap.size + 2 := by omega
 have g0 : w.heap.size ≤ w.heap.size := by omega
 generalize hp1 : w.heap.size + 1 = p1 at *
 generalize hp2 : w.heap.size + 2 = p2 at *
 generalize hp0 : w.heap.size = p at hA hRb hO n1 ⊢
 clear e1 e2 hp1 hp2 hp0 g0
 by_cases a1 : 70 < a.op.key.length
 case pos =>
  have d1 : decide ((70 : Int) < (a.op.key.length : Int)) = true := decide_eq_true (by omega)
  have f1 : (70 : Int) < (a.op.key.length : Int) := by omega
  by_cases a2 : 1200 < a.op.val.length
  case pos =>
   have d2 : decide ((1200 : Int) < (a.op.val.length : Int)) = true := decide_eq_true (by omega)
   have f2 : (1200 : Int) < (a.op.val.length : Int) := by omega
   by_cases a3 : a.ticks ≤ 100
   case pos =>
    have d3 : decide ((a.ticks : Int) ≤ 100) = true := decide_eq_true (by omega)
    have f3 : (a.ticks : Int) ≤ 100 := by omega
    have x0 : w1.cell? ⟨p, 0, none⟩ = some (.int .u64 a.ticks) := hA.cell 0
    have x1 : w1.cell? ⟨p, 1, none⟩ = some (.int .u64 a.ses) := hA.cell 1
    have x2 : w1.cell? ⟨p, 2, none⟩ = some (.int .u64 a.num) := hA.cell 2
    have x3 : w1.cell? ⟨p, 3, none⟩ = some (.int .i64 a.op.kind) := hA.cell 3
    have x4 : w1.cell? ⟨p, 4, none⟩ = some (.string (str a.op.key)) := hA.cell 4
    have x5 : w1.cell? ⟨p, 5, none⟩ = some (.string (str a.op.val)) := hA.cell 5
    have x6 : w1.cell? ⟨p, 6, none⟩ = some (.int .u64 a.op.ttl) := hA.cell 6
    have x7 : w1.cell? ⟨p, 7, none⟩ = some (.int .u64 a.op.ver) := hA.cell 7
    have x8 : w1.cell? ⟨p, 8, none⟩ = some (.int .i64 a.skip) := hA.cell 8
    have y0 : w1.cell? ⟨p2, 0, none⟩ = some (.int .i64 a.op.kind) := hO.cell 0
    have y1 : w1.cell? ⟨p2, 1, none⟩ = some (.string (str a.op.key)) := hO.cell 1
    have y2 : w1.cell? ⟨p2, 2, none⟩ = some (.string (str a.op.val)) := hO.cell 2
    have y3 : w1.cell? ⟨p2, 3, none⟩ = some (.int .u64 a.op.ttl) := hO.cell 3
    have y4 : w1.cell? ⟨p2, 4, none⟩ = some (.int .u64 a.op.ver) := hO.cell 4
    have z0 : w1.cell? ⟨p1, 0, none⟩ = some (.int .u64 0) := hRb.cell 0
    have z1 : w1.cell? ⟨p1, 1, none⟩ = some (.int .u64 0) := hRb.cell 1
    have z2 : w1.cell? ⟨p1, 2, none⟩ = some (.int .u64 0) := hRb.cell 2
    have z3 : w1.cell? ⟨p1, 3, none⟩ = some (.int .u64 0) := hRb.cell 3
    have z4 : w1.cell? ⟨p1, 4, none⟩ = some (.int .i64 0) := hRb.cell 4
    have z5 : w1.cell? ⟨p1, 5, none⟩ = some (.string ⟨#[]⟩) := hRb.cell 5
    have z6 : w1.cell? ⟨p1, 6, none⟩ = some (.string ⟨#[]⟩) := hRb.cell 6
    have z7 : w1.cell? ⟨p1, 7, none⟩ = some (.int .u64 0) := hRb.cell 7
    have z8 : w1.cell? ⟨p1, 8, none⟩ = some (.int .u64 0) := hRb.cell 8
    have fz0 := hRb.free 0
    have fz1 := hRb.free 1
    have fz2 := hRb.free 2
    have fz3 := hRb.free 3
    have fz4 := hRb.free 4
    have fz5 := hRb.free 5
    have fz6 := hRb.free 6
    have fz7 := hRb.free 7
    have fz8 := hRb.free 8
    have fy1 := hO.free 1
    have fy2 := hO.free 2
    have hfin : Blk (((((((((((w1.setCell ⟨p2, 1, none⟩ (.string (str (a.op.key.take 70)))).setCell ⟨p2, 2, none⟩ (.string (str (a.op.val.take 1200)))).setCell ⟨p1, 0, none⟩ (.int .u64 ((seq : Int) + 1 + (n3 : Int) / 3))).setCell ⟨p1, 1, none⟩ (.int .u64 ((now : Int) + (a.ticks : Int)))).setCell ⟨p1, 2, none⟩ (.int .u64 n7)).setCell ⟨p1, 3, none⟩ (.int .u64 n31)).setCell ⟨p1, 4, none⟩ (.int .i64 a.op.kind)).setCell ⟨p1, 5, none⟩ (.string (str (a.op.key.take 70)))).setCell ⟨p1, 6, none⟩ (.string (str (a.op.val.take 1200)))).setCell ⟨p1, 7, none⟩ (.int .u64 a.op.ttl)).setCell ⟨p1, 8, none⟩ (.int .u64 a.op.ver)) p1 38 #[.int .u64 ((seq : Int) + 1 + (n3 : Int) / 3), .int .u64 ((now : Int) + (a.ticks : Int)), .int .u64 n7, .int .u64 n31, .int .i64 a.op.kind, .string (str (a.op.key.take 70)), .string (str (a.op.val.take 1200)), .int .u64 a.op.ttl, .int .u64 a.op.ver] := put9 (Blk.far (Blk.far hRb (p := ⟨p2, 1, none⟩) n2 _) (p := ⟨p2, 2, none⟩) n2 _) (.int .u64 ((seq : Int) + 1 + (n3 : Int) / 3)) (.int .u64 ((now : Int) + (a.ticks : Int))) (.int .u64 n7) (.int .u64 n31) (.int .i64 a.op.kind) (.string (str (a.op.key.take 70))) (.string (str (a.op.val.take 1200))) (.int .u64 a.op.ttl) (.int .u64 a.op.ver)
    have hbel : Below w.heap.size w (((((((((((w1.setCell ⟨p2, 1, none⟩ (.string (str (a.op.key.take 70)))).setCell ⟨p2, 2, none⟩ (.string (str (a.op.val.take 1200)))).setCell ⟨p1, 0, none⟩ (.int .u64 ((seq : Int) + 1 + (n3 : Int) / 3))).setCell ⟨p1, 1, none⟩ (.int .u64 ((now : Int) + (a.ticks : Int)))).setCell ⟨p1, 2, none⟩ (.int .u64 n7)).setCell ⟨p1, 3, none⟩ (.int .u64 n31)).setCell ⟨p1, 4, none⟩ (.int .i64 a.op.kind)).setCell ⟨p1, 5, none⟩ (.string (str (a.op.key.take 70)))).setCell ⟨p1, 6, none⟩ (.string (str (a.op.val.take 1200)))).setCell ⟨p1, 7, none⟩ (.int .u64 a.op.ttl)).setCell ⟨p1, 8, none⟩ (.int .u64 a.op.ver)) := below9 (Below.setCell (Below.setCell hb (p := ⟨p2, 1, none⟩) g2 _) (p := ⟨p2, 2, none⟩) g2 _) g1 (.int .u64 ((seq : Int) + 1 + (n3 : Int) / 3)) (.int .u64 ((now : Int) + (a.ticks : Int))) (.int .u64 n7) (.int .u64 n31) (.int .i64 a.op.kind) (.string (str (a.op.key.take 70))) (.string (str (a.op.val.take 1200))) (.int .u64 a.op.ttl) (.int .u64 a.op.ver)
    have HF := Lib.hid hfin
    have HB := Lib.hid hbel
    clear hfin hbel hA hRb hO hb g1 g2
    go_wp2_with fail
    have hrec : recOf seq now a = ⟨seq + 1 + n3 / 3, now + a.ticks, n7, n31, ⟨a.op.kind, a.op.key.take 70, a.op.val.take 1200, a.op.ttl, a.op.ver⟩⟩ := by rw [HR.out, hnx.out, hcut.out, if_pos a3, if_pos a1, if_pos a2]
    have hnx2 : nextOf now a = now + a.ticks := by rw [hnx.out, if_pos a3]
    exact bodyPost_ret (Taby.results_row_tmp rfl _ _ p1 rfl (run_loadVar_row _ _ _ _ _ _ _ HF.out Tryz.underlying38 rfl (by kernel_rfl))) rfl ⟨by rw [hrec, hnx2]; rfl, HB.out⟩
   case neg =>
    have d3 : decide ((a.ticks : Int) ≤ 100) = false := decide_eq_false (by omega)
    have f3 : ¬ (a.ticks : Int) ≤ 100 := by omega
    have x0 : w1.cell? ⟨p, 0, none⟩ = some (.int .u64 a.ticks) := hA.cell 0
    have x1 : w1.cell? ⟨p, 1, none⟩ = some (.int .u64 a.ses) := hA.cell 1
    have x2 : w1.cell? ⟨p, 2, none⟩ = some (.int .u64 a.num) := hA.cell 2
    have x3 : w1.cell? ⟨p, 3, none⟩ = some (.int .i64 a.op.kind) := hA.cell 3
    have x4 : w1.cell? ⟨p, 4, none⟩ = some (.string (str a.op.key)) := hA.cell 4
    have x5 : w1.cell? ⟨p, 5, none⟩ = some (.string (str a.op.val)) := hA.cell 5
    have x6 : w1.cell? ⟨p, 6, none⟩ = some (.int .u64 a.op.ttl) := hA.cell 6
    have x7 : w1.cell? ⟨p, 7, none⟩ = some (.int .u64 a.op.ver) := hA.cell 7
    have x8 : w1.cell? ⟨p, 8, none⟩ = some (.int .i64 a.skip) := hA.cell 8
    have y0 : w1.cell? ⟨p2, 0, none⟩ = some (.int .i64 a.op.kind) := hO.cell 0
    have y1 : w1.cell? ⟨p2, 1, none⟩ = some (.string (str a.op.key)) := hO.cell 1
    have y2 : w1.cell? ⟨p2, 2, none⟩ = some (.string (str a.op.val)) := hO.cell 2
    have y3 : w1.cell? ⟨p2, 3, none⟩ = some (.int .u64 a.op.ttl) := hO.cell 3
    have y4 : w1.cell? ⟨p2, 4, none⟩ = some (.int .u64 a.op.ver) := hO.cell 4
    have z0 : w1.cell? ⟨p1, 0, none⟩ = some (.int .u64 0) := hRb.cell 0
    have z1 : w1.cell? ⟨p1, 1, none⟩ = some (.int .u64 0) := hRb.cell 1
    have z2 : w1.cell? ⟨p1, 2, none⟩ = some (.int .u64 0) := hRb.cell 2
    have z3 : w1.cell? ⟨p1, 3, none⟩ = some (.int .u64 0) := hRb.cell 3
    have z4 : w1.cell? ⟨p1, 4, none⟩ = some (.int .i64 0) := hRb.cell 4
    have z5 : w1.cell? ⟨p1, 5, none⟩ = some (.string ⟨#[]⟩) := hRb.cell 5
    have z6 : w1.cell? ⟨p1, 6, none⟩ = some (.string ⟨#[]⟩) := hRb.cell 6
    have z7 : w1.cell? ⟨p1, 7, none⟩ = some (.int .u64 0) := hRb.cell 7
    have z8 : w1.cell? ⟨p1, 8, none⟩ = some (.int .u64 0) := hRb.cell 8
    have fz0 := hRb.free 0
    have fz1 := hRb.free 1
    have fz2 := hRb.free 2
    have fz3 := hRb.free 3
    have fz4 := hRb.free 4
    have fz5 := hRb.free 5
    have fz6 := hRb.free 6
    have fz7 := hRb.free 7
    have fz8 := hRb.free 8
    have fy1 := hO.free 1
    have fy2 := hO.free 2
    have hfin : Blk (((((((((((w1.setCell ⟨p2, 1, none⟩ (.string (str (a.op.key.take 70)))).setCell ⟨p2, 2, none⟩ (.string (str (a.op.val.take 1200)))).setCell ⟨p1, 0, none⟩ (.int .u64 ((seq : Int) + 1 + (n3 : Int) / 3))).setCell ⟨p1, 1, none⟩ (.int .u64 now)).setCell ⟨p1, 2, none⟩ (.int .u64 n7)).setCell ⟨p1, 3, none⟩ (.int .u64 n31)).setCell ⟨p1, 4, none⟩ (.int .i64 a.op.kind)).setCell ⟨p1, 5, none⟩ (.string (str (a.op.key.take 70)))).setCell ⟨p1, 6, none⟩ (.string (str (a.op.val.take 1200)))).setCell ⟨p1, 7, none⟩ (.int .u64 a.op.ttl)).setCell ⟨p1, 8, none⟩ (.int .u64 a.op.ver)) p1 38 #[.int .u64 ((seq : Int) + 1 + (n3 : Int) / 3), .int .u64 now, .int .u64 n7, .int .u64 n31, .int .i64 a.op.kind, .string (str (a.op.key.take 70)), .string (str (a.op.val.take 1200)), .int .u64 a.op.ttl, .int .u64 a.op.ver] := put9 (Blk.far (Blk.far hRb (p := ⟨p2, 1, none⟩) n2 _) (p := ⟨p2, 2, none⟩) n2 _) (.int .u64 ((seq : Int) + 1 + (n3 : Int) / 3)) (.int .u64 now) (.int .u64 n7) (.int .u64 n31) (.int .i64 a.op.kind) (.string (str (a.op.key.take 70))) (.string (str (a.op.val.take 1200))) (.int .u64 a.op.ttl) (.int .u64 a.op.ver)
    have hbel : Below w.heap.size w (((((((((((w1.setCell ⟨p2, 1, none⟩ (.string (str (a.op.key.take 70)))).setCell ⟨p2, 2, none⟩ (.string (str (a.op.val.take 1200)))).setCell ⟨p1, 0, none⟩ (.int .u64 ((seq : Int) + 1 + (n3 : Int) / 3))).setCell ⟨p1, 1, none⟩ (.int .u64 now)).setCell ⟨p1, 2, none⟩ (.int .u64 n7)).setCell ⟨p1, 3, none⟩ (.int .u64 n31)).setCell ⟨p1, 4, none⟩ (.int .i64 a.op.kind)).setCell ⟨p1, 5, none⟩ (.string (str (a.op.key.take 70)))).setCell ⟨p1, 6, none⟩ (.string (str (a.op.val.take 1200)))).setCell ⟨p1, 7, none⟩ (.int .u64 a.op.ttl)).setCell ⟨p1, 8, none⟩ (.int .u64 a.op.ver)) := below9 (Below.setCell (Below.setCell hb (p := ⟨p2, 1, none⟩) g2 _) (p := ⟨p2, 2, none⟩) g2 _) g1 (.int .u64 ((seq : Int) + 1 + (n3 : Int) / 3)) (.int .u64 now) (.int .u64 n7) (.int .u64 n31) (.int .i64 a.op.kind) (.string (str (a.op.key.take 70))) (.string (str (a.op.val.take 1200))) (.int .u64 a.op.ttl) (.int .u64 a.op.ver)
    have HF := Lib.hid hfin
    have HB := Lib.hid hbel
    clear hfin hbel hA hRb hO hb g1 g2
    go_wp2_with fail
    have hrec : recOf seq now a = ⟨seq + 1 + n3 / 3, now, n7, n31, ⟨a.op.kind, a.op.key.take 70, a.op.val.take 1200, a.op.ttl, a.op.ver⟩⟩ := by rw [HR.out, hnx.out, hcut.out, if_neg a3, if_pos a1, if_pos a2]
    have hnx2 : nextOf now a = now := by rw [hnx.out, if_neg a3]
    exact bodyPost_ret (Taby.results_row_tmp rfl _ _ p1 rfl (run_loadVar_row _ _ _ _ _ _ _ HF.out Tryz.underlying38 rfl (by kernel_rfl))) rfl ⟨by rw [hrec, hnx2]; rfl, HB.out⟩
  case neg =>
   have d2 : decide ((1200 : Int) < (a.op.val.length : Int)) = false := decide_eq_false (by omega)
   have f2 : ¬ (1200 : Int) < (a.op.val.length : Int) := by omega
   by_cases a3 : a.ticks ≤ 100
   case pos =>
    have d3 : decide ((a.ticks : Int) ≤ 100) = true := decide_eq_true (by omega)
    have f3 : (a.ticks : Int) ≤ 100 := by omega
    have x0 : w1.cell? ⟨p, 0, none⟩ = some (.int .u64 a.ticks) := hA.cell 0
    have x1 : w1.cell? ⟨p, 1, none⟩ = some (.int .u64 a.ses) := hA.cell 1
    have x2 : w1.cell? ⟨p, 2, none⟩ = some (.int .u64 a.num) := hA.cell 2
    have x3 : w1.cell? ⟨p, 3, none⟩ = some (.int .i64 a.op.kind) := hA.cell 3
    have x4 : w1.cell? ⟨p, 4, none⟩ = some (.string (str a.op.key)) := hA.cell 4
    have x5 : w1.cell? ⟨p, 5, none⟩ = some (.string (str a.op.val)) := hA.cell 5
    have x6 : w1.cell? ⟨p, 6, none⟩ = some (.int .u64 a.op.ttl) := hA.cell 6
    have x7 : w1.cell? ⟨p, 7, none⟩ = some (.int .u64 a.op.ver) := hA.cell 7
    have x8 : w1.cell? ⟨p, 8, none⟩ = some (.int .i64 a.skip) := hA.cell 8
    have y0 : w1.cell? ⟨p2, 0, none⟩ = some (.int .i64 a.op.kind) := hO.cell 0
    have y1 : w1.cell? ⟨p2, 1, none⟩ = some (.string (str a.op.key)) := hO.cell 1
    have y2 : w1.cell? ⟨p2, 2, none⟩ = some (.string (str a.op.val)) := hO.cell 2
    have y3 : w1.cell? ⟨p2, 3, none⟩ = some (.int .u64 a.op.ttl) := hO.cell 3
    have y4 : w1.cell? ⟨p2, 4, none⟩ = some (.int .u64 a.op.ver) := hO.cell 4
    have z0 : w1.cell? ⟨p1, 0, none⟩ = some (.int .u64 0) := hRb.cell 0
    have z1 : w1.cell? ⟨p1, 1, none⟩ = some (.int .u64 0) := hRb.cell 1
    have z2 : w1.cell? ⟨p1, 2, none⟩ = some (.int .u64 0) := hRb.cell 2
    have z3 : w1.cell? ⟨p1, 3, none⟩ = some (.int .u64 0) := hRb.cell 3
    have z4 : w1.cell? ⟨p1, 4, none⟩ = some (.int .i64 0) := hRb.cell 4
    have z5 : w1.cell? ⟨p1, 5, none⟩ = some (.string ⟨#[]⟩) := hRb.cell 5
    have z6 : w1.cell? ⟨p1, 6, none⟩ = some (.string ⟨#[]⟩) := hRb.cell 6
    have z7 : w1.cell? ⟨p1, 7, none⟩ = some (.int .u64 0) := hRb.cell 7
    have z8 : w1.cell? ⟨p1, 8, none⟩ = some (.int .u64 0) := hRb.cell 8
    have fz0 := hRb.free 0
    have fz1 := hRb.free 1
    have fz2 := hRb.free 2
    have fz3 := hRb.free 3
    have fz4 := hRb.free 4
    have fz5 := hRb.free 5
    have fz6 := hRb.free 6
    have fz7 := hRb.free 7
    have fz8 := hRb.free 8
    have fy1 := hO.free 1
    have fy2 := hO.free 2
    have hfin : Blk ((((((((((w1.setCell ⟨p2, 1, none⟩ (.string (str (a.op.key.take 70)))).setCell ⟨p1, 0, none⟩ (.int .u64 ((seq : Int) + 1 + (n3 : Int) / 3))).setCell ⟨p1, 1, none⟩ (.int .u64 ((now : Int) + (a.ticks : Int)))).setCell ⟨p1, 2, none⟩ (.int .u64 n7)).setCell ⟨p1, 3, none⟩ (.int .u64 n31)).setCell ⟨p1, 4, none⟩ (.int .i64 a.op.kind)).setCell ⟨p1, 5, none⟩ (.string (str (a.op.key.take 70)))).setCell ⟨p1, 6, none⟩ (.string (str a.op.val))).setCell ⟨p1, 7, none⟩ (.int .u64 a.op.ttl)).setCell ⟨p1, 8, none⟩ (.int .u64 a.op.ver)) p1 38 #[.int .u64 ((seq : Int) + 1 + (n3 : Int) / 3), .int .u64 ((now : Int) + (a.ticks : Int)), .int .u64 n7, .int .u64 n31, .int .i64 a.op.kind, .string (str (a.op.key.take 70)), .string (str a.op.val), .int .u64 a.op.ttl, .int .u64 a.op.ver] := put9 (Blk.far hRb (p := ⟨p2, 1, none⟩) n2 _) (.int .u64 ((seq : Int) + 1 + (n3 : Int) / 3)) (.int .u64 ((now : Int) + (a.ticks : Int))) (.int .u64 n7) (.int .u64 n31) (.int .i64 a.op.kind) (.string (str (a.op.key.take 70))) (.string (str a.op.val)) (.int .u64 a.op.ttl) (.int .u64 a.op.ver)
    have hbel : Below w.heap.size w ((((((((((w1.setCell ⟨p2, 1, none⟩ (.string (str (a.op.key.take 70)))).setCell ⟨p1, 0, none⟩ (.int .u64 ((seq : Int) + 1 + (n3 : Int) / 3))).setCell ⟨p1, 1, none⟩ (.int .u64 ((now : Int) + (a.ticks : Int)))).setCell ⟨p1, 2, none⟩ (.int .u64 n7)).setCell ⟨p1, 3, none⟩ (.int .u64 n31)).setCell ⟨p1, 4, none⟩ (.int .i64 a.op.kind)).setCell ⟨p1, 5, none⟩ (.string (str (a.op.key.take 70)))).setCell ⟨p1, 6, none⟩ (.string (str a.op.val))).setCell ⟨p1, 7, none⟩ (.int .u64 a.op.ttl)).setCell ⟨p1, 8, none⟩ (.int .u64 a.op.ver)) := below9 (Below.setCell hb (p := ⟨p2, 1, none⟩) g2 _) g1 (.int .u64 ((seq : Int) + 1 + (n3 : Int) / 3)) (.int .u64 ((now : Int) + (a.ticks : Int))) (.int .u64 n7) (.int .u64 n31) (.int .i64 a.op.kind) (.string (str (a.op.key.take 70))) (.string (str a.op.val)) (.int .u64 a.op.ttl) (.int .u64 a.op.ver)
    have HF := Lib.hid hfin
    have HB := Lib.hid hbel
    clear hfin hbel hA hRb hO hb g1 g2
    go_wp2_with fail
    have hrec : recOf seq now a = ⟨seq + 1 + n3 / 3, now + a.ticks, n7, n31, ⟨a.op.kind, a.op.key.take 70, a.op.val, a.op.ttl, a.op.ver⟩⟩ := by rw [HR.out, hnx.out, hcut.out, if_pos a3, if_pos a1, if_neg a2]
    have hnx2 : nextOf now a = now + a.ticks := by rw [hnx.out, if_pos a3]
    exact bodyPost_ret (Taby.results_row_tmp rfl _ _ p1 rfl (run_loadVar_row _ _ _ _ _ _ _ HF.out Tryz.underlying38 rfl (by kernel_rfl))) rfl ⟨by rw [hrec, hnx2]; rfl, HB.out⟩
   case neg =>
    have d3 : decide ((a.ticks : Int) ≤ 100) = false := decide_eq_false (by omega)
    have f3 : ¬ (a.ticks : Int) ≤ 100 := by omega
    have x0 : w1.cell? ⟨p, 0, none⟩ = some (.int .u64 a.ticks) := hA.cell 0
    have x1 : w1.cell? ⟨p, 1, none⟩ = some (.int .u64 a.ses) := hA.cell 1
    have x2 : w1.cell? ⟨p, 2, none⟩ = some (.int .u64 a.num) := hA.cell 2
    have x3 : w1.cell? ⟨p, 3, none⟩ = some (.int .i64 a.op.kind) := hA.cell 3
    have x4 : w1.cell? ⟨p, 4, none⟩ = some (.string (str a.op.key)) := hA.cell 4
    have x5 : w1.cell? ⟨p, 5, none⟩ = some (.string (str a.op.val)) := hA.cell 5
    have x6 : w1.cell? ⟨p, 6, none⟩ = some (.int .u64 a.op.ttl) := hA.cell 6
    have x7 : w1.cell? ⟨p, 7, none⟩ = some (.int .u64 a.op.ver) := hA.cell 7
    have x8 : w1.cell? ⟨p, 8, none⟩ = some (.int .i64 a.skip) := hA.cell 8
    have y0 : w1.cell? ⟨p2, 0, none⟩ = some (.int .i64 a.op.kind) := hO.cell 0
    have y1 : w1.cell? ⟨p2, 1, none⟩ = some (.string (str a.op.key)) := hO.cell 1
    have y2 : w1.cell? ⟨p2, 2, none⟩ = some (.string (str a.op.val)) := hO.cell 2
    have y3 : w1.cell? ⟨p2, 3, none⟩ = some (.int .u64 a.op.ttl) := hO.cell 3
    have y4 : w1.cell? ⟨p2, 4, none⟩ = some (.int .u64 a.op.ver) := hO.cell 4
    have z0 : w1.cell? ⟨p1, 0, none⟩ = some (.int .u64 0) := hRb.cell 0
    have z1 : w1.cell? ⟨p1, 1, none⟩ = some (.int .u64 0) := hRb.cell 1
    have z2 : w1.cell? ⟨p1, 2, none⟩ = some (.int .u64 0) := hRb.cell 2
    have z3 : w1.cell? ⟨p1, 3, none⟩ = some (.int .u64 0) := hRb.cell 3
    have z4 : w1.cell? ⟨p1, 4, none⟩ = some (.int .i64 0) := hRb.cell 4
    have z5 : w1.cell? ⟨p1, 5, none⟩ = some (.string ⟨#[]⟩) := hRb.cell 5
    have z6 : w1.cell? ⟨p1, 6, none⟩ = some (.string ⟨#[]⟩) := hRb.cell 6
    have z7 : w1.cell? ⟨p1, 7, none⟩ = some (.int .u64 0) := hRb.cell 7
    have z8 : w1.cell? ⟨p1, 8, none⟩ = some (.int .u64 0) := hRb.cell 8
    have fz0 := hRb.free 0
    have fz1 := hRb.free 1
    have fz2 := hRb.free 2
    have fz3 := hRb.free 3
    have fz4 := hRb.free 4
    have fz5 := hRb.free 5
    have fz6 := hRb.free 6
    have fz7 := hRb.free 7
    have fz8 := hRb.free 8
    have fy1 := hO.free 1
    have fy2 := hO.free 2
    have hfin : Blk ((((((((((w1.setCell ⟨p2, 1, none⟩ (.string (str (a.op.key.take 70)))).setCell ⟨p1, 0, none⟩ (.int .u64 ((seq : Int) + 1 + (n3 : Int) / 3))).setCell ⟨p1, 1, none⟩ (.int .u64 now)).setCell ⟨p1, 2, none⟩ (.int .u64 n7)).setCell ⟨p1, 3, none⟩ (.int .u64 n31)).setCell ⟨p1, 4, none⟩ (.int .i64 a.op.kind)).setCell ⟨p1, 5, none⟩ (.string (str (a.op.key.take 70)))).setCell ⟨p1, 6, none⟩ (.string (str a.op.val))).setCell ⟨p1, 7, none⟩ (.int .u64 a.op.ttl)).setCell ⟨p1, 8, none⟩ (.int .u64 a.op.ver)) p1 38 #[.int .u64 ((seq : Int) + 1 + (n3 : Int) / 3), .int .u64 now, .int .u64 n7, .int .u64 n31, .int .i64 a.op.kind, .string (str (a.op.key.take 70)), .string (str a.op.val), .int .u64 a.op.ttl, .int .u64 a.op.ver] := put9 (Blk.far hRb (p := ⟨p2, 1, none⟩) n2 _) (.int .u64 ((seq : Int) + 1 + (n3 : Int) / 3)) (.int .u64 now) (.int .u64 n7) (.int .u64 n31) (.int .i64 a.op.kind) (.string (str (a.op.key.take 70))) (.string (str a.op.val)) (.int .u64 a.op.ttl) (.int .u64 a.op.ver)
    have hbel : Below w.heap.size w ((((((((((w1.setCell ⟨p2, 1, none⟩ (.string (str (a.op.key.take 70)))).setCell ⟨p1, 0, none⟩ (.int .u64 ((seq : Int) + 1 + (n3 : Int) / 3))).setCell ⟨p1, 1, none⟩ (.int .u64 now)).setCell ⟨p1, 2, none⟩ (.int .u64 n7)).setCell ⟨p1, 3, none⟩ (.int .u64 n31)).setCell ⟨p1, 4, none⟩ (.int .i64 a.op.kind)).setCell ⟨p1, 5, none⟩ (.string (str (a.op.key.take 70)))).setCell ⟨p1, 6, none⟩ (.string (str a.op.val))).setCell ⟨p1, 7, none⟩ (.int .u64 a.op.ttl)).setCell ⟨p1, 8, none⟩ (.int .u64 a.op.ver)) := below9 (Below.setCell hb (p := ⟨p2, 1, none⟩) g2 _) g1 (.int .u64 ((seq : Int) + 1 + (n3 : Int) / 3)) (.int .u64 now) (.int .u64 n7) (.int .u64 n31) (.int .i64 a.op.kind) (.string (str (a.op.key.take 70))) (.string (str a.op.val)) (.int .u64 a.op.ttl) (.int .u64 a.op.ver)
    have HF := Lib.hid hfin
    have HB := Lib.hid hbel
    clear hfin hbel hA hRb hO hb g1 g2
    go_wp2_with fail
    have hrec : recOf seq now a = ⟨seq + 1 + n3 / 3, now, n7, n31, ⟨a.op.kind, a.op.key.take 70, a.op.val, a.op.ttl, a.op.ver⟩⟩ := by rw [HR.out, hnx.out, hcut.out, if_neg a3, if_pos a1, if_neg a2]
    have hnx2 : nextOf now a = now := by rw [hnx.out, if_neg a3]
    exact bodyPost_ret (Taby.results_row_tmp rfl _ _ p1 rfl (run_loadVar_row _ _ _ _ _ _ _ HF.out Tryz.underlying38 rfl (by kernel_rfl))) rfl ⟨by rw [hrec, hnx2]; rfl, HB.out⟩
 case neg =>
  have d1 : decide ((70 : Int) < (a.op.key.length : Int)) = false := decide_eq_false (by omega)
  have f1 : ¬ (70 : Int) < (a.op.key.length : Int) := by omega
  by_cases a2 : 1200 < a.op.val.length
  case pos =>
   have d2 : decide ((1200 : Int) < (a.op.val.length : Int)) = true := decide_eq_true (by omega)
   have f2 : (1200 : Int) < (a.op.val.length : Int) := by omega
   by_cases a3 : a.ticks ≤ 100
   case pos =>
    have d3 : decide ((a.ticks : Int) ≤ 100) = true := decide_eq_true (by omega)
    have f3 : (a.ticks : Int) ≤ 100 := by omega
    have x0 : w1.cell? ⟨p, 0, none⟩ = some (.int .u64 a.ticks) := hA.cell 0
    have x1 : w1.cell? ⟨p, 1, none⟩ = some (.int .u64 a.ses) := hA.cell 1
    have x2 : w1.cell? ⟨p, 2, none⟩ = some (.int .u64 a.num) := hA.cell 2
    have x3 : w1.cell? ⟨p, 3, none⟩ = some (.int .i64 a.op.kind) := hA.cell 3
    have x4 : w1.cell? ⟨p, 4, none⟩ = some (.string (str a.op.key)) := hA.cell 4
    have x5 : w1.cell? ⟨p, 5, none⟩ = some (.string (str a.op.val)) := hA.cell 5
    have x6 : w1.cell? ⟨p, 6, none⟩ = some (.int .u64 a.op.ttl) := hA.cell 6
    have x7 : w1.cell? ⟨p, 7, none⟩ = some (.int .u64 a.op.ver) := hA.cell 7
    have x8 : w1.cell? ⟨p, 8, none⟩ = some (.int .i64 a.skip) := hA.cell 8
    have y0 : w1.cell? ⟨p2, 0, none⟩ = some (.int .i64 a.op.kind) := hO.cell 0
    have y1 : w1.cell? ⟨p2, 1, none⟩ = some (.string (str a.op.key)) := hO.cell 1
    have y2 : w1.cell? ⟨p2, 2, none⟩ = some (.string (str a.op.val)) := hO.cell 2
    have y3 : w1.cell? ⟨p2, 3, none⟩ = some (.int .u64 a.op.ttl) := hO.cell 3
    have y4 : w1.cell? ⟨p2, 4, none⟩ = some (.int .u64 a.op.ver) := hO.cell 4
    have z0 : w1.cell? ⟨p1, 0, none⟩ = some (.int .u64 0) := hRb.cell 0
    have z1 : w1.cell? ⟨p1, 1, none⟩ = some (.int .u64 0) := hRb.cell 1
    have z2 : w1.cell? ⟨p1, 2, none⟩ = some (.int .u64 0) := hRb.cell 2
    have z3 : w1.cell? ⟨p1, 3, none⟩ = some (.int .u64 0) := hRb.cell 3
    have z4 : w1.cell? ⟨p1, 4, none⟩ = some (.int .i64 0) := hRb.cell 4
    have z5 : w1.cell? ⟨p1, 5, none⟩ = some (.string ⟨#[]⟩) := hRb.cell 5
    have z6 : w1.cell? ⟨p1, 6, none⟩ = some (.string ⟨#[]⟩) := hRb.cell 6
    have z7 : w1.cell? ⟨p1, 7, none⟩ = some (.int .u64 0) := hRb.cell 7
    have z8 : w1.cell? ⟨p1, 8, none⟩ = some (.int .u64 0) := hRb.cell 8
    have fz0 := hRb.free 0
    have fz1 := hRb.free 1
    have fz2 := hRb.free 2
    have fz3 := hRb.free 3
    have fz4 := hRb.free 4
    have fz5 := hRb.free 5
    have fz6 := hRb.free 6
    have fz7 := hRb.free 7
    have fz8 := hRb.free 8
    have fy1 := hO.free 1
    have fy2 := hO.free 2
    have hfin : Blk ((((((((((w1.setCell ⟨p2, 2, none⟩ (.string (str (a.op.val.take 1200)))).setCell ⟨p1, 0, none⟩ (.int .u64 ((seq : Int) + 1 + (n3 : Int) / 3))).setCell ⟨p1, 1, none⟩ (.int .u64 ((now : Int) + (a.ticks : Int)))).setCell ⟨p1, 2, none⟩ (.int .u64 n7)).setCell ⟨p1, 3, none⟩ (.int .u64 n31)).setCell ⟨p1, 4, none⟩ (.int .i64 a.op.kind)).setCell ⟨p1, 5, none⟩ (.string (str a.op.key))).setCell ⟨p1, 6, none⟩ (.string (str (a.op.val.take 1200)))).setCell ⟨p1, 7, none⟩ (.int .u64 a.op.ttl)).setCell ⟨p1, 8, none⟩ (.int .u64 a.op.ver)) p1 38 #[.int .u64 ((seq : Int) + 1 + (n3 : Int) / 3), .int .u64 ((now : Int) + (a.ticks : Int)), .int .u64 n7, .int .u64 n31, .int .i64 a.op.kind, .string (str a.op.key), .string (str (a.op.val.take 1200)), .int .u64 a.op.ttl, .int .u64 a.op.ver] := put9 (Blk.far hRb (p := ⟨p2, 2, none⟩) n2 _) (.int .u64 ((seq : Int) + 1 + (n3 : Int) / 3)) (.int .u64 ((now : Int) + (a.ticks : Int))) (.int .u64 n7) (.int .u64 n31) (.int .i64 a.op.kind) (.string (str a.op.key)) (.string (str (a.op.val.take 1200))) (.int .u64 a.op.ttl) (.int .u64 a.op.ver)
    have hbel : Below w.heap.size w ((((((((((w1.setCell ⟨p2, 2, none⟩ (.string (str (a.op.val.take 1200)))).setCell ⟨p1, 0, none⟩ (.int .u64 ((seq : Int) + 1 + (n3 : Int) / 3))).setCell ⟨p1, 1, none⟩ (.int .u64 ((now : Int) + (a.ticks : Int)))).setCell ⟨p1, 2, none⟩ (.int .u64 n7)).setCell ⟨p1, 3, none⟩ (.int .u64 n31)).setCell ⟨p1, 4, none⟩ (.int .i64 a.op.kind)).setCell ⟨p1, 5, none⟩ (.string (str a.op.key))).setCell ⟨p1, 6, none⟩ (.string (str (a.op.val.take 1200)))).setCell ⟨p1, 7, none⟩ (.int .u64 a.op.ttl)).setCell ⟨p1, 8, none⟩ (.int .u64 a.op.ver)) := below9 (Below.setCell hb (p := ⟨p2, 2, none⟩) g2 _) g1 (.int .u64 ((seq : Int) + 1 + (n3 : Int) / 3)) (.int .u64 ((now : Int) + (a.ticks : Int))) (.int .u64 n7) (.int .u64 n31) (.int .i64 a.op.kind) (.string (str a.op.key)) (.string (str (a.op.val.take 1200))) (.int .u64 a.op.ttl) (.int .u64 a.op.ver)
    have HF := Lib.hid hfin
    have HB := Lib.hid hbel
    clear hfin hbel hA hRb hO hb g1 g2
    go_wp2_with fail
    have hrec : recOf seq now a = ⟨seq + 1 + n3 / 3, now + a.ticks, n7, n31, ⟨a.op.kind, a.op.key, a.op.val.take 1200, a.op.ttl, a.op.ver⟩⟩ := by rw [HR.out, hnx.out, hcut.out, if_pos a3, if_neg a1, if_pos a2]
    have hnx2 : nextOf now a = now + a.ticks := by rw [hnx.out, if_pos a3]
    exact bodyPost_ret (Taby.results_row_tmp rfl _ _ p1 rfl (run_loadVar_row _ _ _ _ _ _ _ HF.out Tryz.underlying38 rfl (by kernel_rfl))) rfl ⟨by rw [hrec, hnx2]; rfl, HB.out⟩
   case neg =>
    have d3 : decide ((a.ticks : Int) ≤ 100) = false := decide_eq_false (by omega)
    have f3 : ¬ (a.ticks : Int) ≤ 100 := by omega
    have x0 : w1.cell? ⟨p, 0, none⟩ = some (.int .u64 a.ticks) := hA.cell 0
    have x1 : w1.cell? ⟨p, 1, none⟩ = some (.int .u64 a.ses) := hA.cell 1
    have x2 : w1.cell? ⟨p, 2, none⟩ = some (.int .u64 a.num) := hA.cell 2
    have x3 : w1.cell? ⟨p, 3, none⟩ = some (.int .i64 a.op.kind) := hA.cell 3
    have x4 : w1.cell? ⟨p, 4, none⟩ = some (.string (str a.op.key)) := hA.cell 4
    have x5 : w1.cell? ⟨p, 5, none⟩ = some (.string (str a.op.val)) := hA.cell 5
    have x6 : w1.cell? ⟨p, 6, none⟩ = some (.int .u64 a.op.ttl) := hA.cell 6
    have x7 : w1.cell? ⟨p, 7, none⟩ = some (.int .u64 a.op.ver) := hA.cell 7
    have x8 : w1.cell? ⟨p, 8, none⟩ = some (.int .i64 a.skip) := hA.cell 8
    have y0 : w1.cell? ⟨p2, 0, none⟩ = some (.int .i64 a.op.kind) := hO.cell 0
    have y1 : w1.cell? ⟨p2, 1, none⟩ = some (.string (str a.op.key)) := hO.cell 1
    have y2 : w1.cell? ⟨p2, 2, none⟩ = some (.string (str a.op.val)) := hO.cell 2
    have y3 : w1.cell? ⟨p2, 3, none⟩ = some (.int .u64 a.op.ttl) := hO.cell 3
    have y4 : w1.cell? ⟨p2, 4, none⟩ = some (.int .u64 a.op.ver) := hO.cell 4
    have z0 : w1.cell? ⟨p1, 0, none⟩ = some (.int .u64 0) := hRb.cell 0
    have z1 : w1.cell? ⟨p1, 1, none⟩ = some (.int .u64 0) := hRb.cell 1
    have z2 : w1.cell? ⟨p1, 2, none⟩ = some (.int .u64 0) := hRb.cell 2
    have z3 : w1.cell? ⟨p1, 3, none⟩ = some (.int .u64 0) := hRb.cell 3
    have z4 : w1.cell? ⟨p1, 4, none⟩ = some (.int .i64 0) := hRb.cell 4
    have z5 : w1.cell? ⟨p1, 5, none⟩ = some (.string ⟨#[]⟩) := hRb.cell 5
    have z6 : w1.cell? ⟨p1, 6, none⟩ = some (.string ⟨#[]⟩) := hRb.cell 6
    have z7 : w1.cell? ⟨p1, 7, none⟩ = some (.int .u64 0) := hRb.cell 7
    have z8 : w1.cell? ⟨p1, 8, none⟩ = some (.int .u64 0) := hRb.cell 8
    have fz0 := hRb.free 0
    have fz1 := hRb.free 1
    have fz2 := hRb.free 2
    have fz3 := hRb.free 3
    have fz4 := hRb.free 4
    have fz5 := hRb.free 5
    have fz6 := hRb.free 6
    have fz7 := hRb.free 7
    have fz8 := hRb.free 8
    have fy1 := hO.free 1
    have fy2 := hO.free 2
    have hfin : Blk ((((((((((w1.setCell ⟨p2, 2, none⟩ (.string (str (a.op.val.take 1200)))).setCell ⟨p1, 0, none⟩ (.int .u64 ((seq : Int) + 1 + (n3 : Int) / 3))).setCell ⟨p1, 1, none⟩ (.int .u64 now)).setCell ⟨p1, 2, none⟩ (.int .u64 n7)).setCell ⟨p1, 3, none⟩ (.int .u64 n31)).setCell ⟨p1, 4, none⟩ (.int .i64 a.op.kind)).setCell ⟨p1, 5, none⟩ (.string (str a.op.key))).setCell ⟨p1, 6, none⟩ (.string (str (a.op.val.take 1200)))).setCell ⟨p1, 7, none⟩ (.int .u64 a.op.ttl)).setCell ⟨p1, 8, none⟩ (.int .u64 a.op.ver)) p1 38 #[.int .u64 ((seq : Int) + 1 + (n3 : Int) / 3), .int .u64 now, .int .u64 n7, .int .u64 n31, .int .i64 a.op.kind, .string (str a.op.key), .string (str (a.op.val.take 1200)), .int .u64 a.op.ttl, .int .u64 a.op.ver] := put9 (Blk.far hRb (p := ⟨p2, 2, none⟩) n2 _) (.int .u64 ((seq : Int) + 1 + (n3 : Int) / 3)) (.int .u64 now) (.int .u64 n7) (.int .u64 n31) (.int .i64 a.op.kind) (.string (str a.op.key)) (.string (str (a.op.val.take 1200))) (.int .u64 a.op.ttl) (.int .u64 a.op.ver)
    have hbel : Below w.heap.size w ((((((((((w1.setCell ⟨p2, 2, none⟩ (.string (str (a.op.val.take 1200)))).setCell ⟨p1, 0, none⟩ (.int .u64 ((seq : Int) + 1 + (n3 : Int) / 3))).setCell ⟨p1, 1, none⟩ (.int .u64 now)).setCell ⟨p1, 2, none⟩ (.int .u64 n7)).setCell ⟨p1, 3, none⟩ (.int .u64 n31)).setCell ⟨p1, 4, none⟩ (.int .i64 a.op.kind)).setCell ⟨p1, 5, none⟩ (.string (str a.op.key))).setCell ⟨p1, 6, none⟩ (.string (str (a.op.val.take 1200)))).setCell ⟨p1, 7, none⟩ (.int .u64 a.op.ttl)).setCell ⟨p1, 8, none⟩ (.int .u64 a.op.ver)) := below9 (Below.setCell hb (p := ⟨p2, 2, none⟩) g2 _) g1 (.int .u64 ((seq : Int) + 1 + (n3 : Int) / 3)) (.int .u64 now) (.int .u64 n7) (.int .u64 n31) (.int .i64 a.op.kind) (.string (str a.op.key)) (.string (str (a.op.val.take 1200))) (.int .u64 a.op.ttl) (.int .u64 a.op.ver)
    have HF := Lib.hid hfin
    have HB := Lib.hid hbel
    clear hfin hbel hA hRb hO hb g1 g2
    go_wp2_with fail
    have hrec : recOf seq now a = ⟨seq + 1 + n3 / 3, now, n7, n31, ⟨a.op.kind, a.op.key, a.op.val.take 1200, a.op.ttl, a.op.ver⟩⟩ := by rw [HR.out, hnx.out, hcut.out, if_neg a3, if_neg a1, if_pos a2]
    have hnx2 : nextOf now a = now := by rw [hnx.out, if_neg a3]
    exact bodyPost_ret (Taby.results_row_tmp rfl _ _ p1 rfl (run_loadVar_row _ _ _ _ _ _ _ HF.out Tryz.underlying38 rfl (by kernel_rfl))) rfl ⟨by rw [hrec, hnx2]; rfl, HB.out⟩
  case neg =>
   have d2 : decide ((1200 : Int) < (a.op.val.length : Int)) = false := decide_eq_false (by omega)
   have f2 : ¬ (1200 : Int) < (a.op.val.length : Int) := by omega
   by_cases a3 : a.ticks ≤ 100
   case pos =>
    have d3 : decide ((a.ticks : Int) ≤ 100) = true := decide_eq_true (by omega)
    have f3 : (a.ticks : Int) ≤ 100 := by omega
    have x0 : w1.cell? ⟨p, 0, none⟩ = some (.int .u64 a.ticks) := hA.cell 0
    have x1 : w1.cell? ⟨p, 1, none⟩ = some (.int .u64 a.ses) := hA.cell 1
    have x2 : w1.cell? ⟨p, 2, none⟩ = some (.int .u64 a.num) := hA.cell 2
    have x3 : w1.cell? ⟨p, 3, none⟩ = some (.int .i64 a.op.kind) := hA.cell 3
    have x4 : w1.cell? ⟨p, 4, none⟩ = some (.string (str a.op.key)) := hA.cell 4
    have x5 : w1.cell? ⟨p, 5, none⟩ = some (.string (str a.op.val)) := hA.cell 5
    have x6 : w1.cell? ⟨p, 6, none⟩ = some (.int .u64 a.op.ttl) := hA.cell 6
    have x7 : w1.cell? ⟨p, 7, none⟩ = some (.int .u64 a.op.ver) := hA.cell 7
    have x8 : w1.cell? ⟨p, 8, none⟩ = some (.int .i64 a.skip) := hA.cell 8
    have y0 : w1.cell? ⟨p2, 0, none⟩ = some (.int .i64 a.op.kind) := hO.cell 0
    have y1 : w1.cell? ⟨p2, 1, none⟩ = some (.string (str a.op.key)) := hO.cell 1
    have y2 : w1.cell? ⟨p2, 2, none⟩ = some (.string (str a.op.val)) := hO.cell 2
    have y3 : w1.cell? ⟨p2, 3, none⟩ = some (.int .u64 a.op.ttl) := hO.cell 3
    have y4 : w1.cell? ⟨p2, 4, none⟩ = some (.int .u64 a.op.ver) := hO.cell 4
    have z0 : w1.cell? ⟨p1, 0, none⟩ = some (.int .u64 0) := hRb.cell 0
    have z1 : w1.cell? ⟨p1, 1, none⟩ = some (.int .u64 0) := hRb.cell 1
    have z2 : w1.cell? ⟨p1, 2, none⟩ = some (.int .u64 0) := hRb.cell 2
    have z3 : w1.cell? ⟨p1, 3, none⟩ = some (.int .u64 0) := hRb.cell 3
    have z4 : w1.cell? ⟨p1, 4, none⟩ = some (.int .i64 0) := hRb.cell 4
    have z5 : w1.cell? ⟨p1, 5, none⟩ = some (.string ⟨#[]⟩) := hRb.cell 5
    have z6 : w1.cell? ⟨p1, 6, none⟩ = some (.string ⟨#[]⟩) := hRb.cell 6
    have z7 : w1.cell? ⟨p1, 7, none⟩ = some (.int .u64 0) := hRb.cell 7
    have z8 : w1.cell? ⟨p1, 8, none⟩ = some (.int .u64 0) := hRb.cell 8
    have fz0 := hRb.free 0
    have fz1 := hRb.free 1
    have fz2 := hRb.free 2
    have fz3 := hRb.free 3
    have fz4 := hRb.free 4
    have fz5 := hRb.free 5
    have fz6 := hRb.free 6
    have fz7 := hRb.free 7
    have fz8 := hRb.free 8
    have fy1 := hO.free 1
    have fy2 := hO.free 2
    have hfin : Blk (((((((((w1.setCell ⟨p1, 0, none⟩ (.int .u64 ((seq : Int) + 1 + (n3 : Int) / 3))).setCell ⟨p1, 1, none⟩ (.int .u64 ((now : Int) + (a.ticks : Int)))).setCell ⟨p1, 2, none⟩ (.int .u64 n7)).setCell ⟨p1, 3, none⟩ (.int .u64 n31)).setCell ⟨p1, 4, none⟩ (.int .i64 a.op.kind)).setCell ⟨p1, 5, none⟩ (.string (str a.op.key))).setCell ⟨p1, 6, none⟩ (.string (str a.op.val))).setCell ⟨p1, 7, none⟩ (.int .u64 a.op.ttl)).setCell ⟨p1, 8, none⟩ (.int .u64 a.op.ver)) p1 38 #[.int .u64 ((seq : Int) + 1 + (n3 : Int) / 3), .int .u64 ((now : Int) + (a.ticks : Int)), .int .u64 n7, .int .u64 n31, .int .i64 a.op.kind, .string (str a.op.key), .string (str a.op.val), .int .u64 a.op.ttl, .int .u64 a.op.ver] := put9 hRb (.int .u64 ((seq : Int) + 1 + (n3 : Int) / 3)) (.int .u64 ((now : Int) + (a.ticks : Int))) (.int .u64 n7) (.int .u64 n31) (.int .i64 a.op.kind) (.string (str a.op.key)) (.string (str a.op.val)) (.int .u64 a.op.ttl) (.int .u64 a.op.ver)
    have hbel : Below w.heap.size w (((((((((w1.setCell ⟨p1, 0, none⟩ (.int .u64 ((seq : Int) + 1 + (n3 : Int) / 3))).setCell ⟨p1, 1, none⟩ (.int .u64 ((now : Int) + (a.ticks : Int)))).setCell ⟨p1, 2, none⟩ (.int .u64 n7)).setCell ⟨p1, 3, none⟩ (.int .u64 n31)).setCell ⟨p1, 4, none⟩ (.int .i64 a.op.kind)).setCell ⟨p1, 5, none⟩ (.string (str a.op.key))).setCell ⟨p1, 6, none⟩ (.string (str a.op.val))).setCell ⟨p1, 7, none⟩ (.int .u64 a.op.ttl)).setCell ⟨p1, 8, none⟩ (.int .u64 a.op.ver)) := below9 hb g1 (.int .u64 ((seq : Int) + 1 + (n3 : Int) / 3)) (.int .u64 ((now : Int) + (a.ticks : Int))) (.int .u64 n7) (.int .u64 n31) (.int .i64 a.op.kind) (.string (str a.op.key)) (.string (str a.op.val)) (.int .u64 a.op.ttl) (.int .u64 a.op.ver)
    have HF := Lib.hid hfin
    have HB := Lib.hid hbel
    clear hfin hbel hA hRb hO hb g1 g2
    go_wp2_with fail
    have hrec : recOf seq now a = ⟨seq + 1 + n3 / 3, now + a.ticks, n7, n31, ⟨a.op.kind, a.op.key, a.op.val, a.op.ttl, a.op.ver⟩⟩ := by rw [HR.out, hnx.out, hcut.out, if_pos a3, if_neg a1, if_neg a2]
    have hnx2 : nextOf now a = now + a.ticks := by rw [hnx.out, if_pos a3]
    exact bodyPost_ret (Taby.results_row_tmp rfl _ _ p1 rfl (run_loadVar_row _ _ _ _ _ _ _ HF.out Tryz.underlying38 rfl (by kernel_rfl))) rfl ⟨by rw [hrec, hnx2]; rfl, HB.out⟩
   case neg =>
    have d3 : decide ((a.ticks : Int) ≤ 100) = false := decide_eq_false (by omega)
    have f3 : ¬ (a.ticks : Int) ≤ 100 := by omega
    have x0 : w1.cell? ⟨p, 0, none⟩ = some (.int .u64 a.ticks) := hA.cell 0
    have x1 : w1.cell? ⟨p, 1, none⟩ = some (.int .u64 a.ses) := hA.cell 1
    have x2 : w1.cell? ⟨p, 2, none⟩ = some (.int .u64 a.num) := hA.cell 2
    have x3 : w1.cell? ⟨p, 3, none⟩ = some (.int .i64 a.op.kind) := hA.cell 3
    have x4 : w1.cell? ⟨p, 4, none⟩ = some (.string (str a.op.key)) := hA.cell 4
    have x5 : w1.cell? ⟨p, 5, none⟩ = some (.string (str a.op.val)) := hA.cell 5
    have x6 : w1.cell? ⟨p, 6, none⟩ = some (.int .u64 a.op.ttl) := hA.cell 6
    have x7 : w1.cell? ⟨p, 7, none⟩ = some (.int .u64 a.op.ver) := hA.cell 7
    have x8 : w1.cell? ⟨p, 8, none⟩ = some (.int .i64 a.skip) := hA.cell 8
    have y0 : w1.cell? ⟨p2, 0, none⟩ = some (.int .i64 a.op.kind) := hO.cell 0
    have y1 : w1.cell? ⟨p2, 1, none⟩ = some (.string (str a.op.key)) := hO.cell 1
    have y2 : w1.cell? ⟨p2, 2, none⟩ = some (.string (str a.op.val)) := hO.cell 2
    have y3 : w1.cell? ⟨p2, 3, none⟩ = some (.int .u64 a.op.ttl) := hO.cell 3
    have y4 : w1.cell? ⟨p2, 4, none⟩ = some (.int .u64 a.op.ver) := hO.cell 4
    have z0 : w1.cell? ⟨p1, 0, none⟩ = some (.int .u64 0) := hRb.cell 0
    have z1 : w1.cell? ⟨p1, 1, none⟩ = some (.int .u64 0) := hRb.cell 1
    have z2 : w1.cell? ⟨p1, 2, none⟩ = some (.int .u64 0) := hRb.cell 2
    have z3 : w1.cell? ⟨p1, 3, none⟩ = some (.int .u64 0) := hRb.cell 3
    have z4 : w1.cell? ⟨p1, 4, none⟩ = some (.int .i64 0) := hRb.cell 4
    have z5 : w1.cell? ⟨p1, 5, none⟩ = some (.string ⟨#[]⟩) := hRb.cell 5
    have z6 : w1.cell? ⟨p1, 6, none⟩ = some (.string ⟨#[]⟩) := hRb.cell 6
    have z7 : w1.cell? ⟨p1, 7, none⟩ = some (.int .u64 0) := hRb.cell 7
    have z8 : w1.cell? ⟨p1, 8, none⟩ = some (.int .u64 0) := hRb.cell 8
    have fz0 := hRb.free 0
    have fz1 := hRb.free 1
    have fz2 := hRb.free 2
    have fz3 := hRb.free 3
    have fz4 := hRb.free 4
    have fz5 := hRb.free 5
    have fz6 := hRb.free 6
    have fz7 := hRb.free 7
    have fz8 := hRb.free 8
    have fy1 := hO.free 1
    have fy2 := hO.free 2
    have hfin : Blk (((((((((w1.setCell ⟨p1, 0, none⟩ (.int .u64 ((seq : Int) + 1 + (n3 : Int) / 3))).setCell ⟨p1, 1, none⟩ (.int .u64 now)).setCell ⟨p1, 2, none⟩ (.int .u64 n7)).setCell ⟨p1, 3, none⟩ (.int .u64 n31)).setCell ⟨p1, 4, none⟩ (.int .i64 a.op.kind)).setCell ⟨p1, 5, none⟩ (.string (str a.op.key))).setCell ⟨p1, 6, none⟩ (.string (str a.op.val))).setCell ⟨p1, 7, none⟩ (.int .u64 a.op.ttl)).setCell ⟨p1, 8, none⟩ (.int .u64 a.op.ver)) p1 38 #[.int .u64 ((seq : Int) + 1 + (n3 : Int) / 3), .int .u64 now, .int .u64 n7, .int .u64 n31, .int .i64 a.op.kind, .string (str a.op.key), .string (str a.op.val), .int .u64 a.op.ttl, .int .u64 a.op.ver] := put9 hRb (.int .u64 ((seq : Int) + 1 + (n3 : Int) / 3)) (.int .u64 now) (.int .u64 n7) (.int .u64 n31) (.int .i64 a.op.kind) (.string (str a.op.key)) (.string (str a.op.val)) (.int .u64 a.op.ttl) (.int .u64 a.op.ver)
    have hbel : Below w.heap.size w (((((((((w1.setCell ⟨p1, 0, none⟩ (.int .u64 ((seq : Int) + 1 + (n3 : Int) / 3))).setCell ⟨p1, 1, none⟩ (.int .u64 now)).setCell ⟨p1, 2, none⟩ (.int .u64 n7)).setCell ⟨p1, 3, none⟩ (.int .u64 n31)).setCell ⟨p1, 4, none⟩ (.int .i64 a.op.kind)).setCell ⟨p1, 5, none⟩ (.string (str a.op.key))).setCell ⟨p1, 6, none⟩ (.string (str a.op.val))).setCell ⟨p1, 7, none⟩ (.int .u64 a.op.ttl)).setCell ⟨p1, 8, none⟩ (.int .u64 a.op.ver)) := below9 hb g1 (.int .u64 ((seq : Int) + 1 + (n3 : Int) / 3)) (.int .u64 now) (.int .u64 n7) (.int .u64 n31) (.int .i64 a.op.kind) (.string (str a.op.key)) (.string (str a.op.val)) (.int .u64 a.op.ttl) (.int .u64 a.op.ver)
    have HF := Lib.hid hfin
    have HB := Lib.hid hbel
    clear hfin hbel hA hRb hO hb g1 g2
    go_wp2_with fail
    have hrec : recOf seq now a = ⟨seq + 1 + n3 / 3, now, n7, n31, ⟨a.op.kind, a.op.key, a.op.val, a.op.ttl, a.op.ver⟩⟩ := by rw [HR.out, hnx.out, hcut.out, if_neg a3, if_neg a1, if_neg a2]
    have hnx2 : nextOf now a = now := by rw [hnx.out, if_neg a3]
    exact bodyPost_ret (Taby.results_row_tmp rfl _ _ p1 rfl (run_loadVar_row _ _ _ _ _ _ _ HF.out Tryz.underlying38 rfl (by kernel_rfl))) rfl ⟨by rw [hrec, hnx2]; rfl, HB.out⟩
end
end Go.Proofs.YtkiabladmgagdabGreatDoor.Storey
