/- Layer 16: views, which of them may be, and cells, over plain data; how they lie in memory. No condition. -/
import Derived.Test.YtigkocdjllfhnaaChecked
import Derived.Test.YtigkocdjllfhnaaMem
import Derived.Test.YtigkocdjllfhnaaRegion
import Derived.Laws.StructEq
import Derived.Laws.CopyRow
import Derived.Lib.Hide
import Derived.BigQuiet
namespace Go.Proofs.Ytigkocdjllfhnaa.Celly
open Go.ChangeShapes Go.WideShapes Go.ChangeAt Go.RowKit
open Wirey (Blk Row)
abbrev VT : TypeId := 25
abbrev CT : TypeId := 47
abbrev PT : TypeId := 33
abbrev cp (b : Nat) : Value := .pointer (some ⟨b, 0, none⟩)
abbrev nilC : Value := .pointer none
/-- A view. -/
structure Vw where
  v : Nat
  pr : Int
  pl : Nat
  ba : Int
  bl : Nat
  ep : Nat
abbrev Vw.enc (x : Vw) : List Value := [.int .u64 (x.v : Int), .int .i64 x.pr, .int .u64 (x.pl : Int), .int .i64 x.ba, .int .u64 (x.bl : Int), .int .u64 (x.ep : Int)]
abbrev Vw.cs (x : Vw) : Array Value := #[.int .u64 (x.v : Int), .int .i64 x.pr, .int .u64 (x.pl : Int), .int .i64 x.ba, .int .u64 (x.bl : Int), .int .u64 (x.ep : Int)]
structure Vw.Big (x : Vw) : Prop where
  v : x.v < 18446744073709551616
  pr : (Lit.int .i64 x.pr).wf = true
  pl : x.pl < 18446744073709551616
  ba : (Lit.int .i64 x.ba).wf = true
  bl : x.bl < 18446744073709551616
  ep : x.ep < 18446744073709551616
/-- No view; the law's first one. -/
def noV : Vw := ⟨0, 0, 0, 0, 0, 0⟩
def firstV : Vw := ⟨1, 0, 1, -1, 0, 1⟩
/-- Whether there may be such a node in such a life; such a view. -/
def Node (n : Int) (life : Nat) : Prop := 0 ≤ n ∧ n < 1048576 ∧ 0 < life
def May (x : Vw) : Prop := x.v ≠ 0 ∧ x.ep ≠ 0 ∧ Node x.pr x.pl ∧ ((x.ba = -1 ∧ x.bl = 0) ∨ (x.ba ≠ -1 ∧ x.ba ≠ x.pr ∧ Node x.ba x.bl))
instance (n : Int) (l : Nat) : Decidable (Node n l) := by unfold Node; infer_instance
instance (x : Vw) : Decidable (May x) := by unfold May; infer_instance
theorem may_first : May firstV := by unfold May Node firstV; decide
/-- Two views are one. -/
theorem Vw.ext {x y : Vw} (h0 : x.v = y.v) (h1 : x.pr = y.pr) (h2 : x.pl = y.pl) (h3 : x.ba = y.ba) (h4 : x.bl = y.bl) (h5 : x.ep = y.ep) : x = y := by cases x; cases y; simp_all
theorem eqInts (a b c d e f a' b' c' d' e' f' : Int) (w : World) : (Op.equalIn 10000 VT (.agg #[.int .u64 a, .int .i64 b, .int .u64 c, .int .i64 d, .int .u64 e, .int .u64 f]) (.agg #[.int .u64 a', .int .i64 b', .int .u64 c', .int .i64 d', .int .u64 e', .int .u64 f'])).run Try.prog w = .ok (a == a' && (b == b' && (c == c' && (d == d' && (e == e' && f == f'))))) w := by
  have u3 := Try.underlying3
  have a3 := Try.isAgg3
  have z3 := Try.sizeOf3
  have u4 := Try.underlying23
  have a4 := Try.isAgg23
  have z4 := Try.sizeOf23
  have hS : Try.prog.underlying VT = some (.struct (Try.prog.fieldsOf VT)) := by kernel_rfl
  have hp : Try.prog.stoodInHeld VT = false := by kernel_rfl
  rw [show (10000 : Nat) = 9999 + 1 from rfl, run_equalIn_agg w 9999 VT _ _ hS hp]
  simp only [Program.fieldsOf, Try.underlying25]
  go_simp
  by_cases h1 : a = a' <;> by_cases h2 : b = b' <;> by_cases h3 : c = c' <;> by_cases h4 : d = d' <;> by_cases h5 : e = e' <;> by_cases h6 : f = f' <;> simp [h1, h2, h3, h4, h5, h6]
/-- A view held against another one. -/
theorem eq_yes (x : Vw) (w : World) : (Op.equalIn 10000 VT (.agg x.cs) (.agg x.cs)).run Try.prog w = .ok true w := by
  rw [eqInts]; simp
theorem eq_no {x y : Vw} (h : x ≠ y) (w : World) : (Op.equalIn 10000 VT (.agg x.cs) (.agg y.cs)).run Try.prog w = .ok false w := by
  rw [eqInts]
  congr 1
  rw [Bool.eq_false_iff]
  intro e
  simp only [Bool.and_eq_true, beq_iff_eq, Int.natCast_inj] at e
  exact h (Vw.ext e.1 e.2.1 e.2.2.1 e.2.2.2.1 e.2.2.2.2.1 e.2.2.2.2.2)
/-- What an arbiter keeps. -/
structure Ce where
  ch : Vw
  most : Nat
  bal : Nat
  val : Vw
def Ce.new (x : Vw) : Ce := ⟨x, 0, 0, noV⟩
abbrev Ce.cs (c : Ce) : Array Value := #[.int .u64 (c.ch.v : Int), .int .i64 c.ch.pr, .int .u64 (c.ch.pl : Int), .int .i64 c.ch.ba, .int .u64 (c.ch.bl : Int), .int .u64 (c.ch.ep : Int), .int .u64 (c.most : Int), .int .u64 (c.bal : Int), .int .u64 (c.val.v : Int), .int .i64 c.val.pr, .int .u64 (c.val.pl : Int), .int .i64 c.val.ba, .int .u64 (c.val.bl : Int), .int .u64 (c.val.ep : Int)]
/-- What a cell tells. -/
abbrev Ce.told (c : Ce) (ok : Bool) : Array Value := #[.bool ok, .int .u64 (IntKind.u64.wrap ((c.ch.v : Int) + 1)), .int .u64 (c.most : Int), .int .u64 (c.bal : Int), .int .u64 (c.val.v : Int), .int .i64 c.val.pr, .int .u64 (c.val.pl : Int), .int .i64 c.val.ba, .int .u64 (c.val.bl : Int), .int .u64 (c.val.ep : Int), .int .u64 (c.ch.v : Int), .int .i64 c.ch.pr, .int .u64 (c.ch.pl : Int), .int .i64 c.ch.ba, .int .u64 (c.ch.bl : Int), .int .u64 (c.ch.ep : Int)]
/-- The zero promise. -/
abbrev zP : Array Value := #[.bool false, .int .u64 0, .int .u64 0, .int .u64 0, .int .u64 0, .int .i64 0, .int .u64 0, .int .i64 0, .int .u64 0, .int .u64 0, .int .u64 0, .int .i64 0, .int .u64 0, .int .i64 0, .int .u64 0, .int .u64 0]
/-! A whole struct, a step of a region each -/
theorem step_store {P : Program} {w w' : World} {ops : Array Oper} {rest : List Oper} {o : Oper} {a : Act} {Q : Exit → Act → World → Prop} (t : TypeId) (x y : Operand) (p : Addr) (v : Value)
    (hg : o.guard = none) (hd : o.dst = none) (hop : o.op = Op.store t x y) (hx : a.eval x = .pointer (some p)) (hy : a.eval y = v) (hl : (storeVar t p v).run P w = .ok () w') (hK : wpList P ops Q rest a w') : wpList P ops Q (o :: rest) a w := by
  refine wpList_plain hg fun K hK' => ?_
  unfold Oper.wp
  simp [execOp, hop, hx, hy, Instr.storeAt, Instr.sureAddr, hl, Result.andThen]
  refine hK' _ _ ?_
  rw [hd]
  exact hK
theorem all_one {X : Array Value} (h : ∀ u ∈ X.toList, u.oneCell' = true) : X.all (·.oneCell') = true := Array.all_eq_true_iff_forall_mem.2 fun v hv => h v (by simpa using hv)
theorem store_row {w : World} {b : Nat} {t : TypeId} {X Y : Array Value} (hi : (Try.prog.info? t).map (·.size) = some X.size) (h : Blk w b t Y) (hY : Y.size = X.size) (h1 : X.all (·.oneCell') = true) : (storeVar t ⟨b, 0, none⟩ (.agg X)).run Try.prog w = .ok () (w.setRow b X) :=
  run_storeVar_row w b t t Y X h hi hY h1
theorem info_CT : (Try.prog.info? CT).map (·.size) = some 14 := by kernel_rfl
theorem info_PT : (Try.prog.info? PT).map (·.size) = some 16 := by kernel_rfl
theorem info_VT : (Try.prog.info? VT).map (·.size) = some 6 := by kernel_rfl
end Go.Proofs.Ytigkocdjllfhnaa.Celly
