/- Layer 16: the program's cell, call by call. The only condition: it was made. -/
import Derived.Test.YtigkocdjllfhnaaCellCheck
import Derived.Test.YtigkocdjllfhnaaWireFly
import Derived.Deep.RegionLaw
import Derived.StillTailTactics
namespace Go.Proofs.Ytigkocdjllfhnaa.Celly
open Go.ChangeShapes Go.WideShapes Go.ChangeAt Go.RowKit
open Wirey (Blk Row Kp)
open Regy
theorem zero_cs : noV.cs = #[.int .u64 0, .int .i64 0, .int .u64 0, .int .i64 0, .int .u64 0, .int .u64 0] := rfl
/-- One block alone may have turned. -/
theorem kp_row {S : Nat → Prop} {x y : World} {b : Nat} (h : Kp S x y) (hb : S b) (cs : Array Value) : Kp S x (y.setRow b cs) :=
  ⟨h.os, h.tape, h.output, by rw [setRow_size]; exact h.size, fun k hk hn => (setRow_other y b k cs (by rintro rfl; exact hn hb)).trans (h.block k hk hn)⟩
theorem row_below {C : Nat} {w v : World} {b : Nat} (h : Below C w v) (hb : C ≤ b) (ds : Array Value) : Below C w (v.setRow b ds) :=
  ⟨h.os, h.tape, h.output, by rw [setRow_size]; exact h.size, fun k hk => (setRow_other v b k ds (by omega)).trans (h.block k hk)⟩
theorem Kp.low {S : Nat → Prop} {w0 w w' : World} (h : Kp S w w') (hb : Below w0.heap.size w0 w) (hS : ∀ k, S k → w0.heap.size ≤ k) : Below w0.heap.size w0 w' :=
  ⟨h.os.trans hb.os, h.tape.trans hb.tape, h.output.trans hb.output, Nat.le_trans hb.size h.size, fun k hk => (h.block k (Nat.lt_of_lt_of_le hk hb.size) (fun hs => by have := hS k hs; omega)).trans (hb.block k hk)⟩
/-- What a cell learns, promises, takes. -/
def Ce.learns (c : Ce) (x : Vw) : Bool := decide (May x ∧ c.ch.v < x.v)
def Ce.learn (c : Ce) (x : Vw) : Ce := if c.learns x then Ce.new x else c
def Ce.nexts (c : Ce) (x : Vw) : Bool := decide (May x ∧ (x.v : Int) = IntKind.u64.wrap ((c.ch.v : Int) + 1))
theorem Vw.one (x : Vw) : ∀ u ∈ x.cs.toList, u.oneCell' = true := by intro u hu; simp only [List.mem_cons, List.not_mem_nil, or_false] at hu; rcases hu with rfl | rfl | rfl | rfl | rfl | rfl <;> rfl
theorem Ce.one (c : Ce) : ∀ u ∈ c.cs.toList, u.oneCell' = true := by intro u hu; simp only [List.mem_cons, List.not_mem_nil, or_false] at hu; rcases hu with rfl | rfl | rfl | rfl | rfl | rfl | rfl | rfl | rfl | rfl | rfl | rfl | rfl | rfl <;> rfl
theorem Ce.told_one (c : Ce) (ok : Bool) : ∀ u ∈ (c.told ok).toList, u.oneCell' = true := by intro u hu; simp only [List.mem_cons, List.not_mem_nil, or_false] at hu; rcases hu with rfl | rfl | rfl | rfl | rfl | rfl | rfl | rfl | rfl | rfl | rfl | rfl | rfl | rfl | rfl | rfl <;> rfl
instance : DecidableEq Vw := fun x y => decidable_of_iff (x.v = y.v ∧ x.pr = y.pr ∧ x.pl = y.pl ∧ x.ba = y.ba ∧ x.bl = y.bl ∧ x.ep = y.ep) ⟨fun h => Vw.ext h.1 h.2.1 h.2.2.1 h.2.2.2.1 h.2.2.2.2.1 h.2.2.2.2.2, fun h => by subst h; exact ⟨rfl, rfl, rfl, rfl, rfl, rfl⟩⟩
/-- Whether it takes part, and what it is then. -/
def Ce.preps (c : Ce) (x : Vw) (n : Nat) : Bool := decide (x = (c.learn x).ch ∧ (c.learn x).most < n)
def Ce.prep (c : Ce) (x : Vw) (n : Nat) : Ce := if c.preps x n then ⟨(c.learn x).ch, n, (c.learn x).bal, (c.learn x).val⟩ else c.learn x
def Ce.accs (c : Ce) (x : Vw) (n : Nat) : Bool := decide (c.nexts x = true ∧ 0 < n ∧ c.most ≤ n)
def Ce.acc (c : Ce) (x : Vw) (n : Nat) : Ce := if c.accs x n then ⟨c.ch, n, n, x⟩ else c
/-- A store in a region that draws. -/
theorem wp_store {P : Program} {w w' : World} {o : Oper} {a : Act} {K : Act → World → Prop} {Q : Exit → Act → World → Prop} (t : TypeId) (x y : Operand) (p : Addr) (v : Value)
    (hd : o.dst = none) (hop : o.op = Op.store t x y) (hx : a.eval x = .pointer (some p)) (hy : a.eval y = v) (hl : (storeVar t p v).run P w = .ok () w') (hK : K a w') : o.wp P a w K Q := by
  unfold Oper.wp
  simp [execOp, hop, hx, hy, Instr.storeAt, Instr.sureAddr, hl, Result.andThen]
  rw [Oper.upon_skip, hd]
  exact hK
theorem store_mid {w : World} {b o : Nat} {ty t : TypeId} {X Y : Array Value} (hi : (Try.prog.info? ty).map (·.size) = some X.size) (h : Blk w b t Y) (hY : o + X.size ≤ Y.size) (h1 : ∀ u ∈ X.toList, u.oneCell' = true) : (storeVar ty ⟨b, o, none⟩ (.agg X)).run Try.prog w = .ok () (w.setRow b (Y.toList.take o ++ X.toList ++ Y.toList.drop (o + X.toList.length)).toArray) := by
  have := run_storeCells_at (P := Try.prog) b o t X.toList 0 Y w h (by simpa using hY) h1
  cases hq : Try.prog.info? ty with
  | none => simp [hq] at hi
  | some i =>
    have hs : X.size = i.size := by simp [hq] at hi; omega
    simp only [Nat.add_zero] at this
    simp [storeVar, sizeOf, typeInfo, hq, Value.cells, hs, this]
section
variable {w w' : World} {b : Nat} {c : Ce} {x : Vw}
set_option maxHeartbeats 1000000 in
set_option maxRecDepth 100000 in
theorem made_c (h : Blk w b CT c.cs) (hn : c.ch ≠ noV) : Calls Try.prog 22 #[cp b] w fun e w' => e = .returned (.bool true) ∧ w = w' := by
  have c0 : w.cell? ⟨b, 0, none⟩ = some (.int .u64 (c.ch.v : Int)) := h.cell 0
  have c1 : w.cell? ⟨b, 1, none⟩ = some (.int .i64 c.ch.pr) := h.cell 1
  have c2 : w.cell? ⟨b, 2, none⟩ = some (.int .u64 (c.ch.pl : Int)) := h.cell 2
  have c3 : w.cell? ⟨b, 3, none⟩ = some (.int .i64 c.ch.ba) := h.cell 3
  have c4 : w.cell? ⟨b, 4, none⟩ = some (.int .u64 (c.ch.bl : Int)) := h.cell 4
  have c5 : w.cell? ⟨b, 5, none⟩ = some (.int .u64 (c.ch.ep : Int)) := h.cell 5
  have he : ∀ w, (Op.equalIn 10000 VT (.agg c.ch.cs) (.agg #[.int .u64 0, .int .i64 0, .int .u64 0, .int .i64 0, .int .u64 0, .int .u64 0])).run Try.prog w = .ok false w := fun w => by
    have h1 := eq_no (x := c.ch) (y := noV) hn w
    rw [zero_cs] at h1
    exact h1
  clear hn h
  go_enter Try.func22, Try.ntmps22
  go_wp2_with fail
  go_ret
  exact ⟨rfl, rfl⟩
theorem made_nil (w : World) : Calls Try.prog 22 #[nilC] w fun e w' => e = .returned (.bool false) ∧ w = w' := by
  go_enter Try.func22, Try.ntmps22
  go_wp2_with fail
  go_ret
  exact ⟨rfl, rfl⟩
set_option maxHeartbeats 1000000 in
set_option maxRecDepth 100000 in
theorem new_ok (hm : May x) (w : World) : Calls Try.prog 7 #[.agg x.cs] w fun e w' => ∃ b, e = .returned (.tuple #[cp b, .int .i64 0]) ∧ w.heap.size ≤ b ∧ Blk w' b CT (Ce.new x).cs ∧ Below w.heap.size w w' := by
  have hX := Blk.new w VT x.cs
  have hb := (Below.refl _ w).alloc (Nat.le_refl _) (.cells x.cs VT)
  have hs : (w.alloc (.cells x.cs VT)).heap.size = w.heap.size + 1 := by simp
  have d : decide (May x) = true := decide_eq_true hm
  go_enter Try.func7, Try.ntmps7
  go_upto_region 1 with (fail)
  generalize w.alloc (.cells _ VT) = w1 at *
  generalize hq : w.heap.size = q at hX hs ⊢
  have x0 : w1.cell? ⟨q, 0, none⟩ = some (.int .u64 (x.v : Int)) := hX.cell 0
  have x1 : w1.cell? ⟨q, 1, none⟩ = some (.int .i64 x.pr) := hX.cell 1
  have x2 : w1.cell? ⟨q, 2, none⟩ = some (.int .u64 (x.pl : Int)) := hX.cell 2
  have x3 : w1.cell? ⟨q, 3, none⟩ = some (.int .i64 x.ba) := hX.cell 3
  have x4 : w1.cell? ⟨q, 4, none⟩ = some (.int .u64 (x.bl : Int)) := hX.cell 4
  have x5 : w1.cell? ⟨q, 5, none⟩ = some (.int .u64 (x.ep : Int)) := hX.cell 5
  go_wp2_with fail
  refine (check_c x _).mono ?_
  rintro e w2 ⟨rfl, hb2⟩
  rw [d]
  have hX2 := hX.below hb2 hX.lt
  have hb3 := hb.trans (hb2.mono hb.size)
  have hs2 := hb2.size
  clear x0 x1 x2 x3 x4 x5 hX hb hb2 d
  have x0 : w2.cell? ⟨q, 0, none⟩ = some (.int .u64 (x.v : Int)) := hX2.cell 0
  have x1 : w2.cell? ⟨q, 1, none⟩ = some (.int .i64 x.pr) := hX2.cell 1
  have x2 : w2.cell? ⟨q, 2, none⟩ = some (.int .u64 (x.pl : Int)) := hX2.cell 2
  have x3 : w2.cell? ⟨q, 3, none⟩ = some (.int .i64 x.ba) := hX2.cell 3
  have x4 : w2.cell? ⟨q, 4, none⟩ = some (.int .u64 (x.bl : Int)) := hX2.cell 4
  have x5 : w2.cell? ⟨q, 5, none⟩ = some (.int .u64 (x.ep : Int)) := hX2.cell 5
  have hR := Blk.new w2 CT (Ce.new x).cs
  have hb4 := hb3.alloc hb3.size (.cells (Ce.new x).cs CT)
  have HB := Lib.hid hb4
  clear hb3 hb4 hX2
  go_wp2_with fail
  exact bodyPost_ret (results_tmp2 rfl _ _ _) rfl ⟨_, rfl, by omega, hR, HB.out⟩
theorem new_no (hm : ¬ May x) (w : World) : Calls Try.prog 7 #[.agg x.cs] w fun e w' => e = .returned (.tuple #[nilC, .int .i64 1]) ∧ Below w.heap.size w w' := by
  have hX := Blk.new w VT x.cs
  have hb := (Below.refl _ w).alloc (Nat.le_refl _) (.cells x.cs VT)
  have d : decide (May x) = false := decide_eq_false hm
  go_enter Try.func7, Try.ntmps7
  go_upto_region 1 with (fail)
  generalize w.alloc (.cells _ VT) = w1 at *
  generalize hq : w.heap.size = q at hX ⊢
  have x0 : w1.cell? ⟨q, 0, none⟩ = some (.int .u64 (x.v : Int)) := hX.cell 0
  have x1 : w1.cell? ⟨q, 1, none⟩ = some (.int .i64 x.pr) := hX.cell 1
  have x2 : w1.cell? ⟨q, 2, none⟩ = some (.int .u64 (x.pl : Int)) := hX.cell 2
  have x3 : w1.cell? ⟨q, 3, none⟩ = some (.int .i64 x.ba) := hX.cell 3
  have x4 : w1.cell? ⟨q, 4, none⟩ = some (.int .u64 (x.bl : Int)) := hX.cell 4
  have x5 : w1.cell? ⟨q, 5, none⟩ = some (.int .u64 (x.ep : Int)) := hX.cell 5
  go_wp2_with fail
  refine (check_c x _).mono ?_
  rintro e w2 ⟨rfl, hb2⟩
  rw [d]
  have hb3 := hb.trans (hb2.mono hb.size)
  clear x0 x1 x2 x3 x4 x5 hX hb hb2 d
  go_wp2_with fail
  exact bodyPost_ret (results_tmp2 rfl _ _ _) rfl ⟨rfl, hb3⟩
set_option maxHeartbeats 2000000 in
set_option maxRecDepth 100000 in
theorem tell_c (ok : Bool) (h : Blk w b CT c.cs) : Calls Try.prog 23 #[cp b, .bool ok] w fun e w' => e = .returned (.agg (c.told ok)) ∧ Below w.heap.size w w' := by
  have hR := Blk.new w PT zP
  have hb := (Below.refl _ w).alloc (Nat.le_refl _) (.cells zP PT)
  have hc := h.alloc (.cells zP PT)
  clear h
  go_enter Try.func23, Try.ntmps23
  go_upto_region 1 with (fail)
  generalize w.alloc (.cells _ PT) = w1 at *
  generalize hq : w.heap.size = q at hR ⊢
  have c0 : w1.cell? ⟨b, 0, none⟩ = some (.int .u64 (c.ch.v : Int)) := hc.cell 0
  have c1 : w1.cell? ⟨b, 1, none⟩ = some (.int .i64 c.ch.pr) := hc.cell 1
  have c2 : w1.cell? ⟨b, 2, none⟩ = some (.int .u64 (c.ch.pl : Int)) := hc.cell 2
  have c3 : w1.cell? ⟨b, 3, none⟩ = some (.int .i64 c.ch.ba) := hc.cell 3
  have c4 : w1.cell? ⟨b, 4, none⟩ = some (.int .u64 (c.ch.bl : Int)) := hc.cell 4
  have c5 : w1.cell? ⟨b, 5, none⟩ = some (.int .u64 (c.ch.ep : Int)) := hc.cell 5
  have c6 : w1.cell? ⟨b, 6, none⟩ = some (.int .u64 (c.most : Int)) := hc.cell 6
  have c7 : w1.cell? ⟨b, 7, none⟩ = some (.int .u64 (c.bal : Int)) := hc.cell 7
  have c8 : w1.cell? ⟨b, 8, none⟩ = some (.int .u64 (c.val.v : Int)) := hc.cell 8
  have c9 : w1.cell? ⟨b, 9, none⟩ = some (.int .i64 c.val.pr) := hc.cell 9
  have c10 : w1.cell? ⟨b, 10, none⟩ = some (.int .u64 (c.val.pl : Int)) := hc.cell 10
  have c11 : w1.cell? ⟨b, 11, none⟩ = some (.int .i64 c.val.ba) := hc.cell 11
  have c12 : w1.cell? ⟨b, 12, none⟩ = some (.int .u64 (c.val.bl : Int)) := hc.cell 12
  have c13 : w1.cell? ⟨b, 13, none⟩ = some (.int .u64 (c.val.ep : Int)) := hc.cell 13
  go_still_tail 24, (by kernel_rfl)
  change wpList _ _ _ _ _ w1.drew
  have hR2 : Blk w1.drew q PT zP := hR
  refine step_store PT (.tmp 4) (.tmp 28) ⟨q, 0, none⟩ (.agg (c.told ok)) rfl rfl rfl rfl rfl (store_row info_PT hR2 rfl (all_one (c.told_one ok))) ?_
  have hR3 : Blk (w1.drew.setRow q (c.told ok)) q PT (c.told ok) := setRow_heap w1.drew q _ _ _ (0, 0) hR2
  have hb3 : Below w.heap.size w (w1.drew.setRow q (c.told ok)) := row_below hb.drew (by omega) _
  go_wp2_with fail
  refine bodyPost_ret (results_cell_row rfl _ _ q PT _ _ _ rfl hR3 Try.underlying33 rfl (by kernel_rfl)) rfl ⟨rfl, hb3⟩
set_option maxHeartbeats 2000000 in
set_option maxRecDepth 100000 in
theorem next_c (h : Blk w b CT c.cs) : Calls Try.prog 24 #[cp b, .agg x.cs] w fun e w' => e = .returned (.bool (c.nexts x)) ∧ Below w.heap.size w w' := by
  have hX := Blk.new w VT x.cs
  have hb := (Below.refl _ w).alloc (Nat.le_refl _) (.cells x.cs VT)
  have hc := h.alloc (.cells x.cs VT)
  have hs : (w.alloc (.cells x.cs VT)).heap.size = w.heap.size + 1 := by simp
  have hbq : b < w.heap.size := h.lt
  clear h
  go_enter Try.func24, Try.ntmps24
  go_upto_region 1 with (fail)
  generalize w.alloc (.cells _ VT) = w1 at *
  generalize hq : w.heap.size = q at hX hs hbq ⊢
  have x0 : w1.cell? ⟨q, 0, none⟩ = some (.int .u64 (x.v : Int)) := hX.cell 0
  have x1 : w1.cell? ⟨q, 1, none⟩ = some (.int .i64 x.pr) := hX.cell 1
  have x2 : w1.cell? ⟨q, 2, none⟩ = some (.int .u64 (x.pl : Int)) := hX.cell 2
  have x3 : w1.cell? ⟨q, 3, none⟩ = some (.int .i64 x.ba) := hX.cell 3
  have x4 : w1.cell? ⟨q, 4, none⟩ = some (.int .u64 (x.bl : Int)) := hX.cell 4
  have x5 : w1.cell? ⟨q, 5, none⟩ = some (.int .u64 (x.ep : Int)) := hX.cell 5
  have c0 : w1.cell? ⟨b, 0, none⟩ = some (.int .u64 (c.ch.v : Int)) := hc.cell 0
  have mk : ∀ W, Below w1.heap.size w1.drew W → W.cell? ⟨q, 0, none⟩ = some (.int .u64 (x.v : Int)) ∧ W.cell? ⟨q, 1, none⟩ = some (.int .i64 x.pr) ∧ W.cell? ⟨q, 2, none⟩ = some (.int .u64 (x.pl : Int)) ∧ W.cell? ⟨q, 3, none⟩ = some (.int .i64 x.ba) ∧ W.cell? ⟨q, 4, none⟩ = some (.int .u64 (x.bl : Int)) ∧ W.cell? ⟨q, 5, none⟩ = some (.int .u64 (x.ep : Int)) ∧ W.cell? ⟨b, 0, none⟩ = some (.int .u64 (c.ch.v : Int)) := fun W hb => by
    have hX0 : Blk w1.drew q VT x.cs := hX
    have hc0 : Blk w1.drew b CT c.cs := hc
    have hx := hX0.below hb hX.lt
    have hy := hc0.below hb hc.lt
    exact ⟨hx.cell 0, hx.cell 1, hx.cell 2, hx.cell 3, hx.cell 4, hx.cell 5, hy.cell 0⟩
  by_cases hm : May x
  · have d : decide (May x) = true := decide_eq_true hm
    have hn : c.nexts x = ((x.v : Int) == IntKind.u64.wrap ((c.ch.v : Int) + 1)) := by
      unfold Ce.nexts
      by_cases e : (x.v : Int) = IntKind.u64.wrap ((c.ch.v : Int) + 1)
      · rw [decide_eq_true ⟨hm, e⟩, e]; simp
      · rw [decide_eq_false (fun h => e h.2)]; simp [e]
    have HN := Lib.hid hn
    clear hn
    refine region_only 14 #[false, false, false, false, false, false, false, false, false, false, false, false, false, false] (S := (fun W => W.cell? ⟨q, 0, none⟩ = some (.int .u64 (x.v : Int)) ∧ W.cell? ⟨q, 1, none⟩ = some (.int .i64 x.pr) ∧ W.cell? ⟨q, 2, none⟩ = some (.int .u64 (x.pl : Int)) ∧ W.cell? ⟨q, 3, none⟩ = some (.int .i64 x.ba) ∧ W.cell? ⟨q, 4, none⟩ = some (.int .u64 (x.bl : Int)) ∧ W.cell? ⟨q, 5, none⟩ = some (.int .u64 (x.ep : Int)) ∧ W.cell? ⟨b, 0, none⟩ = some (.int .u64 (c.ch.v : Int)))) rfl rfl (by kernel_rfl) ⟨x0, x1, x2, x3, x4, x5, c0⟩ (fun hSw => ?_)
    refine take_at 0 5 (fuel := 13) ?_ rfl rfl (by kernel_rfl) (by kernel_rfl) (by kernel_rfl) (Or.inl ⟨by rfl, ?_⟩) hSw ?_
    rotate_left
    · intro wx hSx
      (try dsimp only at hSx)
      go_split_ands
      go_simp
      (try with_reducible rfl)
    simp only [List.setIfInBounds_toArray, List.set_cons_zero, List.set_cons_succ]
    refine wpAnyH_ready (fuel := 12) (rs := [1]) (by kernel_rfl) (by simp) (AllReadyH.cons rfl (fun K hK => ?_) AllReadyH.nil)
    go_simp
    refine Calls.mono (check_c x _) ?_
    rintro e wv ⟨rfl, hb2⟩
    rw [d]
    refine hK.out _ _ (mk _ hb2) (fun hSw => ?_)
    clear hK K
    simp only [List.setIfInBounds_toArray, List.set_cons_zero, List.set_cons_succ]
    refine take_at 2 7 (fuel := 11) ?_ rfl rfl (by kernel_rfl) (by kernel_rfl) (by kernel_rfl) (Or.inl ⟨by rfl, ?_⟩) hSw ?_
    rotate_left
    · intro wx hSx
      (try dsimp only at hSx)
      go_split_ands
      go_simp
      (try with_reducible rfl)
    simp only [List.setIfInBounds_toArray, List.set_cons_zero, List.set_cons_succ]
    refine take_at 3 8 (fuel := 10) ?_ rfl rfl (by kernel_rfl) (by kernel_rfl) (by kernel_rfl) (Or.inl ⟨by rfl, ?_⟩) hSw ?_
    rotate_left
    · intro wx hSx
      (try dsimp only at hSx)
      go_split_ands
      go_simp
      (try with_reducible rfl)
    simp only [List.setIfInBounds_toArray, List.set_cons_zero, List.set_cons_succ]
    refine take_at 4 9 (fuel := 9) ?_ rfl rfl (by kernel_rfl) (by kernel_rfl) (by kernel_rfl) (Or.inl ⟨by rfl, ?_⟩) hSw ?_
    rotate_left
    · intro wx hSx
      (try dsimp only at hSx)
      go_split_ands
      go_simp
      (try with_reducible rfl)
    simp only [List.setIfInBounds_toArray, List.set_cons_zero, List.set_cons_succ]
    refine take_at 5 10 (fuel := 8) ?_ rfl rfl (by kernel_rfl) (by kernel_rfl) (by kernel_rfl) (Or.inl ⟨by rfl, ?_⟩) hSw ?_
    rotate_left
    · intro wx hSx
      (try dsimp only at hSx)
      go_split_ands
      go_simp
      (try with_reducible rfl)
    simp only [List.setIfInBounds_toArray, List.set_cons_zero, List.set_cons_succ]
    refine take_at 6 11 (fuel := 7) ?_ rfl rfl (by kernel_rfl) (by kernel_rfl) (by kernel_rfl) (Or.inl ⟨by rfl, ?_⟩) hSw ?_
    rotate_left
    · intro wx hSx
      (try dsimp only at hSx)
      go_split_ands
      go_simp
      (try with_reducible rfl)
    simp only [List.setIfInBounds_toArray, List.set_cons_zero, List.set_cons_succ]
    refine take_at 7 12 (fuel := 6) ?_ rfl rfl (by kernel_rfl) (by kernel_rfl) (by kernel_rfl) (Or.inl ⟨by rfl, ?_⟩) hSw ?_
    rotate_left
    · intro wx hSx
      (try dsimp only at hSx)
      go_split_ands
      go_simp
      (try with_reducible rfl)
    simp only [List.setIfInBounds_toArray, List.set_cons_zero, List.set_cons_succ]
    refine take_at 8 13 (fuel := 5) ?_ rfl rfl (by kernel_rfl) (by kernel_rfl) (by kernel_rfl) (Or.inl ⟨by rfl, ?_⟩) hSw ?_
    rotate_left
    · intro wx hSx
      (try dsimp only at hSx)
      go_split_ands
      go_simp
      (try with_reducible rfl)
    simp only [List.setIfInBounds_toArray, List.set_cons_zero, List.set_cons_succ]
    refine take_at 9 14 (fuel := 4) ?_ rfl rfl (by kernel_rfl) (by kernel_rfl) (by kernel_rfl) (Or.inl ⟨by rfl, ?_⟩) hSw ?_
    rotate_left
    · intro wx hSx
      (try dsimp only at hSx)
      go_split_ands
      go_simp
      (try with_reducible rfl)
    simp only [List.setIfInBounds_toArray, List.set_cons_zero, List.set_cons_succ]
    refine take_at 10 15 (fuel := 3) ?_ rfl rfl (by kernel_rfl) (by kernel_rfl) (by kernel_rfl) (Or.inl ⟨by rfl, ?_⟩) hSw ?_
    rotate_left
    · intro wx hSx
      (try dsimp only at hSx)
      go_split_ands
      go_simp
      (try with_reducible rfl)
    simp only [List.setIfInBounds_toArray, List.set_cons_zero, List.set_cons_succ]
    refine take_at 11 16 (fuel := 2) ?_ rfl rfl (by kernel_rfl) (by kernel_rfl) (by kernel_rfl) (Or.inl ⟨by rfl, ?_⟩) hSw ?_
    rotate_left
    · intro wx hSx
      (try dsimp only at hSx)
      go_split_ands
      go_simp
      (try with_reducible rfl)
    simp only [List.setIfInBounds_toArray, List.set_cons_zero, List.set_cons_succ]
    refine take_at 12 17 (fuel := 1) ?_ rfl rfl (by kernel_rfl) (by kernel_rfl) (by kernel_rfl) (Or.inl ⟨by rfl, ?_⟩) hSw ?_
    rotate_left
    · intro wx hSx
      (try dsimp only at hSx)
      go_split_ands
      go_simp
      (try with_reducible rfl)
    simp only [List.setIfInBounds_toArray, List.set_cons_zero, List.set_cons_succ]
    refine take_at 13 4 (fuel := 0) ?_ rfl rfl (by kernel_rfl) (by kernel_rfl) (by kernel_rfl) (Or.inl ⟨by rfl, ?_⟩) hSw ?_
    rotate_left
    · intro wx hSx
      (try dsimp only at hSx)
      go_split_ands
      go_simp
      (try with_reducible rfl)
    simp only [List.setIfInBounds_toArray, List.set_cons_zero, List.set_cons_succ]
    refine wpAnyH_done (by kernel_rfl) ⟨rfl, ?_⟩ 0
    have hb3 := hb.drew.trans (hb2.mono hb.drew.size)
    clear hSw hX hc mk x0 x1 x2 x3 x4 x5 c0 hb2 d
    go_wp2_with fail
    go_ret
    exact ⟨by rw [HN.out]; rfl, hb3⟩
  · have d : decide (May x) = false := decide_eq_false hm
    have hn : c.nexts x = false := by
      unfold Ce.nexts
      exact decide_eq_false (fun h => hm h.1)
    have HN := Lib.hid hn
    clear hn
    refine region_only 14 #[false, false, false, false, false, false, false, false, false, false, false, false, false, false] (S := (fun W => W.cell? ⟨q, 0, none⟩ = some (.int .u64 (x.v : Int)) ∧ W.cell? ⟨q, 1, none⟩ = some (.int .i64 x.pr) ∧ W.cell? ⟨q, 2, none⟩ = some (.int .u64 (x.pl : Int)) ∧ W.cell? ⟨q, 3, none⟩ = some (.int .i64 x.ba) ∧ W.cell? ⟨q, 4, none⟩ = some (.int .u64 (x.bl : Int)) ∧ W.cell? ⟨q, 5, none⟩ = some (.int .u64 (x.ep : Int)) ∧ W.cell? ⟨b, 0, none⟩ = some (.int .u64 (c.ch.v : Int)))) rfl rfl (by kernel_rfl) ⟨x0, x1, x2, x3, x4, x5, c0⟩ (fun hSw => ?_)
    refine take_at 0 5 (fuel := 13) ?_ rfl rfl (by kernel_rfl) (by kernel_rfl) (by kernel_rfl) (Or.inl ⟨by rfl, ?_⟩) hSw ?_
    rotate_left
    · intro wx hSx
      (try dsimp only at hSx)
      go_split_ands
      go_simp
      (try with_reducible rfl)
    simp only [List.setIfInBounds_toArray, List.set_cons_zero, List.set_cons_succ]
    refine wpAnyH_ready (fuel := 12) (rs := [1]) (by kernel_rfl) (by simp) (AllReadyH.cons rfl (fun K hK => ?_) AllReadyH.nil)
    go_simp
    refine Calls.mono (check_c x _) ?_
    rintro e wv ⟨rfl, hb2⟩
    rw [d]
    refine hK.out _ _ (mk _ hb2) (fun hSw => ?_)
    clear hK K
    simp only [List.setIfInBounds_toArray, List.set_cons_zero, List.set_cons_succ]
    refine take_at 2 7 (fuel := 11) ?_ rfl rfl (by kernel_rfl) (by kernel_rfl) (by kernel_rfl) (Or.inl ⟨by rfl, ?_⟩) hSw ?_
    rotate_left
    · intro wx hSx
      (try dsimp only at hSx)
      go_split_ands
      go_simp
      (try with_reducible rfl)
    simp only [List.setIfInBounds_toArray, List.set_cons_zero, List.set_cons_succ]
    refine take_at 3 8 undef (fuel := 10) rfl rfl (by kernel_rfl) (by kernel_rfl) (by kernel_rfl) (Or.inr ⟨by rfl, rfl⟩) hSw ?_
    simp only [List.setIfInBounds_toArray, List.set_cons_zero, List.set_cons_succ]
    refine take_at 4 9 undef (fuel := 9) rfl rfl (by kernel_rfl) (by kernel_rfl) (by kernel_rfl) (Or.inr ⟨by rfl, rfl⟩) hSw ?_
    simp only [List.setIfInBounds_toArray, List.set_cons_zero, List.set_cons_succ]
    refine take_at 5 10 undef (fuel := 8) rfl rfl (by kernel_rfl) (by kernel_rfl) (by kernel_rfl) (Or.inr ⟨by rfl, rfl⟩) hSw ?_
    simp only [List.setIfInBounds_toArray, List.set_cons_zero, List.set_cons_succ]
    refine take_at 6 11 undef (fuel := 7) rfl rfl (by kernel_rfl) (by kernel_rfl) (by kernel_rfl) (Or.inr ⟨by rfl, rfl⟩) hSw ?_
    simp only [List.setIfInBounds_toArray, List.set_cons_zero, List.set_cons_succ]
    refine take_at 7 12 undef (fuel := 6) rfl rfl (by kernel_rfl) (by kernel_rfl) (by kernel_rfl) (Or.inr ⟨by rfl, rfl⟩) hSw ?_
    simp only [List.setIfInBounds_toArray, List.set_cons_zero, List.set_cons_succ]
    refine take_at 8 13 undef (fuel := 5) rfl rfl (by kernel_rfl) (by kernel_rfl) (by kernel_rfl) (Or.inr ⟨by rfl, rfl⟩) hSw ?_
    simp only [List.setIfInBounds_toArray, List.set_cons_zero, List.set_cons_succ]
    refine take_at 9 14 undef (fuel := 4) rfl rfl (by kernel_rfl) (by kernel_rfl) (by kernel_rfl) (Or.inr ⟨by rfl, rfl⟩) hSw ?_
    simp only [List.setIfInBounds_toArray, List.set_cons_zero, List.set_cons_succ]
    refine take_at 10 15 undef (fuel := 3) rfl rfl (by kernel_rfl) (by kernel_rfl) (by kernel_rfl) (Or.inr ⟨by rfl, rfl⟩) hSw ?_
    simp only [List.setIfInBounds_toArray, List.set_cons_zero, List.set_cons_succ]
    refine take_at 11 16 undef (fuel := 2) rfl rfl (by kernel_rfl) (by kernel_rfl) (by kernel_rfl) (Or.inr ⟨by rfl, rfl⟩) hSw ?_
    simp only [List.setIfInBounds_toArray, List.set_cons_zero, List.set_cons_succ]
    refine take_at 12 17 (fuel := 1) ?_ rfl rfl (by kernel_rfl) (by kernel_rfl) (by kernel_rfl) (Or.inl ⟨by rfl, ?_⟩) hSw ?_
    rotate_left
    · intro wx hSx
      (try dsimp only at hSx)
      go_split_ands
      go_simp
      (try with_reducible rfl)
    simp only [List.setIfInBounds_toArray, List.set_cons_zero, List.set_cons_succ]
    refine take_at 13 4 (fuel := 0) ?_ rfl rfl (by kernel_rfl) (by kernel_rfl) (by kernel_rfl) (Or.inl ⟨by rfl, ?_⟩) hSw ?_
    rotate_left
    · intro wx hSx
      (try dsimp only at hSx)
      go_split_ands
      go_simp
      (try with_reducible rfl)
    simp only [List.setIfInBounds_toArray, List.set_cons_zero, List.set_cons_succ]
    refine wpAnyH_done (by kernel_rfl) ⟨rfl, ?_⟩ 0
    have hb3 := hb.drew.trans (hb2.mono hb.drew.size)
    clear hSw hX hc mk x0 x1 x2 x3 x4 x5 c0 hb2 d
    go_wp2_with fail
    go_ret
    exact ⟨by rw [HN.out]; rfl, hb3⟩
set_option maxHeartbeats 2000000 in
set_option maxRecDepth 100000 in
theorem learn_c (h : Blk w b CT c.cs) (hne : c.ch ≠ noV) : Calls Try.prog 20 #[cp b, .agg x.cs] w fun e w' => e = .returned (.bool (c.learns x)) ∧ Blk w' b CT (c.learn x).cs ∧ Kp (fun k => k = b) w w' := by
  have hX := Blk.new w VT x.cs
  have hb := (Below.refl _ w).alloc (Nat.le_refl _) (.cells x.cs VT)
  have hc := h.alloc (.cells x.cs VT)
  have hs : (w.alloc (.cells x.cs VT)).heap.size = w.heap.size + 1 := by simp
  have hbq : b < w.heap.size := h.lt
  clear h
  go_enter Try.func20, Try.ntmps20
  go_upto_region 1 with (fail)
  generalize w.alloc (.cells _ VT) = w1 at *
  generalize hq : w.heap.size = q at hX hs hbq ⊢
  have x0 : w1.cell? ⟨q, 0, none⟩ = some (.int .u64 (x.v : Int)) := hX.cell 0
  have x1 : w1.cell? ⟨q, 1, none⟩ = some (.int .i64 x.pr) := hX.cell 1
  have x2 : w1.cell? ⟨q, 2, none⟩ = some (.int .u64 (x.pl : Int)) := hX.cell 2
  have x3 : w1.cell? ⟨q, 3, none⟩ = some (.int .i64 x.ba) := hX.cell 3
  have x4 : w1.cell? ⟨q, 4, none⟩ = some (.int .u64 (x.bl : Int)) := hX.cell 4
  have x5 : w1.cell? ⟨q, 5, none⟩ = some (.int .u64 (x.ep : Int)) := hX.cell 5
  have c0 : w1.cell? ⟨b, 0, none⟩ = some (.int .u64 (c.ch.v : Int)) := hc.cell 0
  have mk : ∀ W, Below w1.heap.size w1.drew W → W.cell? ⟨q, 0, none⟩ = some (.int .u64 (x.v : Int)) ∧ W.cell? ⟨q, 1, none⟩ = some (.int .i64 x.pr) ∧ W.cell? ⟨q, 2, none⟩ = some (.int .u64 (x.pl : Int)) ∧ W.cell? ⟨q, 3, none⟩ = some (.int .i64 x.ba) ∧ W.cell? ⟨q, 4, none⟩ = some (.int .u64 (x.bl : Int)) ∧ W.cell? ⟨q, 5, none⟩ = some (.int .u64 (x.ep : Int)) ∧ W.cell? ⟨b, 0, none⟩ = some (.int .u64 (c.ch.v : Int)) := fun W hb => by
    have hX0 : Blk w1.drew q VT x.cs := hX
    have hc0 : Blk w1.drew b CT c.cs := hc
    have hx := hX0.below hb hX.lt
    have hy := hc0.below hb hc.lt
    exact ⟨hx.cell 0, hx.cell 1, hx.cell 2, hx.cell 3, hx.cell 4, hx.cell 5, hy.cell 0⟩
  have hcd : Blk w1.drew b CT c.cs := hc
  by_cases hm : May x
  · have d : decide (May x) = true := decide_eq_true hm
    by_cases hv : x.v ≤ c.ch.v
    · have v1 : decide ((x.v : Int) ≤ (c.ch.v : Int)) = true := decide_eq_true (by omega)
      have v2 : decide (x.v ≤ c.ch.v) = true := decide_eq_true hv
      have hl : c.learns x = false := by
        unfold Ce.learns
        exact decide_eq_false (fun h => by have := h.2; omega)
      have HL := Lib.hid (And.intro hl (show c.learn x = c from by unfold Ce.learn; rw [hl]; rfl))
      clear hl
      refine region_only 18 #[false, false, false, false, false, false, false, false, false, false, false, false, false, false, false, false, false, false] (S := (fun W => W.cell? ⟨q, 0, none⟩ = some (.int .u64 (x.v : Int)) ∧ W.cell? ⟨q, 1, none⟩ = some (.int .i64 x.pr) ∧ W.cell? ⟨q, 2, none⟩ = some (.int .u64 (x.pl : Int)) ∧ W.cell? ⟨q, 3, none⟩ = some (.int .i64 x.ba) ∧ W.cell? ⟨q, 4, none⟩ = some (.int .u64 (x.bl : Int)) ∧ W.cell? ⟨q, 5, none⟩ = some (.int .u64 (x.ep : Int)) ∧ W.cell? ⟨b, 0, none⟩ = some (.int .u64 (c.ch.v : Int)))) rfl rfl (by kernel_rfl) ⟨x0, x1, x2, x3, x4, x5, c0⟩ (fun hSw => ?_)
      refine take_at 0 5 (fuel := 17) ?_ rfl rfl (by kernel_rfl) (by kernel_rfl) (by kernel_rfl) (Or.inl ⟨by rfl, ?_⟩) hSw ?_
      rotate_left
      · intro wx hSx
        (try dsimp only at hSx)
        go_split_ands
        go_simp
        (try with_reducible rfl)
      simp only [List.setIfInBounds_toArray, List.set_cons_zero, List.set_cons_succ]
      refine wpAnyH_ready (fuel := 16) (rs := [1]) (by kernel_rfl) (by simp) (AllReadyH.cons rfl (fun K hK => ?_) AllReadyH.nil)
      go_simp
      refine Calls.mono (made_c (c := c) hcd hne) ?_
      rintro e wv ⟨rfl, rfl⟩
      refine hK.out _ _ hSw (fun hSw => ?_)
      clear hK K
      simp only [List.setIfInBounds_toArray, List.set_cons_zero, List.set_cons_succ]
      refine take_at 2 7 (fuel := 15) ?_ rfl rfl (by kernel_rfl) (by kernel_rfl) (by kernel_rfl) (Or.inl ⟨by rfl, ?_⟩) hSw ?_
      rotate_left
      · intro wx hSx
        (try dsimp only at hSx)
        go_split_ands
        go_simp
        (try with_reducible rfl)
      simp only [List.setIfInBounds_toArray, List.set_cons_zero, List.set_cons_succ]
      refine take_at 3 8 (fuel := 14) ?_ rfl rfl (by kernel_rfl) (by kernel_rfl) (by kernel_rfl) (Or.inl ⟨by rfl, ?_⟩) hSw ?_
      rotate_left
      · intro wx hSx
        (try dsimp only at hSx)
        go_split_ands
        go_simp
        (try with_reducible rfl)
      simp only [List.setIfInBounds_toArray, List.set_cons_zero, List.set_cons_succ]
      refine take_at 4 9 (fuel := 13) ?_ rfl rfl (by kernel_rfl) (by kernel_rfl) (by kernel_rfl) (Or.inl ⟨by rfl, ?_⟩) hSw ?_
      rotate_left
      · intro wx hSx
        (try dsimp only at hSx)
        go_split_ands
        go_simp
        (try with_reducible rfl)
      simp only [List.setIfInBounds_toArray, List.set_cons_zero, List.set_cons_succ]
      refine wpAnyH_ready (fuel := 12) (rs := [5]) (by kernel_rfl) (by simp) (AllReadyH.cons rfl (fun K hK => ?_) AllReadyH.nil)
      go_simp
      refine Calls.mono (check_c x _) ?_
      rintro e wv ⟨rfl, hb2⟩
      rw [d]
      refine hK.out _ _ (mk _ hb2) (fun hSw => ?_)
      clear hK K
      simp only [List.setIfInBounds_toArray, List.set_cons_zero, List.set_cons_succ]
      refine take_at 6 11 (fuel := 11) ?_ rfl rfl (by kernel_rfl) (by kernel_rfl) (by kernel_rfl) (Or.inl ⟨by rfl, ?_⟩) hSw ?_
      rotate_left
      · intro wx hSx
        (try dsimp only at hSx)
        go_split_ands
        go_simp
        (try with_reducible rfl)
      simp only [List.setIfInBounds_toArray, List.set_cons_zero, List.set_cons_succ]
      refine take_at 7 12 (fuel := 10) ?_ rfl rfl (by kernel_rfl) (by kernel_rfl) (by kernel_rfl) (Or.inl ⟨by rfl, ?_⟩) hSw ?_
      rotate_left
      · intro wx hSx
        (try dsimp only at hSx)
        go_split_ands
        go_simp
        (try with_reducible rfl)
      simp only [List.setIfInBounds_toArray, List.set_cons_zero, List.set_cons_succ]
      refine take_at 8 13 (fuel := 9) ?_ rfl rfl (by kernel_rfl) (by kernel_rfl) (by kernel_rfl) (Or.inl ⟨by rfl, ?_⟩) hSw ?_
      rotate_left
      · intro wx hSx
        (try dsimp only at hSx)
        go_split_ands
        go_simp
        (try with_reducible rfl)
      simp only [List.setIfInBounds_toArray, List.set_cons_zero, List.set_cons_succ]
      refine take_at 9 14 (fuel := 8) ?_ rfl rfl (by kernel_rfl) (by kernel_rfl) (by kernel_rfl) (Or.inl ⟨by rfl, ?_⟩) hSw ?_
      rotate_left
      · intro wx hSx
        (try dsimp only at hSx)
        go_split_ands
        go_simp
        (try with_reducible rfl)
      simp only [List.setIfInBounds_toArray, List.set_cons_zero, List.set_cons_succ]
      refine take_at 10 15 (fuel := 7) ?_ rfl rfl (by kernel_rfl) (by kernel_rfl) (by kernel_rfl) (Or.inl ⟨by rfl, ?_⟩) hSw ?_
      rotate_left
      · intro wx hSx
        (try dsimp only at hSx)
        go_split_ands
        go_simp
        (try with_reducible rfl)
      simp only [List.setIfInBounds_toArray, List.set_cons_zero, List.set_cons_succ]
      refine take_at 11 16 (fuel := 6) ?_ rfl rfl (by kernel_rfl) (by kernel_rfl) (by kernel_rfl) (Or.inl ⟨by rfl, ?_⟩) hSw ?_
      rotate_left
      · intro wx hSx
        (try dsimp only at hSx)
        go_split_ands
        go_simp
        (try with_reducible rfl)
      simp only [List.setIfInBounds_toArray, List.set_cons_zero, List.set_cons_succ]
      refine take_at 12 17 (fuel := 5) ?_ rfl rfl (by kernel_rfl) (by kernel_rfl) (by kernel_rfl) (Or.inl ⟨by rfl, ?_⟩) hSw ?_
      rotate_left
      · intro wx hSx
        (try dsimp only at hSx)
        go_split_ands
        go_simp
        (try with_reducible rfl)
      simp only [List.setIfInBounds_toArray, List.set_cons_zero, List.set_cons_succ]
      refine take_at 13 18 (fuel := 4) ?_ rfl rfl (by kernel_rfl) (by kernel_rfl) (by kernel_rfl) (Or.inl ⟨by rfl, ?_⟩) hSw ?_
      rotate_left
      · intro wx hSx
        (try dsimp only at hSx)
        go_split_ands
        go_simp
        (try with_reducible rfl)
      simp only [List.setIfInBounds_toArray, List.set_cons_zero, List.set_cons_succ]
      refine take_at 14 19 (fuel := 3) ?_ rfl rfl (by kernel_rfl) (by kernel_rfl) (by kernel_rfl) (Or.inl ⟨by rfl, ?_⟩) hSw ?_
      rotate_left
      · intro wx hSx
        (try dsimp only at hSx)
        go_split_ands
        go_simp
        (try with_reducible rfl)
      simp only [List.setIfInBounds_toArray, List.set_cons_zero, List.set_cons_succ]
      refine take_at 15 20 (fuel := 2) ?_ rfl rfl (by kernel_rfl) (by kernel_rfl) (by kernel_rfl) (Or.inl ⟨by rfl, ?_⟩) hSw ?_
      rotate_left
      · intro wx hSx
        (try dsimp only at hSx)
        go_split_ands
        go_simp
        (try with_reducible rfl)
      simp only [List.setIfInBounds_toArray, List.set_cons_zero, List.set_cons_succ]
      refine take_at 16 21 (fuel := 1) ?_ rfl rfl (by kernel_rfl) (by kernel_rfl) (by kernel_rfl) (Or.inl ⟨by rfl, ?_⟩) hSw ?_
      rotate_left
      · intro wx hSx
        (try dsimp only at hSx)
        go_split_ands
        go_simp
        (try with_reducible rfl)
      simp only [List.setIfInBounds_toArray, List.set_cons_zero, List.set_cons_succ]
      refine take_at 17 22 (fuel := 0) ?_ rfl rfl (by kernel_rfl) (by kernel_rfl) (by kernel_rfl) (Or.inl ⟨by rfl, ?_⟩) hSw ?_
      rotate_left
      · intro wx hSx
        (try dsimp only at hSx)
        go_split_ands
        go_simp
        (try with_reducible rfl)
      simp only [List.setIfInBounds_toArray, List.set_cons_zero, List.set_cons_succ]
      refine wpAnyH_done (by kernel_rfl) ⟨rfl, ?_⟩ 0
      have hb3 := hb.drew.trans (hb2.mono hb.drew.size)
      have hc2 : Blk w1.drew b CT c.cs := hc
      have hc3 := hc2.below hb2 hc.lt
      have hX2 : Blk w1.drew q VT x.cs := hX
      have hX3 := hX2.below hb2 hX.lt
      have hs3 : w1.heap.size ≤ _ := hb2.size
      have HB := Lib.hid hb3
      clear hSw hX hX2 hc hc2 hcd mk x0 x1 x2 x3 x4 x5 c0 hb2 d hb hb3
      go_wp2_with fail
      go_ret
      exact ⟨by rw [HL.out.1]; rfl, by rw [HL.out.2]; exact hc3, Kp.of_below HB.out⟩
    · have v1 : decide ((x.v : Int) ≤ (c.ch.v : Int)) = false := decide_eq_false (by omega)
      have v2 : decide (x.v ≤ c.ch.v) = false := decide_eq_false hv
      have hl : c.learns x = true := by
        unfold Ce.learns
        exact decide_eq_true ⟨hm, by omega⟩
      have HL := Lib.hid (And.intro hl (show c.learn x = Ce.new x from by unfold Ce.learn; rw [hl]; rfl))
      clear hl
      refine region_only 18 #[false, false, false, false, false, false, false, false, false, false, false, false, false, false, false, false, false, false] (S := (fun W => W.cell? ⟨q, 0, none⟩ = some (.int .u64 (x.v : Int)) ∧ W.cell? ⟨q, 1, none⟩ = some (.int .i64 x.pr) ∧ W.cell? ⟨q, 2, none⟩ = some (.int .u64 (x.pl : Int)) ∧ W.cell? ⟨q, 3, none⟩ = some (.int .i64 x.ba) ∧ W.cell? ⟨q, 4, none⟩ = some (.int .u64 (x.bl : Int)) ∧ W.cell? ⟨q, 5, none⟩ = some (.int .u64 (x.ep : Int)) ∧ W.cell? ⟨b, 0, none⟩ = some (.int .u64 (c.ch.v : Int)))) rfl rfl (by kernel_rfl) ⟨x0, x1, x2, x3, x4, x5, c0⟩ (fun hSw => ?_)
      refine take_at 0 5 (fuel := 17) ?_ rfl rfl (by kernel_rfl) (by kernel_rfl) (by kernel_rfl) (Or.inl ⟨by rfl, ?_⟩) hSw ?_
      rotate_left
      · intro wx hSx
        (try dsimp only at hSx)
        go_split_ands
        go_simp
        (try with_reducible rfl)
      simp only [List.setIfInBounds_toArray, List.set_cons_zero, List.set_cons_succ]
      refine wpAnyH_ready (fuel := 16) (rs := [1]) (by kernel_rfl) (by simp) (AllReadyH.cons rfl (fun K hK => ?_) AllReadyH.nil)
      go_simp
      refine Calls.mono (made_c (c := c) hcd hne) ?_
      rintro e wv ⟨rfl, rfl⟩
      refine hK.out _ _ hSw (fun hSw => ?_)
      clear hK K
      simp only [List.setIfInBounds_toArray, List.set_cons_zero, List.set_cons_succ]
      refine take_at 2 7 (fuel := 15) ?_ rfl rfl (by kernel_rfl) (by kernel_rfl) (by kernel_rfl) (Or.inl ⟨by rfl, ?_⟩) hSw ?_
      rotate_left
      · intro wx hSx
        (try dsimp only at hSx)
        go_split_ands
        go_simp
        (try with_reducible rfl)
      simp only [List.setIfInBounds_toArray, List.set_cons_zero, List.set_cons_succ]
      refine take_at 3 8 (fuel := 14) ?_ rfl rfl (by kernel_rfl) (by kernel_rfl) (by kernel_rfl) (Or.inl ⟨by rfl, ?_⟩) hSw ?_
      rotate_left
      · intro wx hSx
        (try dsimp only at hSx)
        go_split_ands
        go_simp
        (try with_reducible rfl)
      simp only [List.setIfInBounds_toArray, List.set_cons_zero, List.set_cons_succ]
      refine take_at 4 9 (fuel := 13) ?_ rfl rfl (by kernel_rfl) (by kernel_rfl) (by kernel_rfl) (Or.inl ⟨by rfl, ?_⟩) hSw ?_
      rotate_left
      · intro wx hSx
        (try dsimp only at hSx)
        go_split_ands
        go_simp
        (try with_reducible rfl)
      simp only [List.setIfInBounds_toArray, List.set_cons_zero, List.set_cons_succ]
      refine wpAnyH_ready (fuel := 12) (rs := [5]) (by kernel_rfl) (by simp) (AllReadyH.cons rfl (fun K hK => ?_) AllReadyH.nil)
      go_simp
      refine Calls.mono (check_c x _) ?_
      rintro e wv ⟨rfl, hb2⟩
      rw [d]
      refine hK.out _ _ (mk _ hb2) (fun hSw => ?_)
      clear hK K
      simp only [List.setIfInBounds_toArray, List.set_cons_zero, List.set_cons_succ]
      refine take_at 6 11 (fuel := 11) ?_ rfl rfl (by kernel_rfl) (by kernel_rfl) (by kernel_rfl) (Or.inl ⟨by rfl, ?_⟩) hSw ?_
      rotate_left
      · intro wx hSx
        (try dsimp only at hSx)
        go_split_ands
        go_simp
        (try with_reducible rfl)
      simp only [List.setIfInBounds_toArray, List.set_cons_zero, List.set_cons_succ]
      refine take_at 7 12 (fuel := 10) ?_ rfl rfl (by kernel_rfl) (by kernel_rfl) (by kernel_rfl) (Or.inl ⟨by rfl, ?_⟩) hSw ?_
      rotate_left
      · intro wx hSx
        (try dsimp only at hSx)
        go_split_ands
        go_simp
        (try with_reducible rfl)
      simp only [List.setIfInBounds_toArray, List.set_cons_zero, List.set_cons_succ]
      refine take_at 8 13 (fuel := 9) ?_ rfl rfl (by kernel_rfl) (by kernel_rfl) (by kernel_rfl) (Or.inl ⟨by rfl, ?_⟩) hSw ?_
      rotate_left
      · intro wx hSx
        (try dsimp only at hSx)
        go_split_ands
        go_simp
        (try with_reducible rfl)
      simp only [List.setIfInBounds_toArray, List.set_cons_zero, List.set_cons_succ]
      refine take_at 9 14 (fuel := 8) ?_ rfl rfl (by kernel_rfl) (by kernel_rfl) (by kernel_rfl) (Or.inl ⟨by rfl, ?_⟩) hSw ?_
      rotate_left
      · intro wx hSx
        (try dsimp only at hSx)
        go_split_ands
        go_simp
        (try with_reducible rfl)
      simp only [List.setIfInBounds_toArray, List.set_cons_zero, List.set_cons_succ]
      refine take_at 10 15 (fuel := 7) ?_ rfl rfl (by kernel_rfl) (by kernel_rfl) (by kernel_rfl) (Or.inl ⟨by rfl, ?_⟩) hSw ?_
      rotate_left
      · intro wx hSx
        (try dsimp only at hSx)
        go_split_ands
        go_simp
        (try with_reducible rfl)
      simp only [List.setIfInBounds_toArray, List.set_cons_zero, List.set_cons_succ]
      refine take_at 11 16 (fuel := 6) ?_ rfl rfl (by kernel_rfl) (by kernel_rfl) (by kernel_rfl) (Or.inl ⟨by rfl, ?_⟩) hSw ?_
      rotate_left
      · intro wx hSx
        (try dsimp only at hSx)
        go_split_ands
        go_simp
        (try with_reducible rfl)
      simp only [List.setIfInBounds_toArray, List.set_cons_zero, List.set_cons_succ]
      refine take_at 12 17 (fuel := 5) ?_ rfl rfl (by kernel_rfl) (by kernel_rfl) (by kernel_rfl) (Or.inl ⟨by rfl, ?_⟩) hSw ?_
      rotate_left
      · intro wx hSx
        (try dsimp only at hSx)
        go_split_ands
        go_simp
        (try with_reducible rfl)
      simp only [List.setIfInBounds_toArray, List.set_cons_zero, List.set_cons_succ]
      refine take_at 13 18 (fuel := 4) ?_ rfl rfl (by kernel_rfl) (by kernel_rfl) (by kernel_rfl) (Or.inl ⟨by rfl, ?_⟩) hSw ?_
      rotate_left
      · intro wx hSx
        (try dsimp only at hSx)
        go_split_ands
        go_simp
        (try with_reducible rfl)
      simp only [List.setIfInBounds_toArray, List.set_cons_zero, List.set_cons_succ]
      refine take_at 14 19 (fuel := 3) ?_ rfl rfl (by kernel_rfl) (by kernel_rfl) (by kernel_rfl) (Or.inl ⟨by rfl, ?_⟩) hSw ?_
      rotate_left
      · intro wx hSx
        (try dsimp only at hSx)
        go_split_ands
        go_simp
        (try with_reducible rfl)
      simp only [List.setIfInBounds_toArray, List.set_cons_zero, List.set_cons_succ]
      refine take_at 15 20 (fuel := 2) ?_ rfl rfl (by kernel_rfl) (by kernel_rfl) (by kernel_rfl) (Or.inl ⟨by rfl, ?_⟩) hSw ?_
      rotate_left
      · intro wx hSx
        (try dsimp only at hSx)
        go_split_ands
        go_simp
        (try with_reducible rfl)
      simp only [List.setIfInBounds_toArray, List.set_cons_zero, List.set_cons_succ]
      refine take_at 16 21 (fuel := 1) ?_ rfl rfl (by kernel_rfl) (by kernel_rfl) (by kernel_rfl) (Or.inl ⟨by rfl, ?_⟩) hSw ?_
      rotate_left
      · intro wx hSx
        (try dsimp only at hSx)
        go_split_ands
        go_simp
        (try with_reducible rfl)
      simp only [List.setIfInBounds_toArray, List.set_cons_zero, List.set_cons_succ]
      refine take_at 17 22 (fuel := 0) ?_ rfl rfl (by kernel_rfl) (by kernel_rfl) (by kernel_rfl) (Or.inl ⟨by rfl, ?_⟩) hSw ?_
      rotate_left
      · intro wx hSx
        (try dsimp only at hSx)
        go_split_ands
        go_simp
        (try with_reducible rfl)
      simp only [List.setIfInBounds_toArray, List.set_cons_zero, List.set_cons_succ]
      refine wpAnyH_done (by kernel_rfl) ⟨rfl, ?_⟩ 0
      have hb3 := hb.drew.trans (hb2.mono hb.drew.size)
      have hc2 : Blk w1.drew b CT c.cs := hc
      have hc3 := hc2.below hb2 hc.lt
      have hX2 : Blk w1.drew q VT x.cs := hX
      have hX3 := hX2.below hb2 hX.lt
      have hs3 : w1.heap.size ≤ _ := hb2.size
      have HB := Lib.hid hb3
      clear hSw hX hX2 hc hc2 hcd mk x0 x1 x2 x3 x4 x5 c0 hb2 d hb hb3
      have x0 : wv.cell? ⟨q, 0, none⟩ = some (.int .u64 (x.v : Int)) := hX3.cell 0
      have x1 : wv.cell? ⟨q, 1, none⟩ = some (.int .i64 x.pr) := hX3.cell 1
      have x2 : wv.cell? ⟨q, 2, none⟩ = some (.int .u64 (x.pl : Int)) := hX3.cell 2
      have x3 : wv.cell? ⟨q, 3, none⟩ = some (.int .i64 x.ba) := hX3.cell 3
      have x4 : wv.cell? ⟨q, 4, none⟩ = some (.int .u64 (x.bl : Int)) := hX3.cell 4
      have x5 : wv.cell? ⟨q, 5, none⟩ = some (.int .u64 (x.ep : Int)) := hX3.cell 5
      go_upto_region 3 with (fail)
      have hR : Blk (wv.setRow b (Ce.new x).cs) b CT (Ce.new x).cs := setRow_heap wv b _ _ _ (0, 0) hc3
      have hK : Kp (fun k => k = b) w (wv.setRow b (Ce.new x).cs) := kp_row (S := fun k => k = b) (Kp.of_below HB.out) (b := b) rfl _
      have hst : (storeVar CT ⟨b, 0, none⟩ (.agg #[.int .u64 (x.v : Int), .int .i64 x.pr, .int .u64 (x.pl : Int), .int .i64 x.ba, .int .u64 (x.bl : Int), .int .u64 (x.ep : Int), .int .u64 0, .int .u64 0, .int .u64 0, .int .i64 0, .int .u64 0, .int .i64 0, .int .u64 0, .int .u64 0])).run Try.prog wv = .ok () (wv.setRow b (Ce.new x).cs) := store_row info_CT hc3 rfl (all_one (Ce.new x).one)
      go_wp2_with (refine step_store CT (.tmp 26) (.tmp 25) ⟨b, 0, none⟩ (.agg #[.int .u64 (x.v : Int), .int .i64 x.pr, .int .u64 (x.pl : Int), .int .i64 x.ba, .int .u64 (x.bl : Int), .int .u64 (x.ep : Int), .int .u64 0, .int .u64 0, .int .u64 0, .int .i64 0, .int .u64 0, .int .i64 0, .int .u64 0, .int .u64 0]) rfl rfl rfl rfl rfl hst ?_)
      go_ret
      exact ⟨by rw [HL.out.1]; rfl, by rw [HL.out.2]; exact hR, hK⟩
  · have d : decide (May x) = false := decide_eq_false hm
    have hl : c.learns x = false := by
      unfold Ce.learns
      exact decide_eq_false (fun h => hm h.1)
    have HL := Lib.hid (And.intro hl (show c.learn x = c from by unfold Ce.learn; rw [hl]; rfl))
    clear hl
    refine region_only 18 #[false, false, false, false, false, false, false, false, false, false, false, false, false, false, false, false, false, false] (S := (fun W => W.cell? ⟨q, 0, none⟩ = some (.int .u64 (x.v : Int)) ∧ W.cell? ⟨q, 1, none⟩ = some (.int .i64 x.pr) ∧ W.cell? ⟨q, 2, none⟩ = some (.int .u64 (x.pl : Int)) ∧ W.cell? ⟨q, 3, none⟩ = some (.int .i64 x.ba) ∧ W.cell? ⟨q, 4, none⟩ = some (.int .u64 (x.bl : Int)) ∧ W.cell? ⟨q, 5, none⟩ = some (.int .u64 (x.ep : Int)) ∧ W.cell? ⟨b, 0, none⟩ = some (.int .u64 (c.ch.v : Int)))) rfl rfl (by kernel_rfl) ⟨x0, x1, x2, x3, x4, x5, c0⟩ (fun hSw => ?_)
    refine take_at 0 5 (fuel := 17) ?_ rfl rfl (by kernel_rfl) (by kernel_rfl) (by kernel_rfl) (Or.inl ⟨by rfl, ?_⟩) hSw ?_
    rotate_left
    · intro wx hSx
      (try dsimp only at hSx)
      go_split_ands
      go_simp
      (try with_reducible rfl)
    simp only [List.setIfInBounds_toArray, List.set_cons_zero, List.set_cons_succ]
    refine wpAnyH_ready (fuel := 16) (rs := [1]) (by kernel_rfl) (by simp) (AllReadyH.cons rfl (fun K hK => ?_) AllReadyH.nil)
    go_simp
    refine Calls.mono (made_c (c := c) hcd hne) ?_
    rintro e wv ⟨rfl, rfl⟩
    refine hK.out _ _ hSw (fun hSw => ?_)
    clear hK K
    simp only [List.setIfInBounds_toArray, List.set_cons_zero, List.set_cons_succ]
    refine take_at 2 7 (fuel := 15) ?_ rfl rfl (by kernel_rfl) (by kernel_rfl) (by kernel_rfl) (Or.inl ⟨by rfl, ?_⟩) hSw ?_
    rotate_left
    · intro wx hSx
      (try dsimp only at hSx)
      go_split_ands
      go_simp
      (try with_reducible rfl)
    simp only [List.setIfInBounds_toArray, List.set_cons_zero, List.set_cons_succ]
    refine take_at 3 8 (fuel := 14) ?_ rfl rfl (by kernel_rfl) (by kernel_rfl) (by kernel_rfl) (Or.inl ⟨by rfl, ?_⟩) hSw ?_
    rotate_left
    · intro wx hSx
      (try dsimp only at hSx)
      go_split_ands
      go_simp
      (try with_reducible rfl)
    simp only [List.setIfInBounds_toArray, List.set_cons_zero, List.set_cons_succ]
    refine take_at 4 9 (fuel := 13) ?_ rfl rfl (by kernel_rfl) (by kernel_rfl) (by kernel_rfl) (Or.inl ⟨by rfl, ?_⟩) hSw ?_
    rotate_left
    · intro wx hSx
      (try dsimp only at hSx)
      go_split_ands
      go_simp
      (try with_reducible rfl)
    simp only [List.setIfInBounds_toArray, List.set_cons_zero, List.set_cons_succ]
    refine wpAnyH_ready (fuel := 12) (rs := [5]) (by kernel_rfl) (by simp) (AllReadyH.cons rfl (fun K hK => ?_) AllReadyH.nil)
    go_simp
    refine Calls.mono (check_c x _) ?_
    rintro e wv ⟨rfl, hb2⟩
    rw [d]
    refine hK.out _ _ (mk _ hb2) (fun hSw => ?_)
    clear hK K
    simp only [List.setIfInBounds_toArray, List.set_cons_zero, List.set_cons_succ]
    refine take_at 6 11 (fuel := 11) ?_ rfl rfl (by kernel_rfl) (by kernel_rfl) (by kernel_rfl) (Or.inl ⟨by rfl, ?_⟩) hSw ?_
    rotate_left
    · intro wx hSx
      (try dsimp only at hSx)
      go_split_ands
      go_simp
      (try with_reducible rfl)
    simp only [List.setIfInBounds_toArray, List.set_cons_zero, List.set_cons_succ]
    refine take_at 7 12 (fuel := 10) ?_ rfl rfl (by kernel_rfl) (by kernel_rfl) (by kernel_rfl) (Or.inl ⟨by rfl, ?_⟩) hSw ?_
    rotate_left
    · intro wx hSx
      (try dsimp only at hSx)
      go_split_ands
      go_simp
      (try with_reducible rfl)
    simp only [List.setIfInBounds_toArray, List.set_cons_zero, List.set_cons_succ]
    refine take_at 8 13 (fuel := 9) ?_ rfl rfl (by kernel_rfl) (by kernel_rfl) (by kernel_rfl) (Or.inl ⟨by rfl, ?_⟩) hSw ?_
    rotate_left
    · intro wx hSx
      (try dsimp only at hSx)
      go_split_ands
      go_simp
      (try with_reducible rfl)
    simp only [List.setIfInBounds_toArray, List.set_cons_zero, List.set_cons_succ]
    refine take_at 9 14 undef (fuel := 8) rfl rfl (by kernel_rfl) (by kernel_rfl) (by kernel_rfl) (Or.inr ⟨by rfl, rfl⟩) hSw ?_
    simp only [List.setIfInBounds_toArray, List.set_cons_zero, List.set_cons_succ]
    refine take_at 10 15 undef (fuel := 7) rfl rfl (by kernel_rfl) (by kernel_rfl) (by kernel_rfl) (Or.inr ⟨by rfl, rfl⟩) hSw ?_
    simp only [List.setIfInBounds_toArray, List.set_cons_zero, List.set_cons_succ]
    refine take_at 11 16 undef (fuel := 6) rfl rfl (by kernel_rfl) (by kernel_rfl) (by kernel_rfl) (Or.inr ⟨by rfl, rfl⟩) hSw ?_
    simp only [List.setIfInBounds_toArray, List.set_cons_zero, List.set_cons_succ]
    refine take_at 12 17 undef (fuel := 5) rfl rfl (by kernel_rfl) (by kernel_rfl) (by kernel_rfl) (Or.inr ⟨by rfl, rfl⟩) hSw ?_
    simp only [List.setIfInBounds_toArray, List.set_cons_zero, List.set_cons_succ]
    refine take_at 13 18 undef (fuel := 4) rfl rfl (by kernel_rfl) (by kernel_rfl) (by kernel_rfl) (Or.inr ⟨by rfl, rfl⟩) hSw ?_
    simp only [List.setIfInBounds_toArray, List.set_cons_zero, List.set_cons_succ]
    refine take_at 14 19 undef (fuel := 3) rfl rfl (by kernel_rfl) (by kernel_rfl) (by kernel_rfl) (Or.inr ⟨by rfl, rfl⟩) hSw ?_
    simp only [List.setIfInBounds_toArray, List.set_cons_zero, List.set_cons_succ]
    refine take_at 15 20 undef (fuel := 2) rfl rfl (by kernel_rfl) (by kernel_rfl) (by kernel_rfl) (Or.inr ⟨by rfl, rfl⟩) hSw ?_
    simp only [List.setIfInBounds_toArray, List.set_cons_zero, List.set_cons_succ]
    refine take_at 16 21 undef (fuel := 1) rfl rfl (by kernel_rfl) (by kernel_rfl) (by kernel_rfl) (Or.inr ⟨by rfl, rfl⟩) hSw ?_
    simp only [List.setIfInBounds_toArray, List.set_cons_zero, List.set_cons_succ]
    refine take_at 17 22 (fuel := 0) ?_ rfl rfl (by kernel_rfl) (by kernel_rfl) (by kernel_rfl) (Or.inl ⟨by rfl, ?_⟩) hSw ?_
    rotate_left
    · intro wx hSx
      (try dsimp only at hSx)
      go_split_ands
      go_simp
      (try with_reducible rfl)
    simp only [List.setIfInBounds_toArray, List.set_cons_zero, List.set_cons_succ]
    refine wpAnyH_done (by kernel_rfl) ⟨rfl, ?_⟩ 0
    have hb3 := hb.drew.trans (hb2.mono hb.drew.size)
    have hc2 : Blk w1.drew b CT c.cs := hc
    have hc3 := hc2.below hb2 hc.lt
    have hX2 : Blk w1.drew q VT x.cs := hX
    have hX3 := hX2.below hb2 hX.lt
    have hs3 : w1.heap.size ≤ _ := hb2.size
    have HB := Lib.hid hb3
    clear hSw hX hX2 hc hc2 hcd mk x0 x1 x2 x3 x4 x5 c0 hb2 d hb hb3
    go_wp2_with fail
    go_ret
    exact ⟨by rw [HL.out.1]; rfl, by rw [HL.out.2]; exact hc3, Kp.of_below HB.out⟩
theorem kp_up {w w1 w2 : World} {b q : Nat} (hb : Below w.heap.size w w1) (h : Kp (fun k => k = b ∨ k = q) w1 w2) (hq : w.heap.size ≤ q) : Kp (fun k => k = b) w w2 :=
  ⟨h.os.trans hb.os, h.tape.trans hb.tape, h.output.trans hb.output, Nat.le_trans hb.size h.size, fun k hk hn => (h.block k (Nat.lt_of_lt_of_le hk hb.size) (fun hs => hs.elim hn (fun e => by omega))).trans (hb.block k hk)⟩
set_option maxHeartbeats 4000000 in
set_option maxRecDepth 100000 in
theorem prep_c (n : Nat) (h : Blk w b CT c.cs) (hne : c.ch ≠ noV) : Calls Try.prog 10 #[cp b, .agg x.cs, .int .u64 (n : Int)] w fun e w' => e = .returned (.agg ((c.prep x n).told (c.preps x n))) ∧ Blk w' b CT (c.prep x n).cs ∧ Kp (fun k => k = b) w w' := by
  have hX := (Blk.new w VT x.cs).alloc (.cells zP PT)
  have hR := Blk.new (w.alloc (.cells x.cs VT)) PT zP
  have hb := ((Below.refl _ w).alloc (Nat.le_refl _) (.cells x.cs VT)).alloc (by simp) (.cells zP PT)
  have hc := (h.alloc (.cells x.cs VT)).alloc (.cells zP PT)
  have hs : ((w.alloc (.cells x.cs VT)).alloc (.cells zP PT)).heap.size = w.heap.size + 2 := by simp
  have e1 : (w.alloc (.cells x.cs VT)).heap.size = w.heap.size + 1 := by simp
  rw [e1] at hR
  have hbq : b < w.heap.size := h.lt
  clear h e1
  go_enter Try.func10, Try.ntmps10
  go_upto_region 1 with (fail)
  generalize (w.alloc (.cells _ VT)).alloc (.cells _ PT) = w1 at *
  generalize hq : w.heap.size = q at hX hR hs hbq ⊢
  have hM := made_c (c := c) hc hne
  go_wp2_with fail
  refine hM.mono ?_
  rintro e w2 ⟨rfl, rfl⟩
  clear hM
  have x0 : w1.cell? ⟨q, 0, none⟩ = some (.int .u64 (x.v : Int)) := hX.cell 0
  have x1 : w1.cell? ⟨q, 1, none⟩ = some (.int .i64 x.pr) := hX.cell 1
  have x2 : w1.cell? ⟨q, 2, none⟩ = some (.int .u64 (x.pl : Int)) := hX.cell 2
  have x3 : w1.cell? ⟨q, 3, none⟩ = some (.int .i64 x.ba) := hX.cell 3
  have x4 : w1.cell? ⟨q, 4, none⟩ = some (.int .u64 (x.bl : Int)) := hX.cell 4
  have x5 : w1.cell? ⟨q, 5, none⟩ = some (.int .u64 (x.ep : Int)) := hX.cell 5
  go_wp2_with fail
  refine (learn_c (c := c) (x := x) hc hne).mono ?_
  rintro e w3 ⟨rfl, hc3, hk⟩
  have hX3 := hk.blk hX (by omega)
  have hR3 := hk.blk hR (by omega)
  have hK3 : Kp (fun k => k = b ∨ k = q + 1) w1 w3 := ⟨hk.os, hk.tape, hk.output, hk.size, fun k h1 h2 => hk.block k h1 (fun h => h2 (.inl h))⟩
  have HB := Lib.hid hb
  have HC : Hid (c.learn x = c.learn x) := Lib.hid rfl
  generalize hcc : c.learn x = c1 at hc3
  replace HC := Lib.hid hcc
  clear hk hX hR hc hb hcc x0 x1 x2 x3 x4 x5
  have x0 : w3.cell? ⟨q, 0, none⟩ = some (.int .u64 (x.v : Int)) := hX3.cell 0
  have x1 : w3.cell? ⟨q, 1, none⟩ = some (.int .i64 x.pr) := hX3.cell 1
  have x2 : w3.cell? ⟨q, 2, none⟩ = some (.int .u64 (x.pl : Int)) := hX3.cell 2
  have x3 : w3.cell? ⟨q, 3, none⟩ = some (.int .i64 x.ba) := hX3.cell 3
  have x4 : w3.cell? ⟨q, 4, none⟩ = some (.int .u64 (x.bl : Int)) := hX3.cell 4
  have x5 : w3.cell? ⟨q, 5, none⟩ = some (.int .u64 (x.ep : Int)) := hX3.cell 5
  have y0 : w3.cell? ⟨b, 0, none⟩ = some (.int .u64 (c1.ch.v : Int)) := hc3.cell 0
  have y1 : w3.cell? ⟨b, 1, none⟩ = some (.int .i64 c1.ch.pr) := hc3.cell 1
  have y2 : w3.cell? ⟨b, 2, none⟩ = some (.int .u64 (c1.ch.pl : Int)) := hc3.cell 2
  have y3 : w3.cell? ⟨b, 3, none⟩ = some (.int .i64 c1.ch.ba) := hc3.cell 3
  have y4 : w3.cell? ⟨b, 4, none⟩ = some (.int .u64 (c1.ch.bl : Int)) := hc3.cell 4
  have y5 : w3.cell? ⟨b, 5, none⟩ = some (.int .u64 (c1.ch.ep : Int)) := hc3.cell 5
  by_cases hxe : x = c1.ch
  · by_cases hlt : c1.most < n
    · have hlt0 := hlt
      have hp : c.preps x n = true := by
        unfold Ce.preps
        rw [HC.out]
        exact decide_eq_true ⟨hxe, hlt⟩
      have hpc : c.prep x n = ⟨c1.ch, n, c1.bal, c1.val⟩ := by
        unfold Ce.prep
        rw [hp, HC.out]
        rfl
      have HP := Lib.hid (And.intro hp hpc)
      clear hp hpc
      have he : ∀ w, (Op.equalIn 10000 VT (.agg x.cs) (.agg c1.ch.cs)).run Try.prog w = .ok true w := fun w => by rw [hxe]; exact eq_yes _ w
      have n1 : decide ((c1.most : Int) < (n : Int)) = true := decide_eq_true (by omega)
      have n2 : decide (c1.most < n) = true := decide_eq_true hlt
      clear hxe hlt
      have y6 : w3.cell? ⟨b, 6, none⟩ = some (.int .u64 (c1.most : Int)) := hc3.cell 6
      go_upto_region 4 with (fail)
      refine region_only 15 #[false, false, false, false, false, false, false, false, false, false, false, false, false, false, false] (S := (fun W => W.cell? ⟨q, 0, none⟩ = some (.int .u64 (x.v : Int)) ∧ W.cell? ⟨q, 1, none⟩ = some (.int .i64 x.pr) ∧ W.cell? ⟨q, 2, none⟩ = some (.int .u64 (x.pl : Int)) ∧ W.cell? ⟨q, 3, none⟩ = some (.int .i64 x.ba) ∧ W.cell? ⟨q, 4, none⟩ = some (.int .u64 (x.bl : Int)) ∧ W.cell? ⟨q, 5, none⟩ = some (.int .u64 (x.ep : Int)) ∧ W.cell? ⟨b, 0, none⟩ = some (.int .u64 (c1.ch.v : Int)) ∧ W.cell? ⟨b, 1, none⟩ = some (.int .i64 c1.ch.pr) ∧ W.cell? ⟨b, 2, none⟩ = some (.int .u64 (c1.ch.pl : Int)) ∧ W.cell? ⟨b, 3, none⟩ = some (.int .i64 c1.ch.ba) ∧ W.cell? ⟨b, 4, none⟩ = some (.int .u64 (c1.ch.bl : Int)) ∧ W.cell? ⟨b, 5, none⟩ = some (.int .u64 (c1.ch.ep : Int)) ∧ W.cell? ⟨b, 6, none⟩ = some (.int .u64 (c1.most : Int)))) rfl rfl (by kernel_rfl) ⟨x0, x1, x2, x3, x4, x5, y0, y1, y2, y3, y4, y5, y6⟩ (fun hSw => ?_)
      refine take_at 0 15 (fuel := 14) ?_ rfl rfl (by kernel_rfl) (by kernel_rfl) (by kernel_rfl) (Or.inl ⟨by rfl, ?_⟩) hSw ?_
      rotate_left
      · intro wx hSx
        (try dsimp only at hSx)
        go_split_ands
        go_simp
        (try with_reducible rfl)
      simp only [List.setIfInBounds_toArray, List.set_cons_zero, List.set_cons_succ]
      refine take_at 1 16 (fuel := 13) ?_ rfl rfl (by kernel_rfl) (by kernel_rfl) (by kernel_rfl) (Or.inl ⟨by rfl, ?_⟩) hSw ?_
      rotate_left
      · intro wx hSx
        (try dsimp only at hSx)
        go_split_ands
        go_simp
        (try with_reducible rfl)
      simp only [List.setIfInBounds_toArray, List.set_cons_zero, List.set_cons_succ]
      refine take_at 2 17 (fuel := 12) ?_ rfl rfl (by kernel_rfl) (by kernel_rfl) (by kernel_rfl) (Or.inl ⟨by rfl, ?_⟩) hSw ?_
      rotate_left
      · intro wx hSx
        (try dsimp only at hSx)
        go_split_ands
        go_simp
        (try with_reducible rfl)
      simp only [List.setIfInBounds_toArray, List.set_cons_zero, List.set_cons_succ]
      refine take_at 3 18 (fuel := 11) ?_ rfl rfl (by kernel_rfl) (by kernel_rfl) (by kernel_rfl) (Or.inl ⟨by rfl, ?_⟩) hSw ?_
      rotate_left
      · intro wx hSx
        (try dsimp only at hSx)
        go_split_ands
        go_simp
        (try with_reducible rfl)
      simp only [List.setIfInBounds_toArray, List.set_cons_zero, List.set_cons_succ]
      refine take_at 4 19 (fuel := 10) ?_ rfl rfl (by kernel_rfl) (by kernel_rfl) (by kernel_rfl) (Or.inl ⟨by rfl, ?_⟩) hSw ?_
      rotate_left
      · intro wx hSx
        (try dsimp only at hSx)
        go_split_ands
        go_simp
        (try with_reducible rfl)
      simp only [List.setIfInBounds_toArray, List.set_cons_zero, List.set_cons_succ]
      refine take_at 5 20 (fuel := 9) ?_ rfl rfl (by kernel_rfl) (by kernel_rfl) (by kernel_rfl) (Or.inl ⟨by rfl, ?_⟩) hSw ?_
      rotate_left
      · intro wx hSx
        (try dsimp only at hSx)
        go_split_ands
        go_simp
        (try with_reducible rfl)
      simp only [List.setIfInBounds_toArray, List.set_cons_zero, List.set_cons_succ]
      refine take_at 6 21 (fuel := 8) ?_ rfl rfl (by kernel_rfl) (by kernel_rfl) (by kernel_rfl) (Or.inl ⟨by rfl, ?_⟩) hSw ?_
      rotate_left
      · intro wx hSx
        (try dsimp only at hSx)
        go_split_ands
        go_simp
        (try with_reducible rfl)
      simp only [List.setIfInBounds_toArray, List.set_cons_zero, List.set_cons_succ]
      refine take_at 7 22 (fuel := 7) ?_ rfl rfl (by kernel_rfl) (by kernel_rfl) (by kernel_rfl) (Or.inl ⟨by rfl, ?_⟩) hSw ?_
      rotate_left
      · intro wx hSx
        (try dsimp only at hSx)
        go_split_ands
        go_simp
        (try with_reducible rfl)
      simp only [List.setIfInBounds_toArray, List.set_cons_zero, List.set_cons_succ]
      refine take_at 8 23 (fuel := 6) ?_ rfl rfl (by kernel_rfl) (by kernel_rfl) (by kernel_rfl) (Or.inl ⟨by rfl, ?_⟩) hSw ?_
      rotate_left
      · intro wx hSx
        (try dsimp only at hSx)
        go_split_ands
        go_simp
        (try with_reducible rfl)
      simp only [List.setIfInBounds_toArray, List.set_cons_zero, List.set_cons_succ]
      refine take_at 9 24 (fuel := 5) ?_ rfl rfl (by kernel_rfl) (by kernel_rfl) (by kernel_rfl) (Or.inl ⟨by rfl, ?_⟩) hSw ?_
      rotate_left
      · intro wx hSx
        (try dsimp only at hSx)
        go_split_ands
        go_simp
        (try with_reducible rfl)
      simp only [List.setIfInBounds_toArray, List.set_cons_zero, List.set_cons_succ]
      refine take_at 10 25 (fuel := 4) ?_ rfl rfl (by kernel_rfl) (by kernel_rfl) (by kernel_rfl) (Or.inl ⟨by rfl, ?_⟩) hSw ?_
      rotate_left
      · intro wx hSx
        (try dsimp only at hSx)
        go_split_ands
        go_simp
        (try with_reducible rfl)
      simp only [List.setIfInBounds_toArray, List.set_cons_zero, List.set_cons_succ]
      refine take_at 11 26 (fuel := 3) ?_ rfl rfl (by kernel_rfl) (by kernel_rfl) (by kernel_rfl) (Or.inl ⟨by rfl, ?_⟩) hSw ?_
      rotate_left
      · intro wx hSx
        (try dsimp only at hSx)
        go_split_ands
        go_simp
        (try with_reducible rfl)
      simp only [List.setIfInBounds_toArray, List.set_cons_zero, List.set_cons_succ]
      refine take_at 12 27 (fuel := 2) ?_ rfl rfl (by kernel_rfl) (by kernel_rfl) (by kernel_rfl) (Or.inl ⟨by rfl, ?_⟩) hSw ?_
      rotate_left
      · intro wx hSx
        (try dsimp only at hSx)
        go_split_ands
        go_simp
        (try with_reducible rfl)
      simp only [List.setIfInBounds_toArray, List.set_cons_zero, List.set_cons_succ]
      refine take_at 13 28 (fuel := 1) ?_ rfl rfl (by kernel_rfl) (by kernel_rfl) (by kernel_rfl) (Or.inl ⟨by rfl, ?_⟩) hSw ?_
      rotate_left
      · intro wx hSx
        (try dsimp only at hSx)
        go_split_ands
        go_simp
        (try with_reducible rfl)
      simp only [List.setIfInBounds_toArray, List.set_cons_zero, List.set_cons_succ]
      refine take_at 14 7 (fuel := 0) ?_ rfl rfl (by kernel_rfl) (by kernel_rfl) (by kernel_rfl) (Or.inl ⟨by rfl, ?_⟩) hSw ?_
      rotate_left
      · intro wx hSx
        (try dsimp only at hSx)
        go_split_ands
        go_simp
        (try with_reducible rfl)
      simp only [List.setIfInBounds_toArray, List.set_cons_zero, List.set_cons_succ]
      refine wpAnyH_done (by kernel_rfl) ⟨rfl, ?_⟩ 0
      have hc3 : Blk w3.drew b CT c1.cs := hc3
      have hR3 : Blk w3.drew (q + 1) PT zP := hR3
      replace hK3 : Kp (fun k => k = b ∨ k = q + 1) w1 w3.drew := hK3.trans (Kp.of_below (Below.drew (Below.refl _ w3)))
      clear hSw hX3 y0 y1 y2 y3 y4 y5 y6 x0 x1 x2 x3 x4 x5 he n1 n2
      generalize w3.drew = w4 at *
      have g6 : w4.cell? ⟨b, 6, none⟩ = some (.int .u64 (c1.most : Int)) := hc3.cell 6
      have f6 := hc3.free 6
      have hc4 : Blk (w4.setCell ⟨b, 6, none⟩ (.int .u64 (n : Int))) b CT (Ce.mk c1.ch n c1.bal c1.val).cs := hc3.put 6 _
      have hR4 := hR3.far (p := ⟨b, 6, none⟩) (by show q + 1 ≠ b; omega) (.int .u64 (n : Int))
      have hK4 := hK3.set (p := ⟨b, 6, none⟩) (.inl rfl) (.int .u64 (n : Int))
      clear hc3 hR3 hK3
      go_upto_region 7 with (fail)
      clear g6 f6
      generalize w4.setCell _ _ = w6 at *
      go_wp2_with fail
      refine (tell_c (c := (Ce.mk c1.ch n c1.bal c1.val)) true hc4).mono ?_
      rintro e w5 ⟨rfl, hb5⟩
      have hc5 := hc4.below hb5 hc4.lt
      have hR5 := hR4.below hb5 hR4.lt
      have hK5 := hK4.trans (Kp.of_below (S := fun k => k = b ∨ k = q + 1) hb5)
      have hK6 := kp_row (b := q + 1) hK5 (.inr rfl) ((Ce.mk c1.ch n c1.bal c1.val).told true)
      have hc6 : Blk (w5.setRow (q + 1) ((Ce.mk c1.ch n c1.bal c1.val).told true)) b CT ((Ce.mk c1.ch n c1.bal c1.val)).cs := (setRow_other w5 (q + 1) b _ (by omega)).trans hc5
      have hR6 : Blk (w5.setRow (q + 1) ((Ce.mk c1.ch n c1.bal c1.val).told true)) (q + 1) PT ((Ce.mk c1.ch n c1.bal c1.val).told true) := setRow_heap w5 (q + 1) _ _ _ (0, 0) hR5
      have hst : (storeVar PT ⟨q + 1, 0, none⟩ (.agg ((Ce.mk c1.ch n c1.bal c1.val).told true))).run Try.prog w5 = .ok () (w5.setRow (q + 1) ((Ce.mk c1.ch n c1.bal c1.val).told true)) := store_row info_PT hR5 rfl (all_one (Ce.told_one _ _))
      have HK := Lib.hid hK6
      clear hb5 hc4 hR4 hK4 hc5 hR5 hK5 hK6
      go_wp2_with (refine step_store PT (.tmp 6) (.tmp 36) ⟨q + 1, 0, none⟩ (.agg ((Ce.mk c1.ch n c1.bal c1.val).told true)) rfl rfl rfl rfl rfl hst ?_)
      refine bodyPost_ret (results_cell_row rfl _ _ (q + 1) PT _ _ _ rfl hR6 Try.underlying33 rfl (by kernel_rfl)) rfl ?_
      exact ⟨by rw [HP.out.1, HP.out.2], by rw [HP.out.2]; exact hc6, kp_up HB.out HK.out (by omega)⟩
    · have hlt0 := hlt
      have hp : c.preps x n = false := by
        unfold Ce.preps
        rw [HC.out]
        exact decide_eq_false (fun h => hlt h.2)
      have hpc : c.prep x n = c1 := by
        unfold Ce.prep
        rw [hp, HC.out]
        rfl
      have HP := Lib.hid (And.intro hp hpc)
      clear hp hpc
      have he : ∀ w, (Op.equalIn 10000 VT (.agg x.cs) (.agg c1.ch.cs)).run Try.prog w = .ok true w := fun w => by rw [hxe]; exact eq_yes _ w
      have n1 : decide ((c1.most : Int) < (n : Int)) = false := decide_eq_false (by omega)
      have n2 : decide (c1.most < n) = false := decide_eq_false hlt
      clear hxe hlt
      have y6 : w3.cell? ⟨b, 6, none⟩ = some (.int .u64 (c1.most : Int)) := hc3.cell 6
      go_upto_region 4 with (fail)
      refine region_only 15 #[false, false, false, false, false, false, false, false, false, false, false, false, false, false, false] (S := (fun W => W.cell? ⟨q, 0, none⟩ = some (.int .u64 (x.v : Int)) ∧ W.cell? ⟨q, 1, none⟩ = some (.int .i64 x.pr) ∧ W.cell? ⟨q, 2, none⟩ = some (.int .u64 (x.pl : Int)) ∧ W.cell? ⟨q, 3, none⟩ = some (.int .i64 x.ba) ∧ W.cell? ⟨q, 4, none⟩ = some (.int .u64 (x.bl : Int)) ∧ W.cell? ⟨q, 5, none⟩ = some (.int .u64 (x.ep : Int)) ∧ W.cell? ⟨b, 0, none⟩ = some (.int .u64 (c1.ch.v : Int)) ∧ W.cell? ⟨b, 1, none⟩ = some (.int .i64 c1.ch.pr) ∧ W.cell? ⟨b, 2, none⟩ = some (.int .u64 (c1.ch.pl : Int)) ∧ W.cell? ⟨b, 3, none⟩ = some (.int .i64 c1.ch.ba) ∧ W.cell? ⟨b, 4, none⟩ = some (.int .u64 (c1.ch.bl : Int)) ∧ W.cell? ⟨b, 5, none⟩ = some (.int .u64 (c1.ch.ep : Int)) ∧ W.cell? ⟨b, 6, none⟩ = some (.int .u64 (c1.most : Int)))) rfl rfl (by kernel_rfl) ⟨x0, x1, x2, x3, x4, x5, y0, y1, y2, y3, y4, y5, y6⟩ (fun hSw => ?_)
      refine take_at 0 15 (fuel := 14) ?_ rfl rfl (by kernel_rfl) (by kernel_rfl) (by kernel_rfl) (Or.inl ⟨by rfl, ?_⟩) hSw ?_
      rotate_left
      · intro wx hSx
        (try dsimp only at hSx)
        go_split_ands
        go_simp
        (try with_reducible rfl)
      simp only [List.setIfInBounds_toArray, List.set_cons_zero, List.set_cons_succ]
      refine take_at 1 16 (fuel := 13) ?_ rfl rfl (by kernel_rfl) (by kernel_rfl) (by kernel_rfl) (Or.inl ⟨by rfl, ?_⟩) hSw ?_
      rotate_left
      · intro wx hSx
        (try dsimp only at hSx)
        go_split_ands
        go_simp
        (try with_reducible rfl)
      simp only [List.setIfInBounds_toArray, List.set_cons_zero, List.set_cons_succ]
      refine take_at 2 17 (fuel := 12) ?_ rfl rfl (by kernel_rfl) (by kernel_rfl) (by kernel_rfl) (Or.inl ⟨by rfl, ?_⟩) hSw ?_
      rotate_left
      · intro wx hSx
        (try dsimp only at hSx)
        go_split_ands
        go_simp
        (try with_reducible rfl)
      simp only [List.setIfInBounds_toArray, List.set_cons_zero, List.set_cons_succ]
      refine take_at 3 18 (fuel := 11) ?_ rfl rfl (by kernel_rfl) (by kernel_rfl) (by kernel_rfl) (Or.inl ⟨by rfl, ?_⟩) hSw ?_
      rotate_left
      · intro wx hSx
        (try dsimp only at hSx)
        go_split_ands
        go_simp
        (try with_reducible rfl)
      simp only [List.setIfInBounds_toArray, List.set_cons_zero, List.set_cons_succ]
      refine take_at 4 19 (fuel := 10) ?_ rfl rfl (by kernel_rfl) (by kernel_rfl) (by kernel_rfl) (Or.inl ⟨by rfl, ?_⟩) hSw ?_
      rotate_left
      · intro wx hSx
        (try dsimp only at hSx)
        go_split_ands
        go_simp
        (try with_reducible rfl)
      simp only [List.setIfInBounds_toArray, List.set_cons_zero, List.set_cons_succ]
      refine take_at 5 20 (fuel := 9) ?_ rfl rfl (by kernel_rfl) (by kernel_rfl) (by kernel_rfl) (Or.inl ⟨by rfl, ?_⟩) hSw ?_
      rotate_left
      · intro wx hSx
        (try dsimp only at hSx)
        go_split_ands
        go_simp
        (try with_reducible rfl)
      simp only [List.setIfInBounds_toArray, List.set_cons_zero, List.set_cons_succ]
      refine take_at 6 21 (fuel := 8) ?_ rfl rfl (by kernel_rfl) (by kernel_rfl) (by kernel_rfl) (Or.inl ⟨by rfl, ?_⟩) hSw ?_
      rotate_left
      · intro wx hSx
        (try dsimp only at hSx)
        go_split_ands
        go_simp
        (try with_reducible rfl)
      simp only [List.setIfInBounds_toArray, List.set_cons_zero, List.set_cons_succ]
      refine take_at 7 22 (fuel := 7) ?_ rfl rfl (by kernel_rfl) (by kernel_rfl) (by kernel_rfl) (Or.inl ⟨by rfl, ?_⟩) hSw ?_
      rotate_left
      · intro wx hSx
        (try dsimp only at hSx)
        go_split_ands
        go_simp
        (try with_reducible rfl)
      simp only [List.setIfInBounds_toArray, List.set_cons_zero, List.set_cons_succ]
      refine take_at 8 23 (fuel := 6) ?_ rfl rfl (by kernel_rfl) (by kernel_rfl) (by kernel_rfl) (Or.inl ⟨by rfl, ?_⟩) hSw ?_
      rotate_left
      · intro wx hSx
        (try dsimp only at hSx)
        go_split_ands
        go_simp
        (try with_reducible rfl)
      simp only [List.setIfInBounds_toArray, List.set_cons_zero, List.set_cons_succ]
      refine take_at 9 24 (fuel := 5) ?_ rfl rfl (by kernel_rfl) (by kernel_rfl) (by kernel_rfl) (Or.inl ⟨by rfl, ?_⟩) hSw ?_
      rotate_left
      · intro wx hSx
        (try dsimp only at hSx)
        go_split_ands
        go_simp
        (try with_reducible rfl)
      simp only [List.setIfInBounds_toArray, List.set_cons_zero, List.set_cons_succ]
      refine take_at 10 25 (fuel := 4) ?_ rfl rfl (by kernel_rfl) (by kernel_rfl) (by kernel_rfl) (Or.inl ⟨by rfl, ?_⟩) hSw ?_
      rotate_left
      · intro wx hSx
        (try dsimp only at hSx)
        go_split_ands
        go_simp
        (try with_reducible rfl)
      simp only [List.setIfInBounds_toArray, List.set_cons_zero, List.set_cons_succ]
      refine take_at 11 26 (fuel := 3) ?_ rfl rfl (by kernel_rfl) (by kernel_rfl) (by kernel_rfl) (Or.inl ⟨by rfl, ?_⟩) hSw ?_
      rotate_left
      · intro wx hSx
        (try dsimp only at hSx)
        go_split_ands
        go_simp
        (try with_reducible rfl)
      simp only [List.setIfInBounds_toArray, List.set_cons_zero, List.set_cons_succ]
      refine take_at 12 27 (fuel := 2) ?_ rfl rfl (by kernel_rfl) (by kernel_rfl) (by kernel_rfl) (Or.inl ⟨by rfl, ?_⟩) hSw ?_
      rotate_left
      · intro wx hSx
        (try dsimp only at hSx)
        go_split_ands
        go_simp
        (try with_reducible rfl)
      simp only [List.setIfInBounds_toArray, List.set_cons_zero, List.set_cons_succ]
      refine take_at 13 28 (fuel := 1) ?_ rfl rfl (by kernel_rfl) (by kernel_rfl) (by kernel_rfl) (Or.inl ⟨by rfl, ?_⟩) hSw ?_
      rotate_left
      · intro wx hSx
        (try dsimp only at hSx)
        go_split_ands
        go_simp
        (try with_reducible rfl)
      simp only [List.setIfInBounds_toArray, List.set_cons_zero, List.set_cons_succ]
      refine take_at 14 7 (fuel := 0) ?_ rfl rfl (by kernel_rfl) (by kernel_rfl) (by kernel_rfl) (Or.inl ⟨by rfl, ?_⟩) hSw ?_
      rotate_left
      · intro wx hSx
        (try dsimp only at hSx)
        go_split_ands
        go_simp
        (try with_reducible rfl)
      simp only [List.setIfInBounds_toArray, List.set_cons_zero, List.set_cons_succ]
      refine wpAnyH_done (by kernel_rfl) ⟨rfl, ?_⟩ 0
      have hc3 : Blk w3.drew b CT c1.cs := hc3
      have hR3 : Blk w3.drew (q + 1) PT zP := hR3
      replace hK3 : Kp (fun k => k = b ∨ k = q + 1) w1 w3.drew := hK3.trans (Kp.of_below (Below.drew (Below.refl _ w3)))
      clear hSw hX3 y0 y1 y2 y3 y4 y5 y6 x0 x1 x2 x3 x4 x5 he n1 n2
      generalize w3.drew = w4 at *
      have hc4 := hc3
      have hR4 := hR3
      have hK4 := hK3
      clear hc3 hR3 hK3
      go_wp2_with fail
      refine (tell_c (c := c1) false hc4).mono ?_
      rintro e w5 ⟨rfl, hb5⟩
      have hc5 := hc4.below hb5 hc4.lt
      have hR5 := hR4.below hb5 hR4.lt
      have hK5 := hK4.trans (Kp.of_below (S := fun k => k = b ∨ k = q + 1) hb5)
      have hK6 := kp_row (b := q + 1) hK5 (.inr rfl) (c1.told false)
      have hc6 : Blk (w5.setRow (q + 1) (c1.told false)) b CT (c1).cs := (setRow_other w5 (q + 1) b _ (by omega)).trans hc5
      have hR6 : Blk (w5.setRow (q + 1) (c1.told false)) (q + 1) PT (c1.told false) := setRow_heap w5 (q + 1) _ _ _ (0, 0) hR5
      have hst : (storeVar PT ⟨q + 1, 0, none⟩ (.agg (c1.told false))).run Try.prog w5 = .ok () (w5.setRow (q + 1) (c1.told false)) := store_row info_PT hR5 rfl (all_one (Ce.told_one _ _))
      have HK := Lib.hid hK6
      clear hb5 hc4 hR4 hK4 hc5 hR5 hK5 hK6
      go_wp2_with (refine step_store PT (.tmp 6) (.tmp 36) ⟨q + 1, 0, none⟩ (.agg (c1.told false)) rfl rfl rfl rfl rfl hst ?_)
      refine bodyPost_ret (results_cell_row rfl _ _ (q + 1) PT _ _ _ rfl hR6 Try.underlying33 rfl (by kernel_rfl)) rfl ?_
      exact ⟨by rw [HP.out.1, HP.out.2], by rw [HP.out.2]; exact hc6, kp_up HB.out HK.out (by omega)⟩
  · have hxe0 := hxe
    have hp : c.preps x n = false := by
      unfold Ce.preps
      rw [HC.out]
      exact decide_eq_false (fun h => hxe h.1)
    have hpc : c.prep x n = c1 := by
      unfold Ce.prep
      rw [hp, HC.out]
      rfl
    have HP := Lib.hid (And.intro hp hpc)
    clear hp hpc
    have he : ∀ w, (Op.equalIn 10000 VT (.agg x.cs) (.agg c1.ch.cs)).run Try.prog w = .ok false w := fun w => eq_no hxe w
    clear hxe
    have y6 : w3.cell? ⟨b, 6, none⟩ = some (.int .u64 (c1.most : Int)) := hc3.cell 6
    go_upto_region 4 with (fail)
    refine region_only 15 #[false, false, false, false, false, false, false, false, false, false, false, false, false, false, false] (S := (fun W => W.cell? ⟨q, 0, none⟩ = some (.int .u64 (x.v : Int)) ∧ W.cell? ⟨q, 1, none⟩ = some (.int .i64 x.pr) ∧ W.cell? ⟨q, 2, none⟩ = some (.int .u64 (x.pl : Int)) ∧ W.cell? ⟨q, 3, none⟩ = some (.int .i64 x.ba) ∧ W.cell? ⟨q, 4, none⟩ = some (.int .u64 (x.bl : Int)) ∧ W.cell? ⟨q, 5, none⟩ = some (.int .u64 (x.ep : Int)) ∧ W.cell? ⟨b, 0, none⟩ = some (.int .u64 (c1.ch.v : Int)) ∧ W.cell? ⟨b, 1, none⟩ = some (.int .i64 c1.ch.pr) ∧ W.cell? ⟨b, 2, none⟩ = some (.int .u64 (c1.ch.pl : Int)) ∧ W.cell? ⟨b, 3, none⟩ = some (.int .i64 c1.ch.ba) ∧ W.cell? ⟨b, 4, none⟩ = some (.int .u64 (c1.ch.bl : Int)) ∧ W.cell? ⟨b, 5, none⟩ = some (.int .u64 (c1.ch.ep : Int)) ∧ W.cell? ⟨b, 6, none⟩ = some (.int .u64 (c1.most : Int)))) rfl rfl (by kernel_rfl) ⟨x0, x1, x2, x3, x4, x5, y0, y1, y2, y3, y4, y5, y6⟩ (fun hSw => ?_)
    refine take_at 0 15 (fuel := 14) ?_ rfl rfl (by kernel_rfl) (by kernel_rfl) (by kernel_rfl) (Or.inl ⟨by rfl, ?_⟩) hSw ?_
    rotate_left
    · intro wx hSx
      (try dsimp only at hSx)
      go_split_ands
      go_simp
      (try with_reducible rfl)
    simp only [List.setIfInBounds_toArray, List.set_cons_zero, List.set_cons_succ]
    refine take_at 1 16 (fuel := 13) ?_ rfl rfl (by kernel_rfl) (by kernel_rfl) (by kernel_rfl) (Or.inl ⟨by rfl, ?_⟩) hSw ?_
    rotate_left
    · intro wx hSx
      (try dsimp only at hSx)
      go_split_ands
      go_simp
      (try with_reducible rfl)
    simp only [List.setIfInBounds_toArray, List.set_cons_zero, List.set_cons_succ]
    refine take_at 2 17 (fuel := 12) ?_ rfl rfl (by kernel_rfl) (by kernel_rfl) (by kernel_rfl) (Or.inl ⟨by rfl, ?_⟩) hSw ?_
    rotate_left
    · intro wx hSx
      (try dsimp only at hSx)
      go_split_ands
      go_simp
      (try with_reducible rfl)
    simp only [List.setIfInBounds_toArray, List.set_cons_zero, List.set_cons_succ]
    refine take_at 3 18 (fuel := 11) ?_ rfl rfl (by kernel_rfl) (by kernel_rfl) (by kernel_rfl) (Or.inl ⟨by rfl, ?_⟩) hSw ?_
    rotate_left
    · intro wx hSx
      (try dsimp only at hSx)
      go_split_ands
      go_simp
      (try with_reducible rfl)
    simp only [List.setIfInBounds_toArray, List.set_cons_zero, List.set_cons_succ]
    refine take_at 4 19 (fuel := 10) ?_ rfl rfl (by kernel_rfl) (by kernel_rfl) (by kernel_rfl) (Or.inl ⟨by rfl, ?_⟩) hSw ?_
    rotate_left
    · intro wx hSx
      (try dsimp only at hSx)
      go_split_ands
      go_simp
      (try with_reducible rfl)
    simp only [List.setIfInBounds_toArray, List.set_cons_zero, List.set_cons_succ]
    refine take_at 5 20 (fuel := 9) ?_ rfl rfl (by kernel_rfl) (by kernel_rfl) (by kernel_rfl) (Or.inl ⟨by rfl, ?_⟩) hSw ?_
    rotate_left
    · intro wx hSx
      (try dsimp only at hSx)
      go_split_ands
      go_simp
      (try with_reducible rfl)
    simp only [List.setIfInBounds_toArray, List.set_cons_zero, List.set_cons_succ]
    refine take_at 6 21 (fuel := 8) ?_ rfl rfl (by kernel_rfl) (by kernel_rfl) (by kernel_rfl) (Or.inl ⟨by rfl, ?_⟩) hSw ?_
    rotate_left
    · intro wx hSx
      (try dsimp only at hSx)
      go_split_ands
      go_simp
      (try with_reducible rfl)
    simp only [List.setIfInBounds_toArray, List.set_cons_zero, List.set_cons_succ]
    refine take_at 7 22 undef (fuel := 7) rfl rfl (by kernel_rfl) (by kernel_rfl) (by kernel_rfl) (Or.inr ⟨by rfl, rfl⟩) hSw ?_
    simp only [List.setIfInBounds_toArray, List.set_cons_zero, List.set_cons_succ]
    refine take_at 8 23 undef (fuel := 6) rfl rfl (by kernel_rfl) (by kernel_rfl) (by kernel_rfl) (Or.inr ⟨by rfl, rfl⟩) hSw ?_
    simp only [List.setIfInBounds_toArray, List.set_cons_zero, List.set_cons_succ]
    refine take_at 9 24 undef (fuel := 5) rfl rfl (by kernel_rfl) (by kernel_rfl) (by kernel_rfl) (Or.inr ⟨by rfl, rfl⟩) hSw ?_
    simp only [List.setIfInBounds_toArray, List.set_cons_zero, List.set_cons_succ]
    refine take_at 10 25 undef (fuel := 4) rfl rfl (by kernel_rfl) (by kernel_rfl) (by kernel_rfl) (Or.inr ⟨by rfl, rfl⟩) hSw ?_
    simp only [List.setIfInBounds_toArray, List.set_cons_zero, List.set_cons_succ]
    refine take_at 11 26 undef (fuel := 3) rfl rfl (by kernel_rfl) (by kernel_rfl) (by kernel_rfl) (Or.inr ⟨by rfl, rfl⟩) hSw ?_
    simp only [List.setIfInBounds_toArray, List.set_cons_zero, List.set_cons_succ]
    refine take_at 12 27 undef (fuel := 2) rfl rfl (by kernel_rfl) (by kernel_rfl) (by kernel_rfl) (Or.inr ⟨by rfl, rfl⟩) hSw ?_
    simp only [List.setIfInBounds_toArray, List.set_cons_zero, List.set_cons_succ]
    refine take_at 13 28 (fuel := 1) ?_ rfl rfl (by kernel_rfl) (by kernel_rfl) (by kernel_rfl) (Or.inl ⟨by rfl, ?_⟩) hSw ?_
    rotate_left
    · intro wx hSx
      (try dsimp only at hSx)
      go_split_ands
      go_simp
      (try with_reducible rfl)
    simp only [List.setIfInBounds_toArray, List.set_cons_zero, List.set_cons_succ]
    refine take_at 14 7 (fuel := 0) ?_ rfl rfl (by kernel_rfl) (by kernel_rfl) (by kernel_rfl) (Or.inl ⟨by rfl, ?_⟩) hSw ?_
    rotate_left
    · intro wx hSx
      (try dsimp only at hSx)
      go_split_ands
      go_simp
      (try with_reducible rfl)
    simp only [List.setIfInBounds_toArray, List.set_cons_zero, List.set_cons_succ]
    refine wpAnyH_done (by kernel_rfl) ⟨rfl, ?_⟩ 0
    have hc3 : Blk w3.drew b CT c1.cs := hc3
    have hR3 : Blk w3.drew (q + 1) PT zP := hR3
    replace hK3 : Kp (fun k => k = b ∨ k = q + 1) w1 w3.drew := hK3.trans (Kp.of_below (Below.drew (Below.refl _ w3)))
    clear hSw hX3 y0 y1 y2 y3 y4 y5 y6 x0 x1 x2 x3 x4 x5 he
    generalize w3.drew = w4 at *
    have hc4 := hc3
    have hR4 := hR3
    have hK4 := hK3
    clear hc3 hR3 hK3
    go_wp2_with fail
    refine (tell_c (c := c1) false hc4).mono ?_
    rintro e w5 ⟨rfl, hb5⟩
    have hc5 := hc4.below hb5 hc4.lt
    have hR5 := hR4.below hb5 hR4.lt
    have hK5 := hK4.trans (Kp.of_below (S := fun k => k = b ∨ k = q + 1) hb5)
    have hK6 := kp_row (b := q + 1) hK5 (.inr rfl) (c1.told false)
    have hc6 : Blk (w5.setRow (q + 1) (c1.told false)) b CT (c1).cs := (setRow_other w5 (q + 1) b _ (by omega)).trans hc5
    have hR6 : Blk (w5.setRow (q + 1) (c1.told false)) (q + 1) PT (c1.told false) := setRow_heap w5 (q + 1) _ _ _ (0, 0) hR5
    have hst : (storeVar PT ⟨q + 1, 0, none⟩ (.agg (c1.told false))).run Try.prog w5 = .ok () (w5.setRow (q + 1) (c1.told false)) := store_row info_PT hR5 rfl (all_one (Ce.told_one _ _))
    have HK := Lib.hid hK6
    clear hb5 hc4 hR4 hK4 hc5 hR5 hK5 hK6
    go_wp2_with (refine step_store PT (.tmp 6) (.tmp 36) ⟨q + 1, 0, none⟩ (.agg (c1.told false)) rfl rfl rfl rfl rfl hst ?_)
    refine bodyPost_ret (results_cell_row rfl _ _ (q + 1) PT _ _ _ rfl hR6 Try.underlying33 rfl (by kernel_rfl)) rfl ?_
    exact ⟨by rw [HP.out.1, HP.out.2], by rw [HP.out.2]; exact hc6, kp_up HB.out HK.out (by omega)⟩
theorem u64_store {W : World} {p : Addr} {n : Int} (h : W.cell? p = some (.int .u64 n)) (hf : W.frozen? p = false) (m : Int) : (storeVar 23 p (.int .u64 m)).run Try.prog W = .ok () (W.setCell p (.int .u64 m)) := by
  have z3 := Try.sizeOf23
  go_simp
set_option maxHeartbeats 4000000 in
set_option maxRecDepth 100000 in
theorem acc_c (n : Nat) (h : Blk w b CT c.cs) (hne : c.ch ≠ noV) : Calls Try.prog 11 #[cp b, .agg x.cs, .int .u64 (n : Int)] w fun e w' => e = .returned (.agg ((c.acc x n).told (c.accs x n))) ∧ Blk w' b CT (c.acc x n).cs ∧ Kp (fun k => k = b) w w' := by
  have hX := (Blk.new w VT x.cs).alloc (.cells zP PT)
  have hR := Blk.new (w.alloc (.cells x.cs VT)) PT zP
  have hb := ((Below.refl _ w).alloc (Nat.le_refl _) (.cells x.cs VT)).alloc (by simp) (.cells zP PT)
  have hc := (h.alloc (.cells x.cs VT)).alloc (.cells zP PT)
  have hs : ((w.alloc (.cells x.cs VT)).alloc (.cells zP PT)).heap.size = w.heap.size + 2 := by simp
  have e1 : (w.alloc (.cells x.cs VT)).heap.size = w.heap.size + 1 := by simp
  rw [e1] at hR
  have hbq : b < w.heap.size := h.lt
  clear h e1
  go_enter Try.func11, Try.ntmps11
  go_upto_region 1 with (fail)
  generalize (w.alloc (.cells _ VT)).alloc (.cells _ PT) = w1 at *
  generalize hq : w.heap.size = q at hX hR hs hbq ⊢
  have hM := made_c (c := c) hc hne
  go_wp2_with fail
  refine hM.mono ?_
  rintro e w2 ⟨rfl, rfl⟩
  clear hM
  have x0 : w1.cell? ⟨q, 0, none⟩ = some (.int .u64 (x.v : Int)) := hX.cell 0
  have x1 : w1.cell? ⟨q, 1, none⟩ = some (.int .i64 x.pr) := hX.cell 1
  have x2 : w1.cell? ⟨q, 2, none⟩ = some (.int .u64 (x.pl : Int)) := hX.cell 2
  have x3 : w1.cell? ⟨q, 3, none⟩ = some (.int .i64 x.ba) := hX.cell 3
  have x4 : w1.cell? ⟨q, 4, none⟩ = some (.int .u64 (x.bl : Int)) := hX.cell 4
  have x5 : w1.cell? ⟨q, 5, none⟩ = some (.int .u64 (x.ep : Int)) := hX.cell 5
  cases hnx : c.nexts x with
  | false =>
    have hp : c.accs x n = false := by
      unfold Ce.accs
      exact decide_eq_false (fun h => by rw [hnx] at h; exact Bool.noConfusion h.1)
    have hpc : c.acc x n = c := by
      unfold Ce.acc
      rw [hp]
      rfl
    have HP := Lib.hid (And.intro hp hpc)
    clear hp hpc
    go_wp2_with fail
    refine (next_c (c := c) (x := x) hc).mono ?_
    rintro e w3 ⟨rfl, hb3⟩
    rw [hnx]
    have hX3 := hX.below hb3 hX.lt
    have hR3 := hR.below hb3 hR.lt
    have hc3 := hc.below hb3 hc.lt
    have hK3 : Kp (fun k => k = b ∨ k = q + 1) w1 w3 := Kp.of_below hb3
    have HB := Lib.hid hb
    clear hX hR hc hb hb3 hnx x0 x1 x2 x3 x4 x5
    have x0 : w3.cell? ⟨q, 0, none⟩ = some (.int .u64 (x.v : Int)) := hX3.cell 0
    have x1 : w3.cell? ⟨q, 1, none⟩ = some (.int .i64 x.pr) := hX3.cell 1
    have x2 : w3.cell? ⟨q, 2, none⟩ = some (.int .u64 (x.pl : Int)) := hX3.cell 2
    have x3 : w3.cell? ⟨q, 3, none⟩ = some (.int .i64 x.ba) := hX3.cell 3
    have x4 : w3.cell? ⟨q, 4, none⟩ = some (.int .u64 (x.bl : Int)) := hX3.cell 4
    have x5 : w3.cell? ⟨q, 5, none⟩ = some (.int .u64 (x.ep : Int)) := hX3.cell 5
    have c6 : w3.cell? ⟨b, 6, none⟩ = some (.int .u64 (c.most : Int)) := hc3.cell 6
    have c7 : w3.cell? ⟨b, 7, none⟩ = some (.int .u64 (c.bal : Int)) := hc3.cell 7
    have hc4 := hc3
    have hR4 := hR3
    have hK4 := hK3
    clear hc3 hR3 hK3
    go_wp2_with fail
    refine (tell_c (c := c) false hc4).mono ?_
    rintro e w5 ⟨rfl, hb5⟩
    have hc5 := hc4.below hb5 hc4.lt
    have hR5 := hR4.below hb5 hR4.lt
    have hK5 := hK4.trans (Kp.of_below (S := fun k => k = b ∨ k = q + 1) hb5)
    have hK6 := kp_row (b := q + 1) hK5 (.inr rfl) (c.told false)
    have hc6 : Blk (w5.setRow (q + 1) (c.told false)) b CT (c).cs := (setRow_other w5 (q + 1) b _ (by omega)).trans hc5
    have hR6 : Blk (w5.setRow (q + 1) (c.told false)) (q + 1) PT (c.told false) := setRow_heap w5 (q + 1) _ _ _ (0, 0) hR5
    have hst : (storeVar PT ⟨q + 1, 0, none⟩ (.agg (c.told false))).run Try.prog w5 = .ok () (w5.setRow (q + 1) (c.told false)) := store_row info_PT hR5 rfl (all_one (Ce.told_one _ _))
    have HK := Lib.hid hK6
    clear hb5 hc4 hR4 hK4 hc5 hR5 hK5 hK6
    go_wp2_with (refine step_store PT (.tmp 6) (.tmp 42) ⟨q + 1, 0, none⟩ (.agg (c.told false)) rfl rfl rfl rfl rfl hst ?_)
    refine bodyPost_ret (results_cell_row rfl _ _ (q + 1) PT _ _ _ rfl hR6 Try.underlying33 rfl (by kernel_rfl)) rfl ?_
    exact ⟨by rw [HP.out.1, HP.out.2], by rw [HP.out.2]; exact hc6, kp_up HB.out HK.out (by omega)⟩
  | true =>
    by_cases hn : 0 < n
    · by_cases hmo : c.most ≤ n
      · have hn0 := hn
        have hp : c.accs x n = true := by
          unfold Ce.accs
          exact decide_eq_true ⟨hnx, hn, hmo⟩
        have hpc : c.acc x n = ⟨c.ch, n, n, x⟩ := by
          unfold Ce.acc
          rw [hp]
          rfl
        have HP := Lib.hid (And.intro hp hpc)
        clear hp hpc
        have n1 : decide (0 < n) = true := decide_eq_true hn
        have n2 : decide ((c.most : Int) ≤ (n : Int)) = true := decide_eq_true (by omega)
        have n3 : decide (c.most ≤ n) = true := decide_eq_true hmo
        go_wp2_with fail
        refine (next_c (c := c) (x := x) hc).mono ?_
        rintro e w3 ⟨rfl, hb3⟩
        rw [hnx]
        have hX3 := hX.below hb3 hX.lt
        have hR3 := hR.below hb3 hR.lt
        have hc3 := hc.below hb3 hc.lt
        have hK3 : Kp (fun k => k = b ∨ k = q + 1) w1 w3 := Kp.of_below hb3
        have HB := Lib.hid hb
        clear hX hR hc hb hb3 hnx x0 x1 x2 x3 x4 x5
        have x0 : w3.cell? ⟨q, 0, none⟩ = some (.int .u64 (x.v : Int)) := hX3.cell 0
        have x1 : w3.cell? ⟨q, 1, none⟩ = some (.int .i64 x.pr) := hX3.cell 1
        have x2 : w3.cell? ⟨q, 2, none⟩ = some (.int .u64 (x.pl : Int)) := hX3.cell 2
        have x3 : w3.cell? ⟨q, 3, none⟩ = some (.int .i64 x.ba) := hX3.cell 3
        have x4 : w3.cell? ⟨q, 4, none⟩ = some (.int .u64 (x.bl : Int)) := hX3.cell 4
        have x5 : w3.cell? ⟨q, 5, none⟩ = some (.int .u64 (x.ep : Int)) := hX3.cell 5
        have c6 : w3.cell? ⟨b, 6, none⟩ = some (.int .u64 (c.most : Int)) := hc3.cell 6
        have c7 : w3.cell? ⟨b, 7, none⟩ = some (.int .u64 (c.bal : Int)) := hc3.cell 7
        go_upto_region 5 with (fail)
        have hXd : Blk w3.drew q VT x.cs := hX3
        have hcd : Blk w3.drew b CT c.cs := hc3
        have hXa : Blk (w3.drew.setCell ⟨b, 6, none⟩ (.int .u64 (n : Int))) q VT x.cs := hXd.far (p := ⟨b, 6, none⟩) (by show q ≠ b; omega) _
        have hca : Blk (w3.drew.setCell ⟨b, 6, none⟩ (.int .u64 (n : Int))) b CT #[.int .u64 (c.ch.v : Int), .int .i64 c.ch.pr, .int .u64 (c.ch.pl : Int), .int .i64 c.ch.ba, .int .u64 (c.ch.bl : Int), .int .u64 (c.ch.ep : Int), .int .u64 (n : Int), .int .u64 (c.bal : Int), .int .u64 (c.val.v : Int), .int .i64 c.val.pr, .int .u64 (c.val.pl : Int), .int .i64 c.val.ba, .int .u64 (c.val.bl : Int), .int .u64 (c.val.ep : Int)] := hcd.put 6 _
        have hXb : Blk ((w3.drew.setCell ⟨b, 6, none⟩ (.int .u64 (n : Int))).setCell ⟨b, 7, none⟩ (.int .u64 (n : Int))) q VT x.cs := hXa.far (p := ⟨b, 7, none⟩) (by show q ≠ b; omega) _
        have hcb : Blk ((w3.drew.setCell ⟨b, 6, none⟩ (.int .u64 (n : Int))).setCell ⟨b, 7, none⟩ (.int .u64 (n : Int))) b CT #[.int .u64 (c.ch.v : Int), .int .i64 c.ch.pr, .int .u64 (c.ch.pl : Int), .int .i64 c.ch.ba, .int .u64 (c.ch.bl : Int), .int .u64 (c.ch.ep : Int), .int .u64 (n : Int), .int .u64 (n : Int), .int .u64 (c.val.v : Int), .int .i64 c.val.pr, .int .u64 (c.val.pl : Int), .int .i64 c.val.ba, .int .u64 (c.val.bl : Int), .int .u64 (c.val.ep : Int)] := hca.put 7 _
        have hXc : Blk (((w3.drew.setCell ⟨b, 6, none⟩ (.int .u64 (n : Int))).setCell ⟨b, 7, none⟩ (.int .u64 (n : Int))).setRow b (Ce.mk c.ch n n x).cs) q VT x.cs := (setRow_other _ b q _ (by omega)).trans hXb
        have hcc : Blk (((w3.drew.setCell ⟨b, 6, none⟩ (.int .u64 (n : Int))).setCell ⟨b, 7, none⟩ (.int .u64 (n : Int))).setRow b (Ce.mk c.ch n n x).cs) b CT (Ce.mk c.ch n n x).cs := setRow_heap _ b _ _ _ (0, 0) hcb
        have hRc : Blk (((w3.drew.setCell ⟨b, 6, none⟩ (.int .u64 (n : Int))).setCell ⟨b, 7, none⟩ (.int .u64 (n : Int))).setRow b (Ce.mk c.ch n n x).cs) (q + 1) PT zP := (setRow_other _ b (q + 1) _ (by omega)).trans ((Blk.far (p := ⟨b, 6, none⟩) (show Blk w3.drew (q + 1) PT zP from hR3) (by show q + 1 ≠ b; omega) (.int .u64 (n : Int))).far (p := ⟨b, 7, none⟩) (by show q + 1 ≠ b; omega) (.int .u64 (n : Int)))
        have hKc : Kp (fun k => k = b ∨ k = q + 1) w1 (((w3.drew.setCell ⟨b, 6, none⟩ (.int .u64 (n : Int))).setCell ⟨b, 7, none⟩ (.int .u64 (n : Int))).setRow b (Ce.mk c.ch n n x).cs) := kp_row (b := b) (((hK3.trans (Kp.of_below (Below.drew (Below.refl _ w3)))).set (p := ⟨b, 6, none⟩) (.inl rfl) _).set (p := ⟨b, 7, none⟩) (.inl rfl) _) (.inl rfl) _
        have k6 : w3.drew.cell? ⟨b, 6, none⟩ = some (.int .u64 (c.most : Int)) := hcd.cell 6
        have f6 := hcd.free 6
        have k7 : (w3.drew.setCell ⟨b, 6, none⟩ (.int .u64 (n : Int))).cell? ⟨b, 7, none⟩ = some (.int .u64 (c.bal : Int)) := hca.cell 7
        have f7 := hca.free 7
        have hst : (storeVar VT ⟨b, 8, none⟩ (.agg x.cs)).run Try.prog ((w3.drew.setCell ⟨b, 6, none⟩ (.int .u64 (n : Int))).setCell ⟨b, 7, none⟩ (.int .u64 (n : Int))) = .ok () (((w3.drew.setCell ⟨b, 6, none⟩ (.int .u64 (n : Int))).setCell ⟨b, 7, none⟩ (.int .u64 (n : Int))).setRow b (Ce.mk c.ch n n x).cs) := store_mid info_VT hcb (show 14 ≤ 14 by decide) x.one
        refine region_only 15 #[false, false, false, false, false, false, false, false, false, false, false, false, false, false, false] (S := (fun W => W.cell? ⟨q, 0, none⟩ = some (.int .u64 (x.v : Int)) ∧ W.cell? ⟨q, 1, none⟩ = some (.int .i64 x.pr) ∧ W.cell? ⟨q, 2, none⟩ = some (.int .u64 (x.pl : Int)) ∧ W.cell? ⟨q, 3, none⟩ = some (.int .i64 x.ba) ∧ W.cell? ⟨q, 4, none⟩ = some (.int .u64 (x.bl : Int)) ∧ W.cell? ⟨q, 5, none⟩ = some (.int .u64 (x.ep : Int)))) rfl rfl (by kernel_rfl) ⟨x0, x1, x2, x3, x4, x5⟩ (fun hSw => ?_)
        refine take_at 0 28 (fuel := 14) ?_ rfl rfl (by kernel_rfl) (by kernel_rfl) (by kernel_rfl) (Or.inl ⟨by rfl, ?_⟩) hSw ?_
        rotate_left
        · intro wx hSx
          (try dsimp only at hSx)
          go_split_ands
          go_simp
          (try with_reducible rfl)
        simp only [List.setIfInBounds_toArray, List.set_cons_zero, List.set_cons_succ]
        refine take_at 1 29 (fuel := 13) ?_ rfl rfl (by kernel_rfl) (by kernel_rfl) (by kernel_rfl) (Or.inl ⟨by rfl, ?_⟩) hSw ?_
        rotate_left
        · intro wx hSx
          (try dsimp only at hSx)
          go_split_ands
          go_simp
          (try with_reducible rfl)
        simp only [List.setIfInBounds_toArray, List.set_cons_zero, List.set_cons_succ]
        refine take_at 2 30 (fuel := 12) ?_ rfl rfl (by kernel_rfl) (by kernel_rfl) (by kernel_rfl) (Or.inl ⟨by rfl, ?_⟩) hSw ?_
        rotate_left
        · intro wx hSx
          (try dsimp only at hSx)
          go_split_ands
          go_simp
          (try with_reducible rfl)
        simp only [List.setIfInBounds_toArray, List.set_cons_zero, List.set_cons_succ]
        refine take_at 3 31 (fuel := 11) ?_ rfl rfl (by kernel_rfl) (by kernel_rfl) (by kernel_rfl) (Or.inl ⟨by rfl, ?_⟩) hSw ?_
        rotate_left
        · intro wx hSx
          (try dsimp only at hSx)
          go_split_ands
          go_simp
          (try with_reducible rfl)
        simp only [List.setIfInBounds_toArray, List.set_cons_zero, List.set_cons_succ]
        refine take_at 4 32 (fuel := 10) ?_ rfl rfl (by kernel_rfl) (by kernel_rfl) (by kernel_rfl) (Or.inl ⟨by rfl, ?_⟩) hSw ?_
        rotate_left
        · intro wx hSx
          (try dsimp only at hSx)
          go_split_ands
          go_simp
          (try with_reducible rfl)
        simp only [List.setIfInBounds_toArray, List.set_cons_zero, List.set_cons_succ]
        refine take_at 5 33 (fuel := 9) ?_ rfl rfl (by kernel_rfl) (by kernel_rfl) (by kernel_rfl) (Or.inl ⟨by rfl, ?_⟩) hSw ?_
        rotate_left
        · intro wx hSx
          (try dsimp only at hSx)
          go_split_ands
          go_simp
          (try with_reducible rfl)
        simp only [List.setIfInBounds_toArray, List.set_cons_zero, List.set_cons_succ]
        refine take_at 6 34 (fuel := 8) ?_ rfl rfl (by kernel_rfl) (by kernel_rfl) (by kernel_rfl) (Or.inl ⟨by rfl, ?_⟩) hSw ?_
        rotate_left
        · intro wx hSx
          (try dsimp only at hSx)
          go_split_ands
          go_simp
          (try with_reducible rfl)
        simp only [List.setIfInBounds_toArray, List.set_cons_zero, List.set_cons_succ]
        refine take_at 7 35 (fuel := 7) ?_ rfl rfl (by kernel_rfl) (by kernel_rfl) (by kernel_rfl) (Or.inl ⟨by rfl, ?_⟩) hSw ?_
        rotate_left
        · intro wx hSx
          (try dsimp only at hSx)
          go_split_ands
          go_simp
          (try with_reducible rfl)
        simp only [List.setIfInBounds_toArray, List.set_cons_zero, List.set_cons_succ]
        refine wpAnyH_ready (fuel := 6) (rs := [8]) (by kernel_rfl) (by simp) (AllReadyH.cons rfl (fun K hK => ?_) AllReadyH.nil)
        refine wp_store 23 (.tmp 35) (.tmp 31) ⟨b, 6, none⟩ (.int .u64 (n : Int)) rfl rfl rfl rfl (u64_store k6 f6 _) ?_
        refine hK.out _ _ ⟨hXa.cell 0, hXa.cell 1, hXa.cell 2, hXa.cell 3, hXa.cell 4, hXa.cell 5⟩ (fun hSw => ?_)
        clear hK K
        simp only [List.setIfInBounds_toArray, List.set_cons_zero, List.set_cons_succ]
        refine take_at 9 36 (fuel := 5) ?_ rfl rfl (by kernel_rfl) (by kernel_rfl) (by kernel_rfl) (Or.inl ⟨by rfl, ?_⟩) hSw ?_
        rotate_left
        · intro wx hSx
          (try dsimp only at hSx)
          go_split_ands
          go_simp
          (try with_reducible rfl)
        simp only [List.setIfInBounds_toArray, List.set_cons_zero, List.set_cons_succ]
        refine take_at 10 37 (fuel := 4) ?_ rfl rfl (by kernel_rfl) (by kernel_rfl) (by kernel_rfl) (Or.inl ⟨by rfl, ?_⟩) hSw ?_
        rotate_left
        · intro wx hSx
          (try dsimp only at hSx)
          go_split_ands
          go_simp
          (try with_reducible rfl)
        simp only [List.setIfInBounds_toArray, List.set_cons_zero, List.set_cons_succ]
        refine wpAnyH_ready (fuel := 3) (rs := [11]) (by kernel_rfl) (by simp) (AllReadyH.cons rfl (fun K hK => ?_) AllReadyH.nil)
        refine wp_store 23 (.tmp 37) (.tmp 32) ⟨b, 7, none⟩ (.int .u64 (n : Int)) rfl rfl rfl rfl (u64_store k7 f7 _) ?_
        refine hK.out _ _ ⟨hXb.cell 0, hXb.cell 1, hXb.cell 2, hXb.cell 3, hXb.cell 4, hXb.cell 5⟩ (fun hSw => ?_)
        clear hK K
        simp only [List.setIfInBounds_toArray, List.set_cons_zero, List.set_cons_succ]
        refine take_at 12 38 (fuel := 2) ?_ rfl rfl (by kernel_rfl) (by kernel_rfl) (by kernel_rfl) (Or.inl ⟨by rfl, ?_⟩) hSw ?_
        rotate_left
        · intro wx hSx
          (try dsimp only at hSx)
          go_split_ands
          go_simp
          (try with_reducible rfl)
        simp only [List.setIfInBounds_toArray, List.set_cons_zero, List.set_cons_succ]
        refine take_at 13 39 (fuel := 1) ?_ rfl rfl (by kernel_rfl) (by kernel_rfl) (by kernel_rfl) (Or.inl ⟨by rfl, ?_⟩) hSw ?_
        rotate_left
        · intro wx hSx
          (try dsimp only at hSx)
          go_split_ands
          go_simp
          (try with_reducible rfl)
        simp only [List.setIfInBounds_toArray, List.set_cons_zero, List.set_cons_succ]
        refine wpAnyH_ready (fuel := 0) (rs := [14]) (by kernel_rfl) (by simp) (AllReadyH.cons rfl (fun K hK => ?_) AllReadyH.nil)
        refine wp_store VT (.tmp 39) (.tmp 33) ⟨b, 8, none⟩ (.agg x.cs) rfl rfl rfl rfl hst ?_
        refine hK.out _ _ ⟨hXc.cell 0, hXc.cell 1, hXc.cell 2, hXc.cell 3, hXc.cell 4, hXc.cell 5⟩ (fun hSw => ?_)
        clear hK K
        simp only [List.setIfInBounds_toArray, List.set_cons_zero, List.set_cons_succ]
        refine wpAnyH_done (by kernel_rfl) ⟨rfl, ?_⟩ 0
        have hc4 := hcc
        have hR4 := hRc
        have hK4 := hKc
        clear hSw hXd hcd hXa hca hXb hcb hXc hcc hRc hKc k6 f6 k7 f7 hst hc3 hR3 hK3 hX3 x0 x1 x2 x3 x4 x5 c6 c7
        generalize (((w3.drew.setCell ⟨b, 6, none⟩ (.int .u64 (n : Int))).setCell ⟨b, 7, none⟩ (.int .u64 (n : Int))).setRow b (Ce.mk c.ch n n x).cs) = w4 at *
        go_wp2_with fail
        refine (tell_c (c := (Ce.mk c.ch n n x)) true hc4).mono ?_
        rintro e w5 ⟨rfl, hb5⟩
        have hc5 := hc4.below hb5 hc4.lt
        have hR5 := hR4.below hb5 hR4.lt
        have hK5 := hK4.trans (Kp.of_below (S := fun k => k = b ∨ k = q + 1) hb5)
        have hK6 := kp_row (b := q + 1) hK5 (.inr rfl) ((Ce.mk c.ch n n x).told true)
        have hc6 : Blk (w5.setRow (q + 1) ((Ce.mk c.ch n n x).told true)) b CT ((Ce.mk c.ch n n x)).cs := (setRow_other w5 (q + 1) b _ (by omega)).trans hc5
        have hR6 : Blk (w5.setRow (q + 1) ((Ce.mk c.ch n n x).told true)) (q + 1) PT ((Ce.mk c.ch n n x).told true) := setRow_heap w5 (q + 1) _ _ _ (0, 0) hR5
        have hst : (storeVar PT ⟨q + 1, 0, none⟩ (.agg ((Ce.mk c.ch n n x).told true))).run Try.prog w5 = .ok () (w5.setRow (q + 1) ((Ce.mk c.ch n n x).told true)) := store_row info_PT hR5 rfl (all_one (Ce.told_one _ _))
        have HK := Lib.hid hK6
        clear hb5 hc4 hR4 hK4 hc5 hR5 hK5 hK6
        go_wp2_with (refine step_store PT (.tmp 6) (.tmp 42) ⟨q + 1, 0, none⟩ (.agg ((Ce.mk c.ch n n x).told true)) rfl rfl rfl rfl rfl hst ?_)
        refine bodyPost_ret (results_cell_row rfl _ _ (q + 1) PT _ _ _ rfl hR6 Try.underlying33 rfl (by kernel_rfl)) rfl ?_
        exact ⟨by rw [HP.out.1, HP.out.2], by rw [HP.out.2]; exact hc6, kp_up HB.out HK.out (by omega)⟩
      · have hn0 := hn
        have hp : c.accs x n = false := by
          unfold Ce.accs
          exact decide_eq_false (fun h => hmo h.2.2)
        have hpc : c.acc x n = c := by
          unfold Ce.acc
          rw [hp]
          rfl
        have HP := Lib.hid (And.intro hp hpc)
        clear hp hpc
        have n1 : decide (0 < n) = true := decide_eq_true hn
        have n2 : decide ((c.most : Int) ≤ (n : Int)) = false := decide_eq_false (by omega)
        have n3 : decide (c.most ≤ n) = false := decide_eq_false hmo
        go_wp2_with fail
        refine (next_c (c := c) (x := x) hc).mono ?_
        rintro e w3 ⟨rfl, hb3⟩
        rw [hnx]
        have hX3 := hX.below hb3 hX.lt
        have hR3 := hR.below hb3 hR.lt
        have hc3 := hc.below hb3 hc.lt
        have hK3 : Kp (fun k => k = b ∨ k = q + 1) w1 w3 := Kp.of_below hb3
        have HB := Lib.hid hb
        clear hX hR hc hb hb3 hnx x0 x1 x2 x3 x4 x5
        have x0 : w3.cell? ⟨q, 0, none⟩ = some (.int .u64 (x.v : Int)) := hX3.cell 0
        have x1 : w3.cell? ⟨q, 1, none⟩ = some (.int .i64 x.pr) := hX3.cell 1
        have x2 : w3.cell? ⟨q, 2, none⟩ = some (.int .u64 (x.pl : Int)) := hX3.cell 2
        have x3 : w3.cell? ⟨q, 3, none⟩ = some (.int .i64 x.ba) := hX3.cell 3
        have x4 : w3.cell? ⟨q, 4, none⟩ = some (.int .u64 (x.bl : Int)) := hX3.cell 4
        have x5 : w3.cell? ⟨q, 5, none⟩ = some (.int .u64 (x.ep : Int)) := hX3.cell 5
        have c6 : w3.cell? ⟨b, 6, none⟩ = some (.int .u64 (c.most : Int)) := hc3.cell 6
        have c7 : w3.cell? ⟨b, 7, none⟩ = some (.int .u64 (c.bal : Int)) := hc3.cell 7
        have hc4 := hc3
        have hR4 := hR3
        have hK4 := hK3
        clear hc3 hR3 hK3
        go_wp2_with fail
        refine (tell_c (c := c) false hc4).mono ?_
        rintro e w5 ⟨rfl, hb5⟩
        have hc5 := hc4.below hb5 hc4.lt
        have hR5 := hR4.below hb5 hR4.lt
        have hK5 := hK4.trans (Kp.of_below (S := fun k => k = b ∨ k = q + 1) hb5)
        have hK6 := kp_row (b := q + 1) hK5 (.inr rfl) (c.told false)
        have hc6 : Blk (w5.setRow (q + 1) (c.told false)) b CT (c).cs := (setRow_other w5 (q + 1) b _ (by omega)).trans hc5
        have hR6 : Blk (w5.setRow (q + 1) (c.told false)) (q + 1) PT (c.told false) := setRow_heap w5 (q + 1) _ _ _ (0, 0) hR5
        have hst : (storeVar PT ⟨q + 1, 0, none⟩ (.agg (c.told false))).run Try.prog w5 = .ok () (w5.setRow (q + 1) (c.told false)) := store_row info_PT hR5 rfl (all_one (Ce.told_one _ _))
        have HK := Lib.hid hK6
        clear hb5 hc4 hR4 hK4 hc5 hR5 hK5 hK6
        go_wp2_with (refine step_store PT (.tmp 6) (.tmp 42) ⟨q + 1, 0, none⟩ (.agg (c.told false)) rfl rfl rfl rfl rfl hst ?_)
        refine bodyPost_ret (results_cell_row rfl _ _ (q + 1) PT _ _ _ rfl hR6 Try.underlying33 rfl (by kernel_rfl)) rfl ?_
        exact ⟨by rw [HP.out.1, HP.out.2], by rw [HP.out.2]; exact hc6, kp_up HB.out HK.out (by omega)⟩
    · have hn0 := hn
      have hp : c.accs x n = false := by
        unfold Ce.accs
        exact decide_eq_false (fun h => hn h.2.1)
      have hpc : c.acc x n = c := by
        unfold Ce.acc
        rw [hp]
        rfl
      have HP := Lib.hid (And.intro hp hpc)
      clear hp hpc
      have n1 : decide (0 < n) = false := decide_eq_false hn
      go_wp2_with fail
      refine (next_c (c := c) (x := x) hc).mono ?_
      rintro e w3 ⟨rfl, hb3⟩
      rw [hnx]
      have hX3 := hX.below hb3 hX.lt
      have hR3 := hR.below hb3 hR.lt
      have hc3 := hc.below hb3 hc.lt
      have hK3 : Kp (fun k => k = b ∨ k = q + 1) w1 w3 := Kp.of_below hb3
      have HB := Lib.hid hb
      clear hX hR hc hb hb3 hnx x0 x1 x2 x3 x4 x5
      have x0 : w3.cell? ⟨q, 0, none⟩ = some (.int .u64 (x.v : Int)) := hX3.cell 0
      have x1 : w3.cell? ⟨q, 1, none⟩ = some (.int .i64 x.pr) := hX3.cell 1
      have x2 : w3.cell? ⟨q, 2, none⟩ = some (.int .u64 (x.pl : Int)) := hX3.cell 2
      have x3 : w3.cell? ⟨q, 3, none⟩ = some (.int .i64 x.ba) := hX3.cell 3
      have x4 : w3.cell? ⟨q, 4, none⟩ = some (.int .u64 (x.bl : Int)) := hX3.cell 4
      have x5 : w3.cell? ⟨q, 5, none⟩ = some (.int .u64 (x.ep : Int)) := hX3.cell 5
      have c6 : w3.cell? ⟨b, 6, none⟩ = some (.int .u64 (c.most : Int)) := hc3.cell 6
      have c7 : w3.cell? ⟨b, 7, none⟩ = some (.int .u64 (c.bal : Int)) := hc3.cell 7
      have hc4 := hc3
      have hR4 := hR3
      have hK4 := hK3
      clear hc3 hR3 hK3
      go_wp2_with fail
      refine (tell_c (c := c) false hc4).mono ?_
      rintro e w5 ⟨rfl, hb5⟩
      have hc5 := hc4.below hb5 hc4.lt
      have hR5 := hR4.below hb5 hR4.lt
      have hK5 := hK4.trans (Kp.of_below (S := fun k => k = b ∨ k = q + 1) hb5)
      have hK6 := kp_row (b := q + 1) hK5 (.inr rfl) (c.told false)
      have hc6 : Blk (w5.setRow (q + 1) (c.told false)) b CT (c).cs := (setRow_other w5 (q + 1) b _ (by omega)).trans hc5
      have hR6 : Blk (w5.setRow (q + 1) (c.told false)) (q + 1) PT (c.told false) := setRow_heap w5 (q + 1) _ _ _ (0, 0) hR5
      have hst : (storeVar PT ⟨q + 1, 0, none⟩ (.agg (c.told false))).run Try.prog w5 = .ok () (w5.setRow (q + 1) (c.told false)) := store_row info_PT hR5 rfl (all_one (Ce.told_one _ _))
      have HK := Lib.hid hK6
      clear hb5 hc4 hR4 hK4 hc5 hR5 hK5 hK6
      go_wp2_with (refine step_store PT (.tmp 6) (.tmp 42) ⟨q + 1, 0, none⟩ (.agg (c.told false)) rfl rfl rfl rfl rfl hst ?_)
      refine bodyPost_ret (results_cell_row rfl _ _ (q + 1) PT _ _ _ rfl hR6 Try.underlying33 rfl (by kernel_rfl)) rfl ?_
      exact ⟨by rw [HP.out.1, HP.out.2], by rw [HP.out.2]; exact hc6, kp_up HB.out HK.out (by omega)⟩
end
end Go.Proofs.Ytigkocdjllfhnaa.Celly
