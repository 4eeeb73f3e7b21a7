/- Contract of layer 4's program (blake): a round: eight mixings, by value. Condition: the variable 'columns' holds what the program's text lays. -/
import Derived.Test.YtkiabladmgagdabGreatDoorBlakeWordsAll
import Derived.Test.YtkiabladmgagdabGreatDoorBlakeMixAll
import Derived.Test.YtkiabladmgagdabGreatDoorSq
namespace Go.Proofs.YtkiabladmgagdabGreatDoor.Wirey
open Go.ChangeShapes Go.WideShapes Go.ChangeAt Go.RowKit

def colsL : List Value := (List.range 32).map fun k => Value.int .i64 (col (k / 4) (k % 4) : Int)
theorem info51 : (Tryz.prog.info? 192).map (·.size) = some 32 := by kernel_rfl
theorem under51 : Tryz.prog.underlying 192 = some (.array 8 191) := by kernel_rfl
def colV (i : Nat) : List Value := i64s (cols.getD i [])
theorem cols_index {i : Nat} (hi : i < 8) (w : World) : (Instr.index 192 (.agg colsL.toArray) (.int .i64 i)).run Tryz.prog w = .ok (.agg (colV i).toArray) w := by
 rcases (by omega : i = 0 ∨ i = 1 ∨ i = 2 ∨ i = 3 ∨ i = 4 ∨ i = 5 ∨ i = 6 ∨ i = 7) with rfl | rfl | rfl | rfl | rfl | rfl | rfl | rfl <;> kernel_rfl
theorem colV_len {i : Nat} (hi : i < 8) : (colV i).length = 4 := by
 rcases (by omega : i = 0 ∨ i = 1 ∨ i = 2 ∨ i = 3 ∨ i = 4 ∨ i = 5 ∨ i = 6 ∨ i = 7) with rfl | rfl | rfl | rfl | rfl | rfl | rfl | rfl <;> rfl
theorem colV_at {i j : Nat} (hi : i < 8) (hj : j < 4) : (colV i)[j]? = some (.int .i64 (col i j : Int)) := cols_at hi hj
theorem colV_store {i : Nat} (hi : i < 8) (w : World) : (storeCells ⟨w.heap.size, 0, none⟩ (colV i) 0).run Tryz.prog (w.alloc (.cells #[.int .i64 0, .int .i64 0, .int .i64 0, .int .i64 0] 191)) = .ok () (w.alloc (.cells (colV i).toArray 191)) := by
 have h := run_storeCells_from (P := Tryz.prog) w.heap.size 191 (colV i) 0 #[.int .i64 0, .int .i64 0, .int .i64 0, .int .i64 0] _ (heap_alloc_new w (.cells #[.int .i64 0, .int .i64 0, .int .i64 0, .int .i64 0] 191)) (by rw [colV_len hi]; rfl) (by
   intro v hv
   obtain ⟨n, _, rfl⟩ := List.mem_map.1 hv
   rfl)
 rw [List.take_zero, List.nil_append, World.setRow_alloc_new] at h
 exact h
structure RSb (w0 : World) (gm go r : Nat) (m st : List Nat) (w : World) : Prop where
 hB : Below w0.heap.size w0 w
 hV : Blk w w0.heap.size 130 (u32s st).toArray
 hR : Blk w (w0.heap.size + 1) 130 z16
 hM : Row w gm (u32s m)
 hO : w.cell? ⟨go, 0, none⟩ = some (.int .u64 (nat_ ordsN r : Int))
theorem RSb.alloc {w0 : World} {gm go r : Nat} {m st : List Nat} {w : World} (k : RSb w0 gm go r m st w) (o : Obj) : RSb w0 gm go r m st (w.alloc o) :=
 ⟨k.hB.alloc k.hB.size _, k.hV.alloc _, k.hR.alloc _, k.hM.alloc _, ((Below.refl w.heap.size w).alloc (Nat.le_refl _) o).cell (p := ⟨go, 0, none⟩) (block_lt_of_cell k.hO) |>.trans k.hO⟩
theorem RSb.draw {w0 : World} {gm go r : Nat} {m st : List Nat} {w : World} (k : RSb w0 gm go r m st w) : RSb w0 gm go r m st w.drew := ⟨k.hB.drew, k.hV, k.hR, k.hM.drew, k.hO⟩
theorem RSb.put {w0 : World} {gm go r : Nat} {m st : List Nat} {w : World} (k : RSb w0 gm go r m st w) (hgm : gm < w0.heap.size) (hgo : go < w0.heap.size) (i x : Nat) : RSb w0 gm go r m (st.set i x) (w.setCell ⟨w0.heap.size, i, none⟩ (.int .u32 (x : Int))) :=
 ⟨k.hB.setCell (Nat.le_refl _) _, arr_put k.hV i x, k.hR.far (by show w0.heap.size + 1 ≠ w0.heap.size; omega) _, k.hM.far (by show gm ≠ w0.heap.size; omega) _,
   (World.cell?_setCell_far w ⟨w0.heap.size, i, none⟩ ⟨go, 0, none⟩ _ (by show w0.heap.size ≠ go; omega)).trans k.hO⟩
theorem far4 {u : World} {g : Nat} {v0 v1 v2 v3 : Value} (h : u.cell? ⟨g, 0, none⟩ = some v0 ∧ u.cell? ⟨g, 1, none⟩ = some v1 ∧ u.cell? ⟨g, 2, none⟩ = some v2 ∧ u.cell? ⟨g, 3, none⟩ = some v3) {p : Addr} (hp : p.block ≠ g) (x : Value) :
  (u.setCell p x).cell? ⟨g, 0, none⟩ = some v0 ∧ (u.setCell p x).cell? ⟨g, 1, none⟩ = some v1 ∧ (u.setCell p x).cell? ⟨g, 2, none⟩ = some v2 ∧ (u.setCell p x).cell? ⟨g, 3, none⟩ = some v3 :=
 ⟨(World.cell?_setCell_far u p ⟨g, 0, none⟩ x hp).trans h.1, (World.cell?_setCell_far u p ⟨g, 1, none⟩ x hp).trans h.2.1, (World.cell?_setCell_far u p ⟨g, 2, none⟩ x hp).trans h.2.2.1, (World.cell?_setCell_far u p ⟨g, 3, none⟩ x hp).trans h.2.2.2⟩
theorem place_x {g go r : Nat} (hr : r < 10) {m : List Nat} (hm : m.length = 16) (w : World) (hM : Row w g (u32s m)) (hO : w.cell? ⟨go, 0, none⟩ = some (.int .u64 (nat_ ordsN r : Int))) (x : Int) (j : Nat) (hx : x = (j : Int)) (hj : j < 16) :
  Calls Tryz.prog 124 #[.int .i64 x, .pointer (some ⟨g, 0, none⟩), .pointer (some ⟨go, 0, none⟩)] w fun e w' => e = .returned (.int .u32 (nat_ m (ord r j) : Int)) ∧ w' = w := by
 subst hx
 exact (place_c hr hj hm w hM hO).mono fun _ _ h => ⟨h.1, h.2.symm⟩
set_option maxHeartbeats 8000000 in
set_option maxRecDepth 100000 in
theorem round_c {gm go r : Nat} (hr : r < 10) {m st : List Nat} (hm : m.length = 16) (hs : st.length = 16) (hws : Wd st) (w : World) (hM : Row w gm (u32s m)) (hO : w.cell? ⟨go, 0, none⟩ = some (.int .u64 (nat_ ordsN r : Int))) (hC : Seen w 2 colsL) :
  Calls Tryz.prog 92 #[.agg (u32s (mixes m st (8 * r))).toArray, .func (.func 124) #[] #[.pointer (some ⟨gm, 0, none⟩), .pointer (some ⟨go, 0, none⟩)]] w fun e w' => e = .returned (.agg (u32s (mixes m st (8 * (r + 1)))).toArray) ∧ Below w.heap.size w w' := by
 have hgo : go < w.heap.size := block_lt_of_cell hO
 have hgm := hM.lt
 have hgc := hC.lt
 go_enter Tryz.func92, Tryz.ntmps92
 go_upto_region 1 with fail
 change Code.wp _ _ _ _ ((w.alloc (.cells (u32s (mixes m st (8 * r))).toArray 130)).alloc (.cells z16 130))
 have k0 : RSb w gm go r m (mixes m st (8 * r + 0)) ((w.alloc (.cells (u32s (mixes m st (8 * r))).toArray 130)).alloc (.cells z16 130)) := by
  have hb := below_new2 w (.cells (u32s (mixes m st (8 * r))).toArray 130) (.cells z16 130)
  refine ⟨hb, (Blk.new w _ _).alloc _, ?_, hM.below hb hgm, (hb.cell (p := ⟨go, 0, none⟩) hgo).trans hO⟩
  have := Blk.new (w.alloc (.cells (u32s (mixes m st (8 * r))).toArray 130)) 130 z16
  rw [World.size_alloc] at this
  exact this
 have hC1 := hC.below k0.hB hgc
 generalize (w.alloc (.cells (u32s (mixes m st (8 * r))).toArray 130)).alloc (.cells z16 130) = w1 at k0 hC1 ⊢
 go_upto_region 2 with (refine wpList_load_seen rfl 192 (.global 2) rfl 2 rfl colsL 8 191 hC1 under51 (by rw [info51]; rfl) ?_)
 have hX := fun {i : Nat} (hi : i < 8) => cols_index hi
 generalize hCV : (Value.agg colsL.toArray) = CV at hX ⊢
 clear hCV hC1
 go_loopw [8] (fun iv wr => ∃ i : Nat, i ≤ 8 ∧ iv = .int .i64 i ∧ RSb w gm go r m (mixes m st (8 * r + i)) wr) (fun iv _ => 8 - (intOf iv).toNat)
 case atStart => exact ⟨0, by omega, rfl, k0⟩
 case round =>
  clear k0
  obtain ⟨i, hi, rfl, hk⟩ := hrel
  by_cases hilt : i < 8
  ·have hrd : decide ((i : Int) < 8) = true := by rw [decide_eq_true_eq]; omega
   have hx := hX hilt wr
   have hst := colV_store hilt wr
   have hcl := colV_len hilt
   have hk0 := hk
   go_upto_region 4 with fail
   have hG : Row (wr.alloc (.cells (colV i).toArray 191)) wr.heap.size (colV i) := Row.blk (Blk.new wr 191 (colV i).toArray)
   have hk := hk.alloc (.cells (colV i).toArray 191)
   have hne : w.heap.size + 1 < wr.heap.size := hk0.hR.lt
   obtain ⟨gc, hgc⟩ : ∃ gc, gc = wr.heap.size := ⟨_, rfl⟩
   rw [← hgc] at hG hne ⊢
   generalize wr.alloc (.cells (colV i).toArray 191) = wa at hG hk ⊢
   clear hx hst hcl hgc hk0
   have p0 := hG.cell 0 _ (colV_at hilt (by omega))
   have p1 := hG.cell 1 _ (colV_at hilt (by omega))
   have p2 := hG.cell 2 _ (colV_at hilt (by omega))
   have p3 := hG.cell 3 _ (colV_at hilt (by omega))
   have hap := Lib.hid (mixG_put (col_apart hilt (l := mixes m st (8 * r + i)) (by rw [mixes_len]; exact hs)) (nat_ m (ord r (2 * i))) (nat_ m (ord r (2 * i + 1))))
   rw [← mixes_at m st hilt] at hap
   have ha := col_lt i 0
   have hb := col_lt i 1
   have hc := col_lt i 2
   have hd := col_lt i 3
   have hls : (mixes m st (8 * r + i)).length = 16 := by rw [mixes_len]; exact hs
   have hwd := mixes_wd m hws (8 * r + i)
   generalize mixes m st (8 * r + i) = s0 at hk hls hwd hap
   generalize col i 0 = a at p0 ha hap ⊢
   generalize col i 1 = b at p1 hb hap ⊢
   generalize col i 2 = c at p2 hc hap ⊢
   generalize col i 3 = d at p3 hd hap ⊢
   have haI : (a : Int) < 16 := by omega
   have hbI : (b : Int) < 16 := by omega
   have hcI : (c : Int) < 16 := by omega
   have hdI : (d : Int) < 16 := by omega
   have hV0 : Row wa w.heap.size (u32s s0) := Row.blk hk.hV
   have c0 := hV0.word (i := a) (by omega)
   have c1 := hV0.word (i := b) (by omega)
   have c2 := hV0.word (i := c) (by omega)
   have c3 := hV0.word (i := d) (by omega)
   have x0 : IntKind.i64.wrap (2 * (i : Int)) = 2 * (i : Int) := by rw [IntKind.wrap_i64]; omega
   have x1 : IntKind.i64.wrap (2 * (i : Int) + 1) = 2 * (i : Int) + 1 := by rw [IntKind.wrap_i64]; omega
   replace hk := hk.draw
   have hC : (fun u : World => u.cell? ⟨gc, 0, none⟩ = some (.int .i64 a) ∧ u.cell? ⟨gc, 1, none⟩ = some (.int .i64 b) ∧ u.cell? ⟨gc, 2, none⟩ = some (.int .i64 c) ∧ u.cell? ⟨gc, 3, none⟩ = some (.int .i64 d)) wa.drew := ⟨p0, p1, p2, p3⟩
   have hV : (fun u : World => u.cell? ⟨w.heap.size, a, none⟩ = some (.int .u32 (nat_ s0 a : Int)) ∧ u.cell? ⟨w.heap.size, b, none⟩ = some (.int .u32 (nat_ s0 b : Int)) ∧ u.cell? ⟨w.heap.size, c, none⟩ = some (.int .u32 (nat_ s0 c : Int)) ∧ u.cell? ⟨w.heap.size, d, none⟩ = some (.int .u32 (nat_ s0 d : Int))) wa.drew := ⟨c0, c1, c2, c3⟩
   refine wp_region_K (by kernel_rfl) (fun u : World => u.cell? ⟨gc, 0, none⟩ = some (.int .i64 a) ∧ u.cell? ⟨gc, 1, none⟩ = some (.int .i64 b) ∧ u.cell? ⟨gc, 2, none⟩ = some (.int .i64 c) ∧ u.cell? ⟨gc, 3, none⟩ = some (.int .i64 d)) (fun u : World => u.cell? ⟨w.heap.size, a, none⟩ = some (.int .u32 (nat_ s0 a : Int)) ∧ u.cell? ⟨w.heap.size, b, none⟩ = some (.int .u32 (nat_ s0 b : Int)) ∧ u.cell? ⟨w.heap.size, c, none⟩ = some (.int .u32 (nat_ s0 c : Int)) ∧ u.cell? ⟨w.heap.size, d, none⟩ = some (.int .u32 (nat_ s0 d : Int))) 33 ?_
   change wpAnyK _ _ _ _ _ _ _ _ _ _ wa.drew
   generalize wa.drew = wd at hk hC hV ⊢
   clear hV0 p0 p1 p2 p3 c0 c1 c2 c3 hG
   have HP0 := Lib.hid (place_x hr hm wd hk.hM hk.hO (2 * (i : Int)) (2 * i) (by omega) (by omega))
   have HP1 := Lib.hid (place_x hr hm wd hk.hM hk.hO (2 * (i : Int) + 1) (2 * i + 1) (by omega) (by omega))
   refine wpAnyK_take 0 (some 13) (v := ?v1) rfl (by kernel_rfl) (by kernel_rfl) (by kernel_rfl) (by decide) (fun _ _ _ h => h) hC (fun _ => hV) (Or.inl ⟨by rfl, ?hy1⟩) rfl ?_
   case hy1 =>
    intro u hu
    obtain ⟨q0, q1, q2, q3⟩ := hu
    go_simp
    try with_reducible rfl
   simp only [Act.put, List.setIfInBounds_toArray, List.set_cons_zero, List.set_cons_succ]
   refine wpAnyK_take 1 (some 14) (v := ?v2) rfl (by kernel_rfl) (by kernel_rfl) (by kernel_rfl) (by decide) (fun _ _ _ h => h) hC (fun _ => hV) (Or.inl ⟨by rfl, ?hy2⟩) rfl ?_
   case hy2 =>
    intro u hu
    obtain ⟨q0, q1, q2, q3⟩ := hu
    go_simp
    try with_reducible rfl
   simp only [Act.put, List.setIfInBounds_toArray, List.set_cons_zero, List.set_cons_succ]
   refine wpAnyK_take 2 (some 15) (v := ?v3) rfl (by kernel_rfl) (by kernel_rfl) (by kernel_rfl) (by decide) (fun _ _ _ h => h) hC (fun _ => hV) (Or.inl ⟨by rfl, ?hy3⟩) rfl ?_
   case hy3 =>
    intro u hu
    obtain ⟨q0, q1, q2, q3⟩ := hu
    go_simp
    try with_reducible rfl
   simp only [Act.put, List.setIfInBounds_toArray, List.set_cons_zero, List.set_cons_succ]
   refine wpAnyK_take 3 (some 16) (v := ?v4) rfl (by kernel_rfl) (by kernel_rfl) (by kernel_rfl) (by decide) (fun _ _ _ h => h) hC (fun _ => hV) (Or.inl ⟨by rfl, ?hy4⟩) rfl ?_
   case hy4 =>
    intro u hu
    obtain ⟨q0, q1, q2, q3⟩ := hu
    go_simp
    try with_reducible rfl
   simp only [Act.put, List.setIfInBounds_toArray, List.set_cons_zero, List.set_cons_succ]
   refine wpAnyK_take 4 (some 17) (v := ?v5) rfl (by kernel_rfl) (by kernel_rfl) (by kernel_rfl) (by decide) (fun _ _ _ h => h) hC (fun _ => hV) (Or.inl ⟨by rfl, ?hy5⟩) rfl ?_
   case hy5 =>
    intro u hu
    obtain ⟨q0, q1, q2, q3⟩ := hu
    go_simp
    try with_reducible rfl
   simp only [Act.put, List.setIfInBounds_toArray, List.set_cons_zero, List.set_cons_succ]
   refine wpAnyK_take 5 (some 18) (v := ?v6) rfl (by kernel_rfl) (by kernel_rfl) (by kernel_rfl) (by decide) (fun _ _ _ h => h) hC (fun _ => hV) (Or.inl ⟨by rfl, ?hy6⟩) rfl ?_
   case hy6 =>
    intro u hu
    obtain ⟨q0, q1, q2, q3⟩ := hu
    go_simp
    try with_reducible rfl
   simp only [Act.put, List.setIfInBounds_toArray, List.set_cons_zero, List.set_cons_succ]
   refine wpAnyK_take 6 (some 19) (v := ?v7) rfl (by kernel_rfl) (by kernel_rfl) (by kernel_rfl) (by decide) (fun _ _ _ h => h) hC (fun _ => hV) (Or.inl ⟨by rfl, ?hy7⟩) rfl ?_
   case hy7 =>
    intro u hu
    obtain ⟨q0, q1, q2, q3⟩ := hu
    go_simp
    try with_reducible rfl
   simp only [Act.put, List.setIfInBounds_toArray, List.set_cons_zero, List.set_cons_succ]
   refine wpAnyK_take 7 (some 20) (v := ?v8) rfl (by kernel_rfl) (by kernel_rfl) (by kernel_rfl) (by decide) (fun _ _ _ h => h) hC (fun _ => hV) (Or.inl ⟨by rfl, ?hy8⟩) rfl ?_
   case hy8 =>
    intro u hu
    obtain ⟨q0, q1, q2, q3⟩ := hu
    go_simp
    try with_reducible rfl
   simp only [Act.put, List.setIfInBounds_toArray, List.set_cons_zero, List.set_cons_succ]
   refine wpAnyK_take 8 (some 21) (v := ?v9) rfl (by kernel_rfl) (by kernel_rfl) (by kernel_rfl) (by decide) (fun _ _ _ h => h) hC (fun _ => hV) (Or.inl ⟨by rfl, ?hy9⟩) rfl ?_
   case hy9 =>
    intro u hu
    obtain ⟨q0, q1, q2, q3⟩ := hu
    go_simp
    try with_reducible rfl
   simp only [Act.put, List.setIfInBounds_toArray, List.set_cons_zero, List.set_cons_succ]
   refine wpAnyK_take 9 (some 22) (v := ?v10) rfl (by kernel_rfl) (by kernel_rfl) (by kernel_rfl) (by decide) (fun _ _ _ h => h) hC (fun _ => hV) (Or.inl ⟨by rfl, ?hy10⟩) rfl ?_
   case hy10 =>
    intro u hu
    obtain ⟨q0, q1, q2, q3⟩ := hu
    go_simp
    try with_reducible rfl
   simp only [Act.put, List.setIfInBounds_toArray, List.set_cons_zero, List.set_cons_succ]
   refine wpAnyK_take 10 (some 23) (v := ?v11) rfl (by kernel_rfl) (by kernel_rfl) (by kernel_rfl) (by decide) (fun _ _ _ h => h) hC (fun _ => hV) (Or.inl ⟨by rfl, ?hy11⟩) rfl ?_
   case hy11 =>
    intro u hu
    obtain ⟨q0, q1, q2, q3⟩ := hu
    go_simp
    try with_reducible rfl
   simp only [Act.put, List.setIfInBounds_toArray, List.set_cons_zero, List.set_cons_succ]
   refine wpAnyK_early 11 (some 24) (v := ?v12) rfl (by kernel_rfl) (by kernel_rfl) (by kernel_rfl) (by decide) (fun _ _ _ h => h) hC hV rfl (by kernel_rfl) (by kernel_rfl) (Or.inl ⟨by rfl, ?hy12⟩) rfl ?_
   case hy12 =>
    intro u hu
    obtain ⟨q0, q1, q2, q3⟩ := hu
    go_simp
    try with_reducible rfl
   simp only [Act.put, List.setIfInBounds_toArray, List.set_cons_zero, List.set_cons_succ]
   refine wpAnyK_take 12 (some 25) (v := ?v13) rfl (by kernel_rfl) (by kernel_rfl) (by kernel_rfl) (by decide) (fun _ _ _ h => h) hC (fun _ => hV) (Or.inl ⟨by rfl, ?hy13⟩) rfl ?_
   case hy13 =>
    intro u hu
    obtain ⟨q0, q1, q2, q3⟩ := hu
    go_simp
    try with_reducible rfl
   simp only [Act.put, List.setIfInBounds_toArray, List.set_cons_zero, List.set_cons_succ]
   refine wpAnyK_take 13 (some 26) (v := ?v14) rfl (by kernel_rfl) (by kernel_rfl) (by kernel_rfl) (by decide) (fun _ _ _ h => h) hC (fun _ => hV) (Or.inl ⟨by rfl, ?hy14⟩) rfl ?_
   case hy14 =>
    intro u hu
    obtain ⟨q0, q1, q2, q3⟩ := hu
    go_simp
    try with_reducible rfl
   simp only [Act.put, List.setIfInBounds_toArray, List.set_cons_zero, List.set_cons_succ]
   refine wpAnyK_take 14 (some 27) (v := ?v15) rfl (by kernel_rfl) (by kernel_rfl) (by kernel_rfl) (by decide) (fun _ _ _ h => h) hC (fun _ => hV) (Or.inl ⟨by rfl, ?hy15⟩) rfl ?_
   case hy15 =>
    intro u hu
    obtain ⟨q0, q1, q2, q3⟩ := hu
    go_simp
    try with_reducible rfl
   simp only [Act.put, List.setIfInBounds_toArray, List.set_cons_zero, List.set_cons_succ]
   refine wpAnyK_early 15 (some 28) (v := ?v16) rfl (by kernel_rfl) (by kernel_rfl) (by kernel_rfl) (by decide) (fun _ _ _ h => h) hC hV rfl (by kernel_rfl) (by kernel_rfl) (Or.inl ⟨by rfl, ?hy16⟩) rfl ?_
   case hy16 =>
    intro u hu
    obtain ⟨q0, q1, q2, q3⟩ := hu
    go_simp
    try with_reducible rfl
   simp only [Act.put, List.setIfInBounds_toArray, List.set_cons_zero, List.set_cons_succ]
   refine wpAnyK_take 16 (some 29) (v := ?v17) rfl (by kernel_rfl) (by kernel_rfl) (by kernel_rfl) (by decide) (fun _ _ _ h => h) hC (fun _ => hV) (Or.inl ⟨by rfl, ?hy17⟩) rfl ?_
   case hy17 =>
    intro u hu
    obtain ⟨q0, q1, q2, q3⟩ := hu
    go_simp
    try with_reducible rfl
   simp only [Act.put, List.setIfInBounds_toArray, List.set_cons_zero, List.set_cons_succ]
   refine wpAnyK_take 17 (some 30) (v := ?v18) rfl (by kernel_rfl) (by kernel_rfl) (by kernel_rfl) (by decide) (fun _ _ _ h => h) hC (fun _ => hV) (Or.inl ⟨by rfl, ?hy18⟩) rfl ?_
   case hy18 =>
    intro u hu
    obtain ⟨q0, q1, q2, q3⟩ := hu
    go_simp
    try with_reducible rfl
   simp only [Act.put, List.setIfInBounds_toArray, List.set_cons_zero, List.set_cons_succ]
   refine wpAnyK_take 18 (some 31) (v := ?v19) rfl (by kernel_rfl) (by kernel_rfl) (by kernel_rfl) (by decide) (fun _ _ _ h => h) hC (fun _ => hV) (Or.inl ⟨by rfl, ?hy19⟩) rfl ?_
   case hy19 =>
    intro u hu
    obtain ⟨q0, q1, q2, q3⟩ := hu
    go_simp
    try with_reducible rfl
   simp only [Act.put, List.setIfInBounds_toArray, List.set_cons_zero, List.set_cons_succ]
   refine wpAnyK_early 19 (some 32) (v := ?v20) rfl (by kernel_rfl) (by kernel_rfl) (by kernel_rfl) (by decide) (fun _ _ _ h => h) hC hV rfl (by kernel_rfl) (by kernel_rfl) (Or.inl ⟨by rfl, ?hy20⟩) rfl ?_
   case hy20 =>
    intro u hu
    obtain ⟨q0, q1, q2, q3⟩ := hu
    go_simp
    try with_reducible rfl
   simp only [Act.put, List.setIfInBounds_toArray, List.set_cons_zero, List.set_cons_succ]
   refine wpAnyK_take 20 (some 33) (v := ?v21) rfl (by kernel_rfl) (by kernel_rfl) (by kernel_rfl) (by decide) (fun _ _ _ h => h) hC (fun _ => hV) (Or.inl ⟨by rfl, ?hy21⟩) rfl ?_
   case hy21 =>
    intro u hu
    obtain ⟨q0, q1, q2, q3⟩ := hu
    go_simp
    try with_reducible rfl
   simp only [Act.put, List.setIfInBounds_toArray, List.set_cons_zero, List.set_cons_succ]
   refine wpAnyK_take 21 (some 34) (v := ?v22) rfl (by kernel_rfl) (by kernel_rfl) (by kernel_rfl) (by decide) (fun _ _ _ h => h) hC (fun _ => hV) (Or.inl ⟨by rfl, ?hy22⟩) rfl ?_
   case hy22 =>
    intro u hu
    obtain ⟨q0, q1, q2, q3⟩ := hu
    go_simp
    try with_reducible rfl
   simp only [Act.put, List.setIfInBounds_toArray, List.set_cons_zero, List.set_cons_succ]
   refine wpAnyK_take 22 (some 35) (v := ?v23) rfl (by kernel_rfl) (by kernel_rfl) (by kernel_rfl) (by decide) (fun _ _ _ h => h) hC (fun _ => hV) (Or.inl ⟨by rfl, ?hy23⟩) rfl ?_
   case hy23 =>
    intro u hu
    obtain ⟨q0, q1, q2, q3⟩ := hu
    go_simp
    try with_reducible rfl
   simp only [Act.put, List.setIfInBounds_toArray, List.set_cons_zero, List.set_cons_succ]
   refine wpAnyK_early 23 (some 36) (v := ?v24) rfl (by kernel_rfl) (by kernel_rfl) (by kernel_rfl) (by decide) (fun _ _ _ h => h) hC hV rfl (by kernel_rfl) (by kernel_rfl) (Or.inl ⟨by rfl, ?hy24⟩) rfl ?_
   case hy24 =>
    intro u hu
    obtain ⟨q0, q1, q2, q3⟩ := hu
    go_simp
    try with_reducible rfl
   simp only [Act.put, List.setIfInBounds_toArray, List.set_cons_zero, List.set_cons_succ]
   refine wpAnyK_take 24 (some 37) (v := ?v25) rfl (by kernel_rfl) (by kernel_rfl) (by kernel_rfl) (by decide) (fun _ _ _ h => h) hC (fun _ => hV) (Or.inl ⟨by rfl, ?hy25⟩) rfl ?_
   case hy25 =>
    intro u hu
    obtain ⟨q0, q1, q2, q3⟩ := hu
    go_simp
    try with_reducible rfl
   simp only [Act.put, List.setIfInBounds_toArray, List.set_cons_zero, List.set_cons_succ]
   refine wpAnyK_take 25 (some 38) (v := ?v26) rfl (by kernel_rfl) (by kernel_rfl) (by kernel_rfl) (by decide) (fun _ _ _ h => h) hC (fun _ => hV) (Or.inl ⟨by rfl, ?hy26⟩) rfl ?_
   case hy26 =>
    intro u hu
    obtain ⟨q0, q1, q2, q3⟩ := hu
    go_simp
    try with_reducible rfl
   simp only [Act.put, List.setIfInBounds_toArray, List.set_cons_zero, List.set_cons_succ]
   refine wpAnyK_take 26 (some 39) (v := ?v27) rfl (by kernel_rfl) (by kernel_rfl) (by kernel_rfl) (by decide) (fun _ _ _ h => h) hC (fun _ => hV) (Or.inl ⟨by rfl, ?hy27⟩) rfl ?_
   case hy27 =>
    intro u hu
    obtain ⟨q0, q1, q2, q3⟩ := hu
    go_simp
    try with_reducible rfl
   simp only [Act.put, List.setIfInBounds_toArray, List.set_cons_zero, List.set_cons_succ]
   refine wpAnyK_take 28 (some 41) (v := ?v28) rfl (by kernel_rfl) (by kernel_rfl) (by kernel_rfl) (by decide) (fun _ _ _ h => h) hC (fun _ => hV) (Or.inl ⟨by rfl, ?hy28⟩) rfl ?_
   case hy28 =>
    intro u hu
    obtain ⟨q0, q1, q2, q3⟩ := hu
    go_simp
    try with_reducible rfl
   simp only [Act.put, List.setIfInBounds_toArray, List.set_cons_zero, List.set_cons_succ]
   refine wpAnyK_take 29 (some 42) (v := ?v29) rfl (by kernel_rfl) (by kernel_rfl) (by kernel_rfl) (by decide) (fun _ _ _ h => h) hC (fun _ => hV) (Or.inl ⟨by rfl, ?hy29⟩) rfl ?_
   case hy29 =>
    intro u hu
    obtain ⟨q0, q1, q2, q3⟩ := hu
    go_simp
    try with_reducible rfl
   simp only [Act.put, List.setIfInBounds_toArray, List.set_cons_zero, List.set_cons_succ]
   refine wpAnyK_take 30 (some 43) (v := ?v30) rfl (by kernel_rfl) (by kernel_rfl) (by kernel_rfl) (by decide) (fun _ _ _ h => h) hC (fun _ => hV) (Or.inl ⟨by rfl, ?hy30⟩) rfl ?_
   case hy30 =>
    intro u hu
    obtain ⟨q0, q1, q2, q3⟩ := hu
    go_simp
    try with_reducible rfl
   simp only [Act.put, List.setIfInBounds_toArray, List.set_cons_zero, List.set_cons_succ]
   refine wpAnyK_take 31 (some 44) (v := ?v31) rfl (by kernel_rfl) (by kernel_rfl) (by kernel_rfl) (by decide) (fun _ _ _ h => h) hC (fun _ => hV) (Or.inl ⟨by rfl, ?hy31⟩) rfl ?_
   case hy31 =>
    intro u hu
    obtain ⟨q0, q1, q2, q3⟩ := hu
    go_simp
    try with_reducible rfl
   simp only [Act.put, List.setIfInBounds_toArray, List.set_cons_zero, List.set_cons_succ]
   refine wpAnyK_one 27 (by kernel_rfl) rfl (fun K hK => ?_)
   go_simp
   refine HP0.out.mono ?_
   rintro e w' ⟨he, hw'⟩
   subst he
   rw [hw']
   dsimp only
   refine hK.out _ _ hC (fun _ => hV) ?_
   clear hK K hw'
   clear HP0
   refine wpAnyK_one 32 (by kernel_rfl) rfl (fun K hK => ?_)
   go_simp
   refine HP1.out.mono ?_
   rintro e w' ⟨he, hw'⟩
   subst he
   rw [hw']
   dsimp only
   refine hK.out _ _ hC (fun _ => hV) ?_
   clear hK K hw'
   clear HP1
   have HM := Lib.hid (mixed_c (nat_ s0 a) (nat_ s0 b) (nat_ s0 c) (nat_ s0 d) (nat_ m (ord r (2 * i))) (nat_ m (ord r (2 * i + 1))) (nat_lt hwd b) (nat_lt hwd d) wd)
   refine wpAnyK_one 33 (by kernel_rfl) rfl (fun K hK => ?_)
   go_simp
   refine HM.out.mono ?_
   rintro e w' ⟨he, hw'⟩
   subst he
   rw [← hw']
   dsimp only
   refine hK.out _ _ hC (fun _ => hV) ?_
   clear hK K hw' HM
   generalize mix4 (nat_ s0 a) (nat_ s0 b) (nat_ s0 c) (nat_ s0 d) (nat_ m (ord r (2 * i))) (nat_ m (ord r (2 * i + 1))) = M at hap ⊢
   clear hV
   refine wpAnyK_late _ _ _ _ (by kernel_rfl) ?_
   refine wpAnyH_late 34 (some 12) (v := ?v41) rfl (by kernel_rfl) (by kernel_rfl) (by kernel_rfl) (fun _ _ _ h => h) hC (Or.inl ⟨by rfl, ?hy41⟩) rfl ?_
   case hy41 =>
    intro u hu
    go_simp
    try with_reducible rfl
   simp only [Act.put, List.setIfInBounds_toArray, List.set_cons_zero, List.set_cons_succ]
   refine wpAnyH_late 35 (some 47) (v := ?v42) rfl (by kernel_rfl) (by kernel_rfl) (by kernel_rfl) (fun _ _ _ h => h) hC (Or.inl ⟨by rfl, ?hy42⟩) rfl ?_
   case hy42 =>
    intro u hu
    go_simp
    try with_reducible rfl
   simp only [Act.put, List.setIfInBounds_toArray, List.set_cons_zero, List.set_cons_succ]
   refine wpAnyH_late 36 (some 48) (v := ?v43) rfl (by kernel_rfl) (by kernel_rfl) (by kernel_rfl) (fun _ _ _ h => h) hC (Or.inl ⟨by rfl, ?hy43⟩) rfl ?_
   case hy43 =>
    intro u hu
    go_simp
    try with_reducible rfl
   simp only [Act.put, List.setIfInBounds_toArray, List.set_cons_zero, List.set_cons_succ]
   refine wpAnyH_late 37 (some 49) (v := ?v44) rfl (by kernel_rfl) (by kernel_rfl) (by kernel_rfl) (fun _ _ _ h => h) hC (Or.inl ⟨by rfl, ?hy44⟩) rfl ?_
   case hy44 =>
    intro u hu
    go_simp
    try with_reducible rfl
   simp only [Act.put, List.setIfInBounds_toArray, List.set_cons_zero, List.set_cons_succ]
   refine wpAnyH_late 38 (some 50) (v := ?v45) rfl (by kernel_rfl) (by kernel_rfl) (by kernel_rfl) (fun _ _ _ h => h) hC (Or.inl ⟨by rfl, ?hy45⟩) rfl ?_
   case hy45 =>
    intro u hu
    go_simp
    try with_reducible rfl
   simp only [Act.put, List.setIfInBounds_toArray, List.set_cons_zero, List.set_cons_succ]
   refine wpAnyH_late 39 (some 51) (v := ?v46) rfl (by kernel_rfl) (by kernel_rfl) (by kernel_rfl) (fun _ _ _ h => h) hC (Or.inl ⟨by rfl, ?hy46⟩) rfl ?_
   case hy46 =>
    intro u hu
    go_simp
    try with_reducible rfl
   simp only [Act.put, List.setIfInBounds_toArray, List.set_cons_zero, List.set_cons_succ]
   have c0 := (Row.blk hk.hV).word (i := a) (by omega)
   have f0 := (Row.blk hk.hV).wfree (i := a) (by omega)
   refine wpAnyH_one 40 (by kernel_rfl) rfl (fun K hK => ?_)
   go_simp
   have hC2 := far4 hC (p := ⟨w.heap.size, a, none⟩) (by show w.heap.size ≠ gc; omega) (.int .u32 (nat_ M 0 : Int))
   refine hK.out _ _ hC2 ?_
   replace hk := hk.put hgm hgo a (nat_ M 0)
   clear hK K c0 f0 hC
   replace hC := hC2
   clear hC2
   generalize World.setCell wd ⟨w.heap.size, a, none⟩ (.int .u32 (nat_ M 0 : Int)) = wd1 at hk hC ⊢
   have hls : (s0.set a (nat_ M 0)).length = 16 := by rw [List.length_set]; exact hls
   refine wpAnyH_late 41 (some 52) (v := ?v51) rfl (by kernel_rfl) (by kernel_rfl) (by kernel_rfl) (fun _ _ _ h => h) hC (Or.inl ⟨by rfl, ?hy51⟩) rfl ?_
   case hy51 =>
    intro u hu
    go_simp
    try with_reducible rfl
   simp only [Act.put, List.setIfInBounds_toArray, List.set_cons_zero, List.set_cons_succ]
   have c0 := (Row.blk hk.hV).word (i := b) (by omega)
   have f0 := (Row.blk hk.hV).wfree (i := b) (by omega)
   refine wpAnyH_one 42 (by kernel_rfl) rfl (fun K hK => ?_)
   go_simp
   have hC2 := far4 hC (p := ⟨w.heap.size, b, none⟩) (by show w.heap.size ≠ gc; omega) (.int .u32 (nat_ M 1 : Int))
   refine hK.out _ _ hC2 ?_
   replace hk := hk.put hgm hgo b (nat_ M 1)
   clear hK K c0 f0 hC
   replace hC := hC2
   clear hC2
   generalize World.setCell wd1 ⟨w.heap.size, b, none⟩ (.int .u32 (nat_ M 1 : Int)) = wd2 at hk hC ⊢
   have hls : ((s0.set a (nat_ M 0)).set b (nat_ M 1)).length = 16 := by rw [List.length_set]; exact hls
   refine wpAnyH_late 43 (some 53) (v := ?v52) rfl (by kernel_rfl) (by kernel_rfl) (by kernel_rfl) (fun _ _ _ h => h) hC (Or.inl ⟨by rfl, ?hy52⟩) rfl ?_
   case hy52 =>
    intro u hu
    go_simp
    try with_reducible rfl
   simp only [Act.put, List.setIfInBounds_toArray, List.set_cons_zero, List.set_cons_succ]
   have c0 := (Row.blk hk.hV).word (i := c) (by omega)
   have f0 := (Row.blk hk.hV).wfree (i := c) (by omega)
   refine wpAnyH_one 44 (by kernel_rfl) rfl (fun K hK => ?_)
   go_simp
   have hC2 := far4 hC (p := ⟨w.heap.size, c, none⟩) (by show w.heap.size ≠ gc; omega) (.int .u32 (nat_ M 2 : Int))
   refine hK.out _ _ hC2 ?_
   replace hk := hk.put hgm hgo c (nat_ M 2)
   clear hK K c0 f0 hC
   replace hC := hC2
   clear hC2
   generalize World.setCell wd2 ⟨w.heap.size, c, none⟩ (.int .u32 (nat_ M 2 : Int)) = wd3 at hk hC ⊢
   have hls : (((s0.set a (nat_ M 0)).set b (nat_ M 1)).set c (nat_ M 2)).length = 16 := by rw [List.length_set]; exact hls
   refine wpAnyH_late 45 (some 54) (v := ?v53) rfl (by kernel_rfl) (by kernel_rfl) (by kernel_rfl) (fun _ _ _ h => h) hC (Or.inl ⟨by rfl, ?hy53⟩) rfl ?_
   case hy53 =>
    intro u hu
    go_simp
    try with_reducible rfl
   simp only [Act.put, List.setIfInBounds_toArray, List.set_cons_zero, List.set_cons_succ]
   have c0 := (Row.blk hk.hV).word (i := d) (by omega)
   have f0 := (Row.blk hk.hV).wfree (i := d) (by omega)
   refine wpAnyH_one 46 (by kernel_rfl) rfl (fun K hK => ?_)
   go_simp
   have hC2 := far4 hC (p := ⟨w.heap.size, d, none⟩) (by show w.heap.size ≠ gc; omega) (.int .u32 (nat_ M 3 : Int))
   refine hK.out _ _ hC2 ?_
   replace hk := hk.put hgm hgo d (nat_ M 3)
   clear hK K c0 f0 hC
   replace hC := hC2
   clear hC2
   generalize World.setCell wd3 ⟨w.heap.size, d, none⟩ (.int .u32 (nat_ M 3 : Int)) = wd4 at hk hC ⊢
   have hls : ((((s0.set a (nat_ M 0)).set b (nat_ M 1)).set c (nat_ M 2)).set d (nat_ M 3)).length = 16 := by rw [List.length_set]; exact hls
   refine wpAnyH_done (by kernel_rfl) ?_ _
   change RSb w gm go r m (put4 s0 a b c d M) wd4 at hk
   rw [← hap.out] at hk
   clear hap hls hC hwd hne ha hb hc hd haI hbI hcI hdI x0 x1
   go_wp2_with fail
   go_roundw
   case rel => first | exact ⟨i + 1, by omega, by go_num, hk⟩ | ((repeat apply Exists.intro); refine ⟨⟨i + 1, by omega, ?_, hk⟩, rfl⟩; go_num)
   case measure => simp [intOf]; omega
  ·obtain rfl : i = 8 := by omega
   have hlen : (mixes m st (8 * r + 8)).length = 16 := by rw [mixes_len]; exact hs
   have hfin : mixes m st (8 * (r + 1)) = mixes m st (8 * r + 8) := by rw [show 8 * (r + 1) = 8 * r + 8 by omega]
   obtain ⟨V, HV⟩ : ∃ V, Hid (V = mixes m st (8 * r + 8)) := ⟨_, Lib.hid rfl⟩
   have HF := Lib.hid (hfin.trans HV.out.symm)
   rw [← HV.out] at hk hlen
   have hrow : Row wr w.heap.size (u32s V) := Row.blk hk.hV
   have hst := store_arr hk.hR (l := V) (by rw [hlen]; rfl)
   have hR := hk.hR
   have hB := hk.hB
   clear hk hfin
   have hlu : (u32s V).length = 16 := by rw [u32s_len]; exact hlen
   go_upto_region 6 with fail
   refine wp_region_lit ?_
   refine wpList_load_arr rfl 130 (.tmp 2) rfl w.heap.size rfl (u32s V) 16 127 hrow under16 (by rw [info16, hlu]) ?_
   simp only [Act.put, List.setIfInBounds_toArray, List.set_cons_zero, List.set_cons_succ]
   go_wp2_with fail
   refine bodyPost_ret (results_cell_row rfl _ _ (w.heap.size + 1) 130 (u32s V).toArray (0, 0) (.array 16 127) rfl hR.set_ under16 rfl (by rw [info16, List.size_toArray, hlu])) rfl ?_
   rw [HF.out]
   exact ⟨rfl, below_setRow hB (by omega) _⟩
end Go.Proofs.YtkiabladmgagdabGreatDoor.Wirey
