/- The contract of the document's own opening of a frame (layer 3): whatever bytes. Nothing that was there turns. -/
import Derived.Test.YtmoammadibepkaaDoorWireRefFlag
import Derived.Deep.RegionHeld3
namespace Go.Proofs.YtmoammadibepkaaDoor.Wirey
open Go.ChangeShapes Go.WideShapes Go.ChangeAt Go.RowKit

/-- A block of the call's own in which an At lies. -/
structure Has (w x : World) (Q : Nat) (m : List UInt8) (e : Int) : Prop where
  blk : Blk x Q 28 #[.string (str m), .int .i64 e]
  low : w.heap.size ≤ Q
  below : Below w.heap.size w x
theorem Has.new {w v : World} (h : Below w.heap.size w v) (m : List UInt8) (e : Int) : Has w (v.alloc (.cells #[.string (str m), .int .i64 e] 28)) v.heap.size m e :=
  ⟨Blk.new _ _ _, h.size, h.alloc h.size _⟩
theorem Has.on {w x v : World} {Q : Nat} {m : List UInt8} {e : Int} (h : Has w x Q m e) (hb : Below x.heap.size x v) : Has w v Q m e :=
  ⟨h.blk.below hb h.blk.lt, h.low, h.below.trans (hb.mono h.below.size)⟩
theorem Has.set {w x : World} {Q : Nat} {m : List UInt8} {e : Int} (h : Has w x Q m e) (m' : List UInt8) (e' : Int) : Has w ((x.setCell ⟨Q, 0, none⟩ (.string (str m'))).setCell ⟨Q, 1, none⟩ (.int .i64 e')) Q m' e' :=
  ⟨(h.blk.put 0 _).put 1 _, h.low, (h.below.setCell (p := ⟨Q, 0, none⟩) h.low _).setCell (p := ⟨Q, 1, none⟩) h.low _⟩
theorem Has.drew {w x : World} {Q : Nat} {m : List UInt8} {e : Int} (h : Has w x Q m e) : Has w x.drew Q m e := ⟨h.blk, h.low, h.below.drew⟩
theorem Has.cells {w x : World} {Q : Nat} {m : List UInt8} {e : Int} (h : Has w x Q m e) :
    x.cell? ⟨Q, 0, none⟩ = some (.string (str m)) ∧ x.cell? ⟨Q, 1, none⟩ = some (.int .i64 e) ∧ x.frozen? ⟨Q, 0, none⟩ = false ∧ x.frozen? ⟨Q, 1, none⟩ = false :=
  ⟨h.blk.cell 0, h.blk.cell 1, h.blk.free 0, h.blk.free 1⟩

set_option maxHeartbeats 4000000 in
set_option maxRecDepth 100000 in
theorem ropen_none (w : World) :
    Calls Tryd.prog 30 #[.string (str [])] w fun e w' => e = .returned (.tuple #[.string (str ([])), .int .i64 4]) ∧ Below w.heap.size w w' := by
  have hsz := str_size
  have htl := toList_str
  have hone : ByteArray.mk #[49] = str [49] := rfl
  go_enter Tryd.func30, Tryd.ntmps30
  go_wp2_with fail
  refine (abytes_short (l := []) 1 (.inr (by simp)) _).mono ?_
  rintro e v1 ⟨rfl, hb1⟩
  have H1 := Has.new hb1 ([]) (4)
  unfold atV
  go_wp2_with fail
  generalize v1.alloc (.cells #[.string (str ([])), .int .i64 4] 28) = x1 at H1 ⊢
  generalize v1.heap.size = Q at H1 ⊢
  obtain ⟨c0, c1, z0, z1⟩ := H1.cells
  go_wp2_with fail
  clear c0 c1 z0 z1
  refine (amust_err _ 4 (by decide) _).mono ?_
  rintro e v2 ⟨rfl, hb2⟩
  have G2 := H1.on hb2
  have H2 := G2.set ([]) (4)
  obtain ⟨c0, c1, z0, z1⟩ := G2.cells
  unfold atV
  go_wp2_with fail
  generalize ((v2.setCell ⟨Q, 0, none⟩ (.string (str ([])))).setCell ⟨Q, 1, none⟩ (.int .i64 4)) = x2 at H2 ⊢
  clear c0 c1 z0 z1 G2
  obtain ⟨c0, c1, z0, z1⟩ := H2.cells
  go_wp2_with fail
  clear c0 c1 z0 z1
  refine (atext_err 65536 (by decide) 4 (by decide) _).mono ?_
  rintro e v3 ⟨rfl, hb3⟩
  have G3 := H2.on hb3
  have H3 := G3.set ([]) (4)
  obtain ⟨c0, c1, z0, z1⟩ := G3.cells
  unfold atV
  go_wp2_with fail
  generalize ((v3.setCell ⟨Q, 0, none⟩ (.string (str ([])))).setCell ⟨Q, 1, none⟩ (.int .i64 4)) = x3 at H3 ⊢
  clear c0 c1 z0 z1 G3
  obtain ⟨c0, c1, z0, z1⟩ := H3.cells
  go_wp2_with fail
  clear c0 c1 z0 z1
  refine (abytes_err 4 4 (by decide) _).mono ?_
  rintro e v4 ⟨rfl, hb4⟩
  have G4 := H3.on hb4
  have H4 := G4.set ([]) (4)
  obtain ⟨c0, c1, z0, z1⟩ := G4.cells
  unfold atV
  go_wp2_with fail
  generalize ((v4.setCell ⟨Q, 0, none⟩ (.string (str ([])))).setCell ⟨Q, 1, none⟩ (.int .i64 4)) = x4 at H4 ⊢
  clear c0 c1 z0 z1 G4
  obtain ⟨c0, c1, z0, z1⟩ := H4.cells
  go_wp2_with fail
  clear c0 c1 z0 z1
  refine (aend_err 4 (by decide) _).mono ?_
  rintro e v9 ⟨rfl, hb9⟩
  have G9 := H4.on hb9
  go_wp2_with fail
  go_ret2
  exact ⟨rfl, G9.below⟩

set_option maxHeartbeats 4000000 in
set_option maxRecDepth 100000 in
theorem ropen_version {v : UInt8} {l1 : List UInt8} (hv : v ≠ 49) (w : World) :
    Calls Tryd.prog 30 #[.string (str (v :: l1))] w fun e w' => e = .returned (.tuple #[.string (str ([])), .int .i64 6]) ∧ Below w.heap.size w w' := by
  have hsz := str_size
  have htl := toList_str
  have hone : ByteArray.mk #[49] = str [49] := rfl
  have hve : ([v] == [49]) = false := by rw [beq_eq_false_iff_ne]; intro e; exact hv (List.cons.inj e).1
  clear hv
  go_enter Tryd.func30, Tryd.ntmps30
  go_wp2_with fail
  refine (abytes_ok (l := v :: l1) 1 (by simp) _).mono ?_
  rintro e v1 ⟨rfl, hb1⟩
  rw [List.drop_succ_cons, List.drop_zero, List.take_succ_cons, List.take_zero]
  have H1 := Has.new hb1 (l1) (0)
  unfold atV
  go_wp2_with fail
  generalize v1.alloc (.cells #[.string (str (l1)), .int .i64 0] 28) = x1 at H1 ⊢
  generalize v1.heap.size = Q at H1 ⊢
  obtain ⟨c0, c1, z0, z1⟩ := H1.cells
  go_wp2_with fail
  clear c0 c1 z0 z1
  refine (amust_no _).mono ?_
  rintro e v2 ⟨rfl, hb2⟩
  have G2 := H1.on hb2
  have H2 := G2.set (l1) (6)
  obtain ⟨c0, c1, z0, z1⟩ := G2.cells
  unfold atV
  go_wp2_with fail
  generalize ((v2.setCell ⟨Q, 0, none⟩ (.string (str (l1)))).setCell ⟨Q, 1, none⟩ (.int .i64 6)) = x2 at H2 ⊢
  clear c0 c1 z0 z1 G2
  obtain ⟨c0, c1, z0, z1⟩ := H2.cells
  go_wp2_with fail
  clear c0 c1 z0 z1
  refine (atext_err 65536 (by decide) 6 (by decide) _).mono ?_
  rintro e v3 ⟨rfl, hb3⟩
  have G3 := H2.on hb3
  have H3 := G3.set (l1) (6)
  obtain ⟨c0, c1, z0, z1⟩ := G3.cells
  unfold atV
  go_wp2_with fail
  generalize ((v3.setCell ⟨Q, 0, none⟩ (.string (str (l1)))).setCell ⟨Q, 1, none⟩ (.int .i64 6)) = x3 at H3 ⊢
  clear c0 c1 z0 z1 G3
  obtain ⟨c0, c1, z0, z1⟩ := H3.cells
  go_wp2_with fail
  clear c0 c1 z0 z1
  refine (abytes_err 4 6 (by decide) _).mono ?_
  rintro e v4 ⟨rfl, hb4⟩
  have G4 := H3.on hb4
  have H4 := G4.set (l1) (6)
  obtain ⟨c0, c1, z0, z1⟩ := G4.cells
  unfold atV
  go_wp2_with fail
  generalize ((v4.setCell ⟨Q, 0, none⟩ (.string (str (l1)))).setCell ⟨Q, 1, none⟩ (.int .i64 6)) = x4 at H4 ⊢
  clear c0 c1 z0 z1 G4
  obtain ⟨c0, c1, z0, z1⟩ := H4.cells
  go_wp2_with fail
  clear c0 c1 z0 z1
  refine (aend_err 6 (by decide) _).mono ?_
  rintro e v9 ⟨rfl, hb9⟩
  have G9 := H4.on hb9
  go_wp2_with fail
  go_ret2
  exact ⟨rfl, G9.below⟩

set_option maxHeartbeats 4000000 in
set_option maxRecDepth 100000 in
theorem ropen_bad {l1 : List UInt8} (hl : l1.length < 549755813888) (he : nErr l1 65536 ≠ 0) (w : World) :
    Calls Tryd.prog 30 #[.string (str (49 :: l1))] w fun e w' => e = .returned (.tuple #[.string (str ([])), .int .i64 (nErr l1 65536 : Int)]) ∧ Below w.heap.size w w' := by
  have hsz := str_size
  have htl := toList_str
  have hone : ByteArray.mk #[49] = str [49] := rfl
  have HE := Lib.hid he
  have hn1 : ((nErr l1 65536 : Int) != 0) = true := by rw [bne_iff_ne]; omega
  have hn2 : ((nErr l1 65536 : Int) == 0) = false := by rw [beq_eq_false_iff_ne]; omega
  clear he
  go_enter Tryd.func30, Tryd.ntmps30
  go_wp2_with fail
  refine (abytes_ok (l := 49 :: l1) 1 (by simp) _).mono ?_
  rintro e v1 ⟨rfl, hb1⟩
  rw [List.drop_succ_cons, List.drop_zero, List.take_succ_cons, List.take_zero]
  have H1 := Has.new hb1 (l1) (0)
  unfold atV
  go_wp2_with fail
  generalize v1.alloc (.cells #[.string (str (l1)), .int .i64 0] 28) = x1 at H1 ⊢
  generalize v1.heap.size = Q at H1 ⊢
  obtain ⟨c0, c1, z0, z1⟩ := H1.cells
  go_wp2_with fail
  clear c0 c1 z0 z1
  refine (amust_ok _).mono ?_
  rintro e v2 ⟨rfl, hb2⟩
  have G2 := H1.on hb2
  have H2 := G2.set (l1) (0)
  obtain ⟨c0, c1, z0, z1⟩ := G2.cells
  unfold atV
  go_wp2_with fail
  generalize ((v2.setCell ⟨Q, 0, none⟩ (.string (str (l1)))).setCell ⟨Q, 1, none⟩ (.int .i64 0)) = x2 at H2 ⊢
  clear c0 c1 z0 z1 G2
  obtain ⟨c0, c1, z0, z1⟩ := H2.cells
  go_wp2_with fail
  clear c0 c1 z0 z1
  refine (atext_bad (l := l1) 65536 (by decide) (by omega) HE.out _).mono ?_
  rintro e v3 ⟨hb3, m, rfl⟩
  have G3 := H2.on hb3
  have H3 := G3.set (m) ((nErr l1 65536 : Int))
  obtain ⟨c0, c1, z0, z1⟩ := G3.cells
  rw [show topN 65536 = 65536 from rfl]
  unfold atV
  go_wp2_with fail
  generalize ((v3.setCell ⟨Q, 0, none⟩ (.string (str (m)))).setCell ⟨Q, 1, none⟩ (.int .i64 (nErr l1 65536 : Int))) = x3 at H3 ⊢
  clear c0 c1 z0 z1 G3
  obtain ⟨c0, c1, z0, z1⟩ := H3.cells
  go_wp2_with fail
  clear c0 c1 z0 z1
  refine (abytes_err 4 (nErr l1 65536) HE.out _).mono ?_
  rintro e v4 ⟨rfl, hb4⟩
  have G4 := H3.on hb4
  have H4 := G4.set (m) ((nErr l1 65536 : Int))
  obtain ⟨c0, c1, z0, z1⟩ := G4.cells
  unfold atV
  go_wp2_with fail
  generalize ((v4.setCell ⟨Q, 0, none⟩ (.string (str (m)))).setCell ⟨Q, 1, none⟩ (.int .i64 (nErr l1 65536 : Int))) = x4 at H4 ⊢
  clear c0 c1 z0 z1 G4
  obtain ⟨c0, c1, z0, z1⟩ := H4.cells
  go_wp2_with fail
  clear c0 c1 z0 z1
  refine (aend_err (nErr l1 65536) HE.out _).mono ?_
  rintro e v9 ⟨rfl, hb9⟩
  have G9 := H4.on hb9
  go_wp2_with fail
  go_ret2
  exact ⟨rfl, G9.below⟩

set_option maxHeartbeats 4000000 in
set_option maxRecDepth 100000 in
theorem ropen_tshort {l1 : List UInt8} {n k : Nat} (hl : l1.length < 549755813888) (hR : numF l1 = (n, k, 0)) (ht : n ≤ 65536) (hn : l1.length < k + n) (w : World) :
    Calls Tryd.prog 30 #[.string (str (49 :: l1))] w fun e w' => e = .returned (.tuple #[.string (str ([])), .int .i64 4]) ∧ Below w.heap.size w w' := by
  have hsz := str_size
  have htl := toList_str
  have hone : ByteArray.mk #[49] = str [49] := rfl
  have HR := Lib.hid hR
  clear hR
  go_enter Tryd.func30, Tryd.ntmps30
  go_wp2_with fail
  refine (abytes_ok (l := 49 :: l1) 1 (by simp) _).mono ?_
  rintro e v1 ⟨rfl, hb1⟩
  rw [List.drop_succ_cons, List.drop_zero, List.take_succ_cons, List.take_zero]
  have H1 := Has.new hb1 (l1) (0)
  unfold atV
  go_wp2_with fail
  generalize v1.alloc (.cells #[.string (str (l1)), .int .i64 0] 28) = x1 at H1 ⊢
  generalize v1.heap.size = Q at H1 ⊢
  obtain ⟨c0, c1, z0, z1⟩ := H1.cells
  go_wp2_with fail
  clear c0 c1 z0 z1
  refine (amust_ok _).mono ?_
  rintro e v2 ⟨rfl, hb2⟩
  have G2 := H1.on hb2
  have H2 := G2.set (l1) (0)
  obtain ⟨c0, c1, z0, z1⟩ := G2.cells
  unfold atV
  go_wp2_with fail
  generalize ((v2.setCell ⟨Q, 0, none⟩ (.string (str (l1)))).setCell ⟨Q, 1, none⟩ (.int .i64 0)) = x2 at H2 ⊢
  clear c0 c1 z0 z1 G2
  obtain ⟨c0, c1, z0, z1⟩ := H2.cells
  go_wp2_with fail
  clear c0 c1 z0 z1
  refine (atext_short (l := l1) 65536 (by decide) (by omega) HR.out ht hn _).mono ?_
  rintro e v3 ⟨rfl, hb3⟩
  have G3 := H2.on hb3
  have H3 := G3.set (l1.drop k) (4)
  obtain ⟨c0, c1, z0, z1⟩ := G3.cells
  unfold atV
  go_wp2_with fail
  generalize ((v3.setCell ⟨Q, 0, none⟩ (.string (str (l1.drop k)))).setCell ⟨Q, 1, none⟩ (.int .i64 4)) = x3 at H3 ⊢
  clear c0 c1 z0 z1 G3
  obtain ⟨c0, c1, z0, z1⟩ := H3.cells
  go_wp2_with fail
  clear c0 c1 z0 z1
  refine (abytes_err 4 4 (by decide) _).mono ?_
  rintro e v4 ⟨rfl, hb4⟩
  have G4 := H3.on hb4
  have H4 := G4.set (l1.drop k) (4)
  obtain ⟨c0, c1, z0, z1⟩ := G4.cells
  unfold atV
  go_wp2_with fail
  generalize ((v4.setCell ⟨Q, 0, none⟩ (.string (str (l1.drop k)))).setCell ⟨Q, 1, none⟩ (.int .i64 4)) = x4 at H4 ⊢
  clear c0 c1 z0 z1 G4
  obtain ⟨c0, c1, z0, z1⟩ := H4.cells
  go_wp2_with fail
  clear c0 c1 z0 z1
  refine (aend_err 4 (by decide) _).mono ?_
  rintro e v9 ⟨rfl, hb9⟩
  have G9 := H4.on hb9
  go_wp2_with fail
  go_ret2
  exact ⟨rfl, G9.below⟩

set_option maxHeartbeats 4000000 in
set_option maxRecDepth 100000 in
theorem ropen_short {l1 : List UInt8} {n k : Nat} (hl : l1.length < 549755813888) (hR : numF l1 = (n, k, 0)) (ht : n ≤ 65536) (hn : k + n ≤ l1.length) (h4 : (l1.drop (k + n)).length < 4) (w : World) :
    Calls Tryd.prog 30 #[.string (str (49 :: l1))] w fun e w' => e = .returned (.tuple #[.string (str ([])), .int .i64 4]) ∧ Below w.heap.size w w' := by
  have hsz := str_size
  have htl := toList_str
  have hone : ByteArray.mk #[49] = str [49] := rfl
  have HR := Lib.hid hR
  clear hR
  go_enter Tryd.func30, Tryd.ntmps30
  go_wp2_with fail
  refine (abytes_ok (l := 49 :: l1) 1 (by simp) _).mono ?_
  rintro e v1 ⟨rfl, hb1⟩
  rw [List.drop_succ_cons, List.drop_zero, List.take_succ_cons, List.take_zero]
  have H1 := Has.new hb1 (l1) (0)
  unfold atV
  go_wp2_with fail
  generalize v1.alloc (.cells #[.string (str (l1)), .int .i64 0] 28) = x1 at H1 ⊢
  generalize v1.heap.size = Q at H1 ⊢
  obtain ⟨c0, c1, z0, z1⟩ := H1.cells
  go_wp2_with fail
  clear c0 c1 z0 z1
  refine (amust_ok _).mono ?_
  rintro e v2 ⟨rfl, hb2⟩
  have G2 := H1.on hb2
  have H2 := G2.set (l1) (0)
  obtain ⟨c0, c1, z0, z1⟩ := G2.cells
  unfold atV
  go_wp2_with fail
  generalize ((v2.setCell ⟨Q, 0, none⟩ (.string (str (l1)))).setCell ⟨Q, 1, none⟩ (.int .i64 0)) = x2 at H2 ⊢
  clear c0 c1 z0 z1 G2
  obtain ⟨c0, c1, z0, z1⟩ := H2.cells
  go_wp2_with fail
  clear c0 c1 z0 z1
  refine (atext_ok (l := l1) 65536 (by decide) (by omega) HR.out ht hn _).mono ?_
  rintro e v3 ⟨rfl, hb3⟩
  have G3 := H2.on hb3
  have H3 := G3.set (l1.drop (k + n)) (0)
  obtain ⟨c0, c1, z0, z1⟩ := G3.cells
  unfold atV
  go_wp2_with fail
  generalize ((v3.setCell ⟨Q, 0, none⟩ (.string (str (l1.drop (k + n))))).setCell ⟨Q, 1, none⟩ (.int .i64 0)) = x3 at H3 ⊢
  clear c0 c1 z0 z1 G3
  obtain ⟨c0, c1, z0, z1⟩ := H3.cells
  go_wp2_with fail
  clear c0 c1 z0 z1
  refine (abytes_short (l := l1.drop (k + n)) 4 (.inr (by omega)) _).mono ?_
  rintro e v4 ⟨rfl, hb4⟩
  have G4 := H3.on hb4
  have H4 := G4.set (l1.drop (k + n)) (4)
  obtain ⟨c0, c1, z0, z1⟩ := G4.cells
  unfold atV
  go_wp2_with fail
  generalize ((v4.setCell ⟨Q, 0, none⟩ (.string (str (l1.drop (k + n))))).setCell ⟨Q, 1, none⟩ (.int .i64 4)) = x4 at H4 ⊢
  clear c0 c1 z0 z1 G4
  obtain ⟨c0, c1, z0, z1⟩ := H4.cells
  go_wp2_with fail
  clear c0 c1 z0 z1
  refine (aend_err 4 (by decide) _).mono ?_
  rintro e v9 ⟨rfl, hb9⟩
  have G9 := H4.on hb9
  go_wp2_with fail
  go_ret2
  exact ⟨rfl, G9.below⟩

theorem has_keep {w x y : World} {Q : Nat} {m : List UInt8} {e : Int} (hS : x.cell? ⟨Q, 0, none⟩ = some (.string (str m)) ∧ x.cell? ⟨Q, 1, none⟩ = some (.int .i64 e) ∧ x.frozen? ⟨Q, 0, none⟩ = false ∧ x.frozen? ⟨Q, 1, none⟩ = false ∧ Has w x Q m e) (hb : Below x.heap.size x y) :
    y.cell? ⟨Q, 0, none⟩ = some (.string (str m)) ∧ y.cell? ⟨Q, 1, none⟩ = some (.int .i64 e) ∧ y.frozen? ⟨Q, 0, none⟩ = false ∧ y.frozen? ⟨Q, 1, none⟩ = false ∧ Has w y Q m e := by
  have h := hS.2.2.2.2.on hb
  obtain ⟨a, b, c, d⟩ := h.cells
  exact ⟨a, b, c, d, h⟩

set_option maxHeartbeats 4000000 in
set_option maxRecDepth 100000 in
theorem ropen_ok {l1 : List UInt8} {n k : Nat} (hl : l1.length < 549755813888) (hR : numF l1 = (n, k, 0)) (ht : n ≤ 65536) (hn : k + n ≤ l1.length) (h4 : 4 ≤ (l1.drop (k + n)).length) (hck : (l1.drop (k + n)).take 4 = four (chk ((49 :: l1).take (l1.length + 1 - (l1.drop (k + n)).length)))) (hm : (l1.drop (k + n)).drop 4 = []) (w : World) :
    Calls Tryd.prog 30 #[.string (str (49 :: l1))] w fun e w' => e = .returned (.tuple #[.string (str ((l1.drop k).take n)), .int .i64 0]) ∧ Below w.heap.size w w' := by
  have hsz := str_size
  have htl := toList_str
  have hone : ByteArray.mk #[49] = str [49] := rfl
  have HR := Lib.hid hR
  clear hR
  have HM0 := Lib.hid hm
  clear hm
  go_enter Tryd.func30, Tryd.ntmps30
  go_wp2_with fail
  refine (abytes_ok (l := 49 :: l1) 1 (by simp) _).mono ?_
  rintro e v1 ⟨rfl, hb1⟩
  rw [List.drop_succ_cons, List.drop_zero, List.take_succ_cons, List.take_zero]
  have H1 := Has.new hb1 (l1) (0)
  unfold atV
  go_wp2_with fail
  generalize v1.alloc (.cells #[.string (str (l1)), .int .i64 0] 28) = x1 at H1 ⊢
  generalize v1.heap.size = Q at H1 ⊢
  obtain ⟨c0, c1, z0, z1⟩ := H1.cells
  go_wp2_with fail
  clear c0 c1 z0 z1
  refine (amust_ok _).mono ?_
  rintro e v2 ⟨rfl, hb2⟩
  have G2 := H1.on hb2
  have H2 := G2.set (l1) (0)
  obtain ⟨c0, c1, z0, z1⟩ := G2.cells
  unfold atV
  go_wp2_with fail
  generalize ((v2.setCell ⟨Q, 0, none⟩ (.string (str (l1)))).setCell ⟨Q, 1, none⟩ (.int .i64 0)) = x2 at H2 ⊢
  clear c0 c1 z0 z1 G2
  obtain ⟨c0, c1, z0, z1⟩ := H2.cells
  go_wp2_with fail
  clear c0 c1 z0 z1
  refine (atext_ok (l := l1) 65536 (by decide) (by omega) HR.out ht hn _).mono ?_
  rintro e v3 ⟨rfl, hb3⟩
  have G3 := H2.on hb3
  have H3 := G3.set (l1.drop (k + n)) (0)
  obtain ⟨c0, c1, z0, z1⟩ := G3.cells
  unfold atV
  go_wp2_with fail
  generalize ((v3.setCell ⟨Q, 0, none⟩ (.string (str (l1.drop (k + n))))).setCell ⟨Q, 1, none⟩ (.int .i64 0)) = x3 at H3 ⊢
  clear c0 c1 z0 z1 G3
  obtain ⟨c0, c1, z0, z1⟩ := H3.cells
  go_wp2_with fail
  generalize hl2 : l1.drop (k + n) = l2 at H3 c0 h4 hck ⊢
  have HL := Lib.hid hl2
  have HC := Lib.hid hck
  clear hl2 hck
  clear c0 c1 z0 z1
  refine (abytes_ok (l := l2) 4 h4 _).mono ?_
  rintro e v4 ⟨rfl, hb4⟩
  have G4 := H3.on hb4
  have H4 := G4.set (List.drop 4 l2) (0)
  obtain ⟨c0, c1, z0, z1⟩ := G4.cells
  unfold atV
  go_wp2_with fail
  generalize ((v4.setCell ⟨Q, 0, none⟩ (.string (str (List.drop 4 l2)))).setCell ⟨Q, 1, none⟩ (.int .i64 0)) = x4 at H4 ⊢
  clear c0 c1 z0 z1 G4
  obtain ⟨c0, c1, z0, z1⟩ := H4.cells
  go_wp2_with fail
  have hlen : l2.length ≤ l1.length := by rw [← HL.out, List.length_drop]; omega
  generalize hl3 : List.drop 4 l2 = l3 at H4 c0 ⊢
  have hl3n : l3.length + 4 = l2.length := by rw [← hl3, List.length_drop]; omega
  have HL3 := Lib.hid hl3
  generalize hf : 49 :: l1 = f at HC ⊢
  have hfn : f.length = l1.length + 1 := by rw [← hf]; rfl
  have HF := Lib.hid hf
  obtain ⟨K, hK⟩ : ∃ K, K = l1.length + 1 - l2.length := ⟨_, rfl⟩
  rw [← hK] at HC
  have q1 : IntKind.i64.wrap ((f.length : Int) - 4) = (f.length : Int) - 4 := IntWalk.i64_in _ (by omega)
  have q2 : IntKind.i64.wrap ((f.length : Int) - 4 - (l3.length : Int)) = (K : Int) := by rw [IntWalk.i64_in _ (by omega)]; omega
  have q3 : (0 : Int) ≤ (K : Int) := by omega
  have q4 : (K : Int) ≤ (f.length : Int) := by omega
  have hfm : f.length < 549755813889 := by omega
  have hx := str_take f K
  have hcb : (List.take 4 l2 == four (chk (List.take K f))) = true := by rw [beq_iff_eq]; exact HC.out
  clear hl3 hf hK hfn hl3n hlen h4 hl hn ht
  have HH := H4.drew
  have hchk : (four (chk (List.take K f))).length = 4 := rfl
  obtain ⟨c0, c1, z0, z1⟩ := HH.cells
  go_upto_region 6 with fail
  go_region_with (first | (go_at_call 26; refine (refcheck_c _ (by rw [str_size, List.length_take]; unfold maxLen; omega) _).mono ?_; rintro e v ⟨rfl, rfl⟩; rw [str_list]) | (go_at_call 47; refine (four_c _ (chk_lt _) _).mono ?_; rintro e v ⟨rfl, hv⟩; have HJ := HH.on hv; obtain ⟨d0, d1, d2, d3⟩ := HJ.cells) | (go_at_call 40; refine (amust_ok _).mono ?_; rintro e v' ⟨rfl, hv'⟩; have HM := HJ.on hv'; obtain ⟨j0, j1, j2, j3⟩ := HM.cells; unfold atV))
  all_goals
    have H5 := HM.set l3 0
    generalize ((v'.setCell ⟨Q, 0, none⟩ (.string (str l3))).setCell ⟨Q, 1, none⟩ (.int .i64 0)) = x5 at H5 ⊢
    obtain ⟨k0, k1, k2, k3⟩ := H5.cells
    go_wp2_with fail
    refine (aend_ok _).mono ?_
    rintro e v9 ⟨rfl, hb9⟩
    have G9 := H5.on hb9
    have he : endE l3 = 0 := by rw [← HL3.out, ← HL.out, HM0.out]; rfl
    rw [he]
    clear he
    go_wp2_with fail
    go_ret2
    exact ⟨rfl, G9.below⟩

set_option maxHeartbeats 4000000 in
set_option maxRecDepth 100000 in
theorem ropen_left {l1 : List UInt8} {n k : Nat} (hl : l1.length < 549755813888) (hR : numF l1 = (n, k, 0)) (ht : n ≤ 65536) (hn : k + n ≤ l1.length) (h4 : 4 ≤ (l1.drop (k + n)).length) (hck : (l1.drop (k + n)).take 4 = four (chk ((49 :: l1).take (l1.length + 1 - (l1.drop (k + n)).length)))) (hm : (l1.drop (k + n)).drop 4 ≠ []) (w : World) :
    Calls Tryd.prog 30 #[.string (str (49 :: l1))] w fun e w' => e = .returned (.tuple #[.string (str ([])), .int .i64 5]) ∧ Below w.heap.size w w' := by
  have hsz := str_size
  have htl := toList_str
  have hone : ByteArray.mk #[49] = str [49] := rfl
  have HR := Lib.hid hR
  clear hR
  have HM0 := Lib.hid hm
  clear hm
  go_enter Tryd.func30, Tryd.ntmps30
  go_wp2_with fail
  refine (abytes_ok (l := 49 :: l1) 1 (by simp) _).mono ?_
  rintro e v1 ⟨rfl, hb1⟩
  rw [List.drop_succ_cons, List.drop_zero, List.take_succ_cons, List.take_zero]
  have H1 := Has.new hb1 (l1) (0)
  unfold atV
  go_wp2_with fail
  generalize v1.alloc (.cells #[.string (str (l1)), .int .i64 0] 28) = x1 at H1 ⊢
  generalize v1.heap.size = Q at H1 ⊢
  obtain ⟨c0, c1, z0, z1⟩ := H1.cells
  go_wp2_with fail
  clear c0 c1 z0 z1
  refine (amust_ok _).mono ?_
  rintro e v2 ⟨rfl, hb2⟩
  have G2 := H1.on hb2
  have H2 := G2.set (l1) (0)
  obtain ⟨c0, c1, z0, z1⟩ := G2.cells
  unfold atV
  go_wp2_with fail
  generalize ((v2.setCell ⟨Q, 0, none⟩ (.string (str (l1)))).setCell ⟨Q, 1, none⟩ (.int .i64 0)) = x2 at H2 ⊢
  clear c0 c1 z0 z1 G2
  obtain ⟨c0, c1, z0, z1⟩ := H2.cells
  go_wp2_with fail
  clear c0 c1 z0 z1
  refine (atext_ok (l := l1) 65536 (by decide) (by omega) HR.out ht hn _).mono ?_
  rintro e v3 ⟨rfl, hb3⟩
  have G3 := H2.on hb3
  have H3 := G3.set (l1.drop (k + n)) (0)
  obtain ⟨c0, c1, z0, z1⟩ := G3.cells
  unfold atV
  go_wp2_with fail
  generalize ((v3.setCell ⟨Q, 0, none⟩ (.string (str (l1.drop (k + n))))).setCell ⟨Q, 1, none⟩ (.int .i64 0)) = x3 at H3 ⊢
  clear c0 c1 z0 z1 G3
  obtain ⟨c0, c1, z0, z1⟩ := H3.cells
  go_wp2_with fail
  generalize hl2 : l1.drop (k + n) = l2 at H3 c0 h4 hck ⊢
  have HL := Lib.hid hl2
  have HC := Lib.hid hck
  clear hl2 hck
  clear c0 c1 z0 z1
  refine (abytes_ok (l := l2) 4 h4 _).mono ?_
  rintro e v4 ⟨rfl, hb4⟩
  have G4 := H3.on hb4
  have H4 := G4.set (List.drop 4 l2) (0)
  obtain ⟨c0, c1, z0, z1⟩ := G4.cells
  unfold atV
  go_wp2_with fail
  generalize ((v4.setCell ⟨Q, 0, none⟩ (.string (str (List.drop 4 l2)))).setCell ⟨Q, 1, none⟩ (.int .i64 0)) = x4 at H4 ⊢
  clear c0 c1 z0 z1 G4
  obtain ⟨c0, c1, z0, z1⟩ := H4.cells
  go_wp2_with fail
  have hlen : l2.length ≤ l1.length := by rw [← HL.out, List.length_drop]; omega
  generalize hl3 : List.drop 4 l2 = l3 at H4 c0 ⊢
  have hl3n : l3.length + 4 = l2.length := by rw [← hl3, List.length_drop]; omega
  have HL3 := Lib.hid hl3
  generalize hf : 49 :: l1 = f at HC ⊢
  have hfn : f.length = l1.length + 1 := by rw [← hf]; rfl
  have HF := Lib.hid hf
  obtain ⟨K, hK⟩ : ∃ K, K = l1.length + 1 - l2.length := ⟨_, rfl⟩
  rw [← hK] at HC
  have q1 : IntKind.i64.wrap ((f.length : Int) - 4) = (f.length : Int) - 4 := IntWalk.i64_in _ (by omega)
  have q2 : IntKind.i64.wrap ((f.length : Int) - 4 - (l3.length : Int)) = (K : Int) := by rw [IntWalk.i64_in _ (by omega)]; omega
  have q3 : (0 : Int) ≤ (K : Int) := by omega
  have q4 : (K : Int) ≤ (f.length : Int) := by omega
  have hfm : f.length < 549755813889 := by omega
  have hx := str_take f K
  have hcb : (List.take 4 l2 == four (chk (List.take K f))) = true := by rw [beq_iff_eq]; exact HC.out
  clear hl3 hf hK hfn hl3n hlen h4 hl hn ht
  have HH := H4.drew
  have hchk : (four (chk (List.take K f))).length = 4 := rfl
  obtain ⟨c0, c1, z0, z1⟩ := HH.cells
  go_upto_region 6 with fail
  go_region_with (first | (go_at_call 26; refine (refcheck_c _ (by rw [str_size, List.length_take]; unfold maxLen; omega) _).mono ?_; rintro e v ⟨rfl, rfl⟩; rw [str_list]) | (go_at_call 47; refine (four_c _ (chk_lt _) _).mono ?_; rintro e v ⟨rfl, hv⟩; have HJ := HH.on hv; obtain ⟨d0, d1, d2, d3⟩ := HJ.cells) | (go_at_call 40; refine (amust_ok _).mono ?_; rintro e v' ⟨rfl, hv'⟩; have HM := HJ.on hv'; obtain ⟨j0, j1, j2, j3⟩ := HM.cells; unfold atV))
  all_goals
    have H5 := HM.set l3 0
    generalize ((v'.setCell ⟨Q, 0, none⟩ (.string (str l3))).setCell ⟨Q, 1, none⟩ (.int .i64 0)) = x5 at H5 ⊢
    obtain ⟨k0, k1, k2, k3⟩ := H5.cells
    go_wp2_with fail
    refine (aend_ok _).mono ?_
    rintro e v9 ⟨rfl, hb9⟩
    have G9 := H5.on hb9
    have he : (endE l3 : Int) = 5 := endE_some (by rw [← HL3.out, ← HL.out]; exact HM0.out)
    rw [he]
    clear he
    go_wp2_with fail
    go_ret2
    exact ⟨rfl, G9.below⟩

set_option maxHeartbeats 4000000 in
set_option maxRecDepth 100000 in
theorem ropen_check {l1 : List UInt8} {n k : Nat} (hl : l1.length < 549755813888) (hR : numF l1 = (n, k, 0)) (ht : n ≤ 65536) (hn : k + n ≤ l1.length) (h4 : 4 ≤ (l1.drop (k + n)).length) (hck : ¬ ((l1.drop (k + n)).take 4 = four (chk ((49 :: l1).take (l1.length + 1 - (l1.drop (k + n)).length))))) (w : World) :
    Calls Tryd.prog 30 #[.string (str (49 :: l1))] w fun e w' => e = .returned (.tuple #[.string (str ([])), .int .i64 6]) ∧ Below w.heap.size w w' := by
  have hsz := str_size
  have htl := toList_str
  have hone : ByteArray.mk #[49] = str [49] := rfl
  have HR := Lib.hid hR
  clear hR
  go_enter Tryd.func30, Tryd.ntmps30
  go_wp2_with fail
  refine (abytes_ok (l := 49 :: l1) 1 (by simp) _).mono ?_
  rintro e v1 ⟨rfl, hb1⟩
  rw [List.drop_succ_cons, List.drop_zero, List.take_succ_cons, List.take_zero]
  have H1 := Has.new hb1 (l1) (0)
  unfold atV
  go_wp2_with fail
  generalize v1.alloc (.cells #[.string (str (l1)), .int .i64 0] 28) = x1 at H1 ⊢
  generalize v1.heap.size = Q at H1 ⊢
  obtain ⟨c0, c1, z0, z1⟩ := H1.cells
  go_wp2_with fail
  clear c0 c1 z0 z1
  refine (amust_ok _).mono ?_
  rintro e v2 ⟨rfl, hb2⟩
  have G2 := H1.on hb2
  have H2 := G2.set (l1) (0)
  obtain ⟨c0, c1, z0, z1⟩ := G2.cells
  unfold atV
  go_wp2_with fail
  generalize ((v2.setCell ⟨Q, 0, none⟩ (.string (str (l1)))).setCell ⟨Q, 1, none⟩ (.int .i64 0)) = x2 at H2 ⊢
  clear c0 c1 z0 z1 G2
  obtain ⟨c0, c1, z0, z1⟩ := H2.cells
  go_wp2_with fail
  clear c0 c1 z0 z1
  refine (atext_ok (l := l1) 65536 (by decide) (by omega) HR.out ht hn _).mono ?_
  rintro e v3 ⟨rfl, hb3⟩
  have G3 := H2.on hb3
  have H3 := G3.set (l1.drop (k + n)) (0)
  obtain ⟨c0, c1, z0, z1⟩ := G3.cells
  unfold atV
  go_wp2_with fail
  generalize ((v3.setCell ⟨Q, 0, none⟩ (.string (str (l1.drop (k + n))))).setCell ⟨Q, 1, none⟩ (.int .i64 0)) = x3 at H3 ⊢
  clear c0 c1 z0 z1 G3
  obtain ⟨c0, c1, z0, z1⟩ := H3.cells
  go_wp2_with fail
  generalize hl2 : l1.drop (k + n) = l2 at H3 c0 h4 hck ⊢
  have HL := Lib.hid hl2
  have HC := Lib.hid hck
  clear hl2 hck
  clear c0 c1 z0 z1
  refine (abytes_ok (l := l2) 4 h4 _).mono ?_
  rintro e v4 ⟨rfl, hb4⟩
  have G4 := H3.on hb4
  have H4 := G4.set (List.drop 4 l2) (0)
  obtain ⟨c0, c1, z0, z1⟩ := G4.cells
  unfold atV
  go_wp2_with fail
  generalize ((v4.setCell ⟨Q, 0, none⟩ (.string (str (List.drop 4 l2)))).setCell ⟨Q, 1, none⟩ (.int .i64 0)) = x4 at H4 ⊢
  clear c0 c1 z0 z1 G4
  obtain ⟨c0, c1, z0, z1⟩ := H4.cells
  go_wp2_with fail
  have hlen : l2.length ≤ l1.length := by rw [← HL.out, List.length_drop]; omega
  generalize hl3 : List.drop 4 l2 = l3 at H4 c0 ⊢
  have hl3n : l3.length + 4 = l2.length := by rw [← hl3, List.length_drop]; omega
  have HL3 := Lib.hid hl3
  generalize hf : 49 :: l1 = f at HC ⊢
  have hfn : f.length = l1.length + 1 := by rw [← hf]; rfl
  have HF := Lib.hid hf
  obtain ⟨K, hK⟩ : ∃ K, K = l1.length + 1 - l2.length := ⟨_, rfl⟩
  rw [← hK] at HC
  have q1 : IntKind.i64.wrap ((f.length : Int) - 4) = (f.length : Int) - 4 := IntWalk.i64_in _ (by omega)
  have q2 : IntKind.i64.wrap ((f.length : Int) - 4 - (l3.length : Int)) = (K : Int) := by rw [IntWalk.i64_in _ (by omega)]; omega
  have q3 : (0 : Int) ≤ (K : Int) := by omega
  have q4 : (K : Int) ≤ (f.length : Int) := by omega
  have hfm : f.length < 549755813889 := by omega
  have hx := str_take f K
  have hcb : (List.take 4 l2 == four (chk (List.take K f))) = false := by rw [beq_eq_false_iff_ne]; exact HC.out
  clear hl3 hf hK hfn hl3n hlen h4 hl hn ht
  have HH := H4.drew
  have hchk : (four (chk (List.take K f))).length = 4 := rfl
  obtain ⟨c0, c1, z0, z1⟩ := HH.cells
  go_upto_region 6 with fail
  go_region_with (first | (go_at_call 26; refine (refcheck_c _ (by rw [str_size, List.length_take]; unfold maxLen; omega) _).mono ?_; rintro e v ⟨rfl, rfl⟩; rw [str_list]) | (go_at_call 47; refine (four_c _ (chk_lt _) _).mono ?_; rintro e v ⟨rfl, hv⟩; have HJ := HH.on hv; obtain ⟨d0, d1, d2, d3⟩ := HJ.cells) | (go_at_call 40; refine (amust_no _).mono ?_; rintro e v' ⟨rfl, hv'⟩; have HM := HJ.on hv'; obtain ⟨j0, j1, j2, j3⟩ := HM.cells; unfold atV))
  all_goals
    have H5 := HM.set l3 6
    generalize ((v'.setCell ⟨Q, 0, none⟩ (.string (str l3))).setCell ⟨Q, 1, none⟩ (.int .i64 6)) = x5 at H5 ⊢
    obtain ⟨k0, k1, k2, k3⟩ := H5.cells
    go_wp2_with fail
    refine (aend_err 6 (by decide) _).mono ?_
    rintro e v9 ⟨rfl, hb9⟩
    have G9 := H5.on hb9
    go_wp2_with fail
    go_ret2
    exact ⟨rfl, G9.below⟩

end Go.Proofs.YtmoammadibepkaaDoor.Wirey