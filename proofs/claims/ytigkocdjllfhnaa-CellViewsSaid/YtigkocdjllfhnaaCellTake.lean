/- Layer 16: a view taken off its own bytes. The only condition: it may be, or is the empty one. -/
import Derived.Test.YtigkocdjllfhnaaOpTk
import Derived.Test.YtigkocdjllfhnaaCellPut
import Derived.BigQuiet
namespace Go.Proofs.Ytigkocdjllfhnaa.Celly
open Go.ChangeShapes Go.WideShapes Go.ChangeAt Go.RowKit
open Wirey (Blk Row str str_size str_list str_cat enc enc_len RS Kp must_ok)
open Opy (Tk)
theorem minus_cs : (⟨0, 0, 0, -1, 0, 0⟩ : Vw).cs = #[.int .u64 0, .int .i64 0, .int .u64 0, .int .i64 (-1), .int .u64 0, .int .u64 0] := rfl
set_option maxHeartbeats 4000000 in
set_option maxRecDepth 100000 in
theorem takeView_c {R O v a l k b t : Nat} (hv : v < 18446744073709551616) (hp : a < 1048576) (hl : l < 18446744073709551616) (hk : k ≤ 1048576) (hb : b < 18446744073709551616) (ht : t < 18446744073709551616) (hm : May (vw v a l k b t)) (rest : List UInt8) (hr : rest.length ≤ 9000000) (w : World) (h : RS w R O (enc v ++ (enc a ++ (enc l ++ (enc k ++ (enc b ++ (enc t ++ rest))))))) :
    Calls Try.prog 17 #[.pointer (some ⟨R, 0, none⟩)] w fun e w' => e = .returned (.agg #[.int .u64 (v : Int), .int .i64 (a : Int), .int .u64 (l : Int), .int .i64 ((k : Int) - 1), .int .u64 (b : Int), .int .u64 (t : Int)]) ∧ RS w' R O rest ∧ Kp (fun k => k = R ∨ k = O) w w' := by
  have l1 := enc_len (n := v) hv
  have l2 := enc_len (n := a) (by omega)
  have l3 := enc_len (n := l) hl
  have l4 := enc_len (n := k) (by omega)
  have l5 := enc_len (n := b) hb
  have l6 := enc_len (n := t) ht
  have ew1 : IntKind.i64.wrap (a : Int) = (a : Int) := by rw [IntKind.wrap_i64]; omega
  have ew2 : IntKind.i64.wrap (k : Int) = (k : Int) := by rw [IntKind.wrap_i64]; omega
  have ew3 : IntKind.i64.wrap ((k : Int) - 1) = (k : Int) - 1 := by rw [IntKind.wrap_i64]; omega
  have hC := fun W => check_c (vw v a l k b t) W
  rw [decide_eq_true hm] at hC
  have hq0 : ∀ w, (Op.equalIn 10000 25 (.agg #[.int .u64 (v : Int), .int .i64 (a : Int), .int .u64 (l : Int), .int .i64 ((k : Int) - 1), .int .u64 (b : Int), .int .u64 (t : Int)]) (.agg #[.int .u64 0, .int .i64 0, .int .u64 0, .int .i64 (-1), .int .u64 0, .int .u64 0])).run Try.prog w = .ok false w := fun w => by
    have h1 := eq_no (x := vw v a l k b t) (y := ⟨0, 0, 0, -1, 0, 0⟩) (fun e => hm.1 (congrArg Vw.v e)) w
    rw [minus_cs] at h1
    exact h1
  clear hm
  have hRw := h.rd.lt
  have hOw := h.of.lt
  have hz := (Blk.new w 25 #[.int .u64 0, .int .i64 0, .int .u64 0, .int .i64 0, .int .u64 0, .int .u64 0]).alloc (.cells #[.int .u64 0, .int .i64 0, .int .u64 0, .int .i64 0, .int .u64 0, .int .u64 0] 25)
  have s1 : (w.alloc (.cells #[.int .u64 0, .int .i64 0, .int .u64 0, .int .i64 0, .int .u64 0, .int .u64 0] 25)).heap.size = w.heap.size + 1 := by simp
  have hx := Blk.new (w.alloc (.cells #[.int .u64 0, .int .i64 0, .int .u64 0, .int .i64 0, .int .u64 0, .int .u64 0] 25)) 25 #[.int .u64 0, .int .i64 0, .int .u64 0, .int .i64 0, .int .u64 0, .int .u64 0]
  rw [s1] at hx
  have hb0 := ((Below.refl _ w).alloc (Nat.le_refl _) (.cells #[.int .u64 0, .int .i64 0, .int .u64 0, .int .i64 0, .int .u64 0, .int .u64 0] 25)).alloc (by simp) (.cells #[.int .u64 0, .int .i64 0, .int .u64 0, .int .i64 0, .int .u64 0, .int .u64 0] 25)
  have T0 : Tk 25 w _ w.heap.size (w.heap.size + 1) R O #[.int .u64 0, .int .i64 0, .int .u64 0, .int .i64 0, .int .u64 0, .int .u64 0] #[.int .u64 0, .int .i64 0, .int .u64 0, .int .i64 0, .int .u64 0, .int .u64 0] _ := ⟨hz, hx, h.below hb0, Kp.of_below hb0, Nat.le_refl _, by omega, by omega, hRw, hOw⟩
  clear hz hx hb0 h hRw hOw
  go_enter Try.func17, Try.ntmps17
  go_upto_region 2 with (fail)
  generalize (w.alloc (.cells #[.int .u64 0, .int .i64 0, .int .u64 0, .int .i64 0, .int .u64 0, .int .u64 0] 25)).alloc (.cells #[.int .u64 0, .int .i64 0, .int .u64 0, .int .i64 0, .int .u64 0, .int .u64 0] 25) = w0 at *
  clear s1
  generalize w.heap.size + 1 = p at *
  generalize hgg : w.heap.size = g at T0 ⊢
  clear hgg
  have x0 := T0.xx.cell 0
  have z0 := T0.xx.free 0
  have x1 := T0.xx.cell 1
  have z1 := T0.xx.free 1
  have x2 := T0.xx.cell 2
  have z2 := T0.xx.free 2
  have x3 := T0.xx.cell 3
  have z3 := T0.xx.free 3
  have x4 := T0.xx.cell 4
  have z4 := T0.xx.free 4
  have x5 := T0.xx.cell 5
  have z5 := T0.xx.free 5
  simp only [List.getElem?_toArray, List.getElem?_cons_zero, List.getElem?_cons_succ] at x0 x1 x2 x3 x4 x5
  go_wp2_with fail
  refine (Tk.num (n := v) 18446744073709551615 (by omega) (by omega) (by (try simp only [List.length_append]); omega) T0).mono ?_
  rintro e v1 ⟨rfl, S1⟩
  clear x0 z0 x1 z1 x2 z2 x3 z3 x4 z4 x5 z5
  clear T0
  have x0 := S1.xx.cell 0
  have z0 := S1.xx.free 0
  have x1 := S1.xx.cell 1
  have z1 := S1.xx.free 1
  have x2 := S1.xx.cell 2
  have z2 := S1.xx.free 2
  have x3 := S1.xx.cell 3
  have z3 := S1.xx.free 3
  have x4 := S1.xx.cell 4
  have z4 := S1.xx.free 4
  have x5 := S1.xx.cell 5
  have z5 := S1.xx.free 5
  simp only [List.getElem?_toArray, List.getElem?_cons_zero, List.getElem?_cons_succ] at x0 x1 x2 x3 x4 x5
  have U1 := (S1.put 0 (.int .u64 (v : Int)))
  simp only [List.setIfInBounds_toArray, List.set_cons_zero] at U1
  clear S1
  go_upto_region 3 with (fail)
  generalize (v1.setCell ⟨p, 0, none⟩ (.int .u64 (v : Int))) = w21 at *
  clear x0 z0 x1 z1 x2 z2 x3 z3 x4 z4 x5 z5
  have x0 := U1.xx.cell 0
  have z0 := U1.xx.free 0
  have x1 := U1.xx.cell 1
  have z1 := U1.xx.free 1
  have x2 := U1.xx.cell 2
  have z2 := U1.xx.free 2
  have x3 := U1.xx.cell 3
  have z3 := U1.xx.free 3
  have x4 := U1.xx.cell 4
  have z4 := U1.xx.free 4
  have x5 := U1.xx.cell 5
  have z5 := U1.xx.free 5
  simp only [List.getElem?_toArray, List.getElem?_cons_zero, List.getElem?_cons_succ] at x0 x1 x2 x3 x4 x5
  go_wp2_with fail
  refine (Tk.num (n := a) 1048576 (by omega) (by omega) (by (try simp only [List.length_append]); omega) U1).mono ?_
  rintro e v2 ⟨rfl, S2⟩
  clear x0 z0 x1 z1 x2 z2 x3 z3 x4 z4 x5 z5
  clear U1
  have x0 := S2.xx.cell 0
  have z0 := S2.xx.free 0
  have x1 := S2.xx.cell 1
  have z1 := S2.xx.free 1
  have x2 := S2.xx.cell 2
  have z2 := S2.xx.free 2
  have x3 := S2.xx.cell 3
  have z3 := S2.xx.free 3
  have x4 := S2.xx.cell 4
  have z4 := S2.xx.free 4
  have x5 := S2.xx.cell 5
  have z5 := S2.xx.free 5
  simp only [List.getElem?_toArray, List.getElem?_cons_zero, List.getElem?_cons_succ] at x0 x1 x2 x3 x4 x5
  have U2 := (S2.put 1 (.int .i64 (a : Int)))
  simp only [List.setIfInBounds_toArray, List.set_cons_zero, List.set_cons_succ] at U2
  clear S2
  go_upto_region 4 with (fail)
  generalize (v2.setCell ⟨p, 1, none⟩ (.int .i64 (a : Int))) = w22 at *
  clear x0 z0 x1 z1 x2 z2 x3 z3 x4 z4 x5 z5
  have x0 := U2.xx.cell 0
  have z0 := U2.xx.free 0
  have x1 := U2.xx.cell 1
  have z1 := U2.xx.free 1
  have x2 := U2.xx.cell 2
  have z2 := U2.xx.free 2
  have x3 := U2.xx.cell 3
  have z3 := U2.xx.free 3
  have x4 := U2.xx.cell 4
  have z4 := U2.xx.free 4
  have x5 := U2.xx.cell 5
  have z5 := U2.xx.free 5
  simp only [List.getElem?_toArray, List.getElem?_cons_zero, List.getElem?_cons_succ] at x0 x1 x2 x3 x4 x5
  go_wp2_with fail
  refine (Tk.num (n := l) 18446744073709551615 (by omega) (by omega) (by (try simp only [List.length_append]); omega) U2).mono ?_
  rintro e v3 ⟨rfl, S3⟩
  clear x0 z0 x1 z1 x2 z2 x3 z3 x4 z4 x5 z5
  clear U2
  have x0 := S3.xx.cell 0
  have z0 := S3.xx.free 0
  have x1 := S3.xx.cell 1
  have z1 := S3.xx.free 1
  have x2 := S3.xx.cell 2
  have z2 := S3.xx.free 2
  have x3 := S3.xx.cell 3
  have z3 := S3.xx.free 3
  have x4 := S3.xx.cell 4
  have z4 := S3.xx.free 4
  have x5 := S3.xx.cell 5
  have z5 := S3.xx.free 5
  simp only [List.getElem?_toArray, List.getElem?_cons_zero, List.getElem?_cons_succ] at x0 x1 x2 x3 x4 x5
  have U3 := (S3.put 2 (.int .u64 (l : Int)))
  simp only [List.setIfInBounds_toArray, List.set_cons_zero, List.set_cons_succ] at U3
  clear S3
  go_upto_region 5 with (fail)
  generalize (v3.setCell ⟨p, 2, none⟩ (.int .u64 (l : Int))) = w23 at *
  clear x0 z0 x1 z1 x2 z2 x3 z3 x4 z4 x5 z5
  have x0 := U3.xx.cell 0
  have z0 := U3.xx.free 0
  have x1 := U3.xx.cell 1
  have z1 := U3.xx.free 1
  have x2 := U3.xx.cell 2
  have z2 := U3.xx.free 2
  have x3 := U3.xx.cell 3
  have z3 := U3.xx.free 3
  have x4 := U3.xx.cell 4
  have z4 := U3.xx.free 4
  have x5 := U3.xx.cell 5
  have z5 := U3.xx.free 5
  simp only [List.getElem?_toArray, List.getElem?_cons_zero, List.getElem?_cons_succ] at x0 x1 x2 x3 x4 x5
  go_wp2_with fail
  refine (Tk.num (n := k) 1048576 (by omega) (by omega) (by (try simp only [List.length_append]); omega) U3).mono ?_
  rintro e v4 ⟨rfl, S4⟩
  clear x0 z0 x1 z1 x2 z2 x3 z3 x4 z4 x5 z5
  clear U3
  have x0 := S4.xx.cell 0
  have z0 := S4.xx.free 0
  have x1 := S4.xx.cell 1
  have z1 := S4.xx.free 1
  have x2 := S4.xx.cell 2
  have z2 := S4.xx.free 2
  have x3 := S4.xx.cell 3
  have z3 := S4.xx.free 3
  have x4 := S4.xx.cell 4
  have z4 := S4.xx.free 4
  have x5 := S4.xx.cell 5
  have z5 := S4.xx.free 5
  simp only [List.getElem?_toArray, List.getElem?_cons_zero, List.getElem?_cons_succ] at x0 x1 x2 x3 x4 x5
  have U4 := (S4.put 3 (.int .i64 ((k : Int) - 1)))
  simp only [List.setIfInBounds_toArray, List.set_cons_zero, List.set_cons_succ] at U4
  clear S4
  go_upto_region 6 with (fail)
  generalize (v4.setCell ⟨p, 3, none⟩ (.int .i64 ((k : Int) - 1))) = w24 at *
  clear x0 z0 x1 z1 x2 z2 x3 z3 x4 z4 x5 z5
  have x0 := U4.xx.cell 0
  have z0 := U4.xx.free 0
  have x1 := U4.xx.cell 1
  have z1 := U4.xx.free 1
  have x2 := U4.xx.cell 2
  have z2 := U4.xx.free 2
  have x3 := U4.xx.cell 3
  have z3 := U4.xx.free 3
  have x4 := U4.xx.cell 4
  have z4 := U4.xx.free 4
  have x5 := U4.xx.cell 5
  have z5 := U4.xx.free 5
  simp only [List.getElem?_toArray, List.getElem?_cons_zero, List.getElem?_cons_succ] at x0 x1 x2 x3 x4 x5
  go_wp2_with fail
  refine (Tk.num (n := b) 18446744073709551615 (by omega) (by omega) (by (try simp only [List.length_append]); omega) U4).mono ?_
  rintro e v5 ⟨rfl, S5⟩
  clear x0 z0 x1 z1 x2 z2 x3 z3 x4 z4 x5 z5
  clear U4
  have x0 := S5.xx.cell 0
  have z0 := S5.xx.free 0
  have x1 := S5.xx.cell 1
  have z1 := S5.xx.free 1
  have x2 := S5.xx.cell 2
  have z2 := S5.xx.free 2
  have x3 := S5.xx.cell 3
  have z3 := S5.xx.free 3
  have x4 := S5.xx.cell 4
  have z4 := S5.xx.free 4
  have x5 := S5.xx.cell 5
  have z5 := S5.xx.free 5
  simp only [List.getElem?_toArray, List.getElem?_cons_zero, List.getElem?_cons_succ] at x0 x1 x2 x3 x4 x5
  have U5 := (S5.put 4 (.int .u64 (b : Int)))
  simp only [List.setIfInBounds_toArray, List.set_cons_zero, List.set_cons_succ] at U5
  clear S5
  go_upto_region 7 with (fail)
  generalize (v5.setCell ⟨p, 4, none⟩ (.int .u64 (b : Int))) = w25 at *
  clear x0 z0 x1 z1 x2 z2 x3 z3 x4 z4 x5 z5
  have x0 := U5.xx.cell 0
  have z0 := U5.xx.free 0
  have x1 := U5.xx.cell 1
  have z1 := U5.xx.free 1
  have x2 := U5.xx.cell 2
  have z2 := U5.xx.free 2
  have x3 := U5.xx.cell 3
  have z3 := U5.xx.free 3
  have x4 := U5.xx.cell 4
  have z4 := U5.xx.free 4
  have x5 := U5.xx.cell 5
  have z5 := U5.xx.free 5
  simp only [List.getElem?_toArray, List.getElem?_cons_zero, List.getElem?_cons_succ] at x0 x1 x2 x3 x4 x5
  go_wp2_with fail
  refine (Tk.num (n := t) 18446744073709551615 (by omega) (by omega) (by (try simp only [List.length_append]); omega) U5).mono ?_
  rintro e v6 ⟨rfl, S6⟩
  clear x0 z0 x1 z1 x2 z2 x3 z3 x4 z4 x5 z5
  clear U5
  have x0 := S6.xx.cell 0
  have z0 := S6.xx.free 0
  have x1 := S6.xx.cell 1
  have z1 := S6.xx.free 1
  have x2 := S6.xx.cell 2
  have z2 := S6.xx.free 2
  have x3 := S6.xx.cell 3
  have z3 := S6.xx.free 3
  have x4 := S6.xx.cell 4
  have z4 := S6.xx.free 4
  have x5 := S6.xx.cell 5
  have z5 := S6.xx.free 5
  simp only [List.getElem?_toArray, List.getElem?_cons_zero, List.getElem?_cons_succ] at x0 x1 x2 x3 x4 x5
  have U6 := (S6.put 5 (.int .u64 (t : Int)))
  simp only [List.setIfInBounds_toArray, List.set_cons_zero, List.set_cons_succ] at U6
  clear S6
  go_upto_region 8 with (fail)
  generalize (v6.setCell ⟨p, 5, none⟩ (.int .u64 (t : Int))) = w26 at *
  clear x0 z0 x1 z1 x2 z2 x3 z3 x4 z4 x5 z5
  have x0 := U6.xx.cell 0
  have x1 := U6.xx.cell 1
  have x2 := U6.xx.cell 2
  have x3 := U6.xx.cell 3
  have x4 := U6.xx.cell 4
  have x5 := U6.xx.cell 5
  simp only [List.getElem?_toArray, List.getElem?_cons_zero, List.getElem?_cons_succ] at x0 x1 x2 x3 x4 x5
  go_wp2_with fail
  refine (hC _).mono ?_
  rintro e wc ⟨rfl, hbc⟩
  have UM := U6.below hbc
  clear hbc hC
  go_wp2_with fail
  refine (must_ok _).mono ?_
  rintro e w' ⟨rfl, rfl⟩
  clear x0 x1 x2 x3 x4 x5
  have xc0 := UM.xx.cell 0
  have yc0 := UM.zz.cell 0
  have zc0 := UM.zz.free 0
  have xc1 := UM.xx.cell 1
  have yc1 := UM.zz.cell 1
  have zc1 := UM.zz.free 1
  have xc2 := UM.xx.cell 2
  have yc2 := UM.zz.cell 2
  have zc2 := UM.zz.free 2
  have xc3 := UM.xx.cell 3
  have yc3 := UM.zz.cell 3
  have zc3 := UM.zz.free 3
  have xc4 := UM.xx.cell 4
  have yc4 := UM.zz.cell 4
  have zc4 := UM.zz.free 4
  have xc5 := UM.xx.cell 5
  have yc5 := UM.zz.cell 5
  have zc5 := UM.zz.free 5
  simp only [List.getElem?_toArray, List.getElem?_cons_zero, List.getElem?_cons_succ] at xc0 yc0 xc1 yc1 xc2 yc2 xc3 yc3 xc4 yc4 xc5 yc5
  have TZ := ((((((UM.putz 0 (.int .u64 (v : Int))).putz 1 (.int .i64 (a : Int))).putz 2 (.int .u64 (l : Int))).putz 3 (.int .i64 ((k : Int) - 1))).putz 4 (.int .u64 (b : Int))).putz 5 (.int .u64 (t : Int)))
  simp only [List.setIfInBounds_toArray, List.set_cons_zero, List.set_cons_succ] at TZ
  go_wp2_with fail
  refine bodyPost_ret (results_cell_row rfl _ _ g 25 #[.int .u64 (v : Int), .int .i64 (a : Int), .int .u64 (l : Int), .int .i64 ((k : Int) - 1), .int .u64 (b : Int), .int .u64 (t : Int)] (0, 0) _ rfl TZ.zz Try.underlying25 rfl (by kernel_rfl)) rfl ⟨rfl, TZ.rs, TZ.kp⟩
set_option maxHeartbeats 4000000 in
set_option maxRecDepth 100000 in
theorem takeView_0 {R O : Nat} (rest : List UInt8) (hr : rest.length ≤ 9000000) (w : World) (h : RS w R O (enc 0 ++ (enc 0 ++ (enc 0 ++ (enc 0 ++ (enc 0 ++ (enc 0 ++ rest))))))) :
    Calls Try.prog 17 #[.pointer (some ⟨R, 0, none⟩)] w fun e w' => e = .returned (.agg #[.int .u64 0, .int .i64 0, .int .u64 0, .int .i64 0, .int .u64 0, .int .u64 0]) ∧ RS w' R O rest ∧ Kp (fun k => k = R ∨ k = O) w w' := by
  have l1 := enc_len (n := 0) (by omega)
  have hq0 : ∀ w, (Op.equalIn 10000 25 (.agg #[.int .u64 0, .int .i64 0, .int .u64 0, .int .i64 (-1), .int .u64 0, .int .u64 0]) (.agg #[.int .u64 0, .int .i64 0, .int .u64 0, .int .i64 (-1), .int .u64 0, .int .u64 0])).run Try.prog w = .ok true w := fun w => eq_yes ⟨0, 0, 0, -1, 0, 0⟩ w
  have hRw := h.rd.lt
  have hOw := h.of.lt
  have hz := (Blk.new w 25 #[.int .u64 0, .int .i64 0, .int .u64 0, .int .i64 0, .int .u64 0, .int .u64 0]).alloc (.cells #[.int .u64 0, .int .i64 0, .int .u64 0, .int .i64 0, .int .u64 0, .int .u64 0] 25)
  have s1 : (w.alloc (.cells #[.int .u64 0, .int .i64 0, .int .u64 0, .int .i64 0, .int .u64 0, .int .u64 0] 25)).heap.size = w.heap.size + 1 := by simp
  have hx := Blk.new (w.alloc (.cells #[.int .u64 0, .int .i64 0, .int .u64 0, .int .i64 0, .int .u64 0, .int .u64 0] 25)) 25 #[.int .u64 0, .int .i64 0, .int .u64 0, .int .i64 0, .int .u64 0, .int .u64 0]
  rw [s1] at hx
  have hb0 := ((Below.refl _ w).alloc (Nat.le_refl _) (.cells #[.int .u64 0, .int .i64 0, .int .u64 0, .int .i64 0, .int .u64 0, .int .u64 0] 25)).alloc (by simp) (.cells #[.int .u64 0, .int .i64 0, .int .u64 0, .int .i64 0, .int .u64 0, .int .u64 0] 25)
  have T0 : Tk 25 w _ w.heap.size (w.heap.size + 1) R O #[.int .u64 0, .int .i64 0, .int .u64 0, .int .i64 0, .int .u64 0, .int .u64 0] #[.int .u64 0, .int .i64 0, .int .u64 0, .int .i64 0, .int .u64 0, .int .u64 0] _ := ⟨hz, hx, h.below hb0, Kp.of_below hb0, Nat.le_refl _, by omega, by omega, hRw, hOw⟩
  clear hz hx hb0 h hRw hOw
  go_enter Try.func17, Try.ntmps17
  go_upto_region 2 with (fail)
  generalize (w.alloc (.cells #[.int .u64 0, .int .i64 0, .int .u64 0, .int .i64 0, .int .u64 0, .int .u64 0] 25)).alloc (.cells #[.int .u64 0, .int .i64 0, .int .u64 0, .int .i64 0, .int .u64 0, .int .u64 0] 25) = w0 at *
  clear s1
  generalize w.heap.size + 1 = p at *
  generalize hgg : w.heap.size = g at T0 ⊢
  clear hgg
  have x0 := T0.xx.cell 0
  have z0 := T0.xx.free 0
  have x1 := T0.xx.cell 1
  have z1 := T0.xx.free 1
  have x2 := T0.xx.cell 2
  have z2 := T0.xx.free 2
  have x3 := T0.xx.cell 3
  have z3 := T0.xx.free 3
  have x4 := T0.xx.cell 4
  have z4 := T0.xx.free 4
  have x5 := T0.xx.cell 5
  have z5 := T0.xx.free 5
  simp only [List.getElem?_toArray, List.getElem?_cons_zero, List.getElem?_cons_succ] at x0 x1 x2 x3 x4 x5
  go_wp2_with fail
  refine (Tk.num (n := 0) 18446744073709551615 (by omega) (by omega) (by (try simp only [List.length_append]); omega) T0).mono ?_
  rintro e v1 ⟨rfl, S1⟩
  clear x0 z0 x1 z1 x2 z2 x3 z3 x4 z4 x5 z5
  clear T0
  have x0 := S1.xx.cell 0
  have z0 := S1.xx.free 0
  have x1 := S1.xx.cell 1
  have z1 := S1.xx.free 1
  have x2 := S1.xx.cell 2
  have z2 := S1.xx.free 2
  have x3 := S1.xx.cell 3
  have z3 := S1.xx.free 3
  have x4 := S1.xx.cell 4
  have z4 := S1.xx.free 4
  have x5 := S1.xx.cell 5
  have z5 := S1.xx.free 5
  simp only [List.getElem?_toArray, List.getElem?_cons_zero, List.getElem?_cons_succ] at x0 x1 x2 x3 x4 x5
  have U1 := (S1.put 0 (.int .u64 0))
  simp only [List.setIfInBounds_toArray, List.set_cons_zero] at U1
  clear S1
  go_upto_region 3 with (fail)
  generalize (v1.setCell ⟨p, 0, none⟩ (.int .u64 0)) = w21 at *
  clear x0 z0 x1 z1 x2 z2 x3 z3 x4 z4 x5 z5
  have x0 := U1.xx.cell 0
  have z0 := U1.xx.free 0
  have x1 := U1.xx.cell 1
  have z1 := U1.xx.free 1
  have x2 := U1.xx.cell 2
  have z2 := U1.xx.free 2
  have x3 := U1.xx.cell 3
  have z3 := U1.xx.free 3
  have x4 := U1.xx.cell 4
  have z4 := U1.xx.free 4
  have x5 := U1.xx.cell 5
  have z5 := U1.xx.free 5
  simp only [List.getElem?_toArray, List.getElem?_cons_zero, List.getElem?_cons_succ] at x0 x1 x2 x3 x4 x5
  go_wp2_with fail
  refine (Tk.num (n := 0) 1048576 (by omega) (by omega) (by (try simp only [List.length_append]); omega) U1).mono ?_
  rintro e v2 ⟨rfl, S2⟩
  clear x0 z0 x1 z1 x2 z2 x3 z3 x4 z4 x5 z5
  clear U1
  have x0 := S2.xx.cell 0
  have z0 := S2.xx.free 0
  have x1 := S2.xx.cell 1
  have z1 := S2.xx.free 1
  have x2 := S2.xx.cell 2
  have z2 := S2.xx.free 2
  have x3 := S2.xx.cell 3
  have z3 := S2.xx.free 3
  have x4 := S2.xx.cell 4
  have z4 := S2.xx.free 4
  have x5 := S2.xx.cell 5
  have z5 := S2.xx.free 5
  simp only [List.getElem?_toArray, List.getElem?_cons_zero, List.getElem?_cons_succ] at x0 x1 x2 x3 x4 x5
  have U2 := (S2.put 1 (.int .i64 0))
  simp only [List.setIfInBounds_toArray, List.set_cons_zero, List.set_cons_succ] at U2
  clear S2
  go_upto_region 4 with (fail)
  generalize (v2.setCell ⟨p, 1, none⟩ (.int .i64 0)) = w22 at *
  clear x0 z0 x1 z1 x2 z2 x3 z3 x4 z4 x5 z5
  have x0 := U2.xx.cell 0
  have z0 := U2.xx.free 0
  have x1 := U2.xx.cell 1
  have z1 := U2.xx.free 1
  have x2 := U2.xx.cell 2
  have z2 := U2.xx.free 2
  have x3 := U2.xx.cell 3
  have z3 := U2.xx.free 3
  have x4 := U2.xx.cell 4
  have z4 := U2.xx.free 4
  have x5 := U2.xx.cell 5
  have z5 := U2.xx.free 5
  simp only [List.getElem?_toArray, List.getElem?_cons_zero, List.getElem?_cons_succ] at x0 x1 x2 x3 x4 x5
  go_wp2_with fail
  refine (Tk.num (n := 0) 18446744073709551615 (by omega) (by omega) (by (try simp only [List.length_append]); omega) U2).mono ?_
  rintro e v3 ⟨rfl, S3⟩
  clear x0 z0 x1 z1 x2 z2 x3 z3 x4 z4 x5 z5
  clear U2
  have x0 := S3.xx.cell 0
  have z0 := S3.xx.free 0
  have x1 := S3.xx.cell 1
  have z1 := S3.xx.free 1
  have x2 := S3.xx.cell 2
  have z2 := S3.xx.free 2
  have x3 := S3.xx.cell 3
  have z3 := S3.xx.free 3
  have x4 := S3.xx.cell 4
  have z4 := S3.xx.free 4
  have x5 := S3.xx.cell 5
  have z5 := S3.xx.free 5
  simp only [List.getElem?_toArray, List.getElem?_cons_zero, List.getElem?_cons_succ] at x0 x1 x2 x3 x4 x5
  have U3 := (S3.put 2 (.int .u64 0))
  simp only [List.setIfInBounds_toArray, List.set_cons_zero, List.set_cons_succ] at U3
  clear S3
  go_upto_region 5 with (fail)
  generalize (v3.setCell ⟨p, 2, none⟩ (.int .u64 0)) = w23 at *
  clear x0 z0 x1 z1 x2 z2 x3 z3 x4 z4 x5 z5
  have x0 := U3.xx.cell 0
  have z0 := U3.xx.free 0
  have x1 := U3.xx.cell 1
  have z1 := U3.xx.free 1
  have x2 := U3.xx.cell 2
  have z2 := U3.xx.free 2
  have x3 := U3.xx.cell 3
  have z3 := U3.xx.free 3
  have x4 := U3.xx.cell 4
  have z4 := U3.xx.free 4
  have x5 := U3.xx.cell 5
  have z5 := U3.xx.free 5
  simp only [List.getElem?_toArray, List.getElem?_cons_zero, List.getElem?_cons_succ] at x0 x1 x2 x3 x4 x5
  go_wp2_with fail
  refine (Tk.num (n := 0) 1048576 (by omega) (by omega) (by (try simp only [List.length_append]); omega) U3).mono ?_
  rintro e v4 ⟨rfl, S4⟩
  clear x0 z0 x1 z1 x2 z2 x3 z3 x4 z4 x5 z5
  clear U3
  have x0 := S4.xx.cell 0
  have z0 := S4.xx.free 0
  have x1 := S4.xx.cell 1
  have z1 := S4.xx.free 1
  have x2 := S4.xx.cell 2
  have z2 := S4.xx.free 2
  have x3 := S4.xx.cell 3
  have z3 := S4.xx.free 3
  have x4 := S4.xx.cell 4
  have z4 := S4.xx.free 4
  have x5 := S4.xx.cell 5
  have z5 := S4.xx.free 5
  simp only [List.getElem?_toArray, List.getElem?_cons_zero, List.getElem?_cons_succ] at x0 x1 x2 x3 x4 x5
  have U4 := (S4.put 3 (.int .i64 (-1)))
  simp only [List.setIfInBounds_toArray, List.set_cons_zero, List.set_cons_succ] at U4
  clear S4
  go_upto_region 6 with (fail)
  generalize (v4.setCell ⟨p, 3, none⟩ (.int .i64 (-1))) = w24 at *
  clear x0 z0 x1 z1 x2 z2 x3 z3 x4 z4 x5 z5
  have x0 := U4.xx.cell 0
  have z0 := U4.xx.free 0
  have x1 := U4.xx.cell 1
  have z1 := U4.xx.free 1
  have x2 := U4.xx.cell 2
  have z2 := U4.xx.free 2
  have x3 := U4.xx.cell 3
  have z3 := U4.xx.free 3
  have x4 := U4.xx.cell 4
  have z4 := U4.xx.free 4
  have x5 := U4.xx.cell 5
  have z5 := U4.xx.free 5
  simp only [List.getElem?_toArray, List.getElem?_cons_zero, List.getElem?_cons_succ] at x0 x1 x2 x3 x4 x5
  go_wp2_with fail
  refine (Tk.num (n := 0) 18446744073709551615 (by omega) (by omega) (by (try simp only [List.length_append]); omega) U4).mono ?_
  rintro e v5 ⟨rfl, S5⟩
  clear x0 z0 x1 z1 x2 z2 x3 z3 x4 z4 x5 z5
  clear U4
  have x0 := S5.xx.cell 0
  have z0 := S5.xx.free 0
  have x1 := S5.xx.cell 1
  have z1 := S5.xx.free 1
  have x2 := S5.xx.cell 2
  have z2 := S5.xx.free 2
  have x3 := S5.xx.cell 3
  have z3 := S5.xx.free 3
  have x4 := S5.xx.cell 4
  have z4 := S5.xx.free 4
  have x5 := S5.xx.cell 5
  have z5 := S5.xx.free 5
  simp only [List.getElem?_toArray, List.getElem?_cons_zero, List.getElem?_cons_succ] at x0 x1 x2 x3 x4 x5
  have U5 := (S5.put 4 (.int .u64 0))
  simp only [List.setIfInBounds_toArray, List.set_cons_zero, List.set_cons_succ] at U5
  clear S5
  go_upto_region 7 with (fail)
  generalize (v5.setCell ⟨p, 4, none⟩ (.int .u64 0)) = w25 at *
  clear x0 z0 x1 z1 x2 z2 x3 z3 x4 z4 x5 z5
  have x0 := U5.xx.cell 0
  have z0 := U5.xx.free 0
  have x1 := U5.xx.cell 1
  have z1 := U5.xx.free 1
  have x2 := U5.xx.cell 2
  have z2 := U5.xx.free 2
  have x3 := U5.xx.cell 3
  have z3 := U5.xx.free 3
  have x4 := U5.xx.cell 4
  have z4 := U5.xx.free 4
  have x5 := U5.xx.cell 5
  have z5 := U5.xx.free 5
  simp only [List.getElem?_toArray, List.getElem?_cons_zero, List.getElem?_cons_succ] at x0 x1 x2 x3 x4 x5
  go_wp2_with fail
  refine (Tk.num (n := 0) 18446744073709551615 (by omega) (by omega) (by (try simp only [List.length_append]); omega) U5).mono ?_
  rintro e v6 ⟨rfl, S6⟩
  clear x0 z0 x1 z1 x2 z2 x3 z3 x4 z4 x5 z5
  clear U5
  have x0 := S6.xx.cell 0
  have z0 := S6.xx.free 0
  have x1 := S6.xx.cell 1
  have z1 := S6.xx.free 1
  have x2 := S6.xx.cell 2
  have z2 := S6.xx.free 2
  have x3 := S6.xx.cell 3
  have z3 := S6.xx.free 3
  have x4 := S6.xx.cell 4
  have z4 := S6.xx.free 4
  have x5 := S6.xx.cell 5
  have z5 := S6.xx.free 5
  simp only [List.getElem?_toArray, List.getElem?_cons_zero, List.getElem?_cons_succ] at x0 x1 x2 x3 x4 x5
  have U6 := (S6.put 5 (.int .u64 0))
  simp only [List.setIfInBounds_toArray, List.set_cons_zero, List.set_cons_succ] at U6
  clear S6
  go_upto_region 8 with (fail)
  generalize (v6.setCell ⟨p, 5, none⟩ (.int .u64 0)) = w26 at *
  clear x0 z0 x1 z1 x2 z2 x3 z3 x4 z4 x5 z5
  have x0 := U6.xx.cell 0
  have x1 := U6.xx.cell 1
  have x2 := U6.xx.cell 2
  have x3 := U6.xx.cell 3
  have x4 := U6.xx.cell 4
  have x5 := U6.xx.cell 5
  simp only [List.getElem?_toArray, List.getElem?_cons_zero, List.getElem?_cons_succ] at x0 x1 x2 x3 x4 x5
  have UM := U6
  clear x0 x1 x2 x3 x4 x5
  have xc0 := UM.xx.cell 0
  have yc0 := UM.zz.cell 0
  have zc0 := UM.zz.free 0
  have xc1 := UM.xx.cell 1
  have yc1 := UM.zz.cell 1
  have zc1 := UM.zz.free 1
  have xc2 := UM.xx.cell 2
  have yc2 := UM.zz.cell 2
  have zc2 := UM.zz.free 2
  have xc3 := UM.xx.cell 3
  have yc3 := UM.zz.cell 3
  have zc3 := UM.zz.free 3
  have xc4 := UM.xx.cell 4
  have yc4 := UM.zz.cell 4
  have zc4 := UM.zz.free 4
  have xc5 := UM.xx.cell 5
  have yc5 := UM.zz.cell 5
  have zc5 := UM.zz.free 5
  simp only [List.getElem?_toArray, List.getElem?_cons_zero, List.getElem?_cons_succ] at xc0 yc0 xc1 yc1 xc2 yc2 xc3 yc3 xc4 yc4 xc5 yc5
  have TZ := ((((((UM.putz 0 (.int .u64 0)).putz 1 (.int .i64 0)).putz 2 (.int .u64 0)).putz 3 (.int .i64 0)).putz 4 (.int .u64 0)).putz 5 (.int .u64 0))
  simp only [List.setIfInBounds_toArray, List.set_cons_zero, List.set_cons_succ] at TZ
  go_wp2_with fail
  refine bodyPost_ret (results_cell_row rfl _ _ g 25 #[.int .u64 0, .int .i64 0, .int .u64 0, .int .i64 0, .int .u64 0, .int .u64 0] (0, 0) _ rfl TZ.zz Try.underlying25 rfl (by kernel_rfl)) rfl ⟨rfl, TZ.rs, TZ.kp⟩
set_option maxHeartbeats 4000000 in
set_option maxRecDepth 100000 in
theorem clos_c {R O g v a l k b t : Nat} {Y : Array Value} (hv : v < 18446744073709551616) (hp : a < 1048576) (hl : l < 18446744073709551616) (hk : k ≤ 1048576) (hb : b < 18446744073709551616) (ht : t < 18446744073709551616) (hm : May (vw v a l k b t)) (hY : Y.size = 6) (hR : g ≠ R) (hO : g ≠ O) (w : World) (h : RS w R O (six v a l k b t)) (hg : Blk w g 25 Y) :
    Calls Try.prog 16 #[.pointer (some ⟨R, 0, none⟩), .pointer (some ⟨g, 0, none⟩)] w fun e w2 => e = .returned (.tuple #[]) ∧ RS w2 R O [] ∧ Kp (fun k => k = R ∨ k = O ∨ k = g) w w2 ∧ Blk w2 g 25 #[.int .u64 (v : Int), .int .i64 (a : Int), .int .u64 (l : Int), .int .i64 ((k : Int) - 1), .int .u64 (b : Int), .int .u64 (t : Int)] := by
  have hsx : six v a l k b t = enc v ++ (enc a ++ (enc l ++ (enc k ++ (enc b ++ (enc t ++ []))))) := by simp [six]
  rw [hsx] at h
  have htk := takeView_c hv hp hl hk hb ht hm [] (Nat.zero_le _) w h
  clear hsx h
  go_enter Try.func16, Try.ntmps16
  go_wp2_with fail
  refine htk.mono ?_
  rintro e w1 ⟨rfl, hr, hk⟩
  have hg1 := hk.blk hg (by rintro (e | e); exact hR e; exact hO e)
  have hst : (storeVar 25 ⟨g, 0, none⟩ (.agg #[.int .u64 (v : Int), .int .i64 (a : Int), .int .u64 (l : Int), .int .i64 ((k : Int) - 1), .int .u64 (b : Int), .int .u64 (t : Int)])).run Try.prog w1 = .ok () (w1.setRow g #[.int .u64 (v : Int), .int .i64 (a : Int), .int .u64 (l : Int), .int .i64 ((k : Int) - 1), .int .u64 (b : Int), .int .u64 (t : Int)]) := store_row info_VT hg1 hY (by simp [Value.oneCell'])
  have hR2 : Blk (w1.setRow g #[.int .u64 (v : Int), .int .i64 (a : Int), .int .u64 (l : Int), .int .i64 ((k : Int) - 1), .int .u64 (b : Int), .int .u64 (t : Int)]) g 25 #[.int .u64 (v : Int), .int .i64 (a : Int), .int .u64 (l : Int), .int .i64 ((k : Int) - 1), .int .u64 (b : Int), .int .u64 (t : Int)] := setRow_heap w1 g _ _ _ (0, 0) hg1
  have hRS : RS (w1.setRow g #[.int .u64 (v : Int), .int .i64 (a : Int), .int .u64 (l : Int), .int .i64 ((k : Int) - 1), .int .u64 (b : Int), .int .u64 (t : Int)]) R O [] := ⟨(setRow_other w1 g R _ (Ne.symm hR)).trans hr.rd, (setRow_other w1 g O _ (Ne.symm hO)).trans hr.of⟩
  have hK : Kp (fun k => k = R ∨ k = O ∨ k = g) w (w1.setRow g #[.int .u64 (v : Int), .int .i64 (a : Int), .int .u64 (l : Int), .int .i64 ((k : Int) - 1), .int .u64 (b : Int), .int .u64 (t : Int)]) := kp_row (S := fun k => k = R ∨ k = O ∨ k = g) (b := g) ⟨hk.os, hk.tape, hk.output, hk.size, fun k h1 h2 => hk.block k h1 (fun h => h2 (h.elim .inl (fun h => .inr (.inl h))))⟩ (.inr (.inr rfl)) _
  clear htk hg hg1 hr hk
  go_wp2_with (refine step_store 25 (.tmp 1) (.tmp 4) ⟨g, 0, none⟩ (.agg #[.int .u64 (v : Int), .int .i64 (a : Int), .int .u64 (l : Int), .int .i64 ((k : Int) - 1), .int .u64 (b : Int), .int .u64 (t : Int)]) rfl rfl rfl rfl rfl hst ?_)
  go_end0
  exact ⟨rfl, hRS, hK, hR2⟩
set_option maxHeartbeats 4000000 in
set_option maxRecDepth 100000 in
theorem clos_0 {R O g : Nat} {Y : Array Value} (hY : Y.size = 6) (hR : g ≠ R) (hO : g ≠ O) (w : World) (h : RS w R O (six 0 0 0 0 0 0)) (hg : Blk w g 25 Y) :
    Calls Try.prog 16 #[.pointer (some ⟨R, 0, none⟩), .pointer (some ⟨g, 0, none⟩)] w fun e w2 => e = .returned (.tuple #[]) ∧ RS w2 R O [] ∧ Kp (fun k => k = R ∨ k = O ∨ k = g) w w2 ∧ Blk w2 g 25 #[.int .u64 0, .int .i64 0, .int .u64 0, .int .i64 0, .int .u64 0, .int .u64 0] := by
  have hsx : six 0 0 0 0 0 0 = enc 0 ++ (enc 0 ++ (enc 0 ++ (enc 0 ++ (enc 0 ++ (enc 0 ++ []))))) := by simp [six]
  rw [hsx] at h
  have htk := takeView_0 [] (Nat.zero_le _) w h
  clear hsx h
  go_enter Try.func16, Try.ntmps16
  go_wp2_with fail
  refine htk.mono ?_
  rintro e w1 ⟨rfl, hr, hk⟩
  have hg1 := hk.blk hg (by rintro (e | e); exact hR e; exact hO e)
  have hst : (storeVar 25 ⟨g, 0, none⟩ (.agg #[.int .u64 0, .int .i64 0, .int .u64 0, .int .i64 0, .int .u64 0, .int .u64 0])).run Try.prog w1 = .ok () (w1.setRow g #[.int .u64 0, .int .i64 0, .int .u64 0, .int .i64 0, .int .u64 0, .int .u64 0]) := store_row info_VT hg1 hY (by simp [Value.oneCell'])
  have hR2 : Blk (w1.setRow g #[.int .u64 0, .int .i64 0, .int .u64 0, .int .i64 0, .int .u64 0, .int .u64 0]) g 25 #[.int .u64 0, .int .i64 0, .int .u64 0, .int .i64 0, .int .u64 0, .int .u64 0] := setRow_heap w1 g _ _ _ (0, 0) hg1
  have hRS : RS (w1.setRow g #[.int .u64 0, .int .i64 0, .int .u64 0, .int .i64 0, .int .u64 0, .int .u64 0]) R O [] := ⟨(setRow_other w1 g R _ (Ne.symm hR)).trans hr.rd, (setRow_other w1 g O _ (Ne.symm hO)).trans hr.of⟩
  have hK : Kp (fun k => k = R ∨ k = O ∨ k = g) w (w1.setRow g #[.int .u64 0, .int .i64 0, .int .u64 0, .int .i64 0, .int .u64 0, .int .u64 0]) := kp_row (S := fun k => k = R ∨ k = O ∨ k = g) (b := g) ⟨hk.os, hk.tape, hk.output, hk.size, fun k h1 h2 => hk.block k h1 (fun h => h2 (h.elim .inl (fun h => .inr (.inl h))))⟩ (.inr (.inr rfl)) _
  clear htk hg hg1 hr hk
  go_wp2_with (refine step_store 25 (.tmp 1) (.tmp 4) ⟨g, 0, none⟩ (.agg #[.int .u64 0, .int .i64 0, .int .u64 0, .int .i64 0, .int .u64 0, .int .u64 0]) rfl rfl rfl rfl rfl hst ?_)
  go_end0
  exact ⟨rfl, hRS, hK, hR2⟩
end Go.Proofs.Ytigkocdjllfhnaa.Celly
