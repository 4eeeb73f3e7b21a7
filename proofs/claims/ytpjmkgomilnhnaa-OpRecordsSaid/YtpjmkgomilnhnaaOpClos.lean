/- Layer 10: records and replies taken off their own bytes, and the functions that read them. The only condition: what is read may be. -/
import Derived.Test.YtpjmkgomilnhnaaOpTake
import Derived.BigQuiet
namespace Go.Proofs.Ytpjmkgomilnhnaa.Opy
open Go.ChangeShapes Go.WideShapes Go.ChangeAt Go.RowKit
open Wirey (Blk Row str str_size str_list str_cat enc enc_len txt RS Kp must_ok)
open Regy

set_option maxHeartbeats 2000000 in
set_option maxRecDepth 100000 in
theorem takeRec_c {R O : Nat} {k : Int} {key val : List UInt8} {q n s m t v : Nat} (hc : chk k key val t v = true) (hq : q < 18446744073709551616) (hn : n < 18446744073709551616) (hs : s < 18446744073709551616) (hm : m < 18446744073709551616) (hv : v < 18446744073709551616) (rest : List UInt8) (hr : rest.length ≤ 100000) (w : World) (h : RS w R O ((recB q n s m (opB k key val t v)) ++ rest)) :
    Calls Try.prog 20 #[.pointer (some ⟨R, 0, none⟩)] w fun e w' => e = .returned (.agg #[.int .u64 (q : Int), .int .u64 (n : Int), .int .u64 (s : Int), .int .u64 (m : Int), .int .i64 k, .string (str key), .string (str val), .int .u64 (t : Int), .int .u64 (v : Int)]) ∧ RS w' R O rest ∧ Kp (fun k => k = R ∨ k = O) w w' := by
  have hs' : (recB q n s m (opB k key val t v)) ++ rest = enc q ++ (enc n ++ (enc s ++ (enc m ++ (opB k key val t v ++ rest)))) := by simp [recB, List.append_assoc]
  rw [hs'] at h
  clear hs'
  obtain ⟨hk, hl, ht⟩ := chk_le hc
  have hkd := chk_kind hc
  have l1 := enc_len hq
  have l2 := enc_len hn
  have l3 := enc_len hs
  have l4 := enc_len hm
  have l5 := opB_len (k := k) (key := key) (val := val) (t := t) (v := v) hkd.1 hkd.2 (by omega) (by omega) (by omega) hv
  have hRw := h.rd.lt
  have hOw := h.of.lt
  have hz := (Blk.new w 35 #[.int .u64 0, .int .u64 0, .int .u64 0, .int .u64 0, .int .i64 0, .string ⟨#[]⟩, .string ⟨#[]⟩, .int .u64 0, .int .u64 0]).alloc (.cells #[.int .u64 0, .int .u64 0, .int .u64 0, .int .u64 0, .int .i64 0, .string ⟨#[]⟩, .string ⟨#[]⟩, .int .u64 0, .int .u64 0] 35)
  have s1 : (w.alloc (.cells #[.int .u64 0, .int .u64 0, .int .u64 0, .int .u64 0, .int .i64 0, .string ⟨#[]⟩, .string ⟨#[]⟩, .int .u64 0, .int .u64 0] 35)).heap.size = w.heap.size + 1 := by simp
  have hx := Blk.new (w.alloc (.cells #[.int .u64 0, .int .u64 0, .int .u64 0, .int .u64 0, .int .i64 0, .string ⟨#[]⟩, .string ⟨#[]⟩, .int .u64 0, .int .u64 0] 35)) 35 #[.int .u64 0, .int .u64 0, .int .u64 0, .int .u64 0, .int .i64 0, .string ⟨#[]⟩, .string ⟨#[]⟩, .int .u64 0, .int .u64 0]
  rw [s1] at hx
  have hb0 := ((Below.refl _ w).alloc (Nat.le_refl _) (.cells #[.int .u64 0, .int .u64 0, .int .u64 0, .int .u64 0, .int .i64 0, .string ⟨#[]⟩, .string ⟨#[]⟩, .int .u64 0, .int .u64 0] 35)).alloc (by simp) (.cells #[.int .u64 0, .int .u64 0, .int .u64 0, .int .u64 0, .int .i64 0, .string ⟨#[]⟩, .string ⟨#[]⟩, .int .u64 0, .int .u64 0] 35)
  have T0 : Tk 35 w _ w.heap.size (w.heap.size + 1) R O #[.int .u64 0, .int .u64 0, .int .u64 0, .int .u64 0, .int .i64 0, .string ⟨#[]⟩, .string ⟨#[]⟩, .int .u64 0, .int .u64 0] #[.int .u64 0, .int .u64 0, .int .u64 0, .int .u64 0, .int .i64 0, .string ⟨#[]⟩, .string ⟨#[]⟩, .int .u64 0, .int .u64 0] _ := ⟨hz, hx, h.below hb0, Kp.of_below hb0, Nat.le_refl _, by omega, by omega, hRw, hOw⟩
  clear hz hx hb0 h hRw hOw
  go_enter Try.func20, Try.ntmps20
  go_upto_region 2 with (fail)
  generalize (w.alloc (.cells #[.int .u64 0, .int .u64 0, .int .u64 0, .int .u64 0, .int .i64 0, .string ⟨#[]⟩, .string ⟨#[]⟩, .int .u64 0, .int .u64 0] 35)).alloc (.cells #[.int .u64 0, .int .u64 0, .int .u64 0, .int .u64 0, .int .i64 0, .string ⟨#[]⟩, .string ⟨#[]⟩, .int .u64 0, .int .u64 0] 35) = w0 at *
  clear s1
  generalize w.heap.size + 1 = p at *
  generalize hgg : w.heap.size = g at T0 ⊢
  clear hgg
  have x0 := T0.xx.cell 0
  have z0 := T0.xx.free 0
  have x1 := T0.xx.cell 1
  have z1 := T0.xx.free 1
  have x2 := T0.xx.cell 2
  have z2 := T0.xx.free 2
  have x3 := T0.xx.cell 3
  have z3 := T0.xx.free 3
  have x4 := T0.xx.cell 4
  have z4 := T0.xx.free 4
  have x5 := T0.xx.cell 5
  have z5 := T0.xx.free 5
  have x6 := T0.xx.cell 6
  have z6 := T0.xx.free 6
  have x7 := T0.xx.cell 7
  have z7 := T0.xx.free 7
  have x8 := T0.xx.cell 8
  have z8 := T0.xx.free 8
  simp only [List.getElem?_toArray, List.getElem?_cons_zero, List.getElem?_cons_succ] at x0 x1 x2 x3 x4 x5 x6 x7 x8
  go_wp2_with fail
  refine (Tk.num (n := q) 18446744073709551615 (by omega) (by omega) (by (try simp only [List.length_append]); omega) T0).mono ?_
  rintro e v1 ⟨rfl, S1⟩
  clear x0 z0 x1 z1 x2 z2 x3 z3 x4 z4 x5 z5 x6 z6 x7 z7 x8 z8
  clear T0
  have x0 := S1.xx.cell 0
  have z0 := S1.xx.free 0
  have x1 := S1.xx.cell 1
  have z1 := S1.xx.free 1
  have x2 := S1.xx.cell 2
  have z2 := S1.xx.free 2
  have x3 := S1.xx.cell 3
  have z3 := S1.xx.free 3
  have x4 := S1.xx.cell 4
  have z4 := S1.xx.free 4
  have x5 := S1.xx.cell 5
  have z5 := S1.xx.free 5
  have x6 := S1.xx.cell 6
  have z6 := S1.xx.free 6
  have x7 := S1.xx.cell 7
  have z7 := S1.xx.free 7
  have x8 := S1.xx.cell 8
  have z8 := S1.xx.free 8
  simp only [List.getElem?_toArray, List.getElem?_cons_zero, List.getElem?_cons_succ] at x0 x1 x2 x3 x4 x5 x6 x7 x8
  have U1 := (S1.put 0 (.int .u64 (q : Int)))
  simp only [List.setIfInBounds_toArray, List.set_cons_zero, List.set_cons_succ] at U1
  clear S1
  go_upto_region 3 with (fail)
  generalize (v1.setCell ⟨p, 0, none⟩ (.int .u64 (q : Int))) = w21 at *
  clear x0 z0 x1 z1 x2 z2 x3 z3 x4 z4 x5 z5 x6 z6 x7 z7 x8 z8
  have x0 := U1.xx.cell 0
  have z0 := U1.xx.free 0
  have x1 := U1.xx.cell 1
  have z1 := U1.xx.free 1
  have x2 := U1.xx.cell 2
  have z2 := U1.xx.free 2
  have x3 := U1.xx.cell 3
  have z3 := U1.xx.free 3
  have x4 := U1.xx.cell 4
  have z4 := U1.xx.free 4
  have x5 := U1.xx.cell 5
  have z5 := U1.xx.free 5
  have x6 := U1.xx.cell 6
  have z6 := U1.xx.free 6
  have x7 := U1.xx.cell 7
  have z7 := U1.xx.free 7
  have x8 := U1.xx.cell 8
  have z8 := U1.xx.free 8
  simp only [List.getElem?_toArray, List.getElem?_cons_zero, List.getElem?_cons_succ] at x0 x1 x2 x3 x4 x5 x6 x7 x8
  go_wp2_with fail
  refine (Tk.num (n := n) 18446744073709551615 (by omega) (by omega) (by (try simp only [List.length_append]); omega) U1).mono ?_
  rintro e v2 ⟨rfl, S2⟩
  clear x0 z0 x1 z1 x2 z2 x3 z3 x4 z4 x5 z5 x6 z6 x7 z7 x8 z8
  clear U1
  have x0 := S2.xx.cell 0
  have z0 := S2.xx.free 0
  have x1 := S2.xx.cell 1
  have z1 := S2.xx.free 1
  have x2 := S2.xx.cell 2
  have z2 := S2.xx.free 2
  have x3 := S2.xx.cell 3
  have z3 := S2.xx.free 3
  have x4 := S2.xx.cell 4
  have z4 := S2.xx.free 4
  have x5 := S2.xx.cell 5
  have z5 := S2.xx.free 5
  have x6 := S2.xx.cell 6
  have z6 := S2.xx.free 6
  have x7 := S2.xx.cell 7
  have z7 := S2.xx.free 7
  have x8 := S2.xx.cell 8
  have z8 := S2.xx.free 8
  simp only [List.getElem?_toArray, List.getElem?_cons_zero, List.getElem?_cons_succ] at x0 x1 x2 x3 x4 x5 x6 x7 x8
  have U2 := (S2.put 1 (.int .u64 (n : Int)))
  simp only [List.setIfInBounds_toArray, List.set_cons_zero, List.set_cons_succ] at U2
  clear S2
  go_upto_region 4 with (fail)
  generalize (v2.setCell ⟨p, 1, none⟩ (.int .u64 (n : Int))) = w22 at *
  clear x0 z0 x1 z1 x2 z2 x3 z3 x4 z4 x5 z5 x6 z6 x7 z7 x8 z8
  have x0 := U2.xx.cell 0
  have z0 := U2.xx.free 0
  have x1 := U2.xx.cell 1
  have z1 := U2.xx.free 1
  have x2 := U2.xx.cell 2
  have z2 := U2.xx.free 2
  have x3 := U2.xx.cell 3
  have z3 := U2.xx.free 3
  have x4 := U2.xx.cell 4
  have z4 := U2.xx.free 4
  have x5 := U2.xx.cell 5
  have z5 := U2.xx.free 5
  have x6 := U2.xx.cell 6
  have z6 := U2.xx.free 6
  have x7 := U2.xx.cell 7
  have z7 := U2.xx.free 7
  have x8 := U2.xx.cell 8
  have z8 := U2.xx.free 8
  simp only [List.getElem?_toArray, List.getElem?_cons_zero, List.getElem?_cons_succ] at x0 x1 x2 x3 x4 x5 x6 x7 x8
  go_wp2_with fail
  refine (Tk.num (n := s) 18446744073709551615 (by omega) (by omega) (by (try simp only [List.length_append]); omega) U2).mono ?_
  rintro e v3 ⟨rfl, S3⟩
  clear x0 z0 x1 z1 x2 z2 x3 z3 x4 z4 x5 z5 x6 z6 x7 z7 x8 z8
  clear U2
  have x0 := S3.xx.cell 0
  have z0 := S3.xx.free 0
  have x1 := S3.xx.cell 1
  have z1 := S3.xx.free 1
  have x2 := S3.xx.cell 2
  have z2 := S3.xx.free 2
  have x3 := S3.xx.cell 3
  have z3 := S3.xx.free 3
  have x4 := S3.xx.cell 4
  have z4 := S3.xx.free 4
  have x5 := S3.xx.cell 5
  have z5 := S3.xx.free 5
  have x6 := S3.xx.cell 6
  have z6 := S3.xx.free 6
  have x7 := S3.xx.cell 7
  have z7 := S3.xx.free 7
  have x8 := S3.xx.cell 8
  have z8 := S3.xx.free 8
  simp only [List.getElem?_toArray, List.getElem?_cons_zero, List.getElem?_cons_succ] at x0 x1 x2 x3 x4 x5 x6 x7 x8
  have U3 := (S3.put 2 (.int .u64 (s : Int)))
  simp only [List.setIfInBounds_toArray, List.set_cons_zero, List.set_cons_succ] at U3
  clear S3
  go_upto_region 5 with (fail)
  generalize (v3.setCell ⟨p, 2, none⟩ (.int .u64 (s : Int))) = w23 at *
  clear x0 z0 x1 z1 x2 z2 x3 z3 x4 z4 x5 z5 x6 z6 x7 z7 x8 z8
  have x0 := U3.xx.cell 0
  have z0 := U3.xx.free 0
  have x1 := U3.xx.cell 1
  have z1 := U3.xx.free 1
  have x2 := U3.xx.cell 2
  have z2 := U3.xx.free 2
  have x3 := U3.xx.cell 3
  have z3 := U3.xx.free 3
  have x4 := U3.xx.cell 4
  have z4 := U3.xx.free 4
  have x5 := U3.xx.cell 5
  have z5 := U3.xx.free 5
  have x6 := U3.xx.cell 6
  have z6 := U3.xx.free 6
  have x7 := U3.xx.cell 7
  have z7 := U3.xx.free 7
  have x8 := U3.xx.cell 8
  have z8 := U3.xx.free 8
  simp only [List.getElem?_toArray, List.getElem?_cons_zero, List.getElem?_cons_succ] at x0 x1 x2 x3 x4 x5 x6 x7 x8
  go_wp2_with fail
  refine (Tk.num (n := m) 18446744073709551615 (by omega) (by omega) (by (try simp only [List.length_append]); omega) U3).mono ?_
  rintro e v4 ⟨rfl, S4⟩
  clear x0 z0 x1 z1 x2 z2 x3 z3 x4 z4 x5 z5 x6 z6 x7 z7 x8 z8
  clear U3
  have x0 := S4.xx.cell 0
  have z0 := S4.xx.free 0
  have x1 := S4.xx.cell 1
  have z1 := S4.xx.free 1
  have x2 := S4.xx.cell 2
  have z2 := S4.xx.free 2
  have x3 := S4.xx.cell 3
  have z3 := S4.xx.free 3
  have x4 := S4.xx.cell 4
  have z4 := S4.xx.free 4
  have x5 := S4.xx.cell 5
  have z5 := S4.xx.free 5
  have x6 := S4.xx.cell 6
  have z6 := S4.xx.free 6
  have x7 := S4.xx.cell 7
  have z7 := S4.xx.free 7
  have x8 := S4.xx.cell 8
  have z8 := S4.xx.free 8
  simp only [List.getElem?_toArray, List.getElem?_cons_zero, List.getElem?_cons_succ] at x0 x1 x2 x3 x4 x5 x6 x7 x8
  have U4 := (S4.put 3 (.int .u64 (m : Int)))
  simp only [List.setIfInBounds_toArray, List.set_cons_zero, List.set_cons_succ] at U4
  clear S4
  go_upto_region 6 with (fail)
  generalize (v4.setCell ⟨p, 3, none⟩ (.int .u64 (m : Int))) = w24 at *
  clear x0 z0 x1 z1 x2 z2 x3 z3 x4 z4 x5 z5 x6 z6 x7 z7 x8 z8
  have x0 := U4.xx.cell 0
  have z0 := U4.xx.free 0
  have x1 := U4.xx.cell 1
  have z1 := U4.xx.free 1
  have x2 := U4.xx.cell 2
  have z2 := U4.xx.free 2
  have x3 := U4.xx.cell 3
  have z3 := U4.xx.free 3
  have x4 := U4.xx.cell 4
  have z4 := U4.xx.free 4
  have x5 := U4.xx.cell 5
  have z5 := U4.xx.free 5
  have x6 := U4.xx.cell 6
  have z6 := U4.xx.free 6
  have x7 := U4.xx.cell 7
  have z7 := U4.xx.free 7
  have x8 := U4.xx.cell 8
  have z8 := U4.xx.free 8
  simp only [List.getElem?_toArray, List.getElem?_cons_zero, List.getElem?_cons_succ] at x0 x1 x2 x3 x4 x5 x6 x7 x8
  go_wp2_with fail
  refine (take_c hc hv rest (by omega) _ U4.rs).mono ?_
  rintro e v5 ⟨rfl, hr5, hk5⟩
  have S5 := U4.step hr5 hk5
  clear x0 z0 x1 z1 x2 z2 x3 z3 x4 z4 x5 z5 x6 z6 x7 z7 x8 z8
  clear U4 hr5 hk5
  have x0 := S5.xx.cell 0
  have z0 := S5.xx.free 0
  have x1 := S5.xx.cell 1
  have z1 := S5.xx.free 1
  have x2 := S5.xx.cell 2
  have z2 := S5.xx.free 2
  have x3 := S5.xx.cell 3
  have z3 := S5.xx.free 3
  have x4 := S5.xx.cell 4
  have z4 := S5.xx.free 4
  have x5 := S5.xx.cell 5
  have z5 := S5.xx.free 5
  have x6 := S5.xx.cell 6
  have z6 := S5.xx.free 6
  have x7 := S5.xx.cell 7
  have z7 := S5.xx.free 7
  have x8 := S5.xx.cell 8
  have z8 := S5.xx.free 8
  simp only [List.getElem?_toArray, List.getElem?_cons_zero, List.getElem?_cons_succ] at x0 x1 x2 x3 x4 x5 x6 x7 x8
  have U5 := (((((S5.put 4 (.int .i64 k)).put 5 (.string (str key))).put 6 (.string (str val))).put 7 (.int .u64 (t : Int))).put 8 (.int .u64 (v : Int)))
  simp only [List.setIfInBounds_toArray, List.set_cons_zero, List.set_cons_succ] at U5
  clear S5
  go_upto_region 7 with (fail)
  generalize (((((v5.setCell ⟨p, 4, none⟩ (.int .i64 k)).setCell ⟨p, 5, none⟩ (.string (str key))).setCell ⟨p, 6, none⟩ (.string (str val))).setCell ⟨p, 7, none⟩ (.int .u64 (t : Int))).setCell ⟨p, 8, none⟩ (.int .u64 (v : Int))) = w25 at *
  clear x0 z0 x1 z1 x2 z2 x3 z3 x4 z4 x5 z5 x6 z6 x7 z7 x8 z8
  have x0 := U5.xx.cell 0
  have z0 := U5.xx.free 0
  have x1 := U5.xx.cell 1
  have z1 := U5.xx.free 1
  have x2 := U5.xx.cell 2
  have z2 := U5.xx.free 2
  have x3 := U5.xx.cell 3
  have z3 := U5.xx.free 3
  have x4 := U5.xx.cell 4
  have z4 := U5.xx.free 4
  have x5 := U5.xx.cell 5
  have z5 := U5.xx.free 5
  have x6 := U5.xx.cell 6
  have z6 := U5.xx.free 6
  have x7 := U5.xx.cell 7
  have z7 := U5.xx.free 7
  have x8 := U5.xx.cell 8
  have z8 := U5.xx.free 8
  simp only [List.getElem?_toArray, List.getElem?_cons_zero, List.getElem?_cons_succ] at x0 x1 x2 x3 x4 x5 x6 x7 x8
  have y0 := U5.zz.free 0
  have y1 := U5.zz.free 1
  have y2 := U5.zz.free 2
  have y3 := U5.zz.free 3
  have y4 := U5.zz.free 4
  have y5 := U5.zz.free 5
  have y6 := U5.zz.free 6
  have y7 := U5.zz.free 7
  have y8 := U5.zz.free 8
  have yc0 := U5.zz.cell 0
  have yc1 := U5.zz.cell 1
  have yc2 := U5.zz.cell 2
  have yc3 := U5.zz.cell 3
  have yc4 := U5.zz.cell 4
  have yc5 := U5.zz.cell 5
  have yc6 := U5.zz.cell 6
  have yc7 := U5.zz.cell 7
  have yc8 := U5.zz.cell 8
  simp only [List.getElem?_toArray, List.getElem?_cons_zero, List.getElem?_cons_succ] at yc0 yc1 yc2 yc3 yc4 yc5 yc6 yc7 yc8
  have TZ := (((((((((U5.putz 0 (.int .u64 (q : Int))).putz 1 (.int .u64 (n : Int))).putz 2 (.int .u64 (s : Int))).putz 3 (.int .u64 (m : Int))).putz 4 (.int .i64 k)).putz 5 (.string (str key))).putz 6 (.string (str val))).putz 7 (.int .u64 (t : Int))).putz 8 (.int .u64 (v : Int)))
  simp only [List.setIfInBounds_toArray, List.set_cons_zero, List.set_cons_succ] at TZ
  go_wp2_with fail
  refine bodyPost_ret (results_cell_row rfl _ _ g 35 #[.int .u64 (q : Int), .int .u64 (n : Int), .int .u64 (s : Int), .int .u64 (m : Int), .int .i64 k, .string (str key), .string (str val), .int .u64 (t : Int), .int .u64 (v : Int)] (0, 0) _ rfl TZ.zz Try.underlying35 rfl (by kernel_rfl)) rfl ⟨rfl, TZ.rs, TZ.kp⟩
set_option maxHeartbeats 2000000 in
set_option maxRecDepth 100000 in
theorem takeReply_c {R O : Nat} {n v : Nat} {l : List UInt8} (hn : n < 65536) (hl : l.length ≤ 4096) (hv : v < 18446744073709551616) (rest : List UInt8) (hr : rest.length ≤ 100000) (w : World) (h : RS w R O ((replyB n l v) ++ rest)) :
    Calls Try.prog 35 #[.pointer (some ⟨R, 0, none⟩)] w fun e w' => e = .returned (.agg #[.int .i64 (n : Int), .string (str l), .int .u64 (v : Int)]) ∧ RS w' R O rest ∧ Kp (fun k => k = R ∨ k = O) w w' := by
  have hs' : (replyB n l v) ++ rest = enc n ++ (txt l ++ (enc v ++ rest)) := by simp [replyB, List.append_assoc]
  rw [hs'] at h
  clear hs'
  have l1 := enc_len (n := l.length) (by omega)
  have l2 := enc_len hv
  have l3 : (txt l).length ≤ 10000 := by unfold txt; rw [List.length_append]; omega
  have ew : IntKind.i64.wrap (n : Int) = (n : Int) := by rw [IntKind.wrap_i64]; omega
  have hRw := h.rd.lt
  have hOw := h.of.lt
  have hz := (Blk.new w 37 #[.int .i64 0, .string ⟨#[]⟩, .int .u64 0]).alloc (.cells #[.int .i64 0, .string ⟨#[]⟩, .int .u64 0] 37)
  have s1 : (w.alloc (.cells #[.int .i64 0, .string ⟨#[]⟩, .int .u64 0] 37)).heap.size = w.heap.size + 1 := by simp
  have hx := Blk.new (w.alloc (.cells #[.int .i64 0, .string ⟨#[]⟩, .int .u64 0] 37)) 37 #[.int .i64 0, .string ⟨#[]⟩, .int .u64 0]
  rw [s1] at hx
  have hb0 := ((Below.refl _ w).alloc (Nat.le_refl _) (.cells #[.int .i64 0, .string ⟨#[]⟩, .int .u64 0] 37)).alloc (by simp) (.cells #[.int .i64 0, .string ⟨#[]⟩, .int .u64 0] 37)
  have T0 : Tk 37 w _ w.heap.size (w.heap.size + 1) R O #[.int .i64 0, .string ⟨#[]⟩, .int .u64 0] #[.int .i64 0, .string ⟨#[]⟩, .int .u64 0] _ := ⟨hz, hx, h.below hb0, Kp.of_below hb0, Nat.le_refl _, by omega, by omega, hRw, hOw⟩
  clear hz hx hb0 h hRw hOw
  go_enter Try.func35, Try.ntmps35
  go_upto_region 2 with (fail)
  generalize (w.alloc (.cells #[.int .i64 0, .string ⟨#[]⟩, .int .u64 0] 37)).alloc (.cells #[.int .i64 0, .string ⟨#[]⟩, .int .u64 0] 37) = w0 at *
  clear s1
  generalize w.heap.size + 1 = p at *
  generalize hgg : w.heap.size = g at T0 ⊢
  clear hgg
  have x0 := T0.xx.cell 0
  have z0 := T0.xx.free 0
  have x1 := T0.xx.cell 1
  have z1 := T0.xx.free 1
  have x2 := T0.xx.cell 2
  have z2 := T0.xx.free 2
  simp only [List.getElem?_toArray, List.getElem?_cons_zero, List.getElem?_cons_succ] at x0 x1 x2
  go_wp2_with fail
  refine (Tk.num (n := n) 65535 (by omega) (by omega) (by (try simp only [List.length_append]); omega) T0).mono ?_
  rintro e v1 ⟨rfl, S1⟩
  clear x0 z0 x1 z1 x2 z2
  clear T0
  have x0 := S1.xx.cell 0
  have z0 := S1.xx.free 0
  have x1 := S1.xx.cell 1
  have z1 := S1.xx.free 1
  have x2 := S1.xx.cell 2
  have z2 := S1.xx.free 2
  simp only [List.getElem?_toArray, List.getElem?_cons_zero, List.getElem?_cons_succ] at x0 x1 x2
  have U1 := (S1.put 0 (.int .i64 (n : Int)))
  simp only [List.setIfInBounds_toArray, List.set_cons_zero, List.set_cons_succ] at U1
  clear S1
  go_upto_region 3 with (fail)
  generalize (v1.setCell ⟨p, 0, none⟩ (.int .i64 (n : Int))) = w21 at *
  clear x0 z0 x1 z1 x2 z2
  have x0 := U1.xx.cell 0
  have z0 := U1.xx.free 0
  have x1 := U1.xx.cell 1
  have z1 := U1.xx.free 1
  have x2 := U1.xx.cell 2
  have z2 := U1.xx.free 2
  simp only [List.getElem?_toArray, List.getElem?_cons_zero, List.getElem?_cons_succ] at x0 x1 x2
  go_wp2_with fail
  refine (Tk.text (s := l) 4096 (by omega) (by omega) (by (try simp only [List.length_append]); omega) U1).mono ?_
  rintro e v2 ⟨rfl, S2⟩
  clear x0 z0 x1 z1 x2 z2
  clear U1
  have x0 := S2.xx.cell 0
  have z0 := S2.xx.free 0
  have x1 := S2.xx.cell 1
  have z1 := S2.xx.free 1
  have x2 := S2.xx.cell 2
  have z2 := S2.xx.free 2
  simp only [List.getElem?_toArray, List.getElem?_cons_zero, List.getElem?_cons_succ] at x0 x1 x2
  have U2 := (S2.put 1 (.string (str l)))
  simp only [List.setIfInBounds_toArray, List.set_cons_zero, List.set_cons_succ] at U2
  clear S2
  go_upto_region 4 with (fail)
  generalize (v2.setCell ⟨p, 1, none⟩ (.string (str l))) = w22 at *
  clear x0 z0 x1 z1 x2 z2
  have x0 := U2.xx.cell 0
  have z0 := U2.xx.free 0
  have x1 := U2.xx.cell 1
  have z1 := U2.xx.free 1
  have x2 := U2.xx.cell 2
  have z2 := U2.xx.free 2
  simp only [List.getElem?_toArray, List.getElem?_cons_zero, List.getElem?_cons_succ] at x0 x1 x2
  go_wp2_with fail
  refine (Tk.num (n := v) 18446744073709551615 (by omega) (by omega) (by (try simp only [List.length_append]); omega) U2).mono ?_
  rintro e v3 ⟨rfl, S3⟩
  clear x0 z0 x1 z1 x2 z2
  clear U2
  have x0 := S3.xx.cell 0
  have z0 := S3.xx.free 0
  have x1 := S3.xx.cell 1
  have z1 := S3.xx.free 1
  have x2 := S3.xx.cell 2
  have z2 := S3.xx.free 2
  simp only [List.getElem?_toArray, List.getElem?_cons_zero, List.getElem?_cons_succ] at x0 x1 x2
  have U3 := (S3.put 2 (.int .u64 (v : Int)))
  simp only [List.setIfInBounds_toArray, List.set_cons_zero, List.set_cons_succ] at U3
  clear S3
  go_upto_region 5 with (fail)
  generalize (v3.setCell ⟨p, 2, none⟩ (.int .u64 (v : Int))) = w23 at *
  clear x0 z0 x1 z1 x2 z2
  have x0 := U3.xx.cell 0
  have z0 := U3.xx.free 0
  have x1 := U3.xx.cell 1
  have z1 := U3.xx.free 1
  have x2 := U3.xx.cell 2
  have z2 := U3.xx.free 2
  simp only [List.getElem?_toArray, List.getElem?_cons_zero, List.getElem?_cons_succ] at x0 x1 x2
  have y0 := U3.zz.free 0
  have y1 := U3.zz.free 1
  have y2 := U3.zz.free 2
  have yc0 := U3.zz.cell 0
  have yc1 := U3.zz.cell 1
  have yc2 := U3.zz.cell 2
  simp only [List.getElem?_toArray, List.getElem?_cons_zero, List.getElem?_cons_succ] at yc0 yc1 yc2
  have TZ := (((U3.putz 0 (.int .i64 (n : Int))).putz 1 (.string (str l))).putz 2 (.int .u64 (v : Int)))
  simp only [List.setIfInBounds_toArray, List.set_cons_zero, List.set_cons_succ] at TZ
  go_wp2_with fail
  refine bodyPost_ret (results_cell_row rfl _ _ g 37 #[.int .i64 (n : Int), .string (str l), .int .u64 (v : Int)] (0, 0) _ rfl TZ.zz Try.underlying37 rfl (by kernel_rfl)) rfl ⟨rfl, TZ.rs, TZ.kp⟩
theorem results_row_tmp {fn : Func} {p t : Tmp} {ty : TypeId} {P : Program} (h : fn.results = #[.cell p ty, .tmp t]) (tmps : Array Value) (w : World) (g : Nat) {cs : Array Value}
    (hp : tmps.getD p undef = .pointer (some ⟨g, 0, none⟩)) (hl : (loadVar ty ⟨g, 0, none⟩).run P w = .ok (.agg cs) w) :
    (results fn tmps).run P w = .ok (.tuple #[.agg cs, tmps.getD t undef]) w := by
  have hp' : tmps[p]?.getD undef = .pointer (some ⟨g, 0, none⟩) := by simpa using hp
  simp [results, h, hp', asAddr, Result.andThen, hl]
theorem enters_records1_c : ∀ (args : Array Value) (w : World), (callFunc 19 args).run Try.prog w = .ok (.enter 19 args) w := fun _ _ => by kernel_rfl
set_option maxHeartbeats 600000 in
theorem records1_c {R O Q : Nat} {k : Int} {key val : List UInt8} {q n s m t v : Nat} (hc : chk k key val t v = true) (hq : q < 18446744073709551616) (hn : n < 18446744073709551616) (hs : s < 18446744073709551616) (hm : m < 18446744073709551616) (hv : v < 18446744073709551616) (w : World) (h : RS w R O (recB q n s m (opB k key val t v))) {c0 c1 c2 c3 c4 c5 c6 c7 c8 : Value} (hP : Blk w Q 35 #[c0, c1, c2, c3, c4, c5, c6, c7, c8]) (hPR : Q ≠ R) (hPO : Q ≠ O) :
    Calls Try.prog 19 #[.pointer (some ⟨R, 0, none⟩), .pointer (some ⟨Q, 0, none⟩)] w fun e w' => e = .returned (.tuple #[]) ∧ RS w' R O [] ∧ Kp (fun k => k = R ∨ k = O ∨ k = Q) w w' ∧ Blk w' Q 35 #[.int .u64 (q : Int), .int .u64 (n : Int), .int .u64 (s : Int), .int .u64 (m : Int), .int .i64 k, .string (str key), .string (str val), .int .u64 (t : Int), .int .u64 (v : Int)] := by
  have hT := takeRec_c hc hq hn hs hm hv (R := R) (O := O) [] (by simp) w (by rw [List.append_nil]; exact h)
  go_enter Try.func19, Try.ntmps19
  go_wp2_with fail
  refine hT.mono ?_
  rintro e u ⟨rfl, hR, hK⟩
  have hP2 : Blk u Q 35 #[c0, c1, c2, c3, c4, c5, c6, c7, c8] := hK.blk hP (by rintro (e | e); exact hPR e; exact hPO e)
  have x0 := hP2.cell 0
  have z0 := hP2.free 0
  have x1 := hP2.cell 1
  have z1 := hP2.free 1
  have x2 := hP2.cell 2
  have z2 := hP2.free 2
  have x3 := hP2.cell 3
  have z3 := hP2.free 3
  have x4 := hP2.cell 4
  have z4 := hP2.free 4
  have x5 := hP2.cell 5
  have z5 := hP2.free 5
  have x6 := hP2.cell 6
  have z6 := hP2.free 6
  have x7 := hP2.cell 7
  have z7 := hP2.free 7
  have x8 := hP2.cell 8
  have z8 := hP2.free 8
  simp only [List.getElem?_toArray, List.getElem?_cons_zero, List.getElem?_cons_succ] at x0 x1 x2 x3 x4 x5 x6 x7 x8
  have hP3 := (((((((((hP2.put 0 (.int .u64 (q : Int))).put 1 (.int .u64 (n : Int))).put 2 (.int .u64 (s : Int))).put 3 (.int .u64 (m : Int))).put 4 (.int .i64 k)).put 5 (.string (str key))).put 6 (.string (str val))).put 7 (.int .u64 (t : Int))).put 8 (.int .u64 (v : Int)))
  have hK3 := ((((((((((Kp.refl (fun q => q = Q) u).set (p := ⟨Q, 0, none⟩) rfl (.int .u64 (q : Int))).set (p := ⟨Q, 1, none⟩) rfl (.int .u64 (n : Int))).set (p := ⟨Q, 2, none⟩) rfl (.int .u64 (s : Int))).set (p := ⟨Q, 3, none⟩) rfl (.int .u64 (m : Int))).set (p := ⟨Q, 4, none⟩) rfl (.int .i64 k)).set (p := ⟨Q, 5, none⟩) rfl (.string (str key))).set (p := ⟨Q, 6, none⟩) rfl (.string (str val))).set (p := ⟨Q, 7, none⟩) rfl (.int .u64 (t : Int))).set (p := ⟨Q, 8, none⟩) rfl (.int .u64 (v : Int)))
  simp only [List.setIfInBounds_toArray, List.set_cons_zero, List.set_cons_succ] at hP3
  have hR3 : RS _ R O [] := ⟨hK3.blk hR.rd (fun e => hPR e.symm), hK3.blk hR.of (fun e => hPO e.symm)⟩
  have hK4 := (Kp.trans (S := fun k => k = R ∨ k = O ∨ k = Q) ⟨hK.os, hK.tape, hK.output, hK.size, fun k hk hS => hK.block k hk (fun e => hS (by rcases e with e | e; exact .inl e; exact .inr (.inl e)))⟩ ⟨hK3.os, hK3.tape, hK3.output, hK3.size, fun k hk hS => hK3.block k hk (fun e => hS (.inr (.inr e)))⟩)
  clear hT hP hP2 hR hK hK3
  go_wp2_with fail
  go_end0
  exact ⟨rfl, hR3, hK4, hP3⟩
theorem enters_get1_c : ∀ (args : Array Value) (w : World), (callFunc 36 args).run Try.prog w = .ok (.enter 36 args) w := fun _ _ => by kernel_rfl
set_option maxHeartbeats 600000 in
theorem get1_c {R O Q : Nat} {k : Int} {key val : List UInt8} {q n s m t v : Nat} (hc : chk k key val t v = true) (hq : q < 18446744073709551616) (hn : n < 18446744073709551616) (hs : s < 18446744073709551616) (hm : m < 18446744073709551616) (hv : v < 18446744073709551616) (w : World) (h : RS w R O (recB q n s m (opB k key val t v))) {c0 c1 c2 c3 c4 c5 c6 c7 c8 : Value} (hP : Blk w Q 35 #[c0, c1, c2, c3, c4, c5, c6, c7, c8]) (hPR : Q ≠ R) (hPO : Q ≠ O) :
    Calls Try.prog 36 #[.pointer (some ⟨R, 0, none⟩), .pointer (some ⟨Q, 0, none⟩)] w fun e w' => e = .returned (.tuple #[]) ∧ RS w' R O [] ∧ Kp (fun k => k = R ∨ k = O ∨ k = Q) w w' ∧ Blk w' Q 35 #[.int .u64 (q : Int), .int .u64 (n : Int), .int .u64 (s : Int), .int .u64 (m : Int), .int .i64 k, .string (str key), .string (str val), .int .u64 (t : Int), .int .u64 (v : Int)] := by
  have hT := takeRec_c hc hq hn hs hm hv (R := R) (O := O) [] (by simp) w (by rw [List.append_nil]; exact h)
  go_enter Try.func36, Try.ntmps36
  go_wp2_with fail
  refine hT.mono ?_
  rintro e u ⟨rfl, hR, hK⟩
  have hP2 : Blk u Q 35 #[c0, c1, c2, c3, c4, c5, c6, c7, c8] := hK.blk hP (by rintro (e | e); exact hPR e; exact hPO e)
  have x0 := hP2.cell 0
  have z0 := hP2.free 0
  have x1 := hP2.cell 1
  have z1 := hP2.free 1
  have x2 := hP2.cell 2
  have z2 := hP2.free 2
  have x3 := hP2.cell 3
  have z3 := hP2.free 3
  have x4 := hP2.cell 4
  have z4 := hP2.free 4
  have x5 := hP2.cell 5
  have z5 := hP2.free 5
  have x6 := hP2.cell 6
  have z6 := hP2.free 6
  have x7 := hP2.cell 7
  have z7 := hP2.free 7
  have x8 := hP2.cell 8
  have z8 := hP2.free 8
  simp only [List.getElem?_toArray, List.getElem?_cons_zero, List.getElem?_cons_succ] at x0 x1 x2 x3 x4 x5 x6 x7 x8
  have hP3 := (((((((((hP2.put 0 (.int .u64 (q : Int))).put 1 (.int .u64 (n : Int))).put 2 (.int .u64 (s : Int))).put 3 (.int .u64 (m : Int))).put 4 (.int .i64 k)).put 5 (.string (str key))).put 6 (.string (str val))).put 7 (.int .u64 (t : Int))).put 8 (.int .u64 (v : Int)))
  have hK3 := ((((((((((Kp.refl (fun q => q = Q) u).set (p := ⟨Q, 0, none⟩) rfl (.int .u64 (q : Int))).set (p := ⟨Q, 1, none⟩) rfl (.int .u64 (n : Int))).set (p := ⟨Q, 2, none⟩) rfl (.int .u64 (s : Int))).set (p := ⟨Q, 3, none⟩) rfl (.int .u64 (m : Int))).set (p := ⟨Q, 4, none⟩) rfl (.int .i64 k)).set (p := ⟨Q, 5, none⟩) rfl (.string (str key))).set (p := ⟨Q, 6, none⟩) rfl (.string (str val))).set (p := ⟨Q, 7, none⟩) rfl (.int .u64 (t : Int))).set (p := ⟨Q, 8, none⟩) rfl (.int .u64 (v : Int)))
  simp only [List.setIfInBounds_toArray, List.set_cons_zero, List.set_cons_succ] at hP3
  have hR3 : RS _ R O [] := ⟨hK3.blk hR.rd (fun e => hPR e.symm), hK3.blk hR.of (fun e => hPO e.symm)⟩
  have hK4 := (Kp.trans (S := fun k => k = R ∨ k = O ∨ k = Q) ⟨hK.os, hK.tape, hK.output, hK.size, fun k hk hS => hK.block k hk (fun e => hS (by rcases e with e | e; exact .inl e; exact .inr (.inl e)))⟩ ⟨hK3.os, hK3.tape, hK3.output, hK3.size, fun k hk hS => hK3.block k hk (fun e => hS (.inr (.inr e)))⟩)
  clear hT hP hP2 hR hK hK3
  go_wp2_with fail
  go_end0
  exact ⟨rfl, hR3, hK4, hP3⟩
theorem enters_reply1_c : ∀ (args : Array Value) (w : World), (callFunc 34 args).run Try.prog w = .ok (.enter 34 args) w := fun _ _ => by kernel_rfl
set_option maxHeartbeats 600000 in
theorem reply1_c {R O Q : Nat} {n v : Nat} {l : List UInt8} (hn : n < 65536) (hl : l.length ≤ 4096) (hv : v < 18446744073709551616) (w : World) (h : RS w R O (replyB n l v)) {c0 c1 c2 : Value} (hP : Blk w Q 37 #[c0, c1, c2]) (hPR : Q ≠ R) (hPO : Q ≠ O) :
    Calls Try.prog 34 #[.pointer (some ⟨R, 0, none⟩), .pointer (some ⟨Q, 0, none⟩)] w fun e w' => e = .returned (.tuple #[]) ∧ RS w' R O [] ∧ Kp (fun k => k = R ∨ k = O ∨ k = Q) w w' ∧ Blk w' Q 37 #[.int .i64 (n : Int), .string (str l), .int .u64 (v : Int)] := by
  have hT := takeReply_c hn hl hv (R := R) (O := O) [] (by simp) w (by rw [List.append_nil]; exact h)
  go_enter Try.func34, Try.ntmps34
  go_wp2_with fail
  refine hT.mono ?_
  rintro e u ⟨rfl, hR, hK⟩
  have hP2 : Blk u Q 37 #[c0, c1, c2] := hK.blk hP (by rintro (e | e); exact hPR e; exact hPO e)
  have x0 := hP2.cell 0
  have z0 := hP2.free 0
  have x1 := hP2.cell 1
  have z1 := hP2.free 1
  have x2 := hP2.cell 2
  have z2 := hP2.free 2
  simp only [List.getElem?_toArray, List.getElem?_cons_zero, List.getElem?_cons_succ] at x0 x1 x2
  have hP3 := (((hP2.put 0 (.int .i64 (n : Int))).put 1 (.string (str l))).put 2 (.int .u64 (v : Int)))
  have hK3 := ((((Kp.refl (fun q => q = Q) u).set (p := ⟨Q, 0, none⟩) rfl (.int .i64 (n : Int))).set (p := ⟨Q, 1, none⟩) rfl (.string (str l))).set (p := ⟨Q, 2, none⟩) rfl (.int .u64 (v : Int)))
  simp only [List.setIfInBounds_toArray, List.set_cons_zero, List.set_cons_succ] at hP3
  have hR3 : RS _ R O [] := ⟨hK3.blk hR.rd (fun e => hPR e.symm), hK3.blk hR.of (fun e => hPO e.symm)⟩
  have hK4 := (Kp.trans (S := fun k => k = R ∨ k = O ∨ k = Q) ⟨hK.os, hK.tape, hK.output, hK.size, fun k hk hS => hK.block k hk (fun e => hS (by rcases e with e | e; exact .inl e; exact .inr (.inl e)))⟩ ⟨hK3.os, hK3.tape, hK3.output, hK3.size, fun k hk hS => hK3.block k hk (fun e => hS (.inr (.inr e)))⟩)
  clear hT hP hP2 hR hK hK3
  go_wp2_with fail
  go_end0
  exact ⟨rfl, hR3, hK4, hP3⟩
set_option maxHeartbeats 1000000 in
theorem reply_c {n v : Nat} {l : List UInt8} (hn : n < 65536) (hl : l.length ≤ 4096) (hv : v < 18446744073709551616) (w : World) :
    Calls Try.prog 14 #[.string (str (replyB n l v))] w fun e w' => e = .returned (.tuple #[.agg #[.int .i64 (n : Int), .string (str l), .int .u64 (v : Int)], .int .i64 0]) ∧ Below w.heap.size w w' := by
  have hmf : ∀ (fn : Fn) (first cap : Array Value) (w : World), (Instr.makeFunc fn first cap).run Try.prog w = .ok (.func fn first cap) w := fun _ _ _ _ => rfl
  have hb1 := (Below.refl _ w).alloc (Nat.le_refl _) (.cells #[.int .i64 0, .string ⟨#[]⟩, .int .u64 0] 37)
  have hr1 := Blk.new w 37 #[.int .i64 0, .string ⟨#[]⟩, .int .u64 0]
  have s1 : (w.alloc (.cells #[.int .i64 0, .string ⟨#[]⟩, .int .u64 0] 37)).heap.size = w.heap.size + 1 := by simp
  go_enter Try.func14, Try.ntmps14
  go_upto_region 1 with (fail)
  generalize w.alloc (.cells #[.int .i64 0, .string ⟨#[]⟩, .int .u64 0] 37) = w1 at *
  have hb2 := hb1.alloc (by omega) (.cells #[.int .i64 0, .string ⟨#[]⟩, .int .u64 0] 37)
  have hr2 := hr1.alloc (.cells #[.int .i64 0, .string ⟨#[]⟩, .int .u64 0] 37)
  have hp2 := Blk.new w1 37 #[.int .i64 0, .string ⟨#[]⟩, .int .u64 0]
  have s2 : (w1.alloc (.cells #[.int .i64 0, .string ⟨#[]⟩, .int .u64 0] 37)).heap.size = w.heap.size + 2 := by simp [s1]
  rw [s1] at hp2
  clear hb1 hr1
  go_upto_region 2 with (fail)
  generalize w1.alloc (.cells #[.int .i64 0, .string ⟨#[]⟩, .int .u64 0] 37) = w2 at *
  go_wp2_with fail
  refine (Wirey.read_ok2 _ enters_reply1_c #[.pointer (some ⟨w.heap.size + 1, 0, none⟩)] (replyB n l v) [] w2 (fun j => j = w.heap.size + 1)
    (fun x => Blk x (w.heap.size + 1) 37 #[.int .i64 (n : Int), .string (str l), .int .u64 (v : Int)]) (fun j hj => by omega) ?_ ?_).mono ?_
  · rintro x y hs h1 hk9
    exact (hk9.block (w.heap.size + 1) (by omega) (by omega)).trans h1
  · intro R O x hr hb hR hO
    refine (reply1_c hn hl hv x hr (hp2.below hb (by omega)) (by omega) (by omega)).mono ?_
    rintro e y ⟨rfl, h1, h2, h3⟩
    exact ⟨rfl, h1, h2, h3⟩
  rintro e w3 ⟨rfl, hk3, hp3⟩
  have hr3 := hk3.blk hr2 (by omega)
  have hB3 : Below w.heap.size w w3 := ⟨hk3.os.trans hb2.os, hk3.tape.trans hb2.tape, hk3.output.trans hb2.output, Nat.le_trans hb2.size hk3.size, fun i hi => (hk3.block i (by omega) (by omega)).trans (hb2.block i hi)⟩
  rw [Wirey.endE_nil]
  clear hb2 hr2 hp2 hk3 s1 s2
  have x0 := hp3.cell 0
  have x1 := hp3.cell 1
  have x2 := hp3.cell 2
  have z0 := hr3.cell 0
  have z1 := hr3.cell 1
  have z2 := hr3.cell 2
  have f0 := hr3.free 0
  have f1 := hr3.free 1
  have f2 := hr3.free 2
  simp only [List.getElem?_toArray, List.getElem?_cons_zero, List.getElem?_cons_succ] at x0 x1 x2 z0 z1 z2
  have hB := ((hr3.put 0 (.int .i64 (n : Int))).put 1 (.string (str l))).put 2 (.int .u64 (v : Int))
  simp only [List.setIfInBounds_toArray, List.set_cons_zero, List.set_cons_succ] at hB
  have hK : Kp (fun q => q = w.heap.size) w3 (((w3.setCell ⟨w.heap.size, 0, none⟩ (.int .i64 (n : Int))).setCell ⟨w.heap.size, 1, none⟩ (.string (str l))).setCell ⟨w.heap.size, 2, none⟩ (.int .u64 (v : Int))) := (((Kp.refl (fun q => q = w.heap.size) w3).set (p := ⟨w.heap.size, 0, none⟩) rfl (.int .i64 (n : Int))).set (p := ⟨w.heap.size, 1, none⟩) rfl (.string (str l))).set (p := ⟨w.heap.size, 2, none⟩) rfl (.int .u64 (v : Int))
  go_wp2_with fail
  refine bodyPost_ret (results_row_tmp rfl _ _ w.heap.size rfl (run_loadVar_row _ _ _ _ _ _ _ hB Try.underlying37 rfl (by kernel_rfl))) rfl ⟨rfl, ?_⟩
  exact ⟨hK.os.trans hB3.os, hK.tape.trans hB3.tape, hK.output.trans hB3.output, Nat.le_trans hB3.size hK.size, fun i hi => (hK.block i (Nat.lt_of_lt_of_le hi hB3.size) (by omega)).trans (hB3.block i hi)⟩
set_option maxHeartbeats 1000000 in
theorem get_c {k : Int} {key val : List UInt8} {q n s m t v : Nat} (hc : chk k key val t v = true) (hq : q < 18446744073709551616) (hn : n < 18446744073709551616) (hs : s < 18446744073709551616) (hm : m < 18446744073709551616) (hv : v < 18446744073709551616) (w : World) :
    Calls Try.prog 17 #[.string (str (recB q n s m (opB k key val t v)))] w fun e w' => e = .returned (.tuple #[.agg #[.int .u64 (q : Int), .int .u64 (n : Int), .int .u64 (s : Int), .int .u64 (m : Int), .int .i64 k, .string (str key), .string (str val), .int .u64 (t : Int), .int .u64 (v : Int)], .int .i64 0]) ∧ Below w.heap.size w w' := by
  have hmf : ∀ (fn : Fn) (first cap : Array Value) (w : World), (Instr.makeFunc fn first cap).run Try.prog w = .ok (.func fn first cap) w := fun _ _ _ _ => rfl
  have hb1 := (Below.refl _ w).alloc (Nat.le_refl _) (.cells #[.int .u64 0, .int .u64 0, .int .u64 0, .int .u64 0, .int .i64 0, .string ⟨#[]⟩, .string ⟨#[]⟩, .int .u64 0, .int .u64 0] 35)
  have hr1 := Blk.new w 35 #[.int .u64 0, .int .u64 0, .int .u64 0, .int .u64 0, .int .i64 0, .string ⟨#[]⟩, .string ⟨#[]⟩, .int .u64 0, .int .u64 0]
  have s1 : (w.alloc (.cells #[.int .u64 0, .int .u64 0, .int .u64 0, .int .u64 0, .int .i64 0, .string ⟨#[]⟩, .string ⟨#[]⟩, .int .u64 0, .int .u64 0] 35)).heap.size = w.heap.size + 1 := by simp
  go_enter Try.func17, Try.ntmps17
  go_upto_region 1 with (fail)
  generalize w.alloc (.cells #[.int .u64 0, .int .u64 0, .int .u64 0, .int .u64 0, .int .i64 0, .string ⟨#[]⟩, .string ⟨#[]⟩, .int .u64 0, .int .u64 0] 35) = w1 at *
  have hb2 := hb1.alloc (by omega) (.cells #[.int .u64 0, .int .u64 0, .int .u64 0, .int .u64 0, .int .i64 0, .string ⟨#[]⟩, .string ⟨#[]⟩, .int .u64 0, .int .u64 0] 35)
  have hr2 := hr1.alloc (.cells #[.int .u64 0, .int .u64 0, .int .u64 0, .int .u64 0, .int .i64 0, .string ⟨#[]⟩, .string ⟨#[]⟩, .int .u64 0, .int .u64 0] 35)
  have hp2 := Blk.new w1 35 #[.int .u64 0, .int .u64 0, .int .u64 0, .int .u64 0, .int .i64 0, .string ⟨#[]⟩, .string ⟨#[]⟩, .int .u64 0, .int .u64 0]
  have s2 : (w1.alloc (.cells #[.int .u64 0, .int .u64 0, .int .u64 0, .int .u64 0, .int .i64 0, .string ⟨#[]⟩, .string ⟨#[]⟩, .int .u64 0, .int .u64 0] 35)).heap.size = w.heap.size + 2 := by simp [s1]
  rw [s1] at hp2
  clear hb1 hr1
  go_upto_region 2 with (fail)
  generalize w1.alloc (.cells #[.int .u64 0, .int .u64 0, .int .u64 0, .int .u64 0, .int .i64 0, .string ⟨#[]⟩, .string ⟨#[]⟩, .int .u64 0, .int .u64 0] 35) = w2 at *
  go_wp2_with fail
  refine (Wirey.read_ok2 _ enters_get1_c #[.pointer (some ⟨w.heap.size + 1, 0, none⟩)] (recB q n s m (opB k key val t v)) [] w2 (fun j => j = w.heap.size + 1)
    (fun x => Blk x (w.heap.size + 1) 35 #[.int .u64 (q : Int), .int .u64 (n : Int), .int .u64 (s : Int), .int .u64 (m : Int), .int .i64 k, .string (str key), .string (str val), .int .u64 (t : Int), .int .u64 (v : Int)]) (fun j hj => by omega) ?_ ?_).mono ?_
  · rintro x y hs h1 hk9
    exact (hk9.block (w.heap.size + 1) (by omega) (by omega)).trans h1
  · intro R O x hr hb hR hO
    refine (get1_c hc hq hn hs hm hv x hr (hp2.below hb (by omega)) (by omega) (by omega)).mono ?_
    rintro e y ⟨rfl, h1, h2, h3⟩
    exact ⟨rfl, h1, h2, h3⟩
  rintro e w3 ⟨rfl, hk3, hp3⟩
  have hr3 := hk3.blk hr2 (by omega)
  have hB3 : Below w.heap.size w w3 := ⟨hk3.os.trans hb2.os, hk3.tape.trans hb2.tape, hk3.output.trans hb2.output, Nat.le_trans hb2.size hk3.size, fun i hi => (hk3.block i (by omega) (by omega)).trans (hb2.block i hi)⟩
  rw [Wirey.endE_nil]
  clear hb2 hr2 hp2 hk3 s1 s2
  have x0 := hp3.cell 0
  have x1 := hp3.cell 1
  have x2 := hp3.cell 2
  have x3 := hp3.cell 3
  have x4 := hp3.cell 4
  have x5 := hp3.cell 5
  have x6 := hp3.cell 6
  have x7 := hp3.cell 7
  have x8 := hp3.cell 8
  have z0 := hr3.cell 0
  have z1 := hr3.cell 1
  have z2 := hr3.cell 2
  have z3 := hr3.cell 3
  have z4 := hr3.cell 4
  have z5 := hr3.cell 5
  have z6 := hr3.cell 6
  have z7 := hr3.cell 7
  have z8 := hr3.cell 8
  have f0 := hr3.free 0
  have f1 := hr3.free 1
  have f2 := hr3.free 2
  have f3 := hr3.free 3
  have f4 := hr3.free 4
  have f5 := hr3.free 5
  have f6 := hr3.free 6
  have f7 := hr3.free 7
  have f8 := hr3.free 8
  simp only [List.getElem?_toArray, List.getElem?_cons_zero, List.getElem?_cons_succ] at x0 x1 x2 x3 x4 x5 x6 x7 x8 z0 z1 z2 z3 z4 z5 z6 z7 z8
  have hB := (((((((((hr3.put 0 (.int .u64 (q : Int))).put 1 (.int .u64 (n : Int))).put 2 (.int .u64 (s : Int))).put 3 (.int .u64 (m : Int))).put 4 (.int .i64 k)).put 5 (.string (str key))).put 6 (.string (str val))).put 7 (.int .u64 (t : Int))).put 8 (.int .u64 (v : Int)))
  simp only [List.setIfInBounds_toArray, List.set_cons_zero, List.set_cons_succ] at hB
  have hK : Kp (fun q => q = w.heap.size) w3 (((((((((w3.setCell ⟨w.heap.size, 0, none⟩ (.int .u64 (q : Int))).setCell ⟨w.heap.size, 1, none⟩ (.int .u64 (n : Int))).setCell ⟨w.heap.size, 2, none⟩ (.int .u64 (s : Int))).setCell ⟨w.heap.size, 3, none⟩ (.int .u64 (m : Int))).setCell ⟨w.heap.size, 4, none⟩ (.int .i64 k)).setCell ⟨w.heap.size, 5, none⟩ (.string (str key))).setCell ⟨w.heap.size, 6, none⟩ (.string (str val))).setCell ⟨w.heap.size, 7, none⟩ (.int .u64 (t : Int))).setCell ⟨w.heap.size, 8, none⟩ (.int .u64 (v : Int))) := ((((((((((Kp.refl (fun q => q = w.heap.size) w3).set (p := ⟨w.heap.size, 0, none⟩) rfl (.int .u64 (q : Int))).set (p := ⟨w.heap.size, 1, none⟩) rfl (.int .u64 (n : Int))).set (p := ⟨w.heap.size, 2, none⟩) rfl (.int .u64 (s : Int))).set (p := ⟨w.heap.size, 3, none⟩) rfl (.int .u64 (m : Int))).set (p := ⟨w.heap.size, 4, none⟩) rfl (.int .i64 k)).set (p := ⟨w.heap.size, 5, none⟩) rfl (.string (str key))).set (p := ⟨w.heap.size, 6, none⟩) rfl (.string (str val))).set (p := ⟨w.heap.size, 7, none⟩) rfl (.int .u64 (t : Int))).set (p := ⟨w.heap.size, 8, none⟩) rfl (.int .u64 (v : Int)))
  go_wp2_with fail
  refine bodyPost_ret (results_row_tmp rfl _ _ w.heap.size rfl (run_loadVar_row _ _ _ _ _ _ _ hB Try.underlying35 rfl (by kernel_rfl))) rfl ⟨rfl, ?_⟩
  exact ⟨hK.os.trans hB3.os, hK.tape.trans hB3.tape, hK.output.trans hB3.output, Nat.le_trans hB3.size hK.size, fun i hi => (hK.block i (Nat.lt_of_lt_of_le hi hB3.size) (by omega)).trans (hB3.block i hi)⟩
end Go.Proofs.Ytpjmkgomilnhnaa.Opy
