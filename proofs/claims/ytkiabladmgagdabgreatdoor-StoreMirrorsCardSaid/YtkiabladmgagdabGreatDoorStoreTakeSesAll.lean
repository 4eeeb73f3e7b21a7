/- Layer 12: the single numbers of a cache taken off their own bytes. The only condition: they may be. Layer 12: what sessions were told taken off its own bytes. The only condition: there are at most twelve of them, that rise. -/
import Derived.Test.YtkiabladmgagdabGreatDoorSort64InsAll
import Derived.Test.YtkiabladmgagdabGreatDoorStoreExpSesAll
import Derived.BigQuiet
import Derived.Lib.Hide
import Derived.Test.YtkiabladmgagdabGreatDoorSq
namespace Go.Proofs.YtkiabladmgagdabGreatDoor.Storey
open Go.ChangeShapes Go.WideShapes Go.ChangeAt Go.RowKit
open Wirey (Blk Row str str_size str_list str_cat enc enc_len txt RS Kp must_ok)
open Opy (Tk)
set_option maxHeartbeats 4000000 in
set_option maxRecDepth 100000 in
theorem takeConfig_c {R O k n b d : Nat} (hk : k ≤ 2) (hn : n ≤ 1000) (hbb : b ≤ 1048576) (hd : d < 18446744073709551616) (hm : mayB (k : Int) (n : Int) (b : Int) = true) (rest : List UInt8) (hr : rest.length ≤ 9000000) (w : World) (h : RS w R O (enc k ++ (enc n ++ (enc b ++ (enc d ++ rest))))) :
  Calls Tryz.prog 36 #[.pointer (some ⟨R, 0, none⟩)] w fun e w' => e = .returned (.agg #[.int .i64 k, .int .i64 n, .int .i64 b, .int .u64 d]) ∧ RS w' R O rest ∧ Kp (fun k => k = R ∨ k = O) w w' := by
 have l1 := enc_len (n := k) (by omega)
 have l2 := enc_len (n := n) (by omega)
 have l3 := enc_len (n := b) (by omega)
 have l4 := enc_len hd
 have ew1 : IntKind.i64.wrap (k : Int) = (k : Int) := by rw [IntKind.wrap_i64]; omega
 have ew2 : IntKind.i64.wrap (n : Int) = (n : Int) := by rw [IntKind.wrap_i64]; omega
 have ew3 : IntKind.i64.wrap (b : Int) = (b : Int) := by rw [IntKind.wrap_i64]; omega
 have hC := fun W => check_c (k : Int) (n : Int) (b : Int) (d : Int) W
 rw [hm] at hC
 clear hm
 have hRw := h.rd.lt
 have hOw := h.of.lt
 have hz := (Blk.new w 24 #[.int .i64 0, .int .i64 0, .int .i64 0, .int .u64 0]).alloc (.cells #[.int .i64 0, .int .i64 0, .int .i64 0, .int .u64 0] 24)
 have s1 : (w.alloc (.cells #[.int .i64 0, .int .i64 0, .int .i64 0, .int .u64 0] 24)).heap.size = w.heap.size + 1 := by simp
 have hx := Blk.new (w.alloc (.cells #[.int .i64 0, .int .i64 0, .int .i64 0, .int .u64 0] 24)) 24 #[.int .i64 0, .int .i64 0, .int .i64 0, .int .u64 0]
 rw [s1] at hx
 have hb0 := ((Below.refl _ w).alloc (Nat.le_refl _) (.cells #[.int .i64 0, .int .i64 0, .int .i64 0, .int .u64 0] 24)).alloc (by simp) (.cells #[.int .i64 0, .int .i64 0, .int .i64 0, .int .u64 0] 24)
 have T0 : Tk 24 w _ w.heap.size (w.heap.size + 1) R O #[.int .i64 0, .int .i64 0, .int .i64 0, .int .u64 0] #[.int .i64 0, .int .i64 0, .int .i64 0, .int .u64 0] _ := ⟨hz, hx, h.below hb0, Kp.of_below hb0, Nat.le_refl _, by omega, by omega, hRw, hOw⟩
 clear hz hx hb0 h hRw hOw
 go_enter Tryz.func36, Tryz.ntmps36
 go_upto_region 2 with (fail)
 generalize (w.alloc (.cells #[.int .i64 0, .int .i64 0, .int .i64 0, .int .u64 0] 24)).alloc (.cells #[.int .i64 0, .int .i64 0, .int .i64 0, .int .u64 0] 24) = w0 at *
 clear s1
 generalize w.heap.size + 1 = p at *
 generalize hgg : w.heap.size = g at T0 ⊢
 clear hgg
 have x0 := T0.xx.cell 0
 have z0 := T0.xx.free 0
 have x1 := T0.xx.cell 1
 have z1 := T0.xx.free 1
 have x2 := T0.xx.cell 2
 have z2 := T0.xx.free 2
 have x3 := T0.xx.cell 3
 have z3 := T0.xx.free 3
 simp only [gA, gB, gC] at x0 x1 x2 x3
 go_wp2_with fail
 refine (Tk.num (n := k) 2 (by omega) (by omega) (by (try simp only [List.length_append]); omega) T0).mono ?_
 rintro e v1 ⟨rfl, S1⟩
 clear x0 z0 x1 z1 x2 z2 x3 z3
 clear T0
 have x0 := S1.xx.cell 0
 have z0 := S1.xx.free 0
 have x1 := S1.xx.cell 1
 have z1 := S1.xx.free 1
 have x2 := S1.xx.cell 2
 have z2 := S1.xx.free 2
 have x3 := S1.xx.cell 3
 have z3 := S1.xx.free 3
 simp only [gA, gB, gC] at x0 x1 x2 x3
 have U1 := (S1.put 0 (.int .i64 k))
 simp only [sA, List.set_cons_zero] at U1
 clear S1
 go_upto_region 3 with (fail)
 generalize (v1.setCell ⟨p, 0, none⟩ (.int .i64 k)) = w21 at *
 clear x0 z0 x1 z1 x2 z2 x3 z3
 have x0 := U1.xx.cell 0
 have z0 := U1.xx.free 0
 have x1 := U1.xx.cell 1
 have z1 := U1.xx.free 1
 have x2 := U1.xx.cell 2
 have z2 := U1.xx.free 2
 have x3 := U1.xx.cell 3
 have z3 := U1.xx.free 3
 simp only [gA, gB, gC] at x0 x1 x2 x3
 go_wp2_with fail
 refine (Tk.num (n := n) 1000 (by omega) (by omega) (by (try simp only [List.length_append]); omega) U1).mono ?_
 rintro e v2 ⟨rfl, S2⟩
 clear x0 z0 x1 z1 x2 z2 x3 z3
 clear U1
 have x0 := S2.xx.cell 0
 have z0 := S2.xx.free 0
 have x1 := S2.xx.cell 1
 have z1 := S2.xx.free 1
 have x2 := S2.xx.cell 2
 have z2 := S2.xx.free 2
 have x3 := S2.xx.cell 3
 have z3 := S2.xx.free 3
 simp only [gA, gB, gC] at x0 x1 x2 x3
 have U2 := (S2.put 1 (.int .i64 n))
 simp only [sA, List.set_cons_zero, sC] at U2
 clear S2
 go_upto_region 4 with (fail)
 generalize (v2.setCell ⟨p, 1, none⟩ (.int .i64 n)) = w22 at *
 clear x0 z0 x1 z1 x2 z2 x3 z3
 have x0 := U2.xx.cell 0
 have z0 := U2.xx.free 0
 have x1 := U2.xx.cell 1
 have z1 := U2.xx.free 1
 have x2 := U2.xx.cell 2
 have z2 := U2.xx.free 2
 have x3 := U2.xx.cell 3
 have z3 := U2.xx.free 3
 simp only [gA, gB, gC] at x0 x1 x2 x3
 go_wp2_with fail
 refine (Tk.num (n := b) 1048576 (by omega) (by omega) (by (try simp only [List.length_append]); omega) U2).mono ?_
 rintro e v3 ⟨rfl, S3⟩
 clear x0 z0 x1 z1 x2 z2 x3 z3
 clear U2
 have x0 := S3.xx.cell 0
 have z0 := S3.xx.free 0
 have x1 := S3.xx.cell 1
 have z1 := S3.xx.free 1
 have x2 := S3.xx.cell 2
 have z2 := S3.xx.free 2
 have x3 := S3.xx.cell 3
 have z3 := S3.xx.free 3
 simp only [gA, gB, gC] at x0 x1 x2 x3
 have U3 := (S3.put 2 (.int .i64 b))
 simp only [sA, List.set_cons_zero, sC] at U3
 clear S3
 go_upto_region 5 with (fail)
 generalize (v3.setCell ⟨p, 2, none⟩ (.int .i64 b)) = w23 at *
 clear x0 z0 x1 z1 x2 z2 x3 z3
 have x0 := U3.xx.cell 0
 have z0 := U3.xx.free 0
 have x1 := U3.xx.cell 1
 have z1 := U3.xx.free 1
 have x2 := U3.xx.cell 2
 have z2 := U3.xx.free 2
 have x3 := U3.xx.cell 3
 have z3 := U3.xx.free 3
 simp only [gA, gB, gC] at x0 x1 x2 x3
 go_wp2_with fail
 refine (Tk.num (n := d) 18446744073709551615 (by omega) (by omega) (by (try simp only [List.length_append]); omega) U3).mono ?_
 rintro e v4 ⟨rfl, S4⟩
 clear x0 z0 x1 z1 x2 z2 x3 z3
 clear U3
 have x0 := S4.xx.cell 0
 have z0 := S4.xx.free 0
 have x1 := S4.xx.cell 1
 have z1 := S4.xx.free 1
 have x2 := S4.xx.cell 2
 have z2 := S4.xx.free 2
 have x3 := S4.xx.cell 3
 have z3 := S4.xx.free 3
 simp only [gA, gB, gC] at x0 x1 x2 x3
 have U4 := (S4.put 3 (.int .u64 d))
 simp only [sA, List.set_cons_zero, sC] at U4
 clear S4
 go_upto_region 6 with (fail)
 generalize (v4.setCell ⟨p, 3, none⟩ (.int .u64 d)) = w24 at *
 clear x0 z0 x1 z1 x2 z2 x3 z3
 have x0 := U4.xx.cell 0
 have x1 := U4.xx.cell 1
 have x2 := U4.xx.cell 2
 have x3 := U4.xx.cell 3
 simp only [gA, gB, gC] at x0 x1 x2 x3
 go_wp2_with fail
 refine (hC _).mono ?_
 rintro e wc ⟨rfl, hbc⟩
 have UM := U4.below hbc
 clear hbc hC
 go_wp2_with fail
 refine (must_ok _).mono ?_
 rintro e w' ⟨rfl, rfl⟩
 clear x0 x1 x2 x3
 have xc0 := UM.xx.cell 0
 have yc0 := UM.zz.cell 0
 have zc0 := UM.zz.free 0
 have xc1 := UM.xx.cell 1
 have yc1 := UM.zz.cell 1
 have zc1 := UM.zz.free 1
 have xc2 := UM.xx.cell 2
 have yc2 := UM.zz.cell 2
 have zc2 := UM.zz.free 2
 have xc3 := UM.xx.cell 3
 have yc3 := UM.zz.cell 3
 have zc3 := UM.zz.free 3
 simp only [gA, gB, gC] at xc0 yc0 xc1 yc1 xc2 yc2 xc3 yc3
 have TZ := ((((UM.putz 0 (.int .i64 k)).putz 1 (.int .i64 n)).putz 2 (.int .i64 b)).putz 3 (.int .u64 d))
 simp only [sA, List.set_cons_zero, sC] at TZ
 go_wp2_with fail
 refine bodyPost_ret (results_cell_row rfl _ _ g 24 #[.int .i64 k, .int .i64 n, .int .i64 b, .int .u64 d] (0, 0) _ rfl TZ.zz Tryz.underlying24 rfl (by kernel_rfl)) rfl ⟨rfl, TZ.rs, TZ.kp⟩
set_option maxHeartbeats 4000000 in
set_option maxRecDepth 100000 in
theorem takeTally_c {R O a b : Nat} (ha : a ≤ 9223372036854775807) (hbb : b ≤ a) (rest : List UInt8) (hr : rest.length ≤ 9000000) (w : World) (h : RS w R O (enc a ++ (enc b ++ rest))) :
  Calls Tryz.prog 38 #[.pointer (some ⟨R, 0, none⟩)] w fun e w' => e = .returned (.agg #[.int .i64 a, .int .i64 b]) ∧ RS w' R O rest ∧ Kp (fun k => k = R ∨ k = O) w w' := by
 have l1 := enc_len (n := a) (by omega)
 have l2 := enc_len (n := b) (by omega)
 have ew1 : IntKind.i64.wrap (a : Int) = (a : Int) := by rw [IntKind.wrap_i64]; omega
 have ew2 : IntKind.i64.wrap (b : Int) = (b : Int) := by rw [IntKind.wrap_i64]; omega
 have dd : decide ((b : Int) ≤ (a : Int)) = true := decide_eq_true (by omega)
 have hRw := h.rd.lt
 have hOw := h.of.lt
 have hz := (Blk.new w 56 #[.int .i64 0, .int .i64 0]).alloc (.cells #[.int .i64 0, .int .i64 0] 56)
 have s1 : (w.alloc (.cells #[.int .i64 0, .int .i64 0] 56)).heap.size = w.heap.size + 1 := by simp
 have hx := Blk.new (w.alloc (.cells #[.int .i64 0, .int .i64 0] 56)) 56 #[.int .i64 0, .int .i64 0]
 rw [s1] at hx
 have hb0 := ((Below.refl _ w).alloc (Nat.le_refl _) (.cells #[.int .i64 0, .int .i64 0] 56)).alloc (by simp) (.cells #[.int .i64 0, .int .i64 0] 56)
 have T0 : Tk 56 w _ w.heap.size (w.heap.size + 1) R O #[.int .i64 0, .int .i64 0] #[.int .i64 0, .int .i64 0] _ := ⟨hz, hx, h.below hb0, Kp.of_below hb0, Nat.le_refl _, by omega, by omega, hRw, hOw⟩
 clear hz hx hb0 h hRw hOw
 go_enter Tryz.func38, Tryz.ntmps38
 go_upto_region 2 with (fail)
 generalize (w.alloc (.cells #[.int .i64 0, .int .i64 0] 56)).alloc (.cells #[.int .i64 0, .int .i64 0] 56) = w0 at *
 clear s1
 generalize w.heap.size + 1 = p at *
 generalize hgg : w.heap.size = g at T0 ⊢
 clear hgg
 have x0 := T0.xx.cell 0
 have z0 := T0.xx.free 0
 have x1 := T0.xx.cell 1
 have z1 := T0.xx.free 1
 simp only [gA, gB, gC] at x0 x1
 go_wp2_with fail
 refine (Tk.num (n := a) 9223372036854775807 (by omega) (by omega) (by (try simp only [List.length_append]); omega) T0).mono ?_
 rintro e v1 ⟨rfl, S1⟩
 clear x0 z0 x1 z1
 clear T0
 have x0 := S1.xx.cell 0
 have z0 := S1.xx.free 0
 have x1 := S1.xx.cell 1
 have z1 := S1.xx.free 1
 simp only [gA, gB, gC] at x0 x1
 have U1 := (S1.put 0 (.int .i64 a))
 simp only [sA, List.set_cons_zero] at U1
 clear S1
 go_upto_region 3 with (fail)
 generalize (v1.setCell ⟨p, 0, none⟩ (.int .i64 a)) = w21 at *
 clear x0 z0 x1 z1
 have x0 := U1.xx.cell 0
 have z0 := U1.xx.free 0
 have x1 := U1.xx.cell 1
 have z1 := U1.xx.free 1
 simp only [gA, gB, gC] at x0 x1
 go_wp2_with fail
 refine (Tk.num (n := b) 9223372036854775807 (by omega) (by omega) (by (try simp only [List.length_append]); omega) U1).mono ?_
 rintro e v2 ⟨rfl, S2⟩
 clear x0 z0 x1 z1
 clear U1
 have x0 := S2.xx.cell 0
 have z0 := S2.xx.free 0
 have x1 := S2.xx.cell 1
 have z1 := S2.xx.free 1
 simp only [gA, gB, gC] at x0 x1
 have U2 := (S2.put 1 (.int .i64 b))
 simp only [sA, List.set_cons_zero, sC] at U2
 clear S2
 go_upto_region 4 with (fail)
 generalize (v2.setCell ⟨p, 1, none⟩ (.int .i64 b)) = w22 at *
 clear x0 z0 x1 z1
 have x0 := U2.xx.cell 0
 have x1 := U2.xx.cell 1
 simp only [gA, gB, gC] at x0 x1
 have UM := U2
 go_wp2_with fail
 refine (must_ok _).mono ?_
 rintro e w' ⟨rfl, rfl⟩
 clear x0 x1
 have xc0 := UM.xx.cell 0
 have yc0 := UM.zz.cell 0
 have zc0 := UM.zz.free 0
 have xc1 := UM.xx.cell 1
 have yc1 := UM.zz.cell 1
 have zc1 := UM.zz.free 1
 simp only [gA, gB, gC] at xc0 yc0 xc1 yc1
 have TZ := ((UM.putz 0 (.int .i64 a)).putz 1 (.int .i64 b))
 simp only [sA, List.set_cons_zero, sC] at TZ
 go_wp2_with fail
 refine bodyPost_ret (results_cell_row rfl _ _ g 56 #[.int .i64 a, .int .i64 b] (0, 0) _ rfl TZ.zz Tryz.underlying56 rfl (by kernel_rfl)) rfl ⟨rfl, TZ.rs, TZ.kp⟩
end Go.Proofs.YtkiabladmgagdabGreatDoor.Storey
namespace Go.Proofs.YtkiabladmgagdabGreatDoor.Storey
open Go.ChangeShapes Go.WideShapes Go.ChangeAt Go.RowKit Go.ChangeMaps Go.Maps
open Wirey (Blk Row str str_size str_list str_cat Kp enc enc_len txt RS must_ok)
open Opy (num_off takeReply_c)
theorem lay_snoc {x : Ses} : ∀ {l : List Ses}, Up (l ++ [x]) → lay x l = l ++ [x]
 | [], _ => rfl
 | y :: l, h => by
  obtain ⟨h1, h2⟩ := List.pairwise_cons.1 h
  rw [lay, if_pos (h1 x (by simp)), lay_snoc h2]
  rfl
theorem lay_take {l : List Ses} {j : Nat} {x : Ses} (hu : Up l) (hx : l[j]? = some x) : lay x (l.take j) = l.take (j + 1) := by
 have e : l.take (j + 1) = l.take j ++ [x] := by rw [List.take_add_one, hx]; rfl
 rw [e]
 exact lay_snoc (e ▸ hu.sublist (List.take_sublist _ _))
def lastId (l : List Ses) : Nat := match l.getLast? with
 | some x => x.id
 | none => 0
theorem lastId_take {l : List Ses} {j : Nat} {x : Ses} (hx : l[j]? = some x) : lastId (l.take (j + 1)) = x.id := by
 unfold lastId
 rw [List.take_add_one, hx]
 simp
theorem last_id {l : List Ses} {j : Nat} {x : Ses} (hu : Up l) (hx : l[j]? = some x) (hj : 0 < j) : lastId (l.take j) < x.id := by
 obtain ⟨k, rfl⟩ : ∃ k, j = k + 1 := ⟨j - 1, by omega⟩
 have hl : k + 1 < l.length := (List.getElem?_eq_some_iff.1 hx).1
 obtain ⟨y, hy⟩ : ∃ y, l[k]? = some y := ⟨_, List.getElem?_eq_getElem (by omega)⟩
 rw [lastId_take hy]
 have := List.pairwise_iff_getElem.1 hu k (k + 1) (by omega) hl (by omega)
 obtain ⟨h1, e1⟩ := List.getElem?_eq_some_iff.1 hy
 obtain ⟨h2, e2⟩ := List.getElem?_eq_some_iff.1 hx
 rw [e1, e2] at this
 exact this
theorem bodyS_drop {l : List Ses} {j : Nat} {x : Ses} (h : l[j]? = some x) : bodyS (l.drop j) = oneS x ++ bodyS (l.drop (j + 1)) := by
 obtain ⟨hj, e⟩ := List.getElem?_eq_some_iff.1 h
 rw [List.drop_eq_getElem_cons hj, e]
 rfl
set_option maxHeartbeats 4000000 in
set_option maxRecDepth 100000 in
theorem takeSes_c {R O : Nat} {l : List Ses} (h12 : l.length ≤ 12) (hu : Up l) (hok : ∀ x ∈ l, x.Ok) (w : World) (h : RS w R O (allS l)) :
  Calls Tryz.prog 43 #[.pointer (some ⟨R, 0, none⟩)] w fun e w' => ∃ S D, e = .returned (.map (some S)) ∧ SesAt w' S l D ∧ w.heap.size ≤ S ∧ RS w' R O [] ∧ Kp (fun k => k = R ∨ k = O) w w' := by
 have hRw := h.rd.lt
 have hOw := h.of.lt
 have hbl := bodyS_len hok
 have hen := enc_len (n := l.length) (by omega)
 have hS0 := SesAt.new w
 have hb0 := (Below.refl _ w).alloc (Nat.le_refl _) (.map #[] 0)
 have h1 : RS (w.alloc (.map #[] 0)) R O (enc l.length ++ bodyS l) := h.below hb0
 have hn : Calls Tryz.prog 37 #[.pointer (some ⟨R, 0, none⟩), .int .u64 64] (w.alloc (.map #[] 0)) fun e w' => e = .returned (.int .u64 l.length) ∧ RS w' R O (bodyS l) ∧ Kp (fun k => k = R ∨ k = O) (w.alloc (.map #[] 0)) w' := num_off 64 (by omega) (by omega) (by simp only [List.length_append]; omega) _ h1
 clear h h1
 have hmm := @run_makeMap Tryz.prog
 go_enter Tryz.func43, Tryz.ntmps43
 go_upto_region 2 with (fail)
 generalize w.alloc (.map #[] 0) = w1 at *
 generalize hq : w.heap.size = S at hS0 ⊢
 have hSw : w.heap.size ≤ S := by omega
 have hSR : S ≠ R ∧ S ≠ O := by omega
 clear hq
 go_wp2_with fail
 refine hn.mono ?_
 rintro e w2 ⟨rfl, hr2, hk2⟩
 have hS2 : ∃ D, SesAt w2 S (l.take 0) D := ⟨_, by rw [List.take_zero]; exact hS0.stay (hk2.block S hS0.mp.lt (by omega))⟩
 have hk3 : Kp (fun k => k = R ∨ k = O) w w2 := (Kp.of_below hb0).trans hk2
 have hr3 : RS w2 R O (bodyS (l.drop 0)) := by rw [List.drop_zero]; exact hr2
 clear hn hr2 hk2 hS0 hb0
 go_wp2_with fail
 go_loopw [4, 11] (fun bef i wr => ∃ j : Nat, j ≤ l.length ∧ i = .int .u64 j ∧ bef = .int .u64 (lastId (l.take j) : Int) ∧ (∃ D, SesAt wr S (l.take j) D) ∧ RS wr R O (bodyS (l.drop j)) ∧ Kp (fun k => k = R ∨ k = O) w wr) (fun _ i _ => l.length - (intOf i).toNat)
 case atStart => exact ⟨0, by omega, rfl, rfl, hS2, hr3, hk3⟩
 case round =>
  clear hS2 hr3 hk3
  obtain ⟨j, hj, rfl, rfl, ⟨D, hS⟩, hr, hk⟩ := hrel
  by_cases hjl : j < l.length
  ·obtain ⟨x, hx⟩ : ∃ x, l[j]? = some x := ⟨_, List.getElem?_eq_getElem hjl⟩
   have hxo := hok x (List.mem_of_getElem? hx)
   have hlt : (j : Int) < (l.length : Int) := by omega
   have hbd := bodyS_drop hx
   have hbl2 := bodyS_len (l := l.drop (j + 1)) fun y hy => hok y (List.mem_of_mem_drop hy)
   rw [List.length_drop] at hbl2
   have hone := oneS_len hxo
   have hrl := rep_len hxo.rep
   have le1 := enc_len hxo.id
   have le2 := enc_len hxo.num
   have hrn : RS wr R O (enc x.id ++ (enc x.num ++ (Opy.replyB x.rep.e x.rep.val x.rep.ver ++ bodyS (l.drop (j + 1))))) := by
    rw [hbd] at hr
    unfold oneS at hr
    simpa only [List.append_assoc] using hr
   have n1 : Calls Tryz.prog 37 #[.pointer (some ⟨R, 0, none⟩), .int .u64 18446744073709551615] wr fun e w' => e = .returned (.int .u64 x.id) ∧ RS w' R O (enc x.num ++ (Opy.replyB x.rep.e x.rep.val x.rep.ver ++ bodyS (l.drop (j + 1)))) ∧ Kp (fun k => k = R ∨ k = O) wr w' := num_off 18446744073709551615 (by have := hxo.id; omega) (by omega) (by simp only [List.length_append]; omega) _ hrn
   have n2 : ∀ W, RS W R O (enc x.num ++ (Opy.replyB x.rep.e x.rep.val x.rep.ver ++ bodyS (l.drop (j + 1)))) → Calls Tryz.prog 37 #[.pointer (some ⟨R, 0, none⟩), .int .u64 18446744073709551615] W fun e w' => e = .returned (.int .u64 x.num) ∧ RS w' R O (Opy.replyB x.rep.e x.rep.val x.rep.ver ++ bodyS (l.drop (j + 1))) ∧ Kp (fun k => k = R ∨ k = O) W w' := fun W hW => num_off 18446744073709551615 (by have := hxo.num; omega) (by omega) (by simp only [List.length_append]; omega) _ hW
   have n3 := fun (W : World) (hW : RS W R O (Opy.replyB x.rep.e x.rep.val x.rep.ver ++ bodyS (l.drop (j + 1)))) => takeReply_c hxo.rep.e hxo.rep.val hxo.rep.ver (bodyS (l.drop (j + 1))) (by omega) W hW
   have htk := lay_take hu hx
   have hlast := lastId_take hx
   have hbef := fun h0 => last_id hu hx h0
   have hul : Up (l.take j) := hu.sublist (List.take_sublist _ _)
   have htl : (l.take j).length < 1000000 := by rw [List.length_take]; omega
   generalize lastId (l.take j) = bf at *
   have HN2 := Lib.hid n2
   have HN3 := Lib.hid n3
   have HB := Lib.hid hbef
   clear hr hbd hbl2 hone hrl le1 le2 hrn n2 n3 hbef
   go_wp2_with fail
   refine n1.mono ?_
   rintro e w4 ⟨rfl, hr4, hk4⟩
   have hS4 := hS.stay (hk4.block S hS.mp.lt (by omega))
   have hkk := hk.trans hk4
   clear n1 hk4 hS hk
   by_cases h0 : j = 0
   ·subst h0
    go_wp2_with fail
    refine (must_ok _).mono ?_
    rintro e w' ⟨rfl, rfl⟩
    go_wp2_with fail
    refine (HN2.out _ hr4).mono ?_
    rintro e w5 ⟨rfl, hr5, hk5⟩
    have hS5 := hS4.stay (hk5.block S hS4.mp.lt (by omega))
    have hkk5 := hkk.trans hk5
    clear hr4 hk5 hS4 hkk
    go_wp2_with fail
    refine (HN3.out _ hr5).mono ?_
    rintro e w6 ⟨rfl, hr6, hk6⟩
    have hS6 := hS5.stay (hk6.block S hS5.mp.lt (by omega))
    have hkk6 := hkk5.trans hk6
    obtain ⟨w7, D', hrun, hD', hgr, -⟩ := hS6.put hul hxo htl
    rw [htk] at hD'
    have hkS : Kp (fun k => k = S) w6 w7 := ⟨hgr.os, hgr.tape, hgr.output, hgr.size, fun q hq hn => hgr.block q hq (fun e => hn (Option.some.inj e))⟩
    have hr7 : RS w7 R O (bodyS (l.drop (0 + 1))) := ⟨hkS.blk hr6.rd (by omega), hkS.blk hr6.of (by omega)⟩
    have hk7 : Kp (fun k => k = R ∨ k = O) w w7 := ⟨hkS.os.trans hkk6.os, hkS.tape.trans hkk6.tape, hkS.output.trans hkk6.output, Nat.le_trans hkk6.size hkS.size, fun k hk hn => (hkS.block k (Nat.lt_of_lt_of_le hk hkk6.size) (by omega)).trans (hkk6.block k hk hn)⟩
    have HL := Lib.hid hlast
    clear hr5 hk6 hS5 hS6 hkk5 hkk6 hgr hkS hr6 hlast htk
    go_wp2_with fail
    go_roundw
    case rel => exact ⟨0 + 1, by omega, rfl, by rw [HL.out], ⟨D', hD'⟩, hr7, hk7⟩
    case measure => simp [intOf]; omega
   ·have hb := HB.out (by omega)
    have e0 : ((j : Int) == 0) = false := by rw [beq_eq_false_iff_ne]; omega
    have e1 : decide ((bf : Int) < (x.id : Int)) = true := decide_eq_true (by omega)
    have e2 : decide (bf < x.id) = true := decide_eq_true hb
    clear hb
    go_wp2_with fail
    refine (must_ok _).mono ?_
    rintro e w' ⟨rfl, rfl⟩
    go_wp2_with fail
    refine (HN2.out _ hr4).mono ?_
    rintro e w5 ⟨rfl, hr5, hk5⟩
    have hS5 := hS4.stay (hk5.block S hS4.mp.lt (by omega))
    have hkk5 := hkk.trans hk5
    clear hr4 hk5 hS4 hkk
    go_wp2_with fail
    refine (HN3.out _ hr5).mono ?_
    rintro e w6 ⟨rfl, hr6, hk6⟩
    have hS6 := hS5.stay (hk6.block S hS5.mp.lt (by omega))
    have hkk6 := hkk5.trans hk6
    obtain ⟨w7, D', hrun, hD', hgr, -⟩ := hS6.put hul hxo htl
    rw [htk] at hD'
    have hkS : Kp (fun k => k = S) w6 w7 := ⟨hgr.os, hgr.tape, hgr.output, hgr.size, fun q hq hn => hgr.block q hq (fun e => hn (Option.some.inj e))⟩
    have hr7 : RS w7 R O (bodyS (l.drop (j + 1))) := ⟨hkS.blk hr6.rd (by omega), hkS.blk hr6.of (by omega)⟩
    have hk7 : Kp (fun k => k = R ∨ k = O) w w7 := ⟨hkS.os.trans hkk6.os, hkS.tape.trans hkk6.tape, hkS.output.trans hkk6.output, Nat.le_trans hkk6.size hkS.size, fun k hk hn => (hkS.block k (Nat.lt_of_lt_of_le hk hkk6.size) (by omega)).trans (hkk6.block k hk hn)⟩
    have HL := Lib.hid hlast
    clear hr5 hk6 hS5 hS6 hkk5 hkk6 hgr hkS hr6 hlast htk
    go_wp2_with fail
    go_roundw
    case rel => exact ⟨j + 1, by omega, rfl, by rw [HL.out], ⟨D', hD'⟩, hr7, hk7⟩
    case measure => simp [intOf]; omega
  ·obtain rfl : j = l.length := by omega
   have hlt : ¬ ((l.length : Int) < (l.length : Int)) := by omega
   have e2 : l.take l.length = l := List.take_of_length_le (Nat.le_refl _)
   have e3 : bodyS (l.drop l.length) = [] := by rw [List.drop_of_length_le (Nat.le_refl _)]; rfl
   rw [e2] at hS
   rw [e3] at hr
   clear e2 e3
   go_wp2_with fail
   go_ret
   exact ⟨S, rfl, ⟨D, hS⟩, hSw, hr, hk⟩
end Go.Proofs.YtkiabladmgagdabGreatDoor.Storey
