/- The program's cache lays an entry: what goes for it goes. The only condition: the cache may be, and the key and value are as an operation's may be. -/
import Derived.Test.YtkiabladmgagdabGreatDoorStoreLocAll
import Derived.Test.YtkiabladmgagdabGreatDoorTabMoveAll
import Derived.Test.YtkiabladmgagdabGreatDoorSq
namespace Go.Proofs.YtkiabladmgagdabGreatDoor.Storey
open Go.ChangeShapes Go.WideShapes Go.ChangeAt Go.RowKit
open Wirey (Blk Row str str_size str_list str_cat Kp)
open Taby (En TabAt Tbl tp find ins drop size ended St)
open Policyy (Pv HeldP StepP Tell)
open Ringy (Key)
open Regy

section
variable {w0 w w' w'' : World} {B b T M C S : Nat} {H H' : Nat → Prop} {s t : Sv} {k : Key} {v : Value} {l : List Key} {o : Opn} {x : Rcd}
set_option maxHeartbeats 4000000 in
set_option maxRecDepth 100000 in
theorem put_s (hB : s.Base) (hk : o.key.length ≤ 64) (hk1 : 0 < o.key.length) (hv : o.val.length ≤ 4096) (ht : o.ttl ≤ 1073741824) (h : At w0 w b T M C S H s) :
  Calls Tryz.prog 91 #[tp b, .agg o.cs] w fun e w' => e = .returned (.agg (s.put o).2.cs) ∧ ∃ H', At w0 w' b T M C S H' (s.put o).1 ∧ Stp b T M S w H w' H' := by
 have hsz := str_size
 have hb2 := hB.b2
 have h1 := (h.alloc (.cells o.cs 36)).alloc (.cells rep0 45)
 have hq1 : Loc w.heap.size 36 o.cs b T M S H ((w.alloc (.cells o.cs 36)).alloc (.cells rep0 45)) := (Loc.new h _ _).alloc _
 have hr1 : Loc (w.heap.size + 1) 45 rep0 b T M S H ((w.alloc (.cells o.cs 36)).alloc (.cells rep0 45)) := by
  have := Loc.new (h.alloc (.cells o.cs 36)) 45 rep0
  rwa [show (w.alloc (.cells o.cs 36)).heap.size = w.heap.size + 1 by simp] at this
 have s1 : Stp b T M S w H ((w.alloc (.cells o.cs 36)).alloc (.cells rep0 45)) H := .of_below (((Below.refl _ w).alloc (Nat.le_refl _) _).alloc (by simp) _) (Nat.le_refl _)
 go_enter Tryz.func91, Tryz.ntmps91
 go_upto_region 1 with (fail)
 generalize (w.alloc (.cells o.cs 36)).alloc (.cells rep0 45) = w1 at *
 have hrq : w.heap.size ≤ w.heap.size + 1 := by omega
 have hqr : w.heap.size ≠ w.heap.size + 1 := by omega
 generalize hr : w.heap.size + 1 = r at *
 generalize hq : w.heap.size = q at hq1 hqr ⊢
 have HB := Lib.hid hB
 have x1 : w1.cell? ⟨q, 1, none⟩ = some (.string (str o.key)) := hq1.c rfl
 have x2 : w1.cell? ⟨q, 2, none⟩ = some (.string (str o.val)) := hq1.c rfl
 obtain ⟨-, -, y2, -, -, -, -, -, -, -, -, -⟩ := h1.cs
 refine region_only 13 #[false, false, false, false, false, false, false, false, false, false, false, false, false] (S := fun W => W.cell? ⟨q, 1, none⟩ = some (.string (str o.key)) ∧ W.cell? ⟨q, 2, none⟩ = some (.string (str o.val)) ∧ W.cell? ⟨b, 2, none⟩ = some (.int .i64 s.bytes)) rfl rfl (by kernel_rfl) ⟨x1, x2, y2⟩ (fun hSw => ?_)
 refine tkA 0 7 12 ?_ rfl rfl ?_ hSw ?_
 rotate_left
 ·intro wx hSx; (try dsimp only at hSx); go_split_ands; go_simp; (try with_reducible rfl)
 simp only [sA, List.set_cons_zero, sC]
 refine tkA 1 8 11 ?_ rfl rfl ?_ hSw ?_
 rotate_left
 ·intro wx hSx; (try dsimp only at hSx); go_split_ands; go_simp; (try with_reducible rfl)
 simp only [sA, List.set_cons_zero, sC]
 refine tkA 2 9 10 ?_ rfl rfl ?_ hSw ?_
 rotate_left
 ·intro wx hSx; (try dsimp only at hSx); go_split_ands; go_simp; (try with_reducible rfl)
 simp only [sA, List.set_cons_zero, sC]
 refine tkA 3 10 9 ?_ rfl rfl ?_ hSw ?_
 rotate_left
 ·intro wx hSx; (try dsimp only at hSx); go_split_ands; go_simp; (try with_reducible rfl)
 simp only [sA, List.set_cons_zero, sC]
 refine tkA 4 11 8 ?_ rfl rfl ?_ hSw ?_
 rotate_left
 ·intro wx hSx; (try dsimp only at hSx); go_split_ands; go_simp; (try with_reducible rfl)
 simp only [sA, List.set_cons_zero, sC]
 refine tkA 5 12 7 ?_ rfl rfl ?_ hSw ?_
 rotate_left
 ·intro wx hSx; (try dsimp only at hSx); go_split_ands; go_simp; (try with_reducible rfl)
 simp only [sA, List.set_cons_zero, sC]
 refine tkA 6 13 6 ?_ rfl rfl ?_ hSw ?_
 rotate_left
 ·intro wx hSx; (try dsimp only at hSx); go_split_ands; go_simp; (try with_reducible rfl)
 simp only [sA, List.set_cons_zero, sC]
 refine tkA 7 14 5 ?_ rfl rfl ?_ hSw ?_
 rotate_left
 ·intro wx hSx; (try dsimp only at hSx); go_split_ands; go_simp; (try with_reducible rfl)
 simp only [sA, List.set_cons_zero, sC]
 refine tkA 8 15 4 ?_ rfl rfl ?_ hSw ?_
 rotate_left
 ·intro wx hSx; (try dsimp only at hSx); go_split_ands; go_simp; (try with_reducible rfl)
 simp only [sA, List.set_cons_zero, sC]
 refine tkA 9 16 3 ?_ rfl rfl ?_ hSw ?_
 rotate_left
 ·intro wx hSx; (try dsimp only at hSx); go_split_ands; go_simp; (try with_reducible rfl)
 simp only [sA, List.set_cons_zero, sC]
 refine tkA 10 17 2 ?_ rfl rfl ?_ hSw ?_
 rotate_left
 ·intro wx hSx; (try dsimp only at hSx); go_split_ands; go_simp; (try with_reducible rfl)
 simp only [sA, List.set_cons_zero, sC]
 refine tkA 11 18 1 ?_ rfl rfl ?_ hSw ?_
 rotate_left
 ·intro wx hSx; (try dsimp only at hSx); go_split_ands; go_simp; (try with_reducible rfl)
 simp only [sA, List.set_cons_zero, sC]
 refine tkA 12 19 0 ?_ rfl rfl ?_ hSw ?_
 rotate_left
 ·intro wx hSx; (try dsimp only at hSx); go_split_ands; go_simp; (try with_reducible rfl)
 simp only [sA, List.set_cons_zero, sC]
 refine wpAnyH_done (by kernel_rfl) ⟨rfl, ?_⟩ 0
 clear x1 x2 y2 hSw
 replace h1 := h1.drew
 replace hq1 := hq1.drew
 replace hr1 := hr1.drew
 replace s1 := s1.later (D := w1.heap.size) (w'' := w1.drew) ⟨rfl, rfl, rfl, Nat.le_refl _, fun _ _ => rfl⟩ (Nat.le_refl _)
 generalize w1.drew = w2 at *
 have hw : IntKind.i64.wrap ((o.key.length : Int) + (o.val.length : Int)) = (o.key.length : Int) + (o.val.length : Int) := by rw [Taby.wrap_is]; unfold wrap64; omega
 rw [hw]
 clear hw
 by_cases a : s.bytes < o.key.length + o.val.length
 ·have d1 : decide ((s.bytes : Int) < (o.key.length : Int) + (o.val.length : Int)) = true := decide_eq_true (by omega)
  have hP : s.put o = (s, .of 120) := if_pos a
  have HP := Lib.hid hP
  clear hP
  have z0 := hr1.f 0
  have z1 := hr1.f 1
  have z2 := hr1.f 2
  have z3 : w2.cell? ⟨r, 0, none⟩ = some (.int .i64 0) := hr1.c rfl
  have z4 : w2.cell? ⟨r, 1, none⟩ = some (.string ⟨#[]⟩) := hr1.c rfl
  have z5 : w2.cell? ⟨r, 2, none⟩ = some (.int .u64 0) := hr1.c rfl
  go_wp2_with fail
  obtain ⟨zB, zA, zS⟩ := rep3 h h1 s1 hr1 (by omega) (.int .i64 120) (.string ⟨#[]⟩) (.int .u64 0)
  exact bodyPost_ret (results_cell_row rfl _ _ r 45 _ _ _ rfl zB Tryz.underlying45 rfl (by kernel_rfl)) rfl ⟨by rw [HP.out]; rfl, H, by rw [HP.out]; exact zA, zS⟩
 have d1 : decide ((s.bytes : Int) < (o.key.length : Int) + (o.val.length : Int)) = false := decide_eq_false (by omega)
 have hP : s.put o = (Sv.fit (s.come o).m.length (s.come o), ⟨0, [], one s.ver 18446744073709551615⟩) := if_neg a
 have HP := Lib.hid hP
 have a2 : ¬ ((s.bytes : Int) < (o.key.length : Int) + (o.val.length : Int)) := by omega
 clear hP a
 obtain ⟨-, -, -, -, -, -, c6, -, -, -, -, -⟩ := h1.cs
 have f6 := h1.box.free 6
 have hver := hB.ver
 have hone := fun W => oneU_c (n := s.ver) (by omega) W
 have hov := one_le (n := s.ver) (most := 18446744073709551615) (by omega)
 have hnow := hB.now
 generalize hV : one s.ver 18446744073709551615 = V at *
 go_wp2_with fail
 refine (hone _).mono ?_
 rintro e w3 ⟨rfl, rfl⟩
 obtain ⟨h3, s3⟩ := h1.cell (s' := { s with ver := V }) 6 (.int .u64 V) rfl rfl rfl rfl
 have hq3 := hq1.step s3
 have hr3 := hr1.step s3
 replace s3 := s1.trans s3
 clear h1 hq1 hr1 s1 hone
 go_upto_region 4 with (fail)
 generalize w2.setCell ⟨b, 6, none⟩ (.int .u64 V) = w3 at *
 clear f6 c6
 have hen : (s.entry o).Ok := hB.entry hk hv
 have hlen := hB.len.2
 have hn2 := hB.n2
 have hm : ({ s with ver := V } : Sv).m.length ≤ 100000 := by show s.m.length ≤ 100000; omega
 have hee : s.entry o = ⟨o.key, o.val, V, endOf s.now o.ttl⟩ := by unfold Sv.entry; rw [hV]
 rw [hee] at hen
 have mk : ∀ (W : World) (t : Sv), At w0 W b T M C S H t → t.ver = V → t.now = s.now → Loc q 36 o.cs b T M S H W → W.cell? ⟨b, 9, none⟩ = some (tp T) ∧ W.cell? ⟨b, 6, none⟩ = some (.int .u64 V) ∧ W.cell? ⟨b, 5, none⟩ = some (.int .u64 s.now) ∧ W.cell? ⟨q, 1, none⟩ = some (.string (str o.key)) ∧ W.cell? ⟨q, 2, none⟩ = some (.string (str o.val)) ∧ W.cell? ⟨q, 3, none⟩ = some (.int .u64 o.ttl) := fun W t h e1 e2 hq => ⟨h.c rfl, by rw [← e1]; exact h.c rfl, by rw [← e2]; exact h.c rfl, hq.c rfl, hq.c rfl, hq.c rfl⟩
 replace h3 := h3.drew
 replace hq3 := hq3.drew
 replace hr3 := hr3.drew
 replace s3 := s3.later (D := w3.heap.size) (w'' := w3.drew) ⟨rfl, rfl, rfl, Nat.le_refl _, fun _ _ => rfl⟩ (Nat.le_refl _)
 have hend := fun W => endOf_c (now := s.now) (ttl := o.ttl) (by omega) ht W
 have HE := Lib.hid hee
 have HV := Lib.hid hV
 clear hee hV
 refine region_only 21 #[false, false, false, false, false, false, false, false, false, false, false, false, false, false, false, false, false, false, false, false, false] (S := fun W => W.cell? ⟨b, 9, none⟩ = some (tp T) ∧ W.cell? ⟨b, 6, none⟩ = some (.int .u64 V) ∧ W.cell? ⟨b, 5, none⟩ = some (.int .u64 s.now) ∧ W.cell? ⟨q, 1, none⟩ = some (.string (str o.key)) ∧ W.cell? ⟨q, 2, none⟩ = some (.string (str o.val)) ∧ W.cell? ⟨q, 3, none⟩ = some (.int .u64 o.ttl)) rfl rfl (by kernel_rfl) (mk _ _ h3 rfl rfl hq3) (fun hSw => ?_)
 generalize w3.drew = w4 at *
 refine tkA 0 29 20 ?_ rfl rfl ?_ hSw ?_
 rotate_left
 ·intro wx hSx; (try dsimp only at hSx); go_split_ands; go_simp; (try with_reducible rfl)
 simp only [sA, List.set_cons_zero, sC]
 refine tkA 1 30 19 ?_ rfl rfl ?_ hSw ?_
 rotate_left
 ·intro wx hSx; (try dsimp only at hSx); go_split_ands; go_simp; (try with_reducible rfl)
 simp only [sA, List.set_cons_zero, sC]
 refine tkA 2 31 18 ?_ rfl rfl ?_ hSw ?_
 rotate_left
 ·intro wx hSx; (try dsimp only at hSx); go_split_ands; go_simp; (try with_reducible rfl)
 simp only [sA, List.set_cons_zero, sC]
 refine tkA 3 32 17 ?_ rfl rfl ?_ hSw ?_
 rotate_left
 ·intro wx hSx; (try dsimp only at hSx); go_split_ands; go_simp; (try with_reducible rfl)
 simp only [sA, List.set_cons_zero, sC]
 refine tkA 4 33 16 ?_ rfl rfl ?_ hSw ?_
 rotate_left
 ·intro wx hSx; (try dsimp only at hSx); go_split_ands; go_simp; (try with_reducible rfl)
 simp only [sA, List.set_cons_zero, sC]
 refine tkA 5 34 15 ?_ rfl rfl ?_ hSw ?_
 rotate_left
 ·intro wx hSx; (try dsimp only at hSx); go_split_ands; go_simp; (try with_reducible rfl)
 simp only [sA, List.set_cons_zero, sC]
 refine tkA 6 35 14 ?_ rfl rfl ?_ hSw ?_
 rotate_left
 ·intro wx hSx; (try dsimp only at hSx); go_split_ands; go_simp; (try with_reducible rfl)
 simp only [sA, List.set_cons_zero, sC]
 refine tkA 7 36 13 ?_ rfl rfl ?_ hSw ?_
 rotate_left
 ·intro wx hSx; (try dsimp only at hSx); go_split_ands; go_simp; (try with_reducible rfl)
 simp only [sA, List.set_cons_zero, sC]
 refine tkA 8 37 12 ?_ rfl rfl ?_ hSw ?_
 rotate_left
 ·intro wx hSx; (try dsimp only at hSx); go_split_ands; go_simp; (try with_reducible rfl)
 simp only [sA, List.set_cons_zero, sC]
 refine tkA 9 38 11 ?_ rfl rfl ?_ hSw ?_
 rotate_left
 ·intro wx hSx; (try dsimp only at hSx); go_split_ands; go_simp; (try with_reducible rfl)
 simp only [sA, List.set_cons_zero, sC]
 refine tkA 10 39 10 ?_ rfl rfl ?_ hSw ?_
 rotate_left
 ·intro wx hSx; (try dsimp only at hSx); go_split_ands; go_simp; (try with_reducible rfl)
 simp only [sA, List.set_cons_zero, sC]
 refine tkA 11 40 9 ?_ rfl rfl ?_ hSw ?_
 rotate_left
 ·intro wx hSx; (try dsimp only at hSx); go_split_ands; go_simp; (try with_reducible rfl)
 simp only [sA, List.set_cons_zero, sC]
 refine tkA 12 41 8 ?_ rfl rfl ?_ hSw ?_
 rotate_left
 ·intro wx hSx; (try dsimp only at hSx); go_split_ands; go_simp; (try with_reducible rfl)
 simp only [sA, List.set_cons_zero, sC]
 refine tkA 13 42 7 ?_ rfl rfl ?_ hSw ?_
 rotate_left
 ·intro wx hSx; (try dsimp only at hSx); go_split_ands; go_simp; (try with_reducible rfl)
 simp only [sA, List.set_cons_zero, sC]
 refine tkA 14 43 6 ?_ rfl rfl ?_ hSw ?_
 rotate_left
 ·intro wx hSx; (try dsimp only at hSx); go_split_ands; go_simp; (try with_reducible rfl)
 simp only [sA, List.set_cons_zero, sC]
 refine tkA 15 44 5 ?_ rfl rfl ?_ hSw ?_
 rotate_left
 ·intro wx hSx; (try dsimp only at hSx); go_split_ands; go_simp; (try with_reducible rfl)
 simp only [sA, List.set_cons_zero, sC]
 refine tkA 16 45 4 ?_ rfl rfl ?_ hSw ?_
 rotate_left
 ·intro wx hSx; (try dsimp only at hSx); go_split_ands; go_simp; (try with_reducible rfl)
 simp only [sA, List.set_cons_zero, sC]
 refine tkA 17 46 3 ?_ rfl rfl ?_ hSw ?_
 rotate_left
 ·intro wx hSx; (try dsimp only at hSx); go_split_ands; go_simp; (try with_reducible rfl)
 simp only [sA, List.set_cons_zero, sC]
 refine rdA 2 18 rfl fun K hK => ?_
 go_simp
 refine Calls.mono (hend _) ?_
 rintro e wv ⟨rfl, rfl⟩
 refine hK.out _ _ hSw (fun hSw => ?_)
 clear hK K
 simp only [sA, List.set_cons_zero, sC]
 refine tkA 19 48 1 ?_ rfl rfl ?_ hSw ?_
 rotate_left
 ·intro wx hSx; (try dsimp only at hSx); go_split_ands; go_simp; (try with_reducible rfl)
 simp only [sA, List.set_cons_zero, sC]
 refine rdA 0 20 rfl fun K hK => ?_
 go_simp
 refine Calls.mono (Taby.put_t hen hm _ h3.tab) ?_
 rintro e wv ⟨rfl, hta, htk⟩
 obtain ⟨h4, s4⟩ := h3.tabs hta htk
 have hq4 := hq3.step s4
 have hr4 := hr3.step s4
 replace s4 := s3.trans s4
 refine hK.out _ _ (mk _ _ h4 rfl rfl hq4) (fun hSw => ?_)
 clear hK K
 simp only [sA, List.set_cons_zero, sC]
 refine wpAnyH_done (by kernel_rfl) ⟨rfl, ?_⟩ 0
 clear mk hSw hend h3 hq3 hr3 s3 hta htk
 have hm5 : (s.laid o).m.length ≤ 100000 := by
  have := Taby.ins_len (x := s.entry o) (l := s.m)
  show (ins (s.entry o) s.m).length ≤ 100000
  omega
 have hlaid : ∀ (p : Pv), ({ s with ver := V, m := ins ⟨o.key, o.val, V, endOf s.now o.ttl⟩ s.m, p := s.p.insert o.key } : Sv) = s.laid o := fun _ => by rw [← HE.out, ← HV.out]; rfl
 have HL := Lib.hid hlaid
 have hK64 : ∀ x ∈ s.p.insertK o.key, x.length ≤ 64 := fun x hx => by
  have h1 := hB.fit.insertK_has hk hx
  rw [hB.has] at h1
  cases e : find x s.m with
  | none => rw [e] at h1; cases h1
  | some y => have h3 := Taby.find_mem e; rw [← h3.2]; exact (hB.eok y h3.1).key
 have hgl := (hB.fit.insert hk).2.2
 have hcome := hB.come hk hk1 hv
 clear hlaid hB
 have hkm : o.key.length ≤ maxLen := by unfold maxLen; omega
 go_wp2_with fail
 generalize hmm : ins ⟨o.key, o.val, V, endOf s.now o.ttl⟩ s.m = mm at *
 have h5 := h4.drew
 have hq5 := hq4.drew
 have hr5 := hr4.drew
 have s5 := s4.later (D := wv.heap.size) (w'' := wv.drew) ⟨rfl, rfl, rfl, Nat.le_refl _, fun _ _ => rfl⟩ (Nat.le_refl _)
 clear h4 hq4 hr4 s4
 have mk : ∀ (W : World) (H' : Nat → Prop) (t : Sv), At w0 W b T M C S H' t → Loc q 36 o.cs b T M S H' W → W.cell? ⟨b, 10, none⟩ = some (tp C) ∧ W.cell? ⟨q, 1, none⟩ = some (.string (str o.key)) := fun W _ t h hq => ⟨h.c rfl, hq.c rfl⟩
 refine region_only 9 #[false, false, false, false, false, false, false, false, false] (S := fun W => W.cell? ⟨b, 10, none⟩ = some (tp C) ∧ W.cell? ⟨q, 1, none⟩ = some (.string (str o.key))) rfl rfl (by kernel_rfl) (mk _ _ _ h5 hq5) (fun hSw => ?_)
 generalize wv.drew = w5 at *
 refine tkA 0 50 8 ?_ rfl rfl ?_ hSw ?_
 rotate_left
 ·intro wx hSx; (try dsimp only at hSx); go_split_ands; go_simp; (try with_reducible rfl)
 simp only [sA, List.set_cons_zero, sC]
 refine tkA 1 51 7 ?_ rfl rfl ?_ hSw ?_
 rotate_left
 ·intro wx hSx; (try dsimp only at hSx); go_split_ands; go_simp; (try with_reducible rfl)
 simp only [sA, List.set_cons_zero, sC]
 refine tkA 2 52 6 ?_ rfl rfl ?_ hSw ?_
 rotate_left
 ·intro wx hSx; (try dsimp only at hSx); go_split_ands; go_simp; (try with_reducible rfl)
 simp only [sA, List.set_cons_zero, sC]
 refine tkA 3 53 5 ?_ rfl rfl ?_ hSw ?_
 rotate_left
 ·intro wx hSx; (try dsimp only at hSx); go_split_ands; go_simp; (try with_reducible rfl)
 simp only [sA, List.set_cons_zero, sC]
 refine tkA 4 54 4 ?_ rfl rfl ?_ hSw ?_
 rotate_left
 ·intro wx hSx; (try dsimp only at hSx); go_split_ands; go_simp; (try with_reducible rfl)
 simp only [sA, List.set_cons_zero, sC]
 refine tkA 5 55 3 ?_ rfl rfl ?_ hSw ?_
 rotate_left
 ·intro wx hSx; (try dsimp only at hSx); go_split_ands; go_simp; (try with_reducible rfl)
 simp only [sA, List.set_cons_zero, sC]
 refine tkA 8 58 2 ?_ rfl rfl ?_ hSw ?_
 rotate_left
 ·intro wx hSx; (try dsimp only at hSx); go_split_ands; go_simp; (try with_reducible rfl)
 simp only [sA, List.set_cons_zero, sC]
 refine rdA 1 6 rfl fun K hK => ?_
 go_simp
 refine Calls.mono (Policyy.insertP_c hkm h5.pol) ?_
 rintro e w6 ⟨vk, H1, rfl, hpa, hps, hpt⟩
 obtain ⟨h6, s6⟩ := h5.pols hpa hps
 have hq6 := hq5.step s6
 have hr6 := hr5.step s6
 replace s6 := s5.trans s6
 have hky := Kys.tell h5 hpt
 obtain ⟨oa, oc, rfl⟩ := hky.st.form
 clear hpt hpa hps
 refine hK.out _ _ (mk _ _ _ h6 hq6) (fun hSw => ?_)
 clear hK K
 simp only [sA, List.set_cons_zero, sC]
 refine tkA 7 57 0 ?_ rfl rfl ?_ hSw ?_
 rotate_left
 ·intro wx hSx; (try dsimp only at hSx); go_split_ands; go_simp; (try with_reducible rfl)
 simp only [sA, List.set_cons_zero, sC]
 refine wpAnyH_done (by kernel_rfl) ⟨rfl, ?_⟩ 0
 clear mk hSw h5 hq5 hr5 s5 hkm
 generalize w5.heap.size = B at *
 have hcm : s.come o = (s.p.insertK o.key).foldl Sv.fall (s.laid o) := rfl
 have HC := Lib.hid hcm
 clear hcm
 have h6' : At w0 w6 b T M C S H1 (s.laid o) := by rw [← HL.out s.p, ← hmm] at *; exact h6
 clear h6 hq6
 generalize s.p.insertK o.key = L at *
 have hsv : (s.laid o).ver = V := HV.out
 have HSV := Lib.hid hsv
 clear hsv
 generalize hLL : s.laid o = sl at *
 clear hLL
 go_wp2_with fail
 go_loopw [58] (fun i wr => ∃ (j : Nat), j ≤ L.length ∧ i = .int .i64 j ∧ At w0 wr b T M C S H1 ((L.take j).foldl Sv.fall sl) ∧ Stp b T M S w H wr H1 ∧ Kys B b T M S H1 (.slice oa L.length oc) L wr ∧ Loc r 45 rep0 b T M S H1 wr) (fun i _ => L.length - (intOf i).toNat)
 case atStart => exact ⟨0, by omega, rfl, h6', s6, hky, hr6⟩
 case round =>
  clear h6' s6 hky hr6
  obtain ⟨j, hj, rfl, hA, hS, hK, hR⟩ := hrel
  by_cases h3 : j < L.length
  ·obtain ⟨x, hx⟩ : ∃ x, L[j]? = some x := ⟨_, List.getElem?_eq_getElem h3⟩
   have hx64 := hK64 x (List.mem_of_getElem? hx)
   have hml := Nat.le_trans (fall_len (L.take j) sl) hm5
   obtain ⟨g, rfl, hc⟩ := hK.at_ hx
   have hlt : (j : Int) < (L.length : Int) := by omega
   have hnx : (L.take (j + 1)).foldl Sv.fall sl = ((L.take j).foldl Sv.fall sl).fall x := Taby.foldl_take _ _ _ hx
   have hcall := Taby.drop_t x hx64 hml _ hA.tab
   obtain ⟨-, -, -, -, -, -, -, -, -, d9, -, -⟩ := hA.cs
   have HX := Lib.hid hx
   have HN := Lib.hid hnx
   clear hx hnx
   go_wp2_with fail
   refine hcall.mono ?_
   rintro e w7 ⟨rfl, hta, htk⟩
   obtain ⟨h7, s7⟩ := hA.tabs hta htk
   have hK3 := hK.step s7
   have hR3 := hR.step s7
   have hS3 := hS.trans s7
   have hA3 : At w0 w7 b T M C S H1 ((L.take (j + 1)).foldl Sv.fall sl) := by rw [HN.out]; exact h7
   clear hcall hA hS hK hR hc d9 hta htk h7 s7 hml
   go_wp2_with fail
   go_roundw
   case rel => exact ⟨j + 1, by omega, rfl, hA3, hS3, hK3, hR3⟩
   case measure => simp [intOf]; omega
  ·obtain rfl : j = L.length := by omega
   rw [List.take_length, ← HC.out] at hA
   have hfit := fit_s hcome.1 hA
   obtain ⟨hf1, -⟩ := hcome.1.fits _ (Nat.le_refl _)
   have hfv : (Sv.fit (s.come o).m.length (s.come o)).ver = V := by
    rw [hf1.f.2.2.2.2.2.2.1, hcome.2.2]
    exact HSV.out
   have HFV := Lib.hid hfv
   clear hfv hf1 hA hK
   go_wp2_with fail
   refine hfit.mono ?_
   rintro e w8 ⟨rfl, H2, h8, s8⟩
   have hR8 := hR.step s8
   replace s8 := hS.trans s8
   obtain ⟨-, -, -, -, -, -, c6, -, -, -, -, -⟩ := h8.cs
   rw [HFV.out] at c6
   clear hfit hR hS
   have z0 := hR8.f 0
   have z1 := hR8.f 1
   have z2 := hR8.f 2
   have z3 : w8.cell? ⟨r, 0, none⟩ = some (.int .i64 0) := hR8.c rfl
   have z4 : w8.cell? ⟨r, 1, none⟩ = some (.string ⟨#[]⟩) := hR8.c rfl
   have z5 : w8.cell? ⟨r, 2, none⟩ = some (.int .u64 0) := hR8.c rfl
   go_wp2_with fail
   (try simp only [Exit.inBlock, Exit.then])
   obtain ⟨zB, zA, zS⟩ := rep3 h h8 s8 hR8 (by omega) (.int .i64 0) (.string ⟨#[]⟩) (.int .u64 V)
   exact bodyPost_ret (results_cell_row rfl _ _ r 45 _ _ _ rfl zB Tryz.underlying45 rfl (by kernel_rfl)) rfl ⟨by rw [HP.out]; rfl, H2, by rw [HP.out]; exact zA, zS⟩
end
end Go.Proofs.YtkiabladmgagdabGreatDoor.Storey
