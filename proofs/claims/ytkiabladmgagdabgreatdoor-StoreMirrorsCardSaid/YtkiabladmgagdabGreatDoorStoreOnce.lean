/- The program's cache does what a session asks for, once. The only condition: the cache may be, and the record may be. -/
import Derived.Test.YtkiabladmgagdabGreatDoorStoreCasAll
import Derived.Test.YtkiabladmgagdabGreatDoorSq
namespace Go.Proofs.YtkiabladmgagdabGreatDoor.Storey
open Go.ChangeShapes Go.WideShapes Go.ChangeAt Go.RowKit
open Wirey (Blk Row str str_size str_list str_cat Kp)
open Taby (En TabAt Tbl tp find ins drop size ended St)
open Policyy (Pv HeldP StepP Tell)
open Ringy (Key)
open Regy
open Go.ChangeMaps Go.Maps

section
variable {w0 w w' w'' : World} {B b T M C S : Nat} {H H' : Nat → Prop} {s t : Sv} {k : Key} {v : Value} {l : List Key} {o : Opn} {x : Rcd}
abbrev Rcd.cs (x : Rcd) : Array Value := #[.int .u64 x.seq, .int .u64 x.now, .int .u64 x.ses, .int .u64 x.num, .int .i64 x.op.kind, .string (str x.op.key), .string (str x.op.val), .int .u64 x.op.ttl, .int .u64 x.op.ver]
set_option maxHeartbeats 4000000 in
set_option maxRecDepth 100000 in
theorem once_s (hO : s.Ok) (hx : x.Ok) (hc : x.op.chk = true) (h5 : x.op.kind ≠ 5) (h : At w0 w b T M C S H s) :
  Calls Tryz.prog 30 #[tp b, .agg x.cs] w fun e w' => e = .returned (.agg (s.once x).2.cs) ∧ ∃ H', At w0 w' b T M C S H' (s.once x).1 ∧ Stp b T M S w H w' H' := by
 obtain ⟨hk, hv, ht, -, -, hk1⟩ := chk_bounds hc
 replace hk1 := hk1 h5
 have hnum := hx.num
 have hses := hx.ses
 have h1 := (h.alloc (.cells x.cs 38)).alloc (.cells rep0 45)
 have hq1 : Loc w.heap.size 38 x.cs b T M S H ((w.alloc (.cells x.cs 38)).alloc (.cells rep0 45)) := (Loc.new h _ _).alloc _
 have hr1 : Loc (w.heap.size + 1) 45 rep0 b T M S H ((w.alloc (.cells x.cs 38)).alloc (.cells rep0 45)) := by
  have := Loc.new (h.alloc (.cells x.cs 38)) 45 rep0
  rwa [show (w.alloc (.cells x.cs 38)).heap.size = w.heap.size + 1 by simp] at this
 have s1 : Stp b T M S w H ((w.alloc (.cells x.cs 38)).alloc (.cells rep0 45)) H := .of_below (((Below.refl _ w).alloc (Nat.le_refl _) _).alloc (by simp) _) (Nat.le_refl _)
 go_enter Tryz.func30, Tryz.ntmps30
 go_upto_region 1 with (fail)
 generalize (w.alloc (.cells x.cs 38)).alloc (.cells rep0 45) = w1 at *
 have hrq : w.heap.size ≤ w.heap.size + 1 := by omega
 have hqr : w.heap.size ≠ w.heap.size + 1 := by omega
 generalize hr : w.heap.size + 1 = r at *
 generalize hq : w.heap.size = q at hq1 hqr ⊢
 have hF : Fr w0 w b T M C S H q 38 x.cs r 45 rep0 w1 H s := ⟨h1, s1, hq1, hr1⟩
 clear h1 s1 hq1 hr1
 have h0 := h.since.size
 have mk : ∀ W, Fr w0 w b T M C S H q 38 x.cs r 45 rep0 W H s → W.cell? ⟨b, 11, none⟩ = some (.map (some S)) ∧ W.cell? ⟨q, 2, none⟩ = some (.int .u64 x.ses) ∧ (Instr.lookup 59 (.map (some S)) (.int .u64 x.ses) true).run Tryz.prog W = .ok (.tuple #[.agg (tcs (numOf x.ses s.ss) (repOf x.ses s.ss)), .bool (seek x.ses s.ss).isSome]) W := fun W h => ⟨h.at_.c rfl, h.lq.c rfl, by obtain ⟨D, hD⟩ := h.at_.ses; exact hD.look hses⟩
 generalize hn : numOf x.ses s.ss = nn at *
 generalize hr_ : repOf x.ses s.ss = rr at *
 generalize hi : (seek x.ses s.ss).isSome = is at *
 refine region_only 13 #[false, false, false, false, false, false, false, false, false, false, false, false, false] (S := fun W => W.cell? ⟨b, 11, none⟩ = some (.map (some S)) ∧ W.cell? ⟨q, 2, none⟩ = some (.int .u64 x.ses) ∧ (Instr.lookup 59 (.map (some S)) (.int .u64 x.ses) true).run Tryz.prog W = .ok (.tuple #[.agg (tcs nn rr), .bool is]) W) rfl rfl (by kernel_rfl) (mk _ hF.drew) (fun hSw => ?_)
 replace hF := hF.drew
 generalize w1.drew = w2 at *
 refine tkA 0 9 12 ?_ rfl rfl ?_ hSw ?_
 rotate_left
 ·intro wx hSx; (try dsimp only at hSx); go_split_ands; go_simp; (try with_reducible rfl)
 simp only [sA, List.set_cons_zero, sC]
 refine tkA 1 10 11 ?_ rfl rfl ?_ hSw ?_
 rotate_left
 ·intro wx hSx; (try dsimp only at hSx); go_split_ands; go_simp; (try with_reducible rfl)
 simp only [sA, List.set_cons_zero, sC]
 refine tkA 2 11 10 ?_ rfl rfl ?_ hSw ?_
 rotate_left
 ·intro wx hSx; (try dsimp only at hSx); go_split_ands; go_simp; (try with_reducible rfl)
 simp only [sA, List.set_cons_zero, sC]
 refine tkA 3 12 9 ?_ rfl rfl ?_ hSw ?_
 rotate_left
 ·intro wx hSx; (try dsimp only at hSx); go_split_ands; go_simp; (try with_reducible rfl)
 simp only [sA, List.set_cons_zero, sC]
 refine tkA 4 13 8 ?_ rfl rfl ?_ hSw ?_
 rotate_left
 ·intro wx hSx; (try dsimp only at hSx); go_split_ands; go_simp; (try with_reducible rfl)
 simp only [sA, List.set_cons_zero, sC]
 refine tkA 5 14 7 ?_ rfl rfl ?_ hSw ?_
 rotate_left
 ·intro wx hSx; (try dsimp only at hSx); go_split_ands; go_simp; (try with_reducible rfl)
 simp only [sA, List.set_cons_zero, sC]
 refine tkA 6 15 6 ?_ rfl rfl ?_ hSw ?_
 rotate_left
 ·intro wx hSx; (try dsimp only at hSx); go_split_ands; go_simp; (try with_reducible rfl)
 simp only [sA, List.set_cons_zero, sC]
 refine tkA 7 8 5 ?_ rfl rfl ?_ hSw ?_
 rotate_left
 ·intro wx hSx; (try dsimp only at hSx); go_split_ands; go_simp; (try with_reducible rfl)
 simp only [sA, List.set_cons_zero, sC]
 refine tkA 8 16 4 ?_ rfl rfl ?_ hSw ?_
 rotate_left
 ·intro wx hSx; (try dsimp only at hSx); go_split_ands; go_simp; (try with_reducible rfl)
 simp only [sA, List.set_cons_zero, sC]
 refine tkA 9 17 3 ?_ rfl rfl ?_ hSw ?_
 rotate_left
 ·intro wx hSx; (try dsimp only at hSx); go_split_ands; go_simp; (try with_reducible rfl)
 simp only [sA, List.set_cons_zero, sC]
 refine rdA 2 10 rfl fun K hK => ?_
 go_simp
 have hF2 := hF.alloc (.cells #[.int .u64 0, .int .i64 0, .string ⟨#[]⟩, .int .u64 0] 72)
 refine hK.out _ _ (mk _ hF2) (fun hSw => ?_)
 clear hF2
 clear hK K
 simp only [sA, List.set_cons_zero, sC]
 refine rdA 1 11 rfl fun K hK => ?_
 go_simp
 have hF3 := hF.alloc (.cells (tcs nn rr) 72)
 have hp3 := Loc.new hF.at_ 72 (tcs nn rr)
 refine hK.out _ _ (mk _ hF3) (fun hSw => ?_)
 clear hK K
 simp only [sA, List.set_cons_zero, sC]
 refine tkA 12 6 0 ?_ rfl rfl ?_ hSw ?_
 rotate_left
 ·intro wx hSx; (try dsimp only at hSx); go_split_ands; go_simp; (try with_reducible rfl)
 simp only [sA, List.set_cons_zero, sC]
 refine wpAnyH_done (by kernel_rfl) ⟨rfl, ?_⟩ 0
 clear mk hSw
 generalize w2.alloc (.cells (tcs nn rr) 72) = w3 at *
 generalize w2.heap.size = p at *
 clear hF
 have v3 : w3.cell? ⟨q, 3, none⟩ = some (.int .u64 x.num) := hF3.lq.c rfl
 have v0 : w3.cell? ⟨p, 0, none⟩ = some (.int .u64 nn) := hp3.c rfl
 have v1 : w3.cell? ⟨p, 1, none⟩ = some (.int .i64 rr.e) := hp3.c rfl
 have v2 : w3.cell? ⟨p, 2, none⟩ = some (.string (str rr.val)) := hp3.c rfl
 have v4 : w3.cell? ⟨p, 3, none⟩ = some (.int .u64 rr.ver) := hp3.c rfl
 have v5 : w3.cell? ⟨b, 11, none⟩ = some (.map (some S)) := hF3.at_.c rfl
 have u0 : w3.cell? ⟨q, 4, none⟩ = some (.int .i64 x.op.kind) := hF3.lq.c rfl
 have u1 : w3.cell? ⟨q, 5, none⟩ = some (.string (str x.op.key)) := hF3.lq.c rfl
 have u2 : w3.cell? ⟨q, 6, none⟩ = some (.string (str x.op.val)) := hF3.lq.c rfl
 have u3 : w3.cell? ⟨q, 7, none⟩ = some (.int .u64 x.op.ttl) := hF3.lq.c rfl
 have u4 : w3.cell? ⟨q, 8, none⟩ = some (.int .u64 x.op.ver) := hF3.lq.c rfl
 have z0 := hF3.lr.f 0
 have z1 := hF3.lr.f 1
 have z2 := hF3.lr.f 2
 have z3 : w3.cell? ⟨r, 0, none⟩ = some (.int .i64 0) := hF3.lr.c rfl
 have z4 : w3.cell? ⟨r, 1, none⟩ = some (.string ⟨#[]⟩) := hF3.lr.c rfl
 have z5 : w3.cell? ⟨r, 2, none⟩ = some (.int .u64 0) := hF3.lr.c rfl
 cases e : seek x.ses s.ss with
 | some y =>
  have hi' : true = is := by rw [← hi, e]; rfl
  have hn' : y.num = nn := by rw [← hn]; unfold numOf; rw [e]; rfl
  have hr' : y.rep = rr := by rw [← hr_]; unfold repOf; rw [e]; rfl
  have hyn : y.num < 18446744073709551616 := (hO.sok y (seek_mem e).1).num
  have hoc : s.once x = if x.num = y.num then (s, y.rep) else if x.num < y.num then (s, .of 122) else s.noted x := by unfold Sv.once; rw [e]
  have HOC := Lib.hid hoc
  clear hi hn hr_ e hoc
  subst hi' hr'
  rw [hn'] at hyn HOC
  clear hn'
  by_cases a1 : x.num = nn
  ·have HP : Hid (s.once x = (s, y.rep)) := Lib.hid (HOC.out.trans (if_pos a1))
   have d1 : ((x.num : Int) == (nn : Int)) = true := by rw [a1]; exact beq_self_eq_true _
   clear a1 HOC
   go_wp2_with fail
   (try simp only [Exit.inBlock, Exit.then])
   obtain ⟨zB, zA, zS⟩ := rep3 h hF3.at_ hF3.st hF3.lr (by omega) (.int .i64 y.rep.e) (.string (str y.rep.val)) (.int .u64 y.rep.ver)
   exact bodyPost_ret (results_cell_row rfl _ _ r 45 _ _ _ rfl zB Tryz.underlying45 rfl (by kernel_rfl)) rfl ⟨by rw [HP.out], H, by rw [HP.out]; exact zA, zS⟩
  have d1 : ((x.num : Int) == (nn : Int)) = false := beq_eq_false_iff_ne.2 (by omega)
  by_cases a2 : x.num < nn
  ·have HP : Hid (s.once x = (s, .of 122)) := Lib.hid (HOC.out.trans ((if_neg a1).trans (if_pos a2)))
   have d2 : decide ((x.num : Int) < (nn : Int)) = true := decide_eq_true (by omega)
   have d3 : (x.num : Int) < (nn : Int) := by omega
   clear a1 a2 HOC
   go_wp2_with fail
   (try simp only [Exit.inBlock, Exit.then])
   obtain ⟨zB, zA, zS⟩ := rep3 h hF3.at_ hF3.st hF3.lr (by omega) (.int .i64 122) (.string ⟨#[]⟩) (.int .u64 0)
   exact bodyPost_ret (results_cell_row rfl _ _ r 45 _ _ _ rfl zB Tryz.underlying45 rfl (by kernel_rfl)) rfl ⟨by rw [HP.out]; rfl, H, by rw [HP.out]; exact zA, zS⟩
  have HP : Hid (s.once x = s.noted x) := Lib.hid (HOC.out.trans ((if_neg a1).trans (if_neg a2)))
  have d2 : decide ((x.num : Int) < (nn : Int)) = false := decide_eq_false (by omega)
  have d3 : ¬ (x.num : Int) < (nn : Int) := by omega
  clear a1 a2 HOC
  have hact := hO.act hc h5
  have hcall := act_s hO.toBase hk hk1 hv ht hF3.at_
  have hyo : Ses.Ok ⟨x.ses, x.num, (s.act x.op).2⟩ := ⟨hses, hnum, hact.rep⟩
  have hup : Up (s.act x.op).1.ss := by rw [hact.ss]; exact hO.up
  have hsl : (s.act x.op).1.ss.length < 1000000 := by rw [hact.ss]; have := hO.sl; omega
  have HPN : Hid (s.noted x = ((s.act x.op).1.note ⟨x.ses, x.num, (s.act x.op).2⟩, (s.act x.op).2)) := Lib.hid rfl
  clear hact
  generalize (s.act x.op).1 = tt at *
  generalize (s.act x.op).2 = ro at *
  go_wp2_with fail
  refine hcall.mono ?_
  rintro e' w5 ⟨rfl, H5, h5', s5⟩
  have hF5 := hF3.step h5' s5
  clear hcall hF3 hp3 v0 v1 v2 v4 v3 v5 u0 u1 u2 u3 u4 z0 z1 z2 z3 z4 z5 h5' s5
  have hF6 := hF5.alloc (.cells ro.cs 45)
  have hp6 := Loc.new hF5.at_ 45 ro.cs
  have hpr : w5.heap.size ≠ r := (hF5.ne (Nat.le_refl _)).2.1
  clear hF5
  go_upto_region 9 with (fail)
  generalize w5.alloc (.cells ro.cs 45) = w6 at *
  generalize w5.heap.size = p2 at *
  have mk : ∀ (W : World) (t : Sv), Fr w0 w b T M C S H q 38 x.cs r 45 rep0 W H5 t → Loc p2 45 ro.cs b T M S H5 W → W.cell? ⟨b, 11, none⟩ = some (.map (some S)) ∧ W.cell? ⟨q, 2, none⟩ = some (.int .u64 x.ses) ∧ W.cell? ⟨q, 3, none⟩ = some (.int .u64 x.num) ∧ W.cell? ⟨p2, 0, none⟩ = some (.int .i64 ro.e) ∧ W.cell? ⟨p2, 1, none⟩ = some (.string (str ro.val)) ∧ W.cell? ⟨p2, 2, none⟩ = some (.int .u64 ro.ver) := fun W t h hp => ⟨h.at_.c rfl, h.lq.c rfl, h.lq.c rfl, hp.c rfl, hp.c rfl, hp.c rfl⟩
  replace hp6 := hp6.drew
  refine region_only 11 #[false, false, false, false, false, false, false, false, false, false, false] (S := fun W => W.cell? ⟨b, 11, none⟩ = some (.map (some S)) ∧ W.cell? ⟨q, 2, none⟩ = some (.int .u64 x.ses) ∧ W.cell? ⟨q, 3, none⟩ = some (.int .u64 x.num) ∧ W.cell? ⟨p2, 0, none⟩ = some (.int .i64 ro.e) ∧ W.cell? ⟨p2, 1, none⟩ = some (.string (str ro.val)) ∧ W.cell? ⟨p2, 2, none⟩ = some (.int .u64 ro.ver)) rfl rfl (by kernel_rfl) (mk _ _ hF6.drew hp6) (fun hSw => ?_)
  replace hF6 := hF6.drew
  generalize w6.drew = w7 at *
  refine tkA 0 55 10 ?_ rfl rfl ?_ hSw ?_
  rotate_left
  ·intro wx hSx; (try dsimp only at hSx); go_split_ands; go_simp; (try with_reducible rfl)
  simp only [sA, List.set_cons_zero, sC]
  refine tkA 1 56 9 ?_ rfl rfl ?_ hSw ?_
  rotate_left
  ·intro wx hSx; (try dsimp only at hSx); go_split_ands; go_simp; (try with_reducible rfl)
  simp only [sA, List.set_cons_zero, sC]
  refine tkA 2 57 8 ?_ rfl rfl ?_ hSw ?_
  rotate_left
  ·intro wx hSx; (try dsimp only at hSx); go_split_ands; go_simp; (try with_reducible rfl)
  simp only [sA, List.set_cons_zero, sC]
  refine tkA 3 58 7 ?_ rfl rfl ?_ hSw ?_
  rotate_left
  ·intro wx hSx; (try dsimp only at hSx); go_split_ands; go_simp; (try with_reducible rfl)
  simp only [sA, List.set_cons_zero, sC]
  refine tkA 4 59 6 ?_ rfl rfl ?_ hSw ?_
  rotate_left
  ·intro wx hSx; (try dsimp only at hSx); go_split_ands; go_simp; (try with_reducible rfl)
  simp only [sA, List.set_cons_zero, sC]
  refine tkA 5 60 5 ?_ rfl rfl ?_ hSw ?_
  rotate_left
  ·intro wx hSx; (try dsimp only at hSx); go_split_ands; go_simp; (try with_reducible rfl)
  simp only [sA, List.set_cons_zero, sC]
  refine tkA 6 61 4 ?_ rfl rfl ?_ hSw ?_
  rotate_left
  ·intro wx hSx; (try dsimp only at hSx); go_split_ands; go_simp; (try with_reducible rfl)
  simp only [sA, List.set_cons_zero, sC]
  refine tkA 7 62 3 ?_ rfl rfl ?_ hSw ?_
  rotate_left
  ·intro wx hSx; (try dsimp only at hSx); go_split_ands; go_simp; (try with_reducible rfl)
  simp only [sA, List.set_cons_zero, sC]
  refine tkA 8 63 2 ?_ rfl rfl ?_ hSw ?_
  rotate_left
  ·intro wx hSx; (try dsimp only at hSx); go_split_ands; go_simp; (try with_reducible rfl)
  simp only [sA, List.set_cons_zero, sC]
  refine tkA 9 64 1 ?_ rfl rfl ?_ hSw ?_
  rotate_left
  ·intro wx hSx; (try dsimp only at hSx); go_split_ands; go_simp; (try with_reducible rfl)
  simp only [sA, List.set_cons_zero, sC]
  refine rdA 0 10 rfl fun K hK => ?_
  obtain ⟨D, hD⟩ := hF6.at_.ses
  obtain ⟨w9, D', hrun, hD', hgr, -⟩ := hD.put hup hyo hsl
  go_simp
  obtain ⟨hA9, hS9⟩ := hF6.at_.sess ⟨D', hD'⟩ hgr
  have hF9 := hF6.step hA9 hS9
  have hp9 := hp6.step hS9
  refine hK.out _ _ (mk _ _ hF9 hp9) (fun hSw => ?_)
  clear hD hD' hgr hrun hA9 hS9
  clear hK K
  simp only [sA, List.set_cons_zero, sC]
  refine wpAnyH_done (by kernel_rfl) ⟨rfl, ?_⟩ 0
  clear mk hSw hF6 hp6
  have t0 : w9.cell? ⟨p2, 0, none⟩ = some (.int .i64 ro.e) := hp9.c rfl
  have t1 : w9.cell? ⟨p2, 1, none⟩ = some (.string (str ro.val)) := hp9.c rfl
  have t2 : w9.cell? ⟨p2, 2, none⟩ = some (.int .u64 ro.ver) := hp9.c rfl
  have z0 := hF9.lr.f 0
  have z1 := hF9.lr.f 1
  have z2 := hF9.lr.f 2
  have z3 : w9.cell? ⟨r, 0, none⟩ = some (.int .i64 0) := hF9.lr.c rfl
  have z4 : w9.cell? ⟨r, 1, none⟩ = some (.string ⟨#[]⟩) := hF9.lr.c rfl
  have z5 : w9.cell? ⟨r, 2, none⟩ = some (.int .u64 0) := hF9.lr.c rfl
  go_wp2_with fail
  (try simp only [Exit.inBlock, Exit.then])
  obtain ⟨zB, zA, zS⟩ := rep3 h hF9.at_ hF9.st hF9.lr (by omega) (.int .i64 ro.e) (.string (str ro.val)) (.int .u64 ro.ver)
  exact bodyPost_ret (results_cell_row rfl _ _ r 45 _ _ _ rfl zB Tryz.underlying45 rfl (by kernel_rfl)) rfl ⟨by rw [HP.out, HPN.out], H5, by rw [HP.out, HPN.out]; exact zA, zS⟩
 | none =>
  have hi' : false = is := by rw [← hi, e]; rfl
  have hoc : s.once x = if 64 ≤ s.ss.length then (s, .of 3) else s.noted x := by unfold Sv.once; rw [e]
  have HOC := Lib.hid hoc
  have hml : ∀ ty, (Builtin.len_ #[59] ty #[.map (some S)]).run Tryz.prog w3 = .ok (.int .i64 s.ss.length) w3 := fun ty => by obtain ⟨D, hD⟩ := hF3.at_.ses; exact hD.len ty
  clear hi hn hr_ e hoc
  subst hi'
  by_cases a1 : 64 ≤ s.ss.length
  ·have HP : Hid (s.once x = (s, .of 3)) := Lib.hid (HOC.out.trans (if_pos a1))
   have d1 : decide ((64 : Int) ≤ (s.ss.length : Int)) = true := decide_eq_true (by omega)
   have d2 : (64 : Int) ≤ (s.ss.length : Int) := by omega
   clear a1 HOC
   go_wp2_with fail
   (try simp only [Exit.inBlock, Exit.then])
   obtain ⟨zB, zA, zS⟩ := rep3 h hF3.at_ hF3.st hF3.lr (by omega) (.int .i64 3) (.string ⟨#[]⟩) (.int .u64 0)
   exact bodyPost_ret (results_cell_row rfl _ _ r 45 _ _ _ rfl zB Tryz.underlying45 rfl (by kernel_rfl)) rfl ⟨by rw [HP.out]; rfl, H, by rw [HP.out]; exact zA, zS⟩
  have HP : Hid (s.once x = s.noted x) := Lib.hid (HOC.out.trans (if_neg a1))
  have d1 : decide ((64 : Int) ≤ (s.ss.length : Int)) = false := decide_eq_false (by omega)
  have d2 : ¬ (64 : Int) ≤ (s.ss.length : Int) := by omega
  clear a1 HOC
  have hact := hO.act hc h5
  have hcall := act_s hO.toBase hk hk1 hv ht hF3.at_
  have hyo : Ses.Ok ⟨x.ses, x.num, (s.act x.op).2⟩ := ⟨hses, hnum, hact.rep⟩
  have hup : Up (s.act x.op).1.ss := by rw [hact.ss]; exact hO.up
  have hsl : (s.act x.op).1.ss.length < 1000000 := by rw [hact.ss]; have := hO.sl; omega
  have HPN : Hid (s.noted x = ((s.act x.op).1.note ⟨x.ses, x.num, (s.act x.op).2⟩, (s.act x.op).2)) := Lib.hid rfl
  clear hact
  generalize (s.act x.op).1 = tt at *
  generalize (s.act x.op).2 = ro at *
  go_wp2_with fail
  refine hcall.mono ?_
  rintro e' w5 ⟨rfl, H5, h5', s5⟩
  have hF5 := hF3.step h5' s5
  clear hcall hF3 hp3 v0 v1 v2 v4 v3 v5 u0 u1 u2 u3 u4 z0 z1 z2 z3 z4 z5 h5' s5
  have hF6 := hF5.alloc (.cells ro.cs 45)
  have hp6 := Loc.new hF5.at_ 45 ro.cs
  have hpr : w5.heap.size ≠ r := (hF5.ne (Nat.le_refl _)).2.1
  clear hF5
  go_upto_region 9 with (fail)
  generalize w5.alloc (.cells ro.cs 45) = w6 at *
  generalize w5.heap.size = p2 at *
  have mk : ∀ (W : World) (t : Sv), Fr w0 w b T M C S H q 38 x.cs r 45 rep0 W H5 t → Loc p2 45 ro.cs b T M S H5 W → W.cell? ⟨b, 11, none⟩ = some (.map (some S)) ∧ W.cell? ⟨q, 2, none⟩ = some (.int .u64 x.ses) ∧ W.cell? ⟨q, 3, none⟩ = some (.int .u64 x.num) ∧ W.cell? ⟨p2, 0, none⟩ = some (.int .i64 ro.e) ∧ W.cell? ⟨p2, 1, none⟩ = some (.string (str ro.val)) ∧ W.cell? ⟨p2, 2, none⟩ = some (.int .u64 ro.ver) := fun W t h hp => ⟨h.at_.c rfl, h.lq.c rfl, h.lq.c rfl, hp.c rfl, hp.c rfl, hp.c rfl⟩
  replace hp6 := hp6.drew
  refine region_only 11 #[false, false, false, false, false, false, false, false, false, false, false] (S := fun W => W.cell? ⟨b, 11, none⟩ = some (.map (some S)) ∧ W.cell? ⟨q, 2, none⟩ = some (.int .u64 x.ses) ∧ W.cell? ⟨q, 3, none⟩ = some (.int .u64 x.num) ∧ W.cell? ⟨p2, 0, none⟩ = some (.int .i64 ro.e) ∧ W.cell? ⟨p2, 1, none⟩ = some (.string (str ro.val)) ∧ W.cell? ⟨p2, 2, none⟩ = some (.int .u64 ro.ver)) rfl rfl (by kernel_rfl) (mk _ _ hF6.drew hp6) (fun hSw => ?_)
  replace hF6 := hF6.drew
  generalize w6.drew = w7 at *
  refine tkA 0 55 10 ?_ rfl rfl ?_ hSw ?_
  rotate_left
  ·intro wx hSx; (try dsimp only at hSx); go_split_ands; go_simp; (try with_reducible rfl)
  simp only [sA, List.set_cons_zero, sC]
  refine tkA 1 56 9 ?_ rfl rfl ?_ hSw ?_
  rotate_left
  ·intro wx hSx; (try dsimp only at hSx); go_split_ands; go_simp; (try with_reducible rfl)
  simp only [sA, List.set_cons_zero, sC]
  refine tkA 2 57 8 ?_ rfl rfl ?_ hSw ?_
  rotate_left
  ·intro wx hSx; (try dsimp only at hSx); go_split_ands; go_simp; (try with_reducible rfl)
  simp only [sA, List.set_cons_zero, sC]
  refine tkA 3 58 7 ?_ rfl rfl ?_ hSw ?_
  rotate_left
  ·intro wx hSx; (try dsimp only at hSx); go_split_ands; go_simp; (try with_reducible rfl)
  simp only [sA, List.set_cons_zero, sC]
  refine tkA 4 59 6 ?_ rfl rfl ?_ hSw ?_
  rotate_left
  ·intro wx hSx; (try dsimp only at hSx); go_split_ands; go_simp; (try with_reducible rfl)
  simp only [sA, List.set_cons_zero, sC]
  refine tkA 5 60 5 ?_ rfl rfl ?_ hSw ?_
  rotate_left
  ·intro wx hSx; (try dsimp only at hSx); go_split_ands; go_simp; (try with_reducible rfl)
  simp only [sA, List.set_cons_zero, sC]
  refine tkA 6 61 4 ?_ rfl rfl ?_ hSw ?_
  rotate_left
  ·intro wx hSx; (try dsimp only at hSx); go_split_ands; go_simp; (try with_reducible rfl)
  simp only [sA, List.set_cons_zero, sC]
  refine tkA 7 62 3 ?_ rfl rfl ?_ hSw ?_
  rotate_left
  ·intro wx hSx; (try dsimp only at hSx); go_split_ands; go_simp; (try with_reducible rfl)
  simp only [sA, List.set_cons_zero, sC]
  refine tkA 8 63 2 ?_ rfl rfl ?_ hSw ?_
  rotate_left
  ·intro wx hSx; (try dsimp only at hSx); go_split_ands; go_simp; (try with_reducible rfl)
  simp only [sA, List.set_cons_zero, sC]
  refine tkA 9 64 1 ?_ rfl rfl ?_ hSw ?_
  rotate_left
  ·intro wx hSx; (try dsimp only at hSx); go_split_ands; go_simp; (try with_reducible rfl)
  simp only [sA, List.set_cons_zero, sC]
  refine rdA 0 10 rfl fun K hK => ?_
  obtain ⟨D, hD⟩ := hF6.at_.ses
  obtain ⟨w9, D', hrun, hD', hgr, -⟩ := hD.put hup hyo hsl
  go_simp
  obtain ⟨hA9, hS9⟩ := hF6.at_.sess ⟨D', hD'⟩ hgr
  have hF9 := hF6.step hA9 hS9
  have hp9 := hp6.step hS9
  refine hK.out _ _ (mk _ _ hF9 hp9) (fun hSw => ?_)
  clear hD hD' hgr hrun hA9 hS9
  clear hK K
  simp only [sA, List.set_cons_zero, sC]
  refine wpAnyH_done (by kernel_rfl) ⟨rfl, ?_⟩ 0
  clear mk hSw hF6 hp6
  have t0 : w9.cell? ⟨p2, 0, none⟩ = some (.int .i64 ro.e) := hp9.c rfl
  have t1 : w9.cell? ⟨p2, 1, none⟩ = some (.string (str ro.val)) := hp9.c rfl
  have t2 : w9.cell? ⟨p2, 2, none⟩ = some (.int .u64 ro.ver) := hp9.c rfl
  have z0 := hF9.lr.f 0
  have z1 := hF9.lr.f 1
  have z2 := hF9.lr.f 2
  have z3 : w9.cell? ⟨r, 0, none⟩ = some (.int .i64 0) := hF9.lr.c rfl
  have z4 : w9.cell? ⟨r, 1, none⟩ = some (.string ⟨#[]⟩) := hF9.lr.c rfl
  have z5 : w9.cell? ⟨r, 2, none⟩ = some (.int .u64 0) := hF9.lr.c rfl
  go_wp2_with fail
  (try simp only [Exit.inBlock, Exit.then])
  obtain ⟨zB, zA, zS⟩ := rep3 h hF9.at_ hF9.st hF9.lr (by omega) (.int .i64 ro.e) (.string (str ro.val)) (.int .u64 ro.ver)
  exact bodyPost_ret (results_cell_row rfl _ _ r 45 _ _ _ rfl zB Tryz.underlying45 rfl (by kernel_rfl)) rfl ⟨by rw [HP.out, HPN.out], H5, by rw [HP.out, HPN.out]; exact zA, zS⟩
end
end Go.Proofs.YtkiabladmgagdabGreatDoor.Storey
