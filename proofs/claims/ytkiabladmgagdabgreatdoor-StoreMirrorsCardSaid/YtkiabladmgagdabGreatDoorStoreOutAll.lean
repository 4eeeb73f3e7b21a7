/- The program's cache tells all of it as bytes. The only condition: at most twelve sessions; nothing lies in lists that the policy has not. The program's cache tells a cache of its own that is the same. The only condition: nothing lies in lists that the policy has not. The program's cache tells the sum of all of it. The only condition: at most twelve sessions; nothing lies in lists that the policy has not. Nothing lies in lists that a policy has not, record by record. It speaks of no program. -/
import Derived.Test.YtkiabladmgagdabGreatDoorStoreExpSesAll
import Derived.Test.YtkiabladmgagdabGreatDoorTabBytesAll
import Derived.Test.YtkiabladmgagdabGreatDoorStoreLocAll
import Derived.Test.YtkiabladmgagdabGreatDoorPolicyTakeAll
import Derived.Test.YtkiabladmgagdabGreatDoorOpPutAll
import Derived.Lib.Hide
import Derived.BigQuiet
import Derived.Test.YtkiabladmgagdabGreatDoorStoreCloneAll
import Derived.Test.YtkiabladmgagdabGreatDoorStoreEntAll
import Derived.Test.YtkiabladmgagdabGreatDoorBlakeSumPAll
import Derived.Test.YtkiabladmgagdabGreatDoorSq
namespace Go.Proofs.YtkiabladmgagdabGreatDoor.Storey
open Go.ChangeShapes Go.WideShapes Go.ChangeAt Go.RowKit
open Wirey (Blk Row str str_size str_list str_cat Kp enc enc_len)
open Taby (En TabAt Tbl tp find ins drop size ended allB bodyB body_len)
open Policyy (Pv HeldP StepP Tell)
open Ringy (Key)
open Regy
def Sv.numB (s : Sv) : List UInt8 := enc s.kind ++ enc s.n ++ enc s.bytes ++ enc s.seed ++ enc s.seq ++ enc s.now ++ enc s.ver ++ enc s.asked ++ enc s.hits
def Sv.all (s : Sv) : List UInt8 := s.numB ++ (allB s.m ++ (s.p.put ++ allS s.ss))
section
variable {w0 w w' : World} {b T M C S : Nat} {H : Nat → Prop} {s : Sv}
theorem numB_len (hO : s.Ok) : s.numB.length ≤ 90 := by
 have := hO.kind
 have := hO.n2
 have := hO.b2
 have := hO.hits
 have l0 := (enc_len (n := s.kind) (by omega)).2
 have l1 := (enc_len (n := s.n) (by omega)).2
 have l2 := (enc_len (n := s.bytes) (by omega)).2
 have l3 := (enc_len hO.seed).2
 have l4 := (enc_len hO.seq).2
 have l5 := (enc_len hO.now).2
 have l6 := (enc_len hO.ver).2
 have := hO.asked
 have l7 := (enc_len (n := s.asked) (by omega)).2
 have l8 := (enc_len (n := s.hits) (by omega)).2
 unfold Sv.numB
 simp only [List.length_append]
 omega
theorem allB_len (hO : s.Ok) : (allB s.m).length ≤ 4300010 := by
 have h1 := hO.toBase.len.2
 have := hO.n2
 have h2 := body_len hO.eok
 have l0 := (enc_len (n := s.m.length) (by omega)).2
 unfold allB
 rw [List.length_append]
 omega
theorem allS_len (hO : s.Ok) : (allS s.ss).length ≤ 275210 := by
 have := hO.sl
 have h2 := bodyS_len hO.sok
 have l0 := (enc_len (n := s.ss.length) (by omega)).2
 unfold allS
 rw [List.length_append]
 omega
theorem putP_len (hP : s.p.Out) : s.p.put.length ≤ 3000001 := by
 have h2 := hP.body_len
 rw [Pv.put_eq, List.length_cons]
 omega
theorem all_len (hO : s.Ok) (hP : s.p.Out) : s.all.length ≤ 7575311 := by
 have := numB_len hO
 have := allB_len hO
 have := allS_len hO
 have := putP_len hP
 unfold Sv.all
 simp only [List.length_append]
 omega
theorem nums_s (h : At w0 w b T M C S H s) (hO : s.Ok) : Calls Tryz.prog 19 #[tp b] w fun e w' => e = .returned (.string (str s.numB)) ∧ Below w.heap.size w w' := by
 obtain ⟨c0, c1, c2, c3, c4, c5, c6, c7, c8, -, -, -⟩ := h.cs
 have := hO.kind
 have := hO.n2
 have := hO.b2
 have := hO.hits
 have := hO.asked
 exact Expy.nums_c (by omega) (by omega) (by omega) hO.seed hO.seq hO.now hO.ver (by omega) (by omega) c0 c1 c2 c3 c4 c5 c6 c7 c8
set_option maxHeartbeats 4000000 in
set_option maxRecDepth 100000 in
theorem export_s (h : At w0 w b T M C S H s) (hO : s.Ok) (hP : s.p.Out) (h12 : s.ss.length ≤ 12) : Calls Tryz.prog 6 #[tp b] w fun e w' => e = .returned (.string (str s.all)) ∧ Below w.heap.size w w' := by
 have hm := made_s h
 have n0 := fun (W : World) (h : At w0 W b T M C S H s) => nums_s h hO
 have n1 := fun (W : World) (h : At w0 W b T M C S H s) => Taby.export_t (by have := hO.toBase.len.2; have := hO.n2; omega) W h.tab
 have n2 := fun (W : World) (h : At w0 W b T M C S H s) => (Policyy.exportP_c hP h.pol).mono (R' := fun e w' => e = .returned (.string (str s.p.put)) ∧ Below W.heap.size W w') fun _ _ ⟨a, b⟩ => ⟨a, b.b⟩
 have n3 := fun (W : World) (h : At w0 W b T M C S H s) => expSes_c h hO h12
 have l0 := numB_len hO
 have l1 := allB_len hO
 have l2 := putP_len hP
 have l3 := allS_len hO
 unfold Sv.all
 have mk : ∀ W, At w0 W b T M C S H s → Below w.heap.size w W → (fun W => W.cell? ⟨b, 9, none⟩ = some (tp T) ∧ W.cell? ⟨b, 10, none⟩ = some (tp C) ∧ At w0 W b T M C S H s ∧ Below w.heap.size w W) W := fun W hA hb => ⟨hA.c rfl, hA.c rfl, hA, hb⟩
 clear hO hP h12
 generalize s.numB = t0 at *
 generalize allB s.m = t1 at *
 generalize s.p.put = t2 at *
 generalize allS s.ss = t3 at *
 have m1 : ¬ (9223372036854775807 < t0.length + t1.length) := by omega
 have m2 : ¬ (9223372036854775807 < t0.length + t1.length + t2.length) := by omega
 have m2' : ¬ (9223372036854775807 < t0.length + (t1.length + t2.length)) := by omega
 have m3 : ¬ (9223372036854775807 < t0.length + (t1.length + t2.length) + t3.length) := by omega
 have hcat := str_cat
 have hsz := str_size
 go_enter Tryz.func6, Tryz.ntmps6
 go_wp2_with fail
 refine hm.mono ?_
 rintro e w1 ⟨rfl, rfl⟩
 go_wp2_with fail
 (try simp only [List.append])
 refine region_only 18 #[false, false, false, false, false, false, false, false, false, false, false, false, false, false, false, false, false, false] (S := (fun W => W.cell? ⟨b, 9, none⟩ = some (tp T) ∧ W.cell? ⟨b, 10, none⟩ = some (tp C) ∧ At w0 W b T M C S H s ∧ Below w.heap.size w W)) rfl rfl (by kernel_rfl) (mk _ h.drew (Below.refl _ _).drew) (fun hSw => ?_)
 refine tkA 0 6 17 ?_ rfl rfl ?_ hSw ?_
 rotate_left
 ·intro wx hSx; (try dsimp only at hSx); go_split_ands; go_simp; (try with_reducible rfl)
 simp only [sA, List.set_cons_zero, sC]
 refine tkA 2 8 16 ?_ rfl rfl ?_ hSw ?_
 rotate_left
 ·intro wx hSx; (try dsimp only at hSx); go_split_ands; go_simp; (try with_reducible rfl)
 simp only [sA, List.set_cons_zero, sC]
 refine tkA 3 9 15 ?_ rfl rfl ?_ hSw ?_
 rotate_left
 ·intro wx hSx; (try dsimp only at hSx); go_split_ands; go_simp; (try with_reducible rfl)
 simp only [sA, List.set_cons_zero, sC]
 refine tkA 4 10 14 ?_ rfl rfl ?_ hSw ?_
 rotate_left
 ·intro wx hSx; (try dsimp only at hSx); go_split_ands; go_simp; (try with_reducible rfl)
 simp only [sA, List.set_cons_zero, sC]
 refine tkA 5 11 13 ?_ rfl rfl ?_ hSw ?_
 rotate_left
 ·intro wx hSx; (try dsimp only at hSx); go_split_ands; go_simp; (try with_reducible rfl)
 simp only [sA, List.set_cons_zero, sC]
 refine tkA 8 14 12 ?_ rfl rfl ?_ hSw ?_
 rotate_left
 ·intro wx hSx; (try dsimp only at hSx); go_split_ands; go_simp; (try with_reducible rfl)
 simp only [sA, List.set_cons_zero, sC]
 refine tkA 9 15 11 ?_ rfl rfl ?_ hSw ?_
 rotate_left
 ·intro wx hSx; (try dsimp only at hSx); go_split_ands; go_simp; (try with_reducible rfl)
 simp only [sA, List.set_cons_zero, sC]
 refine tkA 10 16 10 ?_ rfl rfl ?_ hSw ?_
 rotate_left
 ·intro wx hSx; (try dsimp only at hSx); go_split_ands; go_simp; (try with_reducible rfl)
 simp only [sA, List.set_cons_zero, sC]
 refine tkA 11 17 9 ?_ rfl rfl ?_ hSw ?_
 rotate_left
 ·intro wx hSx; (try dsimp only at hSx); go_split_ands; go_simp; (try with_reducible rfl)
 simp only [sA, List.set_cons_zero, sC]
 refine tkA 14 20 8 ?_ rfl rfl ?_ hSw ?_
 rotate_left
 ·intro wx hSx; (try dsimp only at hSx); go_split_ands; go_simp; (try with_reducible rfl)
 simp only [sA, List.set_cons_zero, sC]
 refine rdA 7 1 rfl fun K hK => ?_
 go_simp
 refine Calls.mono (n0 _ hSw.2.2.1) ?_
 rintro e wv ⟨rfl, hbv⟩
 refine hK.out _ _ (mk _ (hSw.2.2.1.below hbv) (hSw.2.2.2.trans (hbv.mono hSw.2.2.2.size))) (fun hSw => ?_)
 clear hK K
 simp only [sA, List.set_cons_zero, sC]
 refine rdA 6 6 rfl fun K hK => ?_
 go_simp
 refine Calls.mono (n1 _ hSw.2.2.1) ?_
 rintro e wv ⟨rfl, hbv⟩
 refine hK.out _ _ (mk _ (hSw.2.2.1.below hbv) (hSw.2.2.2.trans (hbv.mono hSw.2.2.2.size))) (fun hSw => ?_)
 clear hK K
 simp only [sA, List.set_cons_zero, sC]
 refine tkA 7 13 5 ?_ rfl rfl ?_ hSw ?_
 rotate_left
 ·intro wx hSx; (try dsimp only at hSx); go_split_ands; go_simp; (try with_reducible rfl)
 simp only [sA, List.set_cons_zero, sC]
 refine rdA 4 12 rfl fun K hK => ?_
 go_simp
 refine Calls.mono (n2 _ hSw.2.2.1) ?_
 rintro e wv ⟨rfl, hbv⟩
 refine hK.out _ _ (mk _ (hSw.2.2.1.below hbv) (hSw.2.2.2.trans (hbv.mono hSw.2.2.2.size))) (fun hSw => ?_)
 clear hK K
 simp only [sA, List.set_cons_zero, sC]
 refine tkA 13 19 3 ?_ rfl rfl ?_ hSw ?_
 rotate_left
 ·intro wx hSx; (try dsimp only at hSx); go_split_ands; go_simp; (try with_reducible rfl)
 simp only [sA, List.set_cons_zero, sC]
 refine rdA 2 15 rfl fun K hK => ?_
 go_simp
 refine Calls.mono (n3 _ hSw.2.2.1) ?_
 rintro e wv ⟨rfl, hbv⟩
 refine hK.out _ _ (mk _ (hSw.2.2.1.below hbv) (hSw.2.2.2.trans (hbv.mono hSw.2.2.2.size))) (fun hSw => ?_)
 clear hK K
 simp only [sA, List.set_cons_zero, sC]
 refine tkA 16 22 1 ?_ rfl rfl ?_ hSw ?_
 rotate_left
 ·intro wx hSx; (try dsimp only at hSx); go_split_ands; go_simp; (try with_reducible rfl)
 simp only [sA, List.set_cons_zero, sC]
 refine tkA 17 2 0 ?_ rfl rfl ?_ hSw ?_
 rotate_left
 ·intro wx hSx; (try dsimp only at hSx); go_split_ands; go_simp; (try with_reducible rfl)
 simp only [sA, List.set_cons_zero, sC]
 refine wpAnyH_done (by kernel_rfl) ⟨rfl, ?_⟩ 0
 have hbf := hSw.2.2.2
 clear hSw mk
 go_wp2_with fail
 go_ret
 exact ⟨by simp, hbf⟩
end
end Go.Proofs.YtkiabladmgagdabGreatDoor.Storey
namespace Go.Proofs.YtkiabladmgagdabGreatDoor.Storey
open Go.ChangeShapes Go.WideShapes Go.ChangeAt Go.RowKit
open Wirey (Blk Row str str_size str_list str_cat Kp enc enc_len)
open Taby (En TabAt Tbl tp find ins drop size ended Sl put_t)
open Policyy (Pv HeldP StepP Tell NewP)
open Ringy (Key)
theorem ins_snoc {x : En} : ∀ {l : List En}, Taby.Rise (l ++ [x]) → ins x l = l ++ [x]
 | [], _ => rfl
 | y :: l, h => by
  obtain ⟨h1, h2⟩ := List.pairwise_cons.1 h
  rw [ins, if_pos (h1 x (by simp)), ins_snoc h2]
  rfl
theorem take_rise {l : List En} {j : Nat} {x : En} (hr : Taby.Rise l) (hx : l[j]? = some x) : ins x (l.take j) = l.take (j + 1) := by
 have e : l.take (j + 1) = l.take j ++ [x] := by rw [List.take_add_one, hx]; rfl
 rw [e]
 exact ins_snoc (e ▸ hr.sublist (List.take_sublist _ _))
structure Cp (w : World) (q T C S M B : Nat) (v : Value) (s : Sv) (j : Nat) (W : World) : Prop where
 box : Blk W q 61 (s.cells T C S)
 tab : TabAt W T M (s.m.take j)
 sl : Sl W B v s.m
 bel : Below w.heap.size w W
 lo : w.heap.size ≤ q
 qT : q < T
 qM : q < M
 TB : T < B
 MB : M < B
section
variable {w0 w W W' : World} {q b T T2 M M2 C S B j : Nat} {v : Value} {H : Nat → Prop} {s : Sv} {x : En}
theorem Cp.below (h : Cp w q T C S M B v s j W) (hb : Below W.heap.size W W') : Cp w q T C S M B v s j W' :=
 ⟨h.box.below hb h.box.lt, h.tab.below hb, h.sl.below hb, h.bel.trans (hb.mono h.bel.size), h.lo, h.qT, h.qM, h.TB, h.MB⟩
theorem Cp.put (h : Cp w q T C S M B v s j W) (hx : s.m[j]? = some x) (hr : Taby.Rise s.m) (ht : TabAt W' T M (ins x (s.m.take j))) (hk : Kp (Tbl T M) W W') : Cp w q T C S M B v s (j + 1) W' := by
 have h1 := h.lo
 have h2 := h.qT
 have h3 := h.qM
 have h4 := h.TB
 have h5 := h.MB
 have hs := h.bel.size
 refine ⟨(hk.block q h.box.lt ?_).trans h.box, take_rise hr hx ▸ ht, h.sl.stay fun g hg => hk.block g (h.sl.lt g hg).2 ?_, ⟨hk.os.trans h.bel.os, hk.tape.trans h.bel.tape, hk.output.trans h.bel.output, Nat.le_trans hs hk.size, fun k hk' => (hk.block k (by omega) ?_).trans (h.bel.block k hk')⟩, h1, h2, h3, h4, h5⟩
 ·show ¬ (q = T ∨ q = M); omega
 ·have := (h.sl.lt g hg).1
  show ¬ (g = T ∨ g = M); omega
 ·show ¬ (k = T ∨ k = M); omega
set_option maxHeartbeats 8000000 in
set_option maxRecDepth 100000 in
theorem copy_s (h : At w0 w b T M C S H s) (hO : s.Ok) (hP : s.p.Out) : Calls Tryz.prog 7 #[tp b] w fun e w' => ∃ b2 T2 M2 C2 S2 H2, e = .returned (tp b2) ∧ At w w' b2 T2 M2 C2 S2 H2 s ∧ Below w.heap.size w w' := by
 have hm := made_s h
 have hl : s.m.length ≤ 100000 := by have := hO.toBase.len.2; have := hO.n2; omega
 obtain ⟨c0, c1, c2, c3, c4, c5, c6, c7, c8, c9, c10, c11⟩ := h.cs
 have hX1 := Blk.new w 61 (s.cells T C S)
 have hb1 := (Below.refl _ w).alloc (Nat.le_refl _) (.cells (s.cells T C S) 61)
 go_enter Tryz.func7, Tryz.ntmps7
 go_wp2_with fail
 refine hm.mono ?_
 rintro e w1 ⟨rfl, rfl⟩
 go_upto_region 4 with (fail)
 generalize w.alloc (.cells (s.cells T C S) 61) = w1 at *
 generalize hq : w.heap.size = q at hX1 ⊢
 have hqw : w.heap.size ≤ q := by omega
 clear hq
 clear c0 c1 c2 c3 c4 c5 c6 c7 c8 c9 c10 c11 hm
 go_wp2_with fail
 refine (Taby.new_c w1).mono ?_
 rintro e w2 ⟨P, T2, rfl, ⟨M2, hT2, -, hTl, hMl⟩, hb2⟩
 have hX2 := hX1.below hb2 hX1.lt
 have hbw2 := hb1.trans (hb2.mono hb1.size)
 have hq1 := hX1.lt
 have x9 : w2.cell? ⟨q, 9, none⟩ = some (tp T) := hX2.cell 9
 have f9 := hX2.free 9
 have hX3 : Blk (w2.setCell ⟨q, 9, none⟩ (tp T2)) q 61 (s.cells T2 C S) := hX2.put 9 (tp T2)
 have hT3 : TabAt (w2.setCell ⟨q, 9, none⟩ (tp T2)) T2 M2 [] := hT2.stay (Below.heap_setCell w2 _ _ T2 (by show T2 ≠ q; omega)) (Below.heap_setCell w2 _ _ M2 (by show M2 ≠ q; omega))
 have hb3 : Below w.heap.size w (w2.setCell ⟨q, 9, none⟩ (tp T2)) := hbw2.setCell (p := ⟨q, 9, none⟩) hqw _
 have ht3 := hT3.hd.lt
 have hm3 := hT3.ltM
 clear hX1 hX2 hbw2 hb1 hb2 hT2
 go_upto_region 5 with (fail)
 generalize w2.setCell ⟨q, 9, none⟩ (tp T2) = w3 at *
 have hA3 := h.below hb3
 clear x9 f9
 go_wp2_with fail
 refine (entries_s hl hA3).mono ?_
 rintro e w4 ⟨v, rfl, hS4, hb4⟩
 obtain ⟨oa, oc, rfl⟩ := hS4.form
 have hCp : Cp w q T2 C S M2 w3.heap.size (.slice oa s.m.length oc) s 0 w4 := ⟨hX3.below hb4 hX3.lt, by rw [List.take_zero]; exact hT3.below hb4, hS4, hb3.trans (hb4.mono hb3.size), hqw, by omega, by omega, ht3, hm3⟩
 have hrise := hO.toBase.rise
 have hok := hO.toBase.eok
 clear hX3 hT3 hS4 hb4 hb3 hA3 ht3 hm3 hTl hMl hq1
 generalize w3.heap.size = B at *
 go_wp2_with fail
 go_loopw [17] (fun i wr => ∃ j : Nat, j ≤ s.m.length ∧ i = .int .i64 j ∧ Cp w q T2 C S M2 B (.slice oa s.m.length oc) s j wr) (fun i _ => s.m.length - (intOf i).toNat)
 case atStart => exact ⟨0, by omega, rfl, hCp⟩
 case round =>
  clear hCp
  obtain ⟨j, hj, rfl, hE⟩ := hrel
  by_cases h3 : j < s.m.length
  ·obtain ⟨x, hx⟩ : ∃ x, s.m[j]? = some x := ⟨_, List.getElem?_eq_getElem h3⟩
   have hxo := hok x (List.mem_of_getElem? hx)
   obtain ⟨g, rfl, hBg, hg, hcell⟩ := hE.sl.at_ hx
   obtain ⟨x0, x1, x2, x3⟩ := hcell wr rfl
   have hlt : (j : Int) < (s.m.length : Int) := by omega
   have hXe := Blk.new wr 66 #[.string (str x.key), .string (str x.val), .int .u64 x.ver, .int .u64 x.fin]
   have hE1 := hE.below ((Below.refl _ wr).alloc (Nat.le_refl _) (.cells #[.string (str x.key), .string (str x.val), .int .u64 x.ver, .int .u64 x.fin] 66))
   have htl : (s.m.take j).length ≤ 100000 := by rw [List.length_take]; omega
   clear hE hcell
   go_upto_region 8 with (fail)
   generalize wr.alloc (.cells #[.string (str x.key), .string (str x.val), .int .u64 x.ver, .int .u64 x.fin] 66) = v1 at *
   generalize wr.heap.size = X at *
   clear x0 x1 x2 x3
   have y0 : v1.cell? ⟨X, 0, none⟩ = some (.string (str x.key)) := hXe.cell 0
   have y1 : v1.cell? ⟨X, 1, none⟩ = some (.string (str x.val)) := hXe.cell 1
   have y2 : v1.cell? ⟨X, 2, none⟩ = some (.int .u64 x.ver) := hXe.cell 2
   have y3 : v1.cell? ⟨X, 3, none⟩ = some (.int .u64 x.fin) := hXe.cell 3
   have c9 : v1.cell? ⟨q, 9, none⟩ = some (tp T2) := hE1.box.cell 9
   go_wp2_with fail
   refine (put_t hxo htl v1 hE1.tab).mono ?_
   rintro e v2 ⟨rfl, hT5, hk5⟩
   have HE := Lib.hid (hE1.put hx hrise hT5 hk5)
   clear hT5 hk5 hE1 hXe y0 y1 y2 y3 c9
   go_wp2_with fail
   go_roundw
   case rel => exact ⟨j + 1, by omega, rfl, HE.out⟩
   case measure => simp [intOf]; omega
  ·obtain rfl : j = s.m.length := by omega
   have hge : ¬ ((s.m.length : Int) < (s.m.length : Int)) := by omega
   have hA5 := h.below hE.bel
   have c10 : wr.cell? ⟨b, 10, none⟩ = some (tp C) := hA5.c rfl
   have hexp := Policyy.exportP_c hP hA5.pol
   go_wp2_with fail
   refine hexp.mono ?_
   rintro e w5 ⟨rfl, hx5⟩
   have hb5 := hx5.b
   have hE5 := hE.below hb5
   have hs5 : q < w5.heap.size := hE5.box.lt
   clear hx5 hE hexp c10 hA5
   go_wp2_with fail
   refine (Policyy.importP_c hP w5).mono ?_
   rintro e w6 ⟨C2, H2, rfl, hN6, hb6⟩
   have hE6 := hE5.below hb6
   have x10 : w6.cell? ⟨q, 10, none⟩ = some (tp C) := hE6.box.cell 10
   have f10 := hE6.box.free 10
   have hk6 : Kp (fun k => k = q) w6 (w6.setCell ⟨q, 10, none⟩ (tp C2)) := ⟨rfl, rfl, rfl, by simp [World.setCell], fun k _ hk => Below.heap_setCell w6 _ _ k hk⟩
   have hqT := hE6.qT
   have hqM := hE6.qM
   have hX7 : Blk (w6.setCell ⟨q, 10, none⟩ (tp C2)) q 61 #[.int .i64 s.kind, .int .i64 s.n, .int .i64 s.bytes, .int .u64 s.seed, .int .u64 s.seq, .int .u64 s.now, .int .u64 s.ver, .int .i64 s.asked, .int .i64 s.hits, tp T2, tp C2, .map (some S)] := hE6.box.put 10 (tp C2)
   have hT7 : TabAt (w6.setCell ⟨q, 10, none⟩ (tp C2)) T2 M2 s.m := by
    have := hE6.tab
    rw [List.take_length] at this
    exact this.stay (Below.heap_setCell w6 _ _ T2 (by show T2 ≠ q; omega)) (Below.heap_setCell w6 _ _ M2 (by show M2 ≠ q; omega))
   have hN7 := hN6.kp hk6 fun k hk => by subst hk; exact hs5
   have hb7 : Below w.heap.size w (w6.setCell ⟨q, 10, none⟩ (tp C2)) := hE6.bel.setCell (p := ⟨q, 10, none⟩) hqw _
   have hTs := hE5.tab.hd.lt
   have hMs := hE5.tab.ltM
   clear hE5 hb5 hb6 hN6 hk6 hE6
   go_upto_region 11 with (fail)
   generalize w6.setCell ⟨q, 10, none⟩ (tp C2) = w7 at *
   clear x10 f10
   obtain ⟨D, hD⟩ := h.ses
   have hD7 := hD.stay (hb7.block S hD.mp.lt)
   have c11 : w7.cell? ⟨b, 11, none⟩ = some (.map (some S)) := (h.below hb7).c rfl
   go_wp2_with fail
   refine (clone_c hD7).mono ?_
   rintro e w8 ⟨rfl, hD8, hb8⟩
   have hs7 := hb7.size
   have hs8 := hb8.size
   have hX8 := hX7.below hb8 hX7.lt
   have hT7s := hT7.hd.lt
   have hM7s := hT7.ltM
   have hq7 := hX7.lt
   have x11 : w8.cell? ⟨q, 11, none⟩ = some (.map (some S)) := hX8.cell 11
   have f11 := hX8.free 11
   have h57 : w.heap.size ≤ w5.heap.size := by omega
   have hHl := hN7.own
   have hHu := fun k hk => ((hN7.held hb7 h57).own k hk).2
   have hk8 : Kp (fun _ => False) w7 w8 := ⟨hb8.os, hb8.tape, hb8.output, hb8.size, fun k hk _ => hb8.block k hk⟩
   have hk9 : Kp (fun k => k = q) w8 (w8.setCell ⟨q, 11, none⟩ (.map (some w7.heap.size))) := ⟨rfl, rfl, rfl, by simp [World.setCell], fun k _ hk => Below.heap_setCell w8 _ _ k hk⟩
   have hN9 := (hN7.kp hk8 fun k hk => hk.elim).kp hk9 fun k hk => by subst hk; exact hs5
   have hX9 : Blk (w8.setCell ⟨q, 11, none⟩ (.map (some w7.heap.size))) q 61 (s.cells T2 C2 w7.heap.size) := hX8.put 11 (.map (some w7.heap.size))
   have hT9 : TabAt (w8.setCell ⟨q, 11, none⟩ (.map (some w7.heap.size))) T2 M2 s.m := (hT7.below hb8).stay (Below.heap_setCell w8 _ _ T2 (by show T2 ≠ q; omega)) (Below.heap_setCell w8 _ _ M2 (by show M2 ≠ q; omega))
   have hD9 := hD8.stay (w' := w8.setCell ⟨q, 11, none⟩ (.map (some w7.heap.size))) (Below.heap_setCell w8 _ _ w7.heap.size (by show w7.heap.size ≠ q; omega))
   have hb9 : Below w.heap.size w (w8.setCell ⟨q, 11, none⟩ (.map (some w7.heap.size))) := (hb7.trans (hb8.mono hb7.size)).setCell (p := ⟨q, 11, none⟩) hqw _
   have HA := Lib.hid (show At w (w8.setCell ⟨q, 11, none⟩ (.map (some w7.heap.size))) q T2 M2 C2 w7.heap.size H2 s from
     ⟨hX9, hT9, hN9.held hb9 h57, ⟨D, hD9⟩, hqw, by omega, by omega, by omega, by omega, by omega, by omega, by omega, by omega, fun hk => by have := hHl _ hk; omega, fun hk => by have := hHl _ hk; omega, fun hk => by have := hHl _ hk; omega, fun hk => by have := hHu _ hk; omega⟩)
   have HB := Lib.hid hb9
   clear hX9 hT9 hD9 hb9 hN9 hk9 hk8 hX8 hN7 hHl hHu hX7 hT7 hD7 hD8 hb7 hb8 hD
   go_wp2_with fail
   go_ret
   exact ⟨q, T2, M2, C2, _, H2, rfl, HA.out, HB.out⟩
end
end Go.Proofs.YtkiabladmgagdabGreatDoor.Storey
namespace Go.Proofs.YtkiabladmgagdabGreatDoor.Storey
open Go.ChangeShapes Go.WideShapes Go.ChangeAt Go.RowKit
open Wirey (Blk Row str str_size str_list str_cat Kp enc enc_len)
open Taby (En TabAt Tbl tp find ins drop size ended allB bodyB body_len)
open Policyy (Pv HeldP StepP Tell)
open Ringy (Key)
open Wirey (Glob sumL sumP_c)
section
variable {w0 w w' : World} {b T M C S : Nat} {H : Nat → Prop} {s : Sv}
set_option maxHeartbeats 4000000 in
set_option maxRecDepth 100000 in
theorem digest_s (h : At w0 w b T M C S H s) (hO : s.Ok) (hP : s.p.Out) (h12 : s.ss.length ≤ 12) (hG : Glob w) : Calls Tryz.prog 12 #[tp b] w fun e w' => e = .returned (.string (str (sumL s.all))) ∧ Below w.heap.size w w' := by
 have hm := made_s h
 have hE := export_s h hO hP h12
 have hl := all_len hO hP
 go_enter Tryz.func12, Tryz.ntmps12
 go_wp2_with fail
 refine hm.mono ?_
 rintro e w1 ⟨rfl, rfl⟩
 go_wp2_with fail
 refine hE.mono ?_
 rintro e w1 ⟨rfl, hb1⟩
 go_wp2_with fail
 refine (sumP_c s.all (by omega) w1 (hG.below hb1)).mono ?_
 rintro e w2 ⟨rfl, hb2⟩
 go_wp2_with fail
 go_ret
 exact ⟨rfl, hb1.trans (hb2.mono hb1.size)⟩
end
end Go.Proofs.YtkiabladmgagdabGreatDoor.Storey
namespace Go.Proofs.YtkiabladmgagdabGreatDoor.Storey
open Go.ChangeShapes Go.WideShapes Go.ChangeAt Go.RowKit
open Wirey (Blk Row str str_size str_list str_cat Kp enc enc_len)
open Taby (En TabAt Tbl tp find ins drop size ended allB bodyB body_len)
open Policyy (Pv HeldP StepP Tell)
open Ringy (Key)
section
variable {w0 w w' : World} {b T M C S : Nat} {H : Nat → Prop} {s : Sv}
theorem outP_new (kind n seed : Nat) (h1 : 1 ≤ n) (h2 : n ≤ 1000) (hs : seed < 18446744073709551616) : (Pv.new kind n seed).Out := Policyy.Pv.new_out h1 h2 hs
theorem out_aways : ∀ (l : List Key) {s : Sv}, s.p.Out → (l.foldl Sv.away s).p.Out
 | [], _, h => h
 | k :: l, _, h => out_aways l (h.drop k)
theorem out_moveTo {n : Nat} (h : s.p.Out) : (s.moveTo n).p.Out := out_aways _ h
theorem out_fit : ∀ (f : Nat) {s : Sv}, s.p.Out → (Sv.fit f s).p.Out
 | 0, _, h => h
 | f + 1, s, h => by
  rw [Sv.fit]
  split
  ·exact h
  ·cases e : s.p.goes with
   | none => exact h
   | some k => exact out_fit f h.evict
theorem out_falls : ∀ (l : List Key) {s : Sv}, s.p.Out → (l.foldl Sv.fall s).p.Out
 | [], _, h => h
 | _ :: l, _, h => out_falls l h
theorem out_put {o : Opn} (h : s.p.Out) : (s.put o).1.p.Out := by
 unfold Sv.put
 split
 ·exact h
 ·exact out_fit _ (out_falls _ (h.insert o.key))
theorem out_get {k : Key} (h : s.p.Out) : (s.get k).1.p.Out := by
 unfold Sv.get
 cases find k s.m with
 | none => exact h.miss k
 | some x => exact h.touch k
theorem out_del {k : Key} (h : s.p.Out) : (s.del k).1.p.Out := by
 unfold Sv.del
 cases find k s.m with
 | none => exact h
 | some x => exact h.drop k
theorem out_cas {o : Opn} (h : s.p.Out) : (s.cas o).1.p.Out := by
 unfold Sv.cas
 cases find o.key s.m with
 | none => exact h
 | some x =>
  show (if x.ver = o.ver then s.put o else (s, ⟨121, [], x.ver⟩)).1.p.Out
  split
  ·exact out_put h
  ·exact h
theorem out_act {o : Opn} (h : s.p.Out) : (s.act o).1.p.Out := by
 unfold Sv.act
 split
 ·exact out_get h
 ·split
  ·exact out_del h
  ·split
   ·exact out_cas h
   ·exact out_put h
theorem out_once {x : Rcd} (h : s.p.Out) : (s.once x).1.p.Out := by
 unfold Sv.once
 cases seek x.ses s.ss with
 | none =>
  show (if 64 ≤ s.ss.length then (s, Rep.of 3) else s.noted x).1.p.Out
  split
  ·exact h
  ·exact out_act h
 | some y =>
  show (if x.num = y.num then (s, y.rep) else if x.num < y.num then (s, .of 122) else s.noted x).1.p.Out
  split
  ·exact h
  ·split
   ·exact h
   ·exact out_act h
theorem out_apply {x : Rcd} (h : s.p.Out) : (s.apply x).1.p.Out := by
 unfold Sv.apply
 split
 ·exact h
 ·split
  ·exact h
  ·show (s.done x).1.p.Out
   unfold Sv.done
   split
   ·exact out_moveTo h
   ·exact out_once (out_moveTo h)
theorem up_from {n : Nat} : ∀ {l : List Ses} {lo : Nat}, Up l → (∀ x ∈ l, lo ≤ x.id ∧ x.id < n) → l.length ≤ n - lo
 | [], _, _, _ => Nat.zero_le _
 | x :: l, lo, hu, h => by
  obtain ⟨h1, h2⟩ := List.pairwise_cons.1 hu
  have hx := h x List.mem_cons_self
  have := up_from (lo := x.id + 1) h2 fun y hy => ⟨h1 y hy, (h y (List.mem_cons_of_mem _ hy)).2⟩
  rw [List.length_cons]
  omega
theorem up_len {l : List Ses} (hu : Up l) {n : Nat} (h : ∀ x ∈ l, x.id < n) : l.length ≤ n := up_from (lo := 0) hu fun x hx => ⟨Nat.zero_le _, h x hx⟩
end
end Go.Proofs.YtkiabladmgagdabGreatDoor.Storey
