/- The document's policy in memory: what each of its calls comes to, of whichever kind it is. The only condition: it is as chapters 7 and 8 have it. The program's policy as bytes, and read off bytes. The only condition: it is as chapters 7 and 8 have it. -/
import Derived.Test.YtkiabladmgagdabGreatDoorPolicyProgAll
import Derived.Test.YtkiabladmgagdabGreatDoorArcTakeAll
import Derived.Test.YtkiabladmgagdabGreatDoorTinyDoingAll
import Derived.BigQuiet
import Derived.Test.YtkiabladmgagdabGreatDoorSq
namespace Go.Proofs.YtkiabladmgagdabGreatDoor.Policyy
open Go.ChangeShapes Go.WideShapes Go.ChangeAt Go.RowKit
open Wirey (Blk Row str str_size str_list str_take str_cat Kp)
open Ringy hiding fewL
open Arcy (Av Dat)
open Tinyy (Tv Dt Ad)

section
variable {w x y : World} {p p' : Pv} {c c' : Nat → Value} {H H' O : Nat → Prop} {k : Key} {n : Nat}
theorem Pv.Out.fineA {v : Av} (h : Pv.Out (.a v)) : v.Fine := ⟨h.1, h.2⟩
theorem Pv.Out.fineT {v : Tv} (h : Pv.Out (.t v)) : v.Fine := ⟨h.1.fit, h.2⟩
theorem Pv.Out.ofA {v : Av} (h : v.Fine) : Pv.Out (.a v) := ⟨h.ok, h.out⟩
theorem Pv.Out.touch (h : p.Out) (k : Key) : (p.touch k).Out := by
 cases p with
 | a v => exact .ofA (h.fineA.touch (Arcy.Av.touch_ok h.1 k).1)
 | t v => exact ⟨(Tinyy.Tv.touch_spec h.1 k).1, Tinyy.Tv.Out.touch h.2 k⟩
theorem Pv.Out.drop (h : p.Out) (k : Key) : (p.drop k).Out := by
 cases p with
 | a v => exact .ofA (h.fineA.dr k)
 | t v => exact ⟨h.1.dr k, Tinyy.Tv.Out.dr h.2 k⟩
theorem Pv.Out.evict (h : p.Out) : p.evict.Out := by
 cases p with
 | a v => exact .ofA (h.fineA.repl false)
 | t v => exact ⟨(Tinyy.Tv.evict_ok h.1).1, Tinyy.Tv.Out.evict h.2⟩
theorem Pv.Out.insert (h : p.Out) (k : Key) : (p.insert k).Out := by
 cases p with
 | a v => exact .ofA (h.fineA.insert k)
 | t v => exact ⟨(Tinyy.Tv.insert_ok h.1 k).1, Tinyy.Tv.Out.insert h.2 k⟩
theorem Pv.Out.miss (h : p.Out) (k : Key) : (p.miss k).Out := by
 cases p with
 | a v => exact h
 | t v =>
  show Pv.Out (if v.has k = true then .t v else .t (v.miss k))
  split
  ·exact h
  ·exact ⟨(Tinyy.Tv.miss_ok h.1 k).1, Tinyy.Tv.Out.miss h.2 k⟩
theorem Pv.new_out {kind n seed : Nat} (h1 : 1 ≤ n) (h2 : n ≤ 1000) (h3 : seed < 18446744073709551616) : (Pv.new kind n seed).Out := by
 unfold Pv.new
 split
 ·exact ⟨Arcy.Av.new_ok h1 h2, fun i hi => by
     show (Rg.new 4 (2 * n + 1)).l i = []
     rfl⟩
 ·exact ⟨Tinyy.Tv.new_ok h1 h2 h3, (Tinyy.Tv.new_fine h1 h2 h3).out⟩
def Pv.body : Pv → List UInt8
 | .a v => v.put
 | .t v => v.put
def Pv.put (p : Pv) : List UInt8 := Wirey.enc p.kind ++ p.body
theorem Pv.put_eq (p : Pv) : p.put = UInt8.ofNat p.kind :: p.body := by
 unfold Pv.put
 rw [Wirey.enc_small (by cases p <;> simp [Pv.kind])]
 rfl
theorem Pv.Out.body_len (h : p.Out) : p.body.length ≤ 3000000 := by
 cases p with
 | a v =>
  have hm := h.1.m2
  have ht := h.1.t
  have hs := h.1.wf.small
  have l1 := Ringy.enc_ten (n := v.most) (by omega)
  have l2 := Ringy.enc_ten (n := v.tgt) (by omega)
  have l3 := hs.putTo v.rg.n (Nat.le_refl _)
  rw [h.1.n] at l3
  have l4 : v.rg.put.length ≤ 20 + 400000 * 4 := by unfold Rg.put; rw [h.1.n]; exact l3
  show (Wirey.enc v.most ++ (Wirey.enc v.tgt ++ v.rg.put)).length ≤ _
  rw [List.length_append, List.length_append]
  omega
 | t v =>
  have hf := h.1.fit
  have hm := hf.m2
  have hs := hf.wf.small
  have l1 := Ringy.enc_ten (n := v.most) (by omega)
  have l2 := Tinyy.skput_len hf.sw.pre
  have l3 := hs.putTo v.rg.n (Nat.le_refl _)
  rw [hf.n] at l3
  have l4 : v.rg.put.length ≤ 20 + 400000 * 3 := by unfold Rg.put; rw [hf.n]; exact l3
  show (Wirey.enc v.most ++ (v.sk.put ++ v.rg.put)).length ≤ _
  rw [List.length_append, List.length_append]
  omega
end
end Go.Proofs.YtkiabladmgagdabGreatDoor.Policyy
namespace Go.Proofs.YtkiabladmgagdabGreatDoor.Policyy
open Go.ChangeShapes Go.WideShapes Go.ChangeAt Go.RowKit Go.Shelf
open Wirey (Blk Row str str_size str_list str_take str_cat Kp Kept RS enc num_ok must_ok numR_enc)
open Ringy hiding fewL
open Go.ChangeMaps Go.Maps
open Arcy (Av HeldA)
open Tinyy (Tv HeldT)

structure Ex (w0 : World) (C : Nat) (p : Pv) (H : Nat → Prop) (w W : World) : Prop where
 h : HeldP w0 C W p H
 b : Below w.heap.size w W
section
variable {w0 w x y : World} {C A B P : Nat} {m : Rm} {p : Pv} {H : Nat → Prop}
set_option maxHeartbeats 2000000 in
set_option maxRecDepth 100000 in
theorem exportA_c {v : Av} (hlen : v.put.length ≤ 3000000) (h : HeldA w0 A P w m v) (box : Blk w C 111 #[.int .i64 1, .iface 133 (.pointer (some ⟨A, 0, none⟩))]) :
  Calls Tryz.prog 21 #[.pointer (some ⟨C, 0, none⟩)] w fun e w' => e = .returned (.string (str (UInt8.ofNat 1 :: v.put))) ∧ Below w.heap.size w w' := by
 have hm := made_p box
 have hmt := mAExport
 have hcat := str_cat
 have hsz := str_size
 have hl : ¬ (9223372036854775807 < 1 + v.put.length) := by omega
 have he : enc 1 = [UInt8.ofNat 1] := Wirey.enc_small (by omega)
 have step : ∀ {W W' : World}, (HeldA w0 A P W m v ∧ Blk W C 111 #[.int .i64 1, .iface 133 (.pointer (some ⟨A, 0, none⟩))] ∧ Below w.heap.size w W) → Below W.heap.size W W' → (HeldA w0 A P W' m v ∧ Blk W' C 111 #[.int .i64 1, .iface 133 (.pointer (some ⟨A, 0, none⟩))] ∧ Below w.heap.size w W') := fun {W W'} hW hb => ⟨hW.1.later hb (Nat.le_refl _), hW.2.1.below hb hW.2.1.lt, hW.2.2.trans (hb.mono hW.2.2.size)⟩
 have fn : ∀ W, (HeldA w0 A P W m v ∧ Blk W C 111 #[.int .i64 1, .iface 133 (.pointer (some ⟨A, 0, none⟩))] ∧ Below w.heap.size w W) → Calls Tryz.prog 44 #[.int .u64 1] W fun e W' => e = .returned (.string (str [UInt8.ofNat 1])) ∧ (HeldA w0 A P W' m v ∧ Blk W' C 111 #[.int .i64 1, .iface 133 (.pointer (some ⟨A, 0, none⟩))] ∧ Below w.heap.size w W') := fun W hW => by
  have hc := Wirey.num_c 1 (by omega) W
  rw [he] at hc
  exact hc.mono fun _ _ ⟨a, b⟩ => ⟨a, step hW b⟩
 have fe : ∀ W, (HeldA w0 A P W m v ∧ Blk W C 111 #[.int .i64 1, .iface 133 (.pointer (some ⟨A, 0, none⟩))] ∧ Below w.heap.size w W) → Calls Tryz.prog 222 #[.pointer (some ⟨A, 0, none⟩)] W fun e W' => e = .returned (.string (str v.put)) ∧ (HeldA w0 A P W' m v ∧ Blk W' C 111 #[.int .i64 1, .iface 133 (.pointer (some ⟨A, 0, none⟩))] ∧ Below w.heap.size w W') := fun W hW => (Arcy.expA_c hW.1).mono fun _ _ ⟨a, b⟩ => ⟨a, step hW b.b⟩
 have cs : ∀ {W : World}, (HeldA w0 A P W m v ∧ Blk W C 111 #[.int .i64 1, .iface 133 (.pointer (some ⟨A, 0, none⟩))] ∧ Below w.heap.size w W) → W.cell? ⟨C, 0, none⟩ = some (.int .i64 1) ∧ W.cell? ⟨C, 1, none⟩ = some (.iface 133 (.pointer (some ⟨A, 0, none⟩))) ∧ (HeldA w0 A P W m v ∧ Blk W C 111 #[.int .i64 1, .iface 133 (.pointer (some ⟨A, 0, none⟩))] ∧ Below w.heap.size w W) := fun hW => ⟨hW.2.1.cell 0, hW.2.1.cell 1, hW⟩
 have h1 := cs (step (W' := w.drewN 1) ⟨h, box, Below.refl _ _⟩ ⟨rfl, rfl, rfl, Nat.le_refl _, fun _ _ => rfl⟩)
 clear he h box step hlen
 go_enter Tryz.func21, Tryz.ntmps21
 go_wp2_with fail
 refine hm.mono ?_
 rintro e w' ⟨rfl, rfl⟩
 go_upto_region 3 with (fail)
 refine region_only 13 #[false, false, false, false, false, false, false, false, false, false, false, false, false] (S := (fun W => W.cell? ⟨C, 0, none⟩ = some (.int .i64 1) ∧ W.cell? ⟨C, 1, none⟩ = some (.iface 133 (.pointer (some ⟨A, 0, none⟩))) ∧ (HeldA w0 A P W m v ∧ Blk W C 111 #[.int .i64 1, .iface 133 (.pointer (some ⟨A, 0, none⟩))] ∧ Below w.heap.size w W))) rfl rfl (by kernel_rfl) h1 (fun hSw => ?_)
 refine tkA 0 6 12 ?_ rfl rfl ?_ hSw ?_
 rotate_left
 ·intro wx hSx; (try dsimp only at hSx); go_split_ands; go_simp; (try with_reducible rfl)
 simp only [sA, List.set_cons_zero, sC]
 refine tkA 1 7 11 ?_ rfl rfl ?_ hSw ?_
 rotate_left
 ·intro wx hSx; (try dsimp only at hSx); go_split_ands; go_simp; (try with_reducible rfl)
 simp only [sA, List.set_cons_zero, sC]
 refine tkA 2 8 10 ?_ rfl rfl ?_ hSw ?_
 rotate_left
 ·intro wx hSx; (try dsimp only at hSx); go_split_ands; go_simp; (try with_reducible rfl)
 simp only [sA, List.set_cons_zero, sC]
 refine tkA 3 9 9 ?_ rfl rfl ?_ hSw ?_
 rotate_left
 ·intro wx hSx; (try dsimp only at hSx); go_split_ands; go_simp; (try with_reducible rfl)
 simp only [sA, List.set_cons_zero, sC]
 refine tkA 4 10 8 ?_ rfl rfl ?_ hSw ?_
 rotate_left
 ·intro wx hSx; (try dsimp only at hSx); go_split_ands; go_simp; (try with_reducible rfl)
 simp only [sA, List.set_cons_zero, sC]
 refine tkA 6 12 7 ?_ rfl rfl ?_ hSw ?_
 rotate_left
 ·intro wx hSx; (try dsimp only at hSx); go_split_ands; go_simp; (try with_reducible rfl)
 simp only [sA, List.set_cons_zero, sC]
 refine tkA 7 13 6 ?_ rfl rfl ?_ hSw ?_
 rotate_left
 ·intro wx hSx; (try dsimp only at hSx); go_split_ands; go_simp; (try with_reducible rfl)
 simp only [sA, List.set_cons_zero, sC]
 refine tkA 8 14 5 ?_ rfl rfl ?_ hSw ?_
 rotate_left
 ·intro wx hSx; (try dsimp only at hSx); go_split_ands; go_simp; (try with_reducible rfl)
 simp only [sA, List.set_cons_zero, sC]
 refine tkA 9 15 4 ?_ rfl rfl ?_ hSw ?_
 rotate_left
 ·intro wx hSx; (try dsimp only at hSx); go_split_ands; go_simp; (try with_reducible rfl)
 simp only [sA, List.set_cons_zero, sC]
 refine rdA 3 5 rfl fun K hK => ?_
 go_simp
 refine Calls.mono (fn _ hSw.2.2) ?_
 rintro e wv ⟨rfl, hwv⟩
 refine hK.out _ _ (cs hwv) (fun hSw => ?_)
 clear hK K
 simp only [sA, List.set_cons_zero, sC]
 refine rdA 2 10 rfl fun K hK => ?_
 go_simp
 refine Calls.mono (fe _ hSw.2.2) ?_
 rintro e wv ⟨rfl, hwv⟩
 refine hK.out _ _ (cs hwv) (fun hSw => ?_)
 clear hK K
 simp only [sA, List.set_cons_zero, sC]
 refine tkA 11 17 1 ?_ rfl rfl ?_ hSw ?_
 rotate_left
 ·intro wx hSx; (try dsimp only at hSx); go_split_ands; go_simp; (try with_reducible rfl)
 simp only [sA, List.set_cons_zero, sC]
 refine tkA 12 2 0 ?_ rfl rfl ?_ hSw ?_
 rotate_left
 ·intro wx hSx; (try dsimp only at hSx); go_split_ands; go_simp; (try with_reducible rfl)
 simp only [sA, List.set_cons_zero, sC]
 refine wpAnyH_done (by kernel_rfl) ⟨rfl, ?_⟩ 0
 have hZ := hSw.2.2.2.2
 go_wp2_with fail
 go_ret
 exact ⟨rfl, hZ⟩
set_option maxHeartbeats 2000000 in
set_option maxRecDepth 100000 in
theorem exportT_c {v : Tv} (hv : v.Fine) (hlen : v.put.length ≤ 3000000) (h : HeldT w0 A B P w m v) (box : Blk w C 111 #[.int .i64 2, .iface 136 (.pointer (some ⟨A, 0, none⟩))]) :
  Calls Tryz.prog 21 #[.pointer (some ⟨C, 0, none⟩)] w fun e w' => e = .returned (.string (str (UInt8.ofNat 2 :: v.put))) ∧ Below w.heap.size w w' := by
 have hm := made_p box
 have hmt := mTExport
 have hcat := str_cat
 have hsz := str_size
 have hl : ¬ (9223372036854775807 < 1 + v.put.length) := by omega
 have he : enc 2 = [UInt8.ofNat 2] := Wirey.enc_small (by omega)
 have step : ∀ {W W' : World}, (HeldT w0 A B P W m v ∧ Blk W C 111 #[.int .i64 2, .iface 136 (.pointer (some ⟨A, 0, none⟩))] ∧ Below w.heap.size w W) → Below W.heap.size W W' → (HeldT w0 A B P W' m v ∧ Blk W' C 111 #[.int .i64 2, .iface 136 (.pointer (some ⟨A, 0, none⟩))] ∧ Below w.heap.size w W') := fun {W W'} hW hb => ⟨hW.1.later hb (Nat.le_refl _), hW.2.1.below hb hW.2.1.lt, hW.2.2.trans (hb.mono hW.2.2.size)⟩
 have fn : ∀ W, (HeldT w0 A B P W m v ∧ Blk W C 111 #[.int .i64 2, .iface 136 (.pointer (some ⟨A, 0, none⟩))] ∧ Below w.heap.size w W) → Calls Tryz.prog 44 #[.int .u64 2] W fun e W' => e = .returned (.string (str [UInt8.ofNat 2])) ∧ (HeldT w0 A B P W' m v ∧ Blk W' C 111 #[.int .i64 2, .iface 136 (.pointer (some ⟨A, 0, none⟩))] ∧ Below w.heap.size w W') := fun W hW => by
  have hc := Wirey.num_c 2 (by omega) W
  rw [he] at hc
  exact hc.mono fun _ _ ⟨a, b⟩ => ⟨a, step hW b⟩
 have fe : ∀ W, (HeldT w0 A B P W m v ∧ Blk W C 111 #[.int .i64 2, .iface 136 (.pointer (some ⟨A, 0, none⟩))] ∧ Below w.heap.size w W) → Calls Tryz.prog 242 #[.pointer (some ⟨A, 0, none⟩)] W fun e W' => e = .returned (.string (str v.put)) ∧ (HeldT w0 A B P W' m v ∧ Blk W' C 111 #[.int .i64 2, .iface 136 (.pointer (some ⟨A, 0, none⟩))] ∧ Below w.heap.size w W') := fun W hW => (Tinyy.expT_c hv hW.1).mono fun _ _ ⟨a, b⟩ => ⟨a, step hW b.b⟩
 have cs : ∀ {W : World}, (HeldT w0 A B P W m v ∧ Blk W C 111 #[.int .i64 2, .iface 136 (.pointer (some ⟨A, 0, none⟩))] ∧ Below w.heap.size w W) → W.cell? ⟨C, 0, none⟩ = some (.int .i64 2) ∧ W.cell? ⟨C, 1, none⟩ = some (.iface 136 (.pointer (some ⟨A, 0, none⟩))) ∧ (HeldT w0 A B P W m v ∧ Blk W C 111 #[.int .i64 2, .iface 136 (.pointer (some ⟨A, 0, none⟩))] ∧ Below w.heap.size w W) := fun hW => ⟨hW.2.1.cell 0, hW.2.1.cell 1, hW⟩
 have h1 := cs (step (W' := w.drewN 1) ⟨h, box, Below.refl _ _⟩ ⟨rfl, rfl, rfl, Nat.le_refl _, fun _ _ => rfl⟩)
 clear he h box step hlen
 go_enter Tryz.func21, Tryz.ntmps21
 go_wp2_with fail
 refine hm.mono ?_
 rintro e w' ⟨rfl, rfl⟩
 go_upto_region 3 with (fail)
 refine region_only 13 #[false, false, false, false, false, false, false, false, false, false, false, false, false] (S := (fun W => W.cell? ⟨C, 0, none⟩ = some (.int .i64 2) ∧ W.cell? ⟨C, 1, none⟩ = some (.iface 136 (.pointer (some ⟨A, 0, none⟩))) ∧ (HeldT w0 A B P W m v ∧ Blk W C 111 #[.int .i64 2, .iface 136 (.pointer (some ⟨A, 0, none⟩))] ∧ Below w.heap.size w W))) rfl rfl (by kernel_rfl) h1 (fun hSw => ?_)
 refine tkA 0 6 12 ?_ rfl rfl ?_ hSw ?_
 rotate_left
 ·intro wx hSx; (try dsimp only at hSx); go_split_ands; go_simp; (try with_reducible rfl)
 simp only [sA, List.set_cons_zero, sC]
 refine tkA 1 7 11 ?_ rfl rfl ?_ hSw ?_
 rotate_left
 ·intro wx hSx; (try dsimp only at hSx); go_split_ands; go_simp; (try with_reducible rfl)
 simp only [sA, List.set_cons_zero, sC]
 refine tkA 2 8 10 ?_ rfl rfl ?_ hSw ?_
 rotate_left
 ·intro wx hSx; (try dsimp only at hSx); go_split_ands; go_simp; (try with_reducible rfl)
 simp only [sA, List.set_cons_zero, sC]
 refine tkA 3 9 9 ?_ rfl rfl ?_ hSw ?_
 rotate_left
 ·intro wx hSx; (try dsimp only at hSx); go_split_ands; go_simp; (try with_reducible rfl)
 simp only [sA, List.set_cons_zero, sC]
 refine tkA 4 10 8 ?_ rfl rfl ?_ hSw ?_
 rotate_left
 ·intro wx hSx; (try dsimp only at hSx); go_split_ands; go_simp; (try with_reducible rfl)
 simp only [sA, List.set_cons_zero, sC]
 refine tkA 6 12 7 ?_ rfl rfl ?_ hSw ?_
 rotate_left
 ·intro wx hSx; (try dsimp only at hSx); go_split_ands; go_simp; (try with_reducible rfl)
 simp only [sA, List.set_cons_zero, sC]
 refine tkA 7 13 6 ?_ rfl rfl ?_ hSw ?_
 rotate_left
 ·intro wx hSx; (try dsimp only at hSx); go_split_ands; go_simp; (try with_reducible rfl)
 simp only [sA, List.set_cons_zero, sC]
 refine tkA 8 14 5 ?_ rfl rfl ?_ hSw ?_
 rotate_left
 ·intro wx hSx; (try dsimp only at hSx); go_split_ands; go_simp; (try with_reducible rfl)
 simp only [sA, List.set_cons_zero, sC]
 refine tkA 9 15 4 ?_ rfl rfl ?_ hSw ?_
 rotate_left
 ·intro wx hSx; (try dsimp only at hSx); go_split_ands; go_simp; (try with_reducible rfl)
 simp only [sA, List.set_cons_zero, sC]
 refine rdA 3 5 rfl fun K hK => ?_
 go_simp
 refine Calls.mono (fn _ hSw.2.2) ?_
 rintro e wv ⟨rfl, hwv⟩
 refine hK.out _ _ (cs hwv) (fun hSw => ?_)
 clear hK K
 simp only [sA, List.set_cons_zero, sC]
 refine rdA 2 10 rfl fun K hK => ?_
 go_simp
 refine Calls.mono (fe _ hSw.2.2) ?_
 rintro e wv ⟨rfl, hwv⟩
 refine hK.out _ _ (cs hwv) (fun hSw => ?_)
 clear hK K
 simp only [sA, List.set_cons_zero, sC]
 refine tkA 11 17 1 ?_ rfl rfl ?_ hSw ?_
 rotate_left
 ·intro wx hSx; (try dsimp only at hSx); go_split_ands; go_simp; (try with_reducible rfl)
 simp only [sA, List.set_cons_zero, sC]
 refine tkA 12 2 0 ?_ rfl rfl ?_ hSw ?_
 rotate_left
 ·intro wx hSx; (try dsimp only at hSx); go_split_ands; go_simp; (try with_reducible rfl)
 simp only [sA, List.set_cons_zero, sC]
 refine wpAnyH_done (by kernel_rfl) ⟨rfl, ?_⟩ 0
 have hZ := hSw.2.2.2.2
 go_wp2_with fail
 go_ret
 exact ⟨rfl, hZ⟩
theorem exportP_c (hg : p.Out) (h : HeldP w0 C w p H) :
  Calls Tryz.prog 21 #[.pointer (some ⟨C, 0, none⟩)] w fun e w' => e = .returned (.string (str p.put)) ∧ Ex w0 C p H w w' := by
 rw [Pv.put_eq]
 have hl := hg.body_len
 cases h with
 | a h box lo nA no => exact (exportA_c hl h box).mono fun _ _ ⟨a, b⟩ => ⟨a, (HeldP.a h box lo nA no).later b (Nat.le_refl _), b⟩
 | t h ok box lo nA no n6 => exact (exportT_c hg.fineT hl h box).mono fun _ _ ⟨a, b⟩ => ⟨a, (HeldP.t h ok box lo nA no n6).later b (Nat.le_refl _), b⟩
theorem HeldP.rebase {w1 : World} (h : HeldP w1 C x p H) (hb : Below w0.heap.size w0 x) (ho : ∀ q, H q → w0.heap.size ≤ q) : HeldP w0 C x p H := by
 cases h with
 | a h box lo nA no => exact .a ⟨⟨h.h.R, h.h.at_, hb, fun b hb => ho b (.inr (.inr hb))⟩, h.box, ho _ (.inr (.inl rfl)), h.no, h.ok⟩ box (ho _ (.inl rfl)) nA no
 | t h ok box lo nA no n6 => exact .t ⟨⟨h.h.R, h.h.at_, hb, fun b hb => ho b (.inr (.inr (.inl hb)))⟩, h.sk, h.box, ho _ (.inr (.inl rfl)), ho _ (.inr (.inr (.inr ⟨Nat.le_refl _, by omega⟩))), h.no, h.six, h.fit⟩ ok box (ho _ (.inl rfl)) nA no n6
structure NewP (lo C : Nat) (p : Pv) (H : Nat → Prop) (x : World) : Prop where
 h : HeldP { x with heap := #[] } C x p H
 own : ∀ q, H q → lo ≤ q
theorem any_below (x : World) (y : World) (h1 : y.os = x.os) (h2 : y.tape = x.tape) (h3 : y.output = x.output) : Below ({ x with heap := #[] } : World).heap.size { x with heap := #[] } y := ⟨h1, h2, h3, Nat.zero_le _, fun k hk => by simp at hk⟩
theorem NewP.kp {lo : Nat} {O : Nat → Prop} (h : NewP lo C p H x) (hk : Kp O x y) (hO : ∀ q, O q → q < lo) : NewP lo C p H y :=
 ⟨(h.h.kp hk fun q hq => ⟨by simp, fun hh => by have := h.own q hh; have := hO q hq; omega⟩).rebase (any_below y y rfl rfl rfl) (fun _ _ => by simp), h.own⟩
theorem NewP.low {lo lo' : Nat} (h : NewP lo C p H x) (hl : lo' ≤ lo) : NewP lo' C p H x := ⟨h.h, fun q hq => Nat.le_trans hl (h.own q hq)⟩
theorem NewP.held {lo : Nat} (h : NewP lo C p H x) (hb : Below w0.heap.size w0 x) (hlo : w0.heap.size ≤ lo) : HeldP w0 C x p H := h.h.rebase hb fun q hq => Nat.le_trans hlo (h.own q hq)
set_option maxHeartbeats 1000000 in
set_option maxRecDepth 100000 in
theorem takePA {v : Av} (hok : v.Ok) (hlen : v.put.length ≤ 3000000) {R O : Nat} (rest : List UInt8) (hrest : rest.length ≤ 10000000) (w : World) (h : RS w R O (enc 1 ++ (v.put ++ rest))) :
  Calls Tryz.prog 40 #[.pointer (some ⟨R, 0, none⟩)] w fun e w' => ∃ C H, e = .returned (.pointer (some ⟨C, 0, none⟩)) ∧ NewP w.heap.size C (.a v) H w' ∧ RS w' R O rest ∧ Kp (fun k => k = R ∨ k = O) w w' := by
 have he : (enc 1).length ≤ 10 := Ringy.enc_ten (by omega)
 have hm1 := num_ok 2 (numR_enc (n := 1) (by omega) (v.put ++ rest)) (by omega) (by simp only [List.length_append]; omega) w h
 rw [List.drop_left] at hm1
 have e2 : ((2 : Nat) : Int) = 2 := rfl
 have e1 : ((1 : Nat) : Int) = 1 := rfl
 rw [e2, e1] at hm1
 clear e1 e2 he h
 go_enter Tryz.func40, Tryz.ntmps40
 go_wp2_with fail
 refine hm1.mono ?_
 rintro e w1 ⟨rfl, hk1, hr1⟩
 have hp1 := Kp.of_kept (S := fun k => k = R ∨ k = O) hk1 (.inl rfl) (.inr rfl)
 go_wp2_with fail
 refine (must_ok _).mono ?_
 rintro e w' ⟨rfl, rfl⟩
 clear hm1 hk1
 go_wp2_with fail
 refine (Arcy.takeA_r hok rest hrest w1 hr1).mono ?_
 rintro e w2 ⟨A, m, rfl, hA, hb, hO, hAl, hno, hr2, hk2⟩
 have hs1 := hp1.size
 have hB := Blk.new w2 111 #[.int .i64 1, .iface 133 (.pointer (some ⟨A, 0, none⟩))]
 have hbb := (Below.refl _ w2).alloc (Nat.le_refl _) (.cells #[.int .i64 1, .iface 133 (.pointer (some ⟨A, 0, none⟩))] 111)
 have hr3 := hr2.below hbb
 have hk3 := (hp1.trans hk2).alloc (.cells #[.int .i64 1, .iface 133 (.pointer (some ⟨A, 0, none⟩))] 111)
 have hs2 := hk2.size
 have hH := Arcy.heldA_any hA hb hno hok
 have hlt := hb.lt
 have hP : HeldP { w2 with heap := #[] } w2.heap.size _ (.a v) _ := .a (hH.alloc (.cells #[.int .i64 1, .iface 133 (.pointer (some ⟨A, 0, none⟩))] 111)) hB (by simp) (by omega) (fun ho => by have := hH.h.lt _ ho; omega)
 have hN : NewP w.heap.size w2.heap.size (.a v) _ _ := ⟨hP.rebase (any_below _ _ rfl rfl rfl) (fun _ _ => by simp), by
   rintro q (rfl | rfl | hq)
   · omega
   · omega
   · have := hO q hq; omega⟩
 clear hA hb hO hno hr2 hk2 hB hbb hH hP hlt hp1 hr1
 go_wp2_with fail
 go_ret
 exact ⟨_, _, rfl, hN, hr3, hk3⟩
set_option maxHeartbeats 1000000 in
set_option maxRecDepth 100000 in
theorem takePT {v : Tv} (hok : v.Fine) (hOk : v.Ok) (hlen : v.put.length ≤ 3000000) {R O : Nat} (rest : List UInt8) (hrest : rest.length ≤ 10000000) (w : World) (h : RS w R O (enc 2 ++ (v.put ++ rest))) :
  Calls Tryz.prog 40 #[.pointer (some ⟨R, 0, none⟩)] w fun e w' => ∃ C H, e = .returned (.pointer (some ⟨C, 0, none⟩)) ∧ NewP w.heap.size C (.t v) H w' ∧ RS w' R O rest ∧ Kp (fun k => k = R ∨ k = O) w w' := by
 have he : (enc 2).length ≤ 10 := Ringy.enc_ten (by omega)
 have hm1 := num_ok 2 (numR_enc (n := 2) (by omega) (v.put ++ rest)) (by omega) (by simp only [List.length_append]; omega) w h
 rw [List.drop_left] at hm1
 have e2 : ((2 : Nat) : Int) = 2 := rfl
 have e1 : ((2 : Nat) : Int) = 2 := rfl
 rw [e2] at hm1
 clear e1 e2 he h
 go_enter Tryz.func40, Tryz.ntmps40
 go_wp2_with fail
 refine hm1.mono ?_
 rintro e w1 ⟨rfl, hk1, hr1⟩
 have hp1 := Kp.of_kept (S := fun k => k = R ∨ k = O) hk1 (.inl rfl) (.inr rfl)
 go_wp2_with fail
 refine (must_ok _).mono ?_
 rintro e w' ⟨rfl, rfl⟩
 clear hm1 hk1
 go_wp2_with fail
 refine (Tinyy.takeT_r hok hOk rest hrest w1 hr1).mono ?_
 rintro e w2 ⟨A, B, m, rfl, hN, hr2, hk2⟩
 have hs1 := hp1.size
 have hB := Blk.new w2 111 #[.int .i64 2, .iface 136 (.pointer (some ⟨A, 0, none⟩))]
 have hbb := (Below.refl _ w2).alloc (Nat.le_refl _) (.cells #[.int .i64 2, .iface 136 (.pointer (some ⟨A, 0, none⟩))] 111)
 have hr3 := hr2.below hbb
 have hk3 := (hp1.trans hk2).alloc (.cells #[.int .i64 2, .iface 136 (.pointer (some ⟨A, 0, none⟩))] 111)
 have hs2 := hk2.size
 have hH := hN.any hok.fit
 have hlt := hN.b.lt
 have hs6 := hN.s.lt
 have hP : HeldP { w2 with heap := #[] } w2.heap.size _ (.t v) _ := .t (hH.alloc (.cells #[.int .i64 2, .iface 136 (.pointer (some ⟨A, 0, none⟩))] 111)) hOk hB (by simp) (by omega) (fun ho => by have := hH.h.lt _ ho; omega) (fun ho => by have := ho.2; omega)
 have hN : NewP w.heap.size w2.heap.size (.t v) _ _ := ⟨hP.rebase (any_below _ _ rfl rfl rfl) (fun _ _ => by simp), by
   rintro q (rfl | rfl | hq | hq)
   · omega
   · have := hN.lA; omega
   · have := hN.own q hq; omega
   · have := hN.lB; have := hq.1; omega⟩
 clear hr2 hk2 hB hbb hH hP hlt hp1 hr1 hs6
 go_wp2_with fail
 go_ret
 exact ⟨_, _, rfl, hN, hr3, hk3⟩
theorem takeP_r (hg : p.Out) {R O : Nat} (rest : List UInt8) (hrest : rest.length ≤ 10000000) (w : World) (h : RS w R O (p.put ++ rest)) :
  Calls Tryz.prog 40 #[.pointer (some ⟨R, 0, none⟩)] w fun e w' => ∃ C H, e = .returned (.pointer (some ⟨C, 0, none⟩)) ∧ NewP w.heap.size C p H w' ∧ RS w' R O rest ∧ Kp (fun k => k = R ∨ k = O) w w' := by
 have hl := hg.body_len
 cases p with
 | a v => exact takePA hg.1 hl rest hrest w (by rw [← List.append_assoc]; exact h)
 | t v => exact takePT hg.fineT hg.1 hl rest hrest w (by rw [← List.append_assoc]; exact h)
theorem takeP_c (hg : p.Out) {R O : Nat} (w : World) (h : RS w R O p.put) :
  Calls Tryz.prog 40 #[.pointer (some ⟨R, 0, none⟩)] w fun e w' => ∃ C H, e = .returned (.pointer (some ⟨C, 0, none⟩)) ∧ NewP w.heap.size C p H w' ∧ RS w' R O [] ∧ Kp (fun k => k = R ∨ k = O) w w' :=
 takeP_r hg [] (by simp) w (by rw [List.append_nil]; exact h)
theorem enters_importP : ∀ (args : Array Value) (w : World), (callFunc 57 args).run Tryz.prog w = .ok (.enter 57 args) w := fun _ _ => by kernel_rfl
set_option maxHeartbeats 600000 in
theorem importP1_c (hg : p.Out) {R O Q : Nat} (w : World) (h : RS w R O p.put) (hP : Blk w Q 58 #[.pointer none]) (hPR : Q ≠ R) (hPO : Q ≠ O) :
  Calls Tryz.prog 57 #[.pointer (some ⟨R, 0, none⟩), .pointer (some ⟨Q, 0, none⟩)] w fun e w' => e = .returned (.tuple #[]) ∧ RS w' R O [] ∧ Kp (fun k => k = R ∨ k = O ∨ k = Q) w w' ∧ ∃ C H, w'.cell? ⟨Q, 0, none⟩ = some (.pointer (some ⟨C, 0, none⟩)) ∧ NewP w.heap.size C p H w' := by
 have hPl := hP.lt
 go_enter Tryz.func57, Tryz.ntmps57
 go_wp2_with fail
 refine (takeP_c hg w h).mono ?_
 rintro e u ⟨C, H, rfl, hN, hR, hK⟩
 have hP2 : Blk u Q 58 #[.pointer none] := hK.blk hP (by rintro (e | e); exact hPR e; exact hPO e)
 have c0 : u.cell? ⟨Q, 0, none⟩ = some (.pointer none) := hP2.cell 0
 have z0 := hP2.free 0
 have hP3 : (u.setCell ⟨Q, 0, none⟩ (.pointer (some ⟨C, 0, none⟩))).cell? ⟨Q, 0, none⟩ = some (.pointer (some ⟨C, 0, none⟩)) := (hP2.put 0 (.pointer (some ⟨C, 0, none⟩))).cell 0
 have hR3 : RS (u.setCell ⟨Q, 0, none⟩ (.pointer (some ⟨C, 0, none⟩))) R O [] := ⟨hR.rd.far (by show R ≠ Q; exact Ne.symm hPR) _, hR.of.far (by show O ≠ Q; exact Ne.symm hPO) _⟩
 have hN3 : NewP w.heap.size C p H (u.setCell ⟨Q, 0, none⟩ (.pointer (some ⟨C, 0, none⟩))) := hN.kp (O := fun q => q = Q) ((Kp.refl (fun q => q = Q) u).set (p := ⟨Q, 0, none⟩) rfl _) (fun q hq => by subst hq; exact hPl)
 have hK3 : Kp (fun k => k = R ∨ k = O ∨ k = Q) w (u.setCell ⟨Q, 0, none⟩ (.pointer (some ⟨C, 0, none⟩))) :=
  Kp.set (S := fun k => k = R ∨ k = O ∨ k = Q) ⟨hK.os, hK.tape, hK.output, hK.size, fun k hk hS => hK.block k hk (fun e => hS (by rcases e with e | e; exact .inl e; exact .inr (.inl e)))⟩ (p := ⟨Q, 0, none⟩) (.inr (.inr rfl)) _
 clear hN hR hK
 go_wp2_with fail
 go_end0
 exact ⟨rfl, hR3, hK3, C, H, hP3, hN3⟩
set_option maxHeartbeats 600000 in
theorem importP_c (hg : p.Out) (w : World) :
  Calls Tryz.prog 26 #[.string (str p.put)] w fun e w' => ∃ C H, e = .returned (.tuple #[.pointer (some ⟨C, 0, none⟩), .int .i64 0]) ∧ NewP w.heap.size C p H w' ∧ Below w.heap.size w w' := by
 have hP := Blk.new w 58 #[.pointer none]
 have hb := (Below.refl w.heap.size w).alloc (Nat.le_refl _) (.cells #[.pointer none] 58)
 have hmf : ∀ (fn : Fn) (first cap : Array Value) (w : World), (Instr.makeFunc fn first cap).run Tryz.prog w = .ok (.func fn first cap) w := fun _ _ _ _ => rfl
 have hsz : (w.alloc (.cells #[.pointer none] 58)).heap.size = w.heap.size + 1 := by simp
 go_enter Tryz.func26, Tryz.ntmps26
 go_wp2_with fail
 generalize w.alloc (.cells #[.pointer none] 58) = w1 at hP hb hsz ⊢
 refine (Wirey.read_ok2 _ enters_importP #[.pointer (some ⟨w.heap.size, 0, none⟩)] p.put [] w1 (fun j => j = w.heap.size)
   (fun w2 => ∃ C H, w2.cell? ⟨w.heap.size, 0, none⟩ = some (.pointer (some ⟨C, 0, none⟩)) ∧ NewP (w1.heap.size + 2) C p H w2)
   (fun j hj => by omega) ?_ ?_).mono ?_
 ·rintro w2 w3 hs ⟨C, H, h1, h2⟩ hk
  exact ⟨C, H, (World.cell?_of_block (hk.block w.heap.size (by omega) (by omega))).trans h1, h2.kp hk (fun k hk2 => by omega)⟩
 ·intro R O w2 hr hb2 hR hO
  have hne := hr.ne
  have hRl := hr.rd.lt
  have hOl := hr.of.lt
  refine (importP1_c hg w2 hr (hP.below hb2 (by omega)) (by omega) (by omega)).mono ?_
  rintro e w3 ⟨rfl, h1, h2, C, H, h3, h4⟩
  exact ⟨rfl, h1, h2, C, H, h3, h4.low (by omega)⟩
 rintro e w2 ⟨rfl, hk, C, H, h1, h2⟩
 have hB : Below w.heap.size w w2 := ⟨hk.os.trans hb.os, hk.tape.trans hb.tape, hk.output.trans hb.output, Nat.le_trans hb.size hk.size, fun k hkl => (hk.block k (by omega) (by omega)).trans (hb.block k hkl)⟩
 rw [Wirey.endE_nil]
 go_wp2_with fail
 go_ret2
 exact ⟨C, H, rfl, h2.low (by omega), hB⟩
end
end Go.Proofs.YtkiabladmgagdabGreatDoor.Policyy
