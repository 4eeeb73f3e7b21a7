/- Contracts of the program's Arc: room for a key, and Insert, Remove, Evict. The only condition: a key is no longer than a text may be. Contracts of the program's Insert, Remove, Evict. The only condition: a key is no longer than a text may be. Contracts of the program's New, and of what the laws of layer 7 begin with. No condition. -/
import Derived.Test.YtkiabladmgagdabGreatDoorArcDoAll
import Derived.Test.YtkiabladmgagdabGreatDoorRingRoundAll
import Derived.Test.YtkiabladmgagdabGreatDoorSq
namespace Go.Proofs.YtkiabladmgagdabGreatDoor.Arcy
open Go.ChangeShapes Go.WideShapes Go.ChangeAt Go.RowKit
open Wirey (Blk Row str str_size str_list Kp)
open Ringy

section
variable {w0 w w' w'' : World} {A P : Nat} {m m' m'' : Rm} {v : Av} {k : Key}
structure Beside (w0 : World) (A P : Nat) (wb : World) (m : Rm) (v : Av) (w : World) : Prop where
 h : HeldA w0 A P w m v
 s : StepA A wb m w m
theorem Beside.drewN (h : Beside w0 A P w m v w') (n : Nat) : Beside w0 A P w m v (w'.drewN n) := ⟨h.h.drewN n, h.s.drewN n⟩
theorem Beside.drew (h : Beside w0 A P w m v w') : Beside w0 A P w m v w'.drew := ⟨h.h.drew, h.s.drew⟩
theorem Beside.alloc (h : Beside w0 A P w m v w') (o : Obj) : Beside w0 A P w m v (w'.alloc o) := ⟨h.h.alloc o, h.s.alloc o⟩
theorem Beside.of (h : HeldA w0 A P w m v) : Beside w0 A P w m v w := ⟨h, StepA.refl _ _ _⟩
theorem b1 (h : Beside w0 A P w m v w') : w'.cell? ⟨A, 0, none⟩ = some (.int .i64 v.most) ∧ Beside w0 A P w m v w' := ⟨h.h.cells.1, h⟩
theorem bA {x : World} (h : x.cell? ⟨A, 0, none⟩ = some (.int .i64 v.most) ∧ Beside w0 A P w m v x) (o : Obj) : (x.alloc o).cell? ⟨A, 0, none⟩ = some (.int .i64 v.most) ∧ Beside w0 A P w m v (x.alloc o) := b1 (h.2.alloc o)
theorem bD {x : World} (h : x.cell? ⟨A, 0, none⟩ = some (.int .i64 v.most) ∧ Beside w0 A P w m v x) : x.drew.cell? ⟨A, 0, none⟩ = some (.int .i64 v.most) ∧ Beside w0 A P w m v x.drew := b1 h.2.drew
theorem onto {f : FuncId} {args : Array Value} {W : World} {x : Ending} (hB : Beside w0 A P w m v W) (h : Calls Tryz.prog f args W fun e w' => e = x ∧ W = w') : Calls Tryz.prog f args W fun e w' => e = x ∧ Beside w0 A P w m v w' := h.mono fun _ _ ⟨a, b⟩ => ⟨a, b ▸ hB⟩
set_option maxHeartbeats 1000000 in
theorem makeRoom_c (b : Bool) (h : HeldA w0 A P w m v) :
  Calls Tryz.prog 237 #[.pointer (some ⟨A, 0, none⟩), .bool b] w fun e w' => ∃ val m', e = .returned val ∧ HeldA w0 A P w' m' (v.room b) ∧ StepA A w m w' m' ∧ Tell w.heap.size A m' val (v.roomK b) w' := by
 have hok := h.ok
 have hB := Beside.of h
 have hd := b1 hB.drew
 have hm1 := h.ok.m1
 have hkm := h.ok.kept
 have hkm2 := h.ok.m2
 have HH := Lib.hid hok
 clear h hok
 unfold Av.room Av.roomK
 by_cases e : v.kept < v.most
 ·rw [if_pos e, if_pos e]
  have e' : decide ((v.kept : Int) < (v.most : Int)) = true := decide_eq_true (by omega)
  go_enter Tryz.func237, Tryz.ntmps237
  go_wp2_with fail
  go_region_held3 (fun w' => w'.cell? ⟨A, 0, none⟩ = some (.int .i64 v.most) ∧ Beside w0 A P w m v w')
   (first | exact hd | exact bA (by assumption) _ | exact bD (by assumption) | exact b1 (by assumption) | exact b1 (Beside.drewN hB _) | go_keep)
   (first | (go_at_call 133; refine (lenA_c (And.right (by assumption : _ ∧ Beside w0 A P w m v _)).h).mono ?_; rintro e v ⟨rfl, o, rfl⟩))
  have hx := And.right (by assumption : _ ∧ Beside w0 A P w m v _)
  go_wp2_with fail
  go_ret
  exact ⟨_, m, rfl, hx.h, hx.s, Tell.nil _ _ _ _⟩
 ·rw [if_neg e, if_neg e]
  have e' : decide ((v.kept : Int) < (v.most : Int)) = false := decide_eq_false (by omega)
  obtain ⟨k, hk, -⟩ := Av.repl_went HH.out b (by omega)
  have hr := fun W (hW : HeldA w0 A P W m v) => replace_c b hW
  rw [hk] at hr ⊢
  go_enter Tryz.func237, Tryz.ntmps237
  go_wp2_with fail
  go_region_held3 (fun w' => w'.cell? ⟨A, 0, none⟩ = some (.int .i64 v.most) ∧ Beside w0 A P w m v w')
   (first | exact hd | exact bA (by assumption) _ | exact bD (by assumption) | exact b1 (by assumption) | exact b1 (Beside.drewN hB _) | go_keep)
   (first | (go_at_call 133; refine (lenA_c (And.right (by assumption : _ ∧ Beside w0 A P w m v _)).h).mono ?_; rintro e v ⟨rfl, o, rfl⟩))
  have hx := And.right (by assumption : _ ∧ Beside w0 A P w m v _)
  go_wp2_with fail
  refine (hr _ hx.h).mono ?_
  rintro e w2 ⟨rfl, m2, h2, hS2⟩
  have hS := hx.s.trans hS2
  go_wp2_with fail
  go_ret
  exact ⟨_, m2, rfl, h2.alloc _, hS.alloc _, Tell.lit h2 hS.kp.size k⟩
set_option maxHeartbeats 2000000 in
set_option maxRecDepth 100000 in
theorem roomForNew_c (h : HeldA w0 A P w m v) :
  Calls Tryz.prog 236 #[.pointer (some ⟨A, 0, none⟩)] w fun e w' => ∃ val m', e = .returned val ∧ HeldA w0 A P w' m' v.fresh ∧ StepA A w m w' m' ∧ Tell w.heap.size A m' val v.freshK w' := by
 have hok := h.ok
 have hB := Beside.of h
 have hm1 := h.ok.m1
 have hkm := h.ok.kept
 have hkm2 := h.ok.m2
 have hone := h.ok.one
 have hall := h.ok.all
 have hl0 := hok.len_le (i := 0) (by omega)
 have HH := Lib.hid hok
 have a' : v.len 0 + v.len 1 = v.kept := rfl
 have b' : v.len 0 + v.len 2 = v.one := rfl
 have c' : v.len 0 + v.len 1 + v.len 2 + v.len 3 = v.all := rfl
 clear h hok
 unfold Av.fresh Av.freshK
 by_cases e1 : v.most ≤ v.len 0
 ·rw [if_pos e1, if_pos e1]
  have d1 : decide ((v.most : Int) ≤ (v.len 0 : Int)) = true := decide_eq_true (by omega)
  obtain ⟨k, hk⟩ := Av.last_of (v := v) (i := 0) (by omega)
  have hr := fun W (hW : HeldA w0 A P W m v) => forget_c (i := 0) (by omega) hk hW
  rw [hk]
  clear a' b' c'
  go_enter Tryz.func236, Tryz.ntmps236
  go_wp2_with fail
  go_region_held3 (fun w' => w'.cell? ⟨A, 0, none⟩ = some (.int .i64 v.most) ∧ Beside w0 A P w m v w')
   (first | exact (b1 (hB).drew) | exact bA (by assumption) _ | exact bD (by assumption) | exact b1 (by assumption) | exact b1 (Beside.drewN hB _) | go_keep)
   (first | (go_at_call 131; refine (onto (And.right (by assumption : _ ∧ Beside w0 A P w m v _)) (count1 (i := 0) (a := 0) rfl (by omega) (Blk_drew (Blk.new _ 3 #[.int .i64 0])) (And.right (by assumption : _ ∧ Beside w0 A P w m v _)).h)).mono ?_; rintro e wv ⟨rfl, hbv⟩))
  have hx := And.right (by assumption : _ ∧ Beside w0 A P w m v _)
  go_wp2_with fail
  refine (hr _ hx.h).mono ?_
  rintro e w2 ⟨rfl, m2, h2, hS2⟩
  have hS := hx.s.trans hS2
  go_wp2_with fail
  go_ret
  exact ⟨_, m2, rfl, h2.alloc _, hS.alloc _, Tell.lit h2 hS.kp.size k⟩
 ·rw [if_neg e1, if_neg e1]
  have d1 : decide ((v.most : Int) ≤ (v.len 0 : Int)) = false := decide_eq_false (by omega)
  unfold Av.shut
  by_cases e2 : v.most ≤ v.one
  ·rw [if_pos e2]
   have d2 : decide ((v.most : Int) ≤ ((v.len 0 + v.len 2 : Nat) : Int)) = true := decide_eq_true (by omega)
   have d2' : decide ((v.most : Int) ≤ (v.len 0 : Int) + (v.len 2 : Int)) = true := decide_eq_true (by omega)
   obtain ⟨k, hk⟩ := Av.last_of (v := v) (i := 2) (by omega)
   have hr := fun W (hW : HeldA w0 A P W m v) => forget_c (i := 2) (by omega) hk hW
   have HA := Lib.hid b'
   clear a' b' c'
   go_enter Tryz.func236, Tryz.ntmps236
   go_wp2_with fail
   go_region_held3 (fun w' => w'.cell? ⟨A, 0, none⟩ = some (.int .i64 v.most) ∧ Beside w0 A P w m v w')
    (first | exact (b1 (hB).drew) | exact bA (by assumption) _ | exact bD (by assumption) | exact b1 (by assumption) | exact b1 (Beside.drewN hB _) | go_keep)
    (first | (go_at_call 131; refine (onto (And.right (by assumption : _ ∧ Beside w0 A P w m v _)) (count1 (i := 0) (a := 0) rfl (by omega) (Blk_drew (Blk.new _ 3 #[.int .i64 0])) (And.right (by assumption : _ ∧ Beside w0 A P w m v _)).h)).mono ?_; rintro e wv ⟨rfl, hbv⟩))
   have hx := And.right (by assumption : _ ∧ Beside w0 A P w m v _)
   go_wp2_with fail
   go_region_held3 (fun w' => w'.cell? ⟨A, 0, none⟩ = some (.int .i64 v.most) ∧ Beside w0 A P w m v w')
    (first | exact (b1 (hx).drew) | exact bA (by assumption) _ | exact bD (by assumption) | exact b1 (by assumption) | exact b1 (Beside.drewN hx _) | go_keep)
    (first | (go_at_call 131; refine (onto (And.right (by assumption : _ ∧ Beside w0 A P w m v _)) (count2 (a := 0) (b := 2) (x := 0) (y := 2) rfl rfl (by omega) (by omega) (Blk_drew (Blk.new _ 3 #[.int .i64 0, .int .i64 2])) (And.right (by assumption : _ ∧ Beside w0 A P w m v _)).h)).mono ?_; rintro e wv ⟨rfl, hbv⟩))
   have hy := And.right (by assumption : _ ∧ Beside w0 A P w m v _)
   go_wp2_with fail
   refine (hr _ hy.h).mono ?_
   rintro e w2 ⟨rfl, m2, h2, hS2⟩
   have hS := hy.s.trans hS2
   go_wp2_with fail
   refine (makeRoom_c false h2).mono ?_
   rintro e w3 ⟨val, m3, rfl, h3, hS3, hT⟩
   go_wp2_with fail
   go_ret
   exact ⟨_, m3, rfl, h3, hS.trans hS3, ⟨own_mono hT.row hS.kp.size, hT.no⟩⟩
  ·rw [if_neg e2]
   have d2 : decide ((v.most : Int) ≤ ((v.len 0 + v.len 2 : Nat) : Int)) = false := decide_eq_false (by omega)
   have d2' : decide ((v.most : Int) ≤ (v.len 0 : Int) + (v.len 2 : Int)) = false := decide_eq_false (by omega)
   by_cases e3 : 2 * v.most ≤ v.all
   ·rw [if_pos e3]
    have d3 : decide (2 * (v.most : Int) ≤ (v.all : Int)) = true := decide_eq_true (by omega)
    obtain ⟨k, hk⟩ := Av.last_of (v := v) (i := 3) (by omega)
    have hr := fun W (hW : HeldA w0 A P W m v) => forget_c (i := 3) (by omega) hk hW
    clear a' b' c'
    go_enter Tryz.func236, Tryz.ntmps236
    go_wp2_with fail
    go_region_held3 (fun w' => w'.cell? ⟨A, 0, none⟩ = some (.int .i64 v.most) ∧ Beside w0 A P w m v w')
     (first | exact (b1 (hB).drew) | exact bA (by assumption) _ | exact bD (by assumption) | exact b1 (by assumption) | exact b1 (Beside.drewN hB _) | go_keep)
     (first | (go_at_call 131; refine (onto (And.right (by assumption : _ ∧ Beside w0 A P w m v _)) (count1 (i := 0) (a := 0) rfl (by omega) (Blk_drew (Blk.new _ 3 #[.int .i64 0])) (And.right (by assumption : _ ∧ Beside w0 A P w m v _)).h)).mono ?_; rintro e wv ⟨rfl, hbv⟩))
    have hx := And.right (by assumption : _ ∧ Beside w0 A P w m v _)
    go_wp2_with fail
    go_region_held3 (fun w' => w'.cell? ⟨A, 0, none⟩ = some (.int .i64 v.most) ∧ Beside w0 A P w m v w')
     (first | exact (b1 (hx).drew) | exact bA (by assumption) _ | exact bD (by assumption) | exact b1 (by assumption) | exact b1 (Beside.drewN hx _) | go_keep)
     (first | (go_at_call 131; refine (onto (And.right (by assumption : _ ∧ Beside w0 A P w m v _)) (count2 (a := 0) (b := 2) (x := 0) (y := 2) rfl rfl (by omega) (by omega) (Blk_drew (Blk.new _ 3 #[.int .i64 0, .int .i64 2])) (And.right (by assumption : _ ∧ Beside w0 A P w m v _)).h)).mono ?_; rintro e wv ⟨rfl, hbv⟩))
    have hy := And.right (by assumption : _ ∧ Beside w0 A P w m v _)
    have u4 : IntKind.i64.wrap (2 * (v.most : Int)) = 2 * (v.most : Int) := by rw [IntKind.wrap_i64]; omega
    go_wp2_with fail
    go_region_held3 (fun w' => w'.cell? ⟨A, 0, none⟩ = some (.int .i64 v.most) ∧ Beside w0 A P w m v w')
     (first | exact (b1 (hy).drew) | exact bA (by assumption) _ | exact bD (by assumption) | exact b1 (by assumption) | exact b1 (Beside.drewN hy _) | go_keep)
     (first | (go_at_call 131; refine (onto (And.right (by assumption : _ ∧ Beside w0 A P w m v _)) (count4 (Blk_drew (Blk.new _ 3 #[.int .i64 0, .int .i64 1, .int .i64 2, .int .i64 3])) (And.right (by assumption : _ ∧ Beside w0 A P w m v _)).h)).mono ?_; rintro e wv ⟨rfl, hbv⟩))
    have hz := And.right (by assumption : _ ∧ Beside w0 A P w m v _)
    clear u4
    go_wp2_with fail
    refine (hr _ hz.h).mono ?_
    rintro e w2 ⟨rfl, m2, h2, hS2⟩
    have hS := hz.s.trans hS2
    go_wp2_with fail
    refine (makeRoom_c false h2).mono ?_
    rintro e w3 ⟨val, m3, rfl, h3, hS3, hT⟩
    go_wp2_with fail
    go_ret
    exact ⟨_, m3, rfl, h3, hS.trans hS3, ⟨own_mono hT.row hS.kp.size, hT.no⟩⟩
   ·rw [if_neg e3]
    have d3 : decide (2 * (v.most : Int) ≤ (v.all : Int)) = false := decide_eq_false (by omega)
    clear a' b' c'
    go_enter Tryz.func236, Tryz.ntmps236
    go_wp2_with fail
    go_region_held3 (fun w' => w'.cell? ⟨A, 0, none⟩ = some (.int .i64 v.most) ∧ Beside w0 A P w m v w')
     (first | exact (b1 (hB).drew) | exact bA (by assumption) _ | exact bD (by assumption) | exact b1 (by assumption) | exact b1 (Beside.drewN hB _) | go_keep)
     (first | (go_at_call 131; refine (onto (And.right (by assumption : _ ∧ Beside w0 A P w m v _)) (count1 (i := 0) (a := 0) rfl (by omega) (Blk_drew (Blk.new _ 3 #[.int .i64 0])) (And.right (by assumption : _ ∧ Beside w0 A P w m v _)).h)).mono ?_; rintro e wv ⟨rfl, hbv⟩))
    have hx := And.right (by assumption : _ ∧ Beside w0 A P w m v _)
    go_wp2_with fail
    go_region_held3 (fun w' => w'.cell? ⟨A, 0, none⟩ = some (.int .i64 v.most) ∧ Beside w0 A P w m v w')
     (first | exact (b1 (hx).drew) | exact bA (by assumption) _ | exact bD (by assumption) | exact b1 (by assumption) | exact b1 (Beside.drewN hx _) | go_keep)
     (first | (go_at_call 131; refine (onto (And.right (by assumption : _ ∧ Beside w0 A P w m v _)) (count2 (a := 0) (b := 2) (x := 0) (y := 2) rfl rfl (by omega) (by omega) (Blk_drew (Blk.new _ 3 #[.int .i64 0, .int .i64 2])) (And.right (by assumption : _ ∧ Beside w0 A P w m v _)).h)).mono ?_; rintro e wv ⟨rfl, hbv⟩))
    have hy := And.right (by assumption : _ ∧ Beside w0 A P w m v _)
    have u4 : IntKind.i64.wrap (2 * (v.most : Int)) = 2 * (v.most : Int) := by rw [IntKind.wrap_i64]; omega
    go_wp2_with fail
    go_region_held3 (fun w' => w'.cell? ⟨A, 0, none⟩ = some (.int .i64 v.most) ∧ Beside w0 A P w m v w')
     (first | exact (b1 (hy).drew) | exact bA (by assumption) _ | exact bD (by assumption) | exact b1 (by assumption) | exact b1 (Beside.drewN hy _) | go_keep)
     (first | (go_at_call 131; refine (onto (And.right (by assumption : _ ∧ Beside w0 A P w m v _)) (count4 (Blk_drew (Blk.new _ 3 #[.int .i64 0, .int .i64 1, .int .i64 2, .int .i64 3])) (And.right (by assumption : _ ∧ Beside w0 A P w m v _)).h)).mono ?_; rintro e wv ⟨rfl, hbv⟩))
    have hz := And.right (by assumption : _ ∧ Beside w0 A P w m v _)
    clear u4
    have hS := hz.s
    go_wp2_with fail
    refine (makeRoom_c false hz.h).mono ?_
    rintro e w3 ⟨val, m3, rfl, h3, hS3, hT⟩
    go_wp2_with fail
    go_ret
    exact ⟨_, m3, rfl, h3, hS.trans hS3, ⟨own_mono hT.row hS.kp.size, hT.no⟩⟩
end
end Go.Proofs.YtkiabladmgagdabGreatDoor.Arcy
namespace Go.Proofs.YtkiabladmgagdabGreatDoor.Arcy
open Go.ChangeShapes Go.WideShapes Go.ChangeAt Go.RowKit
open Wirey (Blk Row str str_size str_list Kp)
open Ringy

section
variable {w0 w w' w'' : World} {A P : Nat} {m m' m'' : Rm} {v : Av} {k : Key}
theorem StepA.undrew (h : StepA A w.drew m w' m') : StepA A w m w' m' := ⟨⟨h.kp.os, h.kp.tape, h.kp.output, h.kp.size, h.kp.block⟩, h.own⟩
theorem div_nat (a b : Nat) (ha : a ≤ 2000) : wrap64 ((a : Int) / (b : Int)) = ((a / b : Nat) : Int) := by
 rw [← Int.natCast_ediv]
 have : a / b ≤ a := Nat.div_le_self _ _
 generalize a / b = q at *
 unfold wrap64
 omega
set_option maxHeartbeats 1000000 in
theorem step_c {i j : Nat} (hi : i < 4) (hj : j < 4) (hpos : 0 < v.len j) (h : HeldA w0 A P w m v) :
  Calls Tryz.prog 230 #[.pointer (some ⟨A, 0, none⟩), .int .i64 i, .int .i64 j] w fun e w' => e = .returned (.int .i64 ((max 1 (v.len i / v.len j) : Nat) : Int)) ∧ Beside w0 A P w m v w' := by
 have h1 := onto ((Beside.of h).alloc (.cells #[.int .i64 i] 3)) (count1 (i := i) rfl hi (Blk.new w 3 #[.int .i64 i]) (h.alloc _))
 have hl1 := h.ok.len_le hi
 have hl2 := h.ok.len_le hj
 have hd := Lib.hid (div_nat (v.len i) (v.len j) hl1)
 have hdl : v.len i / v.len j ≤ v.len i := Nat.div_le_self _ _
 clear h
 go_enter Tryz.func230, Tryz.ntmps230
 go_wp2_with fail
 refine h1.mono ?_
 rintro e w1 ⟨rfl, hB⟩
 have h2 := onto (hB.alloc (.cells #[.int .i64 j] 3)) (count1 (i := j) rfl hj (Blk.new w1 3 #[.int .i64 j]) (hB.h.alloc _))
 clear h1
 go_wp2_with fail
 refine h2.mono ?_
 rintro e w2 ⟨rfl, hB2⟩
 have hne : (v.len j : Int) ≠ 0 := by omega
 go_wp2_with fail
 all_goals
  go_ret
  refine ⟨?_, hB2⟩
  refine congrArg Ending.returned (congrArg (Value.int .i64) ?_)
  have hd := hd.out
  generalize wrap64 ((v.len i : Int) / (v.len j : Int)) = z at *
  subst hd
  generalize v.len i / v.len j = q at *
  omega
set_option maxHeartbeats 1000000 in
theorem insertAgain_c (b : Bool) {i : Nat} (hi : i = 2 ∨ i = 3) (hm : k ∈ v.rg.l i) (h : HeldA w0 A P w m v) :
  Calls Tryz.prog 231 #[.pointer (some ⟨A, 0, none⟩), .string (str k), .bool b] w fun e w' => ∃ val m', e = .returned val ∧ HeldA w0 A P w' m' ((v.room b).fr 1 k) ∧ StepA A w m w' m' ∧ Tell w.heap.size A m' val (v.roomK b) w' := by
 have hr := makeRoom_c b h
 have hok := (Av.again_ins h.ok b hi hm).ok
 have hkl := h.ok.klen (by omega) hm
 clear h
 go_enter Tryz.func231, Tryz.ntmps231
 go_wp2_with fail
 refine hr.mono ?_
 rintro e w1 ⟨val, m1, rfl, h1, hS1, hT1⟩
 obtain ⟨c0, c1, c2⟩ := h1.cells
 go_wp2_with fail
 refine (front_a (j := 1) (by omega) hkl h1 hok).mono ?_
 rintro e w2 ⟨rfl, m2, h2, hS2⟩
 go_wp2_with fail
 go_ret
 exact ⟨_, m2, rfl, h2, hS1.trans hS2, hT1.step hS2⟩
set_option maxHeartbeats 1000000 in
theorem insertNew_c (hk : k.length ≤ 64) (e : v.at_ k = none) (h : HeldA w0 A P w m v) :
  Calls Tryz.prog 229 #[.pointer (some ⟨A, 0, none⟩), .string (str k)] w fun e w' => ∃ val m', e = .returned val ∧ HeldA w0 A P w' m' (v.fresh.fr 0 k) ∧ StepA A w m w' m' ∧ Tell w.heap.size A m' val v.freshK w' := by
 have hr := roomForNew_c h
 have hok := (Av.ins_spec h.ok hk).ok
 rw [show v.ins k = v.fresh.fr 0 k by unfold Av.ins; rw [e]] at hok
 clear h e
 go_enter Tryz.func229, Tryz.ntmps229
 go_wp2_with fail
 refine hr.mono ?_
 rintro e w1 ⟨val, m1, rfl, h1, hS1, hT1⟩
 obtain ⟨c0, c1, c2⟩ := h1.cells
 go_wp2_with fail
 refine (front_a (j := 0) (by omega) hk h1 hok).mono ?_
 rintro e w2 ⟨rfl, m2, h2, hS2⟩
 go_wp2_with fail
 go_ret
 exact ⟨_, m2, rfl, h2, hS1.trans hS2, hT1.step hS2⟩
set_option maxHeartbeats 2000000 in
set_option maxRecDepth 100000 in
theorem insert_known (hk : k.length ≤ 64) {i : Nat} (hi : i < 2) (e : v.at_ k = some i) (h : HeldA w0 A P w m v) :
  Calls Tryz.prog 224 #[.pointer (some ⟨A, 0, none⟩), .string (str k)] w fun e w' => ∃ val m', e = .returned val ∧ HeldA w0 A P w' m' (v.fr 1 k) ∧ StepA A w m w' m' ∧ Tell w.heap.size A m' val [] w' := by
 have hm := made_c h
 have hin := in_some (by unfold maxLen; omega) e h
 have ht := touch_c (k := k) (by unfold maxLen; omega) h
 have hh : v.has k = true := by
  rw [Av.at_has h.ok, e]
  rcases (by omega : i = 0 ∨ i = 1) with rfl | rfl <;> rfl
 rw [show v.touch k = v.fr 1 k by unfold Av.touch; rw [if_pos hh]] at ht
 obtain ⟨c0, c1, c2⟩ := h.cells
 have hsz := str_size k
 clear h e hh
 rcases (by omega : i = 0 ∨ i = 1) with rfl | rfl
 all_goals
  go_enter Tryz.func224, Tryz.ntmps224
  go_wp2_with fail
  refine hm.mono ?_
  rintro e w' ⟨rfl, rfl⟩
  go_wp2_with fail
  refine hin.mono ?_
  rintro e w' ⟨rfl, rfl⟩
  go_wp2_with fail
  refine ht.mono ?_
  rintro e w2 ⟨rfl, m2, h2, hS2⟩
  go_wp2_with fail
  go_ret
  exact ⟨_, m2, rfl, h2, hS2, Tell.nil _ _ _ _⟩
set_option maxHeartbeats 2000000 in
set_option maxRecDepth 100000 in
theorem insert_new (hk : k.length ≤ 64) (e : v.at_ k = none) (h : HeldA w0 A P w m v) :
  Calls Tryz.prog 224 #[.pointer (some ⟨A, 0, none⟩), .string (str k)] w fun e w' => ∃ val m', e = .returned val ∧ HeldA w0 A P w' m' (v.fresh.fr 0 k) ∧ StepA A w m w' m' ∧ Tell w.heap.size A m' val v.freshK w' := by
 have hm := made_c h
 have hin := in_none (by unfold maxLen; omega) e h
 have ht := insertNew_c hk e h
 obtain ⟨c0, c1, c2⟩ := h.cells
 have hsz := str_size k
 clear h e
 go_enter Tryz.func224, Tryz.ntmps224
 go_wp2_with fail
 refine hm.mono ?_
 rintro e w' ⟨rfl, rfl⟩
 go_wp2_with fail
 refine hin.mono ?_
 rintro e w' ⟨rfl, rfl⟩
 go_wp2_with fail
 refine ht.mono ?_
 rintro e w2 ⟨val, m2, rfl, h2, hS2, hT2⟩
 go_wp2_with fail
 go_ret
 exact ⟨_, m2, rfl, h2, hS2, hT2⟩
set_option maxHeartbeats 2000000 in
set_option maxRecDepth 100000 in
theorem insert_b1 (hk : k.length ≤ 64) (e : v.at_ k = some 2) (h : HeldA w0 A P w m v) :
  Calls Tryz.prog 224 #[.pointer (some ⟨A, 0, none⟩), .string (str k)] w fun e w' => ∃ val m', e = .returned val ∧ HeldA w0 A P w' m' ((v.up.room false).fr 1 k) ∧ StepA A w m w' m' ∧ Tell w.heap.size A m' val (v.up.roomK false) w' := by
 have hm := made_c h
 have hin := in_some (by unfold maxLen; omega) e h
 obtain ⟨-, hmem⟩ := Av.at_some e
 have hpos : 0 < v.len 2 := List.length_pos_of_mem hmem
 have hst := fun W (hW : HeldA w0 A P W m v) => step_c (i := 3) (j := 2) (by omega) (by omega) hpos hW
 have hag := fun W (hW : HeldA w0 A P W m v.up) => insertAgain_c (v := v.up) (k := k) false (.inl rfl) hmem hW
 obtain ⟨c0, c1, c2⟩ := h.cells
 have hsz := str_size k
 have hB := Beside.of h
 have hd := hB.drew
 have ht := h.ok.t
 have hm2 := h.ok.m2
 have hl3 := h.ok.len_le (i := 3) (by omega)
 have hdl : v.len 3 / v.len 2 ≤ v.len 3 := Nat.div_le_self _ _
 have hup : v.up.tgt = min (v.tgt + max 1 (v.len 3 / v.len 2)) v.most := rfl
 have hv : (if (v.most : Int) < (v.tgt : Int) + ((max 1 (v.len 3 / v.len 2) : Nat) : Int) then (v.most : Int) else (v.tgt : Int) + ((max 1 (v.len 3 / v.len 2) : Nat) : Int)) = (v.up.tgt : Int) := by
  rw [hup]
  generalize max 1 (v.len 3 / v.len 2) = z at *
  split <;> omega
 have HV := Lib.hid hv
 clear hv
 have HT : Hid (∀ W, HeldA w0 A P W m v → HeldA w0 A P (W.setCell ⟨A, 1, none⟩ (.int .i64 v.up.tgt)) m v.up ∧ StepA A W m (W.setCell ⟨A, 1, none⟩ (.int .i64 v.up.tgt)) m) := Lib.hid fun W hW => hW.tgt (Nat.min_le_right _ _)
 clear h e hup
 have hz : 1 ≤ max 1 (v.len 3 / v.len 2) ∧ max 1 (v.len 3 / v.len 2) ≤ 2000 := by generalize v.len 3 / v.len 2 = q at *; omega
 clear hdl
 generalize max 1 (v.len 3 / v.len 2) = z at *
 have u5 : IntKind.i64.wrap ((v.tgt : Int) + (z : Int)) = (v.tgt : Int) + (z : Int) := by rw [IntKind.wrap_i64]; omega
 go_enter Tryz.func224, Tryz.ntmps224
 go_wp2_with fail
 refine hm.mono ?_
 rintro e w' ⟨rfl, rfl⟩
 go_wp2_with fail
 refine hin.mono ?_
 rintro e w' ⟨rfl, rfl⟩
 go_wp2_with fail
 go_region_with (first | (go_at_call 230; refine (hst _ hd.h).mono ?_; rintro e wv ⟨rfl, hbv⟩; obtain ⟨k0, k1, k2⟩ := hbv.h.cells; have kf := hbv.h.box.free 1))
 all_goals
  rw [HV.out]
  obtain ⟨hU, hSU⟩ := HT.out _ hbv.h
  have hS := (StepA.undrew hbv.s).trans hSU
  clear k0 k1 k2 kf hbv
  go_wp2_with fail
  refine (hag _ hU).mono ?_
  rintro e w2 ⟨val, m2, rfl, h2, hS2, hT2⟩
  go_wp2_with fail
  go_ret
  exact ⟨_, m2, rfl, h2, hS.trans hS2, ⟨own_mono hT2.row hS.kp.size, hT2.no⟩⟩
set_option maxHeartbeats 2000000 in
set_option maxRecDepth 100000 in
theorem insert_b2 (hk : k.length ≤ 64) (e : v.at_ k = some 3) (h : HeldA w0 A P w m v) :
  Calls Tryz.prog 224 #[.pointer (some ⟨A, 0, none⟩), .string (str k)] w fun e w' => ∃ val m', e = .returned val ∧ HeldA w0 A P w' m' ((v.down.room true).fr 1 k) ∧ StepA A w m w' m' ∧ Tell w.heap.size A m' val (v.down.roomK true) w' := by
 have hm := made_c h
 have hin := in_some (by unfold maxLen; omega) e h
 obtain ⟨-, hmem⟩ := Av.at_some e
 have hpos : 0 < v.len 3 := List.length_pos_of_mem hmem
 have hst := fun W (hW : HeldA w0 A P W m v) => step_c (i := 2) (j := 3) (by omega) (by omega) hpos hW
 have hag := fun W (hW : HeldA w0 A P W m v.down) => insertAgain_c (v := v.down) (k := k) true (.inr rfl) hmem hW
 obtain ⟨c0, c1, c2⟩ := h.cells
 have hsz := str_size k
 have hB := Beside.of h
 have hd := hB.drew
 have ht := h.ok.t
 have hm2 := h.ok.m2
 have hl3 := h.ok.len_le (i := 2) (by omega)
 have hdl : v.len 2 / v.len 3 ≤ v.len 2 := Nat.div_le_self _ _
 have hup : v.down.tgt = v.tgt - max 1 (v.len 2 / v.len 3) := rfl
 have hv : (if (v.tgt : Int) - ((max 1 (v.len 2 / v.len 3) : Nat) : Int) < 0 then 0 else (v.tgt : Int) - ((max 1 (v.len 2 / v.len 3) : Nat) : Int)) = (v.down.tgt : Int) := by
  rw [hup]
  generalize max 1 (v.len 2 / v.len 3) = z at *
  split <;> omega
 have HV := Lib.hid hv
 clear hv
 have HT : Hid (∀ W, HeldA w0 A P W m v → HeldA w0 A P (W.setCell ⟨A, 1, none⟩ (.int .i64 v.down.tgt)) m v.down ∧ StepA A W m (W.setCell ⟨A, 1, none⟩ (.int .i64 v.down.tgt)) m) := Lib.hid fun W hW => hW.tgt (Nat.le_trans (Nat.sub_le _ _) hW.ok.t)
 clear h e hup
 have hz : 1 ≤ max 1 (v.len 2 / v.len 3) ∧ max 1 (v.len 2 / v.len 3) ≤ 2000 := by generalize v.len 2 / v.len 3 = q at *; omega
 clear hdl
 generalize max 1 (v.len 2 / v.len 3) = z at *
 have u5 : IntKind.i64.wrap ((v.tgt : Int) - (z : Int)) = (v.tgt : Int) - (z : Int) := by rw [IntKind.wrap_i64]; omega
 go_enter Tryz.func224, Tryz.ntmps224
 go_wp2_with fail
 refine hm.mono ?_
 rintro e w' ⟨rfl, rfl⟩
 go_wp2_with fail
 refine hin.mono ?_
 rintro e w' ⟨rfl, rfl⟩
 go_wp2_with fail
 go_region_with (first | (go_at_call 230; refine (hst _ hd.h).mono ?_; rintro e wv ⟨rfl, hbv⟩; obtain ⟨k0, k1, k2⟩ := hbv.h.cells; have kf := hbv.h.box.free 1))
 all_goals
  rw [HV.out]
  obtain ⟨hU, hSU⟩ := HT.out _ hbv.h
  have hS := (StepA.undrew hbv.s).trans hSU
  clear k0 k1 k2 kf hbv
  go_wp2_with fail
  refine (hag _ hU).mono ?_
  rintro e w2 ⟨val, m2, rfl, h2, hS2, hT2⟩
  go_wp2_with fail
  go_ret
  exact ⟨_, m2, rfl, h2, hS.trans hS2, ⟨own_mono hT2.row hS.kp.size, hT2.no⟩⟩
theorem insert_c (hk : k.length ≤ maxLen) (h : HeldA w0 A P w m v) :
  Calls Tryz.prog 224 #[.pointer (some ⟨A, 0, none⟩), .string (str k)] w fun e w' => ∃ val m', e = .returned val ∧ HeldA w0 A P w' m' (v.insert k) ∧ StepA A w m w' m' ∧ Tell w.heap.size A m' val (v.insertK k) w' := by
 unfold Av.insert Av.insertK
 by_cases hl : 64 < k.length
 ·rw [if_pos hl, if_pos hl]
  have hm := made_c h
  have HH := Lib.hid h
  have hsz := str_size k
  clear h
  unfold maxLen at hk
  go_enter Tryz.func224, Tryz.ntmps224
  go_wp2_with fail
  refine hm.mono ?_
  rintro e w' ⟨rfl, rfl⟩
  go_wp2_with fail
  go_ret
  exact ⟨_, m, rfl, HH.out, StepA.refl _ _ _, Tell.nil _ _ _ _⟩
 ·rw [if_neg hl, if_neg hl]
  unfold Av.ins Av.insK
  cases e : v.at_ k with
  | none => exact insert_new (by omega) e h
  | some i =>
   obtain ⟨hi, -⟩ := Av.at_some e
   rcases (by omega : i = 0 ∨ i = 1 ∨ i = 2 ∨ i = 3) with rfl | rfl | rfl | rfl
   ·exact insert_known (by omega) (by omega) e h
   ·exact insert_known (by omega) (by omega) e h
   ·exact insert_b1 (by omega) e h
   ·exact insert_b2 (by omega) e h
theorem remove_c (hk : k.length ≤ maxLen) (h : HeldA w0 A P w m v) :
  Calls Tryz.prog 225 #[.pointer (some ⟨A, 0, none⟩), .string (str k)] w fun e w' => e = .returned (.bool (v.has k)) ∧ ∃ m', HeldA w0 A P w' m' (v.remove k) ∧ StepA A w m w' m' := by
 have hm := made_c h
 have hh := has_c hk h
 have hd := drop_a hk h
 obtain ⟨c0, c1, c2⟩ := h.cells
 clear h
 generalize v.has k = b at *
 go_enter Tryz.func225, Tryz.ntmps225
 go_wp2_with fail
 refine hm.mono ?_
 rintro e w' ⟨rfl, rfl⟩
 go_wp2_with fail
 refine hh.mono ?_
 rintro e w' ⟨rfl, rfl⟩
 go_wp2_with fail
 refine hd.mono ?_
 rintro e w2 ⟨⟨_, rfl⟩, hp⟩
 go_wp2_with fail
 go_ret
 exact ⟨rfl, hp⟩
theorem evict_c (h : HeldA w0 A P w m v) :
  Calls Tryz.prog 221 #[.pointer (some ⟨A, 0, none⟩)] w fun e w' => e = .returned (.tuple #[.string (str ((v.last (v.src false)).getD [])), .bool (v.last (v.src false)).isSome]) ∧ ∃ m', HeldA w0 A P w' m' (v.repl false) ∧ StepA A w m w' m' := by
 have hm := made_c h
 have hr := replace_c false h
 clear h
 generalize (v.last (v.src false)).getD [] = x at *
 generalize (v.last (v.src false)).isSome = b at *
 go_enter Tryz.func221, Tryz.ntmps221
 go_wp2_with fail
 refine hm.mono ?_
 rintro e w' ⟨rfl, rfl⟩
 go_wp2_with fail
 refine hr.mono ?_
 rintro e w2 ⟨rfl, hp⟩
 go_wp2_with fail
 go_ret2
 exact ⟨rfl, hp⟩
end
end Go.Proofs.YtkiabladmgagdabGreatDoor.Arcy
namespace Go.Proofs.YtkiabladmgagdabGreatDoor.Arcy
open Go.ChangeShapes Go.WideShapes Go.ChangeAt Go.RowKit
open Wirey (Blk Row str str_size str_list str_take Kp)
open Ringy

set_option maxHeartbeats 1000000 in
theorem newA_c {n : Nat} (h1 : 1 ≤ n) (h2 : n ≤ 1000) (w : World) :
  Calls Tryz.prog 65 #[.int .i64 n] w fun e w' => ∃ A m, e = .returned (.tuple #[.pointer (some ⟨A, 0, none⟩), .int .i64 0]) ∧ HeldA w A (w.heap.size + 2) w' m (Av.new n) := by
 have hN := new_h (n := 4) (places := 2 * n + 1) (by omega) (by omega) (by omega) w
 have hpl : Calls Tryz.prog 95 #[.int .i64 n] w fun e w' => e = .returned (.int .i64 ((2 * n + 1 : Nat) : Int)) ∧ w = w' := by
  go_enter Tryz.func95, Tryz.ntmps95
  go_wp2_with fail
  go_ret
  exact ⟨by simp, rfl⟩
 go_enter Tryz.func65, Tryz.ntmps65
 go_wp2_with fail
 refine hpl.mono ?_
 rintro e w' ⟨rfl, rfl⟩
 go_wp2_with fail
 refine hN.mono ?_
 rintro e w1 ⟨rfl, m, hH⟩
 go_wp2_with fail
 go_ret2
 refine ⟨w1.heap.size, m, rfl, hH.alloc _, Blk.new w1 _ _, hH.below.size, fun ho => by have := hH.lt _ ho; omega, Av.new_ok h1 h2⟩
section
variable {w : World} {B A : Nat} {m : Rm} {val : Value} {k : Key} {l : List Key}
end

end Go.Proofs.YtkiabladmgagdabGreatDoor.Arcy
