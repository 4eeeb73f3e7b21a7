/- Contracts of the program's Arc: room for a key, and Insert, Remove, Evict. The only condition: a key is no longer than a text may be. -/
import Derived.Test.YtlnjnpchkdipdaaGreatArcDo
import Derived.Test.YtlnjnpchkdipdaaGreatRingRoundAll
namespace Go.Proofs.YtlnjnpchkdipdaaGreat.Arcy
open Go.ChangeShapes Go.WideShapes Go.ChangeAt Go.RowKit
open Wirey (Blk Row str str_size str_list Kp)
open Ringy

section
variable {w0 w w' w'' : World} {A P : Nat} {m m' m'' : Rm} {v : Av} {k : Key}
structure Beside (w0 : World) (A P : Nat) (wb : World) (m : Rm) (v : Av) (w : World) : Prop where
  h : HeldA w0 A P w m v
  s : StepA A wb m w m
theorem Beside.drewN (h : Beside w0 A P w m v w') (n : Nat) : Beside w0 A P w m v (w'.drewN n) := ⟨h.h.drewN n, h.s.drewN n⟩
theorem Beside.drew (h : Beside w0 A P w m v w') : Beside w0 A P w m v w'.drew := ⟨h.h.drew, h.s.drew⟩
theorem Beside.alloc (h : Beside w0 A P w m v w') (o : Obj) : Beside w0 A P w m v (w'.alloc o) := ⟨h.h.alloc o, h.s.alloc o⟩
theorem Beside.of (h : HeldA w0 A P w m v) : Beside w0 A P w m v w := ⟨h, StepA.refl _ _ _⟩
theorem b1 (h : Beside w0 A P w m v w') : w'.cell? ⟨A, 0, none⟩ = some (.int .i64 (v.most : Int)) ∧ Beside w0 A P w m v w' := ⟨h.h.cells.1, h⟩
theorem bA {x : World} (h : x.cell? ⟨A, 0, none⟩ = some (.int .i64 (v.most : Int)) ∧ Beside w0 A P w m v x) (o : Obj) : (x.alloc o).cell? ⟨A, 0, none⟩ = some (.int .i64 (v.most : Int)) ∧ Beside w0 A P w m v (x.alloc o) := b1 (h.2.alloc o)
theorem bD {x : World} (h : x.cell? ⟨A, 0, none⟩ = some (.int .i64 (v.most : Int)) ∧ Beside w0 A P w m v x) : x.drew.cell? ⟨A, 0, none⟩ = some (.int .i64 (v.most : Int)) ∧ Beside w0 A P w m v x.drew := b1 h.2.drew
theorem onto {f : FuncId} {args : Array Value} {W : World} {x : Ending} (hB : Beside w0 A P w m v W) (h : Calls Tryz.prog f args W fun e w' => e = x ∧ W = w') : Calls Tryz.prog f args W fun e w' => e = x ∧ Beside w0 A P w m v w' := h.mono fun _ _ ⟨a, b⟩ => ⟨a, b ▸ hB⟩
set_option maxHeartbeats 1000000 in
theorem makeRoom_c (b : Bool) (h : HeldA w0 A P w m v) :
    Calls Tryz.prog 243 #[.pointer (some ⟨A, 0, none⟩), .bool b] w fun e w' => ∃ val m', e = .returned val ∧ HeldA w0 A P w' m' (v.room b) ∧ StepA A w m w' m' ∧ Tell w.heap.size A m' val (v.roomK b) w' := by
  have hok := h.ok
  have hB := Beside.of h
  have hd := b1 hB.drew
  have hm1 := h.ok.m1
  have hkm := h.ok.kept
  have hkm2 := h.ok.m2
  have HH := Lib.hid hok
  clear h hok
  unfold Av.room Av.roomK
  by_cases e : v.kept < v.most
  · rw [if_pos e, if_pos e]
    have e' : decide ((v.kept : Int) < (v.most : Int)) = true := decide_eq_true (by omega)
    go_enter Tryz.func243, Tryz.ntmps243
    go_wp2_with fail
    go_region_held3 (fun w' => w'.cell? ⟨A, 0, none⟩ = some (.int .i64 (v.most : Int)) ∧ Beside w0 A P w m v w')
      (first | exact hd | exact bA (by assumption) _ | exact bD (by assumption) | exact b1 (by assumption) | exact b1 (Beside.drewN hB _) | go_keep)
      (first | (go_at_call 252; refine (lenA_c (And.right (by assumption : _ ∧ Beside w0 A P w m v _)).h).mono ?_; rintro e v ⟨rfl, o, rfl⟩))
    have hx := And.right (by assumption : _ ∧ Beside w0 A P w m v _)
    go_wp2_with fail
    go_ret
    exact ⟨_, m, rfl, hx.h, hx.s, Tell.nil _ _ _ _⟩
  · rw [if_neg e, if_neg e]
    have e' : decide ((v.kept : Int) < (v.most : Int)) = false := decide_eq_false (by omega)
    obtain ⟨k, hk, -⟩ := Av.repl_went HH.out b (by omega)
    have hr := fun W (hW : HeldA w0 A P W m v) => replace_c b hW
    rw [hk] at hr ⊢
    go_enter Tryz.func243, Tryz.ntmps243
    go_wp2_with fail
    go_region_held3 (fun w' => w'.cell? ⟨A, 0, none⟩ = some (.int .i64 (v.most : Int)) ∧ Beside w0 A P w m v w')
      (first | exact hd | exact bA (by assumption) _ | exact bD (by assumption) | exact b1 (by assumption) | exact b1 (Beside.drewN hB _) | go_keep)
      (first | (go_at_call 252; refine (lenA_c (And.right (by assumption : _ ∧ Beside w0 A P w m v _)).h).mono ?_; rintro e v ⟨rfl, o, rfl⟩))
    have hx := And.right (by assumption : _ ∧ Beside w0 A P w m v _)
    go_wp2_with fail
    refine (hr _ hx.h).mono ?_
    rintro e w2 ⟨rfl, m2, h2, hS2⟩
    have hS := hx.s.trans hS2
    go_wp2_with fail
    go_ret
    exact ⟨_, m2, rfl, h2.alloc _, hS.alloc _, Tell.lit h2 hS.kp.size k⟩
set_option maxHeartbeats 2000000 in
set_option maxRecDepth 100000 in
theorem roomForNew_c (h : HeldA w0 A P w m v) :
    Calls Tryz.prog 241 #[.pointer (some ⟨A, 0, none⟩)] w fun e w' => ∃ val m', e = .returned val ∧ HeldA w0 A P w' m' v.fresh ∧ StepA A w m w' m' ∧ Tell w.heap.size A m' val v.freshK w' := by
  have hok := h.ok
  have hB := Beside.of h
  have hm1 := h.ok.m1
  have hkm := h.ok.kept
  have hkm2 := h.ok.m2
  have hone := h.ok.one
  have hall := h.ok.all
  have hl0 := hok.len_le (i := 0) (by omega)
  have HH := Lib.hid hok
  have a' : v.len 0 + v.len 1 = v.kept := rfl
  have b' : v.len 0 + v.len 2 = v.one := rfl
  have c' : v.len 0 + v.len 1 + v.len 2 + v.len 3 = v.all := rfl
  clear h hok
  unfold Av.fresh Av.freshK
  by_cases e1 : v.most ≤ v.len 0
  · rw [if_pos e1, if_pos e1]
    have d1 : decide ((v.most : Int) ≤ (v.len 0 : Int)) = true := decide_eq_true (by omega)
    obtain ⟨k, hk⟩ := Av.last_of (v := v) (i := 0) (by omega)
    have hr := fun W (hW : HeldA w0 A P W m v) => forget_c (i := 0) (by omega) hk hW
    rw [hk]
    clear a' b' c'
    go_enter Tryz.func241, Tryz.ntmps241
    go_wp2_with fail
    go_region_held3 (fun w' => w'.cell? ⟨A, 0, none⟩ = some (.int .i64 (v.most : Int)) ∧ Beside w0 A P w m v w')
      (first | exact (b1 (hB).drew) | exact bA (by assumption) _ | exact bD (by assumption) | exact b1 (by assumption) | exact b1 (Beside.drewN hB _) | go_keep)
      (first | (go_at_call 242; refine (onto (And.right (by assumption : _ ∧ Beside w0 A P w m v _)) (count1 (i := 0) (a := 0) rfl (by omega) (Blk_drew (Blk.new _ 3 #[.int .i64 0])) (And.right (by assumption : _ ∧ Beside w0 A P w m v _)).h)).mono ?_; rintro e wv ⟨rfl, hbv⟩))
    have hx := And.right (by assumption : _ ∧ Beside w0 A P w m v _)
    go_wp2_with fail
    refine (hr _ hx.h).mono ?_
    rintro e w2 ⟨rfl, m2, h2, hS2⟩
    have hS := hx.s.trans hS2
    go_wp2_with fail
    go_ret
    exact ⟨_, m2, rfl, h2.alloc _, hS.alloc _, Tell.lit h2 hS.kp.size k⟩
  · rw [if_neg e1, if_neg e1]
    have d1 : decide ((v.most : Int) ≤ (v.len 0 : Int)) = false := decide_eq_false (by omega)
    unfold Av.shut
    by_cases e2 : v.most ≤ v.one
    · rw [if_pos e2]
      have d2 : decide ((v.most : Int) ≤ ((v.len 0 + v.len 2 : Nat) : Int)) = true := decide_eq_true (by omega)
      have d2' : decide ((v.most : Int) ≤ (v.len 0 : Int) + (v.len 2 : Int)) = true := decide_eq_true (by omega)
      obtain ⟨k, hk⟩ := Av.last_of (v := v) (i := 2) (by omega)
      have hr := fun W (hW : HeldA w0 A P W m v) => forget_c (i := 2) (by omega) hk hW
      have HA := Lib.hid b'
      clear a' b' c'
      go_enter Tryz.func241, Tryz.ntmps241
      go_wp2_with fail
      go_region_held3 (fun w' => w'.cell? ⟨A, 0, none⟩ = some (.int .i64 (v.most : Int)) ∧ Beside w0 A P w m v w')
        (first | exact (b1 (hB).drew) | exact bA (by assumption) _ | exact bD (by assumption) | exact b1 (by assumption) | exact b1 (Beside.drewN hB _) | go_keep)
        (first | (go_at_call 242; refine (onto (And.right (by assumption : _ ∧ Beside w0 A P w m v _)) (count1 (i := 0) (a := 0) rfl (by omega) (Blk_drew (Blk.new _ 3 #[.int .i64 0])) (And.right (by assumption : _ ∧ Beside w0 A P w m v _)).h)).mono ?_; rintro e wv ⟨rfl, hbv⟩))
      have hx := And.right (by assumption : _ ∧ Beside w0 A P w m v _)
      go_wp2_with fail
      go_region_held3 (fun w' => w'.cell? ⟨A, 0, none⟩ = some (.int .i64 (v.most : Int)) ∧ Beside w0 A P w m v w')
        (first | exact (b1 (hx).drew) | exact bA (by assumption) _ | exact bD (by assumption) | exact b1 (by assumption) | exact b1 (Beside.drewN hx _) | go_keep)
        (first | (go_at_call 242; refine (onto (And.right (by assumption : _ ∧ Beside w0 A P w m v _)) (count2 (a := 0) (b := 2) (x := 0) (y := 2) rfl rfl (by omega) (by omega) (Blk_drew (Blk.new _ 3 #[.int .i64 0, .int .i64 2])) (And.right (by assumption : _ ∧ Beside w0 A P w m v _)).h)).mono ?_; rintro e wv ⟨rfl, hbv⟩))
      have hy := And.right (by assumption : _ ∧ Beside w0 A P w m v _)
      go_wp2_with fail
      refine (hr _ hy.h).mono ?_
      rintro e w2 ⟨rfl, m2, h2, hS2⟩
      have hS := hy.s.trans hS2
      go_wp2_with fail
      refine (makeRoom_c false h2).mono ?_
      rintro e w3 ⟨val, m3, rfl, h3, hS3, hT⟩
      go_wp2_with fail
      go_ret
      exact ⟨_, m3, rfl, h3, hS.trans hS3, ⟨own_mono hT.row hS.kp.size, hT.no⟩⟩
    · rw [if_neg e2]
      have d2 : decide ((v.most : Int) ≤ ((v.len 0 + v.len 2 : Nat) : Int)) = false := decide_eq_false (by omega)
      have d2' : decide ((v.most : Int) ≤ (v.len 0 : Int) + (v.len 2 : Int)) = false := decide_eq_false (by omega)
      by_cases e3 : 2 * v.most ≤ v.all
      · rw [if_pos e3]
        have d3 : decide (2 * (v.most : Int) ≤ (v.all : Int)) = true := decide_eq_true (by omega)
        obtain ⟨k, hk⟩ := Av.last_of (v := v) (i := 3) (by omega)
        have hr := fun W (hW : HeldA w0 A P W m v) => forget_c (i := 3) (by omega) hk hW
        clear a' b' c'
        go_enter Tryz.func241, Tryz.ntmps241
        go_wp2_with fail
        go_region_held3 (fun w' => w'.cell? ⟨A, 0, none⟩ = some (.int .i64 (v.most : Int)) ∧ Beside w0 A P w m v w')
          (first | exact (b1 (hB).drew) | exact bA (by assumption) _ | exact bD (by assumption) | exact b1 (by assumption) | exact b1 (Beside.drewN hB _) | go_keep)
          (first | (go_at_call 242; refine (onto (And.right (by assumption : _ ∧ Beside w0 A P w m v _)) (count1 (i := 0) (a := 0) rfl (by omega) (Blk_drew (Blk.new _ 3 #[.int .i64 0])) (And.right (by assumption : _ ∧ Beside w0 A P w m v _)).h)).mono ?_; rintro e wv ⟨rfl, hbv⟩))
        have hx := And.right (by assumption : _ ∧ Beside w0 A P w m v _)
        go_wp2_with fail
        go_region_held3 (fun w' => w'.cell? ⟨A, 0, none⟩ = some (.int .i64 (v.most : Int)) ∧ Beside w0 A P w m v w')
          (first | exact (b1 (hx).drew) | exact bA (by assumption) _ | exact bD (by assumption) | exact b1 (by assumption) | exact b1 (Beside.drewN hx _) | go_keep)
          (first | (go_at_call 242; refine (onto (And.right (by assumption : _ ∧ Beside w0 A P w m v _)) (count2 (a := 0) (b := 2) (x := 0) (y := 2) rfl rfl (by omega) (by omega) (Blk_drew (Blk.new _ 3 #[.int .i64 0, .int .i64 2])) (And.right (by assumption : _ ∧ Beside w0 A P w m v _)).h)).mono ?_; rintro e wv ⟨rfl, hbv⟩))
        have hy := And.right (by assumption : _ ∧ Beside w0 A P w m v _)
        have u4 : IntKind.i64.wrap (2 * (v.most : Int)) = 2 * (v.most : Int) := by rw [IntKind.wrap_i64]; omega
        go_wp2_with fail
        go_region_held3 (fun w' => w'.cell? ⟨A, 0, none⟩ = some (.int .i64 (v.most : Int)) ∧ Beside w0 A P w m v w')
          (first | exact (b1 (hy).drew) | exact bA (by assumption) _ | exact bD (by assumption) | exact b1 (by assumption) | exact b1 (Beside.drewN hy _) | go_keep)
          (first | (go_at_call 242; refine (onto (And.right (by assumption : _ ∧ Beside w0 A P w m v _)) (count4 (Blk_drew (Blk.new _ 3 #[.int .i64 0, .int .i64 1, .int .i64 2, .int .i64 3])) (And.right (by assumption : _ ∧ Beside w0 A P w m v _)).h)).mono ?_; rintro e wv ⟨rfl, hbv⟩))
        have hz := And.right (by assumption : _ ∧ Beside w0 A P w m v _)
        clear u4
        go_wp2_with fail
        refine (hr _ hz.h).mono ?_
        rintro e w2 ⟨rfl, m2, h2, hS2⟩
        have hS := hz.s.trans hS2
        go_wp2_with fail
        refine (makeRoom_c false h2).mono ?_
        rintro e w3 ⟨val, m3, rfl, h3, hS3, hT⟩
        go_wp2_with fail
        go_ret
        exact ⟨_, m3, rfl, h3, hS.trans hS3, ⟨own_mono hT.row hS.kp.size, hT.no⟩⟩
      · rw [if_neg e3]
        have d3 : decide (2 * (v.most : Int) ≤ (v.all : Int)) = false := decide_eq_false (by omega)
        clear a' b' c'
        go_enter Tryz.func241, Tryz.ntmps241
        go_wp2_with fail
        go_region_held3 (fun w' => w'.cell? ⟨A, 0, none⟩ = some (.int .i64 (v.most : Int)) ∧ Beside w0 A P w m v w')
          (first | exact (b1 (hB).drew) | exact bA (by assumption) _ | exact bD (by assumption) | exact b1 (by assumption) | exact b1 (Beside.drewN hB _) | go_keep)
          (first | (go_at_call 242; refine (onto (And.right (by assumption : _ ∧ Beside w0 A P w m v _)) (count1 (i := 0) (a := 0) rfl (by omega) (Blk_drew (Blk.new _ 3 #[.int .i64 0])) (And.right (by assumption : _ ∧ Beside w0 A P w m v _)).h)).mono ?_; rintro e wv ⟨rfl, hbv⟩))
        have hx := And.right (by assumption : _ ∧ Beside w0 A P w m v _)
        go_wp2_with fail
        go_region_held3 (fun w' => w'.cell? ⟨A, 0, none⟩ = some (.int .i64 (v.most : Int)) ∧ Beside w0 A P w m v w')
          (first | exact (b1 (hx).drew) | exact bA (by assumption) _ | exact bD (by assumption) | exact b1 (by assumption) | exact b1 (Beside.drewN hx _) | go_keep)
          (first | (go_at_call 242; refine (onto (And.right (by assumption : _ ∧ Beside w0 A P w m v _)) (count2 (a := 0) (b := 2) (x := 0) (y := 2) rfl rfl (by omega) (by omega) (Blk_drew (Blk.new _ 3 #[.int .i64 0, .int .i64 2])) (And.right (by assumption : _ ∧ Beside w0 A P w m v _)).h)).mono ?_; rintro e wv ⟨rfl, hbv⟩))
        have hy := And.right (by assumption : _ ∧ Beside w0 A P w m v _)
        have u4 : IntKind.i64.wrap (2 * (v.most : Int)) = 2 * (v.most : Int) := by rw [IntKind.wrap_i64]; omega
        go_wp2_with fail
        go_region_held3 (fun w' => w'.cell? ⟨A, 0, none⟩ = some (.int .i64 (v.most : Int)) ∧ Beside w0 A P w m v w')
          (first | exact (b1 (hy).drew) | exact bA (by assumption) _ | exact bD (by assumption) | exact b1 (by assumption) | exact b1 (Beside.drewN hy _) | go_keep)
          (first | (go_at_call 242; refine (onto (And.right (by assumption : _ ∧ Beside w0 A P w m v _)) (count4 (Blk_drew (Blk.new _ 3 #[.int .i64 0, .int .i64 1, .int .i64 2, .int .i64 3])) (And.right (by assumption : _ ∧ Beside w0 A P w m v _)).h)).mono ?_; rintro e wv ⟨rfl, hbv⟩))
        have hz := And.right (by assumption : _ ∧ Beside w0 A P w m v _)
        clear u4
        have hS := hz.s
        go_wp2_with fail
        refine (makeRoom_c false hz.h).mono ?_
        rintro e w3 ⟨val, m3, rfl, h3, hS3, hT⟩
        go_wp2_with fail
        go_ret
        exact ⟨_, m3, rfl, h3, hS.trans hS3, ⟨own_mono hT.row hS.kp.size, hT.no⟩⟩
end
end Go.Proofs.YtlnjnpchkdipdaaGreat.Arcy
