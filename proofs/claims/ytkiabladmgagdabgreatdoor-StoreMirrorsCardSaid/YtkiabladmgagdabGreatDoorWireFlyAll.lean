/- The contract of layer 3's reading of a number off the beginning of bytes: whatever bytes, the plain function's answer. Contracts of what a Reader takes: bytes, numbers, texts, yes or no, what must be so: what comes, what is left, or the panic and the error that is noted. The contract of layer 3's Read around each of the functions that are handed to it: what it comes to when that one returns, and when it ends by the reading's panic. -/
import Derived.Test.YtkiabladmgagdabGreatDoorWireReadAll
import Derived.Lib.Builder
import Derived.Test.YtkiabladmgagdabGreatDoorSq
namespace Go.Proofs.YtkiabladmgagdabGreatDoor.Wirey
open Go.ChangeShapes Go.WideShapes Go.ChangeAt Go.RowKit

theorem go1_snoc {l : List UInt8} {c : UInt8} (h : Go1 l) (hc : 128 ≤ c.toNat) : Go1 (l ++ [c]) := by
 intro x hx
 rcases List.mem_append.1 hx with hx | hx
 ·exact h x hx
 ·obtain rfl := List.mem_singleton.1 hx; exact hc
theorem list_at (s : ByteArray) (k : Nat) (h : k < s.size) : s.data.toList = s.data.toList.take k ++ s[k] :: s.data.toList.drop (k + 1) := by
 have e : s[k] = s.data.toList[k]'(by simpa using h) := rfl
 rw [e, List.getElem_cons_drop, List.take_append_drop]
def unt (k : Nat) : Nat := 128 ^ k
theorem unt_le {k : Nat} (h : k ≤ 9) : unt k ≤ 9223372036854775808 := by
 have := Nat.pow_le_pow_right (n := 128) (by omega) h
 rw [pow9] at this; exact this
theorem unt_two (k : Nat) : unt k = 2 ^ (7 * k) := by unfold unt; rw [Nat.pow_mul]
theorem or_unt (k x b : Nat) (hx : x < unt k) (hs : x + b * unt k < 18446744073709551616) : bits .or .u64 (x : Int) ((b * unt k : Nat) : Int) = ((x + b * unt k : Nat) : Int) := by
 rw [u64_or_nat x (b * unt k) (by omega) (by omega)]
 rw [unt_two] at hx ⊢
 have h2 := Nat.shiftLeft_add_eq_or_of_lt (i := 7 * k) (b := x) hx b
 rw [Nat.shiftLeft_eq] at h2
 rw [Nat.or_comm, ← h2, Nat.add_comm]
theorem shl_unt (k c : Nat) (hs : c % 128 * unt k < 18446744073709551616) : IntKind.u64.wrap ((c : Int) % 128 * 2 ^ (k * 7)) = ((c % 128 * unt k : Nat) : Int) := by
 have e2 : (c : Int) % 128 * 2 ^ (k * 7) = ((c % 128 * unt k : Nat) : Int) := by
  rw [unt_two, Nat.mul_comm k 7]; simp
 rw [e2, IntKind.wrap_u64]
 omega

set_option maxHeartbeats 4000000 in
set_option maxRecDepth 100000 in
theorem number_s (s : ByteArray) (hz : s.size ≤ maxLen) (w : World) :
  Calls Tryz.prog 68 #[.string s] w fun e w' =>
   e = .returned (.tuple #[.int .u64 ((numR s.data.toList).1 : Int), .int .i64 ((numR s.data.toList).2.1 : Int), .int .i64 ((numR s.data.toList).2.2 : Int)]) ∧ w = w' := by
 unfold maxLen at hz
 have hsl : s.data.toList.length = s.size := by simp
 go_enter Tryz.func68, Tryz.ntmps68
 go_wp2
 all_goals
  go_loop [2, 12] (fun n i => ∃ k : Nat, k ≤ 9 ∧ k ≤ s.size ∧ i = .int .i64 k ∧ n = .int .u64 (val (s.data.toList.take k) : Int) ∧ Go1 (s.data.toList.take k)) (fun _ i => 10 - (intOf i).toNat)
  case atStart => exact ⟨0, by omega, Nat.zero_le _, rfl, rfl, fun _ h => absurd h (by simp)⟩
  case round =>
   obtain ⟨k, hk9, hk, rfl, rfl, hg⟩ := hrel
   by_cases hlt : k < s.size
   ·obtain ⟨c, hc⟩ : ∃ c, c = s[k] := ⟨_, rfl⟩
    have HC : Hid (s[k] = c) := Lib.hid hc.symm
    have hsp := list_at s k hlt
    have ht := take_snoc s k hlt
    rw [← hc] at hsp ht
    have hcl := c.toNat_lt
    have hkt : (s.data.toList.take k).length = k := by rw [List.length_take]; omega
    have hF : ∀ h : c.toNat < 128, numR s.data.toList = if bad k c then (0, 0, 6) else (val (s.data.toList.take (k + 1)), k + 1, 0) := by
     intro h
     have := numR_split (rest := s.data.toList.drop (k + 1)) hg h
     rw [← hsp, hkt, ← ht] at this
     exact this
    by_cases hA : k = 9 ∧ 1 < c.toNat
    ·have hR : numR s.data.toList = (0, 0, 6) := by
      by_cases h128 : 128 ≤ c.toNat
      ·refine numR_long (go1_lastOf (k := 10) (by omega) ?_)
       have := go1_snoc hg h128
       rw [← ht, hA.1] at this; exact this
      ·rw [hF (by omega), if_pos]
       unfold bad; simp [hA.1, hA.2]
     have HR := Lib.hid hR
     obtain ⟨h9, hA⟩ := hA
     have h9' : ((k : Int) == 9) = true := by rw [beq_iff_eq]; omega
     have h0 : 0 < k := by omega
     have hz1 : ((c.toNat : Int) == 0) = false := by rw [beq_eq_false_iff_ne]; omega
     clear hR h9 hF hsp ht hkt hg
     rw [hc] at hA hz1
     clear hc HC
     go_wp2
     go_ret3
     exact ⟨by rw [HR.out]; rfl, rfl⟩
    ·by_cases hZ : 0 < k ∧ c.toNat = 0
     ·have hR : numR s.data.toList = (0, 0, 6) := by
       rw [hF (by omega), if_pos]
       unfold bad; simp [hZ.1, hZ.2]
      have HR := Lib.hid hR
      obtain ⟨h0, hZ⟩ := hZ
      have hz1 : ((c.toNat : Int) == 0) = true := by rw [beq_iff_eq]; omega
      have hz2 : ¬ 1 < c.toNat := by omega
      clear hR hZ hA hF hsp ht hkt hg
      rw [hc] at hz1 hz2
      clear hc HC
      by_cases h9 : k = 9
      ·have h9' : ((k : Int) == 9) = true := by rw [beq_iff_eq]; omega
       clear h9
       go_wp2
       go_ret3
       exact ⟨by rw [HR.out]; rfl, rfl⟩
      ·have h9' : ((k : Int) == 9) = false := by rw [beq_eq_false_iff_ne]; omega
       clear h9
       go_wp2
       go_ret3
       exact ⟨by rw [HR.out]; rfl, rfl⟩
     ·have hbad : ¬ bad k c = true := by
       unfold bad
       simp only [Bool.or_eq_true, Bool.and_eq_true, decide_eq_true_eq]
       omega
      have hVs := val_snoc (s.data.toList.take k) c
      rw [← ht, hkt] at hVs
      have hvl := val_lt (s.data.toList.take k)
      rw [hkt] at hvl
      have hun : 128 ^ k = unt k := rfl
      rw [hun] at hVs hvl
      have hule := unt_le hk9
      have hprod : c.toNat % 128 * unt k ≤ 9223372036854775808 := by
       by_cases h9 : k = 9
       ·have : c.toNat % 128 * unt k ≤ 1 * unt k := Nat.mul_le_mul_right _ (by omega)
        omega
       ·have h8 : unt k ≤ 72057594037927936 := Nat.pow_le_pow_right (n := 128) (by omega) (show k ≤ 8 by omega)
        have : c.toNat % 128 * unt k ≤ 128 * 72057594037927936 := Nat.mul_le_mul (by omega) h8
        omega
      have hshl := shl_unt k c.toNat (by omega)
      have hor := or_unt k (val (s.data.toList.take k)) (c.toNat % 128) hvl (by omega)
      rw [← hVs] at hor
      obtain ⟨D, hD⟩ : ∃ D, D = c.toNat % 128 * unt k := ⟨_, rfl⟩
      rw [← hD] at hshl hor hprod
      rw [hc] at hshl
      have hg2 : 128 ≤ c.toNat → Go1 (s.data.toList.take (k + 1)) := fun h128 => by have := go1_snoc hg h128; rw [← ht] at this; exact this
      have HF : Hid (c.toNat < 128 → numR s.data.toList = (val (s.data.toList.take (k + 1)), k + 1, 0)) := Lib.hid fun h => by rw [hF h, if_neg hbad]
      have HG2 := Lib.hid hg2
      have hz1 : 0 < k → ((c.toNat : Int) == 0) = false := fun h => by rw [beq_eq_false_iff_ne]; omega
      clear hD hVs hvl hun hule hg2 hF hg ht hsp hbad hkt
      by_cases h9 : k = 9
      ·have h9' : ((k : Int) == 9) = true := by rw [beq_iff_eq]; omega
       have hz := hz1 (by omega)
       have hc1 : ¬ 1 < c.toNat := by omega
       have hk0 : 0 < k := by omega
       have HR := Lib.hid (HF.out (by omega))
       clear hz1 hA hZ h9 HF HG2
       rw [hc] at hz hc1
       clear hc HC
       go_wp2
       go_ret3
       exact ⟨by rw [HR.out]; rfl, rfl⟩
      ·have h9' : ((k : Int) == 9) = false := by rw [beq_eq_false_iff_ne]; omega
       by_cases h128 : 128 ≤ c.toNat
       ·have hg2 := Lib.hid (HG2.out h128)
        by_cases h0 : 0 < k
        ·have hz := hz1 h0
         clear hz1 hA hZ HF HG2
         rw [hc] at hz h128
         clear hc HC
         go_wp2
         go_round
         case rel => exact ⟨k + 1, by omega, by omega, by go_num, rfl, hg2.out⟩
         case measure => simp [intOf]; omega
        ·clear hz1 hA hZ HF HG2
         rw [hc] at h128
         clear hc HC
         go_wp2
         go_round
         case rel => exact ⟨k + 1, by omega, by omega, by go_num, rfl, hg2.out⟩
         case measure => simp [intOf]; omega
       ·have HR := Lib.hid (HF.out (by omega))
        by_cases h0 : 0 < k
        ·have hz := hz1 h0
         clear hz1 hA hZ HF HG2
         rw [hc] at hz h128
         clear hc HC
         go_wp2
         go_ret3
         exact ⟨by rw [HR.out]; rfl, rfl⟩
        ·clear hz1 hA hZ HF HG2
         rw [hc] at h128
         clear hc HC
         go_wp2
         go_ret3
         exact ⟨by rw [HR.out]; rfl, rfl⟩
   ·obtain rfl : k = s.size := by omega
    rw [List.take_of_length_le (by omega)] at hg
    have HR := Lib.hid (numR_all hg (by omega))
    clear hg
    go_wp2
    all_goals
     go_ret3
     exact ⟨by rw [HR.out]; rfl, rfl⟩
end Go.Proofs.YtkiabladmgagdabGreatDoor.Wirey
namespace Go.Proofs.YtkiabladmgagdabGreatDoor.Wirey
open Go.ChangeShapes Go.WideShapes Go.ChangeAt Go.RowKit

theorem u8_info : (Tryz.prog.info? 5).map (fun i => (i.zero, i.size, i.bytes)) = some (some (.int .u8 0), 1, 1) := by kernel_rfl

set_option maxHeartbeats 4000000 in
set_option maxRecDepth 100000 in
theorem lite_c (s : ByteArray) (w : World) (hlim : s.size ≤ 281474976710656) :
  Calls Tryz.prog 185 #[.string s] w fun e w' => e = .returned (.string s) ∧ Below w.heap.size w w' := by
 by_cases h0 : s.size = 0
 ·have hs : s = ⟨#[]⟩ := by
   apply ByteArray.ext
   exact Array.eq_empty_of_size_eq_zero h0
  subst hs
  go_enter Tryz.func185, Tryz.ntmps185
  go_wp2
  go_ret
  exact ⟨rfl, Below.refl _ _⟩
 ·obtain ⟨i0, hi, hz0, hz1, hz2⟩ := info_parts u8_info
  have hinfo : (Tryz.prog.info? 5).map (·.size) = some 1 := by rw [hi]; simp [hz1]
  have hco : Tryz.prog.cellsOf 5 = 1 := by kernel_rfl
  obtain ⟨M, hM⟩ : ∃ M, M = madeCells (Value.int .u8 0).cells (((s.size : Nat) : Int).toNat * i0.size) := ⟨_, rfl⟩
  have hMs : M.size = s.size := by rw [hM, size_madeCells, hz1]; simp
  have hmk : ∀ W : World, (Instr.makeSlice 96 (.int .i64 s.size) (.int .i64 s.size)).run Tryz.prog W = .ok (.slice (some ⟨W.heap.size, 0, none⟩) s.size s.size) (W.alloc (.cells M 5)) := fun W => by
   have h := run_make (P := Tryz.prog) W 96 5 i0 (.int .u8 0) Tryz.underlying96 hi hz0 .i64 .i64 (s.size : Int) (s.size : Int) (by omega) (by omega) (by rw [hz2]; omega) (by omega)
   rw [← hM] at h
   simpa using h
  clear hM
  have hcp := Lib.run_copy_row_string (P := Tryz.prog) (w.alloc (.cells M 5)) 96 9 3 5 w.heap.size 0 s.size s.size s M 5 Tryz.underlying96 hinfo (heap_alloc_new w _) (Nat.le_refl _) (by omega)
  obtain ⟨Y, hY⟩ : ∃ Y, Y = (M.toList.take 0 ++ Lib.byteCells s.data.toList ++ M.toList.drop (0 + s.size)).toArray := ⟨_, rfl⟩
  rw [← hY] at hcp
  have hYl : Y.toList = Lib.byteCells s.data.toList := by
   rw [hY, List.toList_toArray, List.take_zero, List.nil_append, List.drop_of_length_le (by rw [Array.length_toList]; omega), List.append_nil]
  have hYs : Y.size = s.size := by rw [← Array.length_toList, hYl, Lib.byteCells_length, ← Lib.size_eq]
  have hgY : ((w.alloc (.cells M 5)).setRow w.heap.size Y).heap[w.heap.size]? = some (.cells Y 5 (0, 0)) := setRow_heap _ _ M _ 5 (0, 0) (heap_alloc_new w _)
  have hne : s.data.toList ≠ [] := fun e => h0 (by rw [Lib.size_eq, e]; rfl)
  have hUS := Lib.run_unsafeString_row (P := Tryz.prog) ((w.alloc (.cells M 5)).setRow w.heap.size Y) 154 3 9 5 Tryz.underlying154 hco w.heap.size Y.size (by unfold World.shape?; rw [hgY]) s.data.toList hne (by rw [← Lib.size_eq]; omega) (by rw [← Lib.size_eq]; omega)
   (fun j x hx => Lib.cells_of_row hgY Y.size j _ (by rw [List.take_of_length_le (by rw [Array.length_toList]; exact Nat.le_refl _), hYl]; simp [Lib.byteCells, hx]))
  rw [← Lib.size_eq] at hUS
  clear hY
  go_enter Tryz.func185, Tryz.ntmps185
  go_wp2
  go_ret
  have hb1 : Below w.heap.size w (w.alloc (.cells M 5)) := (Below.refl _ w).alloc (Nat.le_refl _) _
  have hb2 : Below w.heap.size (w.alloc (.cells M 5)) ((w.alloc (.cells M 5)).setRow w.heap.size Y) := ⟨rfl, rfl, rfl, by simp, fun k hk => setRow_other _ _ _ _ (by omega)⟩
  exact ⟨rfl, Lib.below_freeze (hb1.trans hb2) (p := ⟨w.heap.size, 0, none⟩) (Nat.le_refl _) _⟩
set_option maxHeartbeats 1000000 in
theorem clone_c (s : ByteArray) (w : World) (hlim : s.size ≤ 281474976710656) :
  Calls Tryz.prog 165 #[.string s] w fun e w' => e = .returned (.string s) ∧ Below w.heap.size w w' := by
 go_enter Tryz.func165, Tryz.ntmps165
 go_wp2_with fail
 refine (lite_c _ _ hlim).mono ?_
 rintro e w' ⟨rfl, hb⟩
 go_wp2_with fail
 go_ret
 exact ⟨rfl, hb⟩

def Took (w : World) (R O : Nat) (v : Value) (m : List UInt8) (e : Ending) (w' : World) : Prop := e = .returned v ∧ Kept w w' R O ∧ RS w' R O m
set_option maxHeartbeats 2000000 in
theorem bytes_ok {R O : Nat} {l : List UInt8} (n : Nat) (hn : n ≤ l.length) (hl : l.length < 1099511627776) (w : World) (h : RS w R O l) :
  Calls Tryz.prog 127 #[.pointer (some ⟨R, 0, none⟩), .int .i64 n] w (Took w R O (.string (str (l.take n))) (l.drop n)) := by
 have hsz := str_size
 obtain ⟨c1, c2, c3, c4, f1, f2⟩ := h.cells
 by_cases h0 : n = 0
 ·subst h0
  go_enter Tryz.func127, Tryz.ntmps127
  go_wp2_with fail
  refine (rest_c _ h).mono ?_
  rintro e w' ⟨rfl, rfl⟩
  go_wp2_with fail
  go_ret
  exact ⟨rfl, Kept.refl _ _ _, h⟩
 ·have hx := str_drop l n
  have hy := str_take l n
  have hne : ((n : Int) == 0) = false := by rw [beq_eq_false_iff_ne]; omega
  go_enter Tryz.func127, Tryz.ntmps127
  go_wp2_with fail
  refine (rest_c _ h).mono ?_
  rintro e w' ⟨rfl, rfl⟩
  go_wp2_with fail
  refine (clone_c _ _ (by rw [str_size, List.length_take]; omega)).mono ?_
  rintro e w' ⟨rfl, hb⟩
  go_wp2_with fail
  go_ret
  exact ⟨rfl, ((Kept.refl _ _ _).set (.inl rfl) _).trans (Kept.of_below hb), (h.move _).below hb⟩
theorem number_l {l : List UInt8} {n k e0 : Nat} (hR : numR l = (n, k, e0)) (hl : l.length < 1099511627776) (w : World) :
  Calls Tryz.prog 68 #[.string (str l)] w fun e w' => e = .returned (.tuple #[.int .u64 n, .int .i64 k, .int .i64 e0]) ∧ w = w' := by
 have h := number_s (str l) (by rw [str_size]; unfold maxLen; omega) w
 rw [str_list, hR] at h
 exact h
set_option maxHeartbeats 2000000 in
theorem num_ok {R O : Nat} {l : List UInt8} {n k : Nat} (top : Nat) (hR : numR l = (n, k, 0)) (ht : n ≤ top) (hl : l.length < 1099511627776) (w : World) (h : RS w R O l) :
  Calls Tryz.prog 37 #[.pointer (some ⟨R, 0, none⟩), .int .u64 top] w (Took w R O (.int .u64 n) (l.drop k)) := by
 have hsz := str_size
 obtain ⟨c1, c2, c3, c4, f1, f2⟩ := h.cells
 have hx := str_drop l k
 have hk := numR_le hR
 have HR := Lib.hid hR
 clear hR
 go_enter Tryz.func37, Tryz.ntmps37
 go_wp2_with fail
 refine (rest_c _ h).mono ?_
 rintro e w' ⟨rfl, rfl⟩
 go_wp2_with fail
 refine (number_l HR.out hl _).mono ?_
 rintro e w' ⟨rfl, rfl⟩
 go_wp2_with fail
 go_ret
 exact ⟨rfl, (Kept.refl _ _ _).set (.inl rfl) _, h.move _⟩
set_option maxHeartbeats 2000000 in
theorem rtext_ok {R O : Nat} {l : List UInt8} {n k : Nat} (top : Nat) (htop : top < 1099511627776) (hR : numR l = (n, k, 0)) (ht : n ≤ top) (hn : k + n ≤ l.length) (hl : l.length < 1099511627776) (w : World) (h : RS w R O l) :
  Calls Tryz.prog 101 #[.pointer (some ⟨R, 0, none⟩), .int .i64 top] w (Took w R O (.string (str ((l.drop k).take n))) (l.drop (k + n))) := by
 go_enter Tryz.func101, Tryz.ntmps101
 go_wp2_with fail
 refine (num_ok top hR ht hl _ h).mono ?_
 rintro e w1 ⟨rfl, hk1, hr1⟩
 go_wp2_with fail
 refine (bytes_ok n (by rw [List.length_drop]; omega) (by rw [List.length_drop]; omega) _ hr1).mono ?_
 rintro e w2 ⟨rfl, hk2, hr2⟩
 rw [List.drop_drop] at hr2
 go_wp2_with fail
 go_ret
 exact ⟨rfl, hk1.trans hk2, hr2⟩
set_option maxHeartbeats 2000000 in
theorem must_ok {R : Nat} (w : World) :
  Calls Tryz.prog 41 #[.pointer (some ⟨R, 0, none⟩), .bool true] w fun e w' => e = .returned (.tuple #[]) ∧ w = w' := by
 go_enter Tryz.func41, Tryz.ntmps41
 go_wp2_with fail
 go_end0
 exact ⟨rfl, rfl⟩
end Go.Proofs.YtkiabladmgagdabGreatDoor.Wirey
namespace Go.Proofs.YtkiabladmgagdabGreatDoor.Wirey
open Go.ChangeShapes Go.WideShapes Go.ChangeAt Go.RowKit

set_option maxHeartbeats 2000000 in
theorem end_idle (V E O : Nat) (w : World) (hv : w.cell? ⟨V, 0, none⟩ = some (.pointer (some ⟨O, 0, none⟩))) (ho : w.cell? ⟨O, 0, none⟩ = some (.bool false)) (hz : w.frozen? ⟨O, 0, none⟩ = false) :
  CallsD Tryz.prog 34 #[.pointer (some ⟨V, 0, none⟩), .pointer (some ⟨E, 0, none⟩)] .returning w fun e u' w' => e = .returned (.tuple #[]) ∧ u' = .returning ∧ w' = w.setCell ⟨O, 0, none⟩ (.bool true) := by
 refine callsD_of_wpS Tryz.func34 rfl fun c₀ cs hu => ?_
 simp only [Tryz.ntmps34, List.size_toArray, List.length_cons, List.length_nil, Nat.reduceAdd, Nat.reduceSub, Array.replicate_succ, Array.replicate_zero, List.push_toArray, List.append_toArray, List.nil_append, List.cons_append]
 refine wpS_seq ?_
 refine wpS_of_wp ?_
 go_wp2
 refine wpS_seq ?_
 refine wpS_region ?_
 simp [wpOpsS, go_sem, recoverD, hu, Exit.thenS]
 refine wpS_of_wp ?_
 go_wp2
 exact ⟨rfl, .returning, by rw [← hu], _, results_none rfl _ _ _, rfl, rfl, rfl⟩
structure Kp (S : Nat → Prop) (w w' : World) : Prop where
 os : w'.os = w.os
 tape : w'.tape = w.tape
 output : w'.output = w.output
 size : w.heap.size ≤ w'.heap.size
 block : ∀ k, k < w.heap.size → ¬ S k → w'.heap[k]? = w.heap[k]?
theorem Kp.refl (S : Nat → Prop) (w : World) : Kp S w w := ⟨rfl, rfl, rfl, Nat.le_refl _, fun _ _ _ => rfl⟩
theorem Kp.trans {S : Nat → Prop} {a b c : World} (h : Kp S a b) (k : Kp S b c) : Kp S a c :=
 ⟨k.os.trans h.os, k.tape.trans h.tape, k.output.trans h.output, Nat.le_trans h.size k.size, fun i hi hS => (k.block i (Nat.lt_of_lt_of_le hi h.size) hS).trans (h.block i hi hS)⟩
theorem Kp.of_kept {S : Nat → Prop} {w w' : World} {R O : Nat} (h : Kept w w' R O) (hR : S R) (hO : S O) : Kp S w w' :=
 ⟨h.os, h.tape, h.output, h.size, fun k hk hS => h.block k hk (fun e => hS (e ▸ hR)) (fun e => hS (e ▸ hO))⟩
theorem Kp.of_below {S : Nat → Prop} {w w' : World} (h : Below w.heap.size w w') : Kp S w w' := ⟨h.os, h.tape, h.output, h.size, fun k hk _ => h.block k hk⟩
theorem Kp.set {S : Nat → Prop} {a w : World} (h : Kp S a w) {p : Addr} (hp : S p.block) (u : Value) : Kp S a (w.setCell p u) :=
 h.trans ⟨rfl, rfl, rfl, by simp [World.setCell], fun k hk hS => Below.heap_setCell _ _ _ _ (fun e => hS (by rw [e]; exact hp))⟩
theorem Kp.alloc {S : Nat → Prop} {a w : World} (h : Kp S a w) (o : Obj) : Kp S a (w.alloc o) :=
 h.trans ⟨rfl, rfl, rfl, by show w.heap.size ≤ (w.heap.push o).size; simp, fun k hk _ => Below.heap_alloc w o k hk⟩
theorem Kp.blk {S : Nat → Prop} {w w' : World} {g : Nat} {t : TypeId} {cs : Array Value} (h : Kp S w w') (hb : Blk w g t cs) (hg : ¬ S g) : Blk w' g t cs := (h.block g hb.lt hg).trans hb
theorem Kp.then_ {S C : Nat → Prop} {w w1 w2 w3 : World} (h1 : Below w.heap.size w w1) (h2 : Kp S w1 w2) (h3 : Below w.heap.size w2 w3) (hS : ∀ k, k < w.heap.size → S k → C k) : Kp C w w3 :=
 ⟨h3.os.trans (h2.os.trans h1.os), h3.tape.trans (h2.tape.trans h1.tape), h3.output.trans (h2.output.trans h1.output), Nat.le_trans h1.size (Nat.le_trans h2.size h3.size),
   fun k hk hC => (h3.block k hk).trans ((h2.block k (Nat.lt_of_lt_of_le hk h1.size) (fun s => hC (hS k hk s))).trans (h1.block k hk))⟩

def endE (m : List UInt8) : Nat := if m = [] then 0 else 5
theorem endE_nil : endE [] = 0 := rfl
theorem endE_some {m : List UInt8} (h : m ≠ []) : (endE m : Int) = 5 := by unfold endE; rw [if_neg h]; rfl
theorem read_start (w : World) (l : List UInt8) :
  let w1 := ((((w.alloc (.cells #[.int .i64 0] 29)).alloc (.cells #[.bool false, .int .i64 0] 81)).alloc (.cells #[.pointer (some ⟨w.heap.size + 1, 0, none⟩)] 79)).alloc (.cells #[.string (str l), .pointer (some ⟨w.heap.size + 1, 0, none⟩)] 83))
  Below w.heap.size w w1 ∧ Blk w1 w.heap.size 29 #[.int .i64 0] ∧ Blk w1 (w.heap.size + 1) 81 #[.bool false, .int .i64 0] ∧
  Blk w1 (w.heap.size + 1 + 1) 79 #[.pointer (some ⟨w.heap.size + 1, 0, none⟩)] ∧ Blk w1 (w.heap.size + 1 + 1 + 1) 83 #[.string (str l), .pointer (some ⟨w.heap.size + 1, 0, none⟩)] := by
 intro w1
 have s1 : ∀ (v : World) (o : Obj), (v.alloc o).heap.size = v.heap.size + 1 := fun v o => by show (v.heap.push o).size = _; simp
 refine ⟨((((Below.refl _ _).alloc (Nat.le_refl _) _).alloc (by rw [s1]; omega) _).alloc (by rw [s1, s1]; omega) _).alloc (by rw [s1, s1, s1]; omega) _, ?_, ?_, ?_, ?_⟩
 ·exact (((Blk.new w _ _).alloc _).alloc _).alloc _
 ·have := ((Blk.new (w.alloc (.cells #[.int .i64 0] 29)) 81 #[.bool false, .int .i64 0]).alloc (.cells #[.pointer (some ⟨w.heap.size + 1, 0, none⟩)] 79)).alloc (.cells #[.string (str l), .pointer (some ⟨w.heap.size + 1, 0, none⟩)] 83)
  rw [s1] at this; exact this
 ·have := (Blk.new ((w.alloc (.cells #[.int .i64 0] 29)).alloc (.cells #[.bool false, .int .i64 0] 81)) 79 #[.pointer (some ⟨w.heap.size + 1, 0, none⟩)]).alloc (.cells #[.string (str l), .pointer (some ⟨w.heap.size + 1, 0, none⟩)] 83)
  rw [s1, s1] at this; exact this
 ·have := Blk.new (((w.alloc (.cells #[.int .i64 0] 29)).alloc (.cells #[.bool false, .int .i64 0] 81)).alloc (.cells #[.pointer (some ⟨w.heap.size + 1, 0, none⟩)] 79)) 83 #[.string (str l), .pointer (some ⟨w.heap.size + 1, 0, none⟩)]
  rw [s1, s1, s1] at this; exact this

set_option maxHeartbeats 4000000 in
theorem read_ok2 (K : FuncId) (hcf : ∀ (args : Array Value) (w : World), (callFunc K args).run Tryz.prog w = .ok (.enter K args) w) (cap : Array Value) (l m : List UInt8) (w : World) (C : Nat → Prop) (Q : World → Prop)
  (hC : ∀ k, C k → k < w.heap.size) (hQ : ∀ w2 w3, w.heap.size + 3 < w2.heap.size → Q w2 → Kp (fun k => k = w.heap.size ∨ k = w.heap.size + 1) w2 w3 → Q w3)
  (htake : ∀ R O w1, RS w1 R O l → Below w.heap.size w w1 → w.heap.size ≤ R → w.heap.size ≤ O →
    Calls Tryz.prog K (#[.pointer (some ⟨R, 0, none⟩)] ++ cap) w1 fun e w2 => e = .returned (.tuple #[]) ∧ RS w2 R O m ∧ Kp (fun k => k = R ∨ k = O ∨ C k) w1 w2 ∧ Q w2) :
  Calls Tryz.prog 15 #[.string (str l), .func (.func K) #[] cap] w fun e w' => e = .returned (.int .i64 (endE m : Int)) ∧ Kp C w w' ∧ Q w' := by
 have hmf : ∀ (fn : Fn) (first cap : Array Value) (w : World), (Instr.makeFunc fn first cap).run Tryz.prog w = .ok (.func fn first cap) w := fun _ _ _ _ => rfl
 have hnf : ∀ (fn : Fn) (first cap : Array Value) (w : World), (binOp .neq 54 (.func fn first cap) .nilFunc).run Tryz.prog w = .ok (.bool true) w := fun _ _ _ _ => by kernel_rfl
 have HT := Lib.hid htake
 have HC := Lib.hid hC
 have HQ := Lib.hid hQ
 clear htake hC hQ
 go_enter_defers Tryz.func15, Tryz.ntmps15
 go_wp2_with fail
 obtain ⟨h1, b0, b1, b2, b3⟩ := read_start w l
 generalize ((((w.alloc (.cells #[.int .i64 0] 29)).alloc (.cells #[.bool false, .int .i64 0] 81)).alloc (.cells #[.pointer (some ⟨w.heap.size + 1, 0, none⟩)] 79)).alloc (.cells #[.string (str l), .pointer (some ⟨w.heap.size + 1, 0, none⟩)] 83)) = w1 at h1 b0 b1 b2 b3 ⊢
 refine (HT.out _ (w.heap.size + 1) w1 ⟨b3, b1⟩ h1 (by omega) (by omega)).mono ?_
 rintro e w2 ⟨rfl, hr, hk, hq⟩
 have HN : ∀ k, C k → k < w.heap.size := HC.out
 have c0 := hk.blk b0 (by rintro (h | h | h); omega; omega; have := HN _ h; omega)
 have c2 := hk.blk b2 (by rintro (h | h | h); omega; omega; have := HN _ h; omega)
 clear HN
 have e0 := c0.cell 0
 have f0 := c0.free 0
 have e2 := c2.cell 0
 obtain ⟨r1, r2, r3, r4, r5, r6⟩ := hr.cells
 have r7 := hr.of.free 0
 simp only [List.getElem?_toArray, List.getElem?_cons_zero] at e0 e2
 have HD : ∀ k : Int, Hid (∀ w3, w3 = (w2.setCell ⟨w.heap.size, 0, none⟩ (.int .i64 k)).setCell ⟨w.heap.size + 1, 0, none⟩ (.bool true) → Kp C w w3 ∧ Q w3) := by
  intro k w3 e
  subst e
  have h3 : Below w.heap.size w2 ((w2.setCell ⟨w.heap.size, 0, none⟩ (.int .i64 k)).setCell ⟨w.heap.size + 1, 0, none⟩ (.bool true)) :=
   Below.setCell (p := ⟨w.heap.size + 1, 0, none⟩) (Below.setCell (p := ⟨w.heap.size, 0, none⟩) (Below.refl _ _) (Nat.le_refl _) _) (Nat.le_succ _) _
  exact ⟨Kp.then_ h1 hk h3 (by rintro x hx (h | h | h); omega; omega; exact h), HQ.out _ _ (by have := b3.lt; have := hk.size; omega) hq (((Kp.refl _ _).set (p := ⟨w.heap.size, 0, none⟩) (.inl rfl) _).set (p := ⟨w.heap.size + 1, 0, none⟩) (.inr rfl) _)⟩
 by_cases hm : m = []
 ·subst hm
  have hm1 : ¬ (0 : Int) < (([] : List UInt8).length : Int) := by simp
  go_wp2_with fail
  refine (left_c _ hr).mono ?_
  rintro e w3 ⟨rfl, rfl⟩
  go_wp2_with fail
  refine leaves_cons (f := 34) (args := #[.pointer (some ⟨w.heap.size + 1 + 1, 0, none⟩), .pointer (some ⟨w.heap.size, 0, none⟩)]) (by simp) (by simp [go_sem]) ?_
  refine (end_idle (w.heap.size + 1 + 1) w.heap.size (w.heap.size + 1) _ ?_ ?_ ?_).mono ?_
  ·rw [World.cell?_setCell_other _ _ _ _ (by intro e; injection e with e1 e2; omega)]; exact e2
  ·rw [World.cell?_setCell_other _ _ _ _ (by intro e; injection e with e1 e2; omega)]; exact r3
  ·rw [World.frozen?_setCell]; exact r7
  rintro e u' w3 ⟨rfl, rfl, rfl⟩
  obtain ⟨d1, d2⟩ := (HD 0).out _ rfl
  have hc5 : ((w2.setCell ⟨w.heap.size, 0, none⟩ (.int .i64 0)).setCell ⟨w.heap.size + 1, 0, none⟩ (.bool true)).cell? ⟨w.heap.size, 0, none⟩ = some (.int .i64 0) := by
   rw [World.cell?_setCell_other _ _ _ _ (by intro e; injection e with e1 e2; omega)]
   exact World.cell?_setCell_same _ _ _ e0
  refine ⟨.int .i64 0, by simp [results, Tryz.results15, go_sem, hc5], rfl, d1, d2⟩
 ·have hm1 : 0 < m.length := List.length_pos_iff.2 hm
  go_wp2_with fail
  refine (left_c _ hr).mono ?_
  rintro e w3 ⟨rfl, rfl⟩
  go_wp2_with fail
  refine leaves_cons (f := 34) (args := #[.pointer (some ⟨w.heap.size + 1 + 1, 0, none⟩), .pointer (some ⟨w.heap.size, 0, none⟩)]) (by simp) (by simp [go_sem]) ?_
  refine (end_idle (w.heap.size + 1 + 1) w.heap.size (w.heap.size + 1) _ ?_ ?_ ?_).mono ?_
  ·rw [World.cell?_setCell_other _ _ _ _ (by intro e; injection e with e1 e2; omega)]; exact e2
  ·rw [World.cell?_setCell_other _ _ _ _ (by intro e; injection e with e1 e2; omega)]; exact r3
  ·rw [World.frozen?_setCell]; exact r7
  rintro e u' w3 ⟨rfl, rfl, rfl⟩
  obtain ⟨d1, d2⟩ := (HD 5).out _ rfl
  have hc5 : ((w2.setCell ⟨w.heap.size, 0, none⟩ (.int .i64 5)).setCell ⟨w.heap.size + 1, 0, none⟩ (.bool true)).cell? ⟨w.heap.size, 0, none⟩ = some (.int .i64 5) := by
   rw [World.cell?_setCell_other _ _ _ _ (by intro e; injection e with e1 e2; omega)]
   exact World.cell?_setCell_same _ _ _ e0
  refine ⟨.int .i64 5, by simp [results, Tryz.results15, go_sem, hc5], by rw [endE_some hm], d1, d2⟩

end Go.Proofs.YtkiabladmgagdabGreatDoor.Wirey
