/- Contracts of the program's New, and of what the laws of layer 7 begin with. No condition. -/
import Derived.Test.YtfhlnidjneaieaaArcRun
namespace Go.Proofs.Ytfhlnidjneaieaa.Arcy
open Go.ChangeShapes Go.WideShapes Go.ChangeAt Go.RowKit
open Wirey (Blk Row str str_size str_list str_take Kp)
open Ringy

set_option maxHeartbeats 1000000 in
theorem newA_c {n : Nat} (h1 : 1 ≤ n) (h2 : n ≤ 1000) (w : World) :
    Calls Try.prog 33 #[.int .i64 (n : Int)] w fun e w' => ∃ A m, e = .returned (.tuple #[.pointer (some ⟨A, 0, none⟩), .int .i64 0]) ∧ HeldA w A (w.heap.size + 2) w' m (Av.new n) := by
  have hN := new_h (n := 4) (places := 2 * n + 1) (by omega) (by omega) (by omega) w
  have hpl : Calls Try.prog 66 #[.int .i64 (n : Int)] w fun e w' => e = .returned (.int .i64 ((2 * n + 1 : Nat) : Int)) ∧ w = w' := by
    go_enter Try.func66, Try.ntmps66
    go_wp2_with fail
    go_ret
    exact ⟨by simp, rfl⟩
  go_enter Try.func33, Try.ntmps33
  go_wp2_with fail
  refine hpl.mono ?_
  rintro e w' ⟨rfl, rfl⟩
  go_wp2_with fail
  refine hN.mono ?_
  rintro e w1 ⟨rfl, m, hH⟩
  go_wp2_with fail
  go_ret2
  refine ⟨w1.heap.size, m, rfl, hH.alloc _, Blk.new w1 _ _, hH.below.size, fun ho => by have := hH.lt _ ho; omega, Av.new_ok h1 h2⟩
theorem newA_no {n : Int} (h : n < 1 ∨ 1000 < n) (w : World) :
    Calls Try.prog 33 #[.int .i64 n] w fun e w' => e = .returned (.tuple #[.pointer none, .int .i64 1]) ∧ w = w' := by
  by_cases h1 : n < 1
  · clear h
    go_enter Try.func33, Try.ntmps33
    go_wp2_with fail
    go_ret2
    exact ⟨rfl, rfl⟩
  · have h4 : 1000 < n := by omega
    clear h
    go_enter Try.func33, Try.ntmps33
    go_wp2_with fail
    go_ret2
    exact ⟨rfl, rfl⟩
theorem fewA_c (l : List UInt8) (hl : l.length ≤ maxLen) (w : World) :
    Calls Try.prog 39 #[.string (str l)] w fun e w' => e = .returned (.string (str (fewL l))) ∧ w = w' := by
  have hsz := str_size
  have ht := str_take l 80
  unfold maxLen at hl
  by_cases h : 80 < l.length
  · have hf : fewL l = l.take 80 := if_pos h
    rw [hf]
    clear hf
    go_enter Try.func39, Try.ntmps39
    go_wp2_with fail
    go_ret
    exact ⟨rfl, rfl⟩
  · have hf : fewL l = l := if_neg h
    rw [hf]
    clear hf
    go_enter Try.func39, Try.ntmps39
    go_wp2_with fail
    go_ret
    exact ⟨rfl, rfl⟩
section
variable {w : World} {B A : Nat} {m : Rm} {val : Value} {k : Key} {l : List Key}
theorem Tell.form (h : Tell B A m val l w) : ∃ a c, val = .slice a l.length c := own_form h.row
theorem Tell.first (h : Tell B A m val (k :: l) w) : ∃ g c, val = .slice (some ⟨g, 0, none⟩) (l.length + 1) c ∧ w.cell? ⟨g, 0, none⟩ = some (.string (str k)) := by
  have hr := h.row
  obtain ⟨g, c, hv, -, -⟩ := hr.form (by simp)
  refine ⟨g, c, hv, ?_⟩
  rw [hv] at hr
  rw [hr.cellAt 0 (by simp)]
  rfl
end

def wa1 : Av := (Av.new 2).insert [120]
def wa2 : Av := wa1.insert [121]
def wa3 : Av := wa2.touch [120]
def wa4 : Av := wa3.insert [122]
set_option maxHeartbeats 4000000 in
set_option maxRecDepth 100000 in
theorem awakeA_c (w : World) :
    Calls Try.prog 35 #[] w fun e w' => e = .returned (.bool true) ∧ Below w.heap.size w w' := by
  have hnew := newA_c (n := 2) (by omega) (by omega) w
  have hk : ∀ c : UInt8, ([c] : Key).length ≤ maxLen := fun c => by unfold maxLen; simp
  have t3 : wa2.has [120] = true := by decide
  have t4 : wa3.insertK [122] = [[121]] := by decide
  have t5 : wa4.has [120] = true := by decide
  have t6 : wa4.has [121] = false := by decide
  have t7 : wa4.kept = 2 := by decide
  have i1 := fun (W : World) (A : Nat) (m : Rm) (h : HeldA w A (w.heap.size + 2) W m (Av.new 2)) => insert_c (k := [120]) (hk _) h
  have i2 := fun (W : World) (A : Nat) (m : Rm) (h : HeldA w A (w.heap.size + 2) W m wa1) => insert_c (k := [121]) (hk _) h
  have i3 := fun (W : World) (A : Nat) (m : Rm) (h : HeldA w A (w.heap.size + 2) W m wa2) => touch_c (k := [120]) (hk _) h
  have i4 := fun (W : World) (A : Nat) (m : Rm) (h : HeldA w A (w.heap.size + 2) W m wa3) => insert_c (k := [122]) (hk _) h
  have i5 := fun (W : World) (A : Nat) (m : Rm) (h : HeldA w A (w.heap.size + 2) W m wa4) => has_c (k := [120]) (hk _) h
  have i6 := fun (W : World) (A : Nat) (m : Rm) (h : HeldA w A (w.heap.size + 2) W m wa4) => has_c (k := [121]) (hk _) h
  have i7 := fun (W : World) (A : Nat) (m : Rm) (h : HeldA w A (w.heap.size + 2) W m wa4) => lenA_c h
  rw [t3] at i3
  rw [t4] at i4
  rw [t5] at i5
  rw [t6] at i6
  rw [t7] at i7
  clear t3 t4 t5 t6 t7
  have k0 : str [120] = ⟨#[120]⟩ := rfl
  have k1 : str [121] = ⟨#[121]⟩ := rfl
  have k2 : str [122] = ⟨#[122]⟩ := rfl
  rw [k0] at i1 i3 i5
  rw [k1] at i2 i6
  rw [k2] at i4
  clear hk k0 k2
  go_enter Try.func35, Try.ntmps35
  go_wp2_with fail
  refine hnew.mono ?_
  rintro e w1 ⟨A, m, rfl, h1⟩
  go_wp2_with fail
  refine (i1 _ _ _ h1).mono ?_
  rintro e w2 ⟨val, m2, rfl, h2, -, -⟩
  go_wp2_with fail
  refine (i2 _ _ _ h2).mono ?_
  rintro e w3 ⟨val, m3, rfl, h3, -, -⟩
  go_wp2_with fail
  refine (i3 _ _ _ h3).mono ?_
  rintro e w4 ⟨rfl, m4, h4, -⟩
  go_wp2_with fail
  refine (i4 _ _ _ h4).mono ?_
  rintro e w5 ⟨val, m5, rfl, h5, -, hT⟩
  obtain ⟨g, c, rfl, hc⟩ := hT.first
  rw [k1] at hc
  clear hT h1 h2 h3 h4 i1 i2 i3 i4 hnew
  go_wp2_with fail
  refine (i5 _ _ _ h5).mono ?_
  rintro e w' ⟨rfl, rfl⟩
  go_wp2_with fail
  refine (i6 _ _ _ h5).mono ?_
  rintro e w' ⟨rfl, rfl⟩
  go_wp2_with fail
  refine (i7 _ _ _ h5).mono ?_
  rintro e w' ⟨rfl, o, rfl⟩
  go_wp2_with fail
  go_ret
  exact ⟨rfl, (h5.alloc o).below⟩

/-! No policy -/
theorem has_none (k : List UInt8) (w : World) :
    Calls Try.prog 38 #[.pointer none, .string (str k)] w fun e w' => e = .returned (.bool false) ∧ w = w' := by
  go_enter Try.func38, Try.ntmps38
  go_wp2_with fail
  refine (made_nil _).mono ?_
  rintro e w' ⟨rfl, rfl⟩
  go_wp2_with fail
  go_ret
  exact ⟨rfl, rfl⟩
theorem len_none (w : World) :
    Calls Try.prog 45 #[.pointer none] w fun e w' => e = .returned (.int .i64 0) ∧ w = w' := by
  go_enter Try.func45, Try.ntmps45
  go_wp2_with fail
  refine (made_nil _).mono ?_
  rintro e w' ⟨rfl, rfl⟩
  go_wp2_with fail
  go_ret
  exact ⟨rfl, rfl⟩
theorem target_none (w : World) :
    Calls Try.prog 46 #[.pointer none] w fun e w' => e = .returned (.int .i64 0) ∧ w = w' := by
  go_enter Try.func46, Try.ntmps46
  go_wp2_with fail
  refine (made_nil _).mono ?_
  rintro e w' ⟨rfl, rfl⟩
  go_wp2_with fail
  go_ret
  exact ⟨rfl, rfl⟩
theorem touch_none (k : List UInt8) (w : World) :
    Calls Try.prog 47 #[.pointer none, .string (str k)] w fun e w' => e = .returned (.bool false) ∧ w = w' := by
  go_enter Try.func47, Try.ntmps47
  go_wp2_with fail
  refine (has_none _ _).mono ?_
  rintro e w' ⟨rfl, rfl⟩
  go_wp2_with fail
  go_ret
  exact ⟨rfl, rfl⟩
theorem insert_none (k : List UInt8) (w : World) :
    Calls Try.prog 43 #[.pointer none, .string (str k)] w fun e w' => e = .returned (.slice none 0 0) ∧ w = w' := by
  go_enter Try.func43, Try.ntmps43
  go_wp2_with fail
  refine (made_nil _).mono ?_
  rintro e w' ⟨rfl, rfl⟩
  go_wp2_with fail
  go_ret
  exact ⟨rfl, rfl⟩
theorem remove_none (k : List UInt8) (w : World) :
    Calls Try.prog 41 #[.pointer none, .string (str k)] w fun e w' => e = .returned (.bool false) ∧ w = w' := by
  go_enter Try.func41, Try.ntmps41
  go_wp2_with fail
  refine (made_nil _).mono ?_
  rintro e w' ⟨rfl, rfl⟩
  go_wp2_with fail
  go_ret
  exact ⟨rfl, rfl⟩
theorem evict_none (w : World) :
    Calls Try.prog 42 #[.pointer none] w fun e w' => e = .returned (.tuple #[.string ⟨#[]⟩, .bool false]) ∧ w = w' := by
  go_enter Try.func42, Try.ntmps42
  go_wp2_with fail
  refine (made_nil _).mono ?_
  rintro e w' ⟨rfl, rfl⟩
  go_wp2_with fail
  go_ret2
  exact ⟨rfl, rfl⟩
theorem export_none (w : World) :
    Calls Try.prog 48 #[.pointer none] w fun e w' => e = .returned (.string ⟨#[]⟩) ∧ w = w' := by
  go_enter Try.func48, Try.ntmps48
  go_wp2_with fail
  refine (made_nil _).mono ?_
  rintro e w' ⟨rfl, rfl⟩
  go_wp2_with fail
  go_ret
  exact ⟨rfl, rfl⟩
end Go.Proofs.Ytfhlnidjneaieaa.Arcy
