/- The cache's tally, and a list of operations that is handed in. The only condition: keys have at most 64 bytes. The program's cache where there is none: nothing; and which caches may be, as the document has it. No condition. The program's cache: what a session was told. The only condition: its number has 64 bits. -/
import Derived.Test.YtlnjnpchkdipdaaGreatStorePl
namespace Go.Proofs.YtlnjnpchkdipdaaGreat.Arry
open Go.ChangeShapes Go.WideShapes Go.ChangeAt Go.RowKit Go.Deep
open Wirey (str str_of)
end Go.Proofs.YtlnjnpchkdipdaaGreat.Arry
namespace Go.Proofs.YtlnjnpchkdipdaaGreat.Storey
open Go.ChangeShapes Go.WideShapes Go.ChangeAt Go.RowKit
open Wirey (Blk Row str str_size str_list Kp)
open Taby (En TabAt Tbl tp find ins drop size ended)
open Policyy (Pv HeldP StepP Tell)
open Ringy (Key)
open Arry

section
variable {w0 w : World} {b T M C S : Nat} {H : Nat → Prop} {s : Sv} {k : Key}
theorem tally_t (h : At w0 w b T M C S H s) : Calls Tryz.prog 22 #[tp b] w fun e w' => e = .returned (.agg #[.int .i64 (s.asked : Int), .int .i64 (s.hits : Int)]) ∧ Below w.heap.size w w' := by
  go_enter Tryz.func22, Tryz.ntmps22
  go_wp2_with fail
  have h1 := h.alloc (.cells #[.int .i64 0, .int .i64 0] 78)
  obtain ⟨-, -, -, -, -, -, -, e7, e8, -, -, -⟩ := h1.cs
  refine (made_s h1).mono ?_
  rintro e w' ⟨rfl, rfl⟩
  go_wp2_with fail
  exact bodyPost_ret (results_cell_row rfl _ _ w.heap.size 78 _ _ _ rfl (Blk.new w _ _) Tryz.underlying78 rfl (by kernel_rfl)) rfl ⟨rfl, (Below.refl _ w).alloc (Nat.le_refl _) _⟩
end
section
variable {H : Type} {enc : TypeId × Value → H} {w : World} {base : Nat} {spare : Nat → Bool} {held : Bool}
end
end Go.Proofs.YtlnjnpchkdipdaaGreat.Storey
namespace Go.Proofs.YtlnjnpchkdipdaaGreat.Storey
open Go.ChangeShapes Go.WideShapes Go.ChangeAt Go.RowKit
open Wirey (Blk Row str str_size str_list Kp)
open Taby (En TabAt Tbl tp find ins drop size ended St)
open Policyy (Pv HeldP StepP Tell)
open Ringy (Key)
open Regy

section
variable {w0 w w' w'' : World} {B b T M C S : Nat} {H H' : Nat → Prop} {s t : Sv} {k : Key} {v : Value} {l : List Key} {o : Opn} {x : Rcd}
theorem results_3 {fn : Func} {p t u : Tmp} {ty : TypeId} {P : Program} (h : fn.results = #[.tmp t, .cell p ty, .tmp u]) (tmps : Array Value) (w : World) (g : Nat) {cs : Array Value}
    (hp : tmps.getD p undef = .pointer (some ⟨g, 0, none⟩)) (hl : (loadVar ty ⟨g, 0, none⟩).run P w = .ok (.agg cs) w) :
    (results fn tmps).run P w = .ok (.tuple #[tmps.getD t undef, .agg cs, tmps.getD u undef]) w := by
  have hp' : tmps[p]?.getD undef = .pointer (some ⟨g, 0, none⟩) := by simpa using hp
  simp [results, h, hp', asAddr, Result.andThen, hl]
end
end Go.Proofs.YtlnjnpchkdipdaaGreat.Storey
namespace Go.Proofs.YtlnjnpchkdipdaaGreat.Storey
open Go.ChangeShapes Go.WideShapes Go.ChangeAt Go.RowKit
open Wirey (Blk Row str str_size str_list Kp)
open Taby (En TabAt Tbl tp find ins drop size ended St)
open Policyy (Pv HeldP StepP Tell)
open Ringy (Key)
open Regy

section
variable {w0 w w' w'' : World} {B b T M C S : Nat} {H H' : Nat → Prop} {s t : Sv} {k : Key} {v : Value} {l : List Key} {o : Opn} {x : Rcd}
set_option maxHeartbeats 4000000 in
set_option maxRecDepth 100000 in
theorem told_s {i : Nat} (hi : i < 18446744073709551616) (h : At w0 w b T M C S H s) : Calls Tryz.prog 16 #[tp b, .int .u64 (i : Int)] w fun e w' => e = .returned (.tuple #[.int .u64 (numOf i s.ss : Int), .agg (repOf i s.ss).cs, .bool (seek i s.ss).isSome]) ∧ Below w.heap.size w w' := by
  have h1 := h.alloc (.cells rep0 61)
  have hr1 := Loc.new h 61 rep0
  have s1 : Stp b T M S w H (w.alloc (.cells rep0 61)) H := .of_below ((Below.refl _ w).alloc (Nat.le_refl _) _) (Nat.le_refl _)
  have hbel1 := (Below.refl _ w).alloc (Nat.le_refl _) (.cells rep0 61)
  go_enter Tryz.func16, Tryz.ntmps16
  go_upto_region 1 with (fail)
  generalize w.alloc (.cells rep0 61) = w1 at *
  generalize hr : w.heap.size = r at hr1 ⊢
  have hrq : w.heap.size ≤ r := Nat.le_of_eq hr
  have hmd := made_s h1
  go_wp2_with fail
  refine hmd.mono ?_
  rintro e w2 ⟨rfl, rfl⟩
  obtain ⟨-, -, -, -, -, -, -, -, -, -, -, c11⟩ := h1.cs
  obtain ⟨D, hD⟩ := h1.ses
  have hlook := hD.look hi
  generalize hnn : numOf i s.ss = nn at *
  have Hnn := Lib.hid hnn
  clear hnn
  generalize hrr : repOf i s.ss = rr at *
  have Hrr := Lib.hid hrr
  clear hrr
  generalize his : (seek i s.ss).isSome = is at *
  have His := Lib.hid his
  clear his
  have hl3 := hr1.alloc (.cells (tcs nn rr) 103)
  have hp3 := Loc.new h1 103 (tcs nn rr)
  have hb3 := hbel1.alloc hbel1.size (.cells (tcs nn rr) 103)
  clear hmd
  have HNE : Hid (w1.heap.size ≠ r) := Lib.hid (by have := hr1.blk.lt; omega)
  go_upto_region 4 with (fail)
  generalize w1.alloc (.cells (tcs nn rr) 103) = w3 at *
  generalize w1.heap.size = p at *
  have hne : p ≠ r := HNE.out
  clear hlook hD c11 hbel1 h1 hr1 s1
  have t0 : w3.cell? ⟨p, 0, none⟩ = some (.int .u64 (nn : Int)) := hp3.c rfl
  have t1 : w3.cell? ⟨p, 1, none⟩ = some (.int .i64 (rr.e : Int)) := hp3.c rfl
  have t2 : w3.cell? ⟨p, 2, none⟩ = some (.string (str rr.val)) := hp3.c rfl
  have t3 : w3.cell? ⟨p, 3, none⟩ = some (.int .u64 (rr.ver : Int)) := hp3.c rfl
  refine region_only 8 #[false, false, false, false, false, false, false, false] (S := fun W => W.cell? ⟨p, 0, none⟩ = some (.int .u64 (nn : Int)) ∧ W.cell? ⟨p, 1, none⟩ = some (.int .i64 (rr.e : Int)) ∧ W.cell? ⟨p, 2, none⟩ = some (.string (str rr.val)) ∧ W.cell? ⟨p, 3, none⟩ = some (.int .u64 (rr.ver : Int))) rfl rfl (by kernel_rfl) ⟨t0, t1, t2, t3⟩ (fun hSw => ?_)
  replace hl3 := hl3.drew
  replace hp3 := hp3.drew
  replace hb3 : Below w.heap.size w w3.drew := ⟨hb3.os, hb3.tape, hb3.output, hb3.size, hb3.block⟩
  generalize w3.drew = w4 at *
  have g0 := hl3.f 0
  have g1 := hl3.f 1
  have g2 := hl3.f 2
  have k0 : w4.cell? ⟨r, 0, none⟩ = some (.int .i64 0) := hl3.c rfl
  have k1 : w4.cell? ⟨r, 1, none⟩ = some (.string ⟨#[]⟩) := hl3.c rfl
  have k2 : w4.cell? ⟨r, 2, none⟩ = some (.int .u64 0) := hl3.c rfl
  refine take_at 0 22 (fuel := 7) ?_ rfl rfl (by kernel_rfl) (by kernel_rfl) (by kernel_rfl) (Or.inl ⟨by rfl, ?_⟩) hSw ?_
  rotate_left
  · intro wx hSx
    (try dsimp only at hSx)
    go_split_ands
    go_simp
    (try with_reducible rfl)
  simp only [List.setIfInBounds_toArray, List.set_cons_zero, List.set_cons_succ]
  refine take_at 1 23 (fuel := 6) ?_ rfl rfl (by kernel_rfl) (by kernel_rfl) (by kernel_rfl) (Or.inl ⟨by rfl, ?_⟩) hSw ?_
  rotate_left
  · intro wx hSx
    (try dsimp only at hSx)
    go_split_ands
    go_simp
    (try with_reducible rfl)
  simp only [List.setIfInBounds_toArray, List.set_cons_zero, List.set_cons_succ]
  refine take_at 2 24 (fuel := 5) ?_ rfl rfl (by kernel_rfl) (by kernel_rfl) (by kernel_rfl) (Or.inl ⟨by rfl, ?_⟩) hSw ?_
  rotate_left
  · intro wx hSx
    (try dsimp only at hSx)
    go_split_ands
    go_simp
    (try with_reducible rfl)
  simp only [List.setIfInBounds_toArray, List.set_cons_zero, List.set_cons_succ]
  refine take_at 3 25 (fuel := 4) ?_ rfl rfl (by kernel_rfl) (by kernel_rfl) (by kernel_rfl) (Or.inl ⟨by rfl, ?_⟩) hSw ?_
  rotate_left
  · intro wx hSx
    (try dsimp only at hSx)
    go_split_ands
    go_simp
    (try with_reducible rfl)
  simp only [List.setIfInBounds_toArray, List.set_cons_zero, List.set_cons_succ]
  refine take_at 4 26 (fuel := 3) ?_ rfl rfl (by kernel_rfl) (by kernel_rfl) (by kernel_rfl) (Or.inl ⟨by rfl, ?_⟩) hSw ?_
  rotate_left
  · intro wx hSx
    (try dsimp only at hSx)
    go_split_ands
    go_simp
    (try with_reducible rfl)
  simp only [List.setIfInBounds_toArray, List.set_cons_zero, List.set_cons_succ]
  refine take_at 5 4 (fuel := 2) ?_ rfl rfl (by kernel_rfl) (by kernel_rfl) (by kernel_rfl) (Or.inl ⟨by rfl, ?_⟩) hSw ?_
  rotate_left
  · intro wx hSx
    (try dsimp only at hSx)
    go_split_ands
    go_simp
    (try with_reducible rfl)
  simp only [List.setIfInBounds_toArray, List.set_cons_zero, List.set_cons_succ]
  refine wpAnyH_ready (fuel := 1) (rs := [6]) (by kernel_rfl) (by simp) (AllReadyH.cons rfl (fun K hK => ?_) AllReadyH.nil)
  go_simp
  have hpr : p ≠ r := hne
  obtain ⟨q0, q1, q2, q3⟩ := hSw
  go_simp
  have hfin := put3 hl3.blk (.int .i64 (rr.e : Int)) (.string (str rr.val)) (.int .u64 (rr.ver : Int))
  have hbf := ((hb3.setCell (p := ⟨r, 0, none⟩) hrq (.int .i64 (rr.e : Int))).setCell (p := ⟨r, 1, none⟩) hrq (.string (str rr.val))).setCell (p := ⟨r, 2, none⟩) hrq (.int .u64 (rr.ver : Int))
  have hq := ((hp3.far hne 0 (.int .i64 (rr.e : Int))).far hne 1 (.string (str rr.val))).far hne 2 (.int .u64 (rr.ver : Int))
  refine hK.out _ _ ⟨hq.c rfl, hq.c rfl, hq.c rfl, hq.c rfl⟩ (fun hSw => ?_)
  clear hK K
  simp only [List.setIfInBounds_toArray, List.set_cons_zero, List.set_cons_succ]
  refine take_at 7 6 (fuel := 0) ?_ rfl rfl (by kernel_rfl) (by kernel_rfl) (by kernel_rfl) (Or.inl ⟨by rfl, ?_⟩) hSw ?_
  rotate_left
  · intro wx hSx
    (try dsimp only at hSx)
    go_split_ands
    go_simp
    (try with_reducible rfl)
  simp only [List.setIfInBounds_toArray, List.set_cons_zero, List.set_cons_succ]
  refine wpAnyH_done (by kernel_rfl) ⟨rfl, ?_⟩ 0
  go_wp2_with fail
  exact bodyPost_ret (results_3 rfl _ _ r rfl (run_loadVar_row _ _ _ _ _ _ _ hfin Tryz.underlying61 rfl (by kernel_rfl))) rfl ⟨by rw [Hnn.out, Hrr.out, His.out]; rfl, hbf⟩
end
end Go.Proofs.YtlnjnpchkdipdaaGreat.Storey
