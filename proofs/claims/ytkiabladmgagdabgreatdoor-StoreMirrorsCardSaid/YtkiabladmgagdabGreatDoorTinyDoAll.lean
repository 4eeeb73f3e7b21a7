/- The program's Tiny in memory: its three cells, its sketch and its rings; the contracts of its small functions. The only condition: a key is no longer than a text may be. Contracts of the program's Tiny: touching, missing, removing, evicting, inserting. The only condition: a key is no longer than a text may be. -/
import Derived.Test.YtkiabladmgagdabGreatDoorTinyMath
import Derived.Deep.RegionHeld3
import Derived.Test.YtkiabladmgagdabGreatDoorRingRoundAll
import Derived.Test.YtkiabladmgagdabGreatDoorSq
namespace Go.Proofs.YtkiabladmgagdabGreatDoor.Tinyy
open Go.ChangeShapes Go.WideShapes Go.ChangeAt Go.RowKit
open Wirey (Blk Row str str_size str_list Kp)
open Ringy
open Sketchy (Sk ksOf Six)

structure StepT (B : Nat) (w : World) (m : Rm) (w' : World) (m' : Rm) : Prop where
 kp : Kp (fun b => m.own b ∨ Six B b) w w'
 own : ∀ b, m'.own b → m.own b ∨ w.heap.size ≤ b
structure HeldT (w0 : World) (A B P : Nat) (w : World) (m : Rm) (v : Tv) : Prop where
 h : Held w0 P w m v.rg
 sk : Sketchy.At w B v.sk
 box : Blk w A 177 #[.int .i64 v.most, .pointer (some ⟨B + 1, 0, none⟩), .pointer (some ⟨P, 0, none⟩)]
 loA : w0.heap.size ≤ A
 loB : w0.heap.size ≤ B
 no : ¬ m.own A
 six : ∀ b, Six B b → b ≠ A ∧ ¬ m.own b
 fit : v.Fit
section
variable {w0 w w' w'' : World} {A B P : Nat} {m m' m'' : Rm} {v : Tv} {k : Key}
theorem at_six {s : Sk} (h : Sketchy.At w B s) (hb : ∀ b, Six B b → w'.heap[b]? = w.heap[b]?) : Sketchy.At w' B s :=
 ⟨(hb _ ⟨by omega, by omega⟩).trans h.hd, (hb _ ⟨by omega, by omega⟩).trans h.door, fun i hi => (hb _ ⟨by omega, by omega⟩).trans (h.row i hi)⟩
theorem StepT.refl (B : Nat) (w : World) (m : Rm) : StepT B w m w m := ⟨Kp.refl _ _, fun _ h => .inl h⟩
theorem StepT.trans (h : StepT B w m w' m') (h' : StepT B w' m' w'' m'') : StepT B w m w'' m'' := by
 refine ⟨⟨h'.kp.os.trans h.kp.os, h'.kp.tape.trans h.kp.tape, h'.kp.output.trans h.kp.output, Nat.le_trans h.kp.size h'.kp.size, fun k hk hn => ?_⟩, fun b hb => ?_⟩
 ·refine (h'.kp.block k (Nat.lt_of_lt_of_le hk h.kp.size) (fun ho => ?_)).trans (h.kp.block k hk hn)
  rcases ho with ho | ho
  ·rcases h.own k ho with h1 | h1
   ·exact hn (.inl h1)
   ·omega
  ·exact hn (.inr ho)
 ·rcases h'.own b hb with h1 | h1
  ·exact h.own b h1
  ·exact .inr (Nat.le_trans h.kp.size h1)
theorem StepT.of (h : Step w m w' m') : StepT B w m w' m' := ⟨⟨h.kp.os, h.kp.tape, h.kp.output, h.kp.size, fun k hk hn => h.kp.block k hk (fun ho => hn (.inl ho))⟩, h.own⟩
theorem StepT.ofSix (h : Kp (Six B) w w') : StepT B w m w' m := ⟨⟨h.os, h.tape, h.output, h.size, fun k hk hn => h.block k hk (fun ho => hn (.inr ho))⟩, fun _ h => .inl h⟩
theorem StepT.later {C : Nat} (h : StepT B w m w' m') (hb : Below C w' w'') (hC : w'.heap.size ≤ C) : StepT B w m w'' m' :=
 ⟨⟨hb.os.trans h.kp.os, hb.tape.trans h.kp.tape, hb.output.trans h.kp.output, Nat.le_trans h.kp.size hb.size, fun k hk hn => (hb.block k (by have := h.kp.size; omega)).trans (h.kp.block k hk hn)⟩, h.own⟩
theorem StepT.alloc (h : StepT B w m w' m') (o : Obj) : StepT B w m (w'.alloc o) m' := h.later ((Below.refl _ w').alloc (Nat.le_refl _) o) (Nat.le_refl _)
theorem StepT.drewN (h : StepT B w m w' m') (n : Nat) : StepT B w m (w'.drewN n) m' := ⟨⟨h.kp.os, h.kp.tape, h.kp.output, h.kp.size, h.kp.block⟩, h.own⟩
theorem StepT.drew (h : StepT B w m w' m') : StepT B w m w'.drew m' := h.drewN 1
theorem HeldT.lt (h : HeldT w0 A B P w m v) : A < w.heap.size := h.box.lt
theorem HeldT.later {C : Nat} (h : HeldT w0 A B P w m v) (hb : Below C w w') (hC : w.heap.size ≤ C) : HeldT w0 A B P w' m v :=
 ⟨h.h.later hb hC, at_six h.sk (fun b hb2 => hb.block b (by have := h.sk.lt; have := hb2.2; omega)), h.box.below hb (Nat.lt_of_lt_of_le h.lt hC), h.loA, h.loB, h.no, h.six, h.fit⟩
theorem HeldT.alloc (h : HeldT w0 A B P w m v) (o : Obj) : HeldT w0 A B P (w.alloc o) m v := h.later ((Below.refl _ w).alloc (Nat.le_refl _) o) (Nat.le_refl _)
theorem HeldT.drewN (h : HeldT w0 A B P w m v) (n : Nat) : HeldT w0 A B P (w.drewN n) m v := ⟨h.h.drewN n, h.sk.drewN n, h.box, h.loA, h.loB, h.no, h.six, h.fit⟩
theorem HeldT.drew (h : HeldT w0 A B P w m v) : HeldT w0 A B P w.drew m v := h.drewN 1
theorem HeldT.below (h : HeldT w0 A B P w m v) : Below w0.heap.size w0 w := h.h.below
theorem HeldT.kp {O : Nat → Prop} (h : HeldT w0 A B P w m v) (hk : Kp O w w') (hO : ∀ b, O b → w0.heap.size ≤ b ∧ ¬ m.own b ∧ b ≠ A ∧ ¬ Six B b) : HeldT w0 A B P w' m v :=
 ⟨h.h.kp hk (fun b hb => ⟨(hO b hb).1, (hO b hb).2.1⟩), at_six h.sk (fun b hb => hk.block b (by have := h.sk.lt; have := hb.2; omega) (fun ho => (hO b ho).2.2.2 hb)), (hk.block A h.lt (fun ho => (hO A ho).2.2.1 rfl)).trans h.box, h.loA, h.loB, h.no, h.six, h.fit⟩
theorem HeldT.step {r' : Rg} (h : HeldT w0 A B P w m v) (hH : Held w0 P w' m' r') (hS : Step w m w' m') (hf : Tv.Fit { v with rg := r' }) : HeldT w0 A B P w' m' { v with rg := r' } :=
 ⟨hH, at_six h.sk (fun b hb => hS.kp.block b (by have := h.sk.lt; have := hb.2; omega) (h.six b hb).2), (hS.kp.block A h.lt h.no).trans h.box, h.loA, h.loB, fun ho => by
   rcases hS.own A ho with h1 | h1
   · exact h.no h1
   · have := h.lt; omega, fun b hb => ⟨(h.six b hb).1, fun ho => by
     rcases hS.own b ho with h1 | h1
     · exact (h.six b hb).2 h1
     · have := h.sk.lt; have := hb.2; omega⟩, hf⟩
theorem HeldT.skStep {s' : Sk} (h : HeldT w0 A B P w m v) (hA : Sketchy.At w' B s') (hK : Kp (Six B) w w') (hf : Tv.Fit { v with sk := s' }) : HeldT w0 A B P w' m { v with sk := s' } :=
 ⟨h.h.kp hK (fun b hb => ⟨Nat.le_trans h.loB hb.1, (h.six b hb).2⟩), hA, (hK.block A h.lt (fun ho => (h.six A ho).1 rfl)).trans h.box, h.loA, h.loB, h.no, h.six, hf⟩
theorem HeldT.cells (h : HeldT w0 A B P w m v) : w.cell? ⟨A, 0, none⟩ = some (.int .i64 v.most) ∧ w.cell? ⟨A, 1, none⟩ = some (.pointer (some ⟨B + 1, 0, none⟩)) ∧ w.cell? ⟨A, 2, none⟩ = some (.pointer (some ⟨P, 0, none⟩)) :=
 ⟨by rw [h.box.cell 0]; rfl, by rw [h.box.cell 1]; rfl, by rw [h.box.cell 2]; rfl⟩

theorem len_t {i : Nat} (hi : i < 3) (h : HeldT w0 A B P w m v) :
  Calls Tryz.prog 140 #[.pointer (some ⟨P, 0, none⟩), .int .i64 i] w fun e w' => e = .returned (.int .i64 (v.len i : Int)) ∧ w = w' := len_h i (by rw [h.fit.n]; exact hi) h.h
theorem in_some {i : Nat} (hk : k.length ≤ maxLen) (e : v.at_ k = some i) (h : HeldT w0 A B P w m v) :
  Calls Tryz.prog 167 #[.pointer (some ⟨P, 0, none⟩), .string (str k)] w fun e w' => e = .returned (.tuple #[.int .i64 i, .bool true]) ∧ w = w' := by
 obtain ⟨hi, hm⟩ := Tv.at_some e
 have hR := h.h.R
 subst hR
 exact flip (in_yes' hk w h.h.at_ (by rw [h.fit.n]; exact hi) hm)
theorem in_none (hk : k.length ≤ maxLen) (e : v.at_ k = none) (h : HeldT w0 A B P w m v) :
  Calls Tryz.prog 167 #[.pointer (some ⟨P, 0, none⟩), .string (str k)] w fun e w' => e = .returned (.tuple #[.int .i64 0, .bool false]) ∧ w = w' := by
 have hR := h.h.R
 subst hR
 refine flip (in_no' hk w h.h.at_ ?_)
 rintro ⟨i, hi, hm⟩
 rw [h.fit.n] at hi
 exact Tv.at_none e i hi hm
theorem front_t {j : Nat} (hj : j < 3) (hk : k.length ≤ 64) (hc : v.can k) (h : HeldT w0 A B P w m v) :
  Calls Tryz.prog 168 #[.pointer (some ⟨P, 0, none⟩), .int .i64 j, .string (str k)] w fun e w' => e = .returned (.bool true) ∧ ∃ m', HeldT w0 A B P w' m' (v.fr j k) ∧ StepT B w m w' m' := by
 have hR := h.h.R
 subst hR
 refine (front_yes (by rw [h.fit.n]; exact hj) hk w h.h.at_ hc).mono ?_
 rintro e w' ⟨rfl, m', hA, hS⟩
 exact ⟨rfl, m', h.step (h.h.step hA hS) hS (h.fit.fr hj hk hc), StepT.of hS⟩
theorem drop_t (hk : k.length ≤ maxLen) (h : HeldT w0 A B P w m v) :
  Calls Tryz.prog 232 #[.pointer (some ⟨P, 0, none⟩), .string (str k)] w fun e w' => e = .returned (.bool (v.has k)) ∧ ∃ m', HeldT w0 A B P w' m' (v.dr k) ∧ StepT B w m w' m' := by
 refine (drop_h hk h.h).mono ?_
 rintro e w' ⟨rfl, m', hA, hS⟩
 rw [Tv.hasB_eq h.fit.n]
 exact ⟨rfl, m', h.step hA hS (h.fit.dr k), StepT.of hS⟩
theorem back_some {i : Nat} (hi : i < 3) (e : v.last i = some k) (h : HeldT w0 A B P w m v) :
  Calls Tryz.prog 234 #[.pointer (some ⟨P, 0, none⟩), .int .i64 i] w fun e w' => e = .returned (.tuple #[.string (str k), .bool true]) ∧ w = w' := by
 obtain ⟨s, hs⟩ := Tv.last_some e
 have hR := h.h.R
 subst hR
 exact flip (back_yes w h.h.at_ (by rw [h.fit.n]; exact hi) hs)
theorem back_empty {i : Nat} (hi : i < 3) (e : v.last i = none) (h : HeldT w0 A B P w m v) :
  Calls Tryz.prog 234 #[.pointer (some ⟨P, 0, none⟩), .int .i64 i] w fun e w' => e = .returned (.tuple #[.string ⟨#[]⟩, .bool false]) ∧ w = w' := by
 have hR := h.h.R
 subst hR
 exact flip (back_none w h.h.at_ (by rw [h.fit.n]; exact hi) (Tv.last_none e))

theorem note_t (hk : k.length ≤ 1099511627776) (h : HeldT w0 A B P w m v) :
  Calls Tryz.prog 183 #[.pointer (some ⟨B + 1, 0, none⟩), .string (str k)] w fun e w' => e = .returned (.tuple #[]) ∧ HeldT w0 A B P w' m (v.note k) ∧ StepT B w m w' m := by
 refine (Sketchy.add_c k hk w h.sk h.fit.sw).mono ?_
 rintro e w' ⟨rfl, hA, hK⟩
 exact ⟨rfl, h.skStep hA hK (h.fit.note k), StepT.ofSix hK⟩
theorem seen_t (hk : k.length ≤ 1099511627776) (h : HeldT w0 A B P w m v) :
  Calls Tryz.prog 253 #[.pointer (some ⟨B + 1, 0, none⟩), .string (str k)] w fun e w' => e = .returned (.int .i64 (v.seen k : Int)) ∧ ∃ n, w' = w.drewN n := Sketchy.seen_c k hk w h.sk h.fit.sw.pre

theorem made_c (h : HeldT w0 A B P w m v) :
  Calls Tryz.prog 171 #[.pointer (some ⟨A, 0, none⟩)] w fun e w' => e = .returned (.bool true) ∧ w = w' := by
 obtain ⟨c0, c1, c2⟩ := h.cells
 clear h
 go_enter Tryz.func171, Tryz.ntmps171
 go_wp2_with fail
 go_ret
 exact ⟨rfl, rfl⟩
theorem has_t (hk : k.length ≤ maxLen) (h : HeldT w0 A B P w m v) :
  Calls Tryz.prog 243 #[.pointer (some ⟨A, 0, none⟩), .string (str k)] w fun e w' => e = .returned (.bool (v.has k)) ∧ w = w' := by
 have hm := made_c h
 obtain ⟨c0, c1, c2⟩ := h.cells
 cases e : v.at_ k with
 | none =>
  have hi := in_none hk e h
  have ha : v.has k = false := by unfold Tv.has; rw [e]; rfl
  rw [ha]
  clear h ha e
  go_enter Tryz.func243, Tryz.ntmps243
  go_wp2_with fail
  refine hm.mono ?_
  rintro e w' ⟨rfl, rfl⟩
  go_wp2_with fail
  refine hi.mono ?_
  rintro e w' ⟨rfl, rfl⟩
  go_wp2_with fail
  go_ret
  exact ⟨rfl, rfl⟩
 | some i =>
  have hi := in_some hk e h
  have ha : v.has k = true := by unfold Tv.has; rw [e]; rfl
  rw [ha]
  clear h ha e
  go_enter Tryz.func243, Tryz.ntmps243
  go_wp2_with fail
  refine hm.mono ?_
  rintro e w' ⟨rfl, rfl⟩
  go_wp2_with fail
  refine hi.mono ?_
  rintro e w' ⟨rfl, rfl⟩
  go_wp2_with fail
  go_ret
  exact ⟨rfl, rfl⟩
def sum3 (x0 x1 x2 : Nat) : Nat → Nat
 | 0 => 0
 | 1 => x0
 | 2 => x0 + x1
 | _ => x0 + x1 + x2
set_option maxHeartbeats 1000000 in
theorem lenT_c (h : HeldT w0 A B P w m v) :
  Calls Tryz.prog 138 #[.pointer (some ⟨A, 0, none⟩)] w fun e w' => e = .returned (.int .i64 v.kept) ∧ w = w' := by
 have hm := made_c h
 obtain ⟨c0, c1, c2⟩ := h.cells
 have hl0 := len_t (i := 0) (by omega) h
 have hl1 := len_t (i := 1) (by omega) h
 have hl2 := len_t (i := 2) (by omega) h
 have z0 := h.fit.len_le (i := 0) (by omega)
 have z1 := h.fit.len_le (i := 1) (by omega)
 have z2 := h.fit.len_le (i := 2) (by omega)
 unfold Tv.kept
 clear h
 generalize v.len 0 = x0 at *
 generalize v.len 1 = x1 at *
 generalize v.len 2 = x2 at *
 go_enter Tryz.func138, Tryz.ntmps138
 go_wp2_with fail
 refine hm.mono ?_
 rintro e w' ⟨rfl, rfl⟩
 go_wp2_with fail
 go_loopw [3, 7] (fun s i wr => ∃ j : Nat, j ≤ 3 ∧ i = .int .i64 j ∧ s = .int .i64 ((sum3 x0 x1 x2 j : Nat) : Int) ∧ wr = w) (fun _ i _ => 3 - (intOf i).toNat)
 case atStart => exact ⟨0, by omega, rfl, rfl, rfl⟩
 case round =>
  obtain ⟨j, hj, rfl, rfl, rfl⟩ := hrel
  rcases (by omega : j = 0 ∨ j = 1 ∨ j = 2 ∨ j = 3) with rfl | rfl | rfl | rfl
  ·simp only [sum3]
   go_wp2_with fail
   refine hl0.mono ?_
   rintro e w' ⟨rfl, rfl⟩
   go_wp2_with fail
   go_roundw
   case rel => exact ⟨1, by omega, rfl, by simp, by first | rfl | trivial⟩
   case measure => simp [intOf]
  ·simp only [sum3]
   go_wp2_with fail
   refine hl1.mono ?_
   rintro e w' ⟨rfl, rfl⟩
   go_wp2_with fail
   go_roundw
   case rel => exact ⟨2, by omega, rfl, by simp, by first | rfl | trivial⟩
   case measure => simp [intOf]
  ·simp only [sum3]
   go_wp2_with fail
   refine hl2.mono ?_
   rintro e w' ⟨rfl, rfl⟩
   go_wp2_with fail
   go_roundw
   case rel => exact ⟨3, by omega, rfl, by simp, by first | rfl | trivial⟩
   case measure => simp [intOf]
  ·simp only [sum3]
   go_wp2_with fail
   go_ret
   exact ⟨rfl, rfl⟩
theorem mayKeep_yes {n : Nat} (h1 : 1 ≤ n) (h2 : n ≤ 1000) (w : World) :
  Calls Tryz.prog 96 #[.int .i64 n] w fun e w' => e = .returned (.bool true) ∧ w = w' := by
 have d1 : decide ((n : Int) ≤ 1000) = true := decide_eq_true (by omega)
 have d2 : decide (1 ≤ (n : Int)) = true := decide_eq_true (by omega)
 go_enter Tryz.func96, Tryz.ntmps96
 go_wp2_with fail
 go_ret
 exact ⟨rfl, rfl⟩
theorem parts_c {c : Nat} (h1 : 1 ≤ c) (h2 : c ≤ 1000) (w : World) :
  Calls Tryz.prog 137 #[.int .i64 c] w fun e w' => e = .returned (.agg #[.int .i64 (wMost c : Int), .int .i64 (sMost c : Int)]) ∧ ∃ o, w' = w.alloc o := by
 have hk := fun W => mayKeep_yes h1 h2 W
 have hw : wMost c = max 1 (c / 8) := rfl
 have hs : sMost c = (c - wMost c) * 4 / 5 := rfl
 have HW := Lib.hid hw
 have HS := Lib.hid hs
 clear hw hs
 generalize wMost c = W at *
 generalize sMost c = Z at *
 have q : (.agg #[.int .i64 W, .int .i64 Z] : Value) = .agg #[.int .i64 (if 1 < (c : Int) / 8 then (c : Int) / 8 else 1), .int .i64 (((c : Int) - (if 1 < (c : Int) / 8 then (c : Int) / 8 else 1)) * 4 / 5)] := by
  have h3 := HW.out
  have h4 := HS.out
  have e1 : (W : Int) = if 1 < (c : Int) / 8 then (c : Int) / 8 else 1 := by split <;> omega
  rw [← e1]
  have e2 : (Z : Int) = ((c : Int) - (W : Int)) * 4 / 5 := by omega
  rw [e2]
 have HQ := Lib.hid q
 clear q
 go_enter Tryz.func137, Tryz.ntmps137
 go_wp2_with fail
 refine (hk _).mono ?_
 rintro e w' ⟨rfl, rfl⟩
 go_wp2_with fail
 all_goals
  refine bodyPost_ret (results_cell_row rfl _ _ w.heap.size 206 _ _ _ rfl (Blk.new w _ _) Tryz.underlying206 rfl (by kernel_rfl)) rfl ⟨?_, _, rfl⟩
  rw [HQ.out]
  first
  | simp only [*, if_true]
  | rw [if_neg (by omega)]
  | rw [show max 1 ((c : Int) / 8) = (if 1 < (c : Int) / 8 then (c : Int) / 8 else 1) by split <;> omega]
  | fail
def firstOf (v : Tv) (L : Nat → Nat) (n : Nat) : Nat → Option Key
 | 0 => none
 | f + 1 => match v.last (L (n - (f + 1))) with
  | some k => some k
  | none => firstOf v L n f
set_option maxHeartbeats 1000000 in
theorem last_c {g n : Nat} {L : Nat → Nat} (hn : n ≤ 3) (hL : ∀ i, i < n → L i < 3) (hc : ∀ i, i < n → w.cell? ⟨g, i, none⟩ = some (.int .i64 (L i : Int))) (h : HeldT w0 A B P w m v) :
  Calls Tryz.prog 247 #[.pointer (some ⟨A, 0, none⟩), .slice (some ⟨g, 0, none⟩) n n] w fun e w' => e = .returned (.tuple #[.string (str ((firstOf v L n n).getD [])), .bool (firstOf v L n n).isSome]) ∧ w = w' := by
 obtain ⟨c0, c1, c2⟩ := h.cells
 go_enter Tryz.func247, Tryz.ntmps247
 go_wp2_with fail
 go_loopw [12] (fun i wr => ∃ j : Nat, j ≤ n ∧ i = .int .i64 j ∧ firstOf v L n n = firstOf v L n (n - j) ∧ wr = w) (fun i _ => n - (intOf i).toNat)
 case atStart => exact ⟨0, Nat.zero_le _, rfl, by simp, rfl⟩
 case round =>
  obtain ⟨j, hj, rfl, hF, rfl⟩ := hrel
  by_cases hlt : j < n
  ·have hcj := hc j hlt
   have hs : n - j = (n - j - 1) + 1 := by omega
   have hsub : n - (n - j - 1 + 1) = j := by omega
   rw [hs] at hF
   have hF2 : firstOf v L n (n - j - 1 + 1) = match v.last (L j) with | some k => some k | none => firstOf v L n (n - j - 1) := by
    show (match v.last (L (n - (n - j - 1 + 1))) with | some k => some k | none => firstOf v L n (n - j - 1)) = _
    rw [hsub]
   rw [hF2] at hF
   cases e : v.last (L j) with
   | some k =>
    rw [e] at hF
    have hF : firstOf v L n n = some k := hF
    have hb := back_some (hL j hlt) e h
    have HF := Lib.hid hF
    clear hF hF2 hs hsub h hc
    go_wp2_with fail
    refine hb.mono ?_
    rintro e w' ⟨rfl, rfl⟩
    go_wp2_with fail
    go_ret2
    exact ⟨by rw [HF.out]; rfl, rfl⟩
   | none =>
    rw [e] at hF
    have hF : firstOf v L n n = firstOf v L n (n - j - 1) := hF
    have hb := back_empty (hL j hlt) e h
    have HF := Lib.hid hF
    clear hF hF2 hs hsub h hc
    go_wp2_with fail
    refine hb.mono ?_
    rintro e w' ⟨rfl, rfl⟩
    go_wp2_with fail
    go_roundw
    case rel => exact ⟨j + 1, by omega, by simp, by rw [HF.out]; congr 1, by first | rfl | trivial⟩
    case measure => simp [intOf]; omega
  ·obtain rfl : j = n := by omega
   rw [Nat.sub_self] at hF
   have hF : firstOf v L j j = none := hF
   have HF := Lib.hid hF
   clear hF
   go_wp2_with fail
   go_ret2
   exact ⟨by rw [HF.out]; rfl, rfl⟩
theorem last1 {a : Nat} {x : Int} {g : Nat} (hx : x = (a : Int)) (ha : a < 3) (hb : Blk w g 3 #[.int .i64 x]) (h : HeldT w0 A B P w m v) :
  Calls Tryz.prog 247 #[.pointer (some ⟨A, 0, none⟩), .slice (some ⟨g, 0, none⟩) 1 1] w fun e w' => e = .returned (.tuple #[.string (str ((v.last a).getD [])), .bool (v.last a).isSome]) ∧ w = w' := by
 subst hx
 have hf : firstOf v (fun _ => a) 1 1 = v.last a := by unfold firstOf firstOf; cases v.last a <;> rfl
 have := last_c (L := fun _ => a) (n := 1) (by omega) (fun _ _ => ha) (fun t ht => by
   obtain rfl : t = 0 := by omega
   exact hb.cell 0) h
 rw [hf] at this
 exact this
theorem last2 {g : Nat} (hb : Blk w g 3 #[.int .i64 1, .int .i64 2]) (h : HeldT w0 A B P w m v) :
  Calls Tryz.prog 247 #[.pointer (some ⟨A, 0, none⟩), .slice (some ⟨g, 0, none⟩) 2 2] w fun e w' => e = .returned (.tuple #[.string (str ((v.first [1, 2]).getD [])), .bool (v.first [1, 2]).isSome]) ∧ w = w' :=
 last_c (L := fun i => i + 1) (n := 2) (by omega) (fun _ _ => by omega) (fun t ht => by
   rcases (by omega : t = 0 ∨ t = 1) with rfl | rfl
   · exact hb.cell 0
   · exact hb.cell 1) h
theorem last3 {g : Nat} (hb : Blk w g 3 #[.int .i64 1, .int .i64 0, .int .i64 2]) (h : HeldT w0 A B P w m v) :
  Calls Tryz.prog 247 #[.pointer (some ⟨A, 0, none⟩), .slice (some ⟨g, 0, none⟩) 3 3] w fun e w' => e = .returned (.tuple #[.string (str (v.goes.getD [])), .bool v.goes.isSome]) ∧ w = w' :=
 last_c (L := fun i => if i = 0 then 1 else if i = 1 then 0 else 2) (n := 3) (by omega) (fun i _ => by split; omega; split <;> omega) (fun t ht => by
   rcases (by omega : t = 0 ∨ t = 1 ∨ t = 2) with rfl | rfl | rfl
   · exact hb.cell 0
   · exact hb.cell 1
   · exact hb.cell 2) h
theorem seenT_c (hk : k.length ≤ 1099511627776) (h : HeldT w0 A B P w m v) :
  Calls Tryz.prog 252 #[.pointer (some ⟨A, 0, none⟩), .string (str k)] w fun e w' => e = .returned (.int .i64 (v.seen k : Int)) ∧ ∃ n, w' = w.drewN n := by
 have hm := made_c h
 have hs := seen_t hk h
 obtain ⟨c0, c1, c2⟩ := h.cells
 clear h
 go_enter Tryz.func252, Tryz.ntmps252
 go_wp2_with fail
 refine hm.mono ?_
 rintro e w' ⟨rfl, rfl⟩
 go_wp2_with fail
 refine hs.mono ?_
 rintro e w' ⟨rfl, n, rfl⟩
 go_wp2_with fail
 go_ret
 exact ⟨rfl, n, rfl⟩
theorem removeT_c (hk : k.length ≤ maxLen) (h : HeldT w0 A B P w m v) :
  Calls Tryz.prog 245 #[.pointer (some ⟨A, 0, none⟩), .string (str k)] w fun e w' => e = .returned (.bool (v.has k)) ∧ ∃ m', HeldT w0 A B P w' m' (v.dr k) ∧ StepT B w m w' m' := by
 have hm := made_c h
 have hd := drop_t hk h
 obtain ⟨c0, c1, c2⟩ := h.cells
 clear h
 generalize v.has k = b at *
 go_enter Tryz.func245, Tryz.ntmps245
 go_wp2_with fail
 refine hm.mono ?_
 rintro e w' ⟨rfl, rfl⟩
 go_wp2_with fail
 refine hd.mono ?_
 rintro e w2 ⟨rfl, hp⟩
 go_wp2_with fail
 go_ret
 exact ⟨rfl, hp⟩
end
end Go.Proofs.YtkiabladmgagdabGreatDoor.Tinyy
namespace Go.Proofs.YtkiabladmgagdabGreatDoor.Tinyy
open Go.ChangeShapes Go.WideShapes Go.ChangeAt Go.RowKit
open Wirey (Blk Row str str_size str_list Kp)
open Ringy
open Sketchy (Sk ksOf Six)

section
variable {w0 w w' w'' : World} {A B P : Nat} {m m' m'' : Rm} {v : Tv} {k : Key}
structure Beside (w0 : World) (A B P : Nat) (wb : World) (m : Rm) (v : Tv) (w : World) : Prop where
 h : HeldT w0 A B P w m v
 s : StepT B wb m w m
theorem Beside.drewN (h : Beside w0 A B P w m v w') (n : Nat) : Beside w0 A B P w m v (w'.drewN n) := ⟨h.h.drewN n, h.s.drewN n⟩
theorem Beside.drew (h : Beside w0 A B P w m v w') : Beside w0 A B P w m v w'.drew := ⟨h.h.drew, h.s.drew⟩
theorem Beside.alloc (h : Beside w0 A B P w m v w') (o : Obj) : Beside w0 A B P w m v (w'.alloc o) := ⟨h.h.alloc o, h.s.alloc o⟩
theorem Beside.of (h : HeldT w0 A B P w m v) : Beside w0 A B P w m v w := ⟨h, StepT.refl _ _ _⟩
theorem b1 (h : Beside w0 A B P w m v w') : w'.cell? ⟨A, 0, none⟩ = some (.int .i64 v.most) ∧ Beside w0 A B P w m v w' := ⟨h.h.cells.1, h⟩
theorem bA {x : World} (h : x.cell? ⟨A, 0, none⟩ = some (.int .i64 v.most) ∧ Beside w0 A B P w m v x) (o : Obj) : (x.alloc o).cell? ⟨A, 0, none⟩ = some (.int .i64 v.most) ∧ Beside w0 A B P w m v (x.alloc o) := b1 (h.2.alloc o)
theorem bD {x : World} (h : x.cell? ⟨A, 0, none⟩ = some (.int .i64 v.most) ∧ Beside w0 A B P w m v x) : x.drew.cell? ⟨A, 0, none⟩ = some (.int .i64 v.most) ∧ Beside w0 A B P w m v x.drew := b1 h.2.drew
theorem onto {f : FuncId} {args : Array Value} {W : World} {x : Ending} (hB : Beside w0 A B P w m v W) (h : Calls Tryz.prog f args W fun e w' => e = x ∧ W = w') : Calls Tryz.prog f args W fun e w' => e = x ∧ Beside w0 A B P w m v w' := h.mono fun _ _ ⟨a, b⟩ => ⟨a, b ▸ hB⟩
theorem b2 (h : Beside w0 A B P w m v w') : w'.cell? ⟨A, 0, none⟩ = some (.int .i64 v.most) ∧ w'.cell? ⟨A, 2, none⟩ = some (.pointer (some ⟨P, 0, none⟩)) ∧ Beside w0 A B P w m v w' := ⟨h.h.cells.1, h.h.cells.2.2, h⟩
theorem b2A {x : World} (h : x.cell? ⟨A, 0, none⟩ = some (.int .i64 v.most) ∧ x.cell? ⟨A, 2, none⟩ = some (.pointer (some ⟨P, 0, none⟩)) ∧ Beside w0 A B P w m v x) (o : Obj) : (x.alloc o).cell? ⟨A, 0, none⟩ = some (.int .i64 v.most) ∧ (x.alloc o).cell? ⟨A, 2, none⟩ = some (.pointer (some ⟨P, 0, none⟩)) ∧ Beside w0 A B P w m v (x.alloc o) := b2 (h.2.2.alloc o)
theorem b2D {x : World} (h : x.cell? ⟨A, 0, none⟩ = some (.int .i64 v.most) ∧ x.cell? ⟨A, 2, none⟩ = some (.pointer (some ⟨P, 0, none⟩)) ∧ Beside w0 A B P w m v x) : x.drew.cell? ⟨A, 0, none⟩ = some (.int .i64 v.most) ∧ x.drew.cell? ⟨A, 2, none⟩ = some (.pointer (some ⟨P, 0, none⟩)) ∧ Beside w0 A B P w m v x.drew := b2 h.2.2.drew
theorem sB {x : World} (h : x.cell? ⟨A, 0, none⟩ = some (.int .i64 v.most) ∧ x.cell? ⟨A, 2, none⟩ = some (.pointer (some ⟨P, 0, none⟩)) ∧ Beside w0 A B P w m v x) : Beside w0 A B P w m v x := h.2.2
theorem b3 {n : Nat} (hn : v.most = n) (h : Beside w0 A B P w m v w') : w'.cell? ⟨A, 0, none⟩ = some (.int .i64 n) ∧ w'.cell? ⟨A, 2, none⟩ = some (.pointer (some ⟨P, 0, none⟩)) ∧ Beside w0 A B P w m v w' := by subst hn; exact b2 h
theorem b3A {n : Nat} (hn : v.most = n) {x : World} (h : x.cell? ⟨A, 0, none⟩ = some (.int .i64 n) ∧ x.cell? ⟨A, 2, none⟩ = some (.pointer (some ⟨P, 0, none⟩)) ∧ Beside w0 A B P w m v x) (o : Obj) : (x.alloc o).cell? ⟨A, 0, none⟩ = some (.int .i64 n) ∧ (x.alloc o).cell? ⟨A, 2, none⟩ = some (.pointer (some ⟨P, 0, none⟩)) ∧ Beside w0 A B P w m v (x.alloc o) := b3 hn (h.2.2.alloc o)
theorem b3D {n : Nat} (hn : v.most = n) {x : World} (h : x.cell? ⟨A, 0, none⟩ = some (.int .i64 n) ∧ x.cell? ⟨A, 2, none⟩ = some (.pointer (some ⟨P, 0, none⟩)) ∧ Beside w0 A B P w m v x) : x.drew.cell? ⟨A, 0, none⟩ = some (.int .i64 n) ∧ x.drew.cell? ⟨A, 2, none⟩ = some (.pointer (some ⟨P, 0, none⟩)) ∧ Beside w0 A B P w m v x.drew := b3 hn h.2.2.drew
theorem s3 {n : Nat} {x : World} (h : x.cell? ⟨A, 0, none⟩ = some (.int .i64 n) ∧ x.cell? ⟨A, 2, none⟩ = some (.pointer (some ⟨P, 0, none⟩)) ∧ Beside w0 A B P w m v x) : Beside w0 A B P w m v x := h.2.2
theorem Beside.trans {a b c : World} (h : Beside w0 A B P a m v b) (h' : Beside w0 A B P b m v c) : Beside w0 A B P a m v c := ⟨h'.h, h.s.trans h'.s⟩
theorem ontoB {f : FuncId} {args : Array Value} {W : World} {x : Ending} (hB : Beside w0 A B P w m v W) (h : Calls Tryz.prog f args W fun e w' => e = x ∧ Beside w0 A B P W m v w') : Calls Tryz.prog f args W fun e w' => e = x ∧ Beside w0 A B P w m v w' := h.mono fun _ _ ⟨a, b⟩ => ⟨a, hB.trans b⟩
theorem field0 (a b : Int) (W : World) : (Instr.field 206 (.agg #[.int .i64 a, .int .i64 b]) 0).run Tryz.prog W = .ok (.int .i64 a) W := by kernel_rfl
theorem field1 (a b : Int) (W : World) : (Instr.field 206 (.agg #[.int .i64 a, .int .i64 b]) 1).run Tryz.prog W = .ok (.int .i64 b) W := by kernel_rfl
set_option maxHeartbeats 1000000 in
theorem tooMany_c (h : HeldT w0 A B P w m v) :
  Calls Tryz.prog 139 #[.pointer (some ⟨A, 0, none⟩)] w fun e w' => e = .returned (.bool (decide (v.most < v.kept))) ∧ Beside w0 A B P w m v w' := by
 have hB := Beside.of h
 have hd := b1 hB.drew
 have hm1 := h.fit.m1
 have hkm := h.fit.kept
 have hkm2 := h.fit.m2
 have hdec : decide (v.most < v.kept) = decide ((v.most : Int) < (v.kept : Int)) := by rw [decide_eq_decide]; omega
 have HD := Lib.hid hdec
 clear h hdec
 go_enter Tryz.func139, Tryz.ntmps139
 go_wp2_with fail
 go_region_held3 (fun w' => w'.cell? ⟨A, 0, none⟩ = some (.int .i64 v.most) ∧ Beside w0 A B P w m v w')
  (first | exact hd | exact bA (by assumption) _ | exact bD (by assumption) | exact b1 (by assumption) | exact b1 (Beside.drewN hB _) | go_keep)
  (first | (go_at_call 138; refine (onto (And.right (by assumption : _ ∧ Beside w0 A B P w m v _)) (lenT_c (And.right (by assumption : _ ∧ Beside w0 A B P w m v _)).h)).mono ?_; rintro e wv ⟨rfl, hbv⟩))
 have hx := And.right (by assumption : _ ∧ Beside w0 A B P w m v _)
 go_wp2_with fail
 go_ret
 exact ⟨by rw [HD.out]; rfl, hx⟩
set_option maxHeartbeats 2000000 in
set_option maxRecDepth 100000 in
theorem makeSafe_c {i : Nat} (hi : i = 1 ∨ i = 2) (hm : k ∈ v.rg.l i) (hok : v.Ok) (h : HeldT w0 A B P w m v) :
  Calls Tryz.prog 250 #[.pointer (some ⟨A, 0, none⟩), .string (str k)] w fun e w' => e = .returned (.tuple #[]) ∧ ∃ m', HeldT w0 A B P w' m' (v.safe k) ∧ StepT B w m w' m' := by
 obtain ⟨-, -, -, hy⟩ := Tv.safe_spec hok hi hm
 have hkl := hok.fit.klen (by omega) hm
 have hf := front_t (j := 2) (by omega) hkl (hok.fit.in_ hok.fit.n (by omega) hm) h
 have hm1 := h.fit.m1
 have hm2 := h.fit.m2
 obtain ⟨c0, c1, c2⟩ := h.cells
 have hu : v.safe k = if sMost v.most < (v.fr 2 k).len 2 then (v.fr 2 k).fr 1 (((v.fr 2 k).last 2).getD []) else v.fr 2 k := rfl
 clear h hok hm
 generalize v.safe k = s at *
 generalize hU : v.fr 2 k = u at *
 have hmo : v.most = u.most := by rw [← hU]; rfl
 rw [hmo] at hy c0 hm1 hm2 hu
 clear hmo hU
 have HU := Lib.hid hu
 clear hu
 go_enter Tryz.func250, Tryz.ntmps250
 go_wp2_with fail
 refine hf.mono ?_
 rintro e w1 ⟨rfl, m1, h1, hS1⟩
 clear c0 c1 c2
 obtain ⟨c0, c1, c2⟩ := h1.cells
 have hB := Beside.of h1
 have hd := b1 hB.drew
 have hl2 := h1.fit.len_le (i := 2) (by omega)
 have hf1 := fun W => field1 (wMost u.most : Int) (sMost u.most : Int) W
 go_wp2_with fail
 go_region_held3 (fun w' => w'.cell? ⟨A, 0, none⟩ = some (.int .i64 u.most) ∧ w'.cell? ⟨A, 2, none⟩ = some (.pointer (some ⟨P, 0, none⟩)) ∧ Beside w0 A B P w1 m1 u w')
  (first | exact b2 hd.2 | exact b2A (by assumption) _ | exact b2D (by assumption) | exact b2 (by assumption) | exact b2 (Beside.drewN hB _) | go_keep)
  (first | (go_at_call 140; refine (onto (sB (by assumption)) (len_t (i := 2) (by omega) (sB (by assumption)).h)).mono ?_; rintro e wv ⟨rfl, hbv⟩) | (go_at_call 137; refine (parts_c hm1 hm2 _).mono ?_; rintro e wv ⟨rfl, o, rfl⟩))
 have hx := hbv.alloc o
 have hS2 := hS1.trans hx.s
 clear c0 c1 c2 hB hd hf hf1 hbv h1 hS1
 obtain ⟨c0, c1, c2⟩ := hx.h.cells
 by_cases hb : sMost u.most < u.len 2
 ·simp only [hb, decide_true]
  obtain ⟨y, hy1, hy2⟩ := hy hb
  have hl := fun (W : World) (g : Nat) (hb : Blk W g 3 #[.int .i64 2]) (hW : HeldT w0 A B P W m1 u) => last1 (a := 2) (x := 2) rfl (by omega) hb hW
  rw [hy1] at hl
  simp only [Option.getD_some, Option.isSome_some] at hl
  have hyl := hx.h.fit.klen (by omega) hy2
  have hyc := hx.h.fit.in_ hx.h.fit.n (by omega) hy2
  have HI := Lib.hid (show s = u.fr 1 y by rw [HU.out, if_pos hb, hy1]; rfl)
  clear hy hb hy1 hy2
  generalize wv.alloc o = w2 at *
  go_wp2_with fail
  refine (hl _ _ (Blk.new w2 3 _) (hx.h.alloc _)).mono ?_
  rintro e w' ⟨rfl, rfl⟩
  have hx3 := hx.alloc (.cells #[.int .i64 2] 3)
  obtain ⟨k0, k1, k2⟩ := hx3.h.cells
  go_wp2_with fail
  refine (front_t (j := 1) (by omega) hyl hyc hx3.h).mono ?_
  rintro e w3 ⟨rfl, m3, h3, hS3⟩
  go_wp2_with fail
  refine bodyPost_end (v := .tuple #[]) (results_none rfl _ _ _) rfl ?_
  rw [HI.out]
  exact ⟨rfl, m3, h3, (hS2.alloc _).trans hS3⟩
 ·simp only [hb, decide_false]
  have HI := Lib.hid (show s = u by rw [HU.out, if_neg hb])
  clear hy hb
  go_wp2_with fail
  refine bodyPost_end (v := .tuple #[]) (results_none rfl _ _ _) rfl ?_
  rw [HI.out]
  exact ⟨rfl, m1, hx.h, hS2⟩
set_option maxHeartbeats 2000000 in
theorem touchT_c (hk : k.length ≤ maxLen) (hok : v.Ok) (h : HeldT w0 A B P w m v) :
  Calls Tryz.prog 246 #[.pointer (some ⟨A, 0, none⟩), .string (str k)] w fun e w' => e = .returned (.bool (v.has k)) ∧ ∃ m', HeldT w0 A B P w' m' (v.touch k) ∧ StepT B w m w' m' := by
 have hh := has_t hk h
 obtain ⟨c0, c1, c2⟩ := h.cells
 have HH := Lib.hid h
 cases e : v.at_ k with
 | none =>
  have ha : v.has k = false := by unfold Tv.has; rw [e]; rfl
  have ht : v.touch k = v := by unfold Tv.touch; rw [e]
  rw [ha] at hh ⊢
  rw [ht]
  clear h e ht ha hok
  go_enter Tryz.func246, Tryz.ntmps246
  go_wp2_with fail
  refine hh.mono ?_
  rintro e w' ⟨rfl, rfl⟩
  go_wp2_with fail
  go_ret
  exact ⟨rfl, m, HH.out, StepT.refl _ _ _⟩
 | some i =>
  obtain ⟨hi, hmem⟩ := Tv.at_some e
  have hkl := hok.fit.klen hi hmem
  have ha : v.has k = true := by unfold Tv.has; rw [e]; rfl
  have hn := note_t (k := k) (by omega) h
  have hok2 := hok.note k
  have he2 : (v.note k).at_ k = some i := e
  have hin := fun (W : World) (hW : HeldT w0 A B P W m (v.note k)) => in_some hk he2 hW
  rw [ha] at hh ⊢
  rcases (by omega : i = 0 ∨ i = 1 ∨ i = 2) with rfl | rfl | rfl
  ·have ht : v.touch k = (v.note k).fr 0 k := by unfold Tv.touch; rw [e]; rfl
   rw [ht]
   have hfr := fun (W : World) (hW : HeldT w0 A B P W m (v.note k)) => front_t (j := 0) (by omega) hkl (hok2.fit.in_ hok2.fit.n (by omega) hmem) hW
   clear h e ht ha he2
   go_enter Tryz.func246, Tryz.ntmps246
   go_wp2_with fail
   refine hh.mono ?_
   rintro e w' ⟨rfl, rfl⟩
   go_wp2_with fail
   refine hn.mono ?_
   rintro e w1 ⟨rfl, h1, hS1⟩
   obtain ⟨k0, k1, k2⟩ := h1.cells
   clear c0 c1 c2
   go_wp2_with fail
   refine (hin _ h1).mono ?_
   rintro e w' ⟨rfl, rfl⟩
   go_wp2_with fail
   refine (hfr _ h1).mono ?_
   rintro e w2 ⟨rfl, m2, h2, hS2⟩
   go_wp2_with fail
   go_ret
   exact ⟨rfl, m2, h2, hS1.trans hS2⟩
  ·have ht : v.touch k = (v.note k).safe k := by unfold Tv.touch; rw [e]; rfl
   rw [ht]
   have hsf := fun (W : World) (hW : HeldT w0 A B P W m (v.note k)) => makeSafe_c (v := v.note k) (.inl rfl) hmem hok2 hW
   clear h e ht ha he2
   go_enter Tryz.func246, Tryz.ntmps246
   go_wp2_with fail
   refine hh.mono ?_
   rintro e w' ⟨rfl, rfl⟩
   go_wp2_with fail
   refine hn.mono ?_
   rintro e w1 ⟨rfl, h1, hS1⟩
   obtain ⟨k0, k1, k2⟩ := h1.cells
   clear c0 c1 c2
   go_wp2_with fail
   refine (hin _ h1).mono ?_
   rintro e w' ⟨rfl, rfl⟩
   go_wp2_with fail
   refine (hsf _ h1).mono ?_
   rintro e w2 ⟨rfl, m2, h2, hS2⟩
   go_wp2_with fail
   go_ret
   exact ⟨rfl, m2, h2, hS1.trans hS2⟩
  ·have ht : v.touch k = (v.note k).safe k := by unfold Tv.touch; rw [e]; rfl
   rw [ht]
   have hsf := fun (W : World) (hW : HeldT w0 A B P W m (v.note k)) => makeSafe_c (v := v.note k) (.inr rfl) hmem hok2 hW
   clear h e ht ha he2
   go_enter Tryz.func246, Tryz.ntmps246
   go_wp2_with fail
   refine hh.mono ?_
   rintro e w' ⟨rfl, rfl⟩
   go_wp2_with fail
   refine hn.mono ?_
   rintro e w1 ⟨rfl, h1, hS1⟩
   obtain ⟨k0, k1, k2⟩ := h1.cells
   clear c0 c1 c2
   go_wp2_with fail
   refine (hin _ h1).mono ?_
   rintro e w' ⟨rfl, rfl⟩
   go_wp2_with fail
   refine (hsf _ h1).mono ?_
   rintro e w2 ⟨rfl, m2, h2, hS2⟩
   go_wp2_with fail
   go_ret
   exact ⟨rfl, m2, h2, hS1.trans hS2⟩
set_option maxHeartbeats 1000000 in
theorem missT_c (hk : k.length ≤ maxLen) (h : HeldT w0 A B P w m v) :
  Calls Tryz.prog 162 #[.pointer (some ⟨A, 0, none⟩), .string (str k)] w fun e w' => e = .returned (.tuple #[]) ∧ HeldT w0 A B P w' m (v.miss k) ∧ StepT B w m w' m := by
 have hm := made_c h
 obtain ⟨c0, c1, c2⟩ := h.cells
 have hsz := str_size k
 have HH := Lib.hid h
 unfold maxLen at hk
 by_cases hl : 64 < k.length
 ·have hv : v.miss k = v := if_pos hl
  rw [hv]
  clear h hv
  go_enter Tryz.func162, Tryz.ntmps162
  go_wp2_with fail
  refine hm.mono ?_
  rintro e w' ⟨rfl, rfl⟩
  go_wp2_with fail
  refine bodyPost_end (v := .tuple #[]) (results_none rfl _ _ _) rfl ?_
  exact ⟨rfl, HH.out, StepT.refl _ _ _⟩
 ·have hv : v.miss k = v.note k := if_neg hl
  have hn := note_t (k := k) (by omega) h
  rw [hv]
  clear h hv
  go_enter Tryz.func162, Tryz.ntmps162
  go_wp2_with fail
  refine hm.mono ?_
  rintro e w' ⟨rfl, rfl⟩
  go_wp2_with fail
  refine hn.mono ?_
  rintro e w' ⟨rfl, h1, hS1⟩
  go_wp2_with fail
  refine bodyPost_end (v := .tuple #[]) (results_none rfl _ _ _) rfl ?_
  exact ⟨rfl, h1, hS1⟩
set_option maxHeartbeats 1000000 in
theorem evictT_c (h : HeldT w0 A B P w m v) :
  Calls Tryz.prog 241 #[.pointer (some ⟨A, 0, none⟩)] w fun e w' => e = .returned (.tuple #[.string (str (v.goes.getD [])), .bool v.goes.isSome]) ∧ ∃ m', HeldT w0 A B P w' m' v.evict ∧ StepT B w m w' m' := by
 have hm := made_c h
 have h1 := h.alloc (.cells #[.int .i64 1, .int .i64 0, .int .i64 2] 3)
 have hS := (StepT.refl B w m).alloc (.cells #[.int .i64 1, .int .i64 0, .int .i64 2] 3)
 have hl := last3 (Blk.new w 3 #[.int .i64 1, .int .i64 0, .int .i64 2]) h1
 cases e : v.goes with
 | none =>
  have hv : v.evict = v := by unfold Tv.evict; rw [e]
  rw [hv]
  rw [e] at hl
  have H1 := Lib.hid h1
  have HS := Lib.hid hS
  clear h h1 hS e hv
  go_enter Tryz.func241, Tryz.ntmps241
  go_wp2_with fail
  refine hm.mono ?_
  rintro e w' ⟨rfl, rfl⟩
  go_wp2_with fail
  refine hl.mono ?_
  rintro e w' ⟨rfl, rfl⟩
  go_wp2_with fail
  go_ret2
  exact ⟨rfl, m, H1.out, HS.out⟩
 | some k =>
  have hv : v.evict = v.dr k := by unfold Tv.evict; rw [e]
  obtain ⟨i, hi, hmem⟩ := Tv.goes_mem e
  have hkl := h.fit.klen hi hmem
  rw [hv]
  rw [e] at hl
  have hr := removeT_c (k := k) (by unfold maxLen; omega) h1
  have HS := Lib.hid hS
  clear h h1 hS e hv hmem
  go_enter Tryz.func241, Tryz.ntmps241
  go_wp2_with fail
  refine hm.mono ?_
  rintro e w' ⟨rfl, rfl⟩
  go_wp2_with fail
  refine hl.mono ?_
  rintro e w' ⟨rfl, rfl⟩
  go_wp2_with fail
  refine hr.mono ?_
  rintro e w2 ⟨rfl, m2, h2, hS2⟩
  go_wp2_with fail
  go_ret2
  exact ⟨rfl, m2, h2, HS.out.trans hS2⟩
structure Tell (base B : Nat) (m : Rm) (val : Value) (l : List Key) (w : World) : Prop where
 row : w.ownsRow base 9 1 val l.length (strsV l)
 no : ∀ b, val.ownBlock = some b → ¬ m.own b ∧ ¬ Six B b
theorem Tell.nil (base B : Nat) (m : Rm) (w : World) : Tell base B m (.slice none 0 0) [] w := ⟨World.ownsRow_nil _ _ _ _, fun b hb => by cases hb⟩
theorem Tell.lit {base : Nat} (h : HeldT w0 A B P w m v) (hB : base ≤ w.heap.size) (k : Key) : Tell base B m (.slice (some ⟨w.heap.size, 0, none⟩) 1 1) [k] (w.alloc (.cells #[.string (str k)] 9)) := by
 have hr := World.ownsRow_lit (size := 1) (e := 9) (base := base) w #[.string (str k)] 1 hB (by unfold maxLen; omega) rfl
 refine ⟨hr, fun b hb => ?_⟩
 obtain rfl : w.heap.size = b := by injection hb
 exact ⟨fun ho => by have := h.h.lt _ ho; omega, fun e => by have := h.sk.lt; have := e.2; omega⟩
theorem Tell.low {base base' : Nat} {val : Value} {l : List Key} (h : Tell base B m val l w) (hb : base' ≤ base) : Tell base' B m val l w := ⟨own_mono h.row hb, h.no⟩
end
end Go.Proofs.YtkiabladmgagdabGreatDoor.Tinyy
