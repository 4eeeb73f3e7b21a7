/- The program's Arc in memory: its three cells and its rings; the contracts of its small functions. The only condition: a key is no longer than a text may be. Contracts of the program's Arc: who goes when room is made, and what inserting comes to. The only condition: a key is no longer than a text may be. -/
import Derived.Test.YtahmpggaicjgoaaGreatDoorArcMath
import Derived.Deep.RegionHeld3
import Derived.Test.YtahmpggaicjgoaaGreatDoorSq
namespace Go.Proofs.YtahmpggaicjgoaaGreatDoor.Arcy
open Go.ChangeShapes Go.WideShapes Go.ChangeAt Go.RowKit
open Wirey (Blk Row str str_size str_list Kp)
open Ringy

structure StepA (A : Nat) (w : World) (m : Rm) (w' : World) (m' : Rm) : Prop where
 kp : Kp (fun b => m.own b ∨ b = A) w w'
 own : ∀ b, m'.own b → m.own b ∨ w.heap.size ≤ b
structure HeldA (w0 : World) (A P : Nat) (w : World) (m : Rm) (v : Av) : Prop where
 h : Held w0 P w m v.rg
 box : Blk w A 176 #[.int .i64 v.most, .int .i64 v.tgt, .pointer (some ⟨P, 0, none⟩)]
 lo : w0.heap.size ≤ A
 no : ¬ m.own A
 ok : v.Ok
section
variable {w0 w w' w'' : World} {A P : Nat} {m m' m'' : Rm} {v : Av} {k : Key}
theorem StepA.refl (A : Nat) (w : World) (m : Rm) : StepA A w m w m := ⟨Kp.refl _ _, fun _ h => .inl h⟩
theorem StepA.trans (h : StepA A w m w' m') (h' : StepA A w' m' w'' m'') : StepA A w m w'' m'' := by
 refine ⟨⟨h'.kp.os.trans h.kp.os, h'.kp.tape.trans h.kp.tape, h'.kp.output.trans h.kp.output, Nat.le_trans h.kp.size h'.kp.size, fun k hk hn => ?_⟩, fun b hb => ?_⟩
 ·refine (h'.kp.block k (Nat.lt_of_lt_of_le hk h.kp.size) (fun ho => ?_)).trans (h.kp.block k hk hn)
  rcases ho with ho | ho
  ·rcases h.own k ho with h1 | h1
   ·exact hn (.inl h1)
   ·omega
  ·exact hn (.inr ho)
 ·rcases h'.own b hb with h1 | h1
  ·exact h.own b h1
  ·exact .inr (Nat.le_trans h.kp.size h1)
theorem StepA.of (h : Step w m w' m') : StepA A w m w' m' := ⟨⟨h.kp.os, h.kp.tape, h.kp.output, h.kp.size, fun k hk hn => h.kp.block k hk (fun ho => hn (.inl ho))⟩, h.own⟩
theorem StepA.later {C : Nat} (h : StepA A w m w' m') (hb : Below C w' w'') (hC : w'.heap.size ≤ C) : StepA A w m w'' m' :=
 ⟨⟨hb.os.trans h.kp.os, hb.tape.trans h.kp.tape, hb.output.trans h.kp.output, Nat.le_trans h.kp.size hb.size, fun k hk hn => (hb.block k (by have := h.kp.size; omega)).trans (h.kp.block k hk hn)⟩, h.own⟩
theorem StepA.alloc (h : StepA A w m w' m') (o : Obj) : StepA A w m (w'.alloc o) m' := h.later ((Below.refl _ w').alloc (Nat.le_refl _) o) (Nat.le_refl _)
theorem StepA.drewN (h : StepA A w m w' m') (n : Nat) : StepA A w m (w'.drewN n) m' := ⟨⟨h.kp.os, h.kp.tape, h.kp.output, h.kp.size, h.kp.block⟩, h.own⟩
theorem StepA.drew (h : StepA A w m w' m') : StepA A w m w'.drew m' := h.drewN 1
theorem HeldA.lt (h : HeldA w0 A P w m v) : A < w.heap.size := h.box.lt
theorem HeldA.later {C : Nat} (h : HeldA w0 A P w m v) (hb : Below C w w') (hC : w.heap.size ≤ C) : HeldA w0 A P w' m v :=
 ⟨h.h.later hb hC, h.box.below hb (Nat.lt_of_lt_of_le h.lt hC), h.lo, h.no, h.ok⟩
theorem HeldA.alloc (h : HeldA w0 A P w m v) (o : Obj) : HeldA w0 A P (w.alloc o) m v := h.later ((Below.refl _ w).alloc (Nat.le_refl _) o) (Nat.le_refl _)
theorem HeldA.drewN (h : HeldA w0 A P w m v) (n : Nat) : HeldA w0 A P (w.drewN n) m v := ⟨h.h.drewN n, h.box, h.lo, h.no, h.ok⟩
theorem HeldA.drew (h : HeldA w0 A P w m v) : HeldA w0 A P w.drew m v := h.drewN 1
theorem HeldA.below (h : HeldA w0 A P w m v) : Below w0.heap.size w0 w := h.h.below
theorem HeldA.kp {O : Nat → Prop} (h : HeldA w0 A P w m v) (hk : Kp O w w') (hO : ∀ b, O b → w0.heap.size ≤ b ∧ ¬ m.own b ∧ b ≠ A) : HeldA w0 A P w' m v :=
 ⟨h.h.kp hk (fun b hb => ⟨(hO b hb).1, (hO b hb).2.1⟩), (hk.block A h.lt (fun ho => (hO A ho).2.2 rfl)).trans h.box, h.lo, h.no, h.ok⟩
theorem HeldA.step {r' : Rg} (h : HeldA w0 A P w m v) (hH : Held w0 P w' m' r') (hS : Step w m w' m') (hok : Av.Ok { v with rg := r' }) : HeldA w0 A P w' m' { v with rg := r' } :=
 ⟨hH, (hS.kp.block A h.lt h.no).trans h.box, h.lo, fun ho => by
   rcases hS.own A ho with h1 | h1
   · exact h.no h1
   · have := h.lt; omega, hok⟩
theorem HeldA.tgt (h : HeldA w0 A P w m v) {t : Nat} (ht : t ≤ v.most) : HeldA w0 A P (w.setCell ⟨A, 1, none⟩ (.int .i64 t)) m { v with tgt := t } ∧ StepA A w m (w.setCell ⟨A, 1, none⟩ (.int .i64 t)) m := by
 have hk : Kp (fun b => b = A) w (w.setCell ⟨A, 1, none⟩ (.int .i64 t)) := (Kp.refl (fun b => b = A) w).set (p := ⟨A, 1, none⟩) rfl _
 refine ⟨⟨h.h.kp hk (fun b hb => by subst hb; exact ⟨h.lo, h.no⟩), ?_, h.lo, h.no, ⟨h.ok.wf, h.ok.n, h.ok.pl, h.ok.m1, h.ok.m2, ht, h.ok.kept, h.ok.one, h.ok.all⟩⟩, ⟨⟨hk.os, hk.tape, hk.output, hk.size, fun k hk1 hn => hk.block k hk1 (fun e => hn (.inr e))⟩, fun b hb => .inl hb⟩⟩
 have := h.box.put 1 (.int .i64 t)
 simpa using this
theorem HeldA.cells (h : HeldA w0 A P w m v) : w.cell? ⟨A, 0, none⟩ = some (.int .i64 v.most) ∧ w.cell? ⟨A, 1, none⟩ = some (.int .i64 v.tgt) ∧ w.cell? ⟨A, 2, none⟩ = some (.pointer (some ⟨P, 0, none⟩)) :=
 ⟨by rw [h.box.cell 0]; rfl, by rw [h.box.cell 1]; rfl, by rw [h.box.cell 2]; rfl⟩
theorem Av.Ok.len_le (h : v.Ok) {i : Nat} (hi : i < 4) : v.len i ≤ 2000 := by
 have h1 := h.all
 have h2 := h.m2
 unfold Av.all at h1
 rcases (by omega : i = 0 ∨ i = 1 ∨ i = 2 ∨ i = 3) with rfl | rfl | rfl | rfl <;> omega
theorem len_a {i : Nat} (hi : i < 4) (h : HeldA w0 A P w m v) :
  Calls Tryz.prog 142 #[.pointer (some ⟨P, 0, none⟩), .int .i64 i] w fun e w' => e = .returned (.int .i64 (v.len i : Int)) ∧ w = w' := len_h i (by rw [h.ok.n]; exact hi) h.h
theorem in_some {i : Nat} (hk : k.length ≤ maxLen) (e : v.at_ k = some i) (h : HeldA w0 A P w m v) :
  Calls Tryz.prog 169 #[.pointer (some ⟨P, 0, none⟩), .string (str k)] w fun e w' => e = .returned (.tuple #[.int .i64 i, .bool true]) ∧ w = w' := by
 obtain ⟨hi, hm⟩ := Av.at_some e
 have hR := h.h.R
 subst hR
 exact flip (in_yes' hk w h.h.at_ (by rw [h.ok.n]; exact hi) hm)
theorem in_none (hk : k.length ≤ maxLen) (e : v.at_ k = none) (h : HeldA w0 A P w m v) :
  Calls Tryz.prog 169 #[.pointer (some ⟨P, 0, none⟩), .string (str k)] w fun e w' => e = .returned (.tuple #[.int .i64 0, .bool false]) ∧ w = w' := by
 have hR := h.h.R
 subst hR
 refine flip (in_no' hk w h.h.at_ ?_)
 rintro ⟨i, hi, hm⟩
 rw [h.ok.n] at hi
 exact Av.at_none e i hi hm
theorem front_a {j : Nat} (hj : j < 4) (hk : k.length ≤ 64) (h : HeldA w0 A P w m v) (hok : (v.fr j k).Ok) :
  Calls Tryz.prog 170 #[.pointer (some ⟨P, 0, none⟩), .int .i64 j, .string (str k)] w fun e w' => e = .returned (.bool true) ∧ ∃ m', HeldA w0 A P w' m' (v.fr j k) ∧ StepA A w m w' m' := by
 have hR := h.h.R
 subst hR
 refine (front_yes (by rw [h.ok.n]; exact hj) hk w h.h.at_ (h.ok.can k)).mono ?_
 rintro e w' ⟨rfl, m', hA, hS⟩
 exact ⟨rfl, m', h.step (h.h.step hA hS) hS hok, StepA.of hS⟩
theorem drop_a (hk : k.length ≤ maxLen) (h : HeldA w0 A P w m v) :
  Calls Tryz.prog 233 #[.pointer (some ⟨P, 0, none⟩), .string (str k)] w fun e w' => (∃ b, e = .returned (.bool b)) ∧ ∃ m', HeldA w0 A P w' m' (v.dr k) ∧ StepA A w m w' m' := by
 refine (drop_h hk h.h).mono ?_
 rintro e w' ⟨rfl, m', hA, hS⟩
 exact ⟨⟨_, rfl⟩, m', h.step hA hS (h.ok.dr k), StepA.of hS⟩
theorem back_some {i : Nat} (hi : i < 4) (e : v.last i = some k) (h : HeldA w0 A P w m v) :
  Calls Tryz.prog 235 #[.pointer (some ⟨P, 0, none⟩), .int .i64 i] w fun e w' => e = .returned (.tuple #[.string (str k), .bool true]) ∧ w = w' := by
 obtain ⟨s, hs⟩ := Av.last_some e
 have hR := h.h.R
 subst hR
 exact flip (back_yes w h.h.at_ (by rw [h.ok.n]; exact hi) hs)
theorem back_empty {i : Nat} (hi : i < 4) (e : v.last i = none) (h : HeldA w0 A P w m v) :
  Calls Tryz.prog 235 #[.pointer (some ⟨P, 0, none⟩), .int .i64 i] w fun e w' => e = .returned (.tuple #[.string ⟨#[]⟩, .bool false]) ∧ w = w' := by
 have hR := h.h.R
 subst hR
 exact flip (back_none w h.h.at_ (by rw [h.ok.n]; exact hi) (Av.last_none e))

theorem made_c (h : HeldA w0 A P w m v) :
  Calls Tryz.prog 171 #[.pointer (some ⟨A, 0, none⟩)] w fun e w' => e = .returned (.bool true) ∧ w = w' := by
 obtain ⟨c0, c1, c2⟩ := h.cells
 clear h
 go_enter Tryz.func171, Tryz.ntmps171
 go_wp2_with fail
 go_ret
 exact ⟨rfl, rfl⟩
theorem has_c (hk : k.length ≤ maxLen) (h : HeldA w0 A P w m v) :
  Calls Tryz.prog 224 #[.pointer (some ⟨A, 0, none⟩), .string (str k)] w fun e w' => e = .returned (.bool (v.has k)) ∧ w = w' := by
 have hm := made_c h
 obtain ⟨c0, c1, c2⟩ := h.cells
 have ha := Av.at_has (k := k) h.ok
 cases e : v.at_ k with
 | none =>
  have hi := in_none hk e h
  rw [e] at ha
  have ha : v.has k = false := ha
  rw [ha]
  clear h ha e
  go_enter Tryz.func224, Tryz.ntmps224
  go_wp2_with fail
  refine hm.mono ?_
  rintro e w' ⟨rfl, rfl⟩
  go_wp2_with fail
  refine hi.mono ?_
  rintro e w' ⟨rfl, rfl⟩
  go_wp2_with fail
  go_ret
  exact ⟨rfl, rfl⟩
 | some i =>
  have hi := in_some hk e h
  obtain ⟨hi4, -⟩ := Av.at_some e
  rw [e] at ha
  rcases (by omega : i = 0 ∨ i = 1 ∨ i = 2 ∨ i = 3) with rfl | rfl | rfl | rfl
  ·have ha : v.has k = true := ha
   rw [ha]
   clear h ha e
   go_enter Tryz.func224, Tryz.ntmps224
   go_wp2_with fail
   refine hm.mono ?_
   rintro e w' ⟨rfl, rfl⟩
   go_wp2_with fail
   refine hi.mono ?_
   rintro e w' ⟨rfl, rfl⟩
   go_wp2_with fail
   go_ret
   exact ⟨rfl, rfl⟩
  ·have ha : v.has k = true := ha
   rw [ha]
   clear h ha e
   go_enter Tryz.func224, Tryz.ntmps224
   go_wp2_with fail
   refine hm.mono ?_
   rintro e w' ⟨rfl, rfl⟩
   go_wp2_with fail
   refine hi.mono ?_
   rintro e w' ⟨rfl, rfl⟩
   go_wp2_with fail
   go_ret
   exact ⟨rfl, rfl⟩
  ·have ha : v.has k = false := ha
   rw [ha]
   clear h ha e
   go_enter Tryz.func224, Tryz.ntmps224
   go_wp2_with fail
   refine hm.mono ?_
   rintro e w' ⟨rfl, rfl⟩
   go_wp2_with fail
   refine hi.mono ?_
   rintro e w' ⟨rfl, rfl⟩
   go_wp2_with fail
   go_ret
   exact ⟨rfl, rfl⟩
  ·have ha : v.has k = false := ha
   rw [ha]
   clear h ha e
   go_enter Tryz.func224, Tryz.ntmps224
   go_wp2_with fail
   refine hm.mono ?_
   rintro e w' ⟨rfl, rfl⟩
   go_wp2_with fail
   refine hi.mono ?_
   rintro e w' ⟨rfl, rfl⟩
   go_wp2_with fail
   go_ret
   exact ⟨rfl, rfl⟩
theorem sum4_le {L : Nat → Nat} (h : v.Ok) : ∀ n, (∀ i, i < n → L i < 4) → sumTo (fun i => v.len (L i)) n ≤ n * 2000
 | 0, _ => Nat.le_refl _
 | n + 1, hL => by
  have h1 := sum4_le h n (fun i hi => hL i (by omega))
  have h2 := h.len_le (hL n (by omega))
  show sumTo _ n + v.len (L n) ≤ _
  omega
set_option maxHeartbeats 1000000 in
theorem count_c {g n : Nat} {L : Nat → Nat} (hn : n ≤ 4) (hL : ∀ i, i < n → L i < 4) (hc : ∀ i, i < n → w.cell? ⟨g, i, none⟩ = some (.int .i64 (L i : Int))) (h : HeldA w0 A P w m v) :
  Calls Tryz.prog 133 #[.pointer (some ⟨A, 0, none⟩), .slice (some ⟨g, 0, none⟩) n n] w fun e w' => e = .returned (.int .i64 (sumTo (fun i => v.len (L i)) n : Int)) ∧ w = w' := by
 obtain ⟨c0, c1, c2⟩ := h.cells
 have hlen := fun i hi => len_a (i := L i) (hL i hi) h
 have hsum := fun j (hj : j ≤ n) => sum4_le (L := L) h.ok j (fun i hi => hL i (by omega))
 have hle := fun i hi => h.ok.len_le (hL i hi)
 clear h
 go_enter Tryz.func133, Tryz.ntmps133
 go_wp2_with fail
 go_loopw [5, 10] (fun s i wr => ∃ j : Nat, j ≤ n ∧ i = .int .i64 j ∧ s = .int .i64 (sumTo (fun i => v.len (L i)) j : Int) ∧ wr = w) (fun _ i _ => n - (intOf i).toNat)
 case atStart => exact ⟨0, Nat.zero_le _, rfl, rfl, rfl⟩
 case round =>
  obtain ⟨j, hj, rfl, rfl, rfl⟩ := hrel
  by_cases hlt : j < n
  ·have hcj := hc j hlt
   have hsj := hsum j hj
   have hlj := hle j hlt
   have hl := hlen j hlt
   have hs1 : sumTo (fun i => v.len (L i)) (j + 1) = sumTo (fun i => v.len (L i)) j + v.len (L j) := rfl
   have HS := Lib.hid hs1
   clear hs1
   generalize sumTo (fun i => v.len (L i)) j = s at *
   clear hsum hle hlen hc
   go_wp2_with fail
   refine hl.mono ?_
   rintro e w' ⟨rfl, rfl⟩
   go_wp2_with fail
   go_roundw
   case rel => exact ⟨j + 1, by omega, by simp, by rw [HS.out]; simp, by first | rfl | trivial⟩
   case measure => simp [intOf]; omega
  ·obtain rfl : j = n := by omega
   go_wp2_with fail
   go_ret
   exact ⟨rfl, rfl⟩
end
end Go.Proofs.YtahmpggaicjgoaaGreatDoor.Arcy
namespace Go.Proofs.YtahmpggaicjgoaaGreatDoor.Arcy
open Go.ChangeShapes Go.WideShapes Go.ChangeAt Go.RowKit
open Wirey (Blk Row str str_size str_list Kp)
open Ringy

section
variable {w0 w w' w'' : World} {A P : Nat} {m m' m'' : Rm} {v : Av} {k : Key}
theorem beq0 (y : Nat) : ((y : Int) == 0) = decide (y = 0) := by
 rw [Bool.eq_iff_iff, beq_iff_eq, decide_eq_true_eq]
 omega
theorem count1 {i : Nat} {a : Int} {g : Nat} (ha : a = (i : Int)) (hi : i < 4) (hb : Blk w g 3 #[.int .i64 a]) (h : HeldA w0 A P w m v) :
  Calls Tryz.prog 133 #[.pointer (some ⟨A, 0, none⟩), .slice (some ⟨g, 0, none⟩) 1 1] w fun e w' => e = .returned (.int .i64 (v.len i : Int)) ∧ w = w' := by
 subst ha
 refine (count_c (L := fun _ => i) (n := 1) (by omega) (fun _ _ => hi) (fun t ht => ?_) h).mono ?_
 ·obtain rfl : t = 0 := by omega
  exact hb.cell 0
 ·rintro e w' ⟨rfl, rfl⟩
  exact ⟨by simp [sumTo], rfl⟩
theorem count2 {a b : Nat} {x y : Int} {g : Nat} (hx : x = (a : Int)) (hy : y = (b : Int)) (ha : a < 4) (hb : b < 4) (hg : Blk w g 3 #[.int .i64 x, .int .i64 y]) (h : HeldA w0 A P w m v) :
  Calls Tryz.prog 133 #[.pointer (some ⟨A, 0, none⟩), .slice (some ⟨g, 0, none⟩) 2 2] w fun e w' => e = .returned (.int .i64 ((v.len a + v.len b : Nat) : Int)) ∧ w = w' := by
 subst hx hy
 refine (count_c (L := fun i => if i = 0 then a else b) (n := 2) (by omega) (fun i _ => by split <;> assumption) (fun t ht => ?_) h).mono ?_
 ·rcases (by omega : t = 0 ∨ t = 1) with rfl | rfl
  ·exact hg.cell 0
  ·exact hg.cell 1
 ·rintro e w' ⟨rfl, rfl⟩
  exact ⟨by simp [sumTo], rfl⟩
theorem count4 {g : Nat} (hg : Blk w g 3 #[.int .i64 0, .int .i64 1, .int .i64 2, .int .i64 3]) (h : HeldA w0 A P w m v) :
  Calls Tryz.prog 133 #[.pointer (some ⟨A, 0, none⟩), .slice (some ⟨g, 0, none⟩) 4 4] w fun e w' => e = .returned (.int .i64 v.all) ∧ w = w' := by
 refine (count_c (L := fun i => i) (n := 4) (by omega) (fun i hi => hi) (fun t ht => ?_) h).mono ?_
 ·rcases (by omega : t = 0 ∨ t = 1 ∨ t = 2 ∨ t = 3) with rfl | rfl | rfl | rfl
  ·exact hg.cell 0
  ·exact hg.cell 1
  ·exact hg.cell 2
  ·exact hg.cell 3
 ·rintro e w' ⟨rfl, rfl⟩
  exact ⟨by simp [sumTo, Av.all], rfl⟩
theorem lenA_c (h : HeldA w0 A P w m v) :
  Calls Tryz.prog 135 #[.pointer (some ⟨A, 0, none⟩)] w fun e w' => e = .returned (.int .i64 v.kept) ∧ ∃ o, w' = w.alloc o := by
 have hm := made_c h
 have hc := count2 (a := 0) (b := 1) (x := 0) (y := 1) rfl rfl (by omega) (by omega) (Blk.new w 3 #[.int .i64 0, .int .i64 1]) (h.alloc _)
 clear h
 go_enter Tryz.func135, Tryz.ntmps135
 go_wp2_with fail
 refine hm.mono ?_
 rintro e w' ⟨rfl, rfl⟩
 go_wp2_with fail
 refine hc.mono ?_
 rintro e w' ⟨rfl, rfl⟩
 go_wp2_with fail
 go_ret
 exact ⟨rfl, _, rfl⟩
theorem touch_c (hk : k.length ≤ maxLen) (h : HeldA w0 A P w m v) :
  Calls Tryz.prog 227 #[.pointer (some ⟨A, 0, none⟩), .string (str k)] w fun e w' => e = .returned (.bool (v.has k)) ∧ ∃ m', HeldA w0 A P w' m' (v.touch k) ∧ StepA A w m w' m' := by
 have hh := has_c hk h
 obtain ⟨c0, c1, c2⟩ := h.cells
 have HH := Lib.hid h
 by_cases e : v.has k = true
 ·have ht : v.touch k = v.fr 1 k := by unfold Av.touch; rw [if_pos e]
  have hok := (Av.touch_ok h.ok k).1
  rw [ht] at hok
  have hkl : k.length ≤ 64 := by
   rcases Av.has_iff.1 e with h1 | h1
   ·exact h.ok.klen (by omega) h1
   ·exact h.ok.klen (by omega) h1
  have hf := front_a (j := 1) (by omega) hkl h hok
  rw [e] at hh ⊢
  rw [ht]
  clear h e ht hok
  go_enter Tryz.func227, Tryz.ntmps227
  go_wp2_with fail
  refine hh.mono ?_
  rintro e w' ⟨rfl, rfl⟩
  go_wp2_with fail
  refine hf.mono ?_
  rintro e w' ⟨rfl, hp⟩
  go_wp2_with fail
  go_ret
  exact ⟨rfl, hp⟩
 ·have ht : v.touch k = v := by unfold Av.touch; rw [if_neg e]
  rw [Bool.not_eq_true] at e
  rw [e] at hh ⊢
  rw [ht]
  clear h e ht
  go_enter Tryz.func227, Tryz.ntmps227
  go_wp2_with fail
  refine hh.mono ?_
  rintro e w' ⟨rfl, rfl⟩
  go_wp2_with fail
  go_ret
  exact ⟨rfl, m, HH.out, StepA.refl _ _ _⟩
set_option maxHeartbeats 1000000 in
theorem once_c (b : Bool) (h : HeldA w0 A P w m v) :
  Calls Tryz.prog 234 #[.pointer (some ⟨A, 0, none⟩), .bool b] w fun e w' => e = .returned (.bool (v.once b)) ∧ HeldA w0 A P w' m v ∧ StepA A w m w' m := by
 have h1 := h.alloc (.cells #[.int .i64 0] 3)
 have hs1 := (StepA.refl A w m).alloc (.cells #[.int .i64 0] 3)
 have hc0 := count1 (i := 0) (a := 0) rfl (by omega) (Blk.new w 3 #[.int .i64 0]) h1
 have hb1 := Blk.new (w.alloc (.cells #[.int .i64 0] 3)) 3 #[.int .i64 1]
 rw [show (w.alloc (.cells #[.int .i64 0] 3)).heap.size = w.heap.size + 1 by simp] at hb1
 have hc1 := count1 (i := 1) (a := 1) rfl (by omega) hb1 (h1.alloc _)
 clear hb1
 obtain ⟨c0, c1, c2⟩ := h1.cells
 have H1 := Lib.hid h1
 have HS1 := Lib.hid hs1
 have hl := h.ok.len_le (i := 0) (by omega)
 have hl1 := h.ok.len_le (i := 1) (by omega)
 unfold Av.once
 clear h h1 hs1
 generalize v.len 0 = x at *
 generalize v.len 1 = y at *
 generalize v.tgt = t at *
 by_cases e0 : x = 0
 ·subst e0
  go_enter Tryz.func234, Tryz.ntmps234
  go_wp2_with fail
  refine hc0.mono ?_
  rintro e w' ⟨rfl, rfl⟩
  go_wp2_with fail
  go_ret
  exact ⟨rfl, H1.out, HS1.out⟩
 ·have d0 : ((x : Int) == 0) = false := by rw [beq_eq_false_iff_ne]; omega
  have e0' : decide (0 < x) = true := decide_eq_true (by omega)
  rw [e0', Bool.true_and]
  by_cases e1 : t < x
  ·have e1' : decide (t < x) = true := decide_eq_true e1
   rw [e1']
   go_enter Tryz.func234, Tryz.ntmps234
   go_wp2_with fail
   refine hc0.mono ?_
   rintro e w' ⟨rfl, rfl⟩
   go_wp2_with fail
   go_ret
   exact ⟨rfl, H1.out, HS1.out⟩
  ·have e1' : decide (t < x) = false := decide_eq_false e1
   rw [e1', Bool.false_or]
   have hg : decide ((t : Int) < (x : Int)) = false := decide_eq_false (by omega)
   by_cases e2 : x = t ∧ b = true
   ·obtain ⟨rfl, rfl⟩ := e2
    have e2' : (decide (x = x) && true) = true := by simp
    rw [e2', Bool.true_or]
    go_enter Tryz.func234, Tryz.ntmps234
    go_wp2_with fail
    refine hc0.mono ?_
    rintro e w' ⟨rfl, rfl⟩
    go_wp2_with fail
    go_ret
    exact ⟨rfl, H1.out, HS1.out⟩
   ·have e2' : (decide (x = t) && b) = false := by
     rw [Bool.and_eq_false_iff, decide_eq_false_iff_not]
     by_cases h : x = t
     ·right; cases b; rfl; exact absurd ⟨h, rfl⟩ e2
     ·exact .inl h
    rw [e2', Bool.false_or]
    by_cases e3 : x = t
    ·subst e3
     obtain rfl : b = false := by cases b; rfl; exact absurd ⟨rfl, rfl⟩ e2
     go_enter Tryz.func234, Tryz.ntmps234
     go_wp2_with fail
     refine hc0.mono ?_
     rintro e w' ⟨rfl, rfl⟩
     go_wp2_with fail
     refine hc1.mono ?_
     rintro e w' ⟨rfl, rfl⟩
     go_wp2_with fail
     go_ret
     exact ⟨congrArg Ending.returned (congrArg Value.bool (beq0 y)), H1.out.alloc _, HS1.out.alloc _⟩
    ·have d3 : ((x : Int) == (t : Int)) = false := by rw [beq_eq_false_iff_ne]; omega
     go_enter Tryz.func234, Tryz.ntmps234
     go_wp2_with fail
     refine hc0.mono ?_
     rintro e w' ⟨rfl, rfl⟩
     go_wp2_with fail
     refine hc1.mono ?_
     rintro e w' ⟨rfl, rfl⟩
     go_wp2_with fail
     go_ret
     exact ⟨congrArg Ending.returned (congrArg Value.bool (beq0 y)), H1.out.alloc _, HS1.out.alloc _⟩
structure Tell (B A : Nat) (m : Rm) (val : Value) (l : List Key) (w : World) : Prop where
 row : w.ownsRow B 9 1 val l.length (strsV l)
 no : ∀ b, val.ownBlock = some b → ¬ m.own b ∧ b ≠ A
theorem Tell.step {B : Nat} {val : Value} {l : List Key} (h : Tell B A m val l w) (hS : StepA A w m w' m') : Tell B A m' val l w' :=
 ⟨ownsRow_stay h.row fun b hb => hS.kp.block b (h.row.lt b hb).2 (fun ho => ho.elim (h.no b hb).1 (h.no b hb).2), fun b hb => ⟨fun ho => by
   rcases hS.own b ho with h1 | h1
   · exact (h.no b hb).1 h1
   · have := (h.row.lt b hb).2; omega, (h.no b hb).2⟩⟩
theorem Tell.nil (B A : Nat) (m : Rm) (w : World) : Tell B A m (.slice none 0 0) [] w := ⟨World.ownsRow_nil _ _ _ _, fun b hb => by cases hb⟩
theorem Tell.lit {B : Nat} (h : HeldA w0 A P w m v) (hB : B ≤ w.heap.size) (k : Key) : Tell B A m (.slice (some ⟨w.heap.size, 0, none⟩) 1 1) [k] (w.alloc (.cells #[.string (str k)] 9)) := by
 have hr := World.ownsRow_lit (size := 1) (e := 9) (base := B) w #[.string (str k)] 1 hB (by unfold maxLen; omega) rfl
 refine ⟨hr, fun b hb => ?_⟩
 obtain rfl : w.heap.size = b := by injection hb
 exact ⟨fun ho => by have := h.h.lt _ ho; omega, fun e => by have := h.lt; omega⟩
set_option maxHeartbeats 1000000 in
theorem replace_c (b : Bool) (h : HeldA w0 A P w m v) :
  Calls Tryz.prog 228 #[.pointer (some ⟨A, 0, none⟩), .bool b] w fun e w' => e = .returned (.tuple #[.string (str ((v.last (v.src b)).getD [])), .bool (v.last (v.src b)).isSome]) ∧ ∃ m', HeldA w0 A P w' m' (v.repl b) ∧ StepA A w m w' m' := by
 have ho := once_c b h
 have hsrc : v.src b = if v.once b = true then 0 else 1 := rfl
 have hok := h.ok
 have hrp : v.repl b = match v.last (v.src b) with | none => v | some k => v.fr (v.src b + 2) k := rfl
 rw [hrp]
 clear hrp
 cases e1 : v.once b with
 | true =>
  rw [e1, if_pos rfl] at hsrc
  rw [hsrc]
  rw [e1] at ho
  cases e2 : v.last 0 with
  | none =>
   clear h
   go_enter Tryz.func228, Tryz.ntmps228
   go_wp2_with fail
   refine ho.mono ?_
   rintro e w1 ⟨rfl, h1, hS1⟩
   obtain ⟨c0, c1, c2⟩ := h1.cells
   go_wp2_with fail
   refine (back_empty (i := 0) (by omega) e2 h1).mono ?_
   rintro e w' ⟨rfl, rfl⟩
   go_wp2_with fail
   go_ret2
   exact ⟨rfl, m, h1, hS1⟩
  | some k =>
   have hw := Av.move_went hok (i := 0) (by omega) (Av.last_mem e2)
   have hkl := hok.klen (by omega) (Av.last_mem e2)
   clear h
   go_enter Tryz.func228, Tryz.ntmps228
   go_wp2_with fail
   refine ho.mono ?_
   rintro e w1 ⟨rfl, h1, hS1⟩
   obtain ⟨c0, c1, c2⟩ := h1.cells
   go_wp2_with fail
   refine (back_some (i := 0) (by omega) e2 h1).mono ?_
   rintro e w' ⟨rfl, rfl⟩
   go_wp2_with fail
   refine (front_a (j := 2) (by omega) hkl h1 hw.ok).mono ?_
   rintro e w2 ⟨rfl, m2, h2, hS2⟩
   go_wp2_with fail
   go_ret2
   exact ⟨rfl, m2, h2, hS1.trans hS2⟩
 | false =>
  rw [e1, if_neg (by decide)] at hsrc
  rw [hsrc]
  rw [e1] at ho
  cases e2 : v.last 1 with
  | none =>
   clear h
   go_enter Tryz.func228, Tryz.ntmps228
   go_wp2_with fail
   refine ho.mono ?_
   rintro e w1 ⟨rfl, h1, hS1⟩
   obtain ⟨c0, c1, c2⟩ := h1.cells
   go_wp2_with fail
   refine (back_empty (i := 1) (by omega) e2 h1).mono ?_
   rintro e w' ⟨rfl, rfl⟩
   go_wp2_with fail
   go_ret2
   exact ⟨rfl, m, h1, hS1⟩
  | some k =>
   have hw := Av.move_went hok (i := 1) (by omega) (Av.last_mem e2)
   have hkl := hok.klen (by omega) (Av.last_mem e2)
   clear h
   go_enter Tryz.func228, Tryz.ntmps228
   go_wp2_with fail
   refine ho.mono ?_
   rintro e w1 ⟨rfl, h1, hS1⟩
   obtain ⟨c0, c1, c2⟩ := h1.cells
   go_wp2_with fail
   refine (back_some (i := 1) (by omega) e2 h1).mono ?_
   rintro e w' ⟨rfl, rfl⟩
   go_wp2_with fail
   refine (front_a (j := 3) (by omega) hkl h1 hw.ok).mono ?_
   rintro e w2 ⟨rfl, m2, h2, hS2⟩
   go_wp2_with fail
   go_ret2
   exact ⟨rfl, m2, h2, hS1.trans hS2⟩
theorem forget_c {i : Nat} (hi : i < 4) (e : v.last i = some k) (h : HeldA w0 A P w m v) :
  Calls Tryz.prog 240 #[.pointer (some ⟨A, 0, none⟩), .int .i64 i] w fun e w' => e = .returned (.string (str k)) ∧ ∃ m', HeldA w0 A P w' m' (v.forget i) ∧ StepA A w m w' m' := by
 have hf : v.forget i = v.dr k := by unfold Av.forget; rw [e]
 rw [hf]
 have hb := back_some hi e h
 have hkl := h.ok.klen hi (Av.last_mem e)
 have hd := drop_a (k := k) (by unfold maxLen; omega) h
 obtain ⟨c0, c1, c2⟩ := h.cells
 clear h e hf hkl
 go_enter Tryz.func240, Tryz.ntmps240
 go_wp2_with fail
 refine hb.mono ?_
 rintro e w' ⟨rfl, rfl⟩
 go_wp2_with fail
 refine hd.mono ?_
 rintro e w' ⟨⟨b, rfl⟩, hp⟩
 go_wp2_with fail
 go_ret
 exact ⟨rfl, hp⟩
end
end Go.Proofs.YtahmpggaicjgoaaGreatDoor.Arcy
