/- The program's Tiny in memory: its three cells, its sketch and its rings; the contracts of its small functions. The only condition: a key is no longer than a text may be. -/
import Derived.Test.YtlnjnpchkdipdaaGreatTinyMath
import Derived.Deep.RegionHeld3
namespace Go.Proofs.YtlnjnpchkdipdaaGreat.Tinyy
open Go.ChangeShapes Go.WideShapes Go.ChangeAt Go.RowKit
open Wirey (Blk Row str str_size str_list Kp)
open Ringy
open Sketchy (Sk ksOf Six)

/-- What a step may turn: the rings' blocks, and the sketch's six. -/
structure StepT (B : Nat) (w : World) (m : Rm) (w' : World) (m' : Rm) : Prop where
  kp : Kp (fun b => m.own b ∨ Six B b) w w'
  own : ∀ b, m'.own b → m.own b ∨ w.heap.size ≤ b
structure HeldT (w0 : World) (A B P : Nat) (w : World) (m : Rm) (v : Tv) : Prop where
  h : Held w0 P w m v.rg
  sk : Sketchy.At w B v.sk
  box : Blk w A 169 #[.int .i64 (v.most : Int), .pointer (some ⟨B + 1, 0, none⟩), .pointer (some ⟨P, 0, none⟩)]
  loA : w0.heap.size ≤ A
  loB : w0.heap.size ≤ B
  no : ¬ m.own A
  six : ∀ b, Six B b → b ≠ A ∧ ¬ m.own b
  fit : v.Fit
section
variable {w0 w w' w'' : World} {A B P : Nat} {m m' m'' : Rm} {v : Tv} {k : Key}
theorem at_six {s : Sk} (h : Sketchy.At w B s) (hb : ∀ b, Six B b → w'.heap[b]? = w.heap[b]?) : Sketchy.At w' B s :=
  ⟨(hb _ ⟨by omega, by omega⟩).trans h.hd, (hb _ ⟨by omega, by omega⟩).trans h.door, fun i hi => (hb _ ⟨by omega, by omega⟩).trans (h.row i hi)⟩
theorem StepT.refl (B : Nat) (w : World) (m : Rm) : StepT B w m w m := ⟨Kp.refl _ _, fun _ h => .inl h⟩
theorem StepT.trans (h : StepT B w m w' m') (h' : StepT B w' m' w'' m'') : StepT B w m w'' m'' := by
  refine ⟨⟨h'.kp.os.trans h.kp.os, h'.kp.tape.trans h.kp.tape, h'.kp.output.trans h.kp.output, Nat.le_trans h.kp.size h'.kp.size, fun k hk hn => ?_⟩, fun b hb => ?_⟩
  · refine (h'.kp.block k (Nat.lt_of_lt_of_le hk h.kp.size) (fun ho => ?_)).trans (h.kp.block k hk hn)
    rcases ho with ho | ho
    · rcases h.own k ho with h1 | h1
      · exact hn (.inl h1)
      · omega
    · exact hn (.inr ho)
  · rcases h'.own b hb with h1 | h1
    · exact h.own b h1
    · exact .inr (Nat.le_trans h.kp.size h1)
theorem StepT.of (h : Step w m w' m') : StepT B w m w' m' := ⟨⟨h.kp.os, h.kp.tape, h.kp.output, h.kp.size, fun k hk hn => h.kp.block k hk (fun ho => hn (.inl ho))⟩, h.own⟩
theorem StepT.ofSix (h : Kp (Six B) w w') : StepT B w m w' m := ⟨⟨h.os, h.tape, h.output, h.size, fun k hk hn => h.block k hk (fun ho => hn (.inr ho))⟩, fun _ h => .inl h⟩
theorem StepT.later {C : Nat} (h : StepT B w m w' m') (hb : Below C w' w'') (hC : w'.heap.size ≤ C) : StepT B w m w'' m' :=
  ⟨⟨hb.os.trans h.kp.os, hb.tape.trans h.kp.tape, hb.output.trans h.kp.output, Nat.le_trans h.kp.size hb.size, fun k hk hn => (hb.block k (by have := h.kp.size; omega)).trans (h.kp.block k hk hn)⟩, h.own⟩
theorem StepT.alloc (h : StepT B w m w' m') (o : Obj) : StepT B w m (w'.alloc o) m' := h.later ((Below.refl _ w').alloc (Nat.le_refl _) o) (Nat.le_refl _)
theorem StepT.drewN (h : StepT B w m w' m') (n : Nat) : StepT B w m (w'.drewN n) m' := ⟨⟨h.kp.os, h.kp.tape, h.kp.output, h.kp.size, h.kp.block⟩, h.own⟩
theorem StepT.drew (h : StepT B w m w' m') : StepT B w m w'.drew m' := h.drewN 1
theorem StepT.undrew (h : StepT B w.drew m w' m') : StepT B w m w' m' := ⟨⟨h.kp.os, h.kp.tape, h.kp.output, h.kp.size, h.kp.block⟩, h.own⟩
theorem HeldT.lt (h : HeldT w0 A B P w m v) : A < w.heap.size := h.box.lt
theorem HeldT.later {C : Nat} (h : HeldT w0 A B P w m v) (hb : Below C w w') (hC : w.heap.size ≤ C) : HeldT w0 A B P w' m v :=
  ⟨h.h.later hb hC, at_six h.sk (fun b hb2 => hb.block b (by have := h.sk.lt; have := hb2.2; omega)), h.box.below hb (Nat.lt_of_lt_of_le h.lt hC), h.loA, h.loB, h.no, h.six, h.fit⟩
theorem HeldT.alloc (h : HeldT w0 A B P w m v) (o : Obj) : HeldT w0 A B P (w.alloc o) m v := h.later ((Below.refl _ w).alloc (Nat.le_refl _) o) (Nat.le_refl _)
theorem HeldT.drewN (h : HeldT w0 A B P w m v) (n : Nat) : HeldT w0 A B P (w.drewN n) m v := ⟨h.h.drewN n, h.sk.drewN n, h.box, h.loA, h.loB, h.no, h.six, h.fit⟩
theorem HeldT.drew (h : HeldT w0 A B P w m v) : HeldT w0 A B P w.drew m v := h.drewN 1
theorem HeldT.below (h : HeldT w0 A B P w m v) : Below w0.heap.size w0 w := h.h.below
/-- Other memory of the call's own turns. -/
theorem HeldT.kp {O : Nat → Prop} (h : HeldT w0 A B P w m v) (hk : Kp O w w') (hO : ∀ b, O b → w0.heap.size ≤ b ∧ ¬ m.own b ∧ b ≠ A ∧ ¬ Six B b) : HeldT w0 A B P w' m v :=
  ⟨h.h.kp hk (fun b hb => ⟨(hO b hb).1, (hO b hb).2.1⟩), at_six h.sk (fun b hb => hk.block b (by have := h.sk.lt; have := hb.2; omega) (fun ho => (hO b ho).2.2.2 hb)), (hk.block A h.lt (fun ho => (hO A ho).2.2.1 rfl)).trans h.box, h.loA, h.loB, h.no, h.six, h.fit⟩
theorem HeldT.step {r' : Rg} (h : HeldT w0 A B P w m v) (hH : Held w0 P w' m' r') (hS : Step w m w' m') (hf : Tv.Fit { v with rg := r' }) : HeldT w0 A B P w' m' { v with rg := r' } :=
  ⟨hH, at_six h.sk (fun b hb => hS.kp.block b (by have := h.sk.lt; have := hb.2; omega) (h.six b hb).2), (hS.kp.block A h.lt h.no).trans h.box, h.loA, h.loB, fun ho => by
    rcases hS.own A ho with h1 | h1
    · exact h.no h1
    · have := h.lt; omega, fun b hb => ⟨(h.six b hb).1, fun ho => by
      rcases hS.own b ho with h1 | h1
      · exact (h.six b hb).2 h1
      · have := h.sk.lt; have := hb.2; omega⟩, hf⟩
/-- The sketch turns. -/
theorem HeldT.skStep {s' : Sk} (h : HeldT w0 A B P w m v) (hA : Sketchy.At w' B s') (hK : Kp (Six B) w w') (hf : Tv.Fit { v with sk := s' }) : HeldT w0 A B P w' m { v with sk := s' } :=
  ⟨h.h.kp hK (fun b hb => ⟨Nat.le_trans h.loB hb.1, (h.six b hb).2⟩), hA, (hK.block A h.lt (fun ho => (h.six A ho).1 rfl)).trans h.box, h.loA, h.loB, h.no, h.six, hf⟩
theorem HeldT.cells (h : HeldT w0 A B P w m v) : w.cell? ⟨A, 0, none⟩ = some (.int .i64 (v.most : Int)) ∧ w.cell? ⟨A, 1, none⟩ = some (.pointer (some ⟨B + 1, 0, none⟩)) ∧ w.cell? ⟨A, 2, none⟩ = some (.pointer (some ⟨P, 0, none⟩)) :=
  ⟨by rw [h.box.cell 0]; rfl, by rw [h.box.cell 1]; rfl, by rw [h.box.cell 2]; rfl⟩

/-! The rings -/
theorem len_t {i : Nat} (hi : i < 3) (h : HeldT w0 A B P w m v) :
    Calls Tryz.prog 249 #[.pointer (some ⟨P, 0, none⟩), .int .i64 (i : Int)] w fun e w' => e = .returned (.int .i64 (v.len i : Int)) ∧ w = w' := len_h i (by rw [h.fit.n]; exact hi) h.h
theorem in_some {i : Nat} (hk : k.length ≤ maxLen) (e : v.at_ k = some i) (h : HeldT w0 A B P w m v) :
    Calls Tryz.prog 231 #[.pointer (some ⟨P, 0, none⟩), .string (str k)] w fun e w' => e = .returned (.tuple #[.int .i64 (i : Int), .bool true]) ∧ w = w' := by
  obtain ⟨hi, hm⟩ := Tv.at_some e
  have hR := h.h.R
  subst hR
  exact flip (in_yes' hk w h.h.at_ (by rw [h.fit.n]; exact hi) hm)
theorem in_none (hk : k.length ≤ maxLen) (e : v.at_ k = none) (h : HeldT w0 A B P w m v) :
    Calls Tryz.prog 231 #[.pointer (some ⟨P, 0, none⟩), .string (str k)] w fun e w' => e = .returned (.tuple #[.int .i64 0, .bool false]) ∧ w = w' := by
  have hR := h.h.R
  subst hR
  refine flip (in_no' hk w h.h.at_ ?_)
  rintro ⟨i, hi, hm⟩
  rw [h.fit.n] at hi
  exact Tv.at_none e i hi hm
theorem front_t {j : Nat} (hj : j < 3) (hk : k.length ≤ 64) (hc : v.can k) (h : HeldT w0 A B P w m v) :
    Calls Tryz.prog 236 #[.pointer (some ⟨P, 0, none⟩), .int .i64 (j : Int), .string (str k)] w fun e w' => e = .returned (.bool true) ∧ ∃ m', HeldT w0 A B P w' m' (v.fr j k) ∧ StepT B w m w' m' := by
  have hR := h.h.R
  subst hR
  refine (front_yes (by rw [h.fit.n]; exact hj) hk w h.h.at_ hc).mono ?_
  rintro e w' ⟨rfl, m', hA, hS⟩
  exact ⟨rfl, m', h.step (h.h.step hA hS) hS (h.fit.fr hj hk hc), StepT.of hS⟩
theorem drop_t (hk : k.length ≤ maxLen) (h : HeldT w0 A B P w m v) :
    Calls Tryz.prog 235 #[.pointer (some ⟨P, 0, none⟩), .string (str k)] w fun e w' => e = .returned (.bool (v.has k)) ∧ ∃ m', HeldT w0 A B P w' m' (v.dr k) ∧ StepT B w m w' m' := by
  refine (drop_h hk h.h).mono ?_
  rintro e w' ⟨rfl, m', hA, hS⟩
  rw [Tv.hasB_eq h.fit.n]
  exact ⟨rfl, m', h.step hA hS (h.fit.dr k), StepT.of hS⟩
theorem back_some {i : Nat} (hi : i < 3) (e : v.last i = some k) (h : HeldT w0 A B P w m v) :
    Calls Tryz.prog 238 #[.pointer (some ⟨P, 0, none⟩), .int .i64 (i : Int)] w fun e w' => e = .returned (.tuple #[.string (str k), .bool true]) ∧ w = w' := by
  obtain ⟨s, hs⟩ := Tv.last_some e
  have hR := h.h.R
  subst hR
  exact flip (back_yes w h.h.at_ (by rw [h.fit.n]; exact hi) hs)
theorem back_empty {i : Nat} (hi : i < 3) (e : v.last i = none) (h : HeldT w0 A B P w m v) :
    Calls Tryz.prog 238 #[.pointer (some ⟨P, 0, none⟩), .int .i64 (i : Int)] w fun e w' => e = .returned (.tuple #[.string ⟨#[]⟩, .bool false]) ∧ w = w' := by
  have hR := h.h.R
  subst hR
  exact flip (back_none w h.h.at_ (by rw [h.fit.n]; exact hi) (Tv.last_none e))

/-! The sketch -/
theorem note_t (hk : k.length ≤ 1099511627776) (h : HeldT w0 A B P w m v) :
    Calls Tryz.prog 179 #[.pointer (some ⟨B + 1, 0, none⟩), .string (str k)] w fun e w' => e = .returned (.tuple #[]) ∧ HeldT w0 A B P w' m (v.note k) ∧ StepT B w m w' m := by
  refine (Sketchy.add_c k hk w h.sk h.fit.sw).mono ?_
  rintro e w' ⟨rfl, hA, hK⟩
  exact ⟨rfl, h.skStep hA hK (h.fit.note k), StepT.ofSix hK⟩
theorem seen_t (hk : k.length ≤ 1099511627776) (h : HeldT w0 A B P w m v) :
    Calls Tryz.prog 270 #[.pointer (some ⟨B + 1, 0, none⟩), .string (str k)] w fun e w' => e = .returned (.int .i64 (v.seen k : Int)) ∧ ∃ n, w' = w.drewN n := Sketchy.seen_c k hk w h.sk h.fit.sw.pre

/-! Its own small functions -/
theorem made_c (h : HeldT w0 A B P w m v) :
    Calls Tryz.prog 178 #[.pointer (some ⟨A, 0, none⟩)] w fun e w' => e = .returned (.bool true) ∧ w = w' := by
  obtain ⟨c0, c1, c2⟩ := h.cells
  clear h
  go_enter Tryz.func178, Tryz.ntmps178
  go_wp2_with fail
  go_ret
  exact ⟨rfl, rfl⟩
theorem has_t (hk : k.length ≤ maxLen) (h : HeldT w0 A B P w m v) :
    Calls Tryz.prog 256 #[.pointer (some ⟨A, 0, none⟩), .string (str k)] w fun e w' => e = .returned (.bool (v.has k)) ∧ w = w' := by
  have hm := made_c h
  obtain ⟨c0, c1, c2⟩ := h.cells
  cases e : v.at_ k with
  | none =>
    have hi := in_none hk e h
    have ha : v.has k = false := by unfold Tv.has; rw [e]; rfl
    rw [ha]
    clear h ha e
    go_enter Tryz.func256, Tryz.ntmps256
    go_wp2_with fail
    refine hm.mono ?_
    rintro e w' ⟨rfl, rfl⟩
    go_wp2_with fail
    refine hi.mono ?_
    rintro e w' ⟨rfl, rfl⟩
    go_wp2_with fail
    go_ret
    exact ⟨rfl, rfl⟩
  | some i =>
    have hi := in_some hk e h
    have ha : v.has k = true := by unfold Tv.has; rw [e]; rfl
    rw [ha]
    clear h ha e
    go_enter Tryz.func256, Tryz.ntmps256
    go_wp2_with fail
    refine hm.mono ?_
    rintro e w' ⟨rfl, rfl⟩
    go_wp2_with fail
    refine hi.mono ?_
    rintro e w' ⟨rfl, rfl⟩
    go_wp2_with fail
    go_ret
    exact ⟨rfl, rfl⟩
def sum3 (x0 x1 x2 : Nat) : Nat → Nat
  | 0 => 0
  | 1 => x0
  | 2 => x0 + x1
  | _ => x0 + x1 + x2
set_option maxHeartbeats 1000000 in
theorem lenT_c (h : HeldT w0 A B P w m v) :
    Calls Tryz.prog 258 #[.pointer (some ⟨A, 0, none⟩)] w fun e w' => e = .returned (.int .i64 (v.kept : Int)) ∧ w = w' := by
  have hm := made_c h
  obtain ⟨c0, c1, c2⟩ := h.cells
  have hl0 := len_t (i := 0) (by omega) h
  have hl1 := len_t (i := 1) (by omega) h
  have hl2 := len_t (i := 2) (by omega) h
  have z0 := h.fit.len_le (i := 0) (by omega)
  have z1 := h.fit.len_le (i := 1) (by omega)
  have z2 := h.fit.len_le (i := 2) (by omega)
  unfold Tv.kept
  clear h
  generalize v.len 0 = x0 at *
  generalize v.len 1 = x1 at *
  generalize v.len 2 = x2 at *
  go_enter Tryz.func258, Tryz.ntmps258
  go_wp2_with fail
  refine hm.mono ?_
  rintro e w' ⟨rfl, rfl⟩
  go_wp2_with fail
  go_loopw [3, 7] (fun s i wr => ∃ j : Nat, j ≤ 3 ∧ i = .int .i64 j ∧ s = .int .i64 ((sum3 x0 x1 x2 j : Nat) : Int) ∧ wr = w) (fun _ i _ => 3 - (intOf i).toNat)
  case atStart => exact ⟨0, by omega, rfl, rfl, rfl⟩
  case round =>
    obtain ⟨j, hj, rfl, rfl, rfl⟩ := hrel
    rcases (by omega : j = 0 ∨ j = 1 ∨ j = 2 ∨ j = 3) with rfl | rfl | rfl | rfl
    · simp only [sum3]
      go_wp2_with fail
      refine hl0.mono ?_
      rintro e w' ⟨rfl, rfl⟩
      go_wp2_with fail
      go_roundw
      case rel => exact ⟨1, by omega, rfl, by simp, by first | rfl | trivial⟩
      case measure => simp [intOf]
    · simp only [sum3]
      go_wp2_with fail
      refine hl1.mono ?_
      rintro e w' ⟨rfl, rfl⟩
      go_wp2_with fail
      go_roundw
      case rel => exact ⟨2, by omega, rfl, by simp, by first | rfl | trivial⟩
      case measure => simp [intOf]
    · simp only [sum3]
      go_wp2_with fail
      refine hl2.mono ?_
      rintro e w' ⟨rfl, rfl⟩
      go_wp2_with fail
      go_roundw
      case rel => exact ⟨3, by omega, rfl, by simp, by first | rfl | trivial⟩
      case measure => simp [intOf]
    · simp only [sum3]
      go_wp2_with fail
      go_ret
      exact ⟨rfl, rfl⟩
theorem mayKeep_yes {n : Nat} (h1 : 1 ≤ n) (h2 : n ≤ 1000) (w : World) :
    Calls Tryz.prog 80 #[.int .i64 (n : Int)] w fun e w' => e = .returned (.bool true) ∧ w = w' := by
  have d1 : decide ((n : Int) ≤ 1000) = true := decide_eq_true (by omega)
  have d2 : decide (1 ≤ (n : Int)) = true := decide_eq_true (by omega)
  go_enter Tryz.func80, Tryz.ntmps80
  go_wp2_with fail
  go_ret
  exact ⟨rfl, rfl⟩
theorem parts_c {c : Nat} (h1 : 1 ≤ c) (h2 : c ≤ 1000) (w : World) :
    Calls Tryz.prog 263 #[.int .i64 (c : Int)] w fun e w' => e = .returned (.agg #[.int .i64 (wMost c : Int), .int .i64 (sMost c : Int)]) ∧ ∃ o, w' = w.alloc o := by
  have hk := fun W => mayKeep_yes h1 h2 W
  have hw : wMost c = max 1 (c / 8) := rfl
  have hs : sMost c = (c - wMost c) * 4 / 5 := rfl
  have HW := Lib.hid hw
  have HS := Lib.hid hs
  clear hw hs
  generalize wMost c = W at *
  generalize sMost c = Z at *
  have q : (.agg #[.int .i64 (W : Int), .int .i64 (Z : Int)] : Value) = .agg #[.int .i64 (if 1 < (c : Int) / 8 then (c : Int) / 8 else 1), .int .i64 (((c : Int) - (if 1 < (c : Int) / 8 then (c : Int) / 8 else 1)) * 4 / 5)] := by
    have h3 := HW.out
    have h4 := HS.out
    have e1 : (W : Int) = if 1 < (c : Int) / 8 then (c : Int) / 8 else 1 := by split <;> omega
    rw [← e1]
    have e2 : (Z : Int) = ((c : Int) - (W : Int)) * 4 / 5 := by omega
    rw [e2]
  have HQ := Lib.hid q
  clear q
  go_enter Tryz.func263, Tryz.ntmps263
  go_wp2_with fail
  refine (hk _).mono ?_
  rintro e w' ⟨rfl, rfl⟩
  go_wp2_with fail
  all_goals
    refine bodyPost_ret (results_cell_row rfl _ _ w.heap.size 298 _ _ _ rfl (Blk.new w _ _) Tryz.underlying298 rfl (by kernel_rfl)) rfl ⟨?_, _, rfl⟩
    rw [HQ.out]
    first
    | simp only [*, if_true]
    | rw [if_neg (by omega)]
    | rw [show max 1 ((c : Int) / 8) = (if 1 < (c : Int) / 8 then (c : Int) / 8 else 1) by split <;> omega]
    | fail
/-- Lists that a call is given, one behind the other. -/
def firstOf (v : Tv) (L : Nat → Nat) (n : Nat) : Nat → Option Key
  | 0 => none
  | f + 1 => match v.last (L (n - (f + 1))) with
    | some k => some k
    | none => firstOf v L n f
set_option maxHeartbeats 1000000 in
theorem last_c {g n : Nat} {L : Nat → Nat} (hn : n ≤ 3) (hL : ∀ i, i < n → L i < 3) (hc : ∀ i, i < n → w.cell? ⟨g, i, none⟩ = some (.int .i64 (L i : Int))) (h : HeldT w0 A B P w m v) :
    Calls Tryz.prog 261 #[.pointer (some ⟨A, 0, none⟩), .slice (some ⟨g, 0, none⟩) n n] w fun e w' => e = .returned (.tuple #[.string (str ((firstOf v L n n).getD [])), .bool (firstOf v L n n).isSome]) ∧ w = w' := by
  obtain ⟨c0, c1, c2⟩ := h.cells
  go_enter Tryz.func261, Tryz.ntmps261
  go_wp2_with fail
  go_loopw [12] (fun i wr => ∃ j : Nat, j ≤ n ∧ i = .int .i64 j ∧ firstOf v L n n = firstOf v L n (n - j) ∧ wr = w) (fun i _ => n - (intOf i).toNat)
  case atStart => exact ⟨0, Nat.zero_le _, rfl, by simp, rfl⟩
  case round =>
    obtain ⟨j, hj, rfl, hF, rfl⟩ := hrel
    by_cases hlt : j < n
    · have hcj := hc j hlt
      have hs : n - j = (n - j - 1) + 1 := by omega
      have hsub : n - (n - j - 1 + 1) = j := by omega
      rw [hs] at hF
      have hF2 : firstOf v L n (n - j - 1 + 1) = match v.last (L j) with | some k => some k | none => firstOf v L n (n - j - 1) := by
        show (match v.last (L (n - (n - j - 1 + 1))) with | some k => some k | none => firstOf v L n (n - j - 1)) = _
        rw [hsub]
      rw [hF2] at hF
      cases e : v.last (L j) with
      | some k =>
        rw [e] at hF
        have hF : firstOf v L n n = some k := hF
        have hb := back_some (hL j hlt) e h
        have HF := Lib.hid hF
        clear hF hF2 hs hsub h hc
        go_wp2_with fail
        refine hb.mono ?_
        rintro e w' ⟨rfl, rfl⟩
        go_wp2_with fail
        go_ret2
        exact ⟨by rw [HF.out]; rfl, rfl⟩
      | none =>
        rw [e] at hF
        have hF : firstOf v L n n = firstOf v L n (n - j - 1) := hF
        have hb := back_empty (hL j hlt) e h
        have HF := Lib.hid hF
        clear hF hF2 hs hsub h hc
        go_wp2_with fail
        refine hb.mono ?_
        rintro e w' ⟨rfl, rfl⟩
        go_wp2_with fail
        go_roundw
        case rel => exact ⟨j + 1, by omega, by simp, by rw [HF.out]; congr 1, by first | rfl | trivial⟩
        case measure => simp [intOf]; omega
    · obtain rfl : j = n := by omega
      rw [Nat.sub_self] at hF
      have hF : firstOf v L j j = none := hF
      have HF := Lib.hid hF
      clear hF
      go_wp2_with fail
      go_ret2
      exact ⟨by rw [HF.out]; rfl, rfl⟩
theorem last1 {a : Nat} {x : Int} {g : Nat} (hx : x = (a : Int)) (ha : a < 3) (hb : Blk w g 3 #[.int .i64 x]) (h : HeldT w0 A B P w m v) :
    Calls Tryz.prog 261 #[.pointer (some ⟨A, 0, none⟩), .slice (some ⟨g, 0, none⟩) 1 1] w fun e w' => e = .returned (.tuple #[.string (str ((v.last a).getD [])), .bool (v.last a).isSome]) ∧ w = w' := by
  subst hx
  have hf : firstOf v (fun _ => a) 1 1 = v.last a := by unfold firstOf firstOf; cases v.last a <;> rfl
  have := last_c (L := fun _ => a) (n := 1) (by omega) (fun _ _ => ha) (fun t ht => by
    obtain rfl : t = 0 := by omega
    exact hb.cell 0) h
  rw [hf] at this
  exact this
theorem last2 {g : Nat} (hb : Blk w g 3 #[.int .i64 1, .int .i64 2]) (h : HeldT w0 A B P w m v) :
    Calls Tryz.prog 261 #[.pointer (some ⟨A, 0, none⟩), .slice (some ⟨g, 0, none⟩) 2 2] w fun e w' => e = .returned (.tuple #[.string (str ((v.first [1, 2]).getD [])), .bool (v.first [1, 2]).isSome]) ∧ w = w' :=
  last_c (L := fun i => i + 1) (n := 2) (by omega) (fun _ _ => by omega) (fun t ht => by
    rcases (by omega : t = 0 ∨ t = 1) with rfl | rfl
    · exact hb.cell 0
    · exact hb.cell 1) h
theorem last3 {g : Nat} (hb : Blk w g 3 #[.int .i64 1, .int .i64 0, .int .i64 2]) (h : HeldT w0 A B P w m v) :
    Calls Tryz.prog 261 #[.pointer (some ⟨A, 0, none⟩), .slice (some ⟨g, 0, none⟩) 3 3] w fun e w' => e = .returned (.tuple #[.string (str (v.goes.getD [])), .bool v.goes.isSome]) ∧ w = w' :=
  last_c (L := fun i => if i = 0 then 1 else if i = 1 then 0 else 2) (n := 3) (by omega) (fun i _ => by split; omega; split <;> omega) (fun t ht => by
    rcases (by omega : t = 0 ∨ t = 1 ∨ t = 2) with rfl | rfl | rfl
    · exact hb.cell 0
    · exact hb.cell 1
    · exact hb.cell 2) h
theorem seenT_c (hk : k.length ≤ 1099511627776) (h : HeldT w0 A B P w m v) :
    Calls Tryz.prog 269 #[.pointer (some ⟨A, 0, none⟩), .string (str k)] w fun e w' => e = .returned (.int .i64 (v.seen k : Int)) ∧ ∃ n, w' = w.drewN n := by
  have hm := made_c h
  have hs := seen_t hk h
  obtain ⟨c0, c1, c2⟩ := h.cells
  clear h
  go_enter Tryz.func269, Tryz.ntmps269
  go_wp2_with fail
  refine hm.mono ?_
  rintro e w' ⟨rfl, rfl⟩
  go_wp2_with fail
  refine hs.mono ?_
  rintro e w' ⟨rfl, n, rfl⟩
  go_wp2_with fail
  go_ret
  exact ⟨rfl, n, rfl⟩
theorem removeT_c (hk : k.length ≤ maxLen) (h : HeldT w0 A B P w m v) :
    Calls Tryz.prog 259 #[.pointer (some ⟨A, 0, none⟩), .string (str k)] w fun e w' => e = .returned (.bool (v.has k)) ∧ ∃ m', HeldT w0 A B P w' m' (v.dr k) ∧ StepT B w m w' m' := by
  have hm := made_c h
  have hd := drop_t hk h
  obtain ⟨c0, c1, c2⟩ := h.cells
  clear h
  generalize v.has k = b at *
  go_enter Tryz.func259, Tryz.ntmps259
  go_wp2_with fail
  refine hm.mono ?_
  rintro e w' ⟨rfl, rfl⟩
  go_wp2_with fail
  refine hd.mono ?_
  rintro e w2 ⟨rfl, hp⟩
  go_wp2_with fail
  go_ret
  exact ⟨rfl, hp⟩
end
end Go.Proofs.YtlnjnpchkdipdaaGreat.Tinyy
