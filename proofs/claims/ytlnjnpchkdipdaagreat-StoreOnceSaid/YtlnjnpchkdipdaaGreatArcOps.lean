/- The program's Arc in memory: its three cells and its rings; the contracts of its small functions. The only condition: a key is no longer than a text may be. -/
import Derived.Test.YtlnjnpchkdipdaaGreatArcMath
namespace Go.Proofs.YtlnjnpchkdipdaaGreat.Arcy
open Go.ChangeShapes Go.WideShapes Go.ChangeAt Go.RowKit
open Wirey (Blk Row str str_size str_list Kp)
open Ringy

/-- What a step may turn: the rings' blocks, and the Arc's own one. -/
structure StepA (A : Nat) (w : World) (m : Rm) (w' : World) (m' : Rm) : Prop where
  kp : Kp (fun b => m.own b ∨ b = A) w w'
  own : ∀ b, m'.own b → m.own b ∨ w.heap.size ≤ b
structure HeldA (w0 : World) (A P : Nat) (w : World) (m : Rm) (v : Av) : Prop where
  h : Held w0 P w m v.rg
  box : Blk w A 163 #[.int .i64 (v.most : Int), .int .i64 (v.tgt : Int), .pointer (some ⟨P, 0, none⟩)]
  lo : w0.heap.size ≤ A
  no : ¬ m.own A
  ok : v.Ok
section
variable {w0 w w' w'' : World} {A P : Nat} {m m' m'' : Rm} {v : Av} {k : Key}
theorem StepA.refl (A : Nat) (w : World) (m : Rm) : StepA A w m w m := ⟨Kp.refl _ _, fun _ h => .inl h⟩
theorem StepA.trans (h : StepA A w m w' m') (h' : StepA A w' m' w'' m'') : StepA A w m w'' m'' := by
  refine ⟨⟨h'.kp.os.trans h.kp.os, h'.kp.tape.trans h.kp.tape, h'.kp.output.trans h.kp.output, Nat.le_trans h.kp.size h'.kp.size, fun k hk hn => ?_⟩, fun b hb => ?_⟩
  · refine (h'.kp.block k (Nat.lt_of_lt_of_le hk h.kp.size) (fun ho => ?_)).trans (h.kp.block k hk hn)
    rcases ho with ho | ho
    · rcases h.own k ho with h1 | h1
      · exact hn (.inl h1)
      · omega
    · exact hn (.inr ho)
  · rcases h'.own b hb with h1 | h1
    · exact h.own b h1
    · exact .inr (Nat.le_trans h.kp.size h1)
theorem StepA.of (h : Step w m w' m') : StepA A w m w' m' := ⟨⟨h.kp.os, h.kp.tape, h.kp.output, h.kp.size, fun k hk hn => h.kp.block k hk (fun ho => hn (.inl ho))⟩, h.own⟩
theorem StepA.later {C : Nat} (h : StepA A w m w' m') (hb : Below C w' w'') (hC : w'.heap.size ≤ C) : StepA A w m w'' m' :=
  ⟨⟨hb.os.trans h.kp.os, hb.tape.trans h.kp.tape, hb.output.trans h.kp.output, Nat.le_trans h.kp.size hb.size, fun k hk hn => (hb.block k (by have := h.kp.size; omega)).trans (h.kp.block k hk hn)⟩, h.own⟩
theorem StepA.alloc (h : StepA A w m w' m') (o : Obj) : StepA A w m (w'.alloc o) m' := h.later ((Below.refl _ w').alloc (Nat.le_refl _) o) (Nat.le_refl _)
theorem StepA.drewN (h : StepA A w m w' m') (n : Nat) : StepA A w m (w'.drewN n) m' := ⟨⟨h.kp.os, h.kp.tape, h.kp.output, h.kp.size, h.kp.block⟩, h.own⟩
theorem StepA.drew (h : StepA A w m w' m') : StepA A w m w'.drew m' := h.drewN 1
theorem HeldA.lt (h : HeldA w0 A P w m v) : A < w.heap.size := h.box.lt
theorem HeldA.later {C : Nat} (h : HeldA w0 A P w m v) (hb : Below C w w') (hC : w.heap.size ≤ C) : HeldA w0 A P w' m v :=
  ⟨h.h.later hb hC, h.box.below hb (Nat.lt_of_lt_of_le h.lt hC), h.lo, h.no, h.ok⟩
theorem HeldA.alloc (h : HeldA w0 A P w m v) (o : Obj) : HeldA w0 A P (w.alloc o) m v := h.later ((Below.refl _ w).alloc (Nat.le_refl _) o) (Nat.le_refl _)
theorem HeldA.drewN (h : HeldA w0 A P w m v) (n : Nat) : HeldA w0 A P (w.drewN n) m v := ⟨h.h.drewN n, h.box, h.lo, h.no, h.ok⟩
theorem HeldA.drew (h : HeldA w0 A P w m v) : HeldA w0 A P w.drew m v := h.drewN 1
theorem HeldA.below (h : HeldA w0 A P w m v) : Below w0.heap.size w0 w := h.h.below
/-- Other memory of the call's own turns. -/
theorem HeldA.kp {O : Nat → Prop} (h : HeldA w0 A P w m v) (hk : Kp O w w') (hO : ∀ b, O b → w0.heap.size ≤ b ∧ ¬ m.own b ∧ b ≠ A) : HeldA w0 A P w' m v :=
  ⟨h.h.kp hk (fun b hb => ⟨(hO b hb).1, (hO b hb).2.1⟩), (hk.block A h.lt (fun ho => (hO A ho).2.2 rfl)).trans h.box, h.lo, h.no, h.ok⟩
theorem HeldA.step {r' : Rg} (h : HeldA w0 A P w m v) (hH : Held w0 P w' m' r') (hS : Step w m w' m') (hok : Av.Ok { v with rg := r' }) : HeldA w0 A P w' m' { v with rg := r' } :=
  ⟨hH, (hS.kp.block A h.lt h.no).trans h.box, h.lo, fun ho => by
    rcases hS.own A ho with h1 | h1
    · exact h.no h1
    · have := h.lt; omega, hok⟩
/-- The target turns. -/
theorem HeldA.tgt (h : HeldA w0 A P w m v) {t : Nat} (ht : t ≤ v.most) : HeldA w0 A P (w.setCell ⟨A, 1, none⟩ (.int .i64 (t : Int))) m { v with tgt := t } ∧ StepA A w m (w.setCell ⟨A, 1, none⟩ (.int .i64 (t : Int))) m := by
  have hk : Kp (fun b => b = A) w (w.setCell ⟨A, 1, none⟩ (.int .i64 (t : Int))) := (Kp.refl (fun b => b = A) w).set (p := ⟨A, 1, none⟩) rfl _
  refine ⟨⟨h.h.kp hk (fun b hb => by subst hb; exact ⟨h.lo, h.no⟩), ?_, h.lo, h.no, ⟨h.ok.wf, h.ok.n, h.ok.pl, h.ok.m1, h.ok.m2, ht, h.ok.kept, h.ok.one, h.ok.all⟩⟩, ⟨⟨hk.os, hk.tape, hk.output, hk.size, fun k hk1 hn => hk.block k hk1 (fun e => hn (.inr e))⟩, fun b hb => .inl hb⟩⟩
  have := h.box.put 1 (.int .i64 (t : Int))
  simpa using this
theorem HeldA.cells (h : HeldA w0 A P w m v) : w.cell? ⟨A, 0, none⟩ = some (.int .i64 (v.most : Int)) ∧ w.cell? ⟨A, 1, none⟩ = some (.int .i64 (v.tgt : Int)) ∧ w.cell? ⟨A, 2, none⟩ = some (.pointer (some ⟨P, 0, none⟩)) :=
  ⟨by rw [h.box.cell 0]; rfl, by rw [h.box.cell 1]; rfl, by rw [h.box.cell 2]; rfl⟩
theorem Av.Ok.len_le (h : v.Ok) {i : Nat} (hi : i < 4) : v.len i ≤ 2000 := by
  have h1 := h.all
  have h2 := h.m2
  unfold Av.all at h1
  rcases (by omega : i = 0 ∨ i = 1 ∨ i = 2 ∨ i = 3) with rfl | rfl | rfl | rfl <;> omega
theorem len_a {i : Nat} (hi : i < 4) (h : HeldA w0 A P w m v) :
    Calls Tryz.prog 249 #[.pointer (some ⟨P, 0, none⟩), .int .i64 (i : Int)] w fun e w' => e = .returned (.int .i64 (v.len i : Int)) ∧ w = w' := len_h i (by rw [h.ok.n]; exact hi) h.h
theorem in_some {i : Nat} (hk : k.length ≤ maxLen) (e : v.at_ k = some i) (h : HeldA w0 A P w m v) :
    Calls Tryz.prog 231 #[.pointer (some ⟨P, 0, none⟩), .string (str k)] w fun e w' => e = .returned (.tuple #[.int .i64 (i : Int), .bool true]) ∧ w = w' := by
  obtain ⟨hi, hm⟩ := Av.at_some e
  have hR := h.h.R
  subst hR
  exact flip (in_yes' hk w h.h.at_ (by rw [h.ok.n]; exact hi) hm)
theorem in_none (hk : k.length ≤ maxLen) (e : v.at_ k = none) (h : HeldA w0 A P w m v) :
    Calls Tryz.prog 231 #[.pointer (some ⟨P, 0, none⟩), .string (str k)] w fun e w' => e = .returned (.tuple #[.int .i64 0, .bool false]) ∧ w = w' := by
  have hR := h.h.R
  subst hR
  refine flip (in_no' hk w h.h.at_ ?_)
  rintro ⟨i, hi, hm⟩
  rw [h.ok.n] at hi
  exact Av.at_none e i hi hm
theorem front_a {j : Nat} (hj : j < 4) (hk : k.length ≤ 64) (h : HeldA w0 A P w m v) (hok : (v.fr j k).Ok) :
    Calls Tryz.prog 236 #[.pointer (some ⟨P, 0, none⟩), .int .i64 (j : Int), .string (str k)] w fun e w' => e = .returned (.bool true) ∧ ∃ m', HeldA w0 A P w' m' (v.fr j k) ∧ StepA A w m w' m' := by
  have hR := h.h.R
  subst hR
  refine (front_yes (by rw [h.ok.n]; exact hj) hk w h.h.at_ (h.ok.can k)).mono ?_
  rintro e w' ⟨rfl, m', hA, hS⟩
  exact ⟨rfl, m', h.step (h.h.step hA hS) hS hok, StepA.of hS⟩
theorem drop_a (hk : k.length ≤ maxLen) (h : HeldA w0 A P w m v) :
    Calls Tryz.prog 235 #[.pointer (some ⟨P, 0, none⟩), .string (str k)] w fun e w' => (∃ b, e = .returned (.bool b)) ∧ ∃ m', HeldA w0 A P w' m' (v.dr k) ∧ StepA A w m w' m' := by
  refine (drop_h hk h.h).mono ?_
  rintro e w' ⟨rfl, m', hA, hS⟩
  exact ⟨⟨_, rfl⟩, m', h.step hA hS (h.ok.dr k), StepA.of hS⟩
theorem back_some {i : Nat} (hi : i < 4) (e : v.last i = some k) (h : HeldA w0 A P w m v) :
    Calls Tryz.prog 238 #[.pointer (some ⟨P, 0, none⟩), .int .i64 (i : Int)] w fun e w' => e = .returned (.tuple #[.string (str k), .bool true]) ∧ w = w' := by
  obtain ⟨s, hs⟩ := Av.last_some e
  have hR := h.h.R
  subst hR
  exact flip (back_yes w h.h.at_ (by rw [h.ok.n]; exact hi) hs)
theorem back_empty {i : Nat} (hi : i < 4) (e : v.last i = none) (h : HeldA w0 A P w m v) :
    Calls Tryz.prog 238 #[.pointer (some ⟨P, 0, none⟩), .int .i64 (i : Int)] w fun e w' => e = .returned (.tuple #[.string ⟨#[]⟩, .bool false]) ∧ w = w' := by
  have hR := h.h.R
  subst hR
  exact flip (back_none w h.h.at_ (by rw [h.ok.n]; exact hi) (Av.last_none e))

theorem made_c (h : HeldA w0 A P w m v) :
    Calls Tryz.prog 228 #[.pointer (some ⟨A, 0, none⟩)] w fun e w' => e = .returned (.bool true) ∧ w = w' := by
  obtain ⟨c0, c1, c2⟩ := h.cells
  clear h
  go_enter Tryz.func228, Tryz.ntmps228
  go_wp2_with fail
  go_ret
  exact ⟨rfl, rfl⟩
theorem has_c (hk : k.length ≤ maxLen) (h : HeldA w0 A P w m v) :
    Calls Tryz.prog 224 #[.pointer (some ⟨A, 0, none⟩), .string (str k)] w fun e w' => e = .returned (.bool (v.has k)) ∧ w = w' := by
  have hm := made_c h
  obtain ⟨c0, c1, c2⟩ := h.cells
  have ha := Av.at_has (k := k) h.ok
  cases e : v.at_ k with
  | none =>
    have hi := in_none hk e h
    rw [e] at ha
    have ha : v.has k = false := ha
    rw [ha]
    clear h ha e
    go_enter Tryz.func224, Tryz.ntmps224
    go_wp2_with fail
    refine hm.mono ?_
    rintro e w' ⟨rfl, rfl⟩
    go_wp2_with fail
    refine hi.mono ?_
    rintro e w' ⟨rfl, rfl⟩
    go_wp2_with fail
    go_ret
    exact ⟨rfl, rfl⟩
  | some i =>
    have hi := in_some hk e h
    obtain ⟨hi4, -⟩ := Av.at_some e
    rw [e] at ha
    rcases (by omega : i = 0 ∨ i = 1 ∨ i = 2 ∨ i = 3) with rfl | rfl | rfl | rfl
    · have ha : v.has k = true := ha
      rw [ha]
      clear h ha e
      go_enter Tryz.func224, Tryz.ntmps224
      go_wp2_with fail
      refine hm.mono ?_
      rintro e w' ⟨rfl, rfl⟩
      go_wp2_with fail
      refine hi.mono ?_
      rintro e w' ⟨rfl, rfl⟩
      go_wp2_with fail
      go_ret
      exact ⟨rfl, rfl⟩
    · have ha : v.has k = true := ha
      rw [ha]
      clear h ha e
      go_enter Tryz.func224, Tryz.ntmps224
      go_wp2_with fail
      refine hm.mono ?_
      rintro e w' ⟨rfl, rfl⟩
      go_wp2_with fail
      refine hi.mono ?_
      rintro e w' ⟨rfl, rfl⟩
      go_wp2_with fail
      go_ret
      exact ⟨rfl, rfl⟩
    · have ha : v.has k = false := ha
      rw [ha]
      clear h ha e
      go_enter Tryz.func224, Tryz.ntmps224
      go_wp2_with fail
      refine hm.mono ?_
      rintro e w' ⟨rfl, rfl⟩
      go_wp2_with fail
      refine hi.mono ?_
      rintro e w' ⟨rfl, rfl⟩
      go_wp2_with fail
      go_ret
      exact ⟨rfl, rfl⟩
    · have ha : v.has k = false := ha
      rw [ha]
      clear h ha e
      go_enter Tryz.func224, Tryz.ntmps224
      go_wp2_with fail
      refine hm.mono ?_
      rintro e w' ⟨rfl, rfl⟩
      go_wp2_with fail
      refine hi.mono ?_
      rintro e w' ⟨rfl, rfl⟩
      go_wp2_with fail
      go_ret
      exact ⟨rfl, rfl⟩
theorem sum4_le {L : Nat → Nat} (h : v.Ok) : ∀ n, (∀ i, i < n → L i < 4) → sumTo (fun i => v.len (L i)) n ≤ n * 2000
  | 0, _ => Nat.le_refl _
  | n + 1, hL => by
    have h1 := sum4_le h n (fun i hi => hL i (by omega))
    have h2 := h.len_le (hL n (by omega))
    show sumTo _ n + v.len (L n) ≤ _
    omega
set_option maxHeartbeats 1000000 in
theorem count_c {g n : Nat} {L : Nat → Nat} (hn : n ≤ 4) (hL : ∀ i, i < n → L i < 4) (hc : ∀ i, i < n → w.cell? ⟨g, i, none⟩ = some (.int .i64 (L i : Int))) (h : HeldA w0 A P w m v) :
    Calls Tryz.prog 242 #[.pointer (some ⟨A, 0, none⟩), .slice (some ⟨g, 0, none⟩) n n] w fun e w' => e = .returned (.int .i64 (sumTo (fun i => v.len (L i)) n : Int)) ∧ w = w' := by
  obtain ⟨c0, c1, c2⟩ := h.cells
  have hlen := fun i hi => len_a (i := L i) (hL i hi) h
  have hsum := fun j (hj : j ≤ n) => sum4_le (L := L) h.ok j (fun i hi => hL i (by omega))
  have hle := fun i hi => h.ok.len_le (hL i hi)
  clear h
  go_enter Tryz.func242, Tryz.ntmps242
  go_wp2_with fail
  go_loopw [5, 10] (fun s i wr => ∃ j : Nat, j ≤ n ∧ i = .int .i64 j ∧ s = .int .i64 (sumTo (fun i => v.len (L i)) j : Int) ∧ wr = w) (fun _ i _ => n - (intOf i).toNat)
  case atStart => exact ⟨0, Nat.zero_le _, rfl, rfl, rfl⟩
  case round =>
    obtain ⟨j, hj, rfl, rfl, rfl⟩ := hrel
    by_cases hlt : j < n
    · have hcj := hc j hlt
      have hsj := hsum j hj
      have hlj := hle j hlt
      have hl := hlen j hlt
      have hs1 : sumTo (fun i => v.len (L i)) (j + 1) = sumTo (fun i => v.len (L i)) j + v.len (L j) := rfl
      have HS := Lib.hid hs1
      clear hs1
      generalize sumTo (fun i => v.len (L i)) j = s at *
      clear hsum hle hlen hc
      go_wp2_with fail
      refine hl.mono ?_
      rintro e w' ⟨rfl, rfl⟩
      go_wp2_with fail
      go_roundw
      case rel => exact ⟨j + 1, by omega, by simp, by rw [HS.out]; simp, by first | rfl | trivial⟩
      case measure => simp [intOf]; omega
    · obtain rfl : j = n := by omega
      go_wp2_with fail
      go_ret
      exact ⟨rfl, rfl⟩
end
end Go.Proofs.YtlnjnpchkdipdaaGreat.Arcy
