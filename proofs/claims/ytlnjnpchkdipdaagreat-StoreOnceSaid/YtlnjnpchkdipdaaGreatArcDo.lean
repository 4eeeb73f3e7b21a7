/- Contracts of the program's Arc: who goes when room is made, and what inserting comes to. The only condition: a key is no longer than a text may be. -/
import Derived.Test.YtlnjnpchkdipdaaGreatArcOps
import Derived.Deep.RegionHeld3
namespace Go.Proofs.YtlnjnpchkdipdaaGreat.Arcy
open Go.ChangeShapes Go.WideShapes Go.ChangeAt Go.RowKit
open Wirey (Blk Row str str_size str_list Kp)
open Ringy

section
variable {w0 w w' w'' : World} {A P : Nat} {m m' m'' : Rm} {v : Av} {k : Key}
theorem beq0 (y : Nat) : ((y : Int) == 0) = decide (y = 0) := by
  rw [Bool.eq_iff_iff, beq_iff_eq, decide_eq_true_eq]
  omega
theorem count1 {i : Nat} {a : Int} {g : Nat} (ha : a = (i : Int)) (hi : i < 4) (hb : Blk w g 3 #[.int .i64 a]) (h : HeldA w0 A P w m v) :
    Calls Tryz.prog 242 #[.pointer (some ⟨A, 0, none⟩), .slice (some ⟨g, 0, none⟩) 1 1] w fun e w' => e = .returned (.int .i64 (v.len i : Int)) ∧ w = w' := by
  subst ha
  refine (count_c (L := fun _ => i) (n := 1) (by omega) (fun _ _ => hi) (fun t ht => ?_) h).mono ?_
  · obtain rfl : t = 0 := by omega
    exact hb.cell 0
  · rintro e w' ⟨rfl, rfl⟩
    exact ⟨by simp [sumTo], rfl⟩
theorem count2 {a b : Nat} {x y : Int} {g : Nat} (hx : x = (a : Int)) (hy : y = (b : Int)) (ha : a < 4) (hb : b < 4) (hg : Blk w g 3 #[.int .i64 x, .int .i64 y]) (h : HeldA w0 A P w m v) :
    Calls Tryz.prog 242 #[.pointer (some ⟨A, 0, none⟩), .slice (some ⟨g, 0, none⟩) 2 2] w fun e w' => e = .returned (.int .i64 ((v.len a + v.len b : Nat) : Int)) ∧ w = w' := by
  subst hx hy
  refine (count_c (L := fun i => if i = 0 then a else b) (n := 2) (by omega) (fun i _ => by split <;> assumption) (fun t ht => ?_) h).mono ?_
  · rcases (by omega : t = 0 ∨ t = 1) with rfl | rfl
    · exact hg.cell 0
    · exact hg.cell 1
  · rintro e w' ⟨rfl, rfl⟩
    exact ⟨by simp [sumTo], rfl⟩
theorem count4 {g : Nat} (hg : Blk w g 3 #[.int .i64 0, .int .i64 1, .int .i64 2, .int .i64 3]) (h : HeldA w0 A P w m v) :
    Calls Tryz.prog 242 #[.pointer (some ⟨A, 0, none⟩), .slice (some ⟨g, 0, none⟩) 4 4] w fun e w' => e = .returned (.int .i64 (v.all : Int)) ∧ w = w' := by
  refine (count_c (L := fun i => i) (n := 4) (by omega) (fun i hi => hi) (fun t ht => ?_) h).mono ?_
  · rcases (by omega : t = 0 ∨ t = 1 ∨ t = 2 ∨ t = 3) with rfl | rfl | rfl | rfl
    · exact hg.cell 0
    · exact hg.cell 1
    · exact hg.cell 2
    · exact hg.cell 3
  · rintro e w' ⟨rfl, rfl⟩
    exact ⟨by simp [sumTo, Av.all], rfl⟩
theorem lenA_c (h : HeldA w0 A P w m v) :
    Calls Tryz.prog 252 #[.pointer (some ⟨A, 0, none⟩)] w fun e w' => e = .returned (.int .i64 (v.kept : Int)) ∧ ∃ o, w' = w.alloc o := by
  have hm := made_c h
  have hc := count2 (a := 0) (b := 1) (x := 0) (y := 1) rfl rfl (by omega) (by omega) (Blk.new w 3 #[.int .i64 0, .int .i64 1]) (h.alloc _)
  clear h
  go_enter Tryz.func252, Tryz.ntmps252
  go_wp2_with fail
  refine hm.mono ?_
  rintro e w' ⟨rfl, rfl⟩
  go_wp2_with fail
  refine hc.mono ?_
  rintro e w' ⟨rfl, rfl⟩
  go_wp2_with fail
  go_ret
  exact ⟨rfl, _, rfl⟩
theorem touch_c (hk : k.length ≤ maxLen) (h : HeldA w0 A P w m v) :
    Calls Tryz.prog 227 #[.pointer (some ⟨A, 0, none⟩), .string (str k)] w fun e w' => e = .returned (.bool (v.has k)) ∧ ∃ m', HeldA w0 A P w' m' (v.touch k) ∧ StepA A w m w' m' := by
  have hh := has_c hk h
  obtain ⟨c0, c1, c2⟩ := h.cells
  have HH := Lib.hid h
  by_cases e : v.has k = true
  · have ht : v.touch k = v.fr 1 k := by unfold Av.touch; rw [if_pos e]
    have hok := (Av.touch_ok h.ok k).1
    rw [ht] at hok
    have hkl : k.length ≤ 64 := by
      rcases Av.has_iff.1 e with h1 | h1
      · exact h.ok.klen (by omega) h1
      · exact h.ok.klen (by omega) h1
    have hf := front_a (j := 1) (by omega) hkl h hok
    rw [e] at hh ⊢
    rw [ht]
    clear h e ht hok
    go_enter Tryz.func227, Tryz.ntmps227
    go_wp2_with fail
    refine hh.mono ?_
    rintro e w' ⟨rfl, rfl⟩
    go_wp2_with fail
    refine hf.mono ?_
    rintro e w' ⟨rfl, hp⟩
    go_wp2_with fail
    go_ret
    exact ⟨rfl, hp⟩
  · have ht : v.touch k = v := by unfold Av.touch; rw [if_neg e]
    rw [Bool.not_eq_true] at e
    rw [e] at hh ⊢
    rw [ht]
    clear h e ht
    go_enter Tryz.func227, Tryz.ntmps227
    go_wp2_with fail
    refine hh.mono ?_
    rintro e w' ⟨rfl, rfl⟩
    go_wp2_with fail
    go_ret
    exact ⟨rfl, m, HH.out, StepA.refl _ _ _⟩
set_option maxHeartbeats 1000000 in
theorem once_c (b : Bool) (h : HeldA w0 A P w m v) :
    Calls Tryz.prog 237 #[.pointer (some ⟨A, 0, none⟩), .bool b] w fun e w' => e = .returned (.bool (v.once b)) ∧ HeldA w0 A P w' m v ∧ StepA A w m w' m := by
  have h1 := h.alloc (.cells #[.int .i64 0] 3)
  have hs1 := (StepA.refl A w m).alloc (.cells #[.int .i64 0] 3)
  have hc0 := count1 (i := 0) (a := 0) rfl (by omega) (Blk.new w 3 #[.int .i64 0]) h1
  have hb1 := Blk.new (w.alloc (.cells #[.int .i64 0] 3)) 3 #[.int .i64 1]
  rw [show (w.alloc (.cells #[.int .i64 0] 3)).heap.size = w.heap.size + 1 by simp] at hb1
  have hc1 := count1 (i := 1) (a := 1) rfl (by omega) hb1 (h1.alloc _)
  clear hb1
  obtain ⟨c0, c1, c2⟩ := h1.cells
  have H1 := Lib.hid h1
  have HS1 := Lib.hid hs1
  have hl := h.ok.len_le (i := 0) (by omega)
  have hl1 := h.ok.len_le (i := 1) (by omega)
  unfold Av.once
  clear h h1 hs1
  generalize v.len 0 = x at *
  generalize v.len 1 = y at *
  generalize v.tgt = t at *
  by_cases e0 : x = 0
  · subst e0
    go_enter Tryz.func237, Tryz.ntmps237
    go_wp2_with fail
    refine hc0.mono ?_
    rintro e w' ⟨rfl, rfl⟩
    go_wp2_with fail
    go_ret
    exact ⟨rfl, H1.out, HS1.out⟩
  · have d0 : ((x : Int) == 0) = false := by rw [beq_eq_false_iff_ne]; omega
    have e0' : decide (0 < x) = true := decide_eq_true (by omega)
    rw [e0', Bool.true_and]
    by_cases e1 : t < x
    · have e1' : decide (t < x) = true := decide_eq_true e1
      rw [e1']
      go_enter Tryz.func237, Tryz.ntmps237
      go_wp2_with fail
      refine hc0.mono ?_
      rintro e w' ⟨rfl, rfl⟩
      go_wp2_with fail
      go_ret
      exact ⟨rfl, H1.out, HS1.out⟩
    · have e1' : decide (t < x) = false := decide_eq_false e1
      rw [e1', Bool.false_or]
      have hg : decide ((t : Int) < (x : Int)) = false := decide_eq_false (by omega)
      by_cases e2 : x = t ∧ b = true
      · obtain ⟨rfl, rfl⟩ := e2
        have e2' : (decide (x = x) && true) = true := by simp
        rw [e2', Bool.true_or]
        go_enter Tryz.func237, Tryz.ntmps237
        go_wp2_with fail
        refine hc0.mono ?_
        rintro e w' ⟨rfl, rfl⟩
        go_wp2_with fail
        go_ret
        exact ⟨rfl, H1.out, HS1.out⟩
      · have e2' : (decide (x = t) && b) = false := by
          rw [Bool.and_eq_false_iff, decide_eq_false_iff_not]
          by_cases h : x = t
          · right; cases b; rfl; exact absurd ⟨h, rfl⟩ e2
          · exact .inl h
        rw [e2', Bool.false_or]
        by_cases e3 : x = t
        · subst e3
          obtain rfl : b = false := by cases b; rfl; exact absurd ⟨rfl, rfl⟩ e2
          go_enter Tryz.func237, Tryz.ntmps237
          go_wp2_with fail
          refine hc0.mono ?_
          rintro e w' ⟨rfl, rfl⟩
          go_wp2_with fail
          refine hc1.mono ?_
          rintro e w' ⟨rfl, rfl⟩
          go_wp2_with fail
          go_ret
          exact ⟨congrArg Ending.returned (congrArg Value.bool (beq0 y)), H1.out.alloc _, HS1.out.alloc _⟩
        · have d3 : ((x : Int) == (t : Int)) = false := by rw [beq_eq_false_iff_ne]; omega
          go_enter Tryz.func237, Tryz.ntmps237
          go_wp2_with fail
          refine hc0.mono ?_
          rintro e w' ⟨rfl, rfl⟩
          go_wp2_with fail
          refine hc1.mono ?_
          rintro e w' ⟨rfl, rfl⟩
          go_wp2_with fail
          go_ret
          exact ⟨congrArg Ending.returned (congrArg Value.bool (beq0 y)), H1.out.alloc _, HS1.out.alloc _⟩
/-- A row of keys that was told, beside the rings. -/
structure Tell (B A : Nat) (m : Rm) (val : Value) (l : List Key) (w : World) : Prop where
  row : w.ownsRow B 9 1 val l.length (strsV l)
  no : ∀ b, val.ownBlock = some b → ¬ m.own b ∧ b ≠ A
theorem Tell.step {B : Nat} {val : Value} {l : List Key} (h : Tell B A m val l w) (hS : StepA A w m w' m') : Tell B A m' val l w' :=
  ⟨ownsRow_stay h.row fun b hb => hS.kp.block b (h.row.lt b hb).2 (fun ho => ho.elim (h.no b hb).1 (h.no b hb).2), fun b hb => ⟨fun ho => by
    rcases hS.own b ho with h1 | h1
    · exact (h.no b hb).1 h1
    · have := (h.row.lt b hb).2; omega, (h.no b hb).2⟩⟩
theorem Tell.nil (B A : Nat) (m : Rm) (w : World) : Tell B A m (.slice none 0 0) [] w := ⟨World.ownsRow_nil _ _ _ _, fun b hb => by cases hb⟩
theorem Tell.lit {B : Nat} (h : HeldA w0 A P w m v) (hB : B ≤ w.heap.size) (k : Key) : Tell B A m (.slice (some ⟨w.heap.size, 0, none⟩) 1 1) [k] (w.alloc (.cells #[.string (str k)] 9)) := by
  have hr := World.ownsRow_lit (size := 1) (e := 9) (base := B) w #[.string (str k)] 1 hB (by unfold maxLen; omega) rfl
  refine ⟨hr, fun b hb => ?_⟩
  obtain rfl : w.heap.size = b := by injection hb
  exact ⟨fun ho => by have := h.h.lt _ ho; omega, fun e => by have := h.lt; omega⟩
set_option maxHeartbeats 1000000 in
theorem replace_c (b : Bool) (h : HeldA w0 A P w m v) :
    Calls Tryz.prog 229 #[.pointer (some ⟨A, 0, none⟩), .bool b] w fun e w' => e = .returned (.tuple #[.string (str ((v.last (v.src b)).getD [])), .bool (v.last (v.src b)).isSome]) ∧ ∃ m', HeldA w0 A P w' m' (v.repl b) ∧ StepA A w m w' m' := by
  have ho := once_c b h
  have hsrc : v.src b = if v.once b = true then 0 else 1 := rfl
  have hok := h.ok
  have hrp : v.repl b = match v.last (v.src b) with | none => v | some k => v.fr (v.src b + 2) k := rfl
  rw [hrp]
  clear hrp
  cases e1 : v.once b with
  | true =>
    rw [e1, if_pos rfl] at hsrc
    rw [hsrc]
    rw [e1] at ho
    cases e2 : v.last 0 with
    | none =>
      clear h
      go_enter Tryz.func229, Tryz.ntmps229
      go_wp2_with fail
      refine ho.mono ?_
      rintro e w1 ⟨rfl, h1, hS1⟩
      obtain ⟨c0, c1, c2⟩ := h1.cells
      go_wp2_with fail
      refine (back_empty (i := 0) (by omega) e2 h1).mono ?_
      rintro e w' ⟨rfl, rfl⟩
      go_wp2_with fail
      go_ret2
      exact ⟨rfl, m, h1, hS1⟩
    | some k =>
      have hw := Av.move_went hok (i := 0) (by omega) (Av.last_mem e2)
      have hkl := hok.klen (by omega) (Av.last_mem e2)
      clear h
      go_enter Tryz.func229, Tryz.ntmps229
      go_wp2_with fail
      refine ho.mono ?_
      rintro e w1 ⟨rfl, h1, hS1⟩
      obtain ⟨c0, c1, c2⟩ := h1.cells
      go_wp2_with fail
      refine (back_some (i := 0) (by omega) e2 h1).mono ?_
      rintro e w' ⟨rfl, rfl⟩
      go_wp2_with fail
      refine (front_a (j := 2) (by omega) hkl h1 hw.ok).mono ?_
      rintro e w2 ⟨rfl, m2, h2, hS2⟩
      go_wp2_with fail
      go_ret2
      exact ⟨rfl, m2, h2, hS1.trans hS2⟩
  | false =>
    rw [e1, if_neg (by decide)] at hsrc
    rw [hsrc]
    rw [e1] at ho
    cases e2 : v.last 1 with
    | none =>
      clear h
      go_enter Tryz.func229, Tryz.ntmps229
      go_wp2_with fail
      refine ho.mono ?_
      rintro e w1 ⟨rfl, h1, hS1⟩
      obtain ⟨c0, c1, c2⟩ := h1.cells
      go_wp2_with fail
      refine (back_empty (i := 1) (by omega) e2 h1).mono ?_
      rintro e w' ⟨rfl, rfl⟩
      go_wp2_with fail
      go_ret2
      exact ⟨rfl, m, h1, hS1⟩
    | some k =>
      have hw := Av.move_went hok (i := 1) (by omega) (Av.last_mem e2)
      have hkl := hok.klen (by omega) (Av.last_mem e2)
      clear h
      go_enter Tryz.func229, Tryz.ntmps229
      go_wp2_with fail
      refine ho.mono ?_
      rintro e w1 ⟨rfl, h1, hS1⟩
      obtain ⟨c0, c1, c2⟩ := h1.cells
      go_wp2_with fail
      refine (back_some (i := 1) (by omega) e2 h1).mono ?_
      rintro e w' ⟨rfl, rfl⟩
      go_wp2_with fail
      refine (front_a (j := 3) (by omega) hkl h1 hw.ok).mono ?_
      rintro e w2 ⟨rfl, m2, h2, hS2⟩
      go_wp2_with fail
      go_ret2
      exact ⟨rfl, m2, h2, hS1.trans hS2⟩
theorem forget_c {i : Nat} (hi : i < 4) (e : v.last i = some k) (h : HeldA w0 A P w m v) :
    Calls Tryz.prog 251 #[.pointer (some ⟨A, 0, none⟩), .int .i64 (i : Int)] w fun e w' => e = .returned (.string (str k)) ∧ ∃ m', HeldA w0 A P w' m' (v.forget i) ∧ StepA A w m w' m' := by
  have hf : v.forget i = v.dr k := by unfold Av.forget; rw [e]
  rw [hf]
  have hb := back_some hi e h
  have hkl := h.ok.klen hi (Av.last_mem e)
  have hd := drop_a (k := k) (by unfold maxLen; omega) h
  obtain ⟨c0, c1, c2⟩ := h.cells
  clear h e hf hkl
  go_enter Tryz.func251, Tryz.ntmps251
  go_wp2_with fail
  refine hb.mono ?_
  rintro e w' ⟨rfl, rfl⟩
  go_wp2_with fail
  refine hd.mono ?_
  rintro e w' ⟨⟨b, rfl⟩, hp⟩
  go_wp2_with fail
  go_ret
  exact ⟨rfl, hp⟩
end
end Go.Proofs.YtlnjnpchkdipdaaGreat.Arcy
