/- Contracts of the program's Tiny: who goes when the window has too many, and Insert. The only condition: a key is no longer than a text may be. -/
import Derived.Test.YtlnjnpchkdipdaaGreatTinyDo
namespace Go.Proofs.YtlnjnpchkdipdaaGreat.Tinyy
open Go.ChangeShapes Go.WideShapes Go.ChangeAt Go.RowKit
open Wirey (Blk Row str str_size str_list Kp)
open Ringy
open Sketchy (Sk ksOf Six)

section
variable {w0 w w' w'' : World} {A B P : Nat} {m m' m'' : Rm} {v u : Tv} {k one : Key}
theorem Tv.Full.stays_in (hF : v.Full k u one) {o : Key} (h : u.first [1, 2] = some o) : o.length ≤ 64 ∧ o ≠ one ∧ ∃ i, i < 3 ∧ o ∈ u.rg.l i := by
  obtain ⟨i, hi, hmo, hil⟩ := Tv.first_mem (by simp) h
  have hi12 : i = 1 ∨ i = 2 := by simpa using hil
  refine ⟨hF.fit.klen hi hmo, fun e => ?_, i, hi, hmo⟩
  subst e
  have := hF.fit.dj hi (by omega) hmo hF.mem
  omega
set_option maxHeartbeats 4000000 in
set_option maxRecDepth 100000 in
theorem leave_c (hF : v.Full k u one) (h : HeldT w0 A B P w m u) :
    Calls Tryz.prog 265 #[.pointer (some ⟨A, 0, none⟩)] w fun e w' => ∃ val m', e = .returned val ∧ HeldT w0 A B P w' m' u.leave ∧ StepT B w m w' m' ∧ Tell w.heap.size B m' val u.leaveK w' := by
  have hs : u.leave = u.leaveOf one := by unfold Tv.leave; rw [hF.last]; rfl
  have hsk : u.leaveK = u.leaveOfK one := by unfold Tv.leaveK; rw [hF.last]; rfl
  have hol : one.length ≤ 64 := hF.fit.klen (by omega) hF.mem
  have hl1 := fun (W : World) (g : Nat) (hb : Blk W g 3 #[.int .i64 0]) (hW : HeldT w0 A B P W m u) => last1 (a := 0) (x := 0) rfl (by omega) hb hW
  rw [hF.last] at hl1
  simp only [Option.getD_some, Option.isSome_some] at hl1
  have hB := (Beside.of h).alloc (.cells #[.int .i64 0] 3)
  have ht := tooMany_c hB.h
  have hl := hl1 _ _ (Blk.new w 3 #[.int .i64 0]) hB.h
  clear hl1
  have HB := Lib.hid hB
  by_cases e1 : u.kept ≤ u.most
  · have hx1 : u.leaveOf one = u.fr 1 one := if_pos e1
    have hx2 : u.leaveOfK one = [] := if_pos e1
    rw [hs, hsk, hx1, hx2]
    have hc := hF.fit.in_ hF.fit.n (by omega) hF.mem
    have e2 : decide (u.most < u.kept) = false := decide_eq_false (by omega)
    rw [e2] at ht
    clear h hs hsk hx1 hx2 hB e1 e2 hF
    go_enter Tryz.func265, Tryz.ntmps265
    go_wp2_with fail
    refine hl.mono ?_
    rintro e w' ⟨rfl, rfl⟩
    go_wp2_with fail
    refine ht.mono ?_
    rintro e w1 ⟨rfl, hx⟩
    have hS1 := HB.out.s.trans hx.s
    obtain ⟨c0, c1, c2⟩ := hx.h.cells
    go_wp2_with fail
    refine (front_t (j := 1) (by omega) hol hc hx.h).mono ?_
    rintro e w2 ⟨rfl, m2, h2, hS2⟩
    go_wp2_with fail
    go_ret
    exact ⟨_, m2, rfl, h2, hS1.trans hS2, Tell.nil _ _ _ _⟩
  · have e2 : decide (u.most < u.kept) = true := decide_eq_true (by omega)
    rw [e2] at ht
    have hx1 : u.leaveOf one = match u.stays one with | none => u.dr one | some o => (u.dr o).fr 1 one := if_neg e1
    have hx2 : u.leaveOfK one = match u.stays one with | none => [one] | some o => [o] := if_neg e1
    rw [hs, hsk, hx1, hx2]
    have hl2 := fun (W : World) (g : Nat) (hb : Blk W g 3 #[.int .i64 1, .int .i64 2]) (hW : HeldT w0 A B P W m u) => last2 hb hW
    clear h hs hsk hx1 hx2 hB e1 e2
    cases e3 : u.first [1, 2] with
    | none =>
      have hst : u.stays one = none := by unfold Tv.stays; rw [e3]
      rw [e3] at hl2
      simp only [Option.getD_none, Option.isSome_none] at hl2
      rw [hst]
      simp only
      have hr := fun (W : World) (hW : HeldT w0 A B P W m u) => removeT_c (k := one) (by unfold maxLen; omega) hW
      clear hF hst e3
      go_enter Tryz.func265, Tryz.ntmps265
      go_wp2_with fail
      refine hl.mono ?_
      rintro e w' ⟨rfl, rfl⟩
      go_wp2_with fail
      refine ht.mono ?_
      rintro e w1 ⟨rfl, hx⟩
      have hS1 := HB.out.s.trans hx.s
      go_wp2_with fail
      refine (hl2 _ _ (Blk.new w1 3 _) (hx.h.alloc _)).mono ?_
      rintro e w' ⟨rfl, rfl⟩
      have hx3 := hx.alloc (.cells #[.int .i64 1, .int .i64 2] 3)
      go_wp2_with fail
      refine (hr _ hx3.h).mono ?_
      rintro e w2 ⟨rfl, m2, h2, hS2⟩
      have hS3 := (hS1.alloc (.cells #[.int .i64 1, .int .i64 2] 3)).trans hS2
      go_wp2_with fail
      go_ret
      exact ⟨_, m2, rfl, h2.alloc _, hS3.alloc _, Tell.lit h2 hS3.kp.size one⟩
    | some o =>
      obtain ⟨hol2, hne, i, hi, hmo⟩ := hF.stays_in e3
      rw [e3] at hl2
      simp only [Option.getD_some, Option.isSome_some] at hl2
      have hse1 := fun (W : World) (hW : HeldT w0 A B P W m u) => seenT_c (k := one) (by omega) hW
      have hse2 := fun (W : World) (hW : HeldT w0 A B P W m u) => seenT_c (k := o) (by omega) hW
      by_cases e4 : u.seen one ≤ u.seen o
      · have hst : u.stays one = none := by unfold Tv.stays; rw [e3]; exact if_pos e4
        have d4 : decide ((u.seen one : Int) ≤ (u.seen o : Int)) = true := decide_eq_true (by omega)
        rw [hst]
        simp only
        have hr := fun (W : World) (hW : HeldT w0 A B P W m u) => removeT_c (k := one) (by unfold maxLen; omega) hW
        clear hF hst e3 hmo
        go_enter Tryz.func265, Tryz.ntmps265
        go_wp2_with fail
        refine hl.mono ?_
        rintro e w' ⟨rfl, rfl⟩
        go_wp2_with fail
        refine ht.mono ?_
        rintro e w1 ⟨rfl, hx⟩
        have hS1 := HB.out.s.trans hx.s
        go_wp2_with fail
        refine (hl2 _ _ (Blk.new w1 3 _) (hx.h.alloc _)).mono ?_
        rintro e w' ⟨rfl, rfl⟩
        have hx3 := hx.alloc (.cells #[.int .i64 1, .int .i64 2] 3)
        go_wp2_with fail
        refine (hse1 _ hx3.h).mono ?_
        rintro e w' ⟨rfl, n1, rfl⟩
        have hx4 := hx3.drewN n1
        go_wp2_with fail
        refine (hse2 _ hx4.h).mono ?_
        rintro e w' ⟨rfl, n2, rfl⟩
        have hx5 := hx3.drewN (n1 + n2)
        go_wp2_with fail
        refine (hr _ hx5.h).mono ?_
        rintro e w2 ⟨rfl, m2, h2, hS2⟩
        have hS3 := (((hS1.alloc (.cells #[.int .i64 1, .int .i64 2] 3)).drewN (n1 + n2))).trans hS2
        go_wp2_with fail
        go_ret
        exact ⟨_, m2, rfl, h2.alloc _, hS3.alloc _, Tell.lit h2 hS3.kp.size one⟩
      · have hst : u.stays one = some o := by unfold Tv.stays; rw [e3]; exact if_neg e4
        have d4 : decide ((u.seen one : Int) ≤ (u.seen o : Int)) = false := decide_eq_false (by omega)
        rw [hst]
        simp only
        have hr := fun (W : World) (hW : HeldT w0 A B P W m u) => removeT_c (k := o) (by unfold maxLen; omega) hW
        have hc : (u.dr o).can one := (hF.fit.dr o).in_ (hF.fit.dr o).n (i := 0) (by omega) (Tv.mem_dr.2 ⟨hF.mem, fun e => hne e.symm⟩)
        clear hF hst e3 hmo
        go_enter Tryz.func265, Tryz.ntmps265
        go_wp2_with fail
        refine hl.mono ?_
        rintro e w' ⟨rfl, rfl⟩
        go_wp2_with fail
        refine ht.mono ?_
        rintro e w1 ⟨rfl, hx⟩
        have hS1 := HB.out.s.trans hx.s
        go_wp2_with fail
        refine (hl2 _ _ (Blk.new w1 3 _) (hx.h.alloc _)).mono ?_
        rintro e w' ⟨rfl, rfl⟩
        have hx3 := hx.alloc (.cells #[.int .i64 1, .int .i64 2] 3)
        go_wp2_with fail
        refine (hse1 _ hx3.h).mono ?_
        rintro e w' ⟨rfl, n1, rfl⟩
        have hx4 := hx3.drewN n1
        go_wp2_with fail
        refine (hse2 _ hx4.h).mono ?_
        rintro e w' ⟨rfl, n2, rfl⟩
        have hx5 := hx3.drewN (n1 + n2)
        go_wp2_with fail
        refine (hr _ hx5.h).mono ?_
        rintro e w2 ⟨rfl, m2, h2, hS2⟩
        have hS3 := (((hS1.alloc (.cells #[.int .i64 1, .int .i64 2] 3)).drewN (n1 + n2))).trans hS2
        obtain ⟨c0, c1, c2⟩ := h2.cells
        go_wp2_with fail
        refine (front_t (j := 1) (by omega) hol hc h2).mono ?_
        rintro e w3 ⟨rfl, m3, h3, hS4⟩
        have hS5 := hS3.trans hS4
        go_wp2_with fail
        go_ret
        exact ⟨_, m3, rfl, h3.alloc _, hS5.alloc _, Tell.lit h3 hS5.kp.size o⟩
end
end Go.Proofs.YtlnjnpchkdipdaaGreat.Tinyy
