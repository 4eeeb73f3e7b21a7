/- Seen's contract. An addition's contract. -/
import Derived.Test.YtlnjnpchkdipdaaGreatSketchOpsAll
import Derived.Test.YtlnjnpchkdipdaaGreatSketchGrow
namespace Go.Proofs.YtlnjnpchkdipdaaGreat.Sketchy
open Go.ChangeShapes Go.WideShapes Go.ChangeAt Go.RowKit
open Wirey (Blk Row str str_size str_list Kp)

set_option maxHeartbeats 1000000 in
theorem seen_c {B : Nat} {s : Sk} (l : List UInt8) (hl : l.length ≤ 1099511627776) (w : World) (hA : At w B s) (hf : s.Pre) :
    Calls Tryz.prog 270 #[.pointer (some ⟨B + 1, 0, none⟩), .string (str l)] w fun e w' => e = .returned (.int .i64 (s.seen (ksOf (Mixy.text s.seed l) s.wide) : Int)) ∧ ∃ m, w' = w.drewN m := by
  obtain ⟨c0, c1, c6⟩ := hA.cells
  obtain ⟨h, hh⟩ : ∃ h, h = Mixy.text s.seed l := ⟨_, rfl⟩
  have hof := fun W : World => Mixy.of_c s.seed hf.seed (str l) (by rw [str_size]; unfold maxLen; omega) W
  simp only [str_list] at hof
  rw [← hh] at hof ⊢
  clear hh
  have w1 := hf.w1
  have hlst := Sk.lst_le (s := s) (ks := ksOf h s.wide) 4
  have hbit := hA.bitP hf (ks := ksOf h s.wide) (ksOf_lt hf.w1 4)
  have hw0 : ((s.wide : Int) == 0) = false := by rw [beq_eq_false_iff_ne]; omega
  go_enter Tryz.func270, Tryz.ntmps270
  go_wp2_with fail
  refine (wide_c w hA).mono ?_
  rintro e w' ⟨rfl, rfl⟩
  go_wp2_with fail
  refine (hof _).mono ?_
  rintro e w' ⟨rfl, rfl⟩
  go_wp2_with fail
  refine (least_c h _ hA hf).mono ?_
  rintro e w' ⟨rfl, m, rfl⟩
  go_wp2_with fail
  refine (door_c h _ (hA.drewN m) hf).mono ?_
  rintro e w' ⟨rfl, m2, rfl⟩
  have hs0 : s.bit (ksOf h s.wide) = false → s.seen (ksOf h s.wide) = s.lst (ksOf h s.wide) 4 := fun hb => by rw [Sk.seen, hb]; rfl
  have hs1 : s.bit (ksOf h s.wide) = true → s.seen (ksOf h s.wide) = s.lst (ksOf h s.wide) 4 + 1 := fun hb => by rw [Sk.seen, hb]; rfl
  rcases Bool.eq_false_or_eq_true (s.bit (ksOf h s.wide)) with hb | hb
  · have HS := Lib.hid (hs1 hb)
    rw [hb] at hbit
    clear hs0 hs1 hb
    go_wp2_with fail
    go_ret
    exact ⟨by rw [HS.out]; rfl, m + m2, rfl⟩
  · have HS := Lib.hid (hs0 hb)
    rw [hb] at hbit
    clear hs0 hs1 hb
    go_wp2_with fail
    go_ret
    exact ⟨by rw [HS.out]; rfl, m + m2, rfl⟩
end Go.Proofs.YtlnjnpchkdipdaaGreat.Sketchy
namespace Go.Proofs.YtlnjnpchkdipdaaGreat.Sketchy
open Go.ChangeShapes Go.WideShapes Go.ChangeAt Go.RowKit
open Wirey (Blk Row str str_size str_list Kp)

theorem At.count {w : World} {B : Nat} {s : Sk} (h : At w B s) : At (w.setCell ⟨B + 1, 1, none⟩ (.int .i64 ((s.added + 1 : Nat) : Int))) B s.count :=
  ⟨h.hd.put 1 _, h.door.far (by show B ≠ B + 1; omega) _, fun i hi => (h.row i hi).far (by show B + 2 + i ≠ B + 1; omega) _⟩
theorem At.mark {w : World} {B : Nat} {s : Sk} {ks : Nat → Nat} (h : At w B s) : At (w.setCell ⟨B, ks 4, none⟩ (.bool true)) B (s.mark ks) := by
  refine ⟨h.hd.far (by show B + 1 ≠ B; omega) _, ?_, fun i hi => (h.row i hi).far (by show B + 2 + i ≠ B; omega) _⟩
  have := h.door.put (ks 4) (.bool true)
  rw [boolsV_put] at this
  exact this
theorem full_q {n : Nat} (hn : n ≤ 4096) (w : World) :
    Calls Tryz.prog 191 #[.int .i64 (n : Int)] w fun e w' => e = .returned (.int .i64 ((10 * n : Nat) : Int)) ∧ w' = w :=
  (full_c hn w).mono fun _ _ ⟨a, b⟩ => ⟨a, b.symm⟩
set_option maxHeartbeats 4000000 in
set_option maxRecDepth 100000 in
theorem add_c {B : Nat} {s : Sk} (l : List UInt8) (hl : l.length ≤ 1099511627776) (w : World) (hA : At w B s) (hf : s.Wf) :
    Calls Tryz.prog 179 #[.pointer (some ⟨B + 1, 0, none⟩), .string (str l)] w fun e w' => e = .returned (.tuple #[]) ∧ At w' B (s.add (ksOf (Mixy.text s.seed l) s.wide)) ∧ Kp (Six B) w w' := by
  obtain ⟨c0, c1, c6⟩ := hA.cells
  obtain ⟨h, hh⟩ : ∃ h, h = Mixy.text s.seed l := ⟨_, rfl⟩
  have hof := fun W : World => Mixy.of_c s.seed hf.seed (str l) (by rw [str_size]; unfold maxLen; omega) W
  simp only [str_list] at hof
  rw [← hh] at hof ⊢
  clear hh
  have w1 := hf.w1
  have w2 := hf.w2
  have hadd := hf.added
  have hw0 : ((s.wide : Int) == 0) = false := by rw [beq_eq_false_iff_ne]; omega
  have hdc := fun m => door_c h (w.drewN m) (hA.drewN m) hf.pre
  have hgc := fun m => grow_c h (w.drewN m) (hA.drewN m) hf.pre
  obtain ⟨ks, hks⟩ : ∃ ks, ks = ksOf h s.wide := ⟨_, rfl⟩
  have hbit := hA.bitP hf.pre (ks := ksOf h s.wide) (ksOf_lt hf.w1 4)
  have hfree := hA.door.free (ksOf h s.wide 4)
  rw [← hks] at hbit hdc hgc hfree
  have HKS := Lib.hid hks
  clear hks
  have hfix := Sk.note_fix (s := s) (ks := ks)
  have hcnt := hf.count (ks := ks)
  have hfin : ∀ v, At v B ((s.note ks).count) → Kp (Six B) w v → s.added + 1 < 10 * s.wide → At v B (s.add ks) ∧ Kp (Six B) w v := fun v h1 h2 h3 => ⟨by rw [Sk.add, if_neg (by omega)]; exact h1, h2⟩
  have hold : ∀ v, At v B ((s.note ks).count.age) → Kp (Six B) w v → ¬ s.added + 1 < 10 * s.wide → At v B (s.add ks) ∧ Kp (Six B) w v := fun v h1 h2 h3 => ⟨by rw [Sk.add, if_pos (by omega)]; exact h1, h2⟩
  go_enter Tryz.func179, Tryz.ntmps179
  go_wp2_with fail
  refine (wide_c w hA).mono ?_
  rintro e w' ⟨rfl, rfl⟩
  go_wp2_with fail
  refine (hof _).mono ?_
  rintro e w' ⟨rfl, rfl⟩
  go_wp2_with fail
  refine (hdc 0).mono ?_
  rintro e w' ⟨rfl, m, rfl⟩
  rcases Bool.eq_false_or_eq_true (s.bit ks) with hb | hb
  · rw [hb] at hbit
    go_wp2_with fail
    refine (hgc m).mono ?_
    rintro e v ⟨rfl, hN, hKN⟩
    replace hKN := (Kp.drewN' (Kp.refl (Six B) w) m).trans hKN
    have hAN : At v B (s.note ks) := by rw [Sk.note, if_pos hb]; exact hN
    obtain ⟨-, a1, -⟩ := hAN.cells
    have fz := hAN.hd.free 1
    rw [hfix.2.1] at a1
    have hC := hAN.count
    have hKC := hKN.set (p := ⟨B + 1, 1, none⟩) (by show B ≤ B + 1 ∧ B + 1 ≤ B + 5; omega) (.int .i64 ((s.added + 1 : Nat) : Int))
    rw [hfix.2.1] at hC
    have hwd : (s.note ks).count.wide = s.wide := hfix.1
    have had : (s.note ks).count.added = s.added + 1 := by show (s.note ks).added + 1 = _; rw [hfix.2.1]
    clear hN hAN hfix
    have hq : ((s.added + 1 : Nat) : Int) = (s.added : Int) + 1 := by omega
    rw [hq] at hC hKC
    have hwq := fun W (hW : At W B ((s.note ks).count)) => wide_q W hW
    rw [hwd] at hwq
    obtain ⟨-, b1, -⟩ := hC.cells
    rw [had, hq] at b1
    clear hq hwd had
    have hfq := fun W => full_q w2 W
    go_wp2_with fail
    generalize hu : v.setCell ⟨B + 1, 1, none⟩ (.int .i64 ((s.added : Int) + 1)) = u at hC hKC b1 ⊢
    clear hu
    go_quiet (first | (go_at_call 187; exact Calls.quiet_of_same (hwq _ (At.drewN hC _))) | (go_at_call 191; exact Calls.quiet_of_same (hfq _)))
    by_cases hlt : s.added + 1 < 10 * s.wide
    · have hlt2 : (s.added : Int) + 1 < ((10 * s.wide : Nat) : Int) := by omega
      go_wp2_with fail
      go_end0
      exact ⟨rfl, HKS.out ▸ hfin _ (hC.drewN _) (Kp.drewN' hKC _) hlt⟩
    · have hlt2 : ¬ (s.added : Int) + 1 < ((10 * s.wide : Nat) : Int) := by omega
      go_wp2_with fail
      refine (age_c _ (hC.drewN _) hcnt).mono ?_
      rintro e w' ⟨rfl, hG, hKG⟩
      go_wp2_with fail
      go_end0
      exact ⟨rfl, HKS.out ▸ hold _ hG ((Kp.drewN' hKC _).trans hKG) hlt⟩
  · rw [hb] at hbit
    have hN := hA.mark (ks := ks)
    have hKN := (Kp.refl (Six B) w).set (p := ⟨B, ks 4, none⟩) (by show B ≤ B ∧ B ≤ B + 5; omega) (.bool true)
    have hN' := hN.drewN m
    have hKN' := Kp.drewN' hKN m
    replace hN := hN'
    replace hKN := hKN'
    clear hN' hKN'
    generalize hv : (w.setCell ⟨B, ks 4, none⟩ (.bool true)).drewN m = v at hN hKN
    have hv2 : (w.drewN m).setCell ⟨B, ks 4, none⟩ (.bool true) = v := hv
    clear hv
    have HV := Lib.hid hv2
    clear hv2
    have hAN : At v B (s.note ks) := by rw [Sk.note, if_neg (by rw [hb]; decide)]; exact hN
    obtain ⟨-, a1, -⟩ := hAN.cells
    have fz := hAN.hd.free 1
    rw [hfix.2.1] at a1
    have hC := hAN.count
    have hKC := hKN.set (p := ⟨B + 1, 1, none⟩) (by show B ≤ B + 1 ∧ B + 1 ≤ B + 5; omega) (.int .i64 ((s.added + 1 : Nat) : Int))
    rw [hfix.2.1] at hC
    have hwd : (s.note ks).count.wide = s.wide := hfix.1
    have had : (s.note ks).count.added = s.added + 1 := by show (s.note ks).added + 1 = _; rw [hfix.2.1]
    clear hN hAN hfix
    have hq : ((s.added + 1 : Nat) : Int) = (s.added : Int) + 1 := by omega
    rw [hq] at hC hKC
    have hwq := fun W (hW : At W B ((s.note ks).count)) => wide_q W hW
    rw [hwd] at hwq
    obtain ⟨-, b1, -⟩ := hC.cells
    rw [had, hq] at b1
    clear hq hwd had
    have hfq := fun W => full_q w2 W
    go_upto_region 6 with (fail)
    rw [HV.out]
    go_wp2_with fail
    generalize hu : v.setCell ⟨B + 1, 1, none⟩ (.int .i64 ((s.added : Int) + 1)) = u at hC hKC b1 ⊢
    clear hu
    go_quiet (first | (go_at_call 187; exact Calls.quiet_of_same (hwq _ (At.drewN hC _))) | (go_at_call 191; exact Calls.quiet_of_same (hfq _)))
    by_cases hlt : s.added + 1 < 10 * s.wide
    · have hlt2 : (s.added : Int) + 1 < ((10 * s.wide : Nat) : Int) := by omega
      go_wp2_with fail
      go_end0
      exact ⟨rfl, HKS.out ▸ hfin _ (hC.drewN _) (Kp.drewN' hKC _) hlt⟩
    · have hlt2 : ¬ (s.added : Int) + 1 < ((10 * s.wide : Nat) : Int) := by omega
      go_wp2_with fail
      refine (age_c _ (hC.drewN _) hcnt).mono ?_
      rintro e w' ⟨rfl, hG, hKG⟩
      go_wp2_with fail
      go_end0
      exact ⟨rfl, HKS.out ▸ hold _ hG ((Kp.drewN' hKC _).trans hKG) hlt⟩
end Go.Proofs.YtlnjnpchkdipdaaGreat.Sketchy
