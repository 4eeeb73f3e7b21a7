/- Contracts of the program's Insert. The only condition: a key is no longer than a text may be. How often a key was seen, exactly, while no other key shares a counter with it; what the laws of layer 8 begin with; no policy at all. No condition. -/
import Derived.Test.YtlnjnpchkdipdaaGreatTinyIns
import Derived.Test.YtlnjnpchkdipdaaGreatRingRoundAll
namespace Go.Proofs.YtlnjnpchkdipdaaGreat.Tinyy
open Go.ChangeShapes Go.WideShapes Go.ChangeAt Go.RowKit
open Wirey (Blk Row str str_size str_list Kp)
open Ringy
open Sketchy (Sk ksOf Six)

section
variable {w0 w w' w'' : World} {A B P : Nat} {m m' m'' : Rm} {v u : Tv} {k one : Key}
set_option maxHeartbeats 4000000 in
set_option maxRecDepth 100000 in
theorem insert_new (hk : k.length ≤ 64) (hno : v.has k = false) (hok : v.Ok) (h : HeldT w0 A B P w m v) :
    Calls Tryz.prog 257 #[.pointer (some ⟨A, 0, none⟩), .string (str k)] w fun e w' => ∃ val m', e = .returned val ∧ HeldT w0 A B P w' m' (v.fresh k) ∧ StepT B w m w' m' ∧ Tell w.heap.size B m' val (v.freshK k) w' := by
  have hm := made_c h
  have hsz := str_size k
  have hat : v.at_ k = none := by unfold Tv.has at hno; cases e : v.at_ k with | none => rfl | some i => rw [e] at hno; cases hno
  have hto : v.touch k = v := by unfold Tv.touch; rw [hat]
  have ht := touchT_c (k := k) (by unfold maxLen; omega) hok h
  rw [hno, hto] at ht
  have hn := fun (W : World) (m1 : Rm) (hW : HeldT w0 A B P W m1 v) => note_t (k := k) (by omega) hW
  have hf := fun (W : World) (m1 : Rm) (hW : HeldT w0 A B P W m1 (v.note k)) => front_t (j := 0) (by omega) hk ((hok.note k).fit.room (hok.note k).kept) hW
  obtain ⟨c0, c1, c2⟩ := h.cells
  have hmo : (v.came k).most = v.most := rfl
  have hm1 := hok.fit.m1
  have hm2 := hok.fit.m2
  have hkept : (v.came k).len 0 ≤ wMost v.most → (v.came k).kept ≤ v.most := fun hw => by
    have hI := Tv.ins_spec hok hk
    have h1 : v.ins k = v.came k := by unfold Tv.ins; rw [if_neg (by rw [hno]; decide)]; exact if_pos hw
    rw [h1] at hI
    exact hI.ok.kept
  have hF := fun hw => Tv.full_of hok hk hno hw
  have hq1 : (v.came k).len 0 ≤ wMost v.most → v.fresh k = v.came k ∧ v.freshK k = [] := fun hw => ⟨if_pos hw, if_pos hw⟩
  have hq2 : ¬ (v.came k).len 0 ≤ wMost v.most → v.fresh k = (v.came k).leave ∧ v.freshK k = (v.came k).leaveK := fun hw => ⟨if_neg hw, if_neg hw⟩
  have hc : v.came k = (v.note k).fr 0 k := rfl
  rw [← hc] at hf
  generalize v.fresh k = s at *
  generalize v.freshK k = sk at *
  generalize v.came k = u at *
  clear h hno hat hto hok hc
  go_enter Tryz.func257, Tryz.ntmps257
  go_wp2_with fail
  refine hm.mono ?_
  rintro e w' ⟨rfl, rfl⟩
  go_wp2_with fail
  refine ht.mono ?_
  rintro e w1 ⟨rfl, m1, h1, hS1⟩
  clear c0 c1 c2 hm ht
  obtain ⟨c0, c1, c2⟩ := h1.cells
  go_wp2_with fail
  refine (hn _ _ h1).mono ?_
  rintro e w2 ⟨rfl, h2, hS2⟩
  clear c0 c1 c2 hn
  obtain ⟨c0, c1, c2⟩ := h2.cells
  go_wp2_with fail
  refine (hf _ _ h2).mono ?_
  rintro e w3 ⟨rfl, m3, h3, hS3⟩
  clear c0 c1 c2 hf
  obtain ⟨c0, c1, c2⟩ := h3.cells
  rw [hmo] at c0
  have hS := (hS1.trans hS2).trans hS3
  have hB := Beside.of h3
  have hd := b1 hB.drew
  rw [hmo] at hd
  have hf0 := fun W => field0 (wMost v.most : Int) (sMost v.most : Int) W
  have hl0 := h3.fit.len_le (i := 0) (by omega)
  by_cases hw : u.len 0 ≤ wMost v.most
  · have d1 : decide ((wMost v.most : Int) < (u.len 0 : Int)) = false := decide_eq_false (by omega)
    have d3 : decide (wMost v.most < u.len 0) = false := decide_eq_false (by omega)
    have d4 : ¬ wMost v.most < u.len 0 := by omega
    have d2 : decide (u.most < u.kept) = false := decide_eq_false (by have := hkept hw; omega)
    have HQ := Lib.hid (hq1 hw)
    have htm := fun (W : World) (hW : HeldT w0 A B P W m3 u) => tooMany_c hW
    rw [d2] at htm
    clear hq1 hq2 hF hkept hw
    have HMO := Lib.hid hmo
    clear hmo
    go_wp2_with fail
    go_region_held3 (fun w' => w'.cell? ⟨A, 0, none⟩ = some (.int .i64 (v.most : Int)) ∧ w'.cell? ⟨A, 2, none⟩ = some (.pointer (some ⟨P, 0, none⟩)) ∧ Beside w0 A B P w3 m3 u w')
      (first | exact ⟨hd.1, hd.2.h.cells.2.2, hd.2⟩ | exact b3A HMO.out (by assumption) _ | exact b3D HMO.out (by assumption) | exact b3 HMO.out (by assumption) | exact b3 HMO.out (Beside.drewN hB _) | go_keep)
      (first | (go_at_call 249; refine (onto (s3 (by assumption)) (len_t (i := 0) (by omega) (s3 (by assumption)).h)).mono ?_; rintro e wv ⟨rfl, hbv⟩) | (go_at_call 263; refine (parts_c hm1 hm2 _).mono ?_; rintro e wv ⟨rfl, o, rfl⟩) | (go_at_call 264; refine (ontoB (s3 (by assumption)) (htm _ (s3 (by assumption)).h)).mono ?_; rintro e wv ⟨rfl, hbv⟩))
    have hS5 := hS.trans hbv.s
    go_wp2_with fail
    go_ret
    obtain ⟨q1, q2⟩ := HQ.out
    rw [q1, q2]
    exact ⟨_, m3, rfl, hbv.h, hS5, Tell.nil _ _ _ _⟩
  · have d1 : decide ((wMost v.most : Int) < (u.len 0 : Int)) = true := decide_eq_true (by omega)
    have d3 : decide (wMost v.most < u.len 0) = true := decide_eq_true (by omega)
    have d4 : wMost v.most < u.len 0 := by omega
    have HQ := Lib.hid (hq2 hw)
    obtain ⟨one, hF⟩ := hF hw
    clear hq1 hq2 hkept hw
    have HMO := Lib.hid hmo
    clear hmo
    go_wp2_with fail
    refine region_only 16 #[false, false, false, false, false, false, false, false, false, false, false, false, false, false, false, false] (S := (fun W => W.cell? ⟨A, 0, none⟩ = some (.int .i64 (v.most : Int)) ∧ W.cell? ⟨A, 2, none⟩ = some (.pointer (some ⟨P, 0, none⟩)) ∧ Beside w0 A B P w3 m3 u W)) rfl rfl (by kernel_rfl) (b3 HMO.out hB.drew) (fun hSw => ?_)
    refine take_at 0 30 (fuel := 15) ?_ rfl rfl (by kernel_rfl) (by kernel_rfl) (by kernel_rfl) (Or.inl ⟨by rfl, ?_⟩) hSw ?_
    rotate_left
    · intro wx hSx
      (try dsimp only at hSx)
      go_split_ands
      go_simp
      (try with_reducible rfl)
    simp only [List.setIfInBounds_toArray, List.set_cons_zero, List.set_cons_succ]
    refine take_at 1 31 (fuel := 14) ?_ rfl rfl (by kernel_rfl) (by kernel_rfl) (by kernel_rfl) (Or.inl ⟨by rfl, ?_⟩) hSw ?_
    rotate_left
    · intro wx hSx
      (try dsimp only at hSx)
      go_split_ands
      go_simp
      (try with_reducible rfl)
    simp only [List.setIfInBounds_toArray, List.set_cons_zero, List.set_cons_succ]
    refine take_at 2 32 (fuel := 13) ?_ rfl rfl (by kernel_rfl) (by kernel_rfl) (by kernel_rfl) (Or.inl ⟨by rfl, ?_⟩) hSw ?_
    rotate_left
    · intro wx hSx
      (try dsimp only at hSx)
      go_split_ands
      go_simp
      (try with_reducible rfl)
    simp only [List.setIfInBounds_toArray, List.set_cons_zero, List.set_cons_succ]
    refine take_at 3 33 (fuel := 12) ?_ rfl rfl (by kernel_rfl) (by kernel_rfl) (by kernel_rfl) (Or.inl ⟨by rfl, ?_⟩) hSw ?_
    rotate_left
    · intro wx hSx
      (try dsimp only at hSx)
      go_split_ands
      go_simp
      (try with_reducible rfl)
    simp only [List.setIfInBounds_toArray, List.set_cons_zero, List.set_cons_succ]
    refine take_at 5 35 (fuel := 11) ?_ rfl rfl (by kernel_rfl) (by kernel_rfl) (by kernel_rfl) (Or.inl ⟨by rfl, ?_⟩) hSw ?_
    rotate_left
    · intro wx hSx
      (try dsimp only at hSx)
      go_split_ands
      go_simp
      (try with_reducible rfl)
    simp only [List.setIfInBounds_toArray, List.set_cons_zero, List.set_cons_succ]
    refine take_at 6 36 (fuel := 10) ?_ rfl rfl (by kernel_rfl) (by kernel_rfl) (by kernel_rfl) (Or.inl ⟨by rfl, ?_⟩) hSw ?_
    rotate_left
    · intro wx hSx
      (try dsimp only at hSx)
      go_split_ands
      go_simp
      (try with_reducible rfl)
    simp only [List.setIfInBounds_toArray, List.set_cons_zero, List.set_cons_succ]
    refine take_at 7 37 (fuel := 9) ?_ rfl rfl (by kernel_rfl) (by kernel_rfl) (by kernel_rfl) (Or.inl ⟨by rfl, ?_⟩) hSw ?_
    rotate_left
    · intro wx hSx
      (try dsimp only at hSx)
      go_split_ands
      go_simp
      (try with_reducible rfl)
    simp only [List.setIfInBounds_toArray, List.set_cons_zero, List.set_cons_succ]
    refine take_at 8 38 (fuel := 8) ?_ rfl rfl (by kernel_rfl) (by kernel_rfl) (by kernel_rfl) (Or.inl ⟨by rfl, ?_⟩) hSw ?_
    rotate_left
    · intro wx hSx
      (try dsimp only at hSx)
      go_split_ands
      go_simp
      (try with_reducible rfl)
    simp only [List.setIfInBounds_toArray, List.set_cons_zero, List.set_cons_succ]
    refine wpAnyH_ready (fuel := 7) (rs := [4]) (by kernel_rfl) (by simp) (AllReadyH.cons rfl (fun K hK => ?_) AllReadyH.nil)
    go_simp
    refine Calls.mono (onto (s3 hSw) (len_t (i := 0) (by omega) (s3 hSw).h)) ?_
    rintro e wv ⟨rfl, hbv⟩
    refine hK.out _ _ (b3 HMO.out hbv) (fun hSw => ?_)
    clear hK K
    simp only [List.setIfInBounds_toArray, List.set_cons_zero, List.set_cons_succ]
    refine wpAnyH_ready (fuel := 6) (rs := [9]) (by kernel_rfl) (by simp) (AllReadyH.cons rfl (fun K hK => ?_) AllReadyH.nil)
    go_simp
    refine Calls.mono (parts_c hm1 hm2 _) ?_
    rintro e wv ⟨rfl, o, rfl⟩
    refine hK.out _ _ (b3A HMO.out hSw o) (fun hSw => ?_)
    clear hK K
    simp only [List.setIfInBounds_toArray, List.set_cons_zero, List.set_cons_succ]
    refine take_at 10 40 (fuel := 5) ?_ rfl rfl (by kernel_rfl) (by kernel_rfl) (by kernel_rfl) (Or.inl ⟨by rfl, ?_⟩) hSw ?_
    rotate_left
    · intro wx hSx
      (try dsimp only at hSx)
      go_split_ands
      go_simp
      (try with_reducible rfl)
    simp only [List.setIfInBounds_toArray, List.set_cons_zero, List.set_cons_succ]
    refine take_at 11 41 (fuel := 4) ?_ rfl rfl (by kernel_rfl) (by kernel_rfl) (by kernel_rfl) (Or.inl ⟨by rfl, ?_⟩) hSw ?_
    rotate_left
    · intro wx hSx
      (try dsimp only at hSx)
      go_split_ands
      go_simp
      (try with_reducible rfl)
    simp only [List.setIfInBounds_toArray, List.set_cons_zero, List.set_cons_succ]
    refine take_at 12 42 (fuel := 3) ?_ rfl rfl (by kernel_rfl) (by kernel_rfl) (by kernel_rfl) (Or.inl ⟨by rfl, ?_⟩) hSw ?_
    rotate_left
    · intro wx hSx
      (try dsimp only at hSx)
      go_split_ands
      go_simp
      (try with_reducible rfl)
    simp only [List.setIfInBounds_toArray, List.set_cons_zero, List.set_cons_succ]
    refine take_at 13 43 undef (fuel := 2) rfl rfl (by kernel_rfl) (by kernel_rfl) (by kernel_rfl) (Or.inr ⟨by rfl, rfl⟩) hSw ?_
    simp only [List.setIfInBounds_toArray, List.set_cons_zero, List.set_cons_succ]
    refine take_at 14 44 undef (fuel := 1) rfl rfl (by kernel_rfl) (by kernel_rfl) (by kernel_rfl) (Or.inr ⟨by rfl, rfl⟩) hSw ?_
    simp only [List.setIfInBounds_toArray, List.set_cons_zero, List.set_cons_succ]
    refine take_at 15 45 (fuel := 0) ?_ rfl rfl (by kernel_rfl) (by kernel_rfl) (by kernel_rfl) (Or.inl ⟨by rfl, ?_⟩) hSw ?_
    rotate_left
    · intro wx hSx
      (try dsimp only at hSx)
      go_split_ands
      go_simp
      (try with_reducible rfl)
    simp only [List.setIfInBounds_toArray, List.set_cons_zero, List.set_cons_succ]
    refine wpAnyH_done (by kernel_rfl) ⟨rfl, ?_⟩ 0
    have hx := s3 hSw
    have hS5 := hS.trans hx.s
    clear hSw c0 c1 c2 hd
    go_wp2_with fail
    refine (leave_c hF hx.h).mono ?_
    rintro e w5 ⟨val, m5, rfl, h5, hS6, hT⟩
    go_wp2_with fail
    go_ret
    obtain ⟨q1, q2⟩ := HQ.out
    rw [q1, q2]
    exact ⟨_, m5, rfl, h5, hS5.trans hS6, hT.low hS5.kp.size⟩
theorem insertT_c (hk : k.length ≤ maxLen) (hok : v.Ok) (h : HeldT w0 A B P w m v) :
    Calls Tryz.prog 257 #[.pointer (some ⟨A, 0, none⟩), .string (str k)] w fun e w' => ∃ val m', e = .returned val ∧ HeldT w0 A B P w' m' (v.insert k) ∧ StepT B w m w' m' ∧ Tell w.heap.size B m' val (v.insertK k) w' := by
  unfold Tv.insert Tv.insertK
  by_cases hl : 64 < k.length
  · rw [if_pos hl, if_pos hl]
    have hm := made_c h
    have HH := Lib.hid h
    have hsz := str_size k
    clear h
    unfold maxLen at hk
    go_enter Tryz.func257, Tryz.ntmps257
    go_wp2_with fail
    refine hm.mono ?_
    rintro e w' ⟨rfl, rfl⟩
    go_wp2_with fail
    go_ret
    exact ⟨_, rfl, m, HH.out, StepT.refl _ _ _, Tell.nil _ _ _ _⟩
  · rw [if_neg hl, if_neg hl]
    unfold Tv.ins Tv.insK
    by_cases hh : v.has k = true
    · rw [if_pos hh, if_pos hh]
      have hm := made_c h
      have hsz := str_size k
      have ht := touchT_c hk hok h
      rw [hh] at ht
      clear h hh hok
      generalize v.touch k = s at *
      go_enter Tryz.func257, Tryz.ntmps257
      go_wp2_with fail
      refine hm.mono ?_
      rintro e w' ⟨rfl, rfl⟩
      go_wp2_with fail
      refine ht.mono ?_
      rintro e w2 ⟨rfl, m2, h2, hS2⟩
      go_wp2_with fail
      go_ret
      exact ⟨_, m2, rfl, h2, hS2, Tell.nil _ _ _ _⟩
    · rw [if_neg hh, if_neg hh]
      rw [Bool.not_eq_true] at hh
      exact insert_new (by omega) hh hok h
end

/-! What makes one -/
theorem Held.low {w0 w1 w : World} {P : Nat} {m : Rm} {r : Rg} (h : Held w1 P w m r) (hb : Below w0.heap.size w0 w1) : Held w0 P w m r :=
  ⟨h.R, h.at_, hb.trans (h.below.mono hb.size), fun b ho => Nat.le_trans hb.size (h.own b ho)⟩
set_option maxHeartbeats 1000000 in
theorem newT_c {n seed : Nat} (h1 : 1 ≤ n) (h2 : n ≤ 1000) (h3 : seed < 18446744073709551616) (w : World) :
    Calls Tryz.prog 49 #[.int .i64 (n : Int), .int .u64 (seed : Int)] w fun e w' => ∃ A m, e = .returned (.tuple #[.pointer (some ⟨A, 0, none⟩), .int .i64 0]) ∧ HeldT w A w.heap.size (w.heap.size + 8) w' m (Tv.new n seed) := by
  have hmk := fun W => mayKeep_yes h1 h2 W
  have hwd := wideOf_le h1
  have hwi : ∀ W, Calls Tryz.prog 82 #[.int .i64 (n : Int)] W fun e w' => e = .returned (.int .i64 (wideOf n : Int)) ∧ W = w' := fun W => by
    have hw : wideOf n = min (8 * n) 4096 := rfl
    have HW := Lib.hid hw
    clear hw hwd
    generalize wideOf n = z at *
    go_enter Tryz.func82, Tryz.ntmps82
    go_wp2_with fail
    all_goals
      go_ret
      refine ⟨congrArg Ending.returned (congrArg (Value.int .i64) ?_), rfl⟩
      have := HW.out
      omega
  have hpl : ∀ W, Calls Tryz.prog 83 #[.int .i64 (n : Int)] W fun e w' => e = .returned (.int .i64 ((n + 1 : Nat) : Int)) ∧ W = w' := fun W => by
    go_enter Tryz.func83, Tryz.ntmps83
    go_wp2_with fail
    go_ret
    exact ⟨by simp, rfl⟩
  have hs := Sketchy.new_c (n := wideOf n) (seed := seed) hwd.1 hwd.2 w
  have hN := fun W => new_h (n := 3) (places := n + 1) (by omega) (by omega) (by omega) W
  have hok := Tv.new_ok h1 h2 h3
  go_enter Tryz.func49, Tryz.ntmps49
  go_wp2_with fail
  refine (hmk _).mono ?_
  rintro e w' ⟨rfl, rfl⟩
  go_wp2_with fail
  refine (hwi _).mono ?_
  rintro e w' ⟨rfl, rfl⟩
  go_wp2_with fail
  refine hs.mono ?_
  rintro e w1 ⟨rfl, hA, hb1, hz1⟩
  go_wp2_with fail
  refine (hpl _).mono ?_
  rintro e w' ⟨rfl, rfl⟩
  go_wp2_with fail
  refine (hN _).mono ?_
  rintro e w2 ⟨rfl, m, hH⟩
  go_wp2_with fail
  go_ret2
  have hz2 := hH.below.size
  have hH1 := Held.low hH hb1
  have e8 : w1.heap.size + 2 = w.heap.size + 8 := by omega
  rw [e8] at hH1
  have hH2 := hH1.alloc (.cells #[.int .i64 (n : Int), .pointer (some ⟨w.heap.size + 1, 0, none⟩), .pointer (some ⟨w.heap.size + 6 + 2, 0, none⟩)] 169)
  have hlt := hH.lt
  have hown := hH.own
  refine ⟨w2.heap.size, m, rfl, hH2, (at_six hA (fun b hb => hH.below.block b (by have := hb.2; omega))).alloc _, Blk.new w2 _ _, by omega, Nat.le_refl _, fun ho => by have := hlt _ ho; omega, fun b hb => ⟨by have := hb.2; omega, fun ho => by have := hown b ho; have := hb.2; omega⟩, hok.fit⟩
end Go.Proofs.YtlnjnpchkdipdaaGreat.Tinyy
namespace Go.Proofs.YtlnjnpchkdipdaaGreat.Tinyy
open Go.ChangeShapes Go.WideShapes Go.ChangeAt Go.RowKit
open Wirey (Blk Row str str_size str_list str_take Kp)
open Ringy
open Sketchy (Sk ksOf ksOf_lt Six upRow)

/-! A key by itself -/
/-- All that a sketch has of a key is that it was added m times. -/
structure Exact (s : Sk) (ks : Nat → Nat) (m : Nat) : Prop where
  bit : s.bit ks = decide (0 < m)
  cnt : ∀ i, i < 4 → s.cnt ks i = m - 1
theorem lst_of {s : Sk} {ks : Nat → Nat} {m : Nat} (hm : m ≤ 15) : ∀ j, 1 ≤ j → (∀ i, i < j → s.cnt ks i = m) → s.lst ks j = m
  | 1, _, h => by
    show min 15 (s.cnt ks 0) = m
    rw [h 0 (by omega)]; omega
  | j + 2, _, h => by
    show min (s.lst ks (j + 1)) (s.cnt ks (j + 1)) = m
    rw [lst_of hm (j + 1) (by omega) (fun i hi => h i (by omega)), h (j + 1) (by omega)]; omega
section
variable {s : Sk} {ks ks' : Nat → Nat} {m : Nat}
theorem Exact.lst (h : Exact s ks m) (hm : m ≤ 16) : s.lst ks 4 = m - 1 := lst_of (by omega) 4 (by omega) h.cnt
theorem Exact.seen (h : Exact s ks m) (hm : m ≤ 16) : s.seen ks = m := by
  unfold Sk.seen
  rw [h.lst hm, h.bit]
  by_cases e : 0 < m
  · rw [decide_eq_true e, if_pos rfl]; omega
  · rw [decide_eq_false e, if_neg (by decide)]; omega
end
/-- A small sketch that has not aged yet. -/
structure Young (v : Tv) (seed n : Nat) : Prop where
  ok : v.Ok
  wide : v.sk.wide = 16
  seed : v.sk.seed = seed
  added : v.sk.added = n
def kAt (seed : Nat) (k : Key) : Nat → Nat := ksOf (Mixy.text seed k) 16
section
variable {v : Tv} {seed n : Nat} {k x : Key} {m : Nat}
theorem Young.ks (h : Young v seed n) (k : Key) : v.ks k = kAt seed k := by unfold Tv.ks kAt; rw [h.wide, h.seed]
theorem Young.add (h : Young v seed n) (hn : n < 159) (k : Key) : (v.note k).sk = (v.sk.note (kAt seed k)).count := by
  show v.sk.add (v.ks k) = _
  rw [h.ks]
  unfold Sk.add
  rw [if_neg (by rw [h.wide, h.added]; omega)]
theorem Young.note (h : Young v seed n) (hn : n < 159) (k : Key) : Young (v.note k) seed (n + 1) := by
  refine ⟨h.ok.note k, Tv.note_wide.trans h.wide, Tv.note_seed.trans h.seed, ?_⟩
  rw [h.add hn]
  show (v.sk.note (kAt seed k)).added + 1 = n + 1
  rw [Sketchy.Sk.note_fix.2.1, h.added]
theorem Young.seen (h : Young v seed n) (he : Exact v.sk (kAt seed k) m) (hm : m ≤ 16) : v.seen k = m := by
  unfold Tv.seen
  rw [h.ks]
  exact he.seen hm
end
/-- The three lists. -/
structure Lie (v : Tv) (a b c : List Key) : Prop where
  most : v.most = 2
  n : v.rg.n = 3
  l0 : v.rg.l 0 = a
  l1 : v.rg.l 1 = b
  l2 : v.rg.l 2 = c
section
variable {v : Tv} {a b c : List Key} {k : Key}
theorem Lie.note (h : Lie v a b c) (k : Key) : Lie (v.note k) a b c := ⟨h.most, h.n, h.l0, h.l1, h.l2⟩
theorem Lie.dr (h : Lie v a b c) (k : Key) : Lie (v.dr k) (strike k a) (strike k b) (strike k c) := ⟨h.most, h.n, by rw [← h.l0]; rfl, by rw [← h.l1]; rfl, by rw [← h.l2]; rfl⟩
theorem Lie.at_ (h : Lie v a b c) (k : Key) : v.at_ k = if k ∈ a then some 0 else if k ∈ b then some 1 else if k ∈ c then some 2 else none := by unfold Tv.at_; rw [h.l0, h.l1, h.l2]
theorem Lie.len (h : Lie v a b c) : v.len 0 = a.length ∧ v.kept = a.length + b.length + c.length := by unfold Tv.kept Tv.len; rw [h.l0, h.l1, h.l2]; exact ⟨rfl, rfl⟩
end
theorem Young.of {v v' : Tv} {seed n : Nat} (h : Young v seed n) (hs : v'.sk = v.sk) (hok : v'.Ok) : Young v' seed n := ⟨hok, by rw [hs]; exact h.wide, by rw [hs]; exact h.seed, by rw [hs]; exact h.added⟩

/-! What the laws begin with -/
section
variable {w : World} {base B : Nat} {m : Rm} {val : Value} {k : Key} {l : List Key}
theorem Tell.form (h : Tell base B m val l w) : ∃ a c, val = .slice a l.length c := own_form h.row
theorem Tell.first (h : Tell base B m val (k :: l) w) : ∃ g c, val = .slice (some ⟨g, 0, none⟩) (l.length + 1) c ∧ w.cell? ⟨g, 0, none⟩ = some (.string (str k)) := by
  have hr := h.row
  obtain ⟨g, c, hv, -, -⟩ := hr.form (by simp)
  refine ⟨g, c, hv, ?_⟩
  rw [hv] at hr
  rw [hr.cellAt 0 (by simp)]
  rfl
end
end Go.Proofs.YtlnjnpchkdipdaaGreat.Tinyy
