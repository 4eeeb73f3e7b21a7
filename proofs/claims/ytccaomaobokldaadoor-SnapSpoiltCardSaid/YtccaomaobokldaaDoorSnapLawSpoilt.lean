/- Layer 14 (snap): for every input the call returns true and leaves what it was given as it was: a piece of which a byte is another one is not taken, nor one of other bytes; so that what is put together is what was cut, unless two of one sum are in hand (SnapSpoilt). Condition: the variables first, orders and columns of layer 4 hold what the program's text lays (the card ties it). -/
import Derived.Test.YtccaomaobokldaaDoorSnapAwake
import Derived.Test.YtccaomaobokldaaDoorSnapOpen
import Derived.Test.YtccaomaobokldaaDoorSnapOtherMath
import Derived.Test.YtccaomaobokldaaDoorBlakeLaid
namespace Go.Proofs.YtccaomaobokldaaDoor.Snapy
open Go.ChangeShapes Go.WideShapes Go.ChangeAt Go.RowKit Go.ChangeMaps
open Wirey Slsy Regy

theorem textL_ab (m : Nat) : textL m [97, 98] = Simdy.tx m := by
  unfold textL Simdy.tx
  apply List.map_congr_left
  intro i _
  have e : tb [97, 98] i = Simdy.bt i := by
    unfold tb Simdy.bt
    rw [if_pos (by decide)]
    show i / 7 % 256 ^^^ (([97, 98] : Bs).getD (i % 2) 0).toNat = _
    rcases (by omega : i % 2 = 0 ∨ i % 2 = 1) with h | h <;> rw [h] <;> rfl
  rw [e]
theorem mayB_data {W d d' x : Bs} {k n N : Nat} (h : d.length = d'.length) (hd : mayB W N ⟨(k : Int), (n : Int), d, x, W⟩ = true) : mayB W N ⟨(k : Int), (n : Int), d', x, W⟩ = true := by
  unfold mayB at hd ⊢
  rw [← h]; exact hd
theorem far5 {v : World} {y x : Nat} {t : TypeId} {cs : Array Value} (h : Blk v y t cs) (hne : y ≠ x) (i0 i1 i2 i3 i4 : Nat) (u0 u1 u2 u3 u4 : Value) :
    Blk (((((v.setCell ⟨x, i0, none⟩ u0).setCell ⟨x, i1, none⟩ u1).setCell ⟨x, i2, none⟩ u2).setCell ⟨x, i3, none⟩ u3).setCell ⟨x, i4, none⟩ u4) y t cs :=
  ((((h.far hne u0).far hne u1).far hne u2).far hne u3).far hne u4
theorem own5 {v : World} {x : Nat} {t : TypeId} {a0 a1 a2 a3 a4 : Value} (h : Blk v x t #[a0, a1, a2, a3, a4]) (u0 u1 u2 u3 u4 : Value) :
    Blk (((((v.setCell ⟨x, 0, none⟩ u0).setCell ⟨x, 1, none⟩ u1).setCell ⟨x, 2, none⟩ u2).setCell ⟨x, 3, none⟩ u3).setCell ⟨x, 4, none⟩ u4) x t #[u0, u1, u2, u3, u4] :=
  ((((h.put 0 u0).put 1 u1).put 2 u2).put 3 u3).put 4 u4
set_option maxHeartbeats 8000000 in
set_option maxRecDepth 100000 in
theorem snapSpoilt_walk (n : Int) (_hn : (Lit.int .i64 n).wf = true) (a : Int) (_ha : (Lit.int .i64 a).wf = true) (z : Int) (_hzw : (Lit.int .i64 z).wf = true) (w : World) (hG : Glob w) :
    Calls Tryd.prog 4 #[.int .i64 n, .int .i64 a, .int .i64 z] w fun e w' => e = .returned (.bool true) ∧ Below w.heap.size w w' := by
  obtain ⟨n1, hn1⟩ : ∃ n1, IntKind.i64.wrap (1 + n) = n1 := ⟨_, rfl⟩
  obtain ⟨m, hm, hmb⟩ := Bity.i64_cut 8191 13 rfl (by omega) n1
  have hT0 := text_c n1 m hmb (by omega) [97, 98] (by decide) w
  obtain ⟨t, ht⟩ : ∃ t, t = textL m [97, 98] := ⟨_, rfl⟩
  rw [← ht] at hT0
  have hT : Calls Tryd.prog 7 #[.int .i64 n1, .string ⟨#[97, 98]⟩] w fun e w' => e = .returned (.string (str t)) ∧ Below w.heap.size w w' := hT0
  have hl : t.length ≤ 8191 := by rw [ht, textL_len]; omega
  have HNO : Hid (t ≠ [] → sumL t ≠ sumL Simdy.otherT) := Lib.hid (fun hne => by
    rw [ht, textL_ab]
    refine Simdy.not_other ?_ (by omega)
    rcases Nat.eq_zero_or_pos m with h0 | h0
    · rw [ht, h0] at hne; exact absurd rfl hne
    · exact h0)
  have hsz := str_size
  have htl := Wirey.toList_str
  have HGG := Lib.hid hG
  clear hG hmb hm ht hT0
  go_enter Tryd.func4, Tryd.ntmps4
  go_wp2_with fail
  refine hT.mono ?_
  rintro e w1 ⟨rfl, hb⟩
  have hG1 := HGG.out.below hb
  have HB := Lib.hid hb
  clear hb hT
  go_wp2_with fail
  refine (cut_c t hl _ hG1).mono ?_
  rintro e w2 ⟨q, rfl, hX, hql, hb⟩
  have HB2 := Lib.hid (HB.out.trans (hb.mono HB.out.size))
  have hG2 := HGG.out.below HB2.out
  have HX := Lib.hid hX
  clear hb HB hG1 hX
  go_wp2_with fail
  refine (awake_c _ hG2).mono ?_
  rintro e w4 ⟨rfl, hb⟩
  have hX4 := HX.out.below hb HX.out.lt
  have HX4 := Lib.hid hX4
  have HB4 := Lib.hid (HB2.out.trans (hb.mono HB2.out.size))
  have hmp := many_pos t
  have hm8 : many t ≤ 8192 := by unfold many; omega
  have hz : ((many t : Int) == 0) = false := by rw [beq_eq_false_iff_ne]; omega
  obtain ⟨a0, a1, a2, a3, a4⟩ := pc_cells hX4 (k := 0) (by omega)
  simp only [Nat.zero_mul, Nat.zero_add] at a0 a1 a2 a3 a4
  clear hb HX HB2 hG2 hX4
  generalize hM : many t = M at *
  have HM := Lib.hid hM
  clear hM
  go_wp2_with fail
  refine (new_ok (W := sumL t) (sumL_len t) (n := M) hmp hm8 _).mono ?_
  rintro e w5 ⟨b, gd, gt, rfl, hH, l1, l2, l3, hb⟩
  have hX5 := HX4.out.below hb HX4.out.lt
  have HB5 := Lib.hid (HB4.out.trans (hb.mono HB4.out.size))
  rw [← dataF_none t M] at hH
  clear hb HX4 HB4 l1 l2 l3 hql a0 a1 a2 a3 a4
  have hn0 : (0 : Int) < (M : Int) := by omega
  have hM0 : M ≠ 0 := by omega
  have hm1 : -(M : Int) < z.tmod (M : Int) := by have := Int.lt_tmod_of_pos z hn0; omega
  have hm2 : z.tmod (M : Int) < (M : Int) := Int.tmod_lt_of_pos z hn0
  obtain ⟨kk, hk⟩ : ∃ k : Nat, (z.tmod (M : Int) + (M : Int)) % (M : Int) = (k : Int) := ⟨((z.tmod (M : Int) + (M : Int)) % (M : Int)).toNat, by have := Int.emod_nonneg (z.tmod (M : Int) + (M : Int)) (show (M : Int) ≠ 0 by omega); omega⟩
  have hk2 : (z.tmod (M : Int) + (M : Int)).tmod (M : Int) = (kk : Int) := by rw [Int.tmod_eq_emod_of_nonneg (by omega)]; exact hk
  have hkl : kk < M := by have := Int.emod_lt_of_pos (z.tmod (M : Int) + (M : Int)) hn0; omega
  have hkkl : (kk : Int) < (M : Int) := by omega
  obtain ⟨a0, a1, a2, a3, a4⟩ := pc_cells hX5 (k := kk) (by rw [HM.out]; exact hkl)
  rw [HM.out] at a1
  have HX5 := Lib.hid hX5
  have HH5 := Lib.hid hH
  clear hX5 hH
  go_upto_region 8 with (fail)
  clear hm1 hm2 hk hk2 a0 a1 a2 a3 a4
  have hP := Blk.new w5 PT #[.int .i64 (kk : Int), .int .i64 (M : Int), .string (str (chunk t kk)), .string (str (sumL (chunk t kk))), .string (str (sumL t))]
  have hPb := (Below.refl _ w5).alloc (Nat.le_refl _) (.cells #[.int .i64 (kk : Int), .int .i64 (M : Int), .string (str (chunk t kk)), .string (str (sumL (chunk t kk))), .string (str (sumL t))] PT)
  have HX6 := Lib.hid (HX5.out.below hPb HX5.out.lt)
  have HB6 := Lib.hid (HB5.out.trans (hPb.mono HB5.out.size))
  have HH6 := Lib.hid (HH5.out.below hPb)
  have HLP : Hid (w.heap.size ≤ w5.heap.size ∧ q ≠ w5.heap.size ∧ b ≠ w5.heap.size ∧ gd ≠ w5.heap.size ∧ gt ≠ w5.heap.size) := Lib.hid (by have := HB5.out.size; have := HX5.out.lt; have := HH5.out.lt; omega)
  clear hPb HX5 HB5 HH5
  generalize w5.alloc (.cells #[.int .i64 (kk : Int), .int .i64 (M : Int), .string (str (chunk t kk)), .string (str (sumL (chunk t kk))), .string (str (sumL t))] PT) = w6 at *
  generalize w5.heap.size = P at *
  have p2 := hP.cell 2
  simp only [List.getElem?_toArray, List.getElem?_cons_zero, List.getElem?_cons_succ] at p2
  by_cases hnil : (chunk t kk).length = 0
  · have g1 : (((chunk t kk).length : Int) == 0) = true := by rw [hnil]; rfl
    have g2 : ((chunk t kk).length == 0) = true := by rw [hnil]; rfl
    clear hP hnil
    go_wp2_with fail
    go_ret
    exact ⟨rfl, HB6.out⟩
  · have g1 : (((chunk t kk).length : Int) == 0) = false := by rw [beq_eq_false_iff_ne]; omega
    have htn : t ≠ [] := fun e => hnil (by rw [e]; unfold chunk; simp)
    have HNE := Lib.hid (HNO.out htn)
    have hcl := chunk_le t kk
    obtain ⟨u, hu⟩ : ∃ u, chunk t kk = u := ⟨_, rfl⟩
    rw [hu] at hnil g1 hcl p2 hP ⊢
    have HU := Lib.hid hu
    clear hu htn HNO
    have hcv := run_bytes_of_string (P := Tryd.prog) w6 9 42 5 (str u) Tryd.underlying9 Tryd.underlying42 Tryd.underlying5
    have hrow := bytes_row (w := w6) (l := u) (c := grownCap w6 (str u).size 0 5) (lo := (bytesRow (str u) (grownCap w6 (str u).size 0 5)).size) (hi := (bytesRow (str u) (grownCap w6 (str u).size 0 5)).size + 1) (e := 5) (by simp [bytesRow, str])
    have hbel : Below w6.heap.size w6 (w6.drew.alloc (.cells (bytesRow (str u) (grownCap w6 (str u).size 0 5)) 5 ((bytesRow (str u) (grownCap w6 (str u).size 0 5)).size, (bytesRow (str u) (grownCap w6 (str u).size 0 5)).size + 1))) := ((Below.refl _ _).drew).alloc (Nat.le_refl _) _
    generalize (w6.drew.alloc (.cells (bytesRow (str u) (grownCap w6 (str u).size 0 5)) 5 ((bytesRow (str u) (grownCap w6 (str u).size 0 5)).size, (bytesRow (str u) (grownCap w6 (str u).size 0 5)).size + 1))) = wb at hrow hbel hcv
    rw [str_size] at hcv
    generalize grownCap w6 u.length 0 5 = cp at hcv
    have hu0 : (0 : Int) < (u.length : Int) := by omega
    have hunil : u ≠ [] := fun e => hnil (by rw [e]; rfl)
    have hm1 : -(u.length : Int) < a.tmod (u.length : Int) := by have := Int.lt_tmod_of_pos a hu0; omega
    have hm2 : a.tmod (u.length : Int) < (u.length : Int) := Int.tmod_lt_of_pos a hu0
    obtain ⟨k, hk⟩ : ∃ k : Nat, (a.tmod (u.length : Int) + (u.length : Int)) % (u.length : Int) = (k : Int) := ⟨((a.tmod (u.length : Int) + (u.length : Int)) % (u.length : Int)).toNat, by have := Int.emod_nonneg (a.tmod (u.length : Int) + (u.length : Int)) (show (u.length : Int) ≠ 0 by omega); omega⟩
    have hkl2 : k < u.length := by have := Int.emod_lt_of_pos (a.tmod (u.length : Int) + (u.length : Int)) hu0; omega
    have hk2 : (a.tmod (u.length : Int) + (u.length : Int)).tmod (u.length : Int) = (k : Int) := by rw [Int.tmod_eq_emod_of_nonneg (by omega)]; exact hk
    have c1 := hrow.cell k _ (u8s_at hkl2)
    have f1 := hrow.free k (by rw [u8s_len]; exact hkl2)
    have b1 := nums_lt u k
    have hxl : nat_ (nums u) k ^^^ 1 < 256 := Nat.xor_lt_two_pow (n := 8) b1 (by decide)
    have x1 := u8_xor_nat (nat_ (nums u) k) 1 b1 (by decide)
    rw [show ((1 : Nat) : Int) = 1 from rfl] at x1
    have hput := hrow.put (i := k) (by rw [u8s_len]; exact hkl2) (.int .u8 ((nat_ (nums u) k ^^^ 1 : Nat) : Int))
    rw [u8s_set _ _ _ hxl] at hput
    have hlt : (u.set k (UInt8.ofNat (nat_ (nums u) k ^^^ 1))).length = u.length := List.length_set ..
    have hbn := hbel.setCell (p := ⟨w6.heap.size, k, none⟩) (Nat.le_refl _) (.int .u8 ((nat_ (nums u) k ^^^ 1 : Nat) : Int))
    have HPP := Lib.hid hP
    have HPUT := Lib.hid hput
    have HBN := Lib.hid hbn
    clear hput hbn hrow hbel hP
    go_upto_region 12 with (fail)
    have hpn := HPUT.out
    have hbn := HBN.out
    obtain ⟨d, hd⟩ : ∃ d, d = u.set k (UInt8.ofNat (nat_ (nums u) k ^^^ 1)) := ⟨_, rfl⟩
    rw [← hd] at hpn hlt
    generalize World.setCell wb ⟨w6.heap.size, k, none⟩ (.int .u8 ((nat_ (nums u) k ^^^ 1 : Nat) : Int)) = wn at hpn hbn ⊢
    clear HPUT HBN c1 f1 x1 hxl b1 hcv hd hm1 hm2 hk hk2 hkl2 p2
    have HX7 := HX6.out.below hbn HX6.out.lt
    have hP7 := HPP.out.below hbn HPP.out.lt
    have HH7 := HH6.out.below hbn
    have HB7 := HB6.out.trans (hbn.mono HB6.out.size)
    generalize w6.heap.size = Q at hpn ⊢
    have hcv2 : (convert 42 9 (.slice (some ⟨Q, 0, none⟩) u.length cp)).run Tryd.prog wn = .ok (.string (str d)) wn := by
      have h := run_convert_bytes_back wn 42 9 5 ⟨Q, 0, none⟩ cp d Tryd.underlying42 Tryd.underlying5 Tryd.underlying9 (fun j hj => by
        refine (hpn.adds j _ ?_)
        unfold u8s
        rw [List.getElem?_map, List.getElem?_eq_getElem hj]
        rfl)
      rw [hlt] at h
      exact h
    have p2 : wn.cell? ⟨P, 2, none⟩ = some (.string (str u)) := hP7.cell 2
    have pf := hP7.free 2
    have kP := (Ks.refl (fun x => x = P) wn).set1 2 (.string (str d))
    have hP8 := hP7.put 2 (.string (str d))
    have HX8 := Lib.hid (kP.blk HX7 (by have := HLP.out; omega))
    have HB8 := Lib.hid (kP.below HB7 (by have := HLP.out; omega))
    have HH8 := Lib.hid (HH7.ks kP (by have := HLP.out; omega) (by have := HLP.out; omega) (by have := HLP.out; omega))
    have hP9 : Blk (wn.setCell ⟨P, 2, none⟩ (.string (str d))) P PT #[.int .i64 (kk : Int), .int .i64 (M : Int), .string (str d), .string (str (sumL u)), .string (str (sumL t))] := hP8
    have HP8 := Lib.hid hP9
    have HLT := Lib.hid hlt
    clear hpn hbn HX7 hP7 HH7 HB7 kP hP8 hP9 HX6 HB6 HH6 HPP hlt
    go_upto_region 13 with (fail)
    clear hcv2 p2 pf
    generalize wn.setCell ⟨P, 2, none⟩ (.string (str d)) = w8 at *
    have hdl : d.length < 1099511627776 := by have := HLT.out; omega
    have mk : ∀ W', Below w8.heap.size w8 W' → (W'.cell? ⟨P, 2, none⟩ = some (.string (str d)) ∧ W'.cell? ⟨P, 3, none⟩ = some (.string (str (sumL u)))) ∧ Below w8.heap.size w8 W' := fun W' hW => ⟨⟨(HP8.out.below hW HP8.out.lt).cell 2, (HP8.out.below hW HP8.out.lt).cell 3⟩, hW⟩
    by_cases he : sumL d = sumL u
    · have e1 : (sumL d == sumL u) = true := by simpa using he
      clear he
      refine region_only 6 #[false, false, false, false, false, false] (S := fun W' => (W'.cell? ⟨P, 2, none⟩ = some (.string (str d)) ∧ W'.cell? ⟨P, 3, none⟩ = some (.string (str (sumL u)))) ∧ Below w8.heap.size w8 W') rfl rfl (by kernel_rfl) (mk _ (Below.refl _ _).drew) (fun hSw => ?_)
      refine take_at 0 100 (fuel := 5) ?_ rfl rfl (by kernel_rfl) (by kernel_rfl) (by kernel_rfl) (Or.inl ⟨by rfl, ?_⟩) hSw ?_
      rotate_left
      · intro wx hSx
        (try dsimp only at hSx)
        go_split_ands
        go_simp
        (try with_reducible rfl)
      simp only [List.setIfInBounds_toArray, List.set_cons_zero, List.set_cons_succ]
      refine take_at 1 101 (fuel := 4) ?_ rfl rfl (by kernel_rfl) (by kernel_rfl) (by kernel_rfl) (Or.inl ⟨by rfl, ?_⟩) hSw ?_
      rotate_left
      · intro wx hSx
        (try dsimp only at hSx)
        go_split_ands
        go_simp
        (try with_reducible rfl)
      simp only [List.setIfInBounds_toArray, List.set_cons_zero, List.set_cons_succ]
      refine take_at 3 103 (fuel := 3) ?_ rfl rfl (by kernel_rfl) (by kernel_rfl) (by kernel_rfl) (Or.inl ⟨by rfl, ?_⟩) hSw ?_
      rotate_left
      · intro wx hSx
        (try dsimp only at hSx)
        go_split_ands
        go_simp
        (try with_reducible rfl)
      simp only [List.setIfInBounds_toArray, List.set_cons_zero, List.set_cons_succ]
      refine take_at 4 104 (fuel := 2) ?_ rfl rfl (by kernel_rfl) (by kernel_rfl) (by kernel_rfl) (Or.inl ⟨by rfl, ?_⟩) hSw ?_
      rotate_left
      · intro wx hSx
        (try dsimp only at hSx)
        go_split_ands
        go_simp
        (try with_reducible rfl)
      simp only [List.setIfInBounds_toArray, List.set_cons_zero, List.set_cons_succ]
      refine wpAnyH_ready (fuel := 1) (rs := [2]) (by kernel_rfl) (by simp) (AllReadyH.cons rfl (fun K hK => ?_) AllReadyH.nil)
      go_simp
      refine Calls.mono (sum_c d hdl _) ?_
      rintro e wv ⟨rfl, hbv⟩
      have hB6 := Lib.hid (hSw.2.trans (hbv.mono hSw.2.size))
      clear hbv
      refine hK.out _ _ (mk _ hB6.out) (fun hSw => ?_)
      clear hK K
      simp only [List.setIfInBounds_toArray, List.set_cons_zero, List.set_cons_succ]
      refine take_at 5 105 (fuel := 0) ?_ rfl rfl (by kernel_rfl) (by kernel_rfl) (by kernel_rfl) (Or.inl ⟨by rfl, ?_⟩) hSw ?_
      rotate_left
      · intro wx hSx
        (try dsimp only at hSx)
        go_split_ands
        go_simp
        (try with_reducible rfl)
      simp only [List.setIfInBounds_toArray, List.set_cons_zero, List.set_cons_succ]
      refine wpAnyH_done (by kernel_rfl) ⟨rfl, ?_⟩ 0
      have HB9 := Lib.hid (HB8.out.trans (hB6.out.mono HB8.out.size))
      clear hSw mk
      go_wp2_with fail
      go_ret
      exact ⟨rfl, HB9.out⟩
    · have e1 : (sumL d == sumL u) = false := by simpa using he
      have HE := Lib.hid he
      clear he
      refine region_only 6 #[false, false, false, false, false, false] (S := fun W' => (W'.cell? ⟨P, 2, none⟩ = some (.string (str d)) ∧ W'.cell? ⟨P, 3, none⟩ = some (.string (str (sumL u)))) ∧ Below w8.heap.size w8 W') rfl rfl (by kernel_rfl) (mk _ (Below.refl _ _).drew) (fun hSw => ?_)
      refine take_at 0 100 (fuel := 5) ?_ rfl rfl (by kernel_rfl) (by kernel_rfl) (by kernel_rfl) (Or.inl ⟨by rfl, ?_⟩) hSw ?_
      rotate_left
      · intro wx hSx
        (try dsimp only at hSx)
        go_split_ands
        go_simp
        (try with_reducible rfl)
      simp only [List.setIfInBounds_toArray, List.set_cons_zero, List.set_cons_succ]
      refine take_at 1 101 (fuel := 4) ?_ rfl rfl (by kernel_rfl) (by kernel_rfl) (by kernel_rfl) (Or.inl ⟨by rfl, ?_⟩) hSw ?_
      rotate_left
      · intro wx hSx
        (try dsimp only at hSx)
        go_split_ands
        go_simp
        (try with_reducible rfl)
      simp only [List.setIfInBounds_toArray, List.set_cons_zero, List.set_cons_succ]
      refine take_at 3 103 (fuel := 3) ?_ rfl rfl (by kernel_rfl) (by kernel_rfl) (by kernel_rfl) (Or.inl ⟨by rfl, ?_⟩) hSw ?_
      rotate_left
      · intro wx hSx
        (try dsimp only at hSx)
        go_split_ands
        go_simp
        (try with_reducible rfl)
      simp only [List.setIfInBounds_toArray, List.set_cons_zero, List.set_cons_succ]
      refine take_at 4 104 (fuel := 2) ?_ rfl rfl (by kernel_rfl) (by kernel_rfl) (by kernel_rfl) (Or.inl ⟨by rfl, ?_⟩) hSw ?_
      rotate_left
      · intro wx hSx
        (try dsimp only at hSx)
        go_split_ands
        go_simp
        (try with_reducible rfl)
      simp only [List.setIfInBounds_toArray, List.set_cons_zero, List.set_cons_succ]
      refine wpAnyH_ready (fuel := 1) (rs := [2]) (by kernel_rfl) (by simp) (AllReadyH.cons rfl (fun K hK => ?_) AllReadyH.nil)
      go_simp
      refine Calls.mono (sum_c d hdl _) ?_
      rintro e wv ⟨rfl, hbv⟩
      have hB6 := Lib.hid (hSw.2.trans (hbv.mono hSw.2.size))
      clear hbv
      refine hK.out _ _ (mk _ hB6.out) (fun hSw => ?_)
      clear hK K
      simp only [List.setIfInBounds_toArray, List.set_cons_zero, List.set_cons_succ]
      refine take_at 5 105 (fuel := 0) ?_ rfl rfl (by kernel_rfl) (by kernel_rfl) (by kernel_rfl) (Or.inl ⟨by rfl, ?_⟩) hSw ?_
      rotate_left
      · intro wx hSx
        (try dsimp only at hSx)
        go_split_ands
        go_simp
        (try with_reducible rfl)
      simp only [List.setIfInBounds_toArray, List.set_cons_zero, List.set_cons_succ]
      refine wpAnyH_done (by kernel_rfl) ⟨rfl, ?_⟩ 0
      have hP := HP8.out.below hB6.out HP8.out.lt
      have HX := Lib.hid (HX8.out.below hB6.out HX8.out.lt)
      have HB := Lib.hid (HB8.out.trans (hB6.out.mono HB8.out.size))
      have HH := Lib.hid (HH8.out.below hB6.out)
      clear hSw mk HP8 HX8 HB8 HH8 hB6
      generalize wv = w9 at *
      have p0 := hP.cell 0
      have p1 := hP.cell 1
      have p2 := hP.cell 2
      have p3 := hP.cell 3
      have p4 := hP.cell 4
      simp only [List.getElem?_toArray, List.getElem?_cons_zero, List.getElem?_cons_succ] at p0 p1 p2 p3 p4
      have hA := add_spoilt (⟨(kk : Int), (M : Int), d, sumL u, sumL t⟩ : Pc) (by
        rw [dataF_len, List.length_replicate]
        refine mayB_data (d := u) HLT.out.symm ?_
        have h := mayB_at (t := t) (k := kk) (by rw [HM.out]; exact hkl)
        unfold pcAt at h
        rw [HU.out, HM.out] at h
        exact h) HE.out (HGG.out.below HB.out) HH.out
      clear hP e1
      go_wp2_with fail
      refine hA.mono ?_
      rintro e w10 ⟨rfl, hb⟩
      have HX10 := Lib.hid (HX.out.below hb HX.out.lt)
      have HB10 := Lib.hid (HB.out.trans (hb.mono HB.out.size))
      have HH10 := Lib.hid (HH.out.below hb)
      clear hb hA HX HB HH p0 p1 p2 p3 p4
      obtain ⟨a0, a1, a2, a3, a4⟩ := pc_cells HX10.out (k := kk) (by rw [HM.out]; exact hkl)
      rw [HM.out] at a1
      rw [HU.out] at a2 a3
      go_wp2_with fail
      have mk16 : ∀ W', Below w10.heap.size w10 W' → W'.cell? ⟨q, kk * 5, none⟩ = some (.int .i64 (kk : Int)) ∧ W'.cell? ⟨q, kk * 5 + 1, none⟩ = some (.int .i64 (M : Int)) ∧ W'.cell? ⟨q, kk * 5 + 2, none⟩ = some (.string (str u)) ∧ W'.cell? ⟨q, kk * 5 + 3, none⟩ = some (.string (str (sumL u))) ∧ W'.cell? ⟨q, kk * 5 + 4, none⟩ = some (.string (str (sumL t))) := fun W' hW => by
        obtain ⟨b0, b1, b2, b3, b4⟩ := pc_cells (HX10.out.below hW HX10.out.lt) (k := kk) (by rw [HM.out]; exact hkl)
        rw [HM.out] at b1
        rw [HU.out] at b2 b3
        exact ⟨b0, b1, b2, b3, b4⟩
      have hS2 : ∀ w, Calls Tryd.prog 14 #[.string ⟨#[111, 116, 104, 101, 114]⟩] w (SumEnd Simdy.otherT w) := fun w => sum_c Simdy.otherT (by decide) w
      clear a0 a1 a2 a3 a4 hSw
      refine region_only 18 #[false, false, false, false, false, false, false, false, false, false, false, false, false, false, false, false, false, false] (S := fun W' => W'.cell? ⟨q, kk * 5, none⟩ = some (.int .i64 (kk : Int)) ∧ W'.cell? ⟨q, kk * 5 + 1, none⟩ = some (.int .i64 (M : Int)) ∧ W'.cell? ⟨q, kk * 5 + 2, none⟩ = some (.string (str u)) ∧ W'.cell? ⟨q, kk * 5 + 3, none⟩ = some (.string (str (sumL u))) ∧ W'.cell? ⟨q, kk * 5 + 4, none⟩ = some (.string (str (sumL t)))) rfl rfl (by kernel_rfl) (mk16 _ (Below.refl _ _).drew) (fun hSw => ?_)
      have hB0 : Below w10.heap.size w10 w10.drew := (Below.refl _ w10).drew
      generalize w10.drew = y0 at *
      refine take_at 0 112 (fuel := 17) ?_ rfl rfl (by kernel_rfl) (by kernel_rfl) (by kernel_rfl) (Or.inl ⟨by rfl, ?_⟩) hSw ?_
      rotate_left
      · intro wx hSx
        (try dsimp only at hSx)
        go_split_ands
        go_simp
        (try with_reducible rfl)
      simp only [List.setIfInBounds_toArray, List.set_cons_zero, List.set_cons_succ]
      refine take_at 1 113 (fuel := 16) ?_ rfl rfl (by kernel_rfl) (by kernel_rfl) (by kernel_rfl) (Or.inl ⟨by rfl, ?_⟩) hSw ?_
      rotate_left
      · intro wx hSx
        (try dsimp only at hSx)
        go_split_ands
        go_simp
        (try with_reducible rfl)
      simp only [List.setIfInBounds_toArray, List.set_cons_zero, List.set_cons_succ]
      refine take_at 2 114 (fuel := 15) ?_ rfl rfl (by kernel_rfl) (by kernel_rfl) (by kernel_rfl) (Or.inl ⟨by rfl, ?_⟩) hSw ?_
      rotate_left
      · intro wx hSx
        (try dsimp only at hSx)
        go_split_ands
        go_simp
        (try with_reducible rfl)
      simp only [List.setIfInBounds_toArray, List.set_cons_zero, List.set_cons_succ]
      refine take_at 3 115 (fuel := 14) ?_ rfl rfl (by kernel_rfl) (by kernel_rfl) (by kernel_rfl) (Or.inl ⟨by rfl, ?_⟩) hSw ?_
      rotate_left
      · intro wx hSx
        (try dsimp only at hSx)
        go_split_ands
        go_simp
        (try with_reducible rfl)
      simp only [List.setIfInBounds_toArray, List.set_cons_zero, List.set_cons_succ]
      refine take_at 4 116 (fuel := 13) ?_ rfl rfl (by kernel_rfl) (by kernel_rfl) (by kernel_rfl) (Or.inl ⟨by rfl, ?_⟩) hSw ?_
      rotate_left
      · intro wx hSx
        (try dsimp only at hSx)
        go_split_ands
        go_simp
        (try with_reducible rfl)
      simp only [List.setIfInBounds_toArray, List.set_cons_zero, List.set_cons_succ]
      refine take_at 5 117 (fuel := 12) ?_ rfl rfl (by kernel_rfl) (by kernel_rfl) (by kernel_rfl) (Or.inl ⟨by rfl, ?_⟩) hSw ?_
      rotate_left
      · intro wx hSx
        (try dsimp only at hSx)
        go_split_ands
        go_simp
        (try with_reducible rfl)
      simp only [List.setIfInBounds_toArray, List.set_cons_zero, List.set_cons_succ]
      refine take_at 6 118 (fuel := 11) ?_ rfl rfl (by kernel_rfl) (by kernel_rfl) (by kernel_rfl) (Or.inl ⟨by rfl, ?_⟩) hSw ?_
      rotate_left
      · intro wx hSx
        (try dsimp only at hSx)
        go_split_ands
        go_simp
        (try with_reducible rfl)
      simp only [List.setIfInBounds_toArray, List.set_cons_zero, List.set_cons_succ]
      refine take_at 7 119 (fuel := 10) ?_ rfl rfl (by kernel_rfl) (by kernel_rfl) (by kernel_rfl) (Or.inl ⟨by rfl, ?_⟩) hSw ?_
      rotate_left
      · intro wx hSx
        (try dsimp only at hSx)
        go_split_ands
        go_simp
        (try with_reducible rfl)
      simp only [List.setIfInBounds_toArray, List.set_cons_zero, List.set_cons_succ]
      refine take_at 8 120 (fuel := 9) ?_ rfl rfl (by kernel_rfl) (by kernel_rfl) (by kernel_rfl) (Or.inl ⟨by rfl, ?_⟩) hSw ?_
      rotate_left
      · intro wx hSx
        (try dsimp only at hSx)
        go_split_ands
        go_simp
        (try with_reducible rfl)
      simp only [List.setIfInBounds_toArray, List.set_cons_zero, List.set_cons_succ]
      refine take_at 9 121 (fuel := 8) ?_ rfl rfl (by kernel_rfl) (by kernel_rfl) (by kernel_rfl) (Or.inl ⟨by rfl, ?_⟩) hSw ?_
      rotate_left
      · intro wx hSx
        (try dsimp only at hSx)
        go_split_ands
        go_simp
        (try with_reducible rfl)
      simp only [List.setIfInBounds_toArray, List.set_cons_zero, List.set_cons_succ]
      refine take_at 10 122 (fuel := 7) ?_ rfl rfl (by kernel_rfl) (by kernel_rfl) (by kernel_rfl) (Or.inl ⟨by rfl, ?_⟩) hSw ?_
      rotate_left
      · intro wx hSx
        (try dsimp only at hSx)
        go_split_ands
        go_simp
        (try with_reducible rfl)
      simp only [List.setIfInBounds_toArray, List.set_cons_zero, List.set_cons_succ]
      refine take_at 11 123 (fuel := 6) ?_ rfl rfl (by kernel_rfl) (by kernel_rfl) (by kernel_rfl) (Or.inl ⟨by rfl, ?_⟩) hSw ?_
      rotate_left
      · intro wx hSx
        (try dsimp only at hSx)
        go_split_ands
        go_simp
        (try with_reducible rfl)
      simp only [List.setIfInBounds_toArray, List.set_cons_zero, List.set_cons_succ]
      refine wpAnyH_ready (fuel := 5) (rs := [12, 13, 14]) (by kernel_rfl) (by simp) (AllReadyH.cons rfl (fun K hK => ?_) (AllReadyH.cons rfl (fun K hK => ?_) (AllReadyH.cons rfl (fun K hK => ?_) AllReadyH.nil)))
      · go_simp
        have hx1 := Blk.new y0 PT #[.int .i64 0, .int .i64 0, .string ⟨#[]⟩, .string ⟨#[]⟩, .string ⟨#[]⟩]
        have hB1 := hB0.alloc hB0.size (.cells #[.int .i64 0, .int .i64 0, .string ⟨#[]⟩, .string ⟨#[]⟩, .string ⟨#[]⟩] PT)
        have l1 := hB0.size
        generalize y0.alloc (.cells #[.int .i64 0, .int .i64 0, .string ⟨#[]⟩, .string ⟨#[]⟩, .string ⟨#[]⟩] PT) = y1 at *
        generalize y0.heap.size = x1 at hx1 l1 ⊢
        clear hB0
        refine hK.out _ _ (mk16 _ hB1) (fun hSw => ?_)
        clear hK K
        simp only [List.setIfInBounds_toArray, List.set_cons_zero, List.set_cons_succ]
        refine wpAnyH_ready (fuel := 4) (rs := [13, 14]) (by kernel_rfl) (by simp) (AllReadyH.cons rfl (fun K hK => ?_) (AllReadyH.cons rfl (fun K hK => ?_) AllReadyH.nil))
        · go_simp
          have hx2 := Blk.new y1 PT #[.int .i64 0, .int .i64 0, .string ⟨#[]⟩, .string ⟨#[]⟩, .string ⟨#[]⟩]
          have hB2 := hB1.alloc hB1.size (.cells #[.int .i64 0, .int .i64 0, .string ⟨#[]⟩, .string ⟨#[]⟩, .string ⟨#[]⟩] PT)
          have l2 := hB1.size
          have n12 : x1 ≠ y1.heap.size := by have := hx1.lt; omega
          have n21 : y1.heap.size ≠ x1 := fun e => n12 e.symm
          replace hx1 := hx1.alloc (.cells #[.int .i64 0, .int .i64 0, .string ⟨#[]⟩, .string ⟨#[]⟩, .string ⟨#[]⟩] PT)
          generalize y1.alloc (.cells #[.int .i64 0, .int .i64 0, .string ⟨#[]⟩, .string ⟨#[]⟩, .string ⟨#[]⟩] PT) = y2 at *
          generalize y1.heap.size = x2 at hx2 l2 n12 n21 ⊢
          clear hB1
          refine hK.out _ _ (mk16 _ hB2) (fun hSw => ?_)
          clear hK K
          simp only [List.setIfInBounds_toArray, List.set_cons_zero, List.set_cons_succ]
          refine wpAnyH_ready (fuel := 3) (rs := [14]) (by kernel_rfl) (by simp) (AllReadyH.cons rfl (fun K hK => ?_) AllReadyH.nil)
          go_simp
          have hx3 := Blk.new y2 PT #[.int .i64 0, .int .i64 0, .string ⟨#[]⟩, .string ⟨#[]⟩, .string ⟨#[]⟩]
          have hB3 := hB2.alloc hB2.size (.cells #[.int .i64 0, .int .i64 0, .string ⟨#[]⟩, .string ⟨#[]⟩, .string ⟨#[]⟩] PT)
          have l3 := hB2.size
          have n13 : x1 ≠ y2.heap.size := by have := hx1.lt; omega
          have n31 : y2.heap.size ≠ x1 := fun e => n13 e.symm
          replace hx1 := hx1.alloc (.cells #[.int .i64 0, .int .i64 0, .string ⟨#[]⟩, .string ⟨#[]⟩, .string ⟨#[]⟩] PT)
          have n23 : x2 ≠ y2.heap.size := by have := hx2.lt; omega
          have n32 : y2.heap.size ≠ x2 := fun e => n23 e.symm
          replace hx2 := hx2.alloc (.cells #[.int .i64 0, .int .i64 0, .string ⟨#[]⟩, .string ⟨#[]⟩, .string ⟨#[]⟩] PT)
          generalize y2.alloc (.cells #[.int .i64 0, .int .i64 0, .string ⟨#[]⟩, .string ⟨#[]⟩, .string ⟨#[]⟩] PT) = y3 at *
          generalize y2.heap.size = x3 at hx3 l3 n13 n31 n23 n32 ⊢
          clear hB2
          have c0 := hx1.cell 0
          have c1 := hx1.cell 1
          have c2 := hx1.cell 2
          have c3 := hx1.cell 3
          have c4 := hx1.cell 4
          simp only [List.getElem?_toArray, List.getElem?_cons_zero, List.getElem?_cons_succ] at c0 c1 c2 c3 c4
          have f0 := hx1.free 0
          have f1 := hx1.free 1
          have f2 := hx1.free 2
          have f3 := hx1.free 3
          have f4 := hx1.free 4
          refine hK.out _ _ (mk16 _ hB3) (fun hSw => ?_)
          clear hK K
          simp only [List.setIfInBounds_toArray, List.set_cons_zero, List.set_cons_succ]
          refine wpAnyH_ready (fuel := 2) (rs := [15]) (by kernel_rfl) (by simp) (AllReadyH.cons rfl (fun K hK => ?_) AllReadyH.nil)
          go_simp
          have hB4 := below5 hB3 l1 0 1 2 3 4 (.int .i64 (kk : Int)) (.int .i64 (M : Int)) (.string (str u)) (.string (str (sumL u))) (.string (str (sumL t)))
          clear c0 c1 c2 c3 c4 f0 f1 f2 f3 f4
          replace hx1 := own5 hx1 (.int .i64 (kk : Int)) (.int .i64 (M : Int)) (.string (str u)) (.string (str (sumL u))) (.string (str (sumL t)))
          replace hx2 := far5 hx2 n21 0 1 2 3 4 (.int .i64 (kk : Int)) (.int .i64 (M : Int)) (.string (str u)) (.string (str (sumL u))) (.string (str (sumL t)))
          replace hx3 := far5 hx3 n31 0 1 2 3 4 (.int .i64 (kk : Int)) (.int .i64 (M : Int)) (.string (str u)) (.string (str (sumL u))) (.string (str (sumL t)))
          generalize (((((y3.setCell ⟨x1, 0, none⟩ (.int .i64 (kk : Int))).setCell ⟨x1, 1, none⟩ (.int .i64 (M : Int))).setCell ⟨x1, 2, none⟩ (.string (str u))).setCell ⟨x1, 3, none⟩ (.string (str (sumL u)))).setCell ⟨x1, 4, none⟩ (.string (str (sumL t)))) = y4 at *
          clear hB3
          have c0 := hx2.cell 0
          have c1 := hx2.cell 1
          have c2 := hx2.cell 2
          have c3 := hx2.cell 3
          have c4 := hx2.cell 4
          simp only [List.getElem?_toArray, List.getElem?_cons_zero, List.getElem?_cons_succ] at c0 c1 c2 c3 c4
          have f0 := hx2.free 0
          have f1 := hx2.free 1
          have f2 := hx2.free 2
          have f3 := hx2.free 3
          have f4 := hx2.free 4
          refine hK.out _ _ (mk16 _ hB4) (fun hSw => ?_)
          clear hK K
          simp only [List.setIfInBounds_toArray, List.set_cons_zero, List.set_cons_succ]
          refine wpAnyH_ready (fuel := 1) (rs := [16]) (by kernel_rfl) (by simp) (AllReadyH.cons rfl (fun K hK => ?_) AllReadyH.nil)
          go_simp
          have hB5 := below5 hB4 l2 0 1 2 3 4 (.int .i64 (kk : Int)) (.int .i64 (M : Int)) (.string (str u)) (.string (str (sumL u))) (.string (str (sumL t)))
          clear c0 c1 c2 c3 c4 f0 f1 f2 f3 f4
          replace hx1 := far5 hx1 n12 0 1 2 3 4 (.int .i64 (kk : Int)) (.int .i64 (M : Int)) (.string (str u)) (.string (str (sumL u))) (.string (str (sumL t)))
          replace hx2 := own5 hx2 (.int .i64 (kk : Int)) (.int .i64 (M : Int)) (.string (str u)) (.string (str (sumL u))) (.string (str (sumL t)))
          replace hx3 := far5 hx3 n32 0 1 2 3 4 (.int .i64 (kk : Int)) (.int .i64 (M : Int)) (.string (str u)) (.string (str (sumL u))) (.string (str (sumL t)))
          generalize (((((y4.setCell ⟨x2, 0, none⟩ (.int .i64 (kk : Int))).setCell ⟨x2, 1, none⟩ (.int .i64 (M : Int))).setCell ⟨x2, 2, none⟩ (.string (str u))).setCell ⟨x2, 3, none⟩ (.string (str (sumL u)))).setCell ⟨x2, 4, none⟩ (.string (str (sumL t)))) = y5 at *
          clear hB4
          have c0 := hx3.cell 0
          have c1 := hx3.cell 1
          have c2 := hx3.cell 2
          have c3 := hx3.cell 3
          have c4 := hx3.cell 4
          simp only [List.getElem?_toArray, List.getElem?_cons_zero, List.getElem?_cons_succ] at c0 c1 c2 c3 c4
          have f0 := hx3.free 0
          have f1 := hx3.free 1
          have f2 := hx3.free 2
          have f3 := hx3.free 3
          have f4 := hx3.free 4
          refine hK.out _ _ (mk16 _ hB5) (fun hSw => ?_)
          clear hK K
          simp only [List.setIfInBounds_toArray, List.set_cons_zero, List.set_cons_succ]
          refine wpAnyH_ready (fuel := 0) (rs := [17]) (by kernel_rfl) (by simp) (AllReadyH.cons rfl (fun K hK => ?_) AllReadyH.nil)
          go_simp
          have hB6 := below5 hB5 l3 0 1 2 3 4 (.int .i64 (kk : Int)) (.int .i64 (M : Int)) (.string (str u)) (.string (str (sumL u))) (.string (str (sumL t)))
          clear c0 c1 c2 c3 c4 f0 f1 f2 f3 f4
          replace hx1 := far5 hx1 n13 0 1 2 3 4 (.int .i64 (kk : Int)) (.int .i64 (M : Int)) (.string (str u)) (.string (str (sumL u))) (.string (str (sumL t)))
          replace hx2 := far5 hx2 n23 0 1 2 3 4 (.int .i64 (kk : Int)) (.int .i64 (M : Int)) (.string (str u)) (.string (str (sumL u))) (.string (str (sumL t)))
          replace hx3 := own5 hx3 (.int .i64 (kk : Int)) (.int .i64 (M : Int)) (.string (str u)) (.string (str (sumL u))) (.string (str (sumL t)))
          generalize (((((y5.setCell ⟨x3, 0, none⟩ (.int .i64 (kk : Int))).setCell ⟨x3, 1, none⟩ (.int .i64 (M : Int))).setCell ⟨x3, 2, none⟩ (.string (str u))).setCell ⟨x3, 3, none⟩ (.string (str (sumL u)))).setCell ⟨x3, 4, none⟩ (.string (str (sumL t)))) = y6 at *
          clear hB5
          refine hK.out _ _ (mk16 _ hB6) (fun hSw => ?_)
          clear hK K
          simp only [List.setIfInBounds_toArray, List.set_cons_zero, List.set_cons_succ]
          refine wpAnyH_done (by kernel_rfl) ⟨rfl, ?_⟩ 0
          clear hSw mk16
          have HX11 := Lib.hid (HX10.out.below hB6 HX10.out.lt)
          have HB11 := Lib.hid (HB10.out.trans (hB6.mono HB10.out.size))
          have HH11 := Lib.hid (HH10.out.below hB6)
          have HLX : Hid (w.heap.size ≤ x1 ∧ w.heap.size ≤ x2 ∧ w.heap.size ≤ x3 ∧ b < x1 ∧ gd < x1 ∧ gt < x1 ∧ b < x2 ∧ gd < x2 ∧ gt < x2 ∧ b < x3 ∧ gd < x3 ∧ gt < x3) := Lib.hid (by have := HB10.out.size; have := HH10.out.lt; omega)
          clear hB6 HX10 HB10 HH10 l1 l2 l3
          go_wp2_with fail
          refine (hS2 _).mono ?_
          rintro e v1 ⟨rfl, hb⟩
          have HB12 := Lib.hid (HB11.out.trans (hb.mono HB11.out.size))
          have HH12 := Lib.hid (HH11.out.below hb)
          have hx1' := hx1.below hb hx1.lt
          have hx2' := hx2.below hb hx2.lt
          have hx3' := hx3.below hb hx3.lt
          clear hb hx1 hx2 hx3 HB11 HH11 HX11 hS2
          have c4 := hx1'.cell 4
          simp only [List.getElem?_toArray, List.getElem?_cons_zero, List.getElem?_cons_succ] at c4
          have f4 := hx1'.free 4
          go_upto_region 18 with (fail)
          clear c4 f4
          have k1 := (Ks.refl (fun x => x = x1) v1).set1 4 (.string (str (sumL Simdy.otherT)))
          have HB13 := Lib.hid (k1.below HB12.out (by have := HLX.out; omega))
          have HH13 := Lib.hid (HH12.out.ks k1 (by have := HLX.out; omega) (by have := HLX.out; omega) (by have := HLX.out; omega))
          have hx1 := hx1'.put 4 (.string (str (sumL Simdy.otherT)))
          have hx2 := hx2'.far n21 (p := ⟨x1, 4, none⟩) (.string (str (sumL Simdy.otherT)))
          have hx3 := hx3'.far n31 (p := ⟨x1, 4, none⟩) (.string (str (sumL Simdy.otherT)))
          clear k1 HB12 HH12 hx1' hx2' hx3'
          generalize v1.setCell ⟨x1, 4, none⟩ (.string (str (sumL Simdy.otherT))) = v2 at *
          have c1 := hx2.cell 1
          simp only [List.getElem?_toArray, List.getElem?_cons_zero, List.getElem?_cons_succ] at c1
          have f1 := hx2.free 1
          go_upto_region 19 with (fail)
          clear c1 f1
          have k1 := (Ks.refl (fun x => x = x2) v2).set1 1 (.int .i64 ((M : Int) + 1))
          have HB14 := Lib.hid (k1.below HB13.out (by have := HLX.out; omega))
          have HH14 := Lib.hid (HH13.out.ks k1 (by have := HLX.out; omega) (by have := HLX.out; omega) (by have := HLX.out; omega))
          have hx2' := hx2.put 1 (.int .i64 ((M : Int) + 1))
          have hx1' := hx1.far n12 (p := ⟨x2, 1, none⟩) (.int .i64 ((M : Int) + 1))
          have hx3' := hx3.far n32 (p := ⟨x2, 1, none⟩) (.int .i64 ((M : Int) + 1))
          clear k1 HB13 HH13 hx1 hx2 hx3
          generalize v2.setCell ⟨x2, 1, none⟩ (.int .i64 ((M : Int) + 1)) = v3 at *
          have c0 := hx3'.cell 0
          simp only [List.getElem?_toArray, List.getElem?_cons_zero] at c0
          have f0 := hx3'.free 0
          go_upto_region 20 with (fail)
          clear c0 f0
          have k1 := (Ks.refl (fun x => x = x3) v3).set1 0 (.int .i64 (M : Int))
          have HB15 := Lib.hid (k1.below HB14.out (by have := HLX.out; omega))
          have HH15 := Lib.hid (HH14.out.ks k1 (by have := HLX.out; omega) (by have := HLX.out; omega) (by have := HLX.out; omega))
          have hx3 := hx3'.put 0 (.int .i64 (M : Int))
          have hx1 := hx1'.far n13 (p := ⟨x3, 0, none⟩) (.int .i64 (M : Int))
          have hx2 := hx2'.far n23 (p := ⟨x3, 0, none⟩) (.int .i64 (M : Int))
          clear k1 HB14 HH14 hx1' hx2' hx3'
          generalize v3.setCell ⟨x3, 0, none⟩ (.int .i64 (M : Int)) = v4 at *
          have hA := add_no (⟨(kk : Int), (M : Int), u, sumL u, sumL Simdy.otherT⟩ : Pc) (by unfold mayB; rw [decide_eq_false (p := sumL Simdy.otherT = sumL t) (fun e => HNE.out e.symm)]; simp) HH15.out
          have g1 : Blk v4 x1 PT #[.int .i64 (kk : Int), .int .i64 (M : Int), .string (str u), .string (str (sumL u)), .string (str (sumL Simdy.otherT))] := hx1
          have g2 : Blk v4 x2 PT #[.int .i64 (kk : Int), .int .i64 ((M : Int) + 1), .string (str u), .string (str (sumL u)), .string (str (sumL t))] := hx2
          have g3 : Blk v4 x3 PT #[.int .i64 (M : Int), .int .i64 (M : Int), .string (str u), .string (str (sumL u)), .string (str (sumL t))] := hx3
          clear hx1 hx2 hx3
          have c0 := g1.cell 0
          have c1 := g1.cell 1
          have c2 := g1.cell 2
          have c3 := g1.cell 3
          have c4 := g1.cell 4
          simp only [List.getElem?_toArray, List.getElem?_cons_zero, List.getElem?_cons_succ] at c0 c1 c2 c3 c4
          go_wp2_with fail
          refine hA.mono ?_
          rintro e v5 ⟨rfl, hb⟩
          have HB16 := Lib.hid (HB15.out.trans (hb.mono HB15.out.size))
          have HH16 := Lib.hid (HH15.out.below hb)
          replace g2 := g2.below hb g2.lt
          replace g3 := g3.below hb g3.lt
          clear hb hA c0 c1 c2 c3 c4 g1 HB15 HH15
          have hA := add_no (⟨(kk : Int), (M : Int) + 1, u, sumL u, sumL t⟩ : Pc) (by unfold mayB; rw [dataF_len, List.length_replicate, decide_eq_false (p := (M : Int) + 1 = (M : Int)) (by omega)]; simp) HH16.out
          have c0 := g2.cell 0
          have c1 := g2.cell 1
          have c2 := g2.cell 2
          have c3 := g2.cell 3
          have c4 := g2.cell 4
          simp only [List.getElem?_toArray, List.getElem?_cons_zero, List.getElem?_cons_succ] at c0 c1 c2 c3 c4
          go_wp2_with fail
          refine hA.mono ?_
          rintro e v6 ⟨rfl, hb⟩
          have HB17 := Lib.hid (HB16.out.trans (hb.mono HB16.out.size))
          have HH17 := Lib.hid (HH16.out.below hb)
          replace g3 := g3.below hb g3.lt
          clear hb hA c0 c1 c2 c3 c4 g2 HB16 HH16
          have hA := add_no (⟨(M : Int), (M : Int), u, sumL u, sumL t⟩ : Pc) (by unfold mayB; rw [decide_eq_false (p := (M : Int) < (M : Int)) (by omega)]; simp) HH17.out
          have c0 := g3.cell 0
          have c1 := g3.cell 1
          have c2 := g3.cell 2
          have c3 := g3.cell 3
          have c4 := g3.cell 4
          simp only [List.getElem?_toArray, List.getElem?_cons_zero, List.getElem?_cons_succ] at c0 c1 c2 c3 c4
          go_wp2_with fail
          refine hA.mono ?_
          rintro e v7 ⟨rfl, hb⟩
          have HB18 := Lib.hid (HB17.out.trans (hb.mono HB17.out.size))
          clear hb hA c0 c1 c2 c3 c4 g3 HB17 HH17
          go_wp2_with fail
          go_ret
          exact ⟨rfl, HB18.out⟩
        · go_simp
          have hx3 := Blk.new y1 PT #[.int .i64 0, .int .i64 0, .string ⟨#[]⟩, .string ⟨#[]⟩, .string ⟨#[]⟩]
          have hB2 := hB1.alloc hB1.size (.cells #[.int .i64 0, .int .i64 0, .string ⟨#[]⟩, .string ⟨#[]⟩, .string ⟨#[]⟩] PT)
          have l3 := hB1.size
          have n13 : x1 ≠ y1.heap.size := by have := hx1.lt; omega
          have n31 : y1.heap.size ≠ x1 := fun e => n13 e.symm
          replace hx1 := hx1.alloc (.cells #[.int .i64 0, .int .i64 0, .string ⟨#[]⟩, .string ⟨#[]⟩, .string ⟨#[]⟩] PT)
          generalize y1.alloc (.cells #[.int .i64 0, .int .i64 0, .string ⟨#[]⟩, .string ⟨#[]⟩, .string ⟨#[]⟩] PT) = y2 at *
          generalize y1.heap.size = x3 at hx3 l3 n13 n31 ⊢
          clear hB1
          refine hK.out _ _ (mk16 _ hB2) (fun hSw => ?_)
          clear hK K
          simp only [List.setIfInBounds_toArray, List.set_cons_zero, List.set_cons_succ]
          refine wpAnyH_ready (fuel := 3) (rs := [13]) (by kernel_rfl) (by simp) (AllReadyH.cons rfl (fun K hK => ?_) AllReadyH.nil)
          go_simp
          have hx2 := Blk.new y2 PT #[.int .i64 0, .int .i64 0, .string ⟨#[]⟩, .string ⟨#[]⟩, .string ⟨#[]⟩]
          have hB3 := hB2.alloc hB2.size (.cells #[.int .i64 0, .int .i64 0, .string ⟨#[]⟩, .string ⟨#[]⟩, .string ⟨#[]⟩] PT)
          have l2 := hB2.size
          have n12 : x1 ≠ y2.heap.size := by have := hx1.lt; omega
          have n21 : y2.heap.size ≠ x1 := fun e => n12 e.symm
          replace hx1 := hx1.alloc (.cells #[.int .i64 0, .int .i64 0, .string ⟨#[]⟩, .string ⟨#[]⟩, .string ⟨#[]⟩] PT)
          have n32 : x3 ≠ y2.heap.size := by have := hx3.lt; omega
          have n23 : y2.heap.size ≠ x3 := fun e => n32 e.symm
          replace hx3 := hx3.alloc (.cells #[.int .i64 0, .int .i64 0, .string ⟨#[]⟩, .string ⟨#[]⟩, .string ⟨#[]⟩] PT)
          generalize y2.alloc (.cells #[.int .i64 0, .int .i64 0, .string ⟨#[]⟩, .string ⟨#[]⟩, .string ⟨#[]⟩] PT) = y3 at *
          generalize y2.heap.size = x2 at hx2 l2 n12 n21 n32 n23 ⊢
          clear hB2
          have c0 := hx1.cell 0
          have c1 := hx1.cell 1
          have c2 := hx1.cell 2
          have c3 := hx1.cell 3
          have c4 := hx1.cell 4
          simp only [List.getElem?_toArray, List.getElem?_cons_zero, List.getElem?_cons_succ] at c0 c1 c2 c3 c4
          have f0 := hx1.free 0
          have f1 := hx1.free 1
          have f2 := hx1.free 2
          have f3 := hx1.free 3
          have f4 := hx1.free 4
          refine hK.out _ _ (mk16 _ hB3) (fun hSw => ?_)
          clear hK K
          simp only [List.setIfInBounds_toArray, List.set_cons_zero, List.set_cons_succ]
          refine wpAnyH_ready (fuel := 2) (rs := [15]) (by kernel_rfl) (by simp) (AllReadyH.cons rfl (fun K hK => ?_) AllReadyH.nil)
          go_simp
          have hB4 := below5 hB3 l1 0 1 2 3 4 (.int .i64 (kk : Int)) (.int .i64 (M : Int)) (.string (str u)) (.string (str (sumL u))) (.string (str (sumL t)))
          clear c0 c1 c2 c3 c4 f0 f1 f2 f3 f4
          replace hx1 := own5 hx1 (.int .i64 (kk : Int)) (.int .i64 (M : Int)) (.string (str u)) (.string (str (sumL u))) (.string (str (sumL t)))
          replace hx2 := far5 hx2 n21 0 1 2 3 4 (.int .i64 (kk : Int)) (.int .i64 (M : Int)) (.string (str u)) (.string (str (sumL u))) (.string (str (sumL t)))
          replace hx3 := far5 hx3 n31 0 1 2 3 4 (.int .i64 (kk : Int)) (.int .i64 (M : Int)) (.string (str u)) (.string (str (sumL u))) (.string (str (sumL t)))
          generalize (((((y3.setCell ⟨x1, 0, none⟩ (.int .i64 (kk : Int))).setCell ⟨x1, 1, none⟩ (.int .i64 (M : Int))).setCell ⟨x1, 2, none⟩ (.string (str u))).setCell ⟨x1, 3, none⟩ (.string (str (sumL u)))).setCell ⟨x1, 4, none⟩ (.string (str (sumL t)))) = y4 at *
          clear hB3
          have c0 := hx2.cell 0
          have c1 := hx2.cell 1
          have c2 := hx2.cell 2
          have c3 := hx2.cell 3
          have c4 := hx2.cell 4
          simp only [List.getElem?_toArray, List.getElem?_cons_zero, List.getElem?_cons_succ] at c0 c1 c2 c3 c4
          have f0 := hx2.free 0
          have f1 := hx2.free 1
          have f2 := hx2.free 2
          have f3 := hx2.free 3
          have f4 := hx2.free 4
          refine hK.out _ _ (mk16 _ hB4) (fun hSw => ?_)
          clear hK K
          simp only [List.setIfInBounds_toArray, List.set_cons_zero, List.set_cons_succ]
          refine wpAnyH_ready (fuel := 1) (rs := [16]) (by kernel_rfl) (by simp) (AllReadyH.cons rfl (fun K hK => ?_) AllReadyH.nil)
          go_simp
          have hB5 := below5 hB4 l2 0 1 2 3 4 (.int .i64 (kk : Int)) (.int .i64 (M : Int)) (.string (str u)) (.string (str (sumL u))) (.string (str (sumL t)))
          clear c0 c1 c2 c3 c4 f0 f1 f2 f3 f4
          replace hx1 := far5 hx1 n12 0 1 2 3 4 (.int .i64 (kk : Int)) (.int .i64 (M : Int)) (.string (str u)) (.string (str (sumL u))) (.string (str (sumL t)))
          replace hx2 := own5 hx2 (.int .i64 (kk : Int)) (.int .i64 (M : Int)) (.string (str u)) (.string (str (sumL u))) (.string (str (sumL t)))
          replace hx3 := far5 hx3 n32 0 1 2 3 4 (.int .i64 (kk : Int)) (.int .i64 (M : Int)) (.string (str u)) (.string (str (sumL u))) (.string (str (sumL t)))
          generalize (((((y4.setCell ⟨x2, 0, none⟩ (.int .i64 (kk : Int))).setCell ⟨x2, 1, none⟩ (.int .i64 (M : Int))).setCell ⟨x2, 2, none⟩ (.string (str u))).setCell ⟨x2, 3, none⟩ (.string (str (sumL u)))).setCell ⟨x2, 4, none⟩ (.string (str (sumL t)))) = y5 at *
          clear hB4
          have c0 := hx3.cell 0
          have c1 := hx3.cell 1
          have c2 := hx3.cell 2
          have c3 := hx3.cell 3
          have c4 := hx3.cell 4
          simp only [List.getElem?_toArray, List.getElem?_cons_zero, List.getElem?_cons_succ] at c0 c1 c2 c3 c4
          have f0 := hx3.free 0
          have f1 := hx3.free 1
          have f2 := hx3.free 2
          have f3 := hx3.free 3
          have f4 := hx3.free 4
          refine hK.out _ _ (mk16 _ hB5) (fun hSw => ?_)
          clear hK K
          simp only [List.setIfInBounds_toArray, List.set_cons_zero, List.set_cons_succ]
          refine wpAnyH_ready (fuel := 0) (rs := [17]) (by kernel_rfl) (by simp) (AllReadyH.cons rfl (fun K hK => ?_) AllReadyH.nil)
          go_simp
          have hB6 := below5 hB5 l3 0 1 2 3 4 (.int .i64 (kk : Int)) (.int .i64 (M : Int)) (.string (str u)) (.string (str (sumL u))) (.string (str (sumL t)))
          clear c0 c1 c2 c3 c4 f0 f1 f2 f3 f4
          replace hx1 := far5 hx1 n13 0 1 2 3 4 (.int .i64 (kk : Int)) (.int .i64 (M : Int)) (.string (str u)) (.string (str (sumL u))) (.string (str (sumL t)))
          replace hx2 := far5 hx2 n23 0 1 2 3 4 (.int .i64 (kk : Int)) (.int .i64 (M : Int)) (.string (str u)) (.string (str (sumL u))) (.string (str (sumL t)))
          replace hx3 := own5 hx3 (.int .i64 (kk : Int)) (.int .i64 (M : Int)) (.string (str u)) (.string (str (sumL u))) (.string (str (sumL t)))
          generalize (((((y5.setCell ⟨x3, 0, none⟩ (.int .i64 (kk : Int))).setCell ⟨x3, 1, none⟩ (.int .i64 (M : Int))).setCell ⟨x3, 2, none⟩ (.string (str u))).setCell ⟨x3, 3, none⟩ (.string (str (sumL u)))).setCell ⟨x3, 4, none⟩ (.string (str (sumL t)))) = y6 at *
          clear hB5
          refine hK.out _ _ (mk16 _ hB6) (fun hSw => ?_)
          clear hK K
          simp only [List.setIfInBounds_toArray, List.set_cons_zero, List.set_cons_succ]
          refine wpAnyH_done (by kernel_rfl) ⟨rfl, ?_⟩ 0
          clear hSw mk16
          have HX11 := Lib.hid (HX10.out.below hB6 HX10.out.lt)
          have HB11 := Lib.hid (HB10.out.trans (hB6.mono HB10.out.size))
          have HH11 := Lib.hid (HH10.out.below hB6)
          have HLX : Hid (w.heap.size ≤ x1 ∧ w.heap.size ≤ x2 ∧ w.heap.size ≤ x3 ∧ b < x1 ∧ gd < x1 ∧ gt < x1 ∧ b < x2 ∧ gd < x2 ∧ gt < x2 ∧ b < x3 ∧ gd < x3 ∧ gt < x3) := Lib.hid (by have := HB10.out.size; have := HH10.out.lt; omega)
          clear hB6 HX10 HB10 HH10 l1 l2 l3
          go_wp2_with fail
          refine (hS2 _).mono ?_
          rintro e v1 ⟨rfl, hb⟩
          have HB12 := Lib.hid (HB11.out.trans (hb.mono HB11.out.size))
          have HH12 := Lib.hid (HH11.out.below hb)
          have hx1' := hx1.below hb hx1.lt
          have hx2' := hx2.below hb hx2.lt
          have hx3' := hx3.below hb hx3.lt
          clear hb hx1 hx2 hx3 HB11 HH11 HX11 hS2
          have c4 := hx1'.cell 4
          simp only [List.getElem?_toArray, List.getElem?_cons_zero, List.getElem?_cons_succ] at c4
          have f4 := hx1'.free 4
          go_upto_region 18 with (fail)
          clear c4 f4
          have k1 := (Ks.refl (fun x => x = x1) v1).set1 4 (.string (str (sumL Simdy.otherT)))
          have HB13 := Lib.hid (k1.below HB12.out (by have := HLX.out; omega))
          have HH13 := Lib.hid (HH12.out.ks k1 (by have := HLX.out; omega) (by have := HLX.out; omega) (by have := HLX.out; omega))
          have hx1 := hx1'.put 4 (.string (str (sumL Simdy.otherT)))
          have hx2 := hx2'.far n21 (p := ⟨x1, 4, none⟩) (.string (str (sumL Simdy.otherT)))
          have hx3 := hx3'.far n31 (p := ⟨x1, 4, none⟩) (.string (str (sumL Simdy.otherT)))
          clear k1 HB12 HH12 hx1' hx2' hx3'
          generalize v1.setCell ⟨x1, 4, none⟩ (.string (str (sumL Simdy.otherT))) = v2 at *
          have c1 := hx2.cell 1
          simp only [List.getElem?_toArray, List.getElem?_cons_zero, List.getElem?_cons_succ] at c1
          have f1 := hx2.free 1
          go_upto_region 19 with (fail)
          clear c1 f1
          have k1 := (Ks.refl (fun x => x = x2) v2).set1 1 (.int .i64 ((M : Int) + 1))
          have HB14 := Lib.hid (k1.below HB13.out (by have := HLX.out; omega))
          have HH14 := Lib.hid (HH13.out.ks k1 (by have := HLX.out; omega) (by have := HLX.out; omega) (by have := HLX.out; omega))
          have hx2' := hx2.put 1 (.int .i64 ((M : Int) + 1))
          have hx1' := hx1.far n12 (p := ⟨x2, 1, none⟩) (.int .i64 ((M : Int) + 1))
          have hx3' := hx3.far n32 (p := ⟨x2, 1, none⟩) (.int .i64 ((M : Int) + 1))
          clear k1 HB13 HH13 hx1 hx2 hx3
          generalize v2.setCell ⟨x2, 1, none⟩ (.int .i64 ((M : Int) + 1)) = v3 at *
          have c0 := hx3'.cell 0
          simp only [List.getElem?_toArray, List.getElem?_cons_zero] at c0
          have f0 := hx3'.free 0
          go_upto_region 20 with (fail)
          clear c0 f0
          have k1 := (Ks.refl (fun x => x = x3) v3).set1 0 (.int .i64 (M : Int))
          have HB15 := Lib.hid (k1.below HB14.out (by have := HLX.out; omega))
          have HH15 := Lib.hid (HH14.out.ks k1 (by have := HLX.out; omega) (by have := HLX.out; omega) (by have := HLX.out; omega))
          have hx3 := hx3'.put 0 (.int .i64 (M : Int))
          have hx1 := hx1'.far n13 (p := ⟨x3, 0, none⟩) (.int .i64 (M : Int))
          have hx2 := hx2'.far n23 (p := ⟨x3, 0, none⟩) (.int .i64 (M : Int))
          clear k1 HB14 HH14 hx1' hx2' hx3'
          generalize v3.setCell ⟨x3, 0, none⟩ (.int .i64 (M : Int)) = v4 at *
          have hA := add_no (⟨(kk : Int), (M : Int), u, sumL u, sumL Simdy.otherT⟩ : Pc) (by unfold mayB; rw [decide_eq_false (p := sumL Simdy.otherT = sumL t) (fun e => HNE.out e.symm)]; simp) HH15.out
          have g1 : Blk v4 x1 PT #[.int .i64 (kk : Int), .int .i64 (M : Int), .string (str u), .string (str (sumL u)), .string (str (sumL Simdy.otherT))] := hx1
          have g2 : Blk v4 x2 PT #[.int .i64 (kk : Int), .int .i64 ((M : Int) + 1), .string (str u), .string (str (sumL u)), .string (str (sumL t))] := hx2
          have g3 : Blk v4 x3 PT #[.int .i64 (M : Int), .int .i64 (M : Int), .string (str u), .string (str (sumL u)), .string (str (sumL t))] := hx3
          clear hx1 hx2 hx3
          have c0 := g1.cell 0
          have c1 := g1.cell 1
          have c2 := g1.cell 2
          have c3 := g1.cell 3
          have c4 := g1.cell 4
          simp only [List.getElem?_toArray, List.getElem?_cons_zero, List.getElem?_cons_succ] at c0 c1 c2 c3 c4
          go_wp2_with fail
          refine hA.mono ?_
          rintro e v5 ⟨rfl, hb⟩
          have HB16 := Lib.hid (HB15.out.trans (hb.mono HB15.out.size))
          have HH16 := Lib.hid (HH15.out.below hb)
          replace g2 := g2.below hb g2.lt
          replace g3 := g3.below hb g3.lt
          clear hb hA c0 c1 c2 c3 c4 g1 HB15 HH15
          have hA := add_no (⟨(kk : Int), (M : Int) + 1, u, sumL u, sumL t⟩ : Pc) (by unfold mayB; rw [dataF_len, List.length_replicate, decide_eq_false (p := (M : Int) + 1 = (M : Int)) (by omega)]; simp) HH16.out
          have c0 := g2.cell 0
          have c1 := g2.cell 1
          have c2 := g2.cell 2
          have c3 := g2.cell 3
          have c4 := g2.cell 4
          simp only [List.getElem?_toArray, List.getElem?_cons_zero, List.getElem?_cons_succ] at c0 c1 c2 c3 c4
          go_wp2_with fail
          refine hA.mono ?_
          rintro e v6 ⟨rfl, hb⟩
          have HB17 := Lib.hid (HB16.out.trans (hb.mono HB16.out.size))
          have HH17 := Lib.hid (HH16.out.below hb)
          replace g3 := g3.below hb g3.lt
          clear hb hA c0 c1 c2 c3 c4 g2 HB16 HH16
          have hA := add_no (⟨(M : Int), (M : Int), u, sumL u, sumL t⟩ : Pc) (by unfold mayB; rw [decide_eq_false (p := (M : Int) < (M : Int)) (by omega)]; simp) HH17.out
          have c0 := g3.cell 0
          have c1 := g3.cell 1
          have c2 := g3.cell 2
          have c3 := g3.cell 3
          have c4 := g3.cell 4
          simp only [List.getElem?_toArray, List.getElem?_cons_zero, List.getElem?_cons_succ] at c0 c1 c2 c3 c4
          go_wp2_with fail
          refine hA.mono ?_
          rintro e v7 ⟨rfl, hb⟩
          have HB18 := Lib.hid (HB17.out.trans (hb.mono HB17.out.size))
          clear hb hA c0 c1 c2 c3 c4 g3 HB17 HH17
          go_wp2_with fail
          go_ret
          exact ⟨rfl, HB18.out⟩
      · go_simp
        have hx2 := Blk.new y0 PT #[.int .i64 0, .int .i64 0, .string ⟨#[]⟩, .string ⟨#[]⟩, .string ⟨#[]⟩]
        have hB1 := hB0.alloc hB0.size (.cells #[.int .i64 0, .int .i64 0, .string ⟨#[]⟩, .string ⟨#[]⟩, .string ⟨#[]⟩] PT)
        have l2 := hB0.size
        generalize y0.alloc (.cells #[.int .i64 0, .int .i64 0, .string ⟨#[]⟩, .string ⟨#[]⟩, .string ⟨#[]⟩] PT) = y1 at *
        generalize y0.heap.size = x2 at hx2 l2 ⊢
        clear hB0
        refine hK.out _ _ (mk16 _ hB1) (fun hSw => ?_)
        clear hK K
        simp only [List.setIfInBounds_toArray, List.set_cons_zero, List.set_cons_succ]
        refine wpAnyH_ready (fuel := 4) (rs := [12, 14]) (by kernel_rfl) (by simp) (AllReadyH.cons rfl (fun K hK => ?_) (AllReadyH.cons rfl (fun K hK => ?_) AllReadyH.nil))
        · go_simp
          have hx1 := Blk.new y1 PT #[.int .i64 0, .int .i64 0, .string ⟨#[]⟩, .string ⟨#[]⟩, .string ⟨#[]⟩]
          have hB2 := hB1.alloc hB1.size (.cells #[.int .i64 0, .int .i64 0, .string ⟨#[]⟩, .string ⟨#[]⟩, .string ⟨#[]⟩] PT)
          have l1 := hB1.size
          have n21 : x2 ≠ y1.heap.size := by have := hx2.lt; omega
          have n12 : y1.heap.size ≠ x2 := fun e => n21 e.symm
          replace hx2 := hx2.alloc (.cells #[.int .i64 0, .int .i64 0, .string ⟨#[]⟩, .string ⟨#[]⟩, .string ⟨#[]⟩] PT)
          generalize y1.alloc (.cells #[.int .i64 0, .int .i64 0, .string ⟨#[]⟩, .string ⟨#[]⟩, .string ⟨#[]⟩] PT) = y2 at *
          generalize y1.heap.size = x1 at hx1 l1 n21 n12 ⊢
          clear hB1
          refine hK.out _ _ (mk16 _ hB2) (fun hSw => ?_)
          clear hK K
          simp only [List.setIfInBounds_toArray, List.set_cons_zero, List.set_cons_succ]
          refine wpAnyH_ready (fuel := 3) (rs := [14]) (by kernel_rfl) (by simp) (AllReadyH.cons rfl (fun K hK => ?_) AllReadyH.nil)
          go_simp
          have hx3 := Blk.new y2 PT #[.int .i64 0, .int .i64 0, .string ⟨#[]⟩, .string ⟨#[]⟩, .string ⟨#[]⟩]
          have hB3 := hB2.alloc hB2.size (.cells #[.int .i64 0, .int .i64 0, .string ⟨#[]⟩, .string ⟨#[]⟩, .string ⟨#[]⟩] PT)
          have l3 := hB2.size
          have n23 : x2 ≠ y2.heap.size := by have := hx2.lt; omega
          have n32 : y2.heap.size ≠ x2 := fun e => n23 e.symm
          replace hx2 := hx2.alloc (.cells #[.int .i64 0, .int .i64 0, .string ⟨#[]⟩, .string ⟨#[]⟩, .string ⟨#[]⟩] PT)
          have n13 : x1 ≠ y2.heap.size := by have := hx1.lt; omega
          have n31 : y2.heap.size ≠ x1 := fun e => n13 e.symm
          replace hx1 := hx1.alloc (.cells #[.int .i64 0, .int .i64 0, .string ⟨#[]⟩, .string ⟨#[]⟩, .string ⟨#[]⟩] PT)
          generalize y2.alloc (.cells #[.int .i64 0, .int .i64 0, .string ⟨#[]⟩, .string ⟨#[]⟩, .string ⟨#[]⟩] PT) = y3 at *
          generalize y2.heap.size = x3 at hx3 l3 n23 n32 n13 n31 ⊢
          clear hB2
          have c0 := hx1.cell 0
          have c1 := hx1.cell 1
          have c2 := hx1.cell 2
          have c3 := hx1.cell 3
          have c4 := hx1.cell 4
          simp only [List.getElem?_toArray, List.getElem?_cons_zero, List.getElem?_cons_succ] at c0 c1 c2 c3 c4
          have f0 := hx1.free 0
          have f1 := hx1.free 1
          have f2 := hx1.free 2
          have f3 := hx1.free 3
          have f4 := hx1.free 4
          refine hK.out _ _ (mk16 _ hB3) (fun hSw => ?_)
          clear hK K
          simp only [List.setIfInBounds_toArray, List.set_cons_zero, List.set_cons_succ]
          refine wpAnyH_ready (fuel := 2) (rs := [15]) (by kernel_rfl) (by simp) (AllReadyH.cons rfl (fun K hK => ?_) AllReadyH.nil)
          go_simp
          have hB4 := below5 hB3 l1 0 1 2 3 4 (.int .i64 (kk : Int)) (.int .i64 (M : Int)) (.string (str u)) (.string (str (sumL u))) (.string (str (sumL t)))
          clear c0 c1 c2 c3 c4 f0 f1 f2 f3 f4
          replace hx1 := own5 hx1 (.int .i64 (kk : Int)) (.int .i64 (M : Int)) (.string (str u)) (.string (str (sumL u))) (.string (str (sumL t)))
          replace hx2 := far5 hx2 n21 0 1 2 3 4 (.int .i64 (kk : Int)) (.int .i64 (M : Int)) (.string (str u)) (.string (str (sumL u))) (.string (str (sumL t)))
          replace hx3 := far5 hx3 n31 0 1 2 3 4 (.int .i64 (kk : Int)) (.int .i64 (M : Int)) (.string (str u)) (.string (str (sumL u))) (.string (str (sumL t)))
          generalize (((((y3.setCell ⟨x1, 0, none⟩ (.int .i64 (kk : Int))).setCell ⟨x1, 1, none⟩ (.int .i64 (M : Int))).setCell ⟨x1, 2, none⟩ (.string (str u))).setCell ⟨x1, 3, none⟩ (.string (str (sumL u)))).setCell ⟨x1, 4, none⟩ (.string (str (sumL t)))) = y4 at *
          clear hB3
          have c0 := hx2.cell 0
          have c1 := hx2.cell 1
          have c2 := hx2.cell 2
          have c3 := hx2.cell 3
          have c4 := hx2.cell 4
          simp only [List.getElem?_toArray, List.getElem?_cons_zero, List.getElem?_cons_succ] at c0 c1 c2 c3 c4
          have f0 := hx2.free 0
          have f1 := hx2.free 1
          have f2 := hx2.free 2
          have f3 := hx2.free 3
          have f4 := hx2.free 4
          refine hK.out _ _ (mk16 _ hB4) (fun hSw => ?_)
          clear hK K
          simp only [List.setIfInBounds_toArray, List.set_cons_zero, List.set_cons_succ]
          refine wpAnyH_ready (fuel := 1) (rs := [16]) (by kernel_rfl) (by simp) (AllReadyH.cons rfl (fun K hK => ?_) AllReadyH.nil)
          go_simp
          have hB5 := below5 hB4 l2 0 1 2 3 4 (.int .i64 (kk : Int)) (.int .i64 (M : Int)) (.string (str u)) (.string (str (sumL u))) (.string (str (sumL t)))
          clear c0 c1 c2 c3 c4 f0 f1 f2 f3 f4
          replace hx1 := far5 hx1 n12 0 1 2 3 4 (.int .i64 (kk : Int)) (.int .i64 (M : Int)) (.string (str u)) (.string (str (sumL u))) (.string (str (sumL t)))
          replace hx2 := own5 hx2 (.int .i64 (kk : Int)) (.int .i64 (M : Int)) (.string (str u)) (.string (str (sumL u))) (.string (str (sumL t)))
          replace hx3 := far5 hx3 n32 0 1 2 3 4 (.int .i64 (kk : Int)) (.int .i64 (M : Int)) (.string (str u)) (.string (str (sumL u))) (.string (str (sumL t)))
          generalize (((((y4.setCell ⟨x2, 0, none⟩ (.int .i64 (kk : Int))).setCell ⟨x2, 1, none⟩ (.int .i64 (M : Int))).setCell ⟨x2, 2, none⟩ (.string (str u))).setCell ⟨x2, 3, none⟩ (.string (str (sumL u)))).setCell ⟨x2, 4, none⟩ (.string (str (sumL t)))) = y5 at *
          clear hB4
          have c0 := hx3.cell 0
          have c1 := hx3.cell 1
          have c2 := hx3.cell 2
          have c3 := hx3.cell 3
          have c4 := hx3.cell 4
          simp only [List.getElem?_toArray, List.getElem?_cons_zero, List.getElem?_cons_succ] at c0 c1 c2 c3 c4
          have f0 := hx3.free 0
          have f1 := hx3.free 1
          have f2 := hx3.free 2
          have f3 := hx3.free 3
          have f4 := hx3.free 4
          refine hK.out _ _ (mk16 _ hB5) (fun hSw => ?_)
          clear hK K
          simp only [List.setIfInBounds_toArray, List.set_cons_zero, List.set_cons_succ]
          refine wpAnyH_ready (fuel := 0) (rs := [17]) (by kernel_rfl) (by simp) (AllReadyH.cons rfl (fun K hK => ?_) AllReadyH.nil)
          go_simp
          have hB6 := below5 hB5 l3 0 1 2 3 4 (.int .i64 (kk : Int)) (.int .i64 (M : Int)) (.string (str u)) (.string (str (sumL u))) (.string (str (sumL t)))
          clear c0 c1 c2 c3 c4 f0 f1 f2 f3 f4
          replace hx1 := far5 hx1 n13 0 1 2 3 4 (.int .i64 (kk : Int)) (.int .i64 (M : Int)) (.string (str u)) (.string (str (sumL u))) (.string (str (sumL t)))
          replace hx2 := far5 hx2 n23 0 1 2 3 4 (.int .i64 (kk : Int)) (.int .i64 (M : Int)) (.string (str u)) (.string (str (sumL u))) (.string (str (sumL t)))
          replace hx3 := own5 hx3 (.int .i64 (kk : Int)) (.int .i64 (M : Int)) (.string (str u)) (.string (str (sumL u))) (.string (str (sumL t)))
          generalize (((((y5.setCell ⟨x3, 0, none⟩ (.int .i64 (kk : Int))).setCell ⟨x3, 1, none⟩ (.int .i64 (M : Int))).setCell ⟨x3, 2, none⟩ (.string (str u))).setCell ⟨x3, 3, none⟩ (.string (str (sumL u)))).setCell ⟨x3, 4, none⟩ (.string (str (sumL t)))) = y6 at *
          clear hB5
          refine hK.out _ _ (mk16 _ hB6) (fun hSw => ?_)
          clear hK K
          simp only [List.setIfInBounds_toArray, List.set_cons_zero, List.set_cons_succ]
          refine wpAnyH_done (by kernel_rfl) ⟨rfl, ?_⟩ 0
          clear hSw mk16
          have HX11 := Lib.hid (HX10.out.below hB6 HX10.out.lt)
          have HB11 := Lib.hid (HB10.out.trans (hB6.mono HB10.out.size))
          have HH11 := Lib.hid (HH10.out.below hB6)
          have HLX : Hid (w.heap.size ≤ x1 ∧ w.heap.size ≤ x2 ∧ w.heap.size ≤ x3 ∧ b < x1 ∧ gd < x1 ∧ gt < x1 ∧ b < x2 ∧ gd < x2 ∧ gt < x2 ∧ b < x3 ∧ gd < x3 ∧ gt < x3) := Lib.hid (by have := HB10.out.size; have := HH10.out.lt; omega)
          clear hB6 HX10 HB10 HH10 l1 l2 l3
          go_wp2_with fail
          refine (hS2 _).mono ?_
          rintro e v1 ⟨rfl, hb⟩
          have HB12 := Lib.hid (HB11.out.trans (hb.mono HB11.out.size))
          have HH12 := Lib.hid (HH11.out.below hb)
          have hx1' := hx1.below hb hx1.lt
          have hx2' := hx2.below hb hx2.lt
          have hx3' := hx3.below hb hx3.lt
          clear hb hx1 hx2 hx3 HB11 HH11 HX11 hS2
          have c4 := hx1'.cell 4
          simp only [List.getElem?_toArray, List.getElem?_cons_zero, List.getElem?_cons_succ] at c4
          have f4 := hx1'.free 4
          go_upto_region 18 with (fail)
          clear c4 f4
          have k1 := (Ks.refl (fun x => x = x1) v1).set1 4 (.string (str (sumL Simdy.otherT)))
          have HB13 := Lib.hid (k1.below HB12.out (by have := HLX.out; omega))
          have HH13 := Lib.hid (HH12.out.ks k1 (by have := HLX.out; omega) (by have := HLX.out; omega) (by have := HLX.out; omega))
          have hx1 := hx1'.put 4 (.string (str (sumL Simdy.otherT)))
          have hx2 := hx2'.far n21 (p := ⟨x1, 4, none⟩) (.string (str (sumL Simdy.otherT)))
          have hx3 := hx3'.far n31 (p := ⟨x1, 4, none⟩) (.string (str (sumL Simdy.otherT)))
          clear k1 HB12 HH12 hx1' hx2' hx3'
          generalize v1.setCell ⟨x1, 4, none⟩ (.string (str (sumL Simdy.otherT))) = v2 at *
          have c1 := hx2.cell 1
          simp only [List.getElem?_toArray, List.getElem?_cons_zero, List.getElem?_cons_succ] at c1
          have f1 := hx2.free 1
          go_upto_region 19 with (fail)
          clear c1 f1
          have k1 := (Ks.refl (fun x => x = x2) v2).set1 1 (.int .i64 ((M : Int) + 1))
          have HB14 := Lib.hid (k1.below HB13.out (by have := HLX.out; omega))
          have HH14 := Lib.hid (HH13.out.ks k1 (by have := HLX.out; omega) (by have := HLX.out; omega) (by have := HLX.out; omega))
          have hx2' := hx2.put 1 (.int .i64 ((M : Int) + 1))
          have hx1' := hx1.far n12 (p := ⟨x2, 1, none⟩) (.int .i64 ((M : Int) + 1))
          have hx3' := hx3.far n32 (p := ⟨x2, 1, none⟩) (.int .i64 ((M : Int) + 1))
          clear k1 HB13 HH13 hx1 hx2 hx3
          generalize v2.setCell ⟨x2, 1, none⟩ (.int .i64 ((M : Int) + 1)) = v3 at *
          have c0 := hx3'.cell 0
          simp only [List.getElem?_toArray, List.getElem?_cons_zero] at c0
          have f0 := hx3'.free 0
          go_upto_region 20 with (fail)
          clear c0 f0
          have k1 := (Ks.refl (fun x => x = x3) v3).set1 0 (.int .i64 (M : Int))
          have HB15 := Lib.hid (k1.below HB14.out (by have := HLX.out; omega))
          have HH15 := Lib.hid (HH14.out.ks k1 (by have := HLX.out; omega) (by have := HLX.out; omega) (by have := HLX.out; omega))
          have hx3 := hx3'.put 0 (.int .i64 (M : Int))
          have hx1 := hx1'.far n13 (p := ⟨x3, 0, none⟩) (.int .i64 (M : Int))
          have hx2 := hx2'.far n23 (p := ⟨x3, 0, none⟩) (.int .i64 (M : Int))
          clear k1 HB14 HH14 hx1' hx2' hx3'
          generalize v3.setCell ⟨x3, 0, none⟩ (.int .i64 (M : Int)) = v4 at *
          have hA := add_no (⟨(kk : Int), (M : Int), u, sumL u, sumL Simdy.otherT⟩ : Pc) (by unfold mayB; rw [decide_eq_false (p := sumL Simdy.otherT = sumL t) (fun e => HNE.out e.symm)]; simp) HH15.out
          have g1 : Blk v4 x1 PT #[.int .i64 (kk : Int), .int .i64 (M : Int), .string (str u), .string (str (sumL u)), .string (str (sumL Simdy.otherT))] := hx1
          have g2 : Blk v4 x2 PT #[.int .i64 (kk : Int), .int .i64 ((M : Int) + 1), .string (str u), .string (str (sumL u)), .string (str (sumL t))] := hx2
          have g3 : Blk v4 x3 PT #[.int .i64 (M : Int), .int .i64 (M : Int), .string (str u), .string (str (sumL u)), .string (str (sumL t))] := hx3
          clear hx1 hx2 hx3
          have c0 := g1.cell 0
          have c1 := g1.cell 1
          have c2 := g1.cell 2
          have c3 := g1.cell 3
          have c4 := g1.cell 4
          simp only [List.getElem?_toArray, List.getElem?_cons_zero, List.getElem?_cons_succ] at c0 c1 c2 c3 c4
          go_wp2_with fail
          refine hA.mono ?_
          rintro e v5 ⟨rfl, hb⟩
          have HB16 := Lib.hid (HB15.out.trans (hb.mono HB15.out.size))
          have HH16 := Lib.hid (HH15.out.below hb)
          replace g2 := g2.below hb g2.lt
          replace g3 := g3.below hb g3.lt
          clear hb hA c0 c1 c2 c3 c4 g1 HB15 HH15
          have hA := add_no (⟨(kk : Int), (M : Int) + 1, u, sumL u, sumL t⟩ : Pc) (by unfold mayB; rw [dataF_len, List.length_replicate, decide_eq_false (p := (M : Int) + 1 = (M : Int)) (by omega)]; simp) HH16.out
          have c0 := g2.cell 0
          have c1 := g2.cell 1
          have c2 := g2.cell 2
          have c3 := g2.cell 3
          have c4 := g2.cell 4
          simp only [List.getElem?_toArray, List.getElem?_cons_zero, List.getElem?_cons_succ] at c0 c1 c2 c3 c4
          go_wp2_with fail
          refine hA.mono ?_
          rintro e v6 ⟨rfl, hb⟩
          have HB17 := Lib.hid (HB16.out.trans (hb.mono HB16.out.size))
          have HH17 := Lib.hid (HH16.out.below hb)
          replace g3 := g3.below hb g3.lt
          clear hb hA c0 c1 c2 c3 c4 g2 HB16 HH16
          have hA := add_no (⟨(M : Int), (M : Int), u, sumL u, sumL t⟩ : Pc) (by unfold mayB; rw [decide_eq_false (p := (M : Int) < (M : Int)) (by omega)]; simp) HH17.out
          have c0 := g3.cell 0
          have c1 := g3.cell 1
          have c2 := g3.cell 2
          have c3 := g3.cell 3
          have c4 := g3.cell 4
          simp only [List.getElem?_toArray, List.getElem?_cons_zero, List.getElem?_cons_succ] at c0 c1 c2 c3 c4
          go_wp2_with fail
          refine hA.mono ?_
          rintro e v7 ⟨rfl, hb⟩
          have HB18 := Lib.hid (HB17.out.trans (hb.mono HB17.out.size))
          clear hb hA c0 c1 c2 c3 c4 g3 HB17 HH17
          go_wp2_with fail
          go_ret
          exact ⟨rfl, HB18.out⟩
        · go_simp
          have hx3 := Blk.new y1 PT #[.int .i64 0, .int .i64 0, .string ⟨#[]⟩, .string ⟨#[]⟩, .string ⟨#[]⟩]
          have hB2 := hB1.alloc hB1.size (.cells #[.int .i64 0, .int .i64 0, .string ⟨#[]⟩, .string ⟨#[]⟩, .string ⟨#[]⟩] PT)
          have l3 := hB1.size
          have n23 : x2 ≠ y1.heap.size := by have := hx2.lt; omega
          have n32 : y1.heap.size ≠ x2 := fun e => n23 e.symm
          replace hx2 := hx2.alloc (.cells #[.int .i64 0, .int .i64 0, .string ⟨#[]⟩, .string ⟨#[]⟩, .string ⟨#[]⟩] PT)
          generalize y1.alloc (.cells #[.int .i64 0, .int .i64 0, .string ⟨#[]⟩, .string ⟨#[]⟩, .string ⟨#[]⟩] PT) = y2 at *
          generalize y1.heap.size = x3 at hx3 l3 n23 n32 ⊢
          clear hB1
          refine hK.out _ _ (mk16 _ hB2) (fun hSw => ?_)
          clear hK K
          simp only [List.setIfInBounds_toArray, List.set_cons_zero, List.set_cons_succ]
          refine wpAnyH_ready (fuel := 3) (rs := [12]) (by kernel_rfl) (by simp) (AllReadyH.cons rfl (fun K hK => ?_) AllReadyH.nil)
          go_simp
          have hx1 := Blk.new y2 PT #[.int .i64 0, .int .i64 0, .string ⟨#[]⟩, .string ⟨#[]⟩, .string ⟨#[]⟩]
          have hB3 := hB2.alloc hB2.size (.cells #[.int .i64 0, .int .i64 0, .string ⟨#[]⟩, .string ⟨#[]⟩, .string ⟨#[]⟩] PT)
          have l1 := hB2.size
          have n21 : x2 ≠ y2.heap.size := by have := hx2.lt; omega
          have n12 : y2.heap.size ≠ x2 := fun e => n21 e.symm
          replace hx2 := hx2.alloc (.cells #[.int .i64 0, .int .i64 0, .string ⟨#[]⟩, .string ⟨#[]⟩, .string ⟨#[]⟩] PT)
          have n31 : x3 ≠ y2.heap.size := by have := hx3.lt; omega
          have n13 : y2.heap.size ≠ x3 := fun e => n31 e.symm
          replace hx3 := hx3.alloc (.cells #[.int .i64 0, .int .i64 0, .string ⟨#[]⟩, .string ⟨#[]⟩, .string ⟨#[]⟩] PT)
          generalize y2.alloc (.cells #[.int .i64 0, .int .i64 0, .string ⟨#[]⟩, .string ⟨#[]⟩, .string ⟨#[]⟩] PT) = y3 at *
          generalize y2.heap.size = x1 at hx1 l1 n21 n12 n31 n13 ⊢
          clear hB2
          have c0 := hx1.cell 0
          have c1 := hx1.cell 1
          have c2 := hx1.cell 2
          have c3 := hx1.cell 3
          have c4 := hx1.cell 4
          simp only [List.getElem?_toArray, List.getElem?_cons_zero, List.getElem?_cons_succ] at c0 c1 c2 c3 c4
          have f0 := hx1.free 0
          have f1 := hx1.free 1
          have f2 := hx1.free 2
          have f3 := hx1.free 3
          have f4 := hx1.free 4
          refine hK.out _ _ (mk16 _ hB3) (fun hSw => ?_)
          clear hK K
          simp only [List.setIfInBounds_toArray, List.set_cons_zero, List.set_cons_succ]
          refine wpAnyH_ready (fuel := 2) (rs := [15]) (by kernel_rfl) (by simp) (AllReadyH.cons rfl (fun K hK => ?_) AllReadyH.nil)
          go_simp
          have hB4 := below5 hB3 l1 0 1 2 3 4 (.int .i64 (kk : Int)) (.int .i64 (M : Int)) (.string (str u)) (.string (str (sumL u))) (.string (str (sumL t)))
          clear c0 c1 c2 c3 c4 f0 f1 f2 f3 f4
          replace hx1 := own5 hx1 (.int .i64 (kk : Int)) (.int .i64 (M : Int)) (.string (str u)) (.string (str (sumL u))) (.string (str (sumL t)))
          replace hx2 := far5 hx2 n21 0 1 2 3 4 (.int .i64 (kk : Int)) (.int .i64 (M : Int)) (.string (str u)) (.string (str (sumL u))) (.string (str (sumL t)))
          replace hx3 := far5 hx3 n31 0 1 2 3 4 (.int .i64 (kk : Int)) (.int .i64 (M : Int)) (.string (str u)) (.string (str (sumL u))) (.string (str (sumL t)))
          generalize (((((y3.setCell ⟨x1, 0, none⟩ (.int .i64 (kk : Int))).setCell ⟨x1, 1, none⟩ (.int .i64 (M : Int))).setCell ⟨x1, 2, none⟩ (.string (str u))).setCell ⟨x1, 3, none⟩ (.string (str (sumL u)))).setCell ⟨x1, 4, none⟩ (.string (str (sumL t)))) = y4 at *
          clear hB3
          have c0 := hx2.cell 0
          have c1 := hx2.cell 1
          have c2 := hx2.cell 2
          have c3 := hx2.cell 3
          have c4 := hx2.cell 4
          simp only [List.getElem?_toArray, List.getElem?_cons_zero, List.getElem?_cons_succ] at c0 c1 c2 c3 c4
          have f0 := hx2.free 0
          have f1 := hx2.free 1
          have f2 := hx2.free 2
          have f3 := hx2.free 3
          have f4 := hx2.free 4
          refine hK.out _ _ (mk16 _ hB4) (fun hSw => ?_)
          clear hK K
          simp only [List.setIfInBounds_toArray, List.set_cons_zero, List.set_cons_succ]
          refine wpAnyH_ready (fuel := 1) (rs := [16]) (by kernel_rfl) (by simp) (AllReadyH.cons rfl (fun K hK => ?_) AllReadyH.nil)
          go_simp
          have hB5 := below5 hB4 l2 0 1 2 3 4 (.int .i64 (kk : Int)) (.int .i64 (M : Int)) (.string (str u)) (.string (str (sumL u))) (.string (str (sumL t)))
          clear c0 c1 c2 c3 c4 f0 f1 f2 f3 f4
          replace hx1 := far5 hx1 n12 0 1 2 3 4 (.int .i64 (kk : Int)) (.int .i64 (M : Int)) (.string (str u)) (.string (str (sumL u))) (.string (str (sumL t)))
          replace hx2 := own5 hx2 (.int .i64 (kk : Int)) (.int .i64 (M : Int)) (.string (str u)) (.string (str (sumL u))) (.string (str (sumL t)))
          replace hx3 := far5 hx3 n32 0 1 2 3 4 (.int .i64 (kk : Int)) (.int .i64 (M : Int)) (.string (str u)) (.string (str (sumL u))) (.string (str (sumL t)))
          generalize (((((y4.setCell ⟨x2, 0, none⟩ (.int .i64 (kk : Int))).setCell ⟨x2, 1, none⟩ (.int .i64 (M : Int))).setCell ⟨x2, 2, none⟩ (.string (str u))).setCell ⟨x2, 3, none⟩ (.string (str (sumL u)))).setCell ⟨x2, 4, none⟩ (.string (str (sumL t)))) = y5 at *
          clear hB4
          have c0 := hx3.cell 0
          have c1 := hx3.cell 1
          have c2 := hx3.cell 2
          have c3 := hx3.cell 3
          have c4 := hx3.cell 4
          simp only [List.getElem?_toArray, List.getElem?_cons_zero, List.getElem?_cons_succ] at c0 c1 c2 c3 c4
          have f0 := hx3.free 0
          have f1 := hx3.free 1
          have f2 := hx3.free 2
          have f3 := hx3.free 3
          have f4 := hx3.free 4
          refine hK.out _ _ (mk16 _ hB5) (fun hSw => ?_)
          clear hK K
          simp only [List.setIfInBounds_toArray, List.set_cons_zero, List.set_cons_succ]
          refine wpAnyH_ready (fuel := 0) (rs := [17]) (by kernel_rfl) (by simp) (AllReadyH.cons rfl (fun K hK => ?_) AllReadyH.nil)
          go_simp
          have hB6 := below5 hB5 l3 0 1 2 3 4 (.int .i64 (kk : Int)) (.int .i64 (M : Int)) (.string (str u)) (.string (str (sumL u))) (.string (str (sumL t)))
          clear c0 c1 c2 c3 c4 f0 f1 f2 f3 f4
          replace hx1 := far5 hx1 n13 0 1 2 3 4 (.int .i64 (kk : Int)) (.int .i64 (M : Int)) (.string (str u)) (.string (str (sumL u))) (.string (str (sumL t)))
          replace hx2 := far5 hx2 n23 0 1 2 3 4 (.int .i64 (kk : Int)) (.int .i64 (M : Int)) (.string (str u)) (.string (str (sumL u))) (.string (str (sumL t)))
          replace hx3 := own5 hx3 (.int .i64 (kk : Int)) (.int .i64 (M : Int)) (.string (str u)) (.string (str (sumL u))) (.string (str (sumL t)))
          generalize (((((y5.setCell ⟨x3, 0, none⟩ (.int .i64 (kk : Int))).setCell ⟨x3, 1, none⟩ (.int .i64 (M : Int))).setCell ⟨x3, 2, none⟩ (.string (str u))).setCell ⟨x3, 3, none⟩ (.string (str (sumL u)))).setCell ⟨x3, 4, none⟩ (.string (str (sumL t)))) = y6 at *
          clear hB5
          refine hK.out _ _ (mk16 _ hB6) (fun hSw => ?_)
          clear hK K
          simp only [List.setIfInBounds_toArray, List.set_cons_zero, List.set_cons_succ]
          refine wpAnyH_done (by kernel_rfl) ⟨rfl, ?_⟩ 0
          clear hSw mk16
          have HX11 := Lib.hid (HX10.out.below hB6 HX10.out.lt)
          have HB11 := Lib.hid (HB10.out.trans (hB6.mono HB10.out.size))
          have HH11 := Lib.hid (HH10.out.below hB6)
          have HLX : Hid (w.heap.size ≤ x1 ∧ w.heap.size ≤ x2 ∧ w.heap.size ≤ x3 ∧ b < x1 ∧ gd < x1 ∧ gt < x1 ∧ b < x2 ∧ gd < x2 ∧ gt < x2 ∧ b < x3 ∧ gd < x3 ∧ gt < x3) := Lib.hid (by have := HB10.out.size; have := HH10.out.lt; omega)
          clear hB6 HX10 HB10 HH10 l1 l2 l3
          go_wp2_with fail
          refine (hS2 _).mono ?_
          rintro e v1 ⟨rfl, hb⟩
          have HB12 := Lib.hid (HB11.out.trans (hb.mono HB11.out.size))
          have HH12 := Lib.hid (HH11.out.below hb)
          have hx1' := hx1.below hb hx1.lt
          have hx2' := hx2.below hb hx2.lt
          have hx3' := hx3.below hb hx3.lt
          clear hb hx1 hx2 hx3 HB11 HH11 HX11 hS2
          have c4 := hx1'.cell 4
          simp only [List.getElem?_toArray, List.getElem?_cons_zero, List.getElem?_cons_succ] at c4
          have f4 := hx1'.free 4
          go_upto_region 18 with (fail)
          clear c4 f4
          have k1 := (Ks.refl (fun x => x = x1) v1).set1 4 (.string (str (sumL Simdy.otherT)))
          have HB13 := Lib.hid (k1.below HB12.out (by have := HLX.out; omega))
          have HH13 := Lib.hid (HH12.out.ks k1 (by have := HLX.out; omega) (by have := HLX.out; omega) (by have := HLX.out; omega))
          have hx1 := hx1'.put 4 (.string (str (sumL Simdy.otherT)))
          have hx2 := hx2'.far n21 (p := ⟨x1, 4, none⟩) (.string (str (sumL Simdy.otherT)))
          have hx3 := hx3'.far n31 (p := ⟨x1, 4, none⟩) (.string (str (sumL Simdy.otherT)))
          clear k1 HB12 HH12 hx1' hx2' hx3'
          generalize v1.setCell ⟨x1, 4, none⟩ (.string (str (sumL Simdy.otherT))) = v2 at *
          have c1 := hx2.cell 1
          simp only [List.getElem?_toArray, List.getElem?_cons_zero, List.getElem?_cons_succ] at c1
          have f1 := hx2.free 1
          go_upto_region 19 with (fail)
          clear c1 f1
          have k1 := (Ks.refl (fun x => x = x2) v2).set1 1 (.int .i64 ((M : Int) + 1))
          have HB14 := Lib.hid (k1.below HB13.out (by have := HLX.out; omega))
          have HH14 := Lib.hid (HH13.out.ks k1 (by have := HLX.out; omega) (by have := HLX.out; omega) (by have := HLX.out; omega))
          have hx2' := hx2.put 1 (.int .i64 ((M : Int) + 1))
          have hx1' := hx1.far n12 (p := ⟨x2, 1, none⟩) (.int .i64 ((M : Int) + 1))
          have hx3' := hx3.far n32 (p := ⟨x2, 1, none⟩) (.int .i64 ((M : Int) + 1))
          clear k1 HB13 HH13 hx1 hx2 hx3
          generalize v2.setCell ⟨x2, 1, none⟩ (.int .i64 ((M : Int) + 1)) = v3 at *
          have c0 := hx3'.cell 0
          simp only [List.getElem?_toArray, List.getElem?_cons_zero] at c0
          have f0 := hx3'.free 0
          go_upto_region 20 with (fail)
          clear c0 f0
          have k1 := (Ks.refl (fun x => x = x3) v3).set1 0 (.int .i64 (M : Int))
          have HB15 := Lib.hid (k1.below HB14.out (by have := HLX.out; omega))
          have HH15 := Lib.hid (HH14.out.ks k1 (by have := HLX.out; omega) (by have := HLX.out; omega) (by have := HLX.out; omega))
          have hx3 := hx3'.put 0 (.int .i64 (M : Int))
          have hx1 := hx1'.far n13 (p := ⟨x3, 0, none⟩) (.int .i64 (M : Int))
          have hx2 := hx2'.far n23 (p := ⟨x3, 0, none⟩) (.int .i64 (M : Int))
          clear k1 HB14 HH14 hx1' hx2' hx3'
          generalize v3.setCell ⟨x3, 0, none⟩ (.int .i64 (M : Int)) = v4 at *
          have hA := add_no (⟨(kk : Int), (M : Int), u, sumL u, sumL Simdy.otherT⟩ : Pc) (by unfold mayB; rw [decide_eq_false (p := sumL Simdy.otherT = sumL t) (fun e => HNE.out e.symm)]; simp) HH15.out
          have g1 : Blk v4 x1 PT #[.int .i64 (kk : Int), .int .i64 (M : Int), .string (str u), .string (str (sumL u)), .string (str (sumL Simdy.otherT))] := hx1
          have g2 : Blk v4 x2 PT #[.int .i64 (kk : Int), .int .i64 ((M : Int) + 1), .string (str u), .string (str (sumL u)), .string (str (sumL t))] := hx2
          have g3 : Blk v4 x3 PT #[.int .i64 (M : Int), .int .i64 (M : Int), .string (str u), .string (str (sumL u)), .string (str (sumL t))] := hx3
          clear hx1 hx2 hx3
          have c0 := g1.cell 0
          have c1 := g1.cell 1
          have c2 := g1.cell 2
          have c3 := g1.cell 3
          have c4 := g1.cell 4
          simp only [List.getElem?_toArray, List.getElem?_cons_zero, List.getElem?_cons_succ] at c0 c1 c2 c3 c4
          go_wp2_with fail
          refine hA.mono ?_
          rintro e v5 ⟨rfl, hb⟩
          have HB16 := Lib.hid (HB15.out.trans (hb.mono HB15.out.size))
          have HH16 := Lib.hid (HH15.out.below hb)
          replace g2 := g2.below hb g2.lt
          replace g3 := g3.below hb g3.lt
          clear hb hA c0 c1 c2 c3 c4 g1 HB15 HH15
          have hA := add_no (⟨(kk : Int), (M : Int) + 1, u, sumL u, sumL t⟩ : Pc) (by unfold mayB; rw [dataF_len, List.length_replicate, decide_eq_false (p := (M : Int) + 1 = (M : Int)) (by omega)]; simp) HH16.out
          have c0 := g2.cell 0
          have c1 := g2.cell 1
          have c2 := g2.cell 2
          have c3 := g2.cell 3
          have c4 := g2.cell 4
          simp only [List.getElem?_toArray, List.getElem?_cons_zero, List.getElem?_cons_succ] at c0 c1 c2 c3 c4
          go_wp2_with fail
          refine hA.mono ?_
          rintro e v6 ⟨rfl, hb⟩
          have HB17 := Lib.hid (HB16.out.trans (hb.mono HB16.out.size))
          have HH17 := Lib.hid (HH16.out.below hb)
          replace g3 := g3.below hb g3.lt
          clear hb hA c0 c1 c2 c3 c4 g2 HB16 HH16
          have hA := add_no (⟨(M : Int), (M : Int), u, sumL u, sumL t⟩ : Pc) (by unfold mayB; rw [decide_eq_false (p := (M : Int) < (M : Int)) (by omega)]; simp) HH17.out
          have c0 := g3.cell 0
          have c1 := g3.cell 1
          have c2 := g3.cell 2
          have c3 := g3.cell 3
          have c4 := g3.cell 4
          simp only [List.getElem?_toArray, List.getElem?_cons_zero, List.getElem?_cons_succ] at c0 c1 c2 c3 c4
          go_wp2_with fail
          refine hA.mono ?_
          rintro e v7 ⟨rfl, hb⟩
          have HB18 := Lib.hid (HB17.out.trans (hb.mono HB17.out.size))
          clear hb hA c0 c1 c2 c3 c4 g3 HB17 HH17
          go_wp2_with fail
          go_ret
          exact ⟨rfl, HB18.out⟩
      · go_simp
        have hx3 := Blk.new y0 PT #[.int .i64 0, .int .i64 0, .string ⟨#[]⟩, .string ⟨#[]⟩, .string ⟨#[]⟩]
        have hB1 := hB0.alloc hB0.size (.cells #[.int .i64 0, .int .i64 0, .string ⟨#[]⟩, .string ⟨#[]⟩, .string ⟨#[]⟩] PT)
        have l3 := hB0.size
        generalize y0.alloc (.cells #[.int .i64 0, .int .i64 0, .string ⟨#[]⟩, .string ⟨#[]⟩, .string ⟨#[]⟩] PT) = y1 at *
        generalize y0.heap.size = x3 at hx3 l3 ⊢
        clear hB0
        refine hK.out _ _ (mk16 _ hB1) (fun hSw => ?_)
        clear hK K
        simp only [List.setIfInBounds_toArray, List.set_cons_zero, List.set_cons_succ]
        refine wpAnyH_ready (fuel := 4) (rs := [12, 13]) (by kernel_rfl) (by simp) (AllReadyH.cons rfl (fun K hK => ?_) (AllReadyH.cons rfl (fun K hK => ?_) AllReadyH.nil))
        · go_simp
          have hx1 := Blk.new y1 PT #[.int .i64 0, .int .i64 0, .string ⟨#[]⟩, .string ⟨#[]⟩, .string ⟨#[]⟩]
          have hB2 := hB1.alloc hB1.size (.cells #[.int .i64 0, .int .i64 0, .string ⟨#[]⟩, .string ⟨#[]⟩, .string ⟨#[]⟩] PT)
          have l1 := hB1.size
          have n31 : x3 ≠ y1.heap.size := by have := hx3.lt; omega
          have n13 : y1.heap.size ≠ x3 := fun e => n31 e.symm
          replace hx3 := hx3.alloc (.cells #[.int .i64 0, .int .i64 0, .string ⟨#[]⟩, .string ⟨#[]⟩, .string ⟨#[]⟩] PT)
          generalize y1.alloc (.cells #[.int .i64 0, .int .i64 0, .string ⟨#[]⟩, .string ⟨#[]⟩, .string ⟨#[]⟩] PT) = y2 at *
          generalize y1.heap.size = x1 at hx1 l1 n31 n13 ⊢
          clear hB1
          refine hK.out _ _ (mk16 _ hB2) (fun hSw => ?_)
          clear hK K
          simp only [List.setIfInBounds_toArray, List.set_cons_zero, List.set_cons_succ]
          refine wpAnyH_ready (fuel := 3) (rs := [13]) (by kernel_rfl) (by simp) (AllReadyH.cons rfl (fun K hK => ?_) AllReadyH.nil)
          go_simp
          have hx2 := Blk.new y2 PT #[.int .i64 0, .int .i64 0, .string ⟨#[]⟩, .string ⟨#[]⟩, .string ⟨#[]⟩]
          have hB3 := hB2.alloc hB2.size (.cells #[.int .i64 0, .int .i64 0, .string ⟨#[]⟩, .string ⟨#[]⟩, .string ⟨#[]⟩] PT)
          have l2 := hB2.size
          have n32 : x3 ≠ y2.heap.size := by have := hx3.lt; omega
          have n23 : y2.heap.size ≠ x3 := fun e => n32 e.symm
          replace hx3 := hx3.alloc (.cells #[.int .i64 0, .int .i64 0, .string ⟨#[]⟩, .string ⟨#[]⟩, .string ⟨#[]⟩] PT)
          have n12 : x1 ≠ y2.heap.size := by have := hx1.lt; omega
          have n21 : y2.heap.size ≠ x1 := fun e => n12 e.symm
          replace hx1 := hx1.alloc (.cells #[.int .i64 0, .int .i64 0, .string ⟨#[]⟩, .string ⟨#[]⟩, .string ⟨#[]⟩] PT)
          generalize y2.alloc (.cells #[.int .i64 0, .int .i64 0, .string ⟨#[]⟩, .string ⟨#[]⟩, .string ⟨#[]⟩] PT) = y3 at *
          generalize y2.heap.size = x2 at hx2 l2 n32 n23 n12 n21 ⊢
          clear hB2
          have c0 := hx1.cell 0
          have c1 := hx1.cell 1
          have c2 := hx1.cell 2
          have c3 := hx1.cell 3
          have c4 := hx1.cell 4
          simp only [List.getElem?_toArray, List.getElem?_cons_zero, List.getElem?_cons_succ] at c0 c1 c2 c3 c4
          have f0 := hx1.free 0
          have f1 := hx1.free 1
          have f2 := hx1.free 2
          have f3 := hx1.free 3
          have f4 := hx1.free 4
          refine hK.out _ _ (mk16 _ hB3) (fun hSw => ?_)
          clear hK K
          simp only [List.setIfInBounds_toArray, List.set_cons_zero, List.set_cons_succ]
          refine wpAnyH_ready (fuel := 2) (rs := [15]) (by kernel_rfl) (by simp) (AllReadyH.cons rfl (fun K hK => ?_) AllReadyH.nil)
          go_simp
          have hB4 := below5 hB3 l1 0 1 2 3 4 (.int .i64 (kk : Int)) (.int .i64 (M : Int)) (.string (str u)) (.string (str (sumL u))) (.string (str (sumL t)))
          clear c0 c1 c2 c3 c4 f0 f1 f2 f3 f4
          replace hx1 := own5 hx1 (.int .i64 (kk : Int)) (.int .i64 (M : Int)) (.string (str u)) (.string (str (sumL u))) (.string (str (sumL t)))
          replace hx2 := far5 hx2 n21 0 1 2 3 4 (.int .i64 (kk : Int)) (.int .i64 (M : Int)) (.string (str u)) (.string (str (sumL u))) (.string (str (sumL t)))
          replace hx3 := far5 hx3 n31 0 1 2 3 4 (.int .i64 (kk : Int)) (.int .i64 (M : Int)) (.string (str u)) (.string (str (sumL u))) (.string (str (sumL t)))
          generalize (((((y3.setCell ⟨x1, 0, none⟩ (.int .i64 (kk : Int))).setCell ⟨x1, 1, none⟩ (.int .i64 (M : Int))).setCell ⟨x1, 2, none⟩ (.string (str u))).setCell ⟨x1, 3, none⟩ (.string (str (sumL u)))).setCell ⟨x1, 4, none⟩ (.string (str (sumL t)))) = y4 at *
          clear hB3
          have c0 := hx2.cell 0
          have c1 := hx2.cell 1
          have c2 := hx2.cell 2
          have c3 := hx2.cell 3
          have c4 := hx2.cell 4
          simp only [List.getElem?_toArray, List.getElem?_cons_zero, List.getElem?_cons_succ] at c0 c1 c2 c3 c4
          have f0 := hx2.free 0
          have f1 := hx2.free 1
          have f2 := hx2.free 2
          have f3 := hx2.free 3
          have f4 := hx2.free 4
          refine hK.out _ _ (mk16 _ hB4) (fun hSw => ?_)
          clear hK K
          simp only [List.setIfInBounds_toArray, List.set_cons_zero, List.set_cons_succ]
          refine wpAnyH_ready (fuel := 1) (rs := [16]) (by kernel_rfl) (by simp) (AllReadyH.cons rfl (fun K hK => ?_) AllReadyH.nil)
          go_simp
          have hB5 := below5 hB4 l2 0 1 2 3 4 (.int .i64 (kk : Int)) (.int .i64 (M : Int)) (.string (str u)) (.string (str (sumL u))) (.string (str (sumL t)))
          clear c0 c1 c2 c3 c4 f0 f1 f2 f3 f4
          replace hx1 := far5 hx1 n12 0 1 2 3 4 (.int .i64 (kk : Int)) (.int .i64 (M : Int)) (.string (str u)) (.string (str (sumL u))) (.string (str (sumL t)))
          replace hx2 := own5 hx2 (.int .i64 (kk : Int)) (.int .i64 (M : Int)) (.string (str u)) (.string (str (sumL u))) (.string (str (sumL t)))
          replace hx3 := far5 hx3 n32 0 1 2 3 4 (.int .i64 (kk : Int)) (.int .i64 (M : Int)) (.string (str u)) (.string (str (sumL u))) (.string (str (sumL t)))
          generalize (((((y4.setCell ⟨x2, 0, none⟩ (.int .i64 (kk : Int))).setCell ⟨x2, 1, none⟩ (.int .i64 (M : Int))).setCell ⟨x2, 2, none⟩ (.string (str u))).setCell ⟨x2, 3, none⟩ (.string (str (sumL u)))).setCell ⟨x2, 4, none⟩ (.string (str (sumL t)))) = y5 at *
          clear hB4
          have c0 := hx3.cell 0
          have c1 := hx3.cell 1
          have c2 := hx3.cell 2
          have c3 := hx3.cell 3
          have c4 := hx3.cell 4
          simp only [List.getElem?_toArray, List.getElem?_cons_zero, List.getElem?_cons_succ] at c0 c1 c2 c3 c4
          have f0 := hx3.free 0
          have f1 := hx3.free 1
          have f2 := hx3.free 2
          have f3 := hx3.free 3
          have f4 := hx3.free 4
          refine hK.out _ _ (mk16 _ hB5) (fun hSw => ?_)
          clear hK K
          simp only [List.setIfInBounds_toArray, List.set_cons_zero, List.set_cons_succ]
          refine wpAnyH_ready (fuel := 0) (rs := [17]) (by kernel_rfl) (by simp) (AllReadyH.cons rfl (fun K hK => ?_) AllReadyH.nil)
          go_simp
          have hB6 := below5 hB5 l3 0 1 2 3 4 (.int .i64 (kk : Int)) (.int .i64 (M : Int)) (.string (str u)) (.string (str (sumL u))) (.string (str (sumL t)))
          clear c0 c1 c2 c3 c4 f0 f1 f2 f3 f4
          replace hx1 := far5 hx1 n13 0 1 2 3 4 (.int .i64 (kk : Int)) (.int .i64 (M : Int)) (.string (str u)) (.string (str (sumL u))) (.string (str (sumL t)))
          replace hx2 := far5 hx2 n23 0 1 2 3 4 (.int .i64 (kk : Int)) (.int .i64 (M : Int)) (.string (str u)) (.string (str (sumL u))) (.string (str (sumL t)))
          replace hx3 := own5 hx3 (.int .i64 (kk : Int)) (.int .i64 (M : Int)) (.string (str u)) (.string (str (sumL u))) (.string (str (sumL t)))
          generalize (((((y5.setCell ⟨x3, 0, none⟩ (.int .i64 (kk : Int))).setCell ⟨x3, 1, none⟩ (.int .i64 (M : Int))).setCell ⟨x3, 2, none⟩ (.string (str u))).setCell ⟨x3, 3, none⟩ (.string (str (sumL u)))).setCell ⟨x3, 4, none⟩ (.string (str (sumL t)))) = y6 at *
          clear hB5
          refine hK.out _ _ (mk16 _ hB6) (fun hSw => ?_)
          clear hK K
          simp only [List.setIfInBounds_toArray, List.set_cons_zero, List.set_cons_succ]
          refine wpAnyH_done (by kernel_rfl) ⟨rfl, ?_⟩ 0
          clear hSw mk16
          have HX11 := Lib.hid (HX10.out.below hB6 HX10.out.lt)
          have HB11 := Lib.hid (HB10.out.trans (hB6.mono HB10.out.size))
          have HH11 := Lib.hid (HH10.out.below hB6)
          have HLX : Hid (w.heap.size ≤ x1 ∧ w.heap.size ≤ x2 ∧ w.heap.size ≤ x3 ∧ b < x1 ∧ gd < x1 ∧ gt < x1 ∧ b < x2 ∧ gd < x2 ∧ gt < x2 ∧ b < x3 ∧ gd < x3 ∧ gt < x3) := Lib.hid (by have := HB10.out.size; have := HH10.out.lt; omega)
          clear hB6 HX10 HB10 HH10 l1 l2 l3
          go_wp2_with fail
          refine (hS2 _).mono ?_
          rintro e v1 ⟨rfl, hb⟩
          have HB12 := Lib.hid (HB11.out.trans (hb.mono HB11.out.size))
          have HH12 := Lib.hid (HH11.out.below hb)
          have hx1' := hx1.below hb hx1.lt
          have hx2' := hx2.below hb hx2.lt
          have hx3' := hx3.below hb hx3.lt
          clear hb hx1 hx2 hx3 HB11 HH11 HX11 hS2
          have c4 := hx1'.cell 4
          simp only [List.getElem?_toArray, List.getElem?_cons_zero, List.getElem?_cons_succ] at c4
          have f4 := hx1'.free 4
          go_upto_region 18 with (fail)
          clear c4 f4
          have k1 := (Ks.refl (fun x => x = x1) v1).set1 4 (.string (str (sumL Simdy.otherT)))
          have HB13 := Lib.hid (k1.below HB12.out (by have := HLX.out; omega))
          have HH13 := Lib.hid (HH12.out.ks k1 (by have := HLX.out; omega) (by have := HLX.out; omega) (by have := HLX.out; omega))
          have hx1 := hx1'.put 4 (.string (str (sumL Simdy.otherT)))
          have hx2 := hx2'.far n21 (p := ⟨x1, 4, none⟩) (.string (str (sumL Simdy.otherT)))
          have hx3 := hx3'.far n31 (p := ⟨x1, 4, none⟩) (.string (str (sumL Simdy.otherT)))
          clear k1 HB12 HH12 hx1' hx2' hx3'
          generalize v1.setCell ⟨x1, 4, none⟩ (.string (str (sumL Simdy.otherT))) = v2 at *
          have c1 := hx2.cell 1
          simp only [List.getElem?_toArray, List.getElem?_cons_zero, List.getElem?_cons_succ] at c1
          have f1 := hx2.free 1
          go_upto_region 19 with (fail)
          clear c1 f1
          have k1 := (Ks.refl (fun x => x = x2) v2).set1 1 (.int .i64 ((M : Int) + 1))
          have HB14 := Lib.hid (k1.below HB13.out (by have := HLX.out; omega))
          have HH14 := Lib.hid (HH13.out.ks k1 (by have := HLX.out; omega) (by have := HLX.out; omega) (by have := HLX.out; omega))
          have hx2' := hx2.put 1 (.int .i64 ((M : Int) + 1))
          have hx1' := hx1.far n12 (p := ⟨x2, 1, none⟩) (.int .i64 ((M : Int) + 1))
          have hx3' := hx3.far n32 (p := ⟨x2, 1, none⟩) (.int .i64 ((M : Int) + 1))
          clear k1 HB13 HH13 hx1 hx2 hx3
          generalize v2.setCell ⟨x2, 1, none⟩ (.int .i64 ((M : Int) + 1)) = v3 at *
          have c0 := hx3'.cell 0
          simp only [List.getElem?_toArray, List.getElem?_cons_zero] at c0
          have f0 := hx3'.free 0
          go_upto_region 20 with (fail)
          clear c0 f0
          have k1 := (Ks.refl (fun x => x = x3) v3).set1 0 (.int .i64 (M : Int))
          have HB15 := Lib.hid (k1.below HB14.out (by have := HLX.out; omega))
          have HH15 := Lib.hid (HH14.out.ks k1 (by have := HLX.out; omega) (by have := HLX.out; omega) (by have := HLX.out; omega))
          have hx3 := hx3'.put 0 (.int .i64 (M : Int))
          have hx1 := hx1'.far n13 (p := ⟨x3, 0, none⟩) (.int .i64 (M : Int))
          have hx2 := hx2'.far n23 (p := ⟨x3, 0, none⟩) (.int .i64 (M : Int))
          clear k1 HB14 HH14 hx1' hx2' hx3'
          generalize v3.setCell ⟨x3, 0, none⟩ (.int .i64 (M : Int)) = v4 at *
          have hA := add_no (⟨(kk : Int), (M : Int), u, sumL u, sumL Simdy.otherT⟩ : Pc) (by unfold mayB; rw [decide_eq_false (p := sumL Simdy.otherT = sumL t) (fun e => HNE.out e.symm)]; simp) HH15.out
          have g1 : Blk v4 x1 PT #[.int .i64 (kk : Int), .int .i64 (M : Int), .string (str u), .string (str (sumL u)), .string (str (sumL Simdy.otherT))] := hx1
          have g2 : Blk v4 x2 PT #[.int .i64 (kk : Int), .int .i64 ((M : Int) + 1), .string (str u), .string (str (sumL u)), .string (str (sumL t))] := hx2
          have g3 : Blk v4 x3 PT #[.int .i64 (M : Int), .int .i64 (M : Int), .string (str u), .string (str (sumL u)), .string (str (sumL t))] := hx3
          clear hx1 hx2 hx3
          have c0 := g1.cell 0
          have c1 := g1.cell 1
          have c2 := g1.cell 2
          have c3 := g1.cell 3
          have c4 := g1.cell 4
          simp only [List.getElem?_toArray, List.getElem?_cons_zero, List.getElem?_cons_succ] at c0 c1 c2 c3 c4
          go_wp2_with fail
          refine hA.mono ?_
          rintro e v5 ⟨rfl, hb⟩
          have HB16 := Lib.hid (HB15.out.trans (hb.mono HB15.out.size))
          have HH16 := Lib.hid (HH15.out.below hb)
          replace g2 := g2.below hb g2.lt
          replace g3 := g3.below hb g3.lt
          clear hb hA c0 c1 c2 c3 c4 g1 HB15 HH15
          have hA := add_no (⟨(kk : Int), (M : Int) + 1, u, sumL u, sumL t⟩ : Pc) (by unfold mayB; rw [dataF_len, List.length_replicate, decide_eq_false (p := (M : Int) + 1 = (M : Int)) (by omega)]; simp) HH16.out
          have c0 := g2.cell 0
          have c1 := g2.cell 1
          have c2 := g2.cell 2
          have c3 := g2.cell 3
          have c4 := g2.cell 4
          simp only [List.getElem?_toArray, List.getElem?_cons_zero, List.getElem?_cons_succ] at c0 c1 c2 c3 c4
          go_wp2_with fail
          refine hA.mono ?_
          rintro e v6 ⟨rfl, hb⟩
          have HB17 := Lib.hid (HB16.out.trans (hb.mono HB16.out.size))
          have HH17 := Lib.hid (HH16.out.below hb)
          replace g3 := g3.below hb g3.lt
          clear hb hA c0 c1 c2 c3 c4 g2 HB16 HH16
          have hA := add_no (⟨(M : Int), (M : Int), u, sumL u, sumL t⟩ : Pc) (by unfold mayB; rw [decide_eq_false (p := (M : Int) < (M : Int)) (by omega)]; simp) HH17.out
          have c0 := g3.cell 0
          have c1 := g3.cell 1
          have c2 := g3.cell 2
          have c3 := g3.cell 3
          have c4 := g3.cell 4
          simp only [List.getElem?_toArray, List.getElem?_cons_zero, List.getElem?_cons_succ] at c0 c1 c2 c3 c4
          go_wp2_with fail
          refine hA.mono ?_
          rintro e v7 ⟨rfl, hb⟩
          have HB18 := Lib.hid (HB17.out.trans (hb.mono HB17.out.size))
          clear hb hA c0 c1 c2 c3 c4 g3 HB17 HH17
          go_wp2_with fail
          go_ret
          exact ⟨rfl, HB18.out⟩
        · go_simp
          have hx2 := Blk.new y1 PT #[.int .i64 0, .int .i64 0, .string ⟨#[]⟩, .string ⟨#[]⟩, .string ⟨#[]⟩]
          have hB2 := hB1.alloc hB1.size (.cells #[.int .i64 0, .int .i64 0, .string ⟨#[]⟩, .string ⟨#[]⟩, .string ⟨#[]⟩] PT)
          have l2 := hB1.size
          have n32 : x3 ≠ y1.heap.size := by have := hx3.lt; omega
          have n23 : y1.heap.size ≠ x3 := fun e => n32 e.symm
          replace hx3 := hx3.alloc (.cells #[.int .i64 0, .int .i64 0, .string ⟨#[]⟩, .string ⟨#[]⟩, .string ⟨#[]⟩] PT)
          generalize y1.alloc (.cells #[.int .i64 0, .int .i64 0, .string ⟨#[]⟩, .string ⟨#[]⟩, .string ⟨#[]⟩] PT) = y2 at *
          generalize y1.heap.size = x2 at hx2 l2 n32 n23 ⊢
          clear hB1
          refine hK.out _ _ (mk16 _ hB2) (fun hSw => ?_)
          clear hK K
          simp only [List.setIfInBounds_toArray, List.set_cons_zero, List.set_cons_succ]
          refine wpAnyH_ready (fuel := 3) (rs := [12]) (by kernel_rfl) (by simp) (AllReadyH.cons rfl (fun K hK => ?_) AllReadyH.nil)
          go_simp
          have hx1 := Blk.new y2 PT #[.int .i64 0, .int .i64 0, .string ⟨#[]⟩, .string ⟨#[]⟩, .string ⟨#[]⟩]
          have hB3 := hB2.alloc hB2.size (.cells #[.int .i64 0, .int .i64 0, .string ⟨#[]⟩, .string ⟨#[]⟩, .string ⟨#[]⟩] PT)
          have l1 := hB2.size
          have n31 : x3 ≠ y2.heap.size := by have := hx3.lt; omega
          have n13 : y2.heap.size ≠ x3 := fun e => n31 e.symm
          replace hx3 := hx3.alloc (.cells #[.int .i64 0, .int .i64 0, .string ⟨#[]⟩, .string ⟨#[]⟩, .string ⟨#[]⟩] PT)
          have n21 : x2 ≠ y2.heap.size := by have := hx2.lt; omega
          have n12 : y2.heap.size ≠ x2 := fun e => n21 e.symm
          replace hx2 := hx2.alloc (.cells #[.int .i64 0, .int .i64 0, .string ⟨#[]⟩, .string ⟨#[]⟩, .string ⟨#[]⟩] PT)
          generalize y2.alloc (.cells #[.int .i64 0, .int .i64 0, .string ⟨#[]⟩, .string ⟨#[]⟩, .string ⟨#[]⟩] PT) = y3 at *
          generalize y2.heap.size = x1 at hx1 l1 n31 n13 n21 n12 ⊢
          clear hB2
          have c0 := hx1.cell 0
          have c1 := hx1.cell 1
          have c2 := hx1.cell 2
          have c3 := hx1.cell 3
          have c4 := hx1.cell 4
          simp only [List.getElem?_toArray, List.getElem?_cons_zero, List.getElem?_cons_succ] at c0 c1 c2 c3 c4
          have f0 := hx1.free 0
          have f1 := hx1.free 1
          have f2 := hx1.free 2
          have f3 := hx1.free 3
          have f4 := hx1.free 4
          refine hK.out _ _ (mk16 _ hB3) (fun hSw => ?_)
          clear hK K
          simp only [List.setIfInBounds_toArray, List.set_cons_zero, List.set_cons_succ]
          refine wpAnyH_ready (fuel := 2) (rs := [15]) (by kernel_rfl) (by simp) (AllReadyH.cons rfl (fun K hK => ?_) AllReadyH.nil)
          go_simp
          have hB4 := below5 hB3 l1 0 1 2 3 4 (.int .i64 (kk : Int)) (.int .i64 (M : Int)) (.string (str u)) (.string (str (sumL u))) (.string (str (sumL t)))
          clear c0 c1 c2 c3 c4 f0 f1 f2 f3 f4
          replace hx1 := own5 hx1 (.int .i64 (kk : Int)) (.int .i64 (M : Int)) (.string (str u)) (.string (str (sumL u))) (.string (str (sumL t)))
          replace hx2 := far5 hx2 n21 0 1 2 3 4 (.int .i64 (kk : Int)) (.int .i64 (M : Int)) (.string (str u)) (.string (str (sumL u))) (.string (str (sumL t)))
          replace hx3 := far5 hx3 n31 0 1 2 3 4 (.int .i64 (kk : Int)) (.int .i64 (M : Int)) (.string (str u)) (.string (str (sumL u))) (.string (str (sumL t)))
          generalize (((((y3.setCell ⟨x1, 0, none⟩ (.int .i64 (kk : Int))).setCell ⟨x1, 1, none⟩ (.int .i64 (M : Int))).setCell ⟨x1, 2, none⟩ (.string (str u))).setCell ⟨x1, 3, none⟩ (.string (str (sumL u)))).setCell ⟨x1, 4, none⟩ (.string (str (sumL t)))) = y4 at *
          clear hB3
          have c0 := hx2.cell 0
          have c1 := hx2.cell 1
          have c2 := hx2.cell 2
          have c3 := hx2.cell 3
          have c4 := hx2.cell 4
          simp only [List.getElem?_toArray, List.getElem?_cons_zero, List.getElem?_cons_succ] at c0 c1 c2 c3 c4
          have f0 := hx2.free 0
          have f1 := hx2.free 1
          have f2 := hx2.free 2
          have f3 := hx2.free 3
          have f4 := hx2.free 4
          refine hK.out _ _ (mk16 _ hB4) (fun hSw => ?_)
          clear hK K
          simp only [List.setIfInBounds_toArray, List.set_cons_zero, List.set_cons_succ]
          refine wpAnyH_ready (fuel := 1) (rs := [16]) (by kernel_rfl) (by simp) (AllReadyH.cons rfl (fun K hK => ?_) AllReadyH.nil)
          go_simp
          have hB5 := below5 hB4 l2 0 1 2 3 4 (.int .i64 (kk : Int)) (.int .i64 (M : Int)) (.string (str u)) (.string (str (sumL u))) (.string (str (sumL t)))
          clear c0 c1 c2 c3 c4 f0 f1 f2 f3 f4
          replace hx1 := far5 hx1 n12 0 1 2 3 4 (.int .i64 (kk : Int)) (.int .i64 (M : Int)) (.string (str u)) (.string (str (sumL u))) (.string (str (sumL t)))
          replace hx2 := own5 hx2 (.int .i64 (kk : Int)) (.int .i64 (M : Int)) (.string (str u)) (.string (str (sumL u))) (.string (str (sumL t)))
          replace hx3 := far5 hx3 n32 0 1 2 3 4 (.int .i64 (kk : Int)) (.int .i64 (M : Int)) (.string (str u)) (.string (str (sumL u))) (.string (str (sumL t)))
          generalize (((((y4.setCell ⟨x2, 0, none⟩ (.int .i64 (kk : Int))).setCell ⟨x2, 1, none⟩ (.int .i64 (M : Int))).setCell ⟨x2, 2, none⟩ (.string (str u))).setCell ⟨x2, 3, none⟩ (.string (str (sumL u)))).setCell ⟨x2, 4, none⟩ (.string (str (sumL t)))) = y5 at *
          clear hB4
          have c0 := hx3.cell 0
          have c1 := hx3.cell 1
          have c2 := hx3.cell 2
          have c3 := hx3.cell 3
          have c4 := hx3.cell 4
          simp only [List.getElem?_toArray, List.getElem?_cons_zero, List.getElem?_cons_succ] at c0 c1 c2 c3 c4
          have f0 := hx3.free 0
          have f1 := hx3.free 1
          have f2 := hx3.free 2
          have f3 := hx3.free 3
          have f4 := hx3.free 4
          refine hK.out _ _ (mk16 _ hB5) (fun hSw => ?_)
          clear hK K
          simp only [List.setIfInBounds_toArray, List.set_cons_zero, List.set_cons_succ]
          refine wpAnyH_ready (fuel := 0) (rs := [17]) (by kernel_rfl) (by simp) (AllReadyH.cons rfl (fun K hK => ?_) AllReadyH.nil)
          go_simp
          have hB6 := below5 hB5 l3 0 1 2 3 4 (.int .i64 (kk : Int)) (.int .i64 (M : Int)) (.string (str u)) (.string (str (sumL u))) (.string (str (sumL t)))
          clear c0 c1 c2 c3 c4 f0 f1 f2 f3 f4
          replace hx1 := far5 hx1 n13 0 1 2 3 4 (.int .i64 (kk : Int)) (.int .i64 (M : Int)) (.string (str u)) (.string (str (sumL u))) (.string (str (sumL t)))
          replace hx2 := far5 hx2 n23 0 1 2 3 4 (.int .i64 (kk : Int)) (.int .i64 (M : Int)) (.string (str u)) (.string (str (sumL u))) (.string (str (sumL t)))
          replace hx3 := own5 hx3 (.int .i64 (kk : Int)) (.int .i64 (M : Int)) (.string (str u)) (.string (str (sumL u))) (.string (str (sumL t)))
          generalize (((((y5.setCell ⟨x3, 0, none⟩ (.int .i64 (kk : Int))).setCell ⟨x3, 1, none⟩ (.int .i64 (M : Int))).setCell ⟨x3, 2, none⟩ (.string (str u))).setCell ⟨x3, 3, none⟩ (.string (str (sumL u)))).setCell ⟨x3, 4, none⟩ (.string (str (sumL t)))) = y6 at *
          clear hB5
          refine hK.out _ _ (mk16 _ hB6) (fun hSw => ?_)
          clear hK K
          simp only [List.setIfInBounds_toArray, List.set_cons_zero, List.set_cons_succ]
          refine wpAnyH_done (by kernel_rfl) ⟨rfl, ?_⟩ 0
          clear hSw mk16
          have HX11 := Lib.hid (HX10.out.below hB6 HX10.out.lt)
          have HB11 := Lib.hid (HB10.out.trans (hB6.mono HB10.out.size))
          have HH11 := Lib.hid (HH10.out.below hB6)
          have HLX : Hid (w.heap.size ≤ x1 ∧ w.heap.size ≤ x2 ∧ w.heap.size ≤ x3 ∧ b < x1 ∧ gd < x1 ∧ gt < x1 ∧ b < x2 ∧ gd < x2 ∧ gt < x2 ∧ b < x3 ∧ gd < x3 ∧ gt < x3) := Lib.hid (by have := HB10.out.size; have := HH10.out.lt; omega)
          clear hB6 HX10 HB10 HH10 l1 l2 l3
          go_wp2_with fail
          refine (hS2 _).mono ?_
          rintro e v1 ⟨rfl, hb⟩
          have HB12 := Lib.hid (HB11.out.trans (hb.mono HB11.out.size))
          have HH12 := Lib.hid (HH11.out.below hb)
          have hx1' := hx1.below hb hx1.lt
          have hx2' := hx2.below hb hx2.lt
          have hx3' := hx3.below hb hx3.lt
          clear hb hx1 hx2 hx3 HB11 HH11 HX11 hS2
          have c4 := hx1'.cell 4
          simp only [List.getElem?_toArray, List.getElem?_cons_zero, List.getElem?_cons_succ] at c4
          have f4 := hx1'.free 4
          go_upto_region 18 with (fail)
          clear c4 f4
          have k1 := (Ks.refl (fun x => x = x1) v1).set1 4 (.string (str (sumL Simdy.otherT)))
          have HB13 := Lib.hid (k1.below HB12.out (by have := HLX.out; omega))
          have HH13 := Lib.hid (HH12.out.ks k1 (by have := HLX.out; omega) (by have := HLX.out; omega) (by have := HLX.out; omega))
          have hx1 := hx1'.put 4 (.string (str (sumL Simdy.otherT)))
          have hx2 := hx2'.far n21 (p := ⟨x1, 4, none⟩) (.string (str (sumL Simdy.otherT)))
          have hx3 := hx3'.far n31 (p := ⟨x1, 4, none⟩) (.string (str (sumL Simdy.otherT)))
          clear k1 HB12 HH12 hx1' hx2' hx3'
          generalize v1.setCell ⟨x1, 4, none⟩ (.string (str (sumL Simdy.otherT))) = v2 at *
          have c1 := hx2.cell 1
          simp only [List.getElem?_toArray, List.getElem?_cons_zero, List.getElem?_cons_succ] at c1
          have f1 := hx2.free 1
          go_upto_region 19 with (fail)
          clear c1 f1
          have k1 := (Ks.refl (fun x => x = x2) v2).set1 1 (.int .i64 ((M : Int) + 1))
          have HB14 := Lib.hid (k1.below HB13.out (by have := HLX.out; omega))
          have HH14 := Lib.hid (HH13.out.ks k1 (by have := HLX.out; omega) (by have := HLX.out; omega) (by have := HLX.out; omega))
          have hx2' := hx2.put 1 (.int .i64 ((M : Int) + 1))
          have hx1' := hx1.far n12 (p := ⟨x2, 1, none⟩) (.int .i64 ((M : Int) + 1))
          have hx3' := hx3.far n32 (p := ⟨x2, 1, none⟩) (.int .i64 ((M : Int) + 1))
          clear k1 HB13 HH13 hx1 hx2 hx3
          generalize v2.setCell ⟨x2, 1, none⟩ (.int .i64 ((M : Int) + 1)) = v3 at *
          have c0 := hx3'.cell 0
          simp only [List.getElem?_toArray, List.getElem?_cons_zero] at c0
          have f0 := hx3'.free 0
          go_upto_region 20 with (fail)
          clear c0 f0
          have k1 := (Ks.refl (fun x => x = x3) v3).set1 0 (.int .i64 (M : Int))
          have HB15 := Lib.hid (k1.below HB14.out (by have := HLX.out; omega))
          have HH15 := Lib.hid (HH14.out.ks k1 (by have := HLX.out; omega) (by have := HLX.out; omega) (by have := HLX.out; omega))
          have hx3 := hx3'.put 0 (.int .i64 (M : Int))
          have hx1 := hx1'.far n13 (p := ⟨x3, 0, none⟩) (.int .i64 (M : Int))
          have hx2 := hx2'.far n23 (p := ⟨x3, 0, none⟩) (.int .i64 (M : Int))
          clear k1 HB14 HH14 hx1' hx2' hx3'
          generalize v3.setCell ⟨x3, 0, none⟩ (.int .i64 (M : Int)) = v4 at *
          have hA := add_no (⟨(kk : Int), (M : Int), u, sumL u, sumL Simdy.otherT⟩ : Pc) (by unfold mayB; rw [decide_eq_false (p := sumL Simdy.otherT = sumL t) (fun e => HNE.out e.symm)]; simp) HH15.out
          have g1 : Blk v4 x1 PT #[.int .i64 (kk : Int), .int .i64 (M : Int), .string (str u), .string (str (sumL u)), .string (str (sumL Simdy.otherT))] := hx1
          have g2 : Blk v4 x2 PT #[.int .i64 (kk : Int), .int .i64 ((M : Int) + 1), .string (str u), .string (str (sumL u)), .string (str (sumL t))] := hx2
          have g3 : Blk v4 x3 PT #[.int .i64 (M : Int), .int .i64 (M : Int), .string (str u), .string (str (sumL u)), .string (str (sumL t))] := hx3
          clear hx1 hx2 hx3
          have c0 := g1.cell 0
          have c1 := g1.cell 1
          have c2 := g1.cell 2
          have c3 := g1.cell 3
          have c4 := g1.cell 4
          simp only [List.getElem?_toArray, List.getElem?_cons_zero, List.getElem?_cons_succ] at c0 c1 c2 c3 c4
          go_wp2_with fail
          refine hA.mono ?_
          rintro e v5 ⟨rfl, hb⟩
          have HB16 := Lib.hid (HB15.out.trans (hb.mono HB15.out.size))
          have HH16 := Lib.hid (HH15.out.below hb)
          replace g2 := g2.below hb g2.lt
          replace g3 := g3.below hb g3.lt
          clear hb hA c0 c1 c2 c3 c4 g1 HB15 HH15
          have hA := add_no (⟨(kk : Int), (M : Int) + 1, u, sumL u, sumL t⟩ : Pc) (by unfold mayB; rw [dataF_len, List.length_replicate, decide_eq_false (p := (M : Int) + 1 = (M : Int)) (by omega)]; simp) HH16.out
          have c0 := g2.cell 0
          have c1 := g2.cell 1
          have c2 := g2.cell 2
          have c3 := g2.cell 3
          have c4 := g2.cell 4
          simp only [List.getElem?_toArray, List.getElem?_cons_zero, List.getElem?_cons_succ] at c0 c1 c2 c3 c4
          go_wp2_with fail
          refine hA.mono ?_
          rintro e v6 ⟨rfl, hb⟩
          have HB17 := Lib.hid (HB16.out.trans (hb.mono HB16.out.size))
          have HH17 := Lib.hid (HH16.out.below hb)
          replace g3 := g3.below hb g3.lt
          clear hb hA c0 c1 c2 c3 c4 g2 HB16 HH16
          have hA := add_no (⟨(M : Int), (M : Int), u, sumL u, sumL t⟩ : Pc) (by unfold mayB; rw [decide_eq_false (p := (M : Int) < (M : Int)) (by omega)]; simp) HH17.out
          have c0 := g3.cell 0
          have c1 := g3.cell 1
          have c2 := g3.cell 2
          have c3 := g3.cell 3
          have c4 := g3.cell 4
          simp only [List.getElem?_toArray, List.getElem?_cons_zero, List.getElem?_cons_succ] at c0 c1 c2 c3 c4
          go_wp2_with fail
          refine hA.mono ?_
          rintro e v7 ⟨rfl, hb⟩
          have HB18 := Lib.hid (HB17.out.trans (hb.mono HB17.out.size))
          clear hb hA c0 c1 c2 c3 c4 g3 HB17 HH17
          go_wp2_with fail
          go_ret
          exact ⟨rfl, HB18.out⟩
set_option linter.unusedVariables false in
set_option maxRecDepth 100000 in
theorem snapSpoilt_lifted (os : Os) (started : os.Started) (H : Type) (enc : TypeId × Value → H) :
    ReturnsInHanded {} Tryd.checked os 4 .any (fun w args => (Rows.snapSpoiltSpec.pre enc Tryd.prog Tryd.f4 [] false w args ∧ laidMetH Tryd.prog laidAll w) ∧ sizedMet enc Tryd.prog Tryd.f4 (OpenSpec.ofChange Rows.snapSpoiltSpec) false w args) (Rows.snapSpoiltSpec.post enc Tryd.prog Tryd.f4 false true false false) := by
  refine returnsInHanded_of_change_and (C := Tryd.checked) (X := fun w _ => laidMetH Tryd.prog laidAll w) (fun _ _ _ hh h => h.of_heap hh) Kit.own started (by kernel_rfl) Tryd.func4
    (ChangeSpec.witness_shaped (enc := enc) (C := Tryd.checked) (os := os) (X := fun w _ => laidMetH Tryd.prog laidAll w) false (World.doorLaid Tryd.prog 400 os) #[.int .i64 0, .int .i64 0, .int .i64 0] 8 rfl (World.shaped_of_RefB (by kernel_rfl) (by kernel_rfl)) (by kernel_rfl) (by kernel_rfl) (by kernel_rfl) (door_met os _)) ?_
  intro W base args ds gs before hval0 hW _ _ hL _
  have hval : ∀ (j : Nat) t v, Tryd.f4.params[j]? = some t → args[j]? = some v → Value.okWide Tryd.prog W .any base t v := hval0
  have hW' := hW
  obtain ⟨p, q, hA0, hV, rfl, hfz, hnd⟩ := hW
  have hA : DataW.TrodAll enc Tryd.prog W 0 (fun _ => true) true Tryd.f4.params.toList args.toList ds p := hA0
  rw [Tryd.params4] at hA hval
  obtain ⟨v0, vs0, d0, ds0, p0, q0, hargs, rfl, rfl, h0, r0⟩ := trodAll_cons hA
  obtain ⟨v1, vs1, d1, ds1, p1, q1, rfl, rfl, rfl, h1, r1⟩ := trodAll_cons r0
  obtain ⟨v2, vs2, d2, ds2, p2, q2, rfl, rfl, rfl, h2, r2⟩ := trodAll_cons r1
  obtain ⟨rfl, rfl, rfl⟩ := trodAll_nil r2
  obtain ⟨rfl, rfl⟩ := trodVars_none hV
  obtain rfl : args = #[v0, v1, v2] := by cases args; simp_all
  obtain ⟨a0, rfl, rfl, rfl, w0⟩ := open_int Tryd.underlying3 (hval 0 3 v0 rfl rfl) h0
  obtain ⟨a1, rfl, rfl, rfl, w1⟩ := open_int Tryd.underlying3 (hval 1 3 v1 rfl rfl) h1
  obtain ⟨a2, rfl, rfl, rfl, w2⟩ := open_int Tryd.underlying3 (hval 2 3 v2 rfl rfl) h2
  clear hA0 hval0
  refine (snapSpoilt_walk a0 w0 a1 w1 a2 w2 W  (glob_of hL)).mono fun e W' ⟨he, hg⟩ => ?_
  subst he
  exact ⟨_, rfl, Kit.law_post hW' rfl (by kernel_rfl) rfl (by kernel_rfl) hg⟩

theorem snapSpoilt_holds : Rows.SnapSpoiltSaid :=
  OpenClaim.holds_of_wide 4 Tryd.f4 rfl rfl rfl rfl rfl rfl rfl ⟨rfl, rfl, rfl, rfl, rfl⟩ rfl rfl rfl rfl rfl (by kernel_rfl) Tryd.func4 (by kernel_rfl)
    (of_decide_eq_true (by kernel_rfl)) (by unfold Func.isWrapper; first | (rw [if_pos (by decide +kernel)]; kernel_rfl) | (rw [if_neg (by decide +kernel)]; exact ⟨rfl, rfl⟩))
    (fun os started H enc _ => snapSpoilt_lifted os started H enc)

theorem snapSpoilt_card : Rows.SnapSpoiltCardSaid :=
  Claim7.holds_tied_plain_at .later [] Rows.snapSpoiltCard.laidKinds true Rows.snapSpoiltCard.stood.harness Rows.snapSpoiltCard.stood.looks
    snapSpoilt_holds (fun _ h => by cases h) (by kernel_rfl) (fun _ h => by cases h) snapSpoilt_row_tie rfl ⟨rfl, rfl⟩ (by kernel_rfl) rfl
    (fun f fn hf hfn => by
      obtain rfl : f = 4 := Option.some.inj ((show Tryd.prog.funcNamed "hawthorn/hawthornlaw14.SnapSpoilt" = some 4 by kernel_rfl).symm.trans hf) |>.symm
      obtain rfl : fn = Tryd.f4 := (Option.some.inj (Tryd.func4.symm.trans hfn)).symm
      exact ⟨by kernel_rfl, fun j t ht => by
        rw [Tryd.params4] at ht
        have hm : t ∈ [3, 3, 3] := by simpa using Array.mem_of_getElem? ht
        have hall : ([3, 3, 3].all fun u => !Tryd.prog.wantsStandIn u) = true := by kernel_rfl
        exact (show Tryd.prog.wantsStandIn t = false by simpa using List.all_eq_true.1 hall t hm)⟩)
    (by kernel_rfl)

end Go.Proofs.YtccaomaobokldaaDoor.Snapy
