/- The walk of BlakeSame (layer 4), over whatever contract the program's sum of bytes has: if it answers the document's sum in every world that Q holds of, the law answers true and turns nothing that was there. -/
import Derived.Test.YtepodejkkhfchaaDoorBlakeSumR
namespace Go.Proofs.YtepodejkkhfchaaDoor.Wirey
open Go.ChangeShapes Go.WideShapes Go.ChangeAt Go.RowKit

/-- The program's sum is the document's, wherever Q holds. -/
def SumOk (Q : World → Prop) : Prop := (∀ w w', Q w → Below w.heap.size w w' → Q w') ∧
  ∀ (l : List UInt8) (w : World), l.length < 1099511627776 → Q w → Calls Tryd.prog 5 #[.string (str l)] w (SumEnd l w)

set_option maxHeartbeats 4000000 in
set_option maxRecDepth 100000 in
theorem awake_c {Q : World → Prop} (hS : SumOk Q) (w : World) (hQ : Q w) :
    Calls Tryd.prog 4 #[] w fun e w' => e = .returned (.bool true) ∧ Below w.heap.size w w' := by
  have h := hS.2 [97, 98, 99] w (by decide) hQ
  have hz : (str abcL).size = 32 := rfl
  have v0 : ∀ hh, (str abcL)[0]'hh = 80 := fun _ => rfl
  have v1 : ∀ hh, (str abcL)[1]'hh = 140 := fun _ => rfl
  have v2 : ∀ hh, (str abcL)[2]'hh = 94 := fun _ => rfl
  have v3 : ∀ hh, (str abcL)[3]'hh = 140 := fun _ => rfl
  have v31 : ∀ hh, (str abcL)[31]'hh = 130 := fun _ => rfl
  have H := Lib.hid h
  clear h hS hQ
  go_enter Tryd.func4, Tryd.ntmps4
  go_wp2_with fail
  refine H.out.mono ?_
  rintro e w1 ⟨rfl, hb⟩
  rw [abc_l]
  have HB := Lib.hid hb
  clear hb H
  go_wp2_with fail
  go_ret
  exact ⟨rfl, HB.out⟩

set_option maxHeartbeats 8000000 in
set_option maxRecDepth 100000 in
theorem blakeSame_gen {Q : World → Prop} (hS : SumOk Q) (a0 : ByteArray) (w0 : a0.size ≤ maxLen) (a1 : Int) (w1 : (Lit.int .i64 a1).wf = true) (w : World) (hQ : Q w) :
    Calls Tryd.prog 3 #[.string a0, .int .i64 a1] w fun e w' => e = .returned (.bool true) ∧ Below w.heap.size w w' := by
  obtain ⟨l, rfl⟩ : ∃ l, a0 = str l := ⟨_, str_of a0⟩
  rw [str_size] at w0
  unfold maxLen at w0
  have hsz := str_size
  have hi := bounds_i64 w1
  have e0 : ByteArray.mk #[] = str [] := rfl
  have HS := Lib.hid hS
  have HQ := Lib.hid hQ
  have HA := Lib.hid (awake_c hS w hQ)
  clear hS hQ
  go_enter Tryd.func3, Tryd.ntmps3
  by_cases h500 : 500 < l.length
  case' pos =>
    have htk := str_take l 500
    have hlt : (l.take 500).length = 500 := by rw [List.length_take]; omega
    obtain ⟨u, hu⟩ : ∃ u, u = l.take 500 := ⟨_, rfl⟩
    rw [← hu] at htk hlt
    have hu5 : u.length ≤ 500 := by omega
    clear hu hlt
    go_upto_region 3 with fail
    clear htk h500 w0
  case' neg =>
    go_upto_region 3 with fail
    have hu5 : l.length ≤ 500 := by omega
    obtain ⟨u, rfl⟩ : ∃ u, u = l := ⟨l, rfl⟩
    clear h500 w0
  all_goals
    by_cases hnil : u.length = 0
    · obtain rfl : u = [] := List.eq_nil_of_length_eq_zero hnil
      have hz : ((([] : List UInt8).length : Int) == 0) = true := rfl
      clear hnil hu5
      go_wp2_with fail
      refine HA.out.mono ?_
      rintro e v1 ⟨rfl, hb1⟩
      have Q1 := HS.out.1 _ _ HQ.out hb1
      go_wp2_with fail
      refine (HS.out.2 [] _ (by decide) Q1).mono ?_
      rintro e v2 ⟨rfl, hb2⟩
      have Q2 := HS.out.1 _ _ Q1 hb2
      go_wp2_with fail
      refine (HS.out.2 [] _ (by decide) Q2).mono ?_
      rintro e v3 ⟨rfl, hb3⟩
      have hB := Lib.hid ((hb1.trans (hb2.mono hb1.size)).trans (hb3.mono (hb1.trans (hb2.mono hb1.size)).size))
      clear hb1 hb2 hb3 Q1 Q2
      go_wp2_with fail
      go_ret
      exact ⟨rfl, hB.out⟩
    · have hz : ((u.length : Int) == 0) = false := by rw [beq_eq_false_iff_ne]; omega
      have hcv := run_bytes_of_string (P := Tryd.prog) w 9 24 5 (str u) Tryd.underlying9 Tryd.underlying24 Tryd.underlying5
      have hrow := bytes_row (w := w) (l := u) (c := grownCap w (str u).size 0 5) (lo := (bytesRow (str u) (grownCap w (str u).size 0 5)).size) (hi := (bytesRow (str u) (grownCap w (str u).size 0 5)).size + 1) (e := 5) (by simp [bytesRow, str])
      have hbel : Below w.heap.size w (w.drew.alloc (.cells (bytesRow (str u) (grownCap w (str u).size 0 5)) 5 ((bytesRow (str u) (grownCap w (str u).size 0 5)).size, (bytesRow (str u) (grownCap w (str u).size 0 5)).size + 1))) := ((Below.refl _ _).drew).alloc (Nat.le_refl _) _
      generalize (w.drew.alloc (.cells (bytesRow (str u) (grownCap w (str u).size 0 5)) 5 ((bytesRow (str u) (grownCap w (str u).size 0 5)).size, (bytesRow (str u) (grownCap w (str u).size 0 5)).size + 1))) = wb at hrow hbel hcv
      rw [str_size] at hcv
      generalize grownCap w u.length 0 5 = cp at hcv
      have hn0 : (0 : Int) < (u.length : Int) := by omega
      have hm1 : -(u.length : Int) < a1.tmod (u.length : Int) := by have := Int.lt_tmod_of_pos a1 hn0; omega
      have hm2 : a1.tmod (u.length : Int) < (u.length : Int) := Int.tmod_lt_of_pos a1 hn0
      obtain ⟨k, hk⟩ : ∃ k : Nat, (a1.tmod (u.length : Int) + (u.length : Int)) % (u.length : Int) = (k : Int) := ⟨((a1.tmod (u.length : Int) + (u.length : Int)) % (u.length : Int)).toNat, by have := Int.emod_nonneg (a1.tmod (u.length : Int) + (u.length : Int)) (show (u.length : Int) ≠ 0 by omega); omega⟩
      have hkl : k < u.length := by have := Int.emod_lt_of_pos (a1.tmod (u.length : Int) + (u.length : Int)) hn0; omega
      have HK := Lib.hid hk
      clear hk
      go_upto_region 7 with fail
      rw [HK.out]
      clear hm1 hm2 HK
      have c1 := hrow.cell k _ (u8s_at hkl)
      have f1 := hrow.free k (by rw [u8s_len]; exact hkl)
      have b1 := nums_lt u k
      have hxl : nat_ (nums u) k ^^^ 1 < 256 := Nat.xor_lt_two_pow (n := 8) b1 (by decide)
      have x1 := u8_xor_nat (nat_ (nums u) k) 1 b1 (by decide)
      rw [show ((1 : Nat) : Int) = 1 from rfl] at x1
      have hput := hrow.put (i := k) (by rw [u8s_len]; exact hkl) (.int .u8 ((nat_ (nums u) k ^^^ 1 : Nat) : Int))
      rw [u8s_set _ _ _ hxl] at hput
      have hlt : (u.set k (UInt8.ofNat (nat_ (nums u) k ^^^ 1))).length = u.length := List.length_set ..
      have hbn := hbel.setCell (p := ⟨w.heap.size, k, none⟩) (Nat.le_refl _) (.int .u8 ((nat_ (nums u) k ^^^ 1 : Nat) : Int))
      have HP := Lib.hid hput
      have HB := Lib.hid hbn
      clear hput hbn hrow hbel hnil
      go_upto_region 8 with fail
      have hP := HP.out
      have hB := HB.out
      obtain ⟨t, ht⟩ : ∃ t, t = u.set k (UInt8.ofNat (nat_ (nums u) k ^^^ 1)) := ⟨_, rfl⟩
      rw [← ht] at hP hlt
      generalize World.setCell wb ⟨w.heap.size, k, none⟩ (.int .u8 ((nat_ (nums u) k ^^^ 1 : Nat) : Int)) = wn at hP hB ⊢
      clear HP HB c1 f1 x1 hxl b1 hcv ht
      have hcv2 : (convert 24 9 (.slice (some ⟨w.heap.size, 0, none⟩) u.length cp)).run Tryd.prog wn = .ok (.string (str t)) wn := by
        have h := run_convert_bytes_back wn 24 9 5 ⟨w.heap.size, 0, none⟩ cp t Tryd.underlying24 Tryd.underlying5 Tryd.underlying9 (fun j hj => by
          refine (hP.adds j _ ?_)
          unfold u8s
          rw [List.getElem?_map, List.getElem?_eq_getElem hj]
          rfl)
        rw [hlt] at h
        exact h
      have hul : u.length < 1099511627776 := by omega
      have htl : t.length < 1099511627776 := by omega
      have Q0 := HS.out.1 _ _ HQ.out hB
      have HL := Lib.hid hlt
      clear hP hlt HA HQ hkl
      go_wp2_with fail
      refine (awake_c HS.out _ Q0).mono ?_
      rintro e v1 ⟨rfl, hb1⟩
      have Q1 := HS.out.1 _ _ Q0 hb1
      have B1 := hB.trans (hb1.mono hB.size)
      clear hcv2 hb1
      go_wp2_with fail
      refine (HS.out.2 u _ hul Q1).mono ?_
      rintro e v2 ⟨rfl, hb2⟩
      have Q2 := HS.out.1 _ _ Q1 hb2
      have B2 := B1.trans (hb2.mono B1.size)
      clear hb2
      go_wp2_with fail
      refine (HS.out.2 u _ hul Q2).mono ?_
      rintro e v3 ⟨rfl, hb3⟩
      have Q3 := HS.out.1 _ _ Q2 hb3
      have B3 := B2.trans (hb3.mono B2.size)
      clear hb3
      go_wp2_with fail
      refine (HS.out.2 u _ hul Q3).mono ?_
      rintro e v4 ⟨rfl, hb4⟩
      have Q4 := HS.out.1 _ _ Q3 hb4
      have B4 := B3.trans (hb4.mono B3.size)
      clear hb4
      go_wp2_with fail
      refine (HS.out.2 t _ htl Q4).mono ?_
      rintro e v5 ⟨rfl, hb5⟩
      have B5 := B4.trans (hb5.mono B4.size)
      clear hb5
      by_cases hE : sumL u = sumL t
      · rw [← hE]
        have HE := Lib.hid hE
        clear hE
        go_wp2_with fail
        refine (sum_c u hul _).mono ?_
        rintro e v6 ⟨rfl, hb6⟩
        have B6 := B5.trans (hb6.mono B5.size)
        clear hb6
        go_wp2_with fail
        refine (sum_c t htl _).mono ?_
        rintro e v7 ⟨rfl, hb7⟩
        rw [← HE.out]
        have B7 := Lib.hid (B6.trans (hb7.mono B6.size))
        clear hb7
        go_wp2_with fail
        go_ret
        exact ⟨rfl, B7.out⟩
      · have hb : ((str (sumL u)).toList == (str (sumL t)).toList) = false := by rw [toList_str, toList_str, beq_eq_false_iff_ne]; exact hE
        generalize str (sumL u) = A at hb ⊢
        generalize str (sumL t) = B at hb ⊢
        have HB5 := Lib.hid B5
        clear hE B5 B4 B3 B2 B1 Q0 Q1 Q2 Q3 Q4 hB
        go_wp2_with fail
        go_ret
        exact ⟨rfl, HB5.out⟩
end Go.Proofs.YtepodejkkhfchaaDoor.Wirey
