/- Layer 11: the law's own comparison of a table with the document's. No condition. -/
import Derived.Test.YtdjfdpmfpnbpjaaTabCalls
import Derived.Test.YtdjfdpmfpnbpjaaTabAwake
import Derived.Lib.Hide
import Derived.Laws.Cover1
import Derived.BigQuiet
namespace Go.Proofs.Ytdjfdpmfpnbpjaa.Taby
open Go.ChangeShapes Go.WideShapes Go.ChangeAt Go.RowKit
open Wirey (Blk Row str str_size str_list str_cat str_take enc enc_len txt Kp)
open Regy

set_option maxHeartbeats 2000000 in
set_option maxRecDepth 100000 in
theorem same_c {w0 w : World} {P : Nat → Prop} {b : Nat} {m : List En} {v : Value} (hl : m.length ≤ 10000) (h : HeldT w0 w P b m) (hv : Sl w 0 v m) :
    Calls Try.prog 23 #[tp b, v] w fun e w' => e = .returned (.bool true) ∧ Below w.heap.size w w' := by
  have htl := Wirey.toList_str
  obtain ⟨a, c, rfl⟩ := hv.form
  have hrise := h.rise
  have hok := h.ok
  have hkl : (keysOf m).length = m.length := by simp [keysOf]
  go_enter Try.func23, Try.ntmps23
  go_wp2_with fail
  refine (keys_c (by omega) h).mono ?_
  rintro e w1 ⟨vk, rfl, hk1, hb1⟩
  obtain ⟨ak, ck, rfl⟩ := hk1.form
  rw [hkl]
  have h1 := h.below hb1
  have hv1 := hv.below hb1
  clear h hv
  go_wp2_with fail
  refine (len_c (by omega) h1).mono ?_
  rintro e w2 ⟨rfl, hb2⟩
  have h2 := h1.below hb2
  have hv2 := hv1.below hb2
  have hk2 := hk1.below hb2
  have hb3 := hb1.trans (hb2.mono hb1.size)
  clear h1 hv1 hk1 hb1 hb2
  go_wp2_with fail
  refine (bytes_c (by omega) h2).mono ?_
  rintro e w3 ⟨rfl, hb2⟩
  have h3 := h2.below hb2
  have hv3 := hv2.below hb2
  have hk3 := hk2.below hb2
  have hb4 := hb3.trans (hb2.mono hb3.size)
  clear h2 hv2 hk2 hb2 hb3
  go_wp2_with fail
  refine (rbytes_c (by omega) hok _ hv3).mono ?_
  rintro e w4 ⟨rfl, hb2⟩
  have h4 := h3.below hb2
  have hv4 := hv3.below hb2
  have hk4 := hk3.below hb2
  have hb5 := hb4.trans (hb2.mono hb4.size)
  clear h3 hv3 hk3 hb2 hb4
  go_wp2_with fail
  go_loopw [6] (fun i wr => ∃ j : Nat, j ≤ m.length ∧ i = .int .i64 j ∧ Below w4.heap.size w4 wr) (fun i _ => m.length - (intOf i).toNat)
  case atStart => exact ⟨0, by omega, rfl, Below.refl _ _⟩
  case round =>
    obtain ⟨j, hj, rfl, hb⟩ := hrel
    have hT := h4.below hb
    have hv5 := hv4.below hb
    have hk5 := hk4.below hb
    have hb6 := hb5.trans (hb.mono hb5.size)
    by_cases h3 : j < m.length
    · obtain ⟨y, hy⟩ : ∃ y, m[j]? = some y := ⟨_, List.getElem?_eq_getElem h3⟩
      have hym := List.mem_of_getElem? hy
      have hfy := find_of_mem hrise hym
      have hyk := (hok y hym).key
      have hlt : (j : Int) < (m.length : Int) := by omega
      obtain ⟨g, rfl, -, hg, hcell⟩ := hv5.at_ hy
      obtain ⟨gk, rfl, -, hgk, hkcell⟩ := hk5.at_ (x := y.key) (show (keysOf m)[j]? = some y.key by simp [keysOf, hy])
      obtain ⟨c0, -, -, -⟩ := hcell wr rfl
      have hT' := Lib.hid hT
      have HV := Lib.hid hv5
      have HK := Lib.hid hk5
      have HB6 := Lib.hid hb6
      have HB := Lib.hid hb
      have HC := Lib.hid hcell
      have HKC := Lib.hid hkcell
      clear hT hv5 hk5 hb6 hb hcell hkcell
      go_wp2_with fail
      refine (get_c y.key hyk (by omega) hT'.out).mono ?_
      rintro e w6 ⟨rfl, hb7⟩
      rw [hfy]
      dsimp only [Option.getD_some, Option.isSome_some]
      have hx := Blk.new w6 32 y.cs
      have hb8 := hb7.alloc hb7.size (.cells y.cs 32)
      have hglt := Nat.lt_of_lt_of_le hg hb7.size
      have hgklt := Nat.lt_of_lt_of_le hgk hb7.size
      clear c0 hb7
      go_upto_region 8 with (fail)
      generalize hw7 : w6.alloc (.cells _ 32) = w7 at *
      clear hw7
      generalize w6.heap.size = q at *
      obtain ⟨c0, c1, c2, c3⟩ := HC.out w7.drew (hb8.block g hg)
      have k0 := HKC.out w7.drew (hb8.block gk hgk)
      have x0 : w7.drew.cell? ⟨q, 0, none⟩ = some (.string (str y.key)) := hx.cell 0
      have x1 : w7.drew.cell? ⟨q, 1, none⟩ = some (.string (str y.val)) := hx.cell 1
      have x2 : w7.drew.cell? ⟨q, 2, none⟩ = some (.int .u64 (y.ver : Int)) := hx.cell 2
      have x3 : w7.drew.cell? ⟨q, 3, none⟩ = some (.int .u64 (y.fin : Int)) := hx.cell 3
      refine region_only 22 #[false, false, false, false, false, false, false, false, false, false, false, false, false, false, false, false, false, false, false, false, false, false] (S := (fun W => W.cell? ⟨g, j * 4, none⟩ = some (.string (str y.key)) ∧ W.cell? ⟨g, j * 4 + 1, none⟩ = some (.string (str y.val)) ∧ W.cell? ⟨g, j * 4 + 2, none⟩ = some (.int .u64 (y.ver : Int)) ∧ W.cell? ⟨g, j * 4 + 3, none⟩ = some (.int .u64 (y.fin : Int)) ∧ W.cell? ⟨gk, j, none⟩ = some (.string (str y.key)) ∧ W.cell? ⟨q, 0, none⟩ = some (.string (str y.key)) ∧ W.cell? ⟨q, 1, none⟩ = some (.string (str y.val)) ∧ W.cell? ⟨q, 2, none⟩ = some (.int .u64 (y.ver : Int)) ∧ W.cell? ⟨q, 3, none⟩ = some (.int .u64 (y.fin : Int)))) rfl rfl (by kernel_rfl) ⟨c0, c1, c2, c3, k0, x0, x1, x2, x3⟩ (fun hSw => ?_)
      refine take_at 0 46 (fuel := 21) ?_ rfl rfl (by kernel_rfl) (by kernel_rfl) (by kernel_rfl) (Or.inl ⟨by rfl, ?_⟩) hSw ?_
      rotate_left
      · intro wx hSx
        (try dsimp only at hSx)
        go_split_ands
        go_simp
        (try with_reducible rfl)
      simp only [List.setIfInBounds_toArray, List.set_cons_zero, List.set_cons_succ]
      refine take_at 1 47 (fuel := 20) ?_ rfl rfl (by kernel_rfl) (by kernel_rfl) (by kernel_rfl) (Or.inl ⟨by rfl, ?_⟩) hSw ?_
      rotate_left
      · intro wx hSx
        (try dsimp only at hSx)
        go_split_ands
        go_simp
        (try with_reducible rfl)
      simp only [List.setIfInBounds_toArray, List.set_cons_zero, List.set_cons_succ]
      refine take_at 2 48 (fuel := 19) ?_ rfl rfl (by kernel_rfl) (by kernel_rfl) (by kernel_rfl) (Or.inl ⟨by rfl, ?_⟩) hSw ?_
      rotate_left
      · intro wx hSx
        (try dsimp only at hSx)
        go_split_ands
        go_simp
        (try with_reducible rfl)
      simp only [List.setIfInBounds_toArray, List.set_cons_zero, List.set_cons_succ]
      refine take_at 3 49 (fuel := 18) ?_ rfl rfl (by kernel_rfl) (by kernel_rfl) (by kernel_rfl) (Or.inl ⟨by rfl, ?_⟩) hSw ?_
      rotate_left
      · intro wx hSx
        (try dsimp only at hSx)
        go_split_ands
        go_simp
        (try with_reducible rfl)
      simp only [List.setIfInBounds_toArray, List.set_cons_zero, List.set_cons_succ]
      refine take_at 4 50 (fuel := 17) ?_ rfl rfl (by kernel_rfl) (by kernel_rfl) (by kernel_rfl) (Or.inl ⟨by rfl, ?_⟩) hSw ?_
      rotate_left
      · intro wx hSx
        (try dsimp only at hSx)
        go_split_ands
        go_simp
        (try with_reducible rfl)
      simp only [List.setIfInBounds_toArray, List.set_cons_zero, List.set_cons_succ]
      refine take_at 5 51 (fuel := 16) ?_ rfl rfl (by kernel_rfl) (by kernel_rfl) (by kernel_rfl) (Or.inl ⟨by rfl, ?_⟩) hSw ?_
      rotate_left
      · intro wx hSx
        (try dsimp only at hSx)
        go_split_ands
        go_simp
        (try with_reducible rfl)
      simp only [List.setIfInBounds_toArray, List.set_cons_zero, List.set_cons_succ]
      refine take_at 6 52 (fuel := 15) ?_ rfl rfl (by kernel_rfl) (by kernel_rfl) (by kernel_rfl) (Or.inl ⟨by rfl, ?_⟩) hSw ?_
      rotate_left
      · intro wx hSx
        (try dsimp only at hSx)
        go_split_ands
        go_simp
        (try with_reducible rfl)
      simp only [List.setIfInBounds_toArray, List.set_cons_zero, List.set_cons_succ]
      refine take_at 7 53 (fuel := 14) ?_ rfl rfl (by kernel_rfl) (by kernel_rfl) (by kernel_rfl) (Or.inl ⟨by rfl, ?_⟩) hSw ?_
      rotate_left
      · intro wx hSx
        (try dsimp only at hSx)
        go_split_ands
        go_simp
        (try with_reducible rfl)
      simp only [List.setIfInBounds_toArray, List.set_cons_zero, List.set_cons_succ]
      refine take_at 8 54 (fuel := 13) ?_ rfl rfl (by kernel_rfl) (by kernel_rfl) (by kernel_rfl) (Or.inl ⟨by rfl, ?_⟩) hSw ?_
      rotate_left
      · intro wx hSx
        (try dsimp only at hSx)
        go_split_ands
        go_simp
        (try with_reducible rfl)
      simp only [List.setIfInBounds_toArray, List.set_cons_zero, List.set_cons_succ]
      refine take_at 9 55 (fuel := 12) ?_ rfl rfl (by kernel_rfl) (by kernel_rfl) (by kernel_rfl) (Or.inl ⟨by rfl, ?_⟩) hSw ?_
      rotate_left
      · intro wx hSx
        (try dsimp only at hSx)
        go_split_ands
        go_simp
        (try with_reducible rfl)
      simp only [List.setIfInBounds_toArray, List.set_cons_zero, List.set_cons_succ]
      refine take_at 10 56 (fuel := 11) ?_ rfl rfl (by kernel_rfl) (by kernel_rfl) (by kernel_rfl) (Or.inl ⟨by rfl, ?_⟩) hSw ?_
      rotate_left
      · intro wx hSx
        (try dsimp only at hSx)
        go_split_ands
        go_simp
        (try with_reducible rfl)
      simp only [List.setIfInBounds_toArray, List.set_cons_zero, List.set_cons_succ]
      refine take_at 11 57 (fuel := 10) ?_ rfl rfl (by kernel_rfl) (by kernel_rfl) (by kernel_rfl) (Or.inl ⟨by rfl, ?_⟩) hSw ?_
      rotate_left
      · intro wx hSx
        (try dsimp only at hSx)
        go_split_ands
        go_simp
        (try with_reducible rfl)
      simp only [List.setIfInBounds_toArray, List.set_cons_zero, List.set_cons_succ]
      refine take_at 12 58 (fuel := 9) ?_ rfl rfl (by kernel_rfl) (by kernel_rfl) (by kernel_rfl) (Or.inl ⟨by rfl, ?_⟩) hSw ?_
      rotate_left
      · intro wx hSx
        (try dsimp only at hSx)
        go_split_ands
        go_simp
        (try with_reducible rfl)
      simp only [List.setIfInBounds_toArray, List.set_cons_zero, List.set_cons_succ]
      refine take_at 13 59 (fuel := 8) ?_ rfl rfl (by kernel_rfl) (by kernel_rfl) (by kernel_rfl) (Or.inl ⟨by rfl, ?_⟩) hSw ?_
      rotate_left
      · intro wx hSx
        (try dsimp only at hSx)
        go_split_ands
        go_simp
        (try with_reducible rfl)
      simp only [List.setIfInBounds_toArray, List.set_cons_zero, List.set_cons_succ]
      refine take_at 14 60 (fuel := 7) ?_ rfl rfl (by kernel_rfl) (by kernel_rfl) (by kernel_rfl) (Or.inl ⟨by rfl, ?_⟩) hSw ?_
      rotate_left
      · intro wx hSx
        (try dsimp only at hSx)
        go_split_ands
        go_simp
        (try with_reducible rfl)
      simp only [List.setIfInBounds_toArray, List.set_cons_zero, List.set_cons_succ]
      refine take_at 15 61 (fuel := 6) ?_ rfl rfl (by kernel_rfl) (by kernel_rfl) (by kernel_rfl) (Or.inl ⟨by rfl, ?_⟩) hSw ?_
      rotate_left
      · intro wx hSx
        (try dsimp only at hSx)
        go_split_ands
        go_simp
        (try with_reducible rfl)
      simp only [List.setIfInBounds_toArray, List.set_cons_zero, List.set_cons_succ]
      refine take_at 16 62 (fuel := 5) ?_ rfl rfl (by kernel_rfl) (by kernel_rfl) (by kernel_rfl) (Or.inl ⟨by rfl, ?_⟩) hSw ?_
      rotate_left
      · intro wx hSx
        (try dsimp only at hSx)
        go_split_ands
        go_simp
        (try with_reducible rfl)
      simp only [List.setIfInBounds_toArray, List.set_cons_zero, List.set_cons_succ]
      refine take_at 17 63 (fuel := 4) ?_ rfl rfl (by kernel_rfl) (by kernel_rfl) (by kernel_rfl) (Or.inl ⟨by rfl, ?_⟩) hSw ?_
      rotate_left
      · intro wx hSx
        (try dsimp only at hSx)
        go_split_ands
        go_simp
        (try with_reducible rfl)
      simp only [List.setIfInBounds_toArray, List.set_cons_zero, List.set_cons_succ]
      refine take_at 18 64 (fuel := 3) ?_ rfl rfl (by kernel_rfl) (by kernel_rfl) (by kernel_rfl) (Or.inl ⟨by rfl, ?_⟩) hSw ?_
      rotate_left
      · intro wx hSx
        (try dsimp only at hSx)
        go_split_ands
        go_simp
        (try with_reducible rfl)
      simp only [List.setIfInBounds_toArray, List.set_cons_zero, List.set_cons_succ]
      refine take_at 19 65 (fuel := 2) ?_ rfl rfl (by kernel_rfl) (by kernel_rfl) (by kernel_rfl) (Or.inl ⟨by rfl, ?_⟩) hSw ?_
      rotate_left
      · intro wx hSx
        (try dsimp only at hSx)
        go_split_ands
        go_simp
        (try with_reducible rfl)
      simp only [List.setIfInBounds_toArray, List.set_cons_zero, List.set_cons_succ]
      refine take_at 20 66 (fuel := 1) ?_ rfl rfl (by kernel_rfl) (by kernel_rfl) (by kernel_rfl) (Or.inl ⟨by rfl, ?_⟩) hSw ?_
      rotate_left
      · intro wx hSx
        (try dsimp only at hSx)
        go_split_ands
        go_simp
        (try with_reducible rfl)
      simp only [List.setIfInBounds_toArray, List.set_cons_zero, List.set_cons_succ]
      refine take_at 21 67 (fuel := 0) ?_ rfl rfl (by kernel_rfl) (by kernel_rfl) (by kernel_rfl) (Or.inl ⟨by rfl, ?_⟩) hSw ?_
      rotate_left
      · intro wx hSx
        (try dsimp only at hSx)
        go_split_ands
        go_simp
        (try with_reducible rfl)
      simp only [List.setIfInBounds_toArray, List.set_cons_zero, List.set_cons_succ]
      refine wpAnyH_done (by kernel_rfl) ⟨rfl, ?_⟩ 0
      clear hSw c0 c1 c2 c3 k0 x0 x1 x2 x3
      have hb9 : Below wr.heap.size wr w7.drew := hb8.drew
      generalize w7.drew = w8 at *
      go_wp2_with fail
      go_roundw
      case rel => exact ⟨j + 1, by omega, rfl, HB.out.trans (hb9.mono HB.out.size)⟩
      case measure => simp [intOf]; omega
    · obtain rfl : j = m.length := by omega
      clear hT hv5 hk5
      go_wp2_with fail
      go_ret
      exact ⟨rfl, hb6⟩
end Go.Proofs.Ytdjfdpmfpnbpjaa.Taby
