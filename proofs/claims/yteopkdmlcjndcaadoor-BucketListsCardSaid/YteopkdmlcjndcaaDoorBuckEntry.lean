/- Layer 15: what an entry gives to its bucket's sum. No condition but that key and value have fewer than 2^40 bytes. -/
import Derived.Test.YteopkdmlcjndcaaDoorBuckOf
namespace Go.Proofs.YteopkdmlcjndcaaDoor.Bucky
open Go.ChangeShapes Go.WideShapes Go.ChangeAt Go.RowKit
open Wirey Regy

/-- What an entry gives. -/
def entB (k v : Bs) (n m : Nat) : Bs := txt k ++ (txt v ++ (enc n ++ enc m))
set_option maxHeartbeats 4000000 in
set_option maxRecDepth 100000 in
theorem bytes_c (k v : Bs) (n m : Nat) (hk : k.length < 1000000) (hv : v.length < 1000000) (hn : n < 18446744073709551616) (hm : m < 18446744073709551616) (w : World) :
    Calls Tryd.prog 16 #[.agg #[.string (str k), .string (str v), .int .u64 (n : Int), .int .u64 (m : Int)]] w fun e w' => e = .returned (.string (str (entB k v n m))) ∧ Below w.heap.size w w' := by
  have hcat := str_cat
  have hsz := str_size
  have l1 := enc_len (n := k.length) (by omega)
  have l2 := enc_len (n := v.length) (by omega)
  have l3 := enc_len (n := n) hn
  have l4 := enc_len (n := m) hm
  have m1 : (txt k).length ≤ 1000010 := by unfold txt; rw [List.length_append]; omega
  have m2 : (txt v).length ≤ 1000010 := by unfold txt; rw [List.length_append]; omega
  have c1 : ¬ (9223372036854775807 < (txt k).length + (txt v).length) := by omega
  have c2 : ¬ (9223372036854775807 < (txt k ++ txt v).length + (enc n).length) := by rw [List.length_append]; omega
  have c3 : ¬ (9223372036854775807 < (txt k ++ txt v ++ enc n).length + (enc m).length) := by rw [List.length_append, List.length_append]; omega
  have c4 : ¬ (9223372036854775807 < (txt k).length + (txt v).length + (enc n).length) := by omega
  have c5 : ¬ (9223372036854775807 < (txt k).length + (txt v).length + (enc n).length + (enc m).length) := by omega
  have c6 : ¬ (9223372036854775807 < (txt k).length + ((txt v).length + (enc n).length) + (enc m).length) := by omega
  have hr : entB k v n m = txt k ++ (txt v ++ (enc n ++ enc m)) := rfl
  rw [hr]
  clear hr l1 l2 l3 l4 m1 m2
  have T1 := fun W => text_c k (by omega) W
  have T2 := fun W => text_c v (by omega) W
  have N1 := fun W => num_c n hn W
  have N2 := fun W => num_c m hm W
  have hX := Blk.new w ET #[.string (str k), .string (str v), .int .u64 (n : Int), .int .u64 (m : Int)]
  have hB0 : Below w.heap.size w (w.alloc (.cells #[.string (str k), .string (str v), .int .u64 (n : Int), .int .u64 (m : Int)] ET)) := (Below.refl _ w).alloc (Nat.le_refl _) _
  have hlt := hX.lt
  go_enter Tryd.func16, Tryd.ntmps16
  go_upto_region 1 with (fail)
  generalize w.alloc (.cells #[.string (str k), .string (str v), .int .u64 (n : Int), .int .u64 (m : Int)] ET) = w1 at *
  have hB := Lib.hid hB0.drew
  have hS : (w1.cell? ⟨w.heap.size, 0, none⟩ = some (.string (str k)) ∧ w1.cell? ⟨w.heap.size, 1, none⟩ = some (.string (str v)) ∧ w1.cell? ⟨w.heap.size, 2, none⟩ = some (.int .u64 (n : Int)) ∧ w1.cell? ⟨w.heap.size, 3, none⟩ = some (.int .u64 (m : Int)) ∧ w.heap.size ≤ w1.heap.size ∧ w.heap.size < w1.heap.size) := ⟨hX.cell 0, hX.cell 1, hX.cell 2, hX.cell 3, hB0.size, hlt⟩
  have stp : ∀ W W' : World, ((W.cell? ⟨w.heap.size, 0, none⟩ = some (.string (str k)) ∧ W.cell? ⟨w.heap.size, 1, none⟩ = some (.string (str v)) ∧ W.cell? ⟨w.heap.size, 2, none⟩ = some (.int .u64 (n : Int)) ∧ W.cell? ⟨w.heap.size, 3, none⟩ = some (.int .u64 (m : Int)) ∧ w.heap.size ≤ W.heap.size ∧ w.heap.size < W.heap.size)) → Below W.heap.size W W' → ((W'.cell? ⟨w.heap.size, 0, none⟩ = some (.string (str k)) ∧ W'.cell? ⟨w.heap.size, 1, none⟩ = some (.string (str v)) ∧ W'.cell? ⟨w.heap.size, 2, none⟩ = some (.int .u64 (n : Int)) ∧ W'.cell? ⟨w.heap.size, 3, none⟩ = some (.int .u64 (m : Int)) ∧ w.heap.size ≤ W'.heap.size ∧ w.heap.size < W'.heap.size)) := fun W W' h hb => ⟨(World.cell?_of_block (hb.block _ h.2.2.2.2.2)).trans h.1, (World.cell?_of_block (hb.block _ h.2.2.2.2.2)).trans h.2.1, (World.cell?_of_block (hb.block _ h.2.2.2.2.2)).trans h.2.2.1, (World.cell?_of_block (hb.block _ h.2.2.2.2.2)).trans h.2.2.2.1, Nat.le_trans h.2.2.2.2.1 hb.size, Nat.lt_of_lt_of_le h.2.2.2.2.2 hb.size⟩
  clear hX hB0 hlt
  refine region_only 16 #[false, false, false, false, false, false, false, false, false, false, false, false, false, false, false, false] (S := (fun W => (W.cell? ⟨w.heap.size, 0, none⟩ = some (.string (str k)) ∧ W.cell? ⟨w.heap.size, 1, none⟩ = some (.string (str v)) ∧ W.cell? ⟨w.heap.size, 2, none⟩ = some (.int .u64 (n : Int)) ∧ W.cell? ⟨w.heap.size, 3, none⟩ = some (.int .u64 (m : Int)) ∧ w.heap.size ≤ W.heap.size ∧ w.heap.size < W.heap.size))) rfl rfl (by kernel_rfl) hS (fun hSw => ?_)
  refine take_at 0 3 (fuel := 15) ?_ rfl rfl (by kernel_rfl) (by kernel_rfl) (by kernel_rfl) (Or.inl ⟨by rfl, ?_⟩) hSw ?_
  rotate_left
  · intro wx hSx
    (try dsimp only at hSx)
    go_split_ands
    go_simp
    (try with_reducible rfl)
  simp only [List.setIfInBounds_toArray, List.set_cons_zero, List.set_cons_succ]
  refine take_at 1 4 (fuel := 14) ?_ rfl rfl (by kernel_rfl) (by kernel_rfl) (by kernel_rfl) (Or.inl ⟨by rfl, ?_⟩) hSw ?_
  rotate_left
  · intro wx hSx
    (try dsimp only at hSx)
    go_split_ands
    go_simp
    (try with_reducible rfl)
  simp only [List.setIfInBounds_toArray, List.set_cons_zero, List.set_cons_succ]
  refine take_at 3 6 (fuel := 13) ?_ rfl rfl (by kernel_rfl) (by kernel_rfl) (by kernel_rfl) (Or.inl ⟨by rfl, ?_⟩) hSw ?_
  rotate_left
  · intro wx hSx
    (try dsimp only at hSx)
    go_split_ands
    go_simp
    (try with_reducible rfl)
  simp only [List.setIfInBounds_toArray, List.set_cons_zero, List.set_cons_succ]
  refine take_at 4 7 (fuel := 12) ?_ rfl rfl (by kernel_rfl) (by kernel_rfl) (by kernel_rfl) (Or.inl ⟨by rfl, ?_⟩) hSw ?_
  rotate_left
  · intro wx hSx
    (try dsimp only at hSx)
    go_split_ands
    go_simp
    (try with_reducible rfl)
  simp only [List.setIfInBounds_toArray, List.set_cons_zero, List.set_cons_succ]
  refine take_at 7 10 (fuel := 11) ?_ rfl rfl (by kernel_rfl) (by kernel_rfl) (by kernel_rfl) (Or.inl ⟨by rfl, ?_⟩) hSw ?_
  rotate_left
  · intro wx hSx
    (try dsimp only at hSx)
    go_split_ands
    go_simp
    (try with_reducible rfl)
  simp only [List.setIfInBounds_toArray, List.set_cons_zero, List.set_cons_succ]
  refine take_at 8 11 (fuel := 10) ?_ rfl rfl (by kernel_rfl) (by kernel_rfl) (by kernel_rfl) (Or.inl ⟨by rfl, ?_⟩) hSw ?_
  rotate_left
  · intro wx hSx
    (try dsimp only at hSx)
    go_split_ands
    go_simp
    (try with_reducible rfl)
  simp only [List.setIfInBounds_toArray, List.set_cons_zero, List.set_cons_succ]
  refine take_at 11 14 (fuel := 9) ?_ rfl rfl (by kernel_rfl) (by kernel_rfl) (by kernel_rfl) (Or.inl ⟨by rfl, ?_⟩) hSw ?_
  rotate_left
  · intro wx hSx
    (try dsimp only at hSx)
    go_split_ands
    go_simp
    (try with_reducible rfl)
  simp only [List.setIfInBounds_toArray, List.set_cons_zero, List.set_cons_succ]
  refine take_at 12 15 (fuel := 8) ?_ rfl rfl (by kernel_rfl) (by kernel_rfl) (by kernel_rfl) (Or.inl ⟨by rfl, ?_⟩) hSw ?_
  rotate_left
  · intro wx hSx
    (try dsimp only at hSx)
    go_split_ands
    go_simp
    (try with_reducible rfl)
  simp only [List.setIfInBounds_toArray, List.set_cons_zero, List.set_cons_succ]
  refine wpAnyH_ready (fuel := 7) (rs := [2]) (by kernel_rfl) (by simp) (AllReadyH.cons rfl (fun K hK => ?_) AllReadyH.nil)
  go_simp
  refine Calls.mono (T1 _) ?_
  rintro e wv ⟨rfl, hb⟩
  replace hB := Lib.hid (hB.out.trans (hb.mono hB.out.size))
  refine hK.out _ _ (stp _ _ hSw hb) (fun hSw => ?_)
  clear hK K
  simp only [List.setIfInBounds_toArray, List.set_cons_zero, List.set_cons_succ]
  refine wpAnyH_ready (fuel := 6) (rs := [5]) (by kernel_rfl) (by simp) (AllReadyH.cons rfl (fun K hK => ?_) AllReadyH.nil)
  go_simp
  refine Calls.mono (T2 _) ?_
  rintro e wv ⟨rfl, hb⟩
  replace hB := Lib.hid (hB.out.trans (hb.mono hB.out.size))
  refine hK.out _ _ (stp _ _ hSw hb) (fun hSw => ?_)
  clear hK K
  simp only [List.setIfInBounds_toArray, List.set_cons_zero, List.set_cons_succ]
  refine take_at 6 9 (fuel := 5) ?_ rfl rfl (by kernel_rfl) (by kernel_rfl) (by kernel_rfl) (Or.inl ⟨by rfl, ?_⟩) hSw ?_
  rotate_left
  · intro wx hSx
    (try dsimp only at hSx)
    go_split_ands
    go_simp
    (try with_reducible rfl)
  simp only [List.setIfInBounds_toArray, List.set_cons_zero, List.set_cons_succ]
  refine wpAnyH_ready (fuel := 4) (rs := [9]) (by kernel_rfl) (by simp) (AllReadyH.cons rfl (fun K hK => ?_) AllReadyH.nil)
  go_simp
  refine Calls.mono (N1 _) ?_
  rintro e wv ⟨rfl, hb⟩
  replace hB := Lib.hid (hB.out.trans (hb.mono hB.out.size))
  refine hK.out _ _ (stp _ _ hSw hb) (fun hSw => ?_)
  clear hK K
  simp only [List.setIfInBounds_toArray, List.set_cons_zero, List.set_cons_succ]
  refine take_at 10 13 (fuel := 3) ?_ rfl rfl (by kernel_rfl) (by kernel_rfl) (by kernel_rfl) (Or.inl ⟨by rfl, ?_⟩) hSw ?_
  rotate_left
  · intro wx hSx
    (try dsimp only at hSx)
    go_split_ands
    go_simp
    (try with_reducible rfl)
  simp only [List.setIfInBounds_toArray, List.set_cons_zero, List.set_cons_succ]
  refine wpAnyH_ready (fuel := 2) (rs := [13]) (by kernel_rfl) (by simp) (AllReadyH.cons rfl (fun K hK => ?_) AllReadyH.nil)
  go_simp
  refine Calls.mono (N2 _) ?_
  rintro e wv ⟨rfl, hb⟩
  replace hB := Lib.hid (hB.out.trans (hb.mono hB.out.size))
  refine hK.out _ _ (stp _ _ hSw hb) (fun hSw => ?_)
  clear hK K
  simp only [List.setIfInBounds_toArray, List.set_cons_zero, List.set_cons_succ]
  refine take_at 14 17 (fuel := 1) ?_ rfl rfl (by kernel_rfl) (by kernel_rfl) (by kernel_rfl) (Or.inl ⟨by rfl, ?_⟩) hSw ?_
  rotate_left
  · intro wx hSx
    (try dsimp only at hSx)
    go_split_ands
    go_simp
    (try with_reducible rfl)
  simp only [List.setIfInBounds_toArray, List.set_cons_zero, List.set_cons_succ]
  refine take_at 15 2 (fuel := 0) ?_ rfl rfl (by kernel_rfl) (by kernel_rfl) (by kernel_rfl) (Or.inl ⟨by rfl, ?_⟩) hSw ?_
  rotate_left
  · intro wx hSx
    (try dsimp only at hSx)
    go_split_ands
    go_simp
    (try with_reducible rfl)
  simp only [List.setIfInBounds_toArray, List.set_cons_zero, List.set_cons_succ]
  refine wpAnyH_done (by kernel_rfl) ⟨rfl, ?_⟩ 0
  go_wp2_with fail
  go_ret
  exact ⟨rfl, hB.out⟩
end Go.Proofs.YteopkdmlcjndcaaDoor.Bucky
