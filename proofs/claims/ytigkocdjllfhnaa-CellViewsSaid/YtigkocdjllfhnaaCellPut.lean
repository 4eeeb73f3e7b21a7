/- Layer 16: a view's bytes, the program's and the document's. The only condition: it may be, or is the empty one. -/
import Derived.Test.YtigkocdjllfhnaaCellOps
import Derived.Test.YtigkocdjllfhnaaWireEnc
namespace Go.Proofs.Ytigkocdjllfhnaa.Celly
open Go.ChangeShapes Go.WideShapes Go.ChangeAt Go.RowKit
open Wirey (Blk Row Kp str str_size str_list str_cat enc enc_len)
open Regy
/-- The bytes of six numbers. -/
def six (v p l k b t : Nat) : List UInt8 := enc v ++ (enc p ++ (enc l ++ (enc k ++ (enc b ++ enc t))))
def vw (v p l k b t : Nat) : Vw := ⟨v, (p : Int), l, (k : Int) - 1, b, t⟩
theorem may_vw {x : Vw} (h : May x) : ∃ v p l k b t, x = vw v p l k b t ∧ v ≠ 0 ∧ p < 1048576 ∧ k ≤ 1048576 := by
  obtain ⟨h0, h1, ⟨h2, h3, h4⟩, h5⟩ := h
  refine ⟨x.v, x.pr.toNat, x.pl, (x.ba + 1).toNat, x.bl, x.ep, ?_, h0, by omega, ?_⟩
  · refine Vw.ext rfl ?_ rfl ?_ rfl rfl
    · show x.pr = (x.pr.toNat : Int); omega
    · show x.ba = ((x.ba + 1).toNat : Int) - 1
      rcases h5 with ⟨h5, -⟩ | ⟨-, -, h5, -, -⟩ <;> omega
  · rcases h5 with ⟨h5, -⟩ | ⟨-, -, h5, h6, -⟩ <;> omega
/-- Numbers in a row; their bytes. -/
def u64s (l : List Nat) : Array Value := (l.map fun n : Nat => Value.int .u64 (n : Int)).toArray
theorem u64s_at {l : List Nat} {j n : Nat} (h : l[j]? = some n) : (u64s l)[j]? = some (.int .u64 (n : Int)) := by unfold u64s; simp [h]
def flat (l : List Nat) : List UInt8 := (l.map enc).flatten
theorem flat_take {l : List Nat} {j n : Nat} (h : l[j]? = some n) : flat (l.take j) ++ enc n = flat (l.take (j + 1)) := by
  rw [List.take_add_one, h]; simp [flat]
set_option maxHeartbeats 4000000 in
set_option maxRecDepth 100000 in
theorem put_c {v p l k b t : Nat} (hv : v < 18446744073709551616) (hp : p < 1048576) (hl : l < 18446744073709551616) (hk : k ≤ 1048576) (hb : b < 18446744073709551616) (ht : t < 18446744073709551616) (hne : vw v p l k b t ≠ noV) (w : World) : Calls Try.prog 15 #[.agg ((vw v p l k b t)).cs] w fun e w' => e = .returned (.string (str (six v p l k b t))) ∧ Below w.heap.size w w' := by
  have hcat := str_cat
  have hsz := str_size
  have l0 := enc_len (n := v) hv
  have l1 := enc_len (n := p) (by omega)
  have l2 := enc_len (n := l) hl
  have l3 := enc_len (n := k) (by omega)
  have l4 := enc_len (n := b) hb
  have l5 := enc_len (n := t) ht
  have c1 : ¬ (9223372036854775807 < (enc v).length + (enc p).length) := by omega
  have c2 : ¬ (9223372036854775807 < (enc v).length + ((enc p).length) + (enc l).length) := by omega
  have c3 : ¬ (9223372036854775807 < (enc v).length + ((enc p).length + ((enc l).length)) + (enc k).length) := by omega
  have c4 : ¬ (9223372036854775807 < (enc v).length + ((enc p).length + ((enc l).length + ((enc k).length))) + (enc b).length) := by omega
  have c5 : ¬ (9223372036854775807 < (enc v).length + ((enc p).length + ((enc l).length + ((enc k).length + ((enc b).length)))) + (enc t).length) := by omega
  have HR : Hid (six v p l k b t = enc v ++ (enc p ++ (enc l ++ (enc k ++ (enc b ++ enc t))))) := Lib.hid rfl
  clear l0 l1 l2 l3 l4 l5
  have ew : IntKind.u64.wrap (p : Int) = (p : Int) := by rw [IntKind.wrap_u64]; omega
  have eb : IntKind.u64.wrap (IntKind.u64.wrap ((k : Int) - 1) + 1) = (k : Int) := by rw [IntKind.wrap_u64, IntKind.wrap_u64]; omega
  have hq0 : ∀ w, (Op.equalIn 10000 VT (.agg #[.int .u64 (v : Int), .int .i64 (p : Int), .int .u64 (l : Int), .int .i64 ((k : Int) - 1), .int .u64 (b : Int), .int .u64 (t : Int)]) (.agg #[.int .u64 0, .int .i64 0, .int .u64 0, .int .i64 0, .int .u64 0, .int .u64 0])).run Try.prog w = .ok false w := fun w => by
    have h1 := eq_no (x := vw v p l k b t) (y := noV) hne w
    rw [zero_cs] at h1
    exact h1
  show Calls Try.prog 15 #[.agg #[.int .u64 (v : Int), .int .i64 (p : Int), .int .u64 (l : Int), .int .i64 ((k : Int) - 1), .int .u64 (b : Int), .int .u64 (t : Int)]] w _
  have hX := Blk.new w VT #[.int .u64 (v : Int), .int .i64 (p : Int), .int .u64 (l : Int), .int .i64 ((k : Int) - 1), .int .u64 (b : Int), .int .u64 (t : Int)]
  have hbb := (Below.refl _ w).alloc (Nat.le_refl _) (.cells #[.int .u64 (v : Int), .int .i64 (p : Int), .int .u64 (l : Int), .int .i64 ((k : Int) - 1), .int .u64 (b : Int), .int .u64 (t : Int)] VT)
  go_enter Try.func15, Try.ntmps15
  go_upto_region 1 with (fail)
  generalize w.alloc (.cells _ VT) = w1 at *
  generalize hq : w.heap.size = q at hX ⊢
  have x0 : w1.cell? ⟨q, 0, none⟩ = some (.int .u64 (v : Int)) := hX.cell 0
  have x1 : w1.cell? ⟨q, 1, none⟩ = some (.int .i64 (p : Int)) := hX.cell 1
  have x2 : w1.cell? ⟨q, 2, none⟩ = some (.int .u64 (l : Int)) := hX.cell 2
  have x3 : w1.cell? ⟨q, 3, none⟩ = some (.int .i64 ((k : Int) - 1)) := hX.cell 3
  have x4 : w1.cell? ⟨q, 4, none⟩ = some (.int .u64 (b : Int)) := hX.cell 4
  have x5 : w1.cell? ⟨q, 5, none⟩ = some (.int .u64 (t : Int)) := hX.cell 5
  go_upto_region 3 with (fail)
  clear hq0
  have mk : ∀ W, Below w1.heap.size w1.drew W → W.cell? ⟨q, 0, none⟩ = some (.int .u64 (v : Int)) ∧ W.cell? ⟨q, 1, none⟩ = some (.int .i64 (p : Int)) ∧ W.cell? ⟨q, 2, none⟩ = some (.int .u64 (l : Int)) ∧ W.cell? ⟨q, 3, none⟩ = some (.int .i64 ((k : Int) - 1)) ∧ W.cell? ⟨q, 4, none⟩ = some (.int .u64 (b : Int)) ∧ W.cell? ⟨q, 5, none⟩ = some (.int .u64 (t : Int)) := fun W hb => by
    have h0 : Blk w1.drew q VT #[.int .u64 (v : Int), .int .i64 (p : Int), .int .u64 (l : Int), .int .i64 ((k : Int) - 1), .int .u64 (b : Int), .int .u64 (t : Int)] := hX
    have h1 := h0.below hb hX.lt
    exact ⟨h1.cell 0, h1.cell 1, h1.cell 2, h1.cell 3, h1.cell 4, h1.cell 5⟩
  have hB0 : Below w1.heap.size w1.drew w1.drew := Below.refl _ _
  refine region_only 27 #[false, false, false, false, false, false, false, false, false, false, false, false, false, false, false, false, false, false, false, false, false, false, false, false, false, false, false] (S := (fun W => W.cell? ⟨q, 0, none⟩ = some (.int .u64 (v : Int)) ∧ W.cell? ⟨q, 1, none⟩ = some (.int .i64 (p : Int)) ∧ W.cell? ⟨q, 2, none⟩ = some (.int .u64 (l : Int)) ∧ W.cell? ⟨q, 3, none⟩ = some (.int .i64 ((k : Int) - 1)) ∧ W.cell? ⟨q, 4, none⟩ = some (.int .u64 (b : Int)) ∧ W.cell? ⟨q, 5, none⟩ = some (.int .u64 (t : Int)))) rfl rfl (by kernel_rfl) ⟨x0, x1, x2, x3, x4, x5⟩ (fun hSw => ?_)
  refine take_at 0 7 (fuel := 26) ?_ rfl rfl (by kernel_rfl) (by kernel_rfl) (by kernel_rfl) (Or.inl ⟨by rfl, ?_⟩) hSw ?_
  rotate_left
  · intro wx hSx
    (try dsimp only at hSx)
    go_split_ands
    go_simp
    (try with_reducible rfl)
  simp only [List.setIfInBounds_toArray, List.set_cons_zero, List.set_cons_succ]
  refine take_at 1 8 (fuel := 25) ?_ rfl rfl (by kernel_rfl) (by kernel_rfl) (by kernel_rfl) (Or.inl ⟨by rfl, ?_⟩) hSw ?_
  rotate_left
  · intro wx hSx
    (try dsimp only at hSx)
    go_split_ands
    go_simp
    (try with_reducible rfl)
  simp only [List.setIfInBounds_toArray, List.set_cons_zero, List.set_cons_succ]
  refine take_at 3 10 (fuel := 24) ?_ rfl rfl (by kernel_rfl) (by kernel_rfl) (by kernel_rfl) (Or.inl ⟨by rfl, ?_⟩) hSw ?_
  rotate_left
  · intro wx hSx
    (try dsimp only at hSx)
    go_split_ands
    go_simp
    (try with_reducible rfl)
  simp only [List.setIfInBounds_toArray, List.set_cons_zero, List.set_cons_succ]
  refine take_at 4 11 (fuel := 23) ?_ rfl rfl (by kernel_rfl) (by kernel_rfl) (by kernel_rfl) (Or.inl ⟨by rfl, ?_⟩) hSw ?_
  rotate_left
  · intro wx hSx
    (try dsimp only at hSx)
    go_split_ands
    go_simp
    (try with_reducible rfl)
  simp only [List.setIfInBounds_toArray, List.set_cons_zero, List.set_cons_succ]
  refine take_at 5 12 (fuel := 22) ?_ rfl rfl (by kernel_rfl) (by kernel_rfl) (by kernel_rfl) (Or.inl ⟨by rfl, ?_⟩) hSw ?_
  rotate_left
  · intro wx hSx
    (try dsimp only at hSx)
    go_split_ands
    go_simp
    (try with_reducible rfl)
  simp only [List.setIfInBounds_toArray, List.set_cons_zero, List.set_cons_succ]
  refine take_at 8 15 (fuel := 21) ?_ rfl rfl (by kernel_rfl) (by kernel_rfl) (by kernel_rfl) (Or.inl ⟨by rfl, ?_⟩) hSw ?_
  rotate_left
  · intro wx hSx
    (try dsimp only at hSx)
    go_split_ands
    go_simp
    (try with_reducible rfl)
  simp only [List.setIfInBounds_toArray, List.set_cons_zero, List.set_cons_succ]
  refine take_at 9 16 (fuel := 20) ?_ rfl rfl (by kernel_rfl) (by kernel_rfl) (by kernel_rfl) (Or.inl ⟨by rfl, ?_⟩) hSw ?_
  rotate_left
  · intro wx hSx
    (try dsimp only at hSx)
    go_split_ands
    go_simp
    (try with_reducible rfl)
  simp only [List.setIfInBounds_toArray, List.set_cons_zero, List.set_cons_succ]
  refine take_at 12 19 (fuel := 19) ?_ rfl rfl (by kernel_rfl) (by kernel_rfl) (by kernel_rfl) (Or.inl ⟨by rfl, ?_⟩) hSw ?_
  rotate_left
  · intro wx hSx
    (try dsimp only at hSx)
    go_split_ands
    go_simp
    (try with_reducible rfl)
  simp only [List.setIfInBounds_toArray, List.set_cons_zero, List.set_cons_succ]
  refine take_at 13 20 (fuel := 18) ?_ rfl rfl (by kernel_rfl) (by kernel_rfl) (by kernel_rfl) (Or.inl ⟨by rfl, ?_⟩) hSw ?_
  rotate_left
  · intro wx hSx
    (try dsimp only at hSx)
    go_split_ands
    go_simp
    (try with_reducible rfl)
  simp only [List.setIfInBounds_toArray, List.set_cons_zero, List.set_cons_succ]
  refine take_at 14 21 (fuel := 17) ?_ rfl rfl (by kernel_rfl) (by kernel_rfl) (by kernel_rfl) (Or.inl ⟨by rfl, ?_⟩) hSw ?_
  rotate_left
  · intro wx hSx
    (try dsimp only at hSx)
    go_split_ands
    go_simp
    (try with_reducible rfl)
  simp only [List.setIfInBounds_toArray, List.set_cons_zero, List.set_cons_succ]
  refine take_at 15 22 (fuel := 16) ?_ rfl rfl (by kernel_rfl) (by kernel_rfl) (by kernel_rfl) (Or.inl ⟨by rfl, ?_⟩) hSw ?_
  rotate_left
  · intro wx hSx
    (try dsimp only at hSx)
    go_split_ands
    go_simp
    (try with_reducible rfl)
  simp only [List.setIfInBounds_toArray, List.set_cons_zero, List.set_cons_succ]
  refine take_at 18 25 (fuel := 15) ?_ rfl rfl (by kernel_rfl) (by kernel_rfl) (by kernel_rfl) (Or.inl ⟨by rfl, ?_⟩) hSw ?_
  rotate_left
  · intro wx hSx
    (try dsimp only at hSx)
    go_split_ands
    go_simp
    (try with_reducible rfl)
  simp only [List.setIfInBounds_toArray, List.set_cons_zero, List.set_cons_succ]
  refine take_at 19 26 (fuel := 14) ?_ rfl rfl (by kernel_rfl) (by kernel_rfl) (by kernel_rfl) (Or.inl ⟨by rfl, ?_⟩) hSw ?_
  rotate_left
  · intro wx hSx
    (try dsimp only at hSx)
    go_split_ands
    go_simp
    (try with_reducible rfl)
  simp only [List.setIfInBounds_toArray, List.set_cons_zero, List.set_cons_succ]
  refine take_at 22 29 (fuel := 13) ?_ rfl rfl (by kernel_rfl) (by kernel_rfl) (by kernel_rfl) (Or.inl ⟨by rfl, ?_⟩) hSw ?_
  rotate_left
  · intro wx hSx
    (try dsimp only at hSx)
    go_split_ands
    go_simp
    (try with_reducible rfl)
  simp only [List.setIfInBounds_toArray, List.set_cons_zero, List.set_cons_succ]
  refine take_at 23 30 (fuel := 12) ?_ rfl rfl (by kernel_rfl) (by kernel_rfl) (by kernel_rfl) (Or.inl ⟨by rfl, ?_⟩) hSw ?_
  rotate_left
  · intro wx hSx
    (try dsimp only at hSx)
    go_split_ands
    go_simp
    (try with_reducible rfl)
  simp only [List.setIfInBounds_toArray, List.set_cons_zero, List.set_cons_succ]
  refine wpAnyH_ready (fuel := 11) (rs := [2]) (by kernel_rfl) (by simp) (AllReadyH.cons rfl (fun K hK => ?_) AllReadyH.nil)
  go_simp
  refine Calls.mono (Wirey.num_c v hv _) ?_
  rintro e v0 ⟨rfl, hn0⟩
  have hB1 := hB0.trans (hn0.mono hB0.size)
  refine hK.out _ _ (mk _ hB1) (fun hSw => ?_)
  clear hK K
  simp only [List.setIfInBounds_toArray, List.set_cons_zero, List.set_cons_succ]
  refine wpAnyH_ready (fuel := 10) (rs := [6]) (by kernel_rfl) (by simp) (AllReadyH.cons rfl (fun K hK => ?_) AllReadyH.nil)
  go_simp
  refine Calls.mono (Wirey.num_c p (by omega) _) ?_
  rintro e v1 ⟨rfl, hn1⟩
  have hB2 := hB1.trans (hn1.mono hB1.size)
  refine hK.out _ _ (mk _ hB2) (fun hSw => ?_)
  clear hK K
  simp only [List.setIfInBounds_toArray, List.set_cons_zero, List.set_cons_succ]
  refine take_at 7 14 (fuel := 9) ?_ rfl rfl (by kernel_rfl) (by kernel_rfl) (by kernel_rfl) (Or.inl ⟨by rfl, ?_⟩) hSw ?_
  rotate_left
  · intro wx hSx
    (try dsimp only at hSx)
    go_split_ands
    go_simp
    (try with_reducible rfl)
  simp only [List.setIfInBounds_toArray, List.set_cons_zero, List.set_cons_succ]
  refine wpAnyH_ready (fuel := 8) (rs := [10]) (by kernel_rfl) (by simp) (AllReadyH.cons rfl (fun K hK => ?_) AllReadyH.nil)
  go_simp
  refine Calls.mono (Wirey.num_c l hl _) ?_
  rintro e v2 ⟨rfl, hn2⟩
  have hB3 := hB2.trans (hn2.mono hB2.size)
  refine hK.out _ _ (mk _ hB3) (fun hSw => ?_)
  clear hK K
  simp only [List.setIfInBounds_toArray, List.set_cons_zero, List.set_cons_succ]
  refine take_at 11 18 (fuel := 7) ?_ rfl rfl (by kernel_rfl) (by kernel_rfl) (by kernel_rfl) (Or.inl ⟨by rfl, ?_⟩) hSw ?_
  rotate_left
  · intro wx hSx
    (try dsimp only at hSx)
    go_split_ands
    go_simp
    (try with_reducible rfl)
  simp only [List.setIfInBounds_toArray, List.set_cons_zero, List.set_cons_succ]
  refine wpAnyH_ready (fuel := 6) (rs := [16]) (by kernel_rfl) (by simp) (AllReadyH.cons rfl (fun K hK => ?_) AllReadyH.nil)
  go_simp
  refine Calls.mono (Wirey.num_c k (by omega) _) ?_
  rintro e v3 ⟨rfl, hn3⟩
  have hB4 := hB3.trans (hn3.mono hB3.size)
  refine hK.out _ _ (mk _ hB4) (fun hSw => ?_)
  clear hK K
  simp only [List.setIfInBounds_toArray, List.set_cons_zero, List.set_cons_succ]
  refine take_at 17 24 (fuel := 5) ?_ rfl rfl (by kernel_rfl) (by kernel_rfl) (by kernel_rfl) (Or.inl ⟨by rfl, ?_⟩) hSw ?_
  rotate_left
  · intro wx hSx
    (try dsimp only at hSx)
    go_split_ands
    go_simp
    (try with_reducible rfl)
  simp only [List.setIfInBounds_toArray, List.set_cons_zero, List.set_cons_succ]
  refine wpAnyH_ready (fuel := 4) (rs := [20]) (by kernel_rfl) (by simp) (AllReadyH.cons rfl (fun K hK => ?_) AllReadyH.nil)
  go_simp
  refine Calls.mono (Wirey.num_c b hb _) ?_
  rintro e v4 ⟨rfl, hn4⟩
  have hB5 := hB4.trans (hn4.mono hB4.size)
  refine hK.out _ _ (mk _ hB5) (fun hSw => ?_)
  clear hK K
  simp only [List.setIfInBounds_toArray, List.set_cons_zero, List.set_cons_succ]
  refine take_at 21 28 (fuel := 3) ?_ rfl rfl (by kernel_rfl) (by kernel_rfl) (by kernel_rfl) (Or.inl ⟨by rfl, ?_⟩) hSw ?_
  rotate_left
  · intro wx hSx
    (try dsimp only at hSx)
    go_split_ands
    go_simp
    (try with_reducible rfl)
  simp only [List.setIfInBounds_toArray, List.set_cons_zero, List.set_cons_succ]
  refine wpAnyH_ready (fuel := 2) (rs := [24]) (by kernel_rfl) (by simp) (AllReadyH.cons rfl (fun K hK => ?_) AllReadyH.nil)
  go_simp
  refine Calls.mono (Wirey.num_c t ht _) ?_
  rintro e v5 ⟨rfl, hn5⟩
  have hB6 := hB5.trans (hn5.mono hB5.size)
  refine hK.out _ _ (mk _ hB6) (fun hSw => ?_)
  clear hK K
  simp only [List.setIfInBounds_toArray, List.set_cons_zero, List.set_cons_succ]
  refine take_at 25 32 (fuel := 1) ?_ rfl rfl (by kernel_rfl) (by kernel_rfl) (by kernel_rfl) (Or.inl ⟨by rfl, ?_⟩) hSw ?_
  rotate_left
  · intro wx hSx
    (try dsimp only at hSx)
    go_split_ands
    go_simp
    (try with_reducible rfl)
  simp only [List.setIfInBounds_toArray, List.set_cons_zero, List.set_cons_succ]
  refine take_at 26 2 (fuel := 0) ?_ rfl rfl (by kernel_rfl) (by kernel_rfl) (by kernel_rfl) (Or.inl ⟨by rfl, ?_⟩) hSw ?_
  rotate_left
  · intro wx hSx
    (try dsimp only at hSx)
    go_split_ands
    go_simp
    (try with_reducible rfl)
  simp only [List.setIfInBounds_toArray, List.set_cons_zero, List.set_cons_succ]
  refine wpAnyH_done (by kernel_rfl) ⟨rfl, ?_⟩ 0
  have hF := hbb.drew.trans (hB6.mono hbb.drew.size)
  have HF := Lib.hid hF
  clear hSw mk x0 x1 x2 x3 x4 x5 hn0 hn1 hn2 hn3 hn4 hn5 hB0 hB1 hB2 hB3 hB4 hB5 hB6 hF
  go_wp2_with fail
  go_ret
  exact ⟨by rw [HR.out]; rfl, HF.out⟩
set_option maxHeartbeats 4000000 in
set_option maxRecDepth 100000 in
theorem put_0 (w : World) : Calls Try.prog 15 #[.agg (noV).cs] w fun e w' => e = .returned (.string (str (six 0 0 0 0 0 0))) ∧ Below w.heap.size w w' := by
  have hcat := str_cat
  have hsz := str_size
  have l0 := enc_len (n := 0) (by omega)
  have l1 := enc_len (n := 0) (by omega)
  have l2 := enc_len (n := 0) (by omega)
  have l3 := enc_len (n := 0) (by omega)
  have l4 := enc_len (n := 0) (by omega)
  have l5 := enc_len (n := 0) (by omega)
  have c1 : ¬ (9223372036854775807 < (enc 0).length + (enc 0).length) := by omega
  have c2 : ¬ (9223372036854775807 < (enc 0).length + ((enc 0).length) + (enc 0).length) := by omega
  have c3 : ¬ (9223372036854775807 < (enc 0).length + ((enc 0).length + ((enc 0).length)) + (enc 0).length) := by omega
  have c4 : ¬ (9223372036854775807 < (enc 0).length + ((enc 0).length + ((enc 0).length + ((enc 0).length))) + (enc 0).length) := by omega
  have c5 : ¬ (9223372036854775807 < (enc 0).length + ((enc 0).length + ((enc 0).length + ((enc 0).length + ((enc 0).length)))) + (enc 0).length) := by omega
  have HR : Hid (six 0 0 0 0 0 0 = enc 0 ++ (enc 0 ++ (enc 0 ++ (enc 0 ++ (enc 0 ++ enc 0))))) := Lib.hid rfl
  clear l0 l1 l2 l3 l4 l5
  have eb : IntKind.u64.wrap (IntKind.u64.wrap (-1) + 1) = 0 := by rw [IntKind.wrap_u64, IntKind.wrap_u64]; omega
  have hq0 : ∀ w, (Op.equalIn 10000 VT (.agg #[.int .u64 0, .int .i64 0, .int .u64 0, .int .i64 0, .int .u64 0, .int .u64 0]) (.agg #[.int .u64 0, .int .i64 0, .int .u64 0, .int .i64 0, .int .u64 0, .int .u64 0])).run Try.prog w = .ok true w := fun w => eq_yes noV w
  show Calls Try.prog 15 #[.agg #[.int .u64 0, .int .i64 0, .int .u64 0, .int .i64 0, .int .u64 0, .int .u64 0]] w _
  have hX := Blk.new w VT #[.int .u64 0, .int .i64 0, .int .u64 0, .int .i64 0, .int .u64 0, .int .u64 0]
  have hbb := (Below.refl _ w).alloc (Nat.le_refl _) (.cells #[.int .u64 0, .int .i64 0, .int .u64 0, .int .i64 0, .int .u64 0, .int .u64 0] VT)
  go_enter Try.func15, Try.ntmps15
  go_upto_region 1 with (fail)
  generalize w.alloc (.cells _ VT) = w1 at *
  generalize hq : w.heap.size = q at hX ⊢
  have x0 : w1.cell? ⟨q, 0, none⟩ = some (.int .u64 0) := hX.cell 0
  have x1 : w1.cell? ⟨q, 1, none⟩ = some (.int .i64 0) := hX.cell 1
  have x2 : w1.cell? ⟨q, 2, none⟩ = some (.int .u64 0) := hX.cell 2
  have x3 : w1.cell? ⟨q, 3, none⟩ = some (.int .i64 0) := hX.cell 3
  have x4 : w1.cell? ⟨q, 4, none⟩ = some (.int .u64 0) := hX.cell 4
  have x5 : w1.cell? ⟨q, 5, none⟩ = some (.int .u64 0) := hX.cell 5
  have f3 := hX.free 3
  have hX2 : Blk (w1.setCell ⟨q, 3, none⟩ (.int .i64 (-1))) q VT #[.int .u64 0, .int .i64 0, .int .u64 0, .int .i64 (-1), .int .u64 0, .int .u64 0] := hX.put 3 _
  have hbb2 := hbb.setCell (p := ⟨q, 3, none⟩) (by show w.heap.size ≤ q; omega) (.int .i64 (-1))
  go_upto_region 3 with (fail)
  clear x0 x1 x2 x3 x4 x5 f3 hq0 hX hbb
  generalize w1.setCell _ _ = w2 at *
  have x0 : w2.cell? ⟨q, 0, none⟩ = some (.int .u64 0) := hX2.cell 0
  have x1 : w2.cell? ⟨q, 1, none⟩ = some (.int .i64 0) := hX2.cell 1
  have x2 : w2.cell? ⟨q, 2, none⟩ = some (.int .u64 0) := hX2.cell 2
  have x3 : w2.cell? ⟨q, 3, none⟩ = some (.int .i64 (-1)) := hX2.cell 3
  have x4 : w2.cell? ⟨q, 4, none⟩ = some (.int .u64 0) := hX2.cell 4
  have x5 : w2.cell? ⟨q, 5, none⟩ = some (.int .u64 0) := hX2.cell 5
  have mk : ∀ W, Below w2.heap.size w2.drew W → W.cell? ⟨q, 0, none⟩ = some (.int .u64 0) ∧ W.cell? ⟨q, 1, none⟩ = some (.int .i64 0) ∧ W.cell? ⟨q, 2, none⟩ = some (.int .u64 0) ∧ W.cell? ⟨q, 3, none⟩ = some (.int .i64 (-1)) ∧ W.cell? ⟨q, 4, none⟩ = some (.int .u64 0) ∧ W.cell? ⟨q, 5, none⟩ = some (.int .u64 0) := fun W hb => by
    have h0 : Blk w2.drew q VT #[.int .u64 0, .int .i64 0, .int .u64 0, .int .i64 (-1), .int .u64 0, .int .u64 0] := hX2
    have h1 := h0.below hb hX2.lt
    exact ⟨h1.cell 0, h1.cell 1, h1.cell 2, h1.cell 3, h1.cell 4, h1.cell 5⟩
  have hB0 : Below w2.heap.size w2.drew w2.drew := Below.refl _ _
  refine region_only 27 #[false, false, false, false, false, false, false, false, false, false, false, false, false, false, false, false, false, false, false, false, false, false, false, false, false, false, false] (S := (fun W => W.cell? ⟨q, 0, none⟩ = some (.int .u64 0) ∧ W.cell? ⟨q, 1, none⟩ = some (.int .i64 0) ∧ W.cell? ⟨q, 2, none⟩ = some (.int .u64 0) ∧ W.cell? ⟨q, 3, none⟩ = some (.int .i64 (-1)) ∧ W.cell? ⟨q, 4, none⟩ = some (.int .u64 0) ∧ W.cell? ⟨q, 5, none⟩ = some (.int .u64 0))) rfl rfl (by kernel_rfl) ⟨x0, x1, x2, x3, x4, x5⟩ (fun hSw => ?_)
  refine take_at 0 7 (fuel := 26) ?_ rfl rfl (by kernel_rfl) (by kernel_rfl) (by kernel_rfl) (Or.inl ⟨by rfl, ?_⟩) hSw ?_
  rotate_left
  · intro wx hSx
    (try dsimp only at hSx)
    go_split_ands
    go_simp
    (try with_reducible rfl)
  simp only [List.setIfInBounds_toArray, List.set_cons_zero, List.set_cons_succ]
  refine take_at 1 8 (fuel := 25) ?_ rfl rfl (by kernel_rfl) (by kernel_rfl) (by kernel_rfl) (Or.inl ⟨by rfl, ?_⟩) hSw ?_
  rotate_left
  · intro wx hSx
    (try dsimp only at hSx)
    go_split_ands
    go_simp
    (try with_reducible rfl)
  simp only [List.setIfInBounds_toArray, List.set_cons_zero, List.set_cons_succ]
  refine take_at 3 10 (fuel := 24) ?_ rfl rfl (by kernel_rfl) (by kernel_rfl) (by kernel_rfl) (Or.inl ⟨by rfl, ?_⟩) hSw ?_
  rotate_left
  · intro wx hSx
    (try dsimp only at hSx)
    go_split_ands
    go_simp
    (try with_reducible rfl)
  simp only [List.setIfInBounds_toArray, List.set_cons_zero, List.set_cons_succ]
  refine take_at 4 11 (fuel := 23) ?_ rfl rfl (by kernel_rfl) (by kernel_rfl) (by kernel_rfl) (Or.inl ⟨by rfl, ?_⟩) hSw ?_
  rotate_left
  · intro wx hSx
    (try dsimp only at hSx)
    go_split_ands
    go_simp
    (try with_reducible rfl)
  simp only [List.setIfInBounds_toArray, List.set_cons_zero, List.set_cons_succ]
  refine take_at 5 12 (fuel := 22) ?_ rfl rfl (by kernel_rfl) (by kernel_rfl) (by kernel_rfl) (Or.inl ⟨by rfl, ?_⟩) hSw ?_
  rotate_left
  · intro wx hSx
    (try dsimp only at hSx)
    go_split_ands
    go_simp
    (try with_reducible rfl)
  simp only [List.setIfInBounds_toArray, List.set_cons_zero, List.set_cons_succ]
  refine take_at 8 15 (fuel := 21) ?_ rfl rfl (by kernel_rfl) (by kernel_rfl) (by kernel_rfl) (Or.inl ⟨by rfl, ?_⟩) hSw ?_
  rotate_left
  · intro wx hSx
    (try dsimp only at hSx)
    go_split_ands
    go_simp
    (try with_reducible rfl)
  simp only [List.setIfInBounds_toArray, List.set_cons_zero, List.set_cons_succ]
  refine take_at 9 16 (fuel := 20) ?_ rfl rfl (by kernel_rfl) (by kernel_rfl) (by kernel_rfl) (Or.inl ⟨by rfl, ?_⟩) hSw ?_
  rotate_left
  · intro wx hSx
    (try dsimp only at hSx)
    go_split_ands
    go_simp
    (try with_reducible rfl)
  simp only [List.setIfInBounds_toArray, List.set_cons_zero, List.set_cons_succ]
  refine take_at 12 19 (fuel := 19) ?_ rfl rfl (by kernel_rfl) (by kernel_rfl) (by kernel_rfl) (Or.inl ⟨by rfl, ?_⟩) hSw ?_
  rotate_left
  · intro wx hSx
    (try dsimp only at hSx)
    go_split_ands
    go_simp
    (try with_reducible rfl)
  simp only [List.setIfInBounds_toArray, List.set_cons_zero, List.set_cons_succ]
  refine take_at 13 20 (fuel := 18) ?_ rfl rfl (by kernel_rfl) (by kernel_rfl) (by kernel_rfl) (Or.inl ⟨by rfl, ?_⟩) hSw ?_
  rotate_left
  · intro wx hSx
    (try dsimp only at hSx)
    go_split_ands
    go_simp
    (try with_reducible rfl)
  simp only [List.setIfInBounds_toArray, List.set_cons_zero, List.set_cons_succ]
  refine take_at 14 21 (fuel := 17) ?_ rfl rfl (by kernel_rfl) (by kernel_rfl) (by kernel_rfl) (Or.inl ⟨by rfl, ?_⟩) hSw ?_
  rotate_left
  · intro wx hSx
    (try dsimp only at hSx)
    go_split_ands
    go_simp
    (try with_reducible rfl)
  simp only [List.setIfInBounds_toArray, List.set_cons_zero, List.set_cons_succ]
  refine take_at 15 22 (fuel := 16) ?_ rfl rfl (by kernel_rfl) (by kernel_rfl) (by kernel_rfl) (Or.inl ⟨by rfl, ?_⟩) hSw ?_
  rotate_left
  · intro wx hSx
    (try dsimp only at hSx)
    go_split_ands
    go_simp
    (try with_reducible rfl)
  simp only [List.setIfInBounds_toArray, List.set_cons_zero, List.set_cons_succ]
  refine take_at 18 25 (fuel := 15) ?_ rfl rfl (by kernel_rfl) (by kernel_rfl) (by kernel_rfl) (Or.inl ⟨by rfl, ?_⟩) hSw ?_
  rotate_left
  · intro wx hSx
    (try dsimp only at hSx)
    go_split_ands
    go_simp
    (try with_reducible rfl)
  simp only [List.setIfInBounds_toArray, List.set_cons_zero, List.set_cons_succ]
  refine take_at 19 26 (fuel := 14) ?_ rfl rfl (by kernel_rfl) (by kernel_rfl) (by kernel_rfl) (Or.inl ⟨by rfl, ?_⟩) hSw ?_
  rotate_left
  · intro wx hSx
    (try dsimp only at hSx)
    go_split_ands
    go_simp
    (try with_reducible rfl)
  simp only [List.setIfInBounds_toArray, List.set_cons_zero, List.set_cons_succ]
  refine take_at 22 29 (fuel := 13) ?_ rfl rfl (by kernel_rfl) (by kernel_rfl) (by kernel_rfl) (Or.inl ⟨by rfl, ?_⟩) hSw ?_
  rotate_left
  · intro wx hSx
    (try dsimp only at hSx)
    go_split_ands
    go_simp
    (try with_reducible rfl)
  simp only [List.setIfInBounds_toArray, List.set_cons_zero, List.set_cons_succ]
  refine take_at 23 30 (fuel := 12) ?_ rfl rfl (by kernel_rfl) (by kernel_rfl) (by kernel_rfl) (Or.inl ⟨by rfl, ?_⟩) hSw ?_
  rotate_left
  · intro wx hSx
    (try dsimp only at hSx)
    go_split_ands
    go_simp
    (try with_reducible rfl)
  simp only [List.setIfInBounds_toArray, List.set_cons_zero, List.set_cons_succ]
  refine wpAnyH_ready (fuel := 11) (rs := [2]) (by kernel_rfl) (by simp) (AllReadyH.cons rfl (fun K hK => ?_) AllReadyH.nil)
  go_simp
  refine Calls.mono (Wirey.num_c 0 (by omega) _) ?_
  rintro e v0 ⟨rfl, hn0⟩
  have hB1 := hB0.trans (hn0.mono hB0.size)
  refine hK.out _ _ (mk _ hB1) (fun hSw => ?_)
  clear hK K
  simp only [List.setIfInBounds_toArray, List.set_cons_zero, List.set_cons_succ]
  refine wpAnyH_ready (fuel := 10) (rs := [6]) (by kernel_rfl) (by simp) (AllReadyH.cons rfl (fun K hK => ?_) AllReadyH.nil)
  go_simp
  refine Calls.mono (Wirey.num_c 0 (by omega) _) ?_
  rintro e v1 ⟨rfl, hn1⟩
  have hB2 := hB1.trans (hn1.mono hB1.size)
  refine hK.out _ _ (mk _ hB2) (fun hSw => ?_)
  clear hK K
  simp only [List.setIfInBounds_toArray, List.set_cons_zero, List.set_cons_succ]
  refine take_at 7 14 (fuel := 9) ?_ rfl rfl (by kernel_rfl) (by kernel_rfl) (by kernel_rfl) (Or.inl ⟨by rfl, ?_⟩) hSw ?_
  rotate_left
  · intro wx hSx
    (try dsimp only at hSx)
    go_split_ands
    go_simp
    (try with_reducible rfl)
  simp only [List.setIfInBounds_toArray, List.set_cons_zero, List.set_cons_succ]
  refine wpAnyH_ready (fuel := 8) (rs := [10]) (by kernel_rfl) (by simp) (AllReadyH.cons rfl (fun K hK => ?_) AllReadyH.nil)
  go_simp
  refine Calls.mono (Wirey.num_c 0 (by omega) _) ?_
  rintro e v2 ⟨rfl, hn2⟩
  have hB3 := hB2.trans (hn2.mono hB2.size)
  refine hK.out _ _ (mk _ hB3) (fun hSw => ?_)
  clear hK K
  simp only [List.setIfInBounds_toArray, List.set_cons_zero, List.set_cons_succ]
  refine take_at 11 18 (fuel := 7) ?_ rfl rfl (by kernel_rfl) (by kernel_rfl) (by kernel_rfl) (Or.inl ⟨by rfl, ?_⟩) hSw ?_
  rotate_left
  · intro wx hSx
    (try dsimp only at hSx)
    go_split_ands
    go_simp
    (try with_reducible rfl)
  simp only [List.setIfInBounds_toArray, List.set_cons_zero, List.set_cons_succ]
  refine wpAnyH_ready (fuel := 6) (rs := [16]) (by kernel_rfl) (by simp) (AllReadyH.cons rfl (fun K hK => ?_) AllReadyH.nil)
  go_simp
  refine Calls.mono (Wirey.num_c 0 (by omega) _) ?_
  rintro e v3 ⟨rfl, hn3⟩
  have hB4 := hB3.trans (hn3.mono hB3.size)
  refine hK.out _ _ (mk _ hB4) (fun hSw => ?_)
  clear hK K
  simp only [List.setIfInBounds_toArray, List.set_cons_zero, List.set_cons_succ]
  refine take_at 17 24 (fuel := 5) ?_ rfl rfl (by kernel_rfl) (by kernel_rfl) (by kernel_rfl) (Or.inl ⟨by rfl, ?_⟩) hSw ?_
  rotate_left
  · intro wx hSx
    (try dsimp only at hSx)
    go_split_ands
    go_simp
    (try with_reducible rfl)
  simp only [List.setIfInBounds_toArray, List.set_cons_zero, List.set_cons_succ]
  refine wpAnyH_ready (fuel := 4) (rs := [20]) (by kernel_rfl) (by simp) (AllReadyH.cons rfl (fun K hK => ?_) AllReadyH.nil)
  go_simp
  refine Calls.mono (Wirey.num_c 0 (by omega) _) ?_
  rintro e v4 ⟨rfl, hn4⟩
  have hB5 := hB4.trans (hn4.mono hB4.size)
  refine hK.out _ _ (mk _ hB5) (fun hSw => ?_)
  clear hK K
  simp only [List.setIfInBounds_toArray, List.set_cons_zero, List.set_cons_succ]
  refine take_at 21 28 (fuel := 3) ?_ rfl rfl (by kernel_rfl) (by kernel_rfl) (by kernel_rfl) (Or.inl ⟨by rfl, ?_⟩) hSw ?_
  rotate_left
  · intro wx hSx
    (try dsimp only at hSx)
    go_split_ands
    go_simp
    (try with_reducible rfl)
  simp only [List.setIfInBounds_toArray, List.set_cons_zero, List.set_cons_succ]
  refine wpAnyH_ready (fuel := 2) (rs := [24]) (by kernel_rfl) (by simp) (AllReadyH.cons rfl (fun K hK => ?_) AllReadyH.nil)
  go_simp
  refine Calls.mono (Wirey.num_c 0 (by omega) _) ?_
  rintro e v5 ⟨rfl, hn5⟩
  have hB6 := hB5.trans (hn5.mono hB5.size)
  refine hK.out _ _ (mk _ hB6) (fun hSw => ?_)
  clear hK K
  simp only [List.setIfInBounds_toArray, List.set_cons_zero, List.set_cons_succ]
  refine take_at 25 32 (fuel := 1) ?_ rfl rfl (by kernel_rfl) (by kernel_rfl) (by kernel_rfl) (Or.inl ⟨by rfl, ?_⟩) hSw ?_
  rotate_left
  · intro wx hSx
    (try dsimp only at hSx)
    go_split_ands
    go_simp
    (try with_reducible rfl)
  simp only [List.setIfInBounds_toArray, List.set_cons_zero, List.set_cons_succ]
  refine take_at 26 2 (fuel := 0) ?_ rfl rfl (by kernel_rfl) (by kernel_rfl) (by kernel_rfl) (Or.inl ⟨by rfl, ?_⟩) hSw ?_
  rotate_left
  · intro wx hSx
    (try dsimp only at hSx)
    go_split_ands
    go_simp
    (try with_reducible rfl)
  simp only [List.setIfInBounds_toArray, List.set_cons_zero, List.set_cons_succ]
  refine wpAnyH_done (by kernel_rfl) ⟨rfl, ?_⟩ 0
  have hF := hbb2.drew.trans (hB6.mono hbb2.drew.size)
  have HF := Lib.hid hF
  clear hSw mk x0 x1 x2 x3 x4 x5 hn0 hn1 hn2 hn3 hn4 hn5 hB0 hB1 hB2 hB3 hB4 hB5 hB6 hF
  go_wp2_with fail
  go_ret
  exact ⟨by rw [HR.out]; rfl, HF.out⟩
set_option maxHeartbeats 4000000 in
set_option maxRecDepth 100000 in
theorem dput_c {v p l k b t : Nat} (hv : v < 18446744073709551616) (hp : p < 1048576) (hl : l < 18446744073709551616) (hk : k ≤ 1048576) (hb : b < 18446744073709551616) (ht : t < 18446744073709551616) (hne : vw v p l k b t ≠ noV) (w : World) : Calls Try.prog 18 #[.agg ((vw v p l k b t)).cs] w fun e w' => e = .returned (.string (str (six v p l k b t))) ∧ Below w.heap.size w w' := by
  have hcat := str_cat
  have hsz := str_size
  have l0 := enc_len (n := v) hv
  have l1 := enc_len (n := p) (by omega)
  have l2 := enc_len (n := l) hl
  have l3 := enc_len (n := k) (by omega)
  have l4 := enc_len (n := b) hb
  have l5 := enc_len (n := t) ht
  have HLN : Hid ((enc v).length ≤ 10 ∧ (enc p).length ≤ 10 ∧ (enc l).length ≤ 10 ∧ (enc k).length ≤ 10 ∧ (enc b).length ≤ 10 ∧ (enc t).length ≤ 10) := Lib.hid ⟨l0.2, l1.2, l2.2, l3.2, l4.2, l5.2⟩
  clear l0 l1 l2 l3 l4 l5
  have ew : IntKind.u64.wrap (p : Int) = (p : Int) := by rw [IntKind.wrap_u64]; omega
  have e0 : (k : Int) - 1 + 1 = (k : Int) := by omega
  have eb : IntKind.u64.wrap (k : Int) = (k : Int) := by rw [IntKind.wrap_u64]; omega
  have ei : IntKind.i64.wrap (k : Int) = (k : Int) := by rw [IntKind.wrap_i64]; omega
  have hq0 : ∀ w, (Op.equalIn 10000 VT (.agg #[.int .u64 (v : Int), .int .i64 (p : Int), .int .u64 (l : Int), .int .i64 ((k : Int) - 1), .int .u64 (b : Int), .int .u64 (t : Int)]) (.agg #[.int .u64 0, .int .i64 0, .int .u64 0, .int .i64 0, .int .u64 0, .int .u64 0])).run Try.prog w = .ok false w := fun w => by
    have h1 := eq_no (x := vw v p l k b t) (y := noV) hne w
    rw [zero_cs] at h1
    exact h1
  show Calls Try.prog 18 #[.agg #[.int .u64 (v : Int), .int .i64 (p : Int), .int .u64 (l : Int), .int .i64 ((k : Int) - 1), .int .u64 (b : Int), .int .u64 (t : Int)]] w _
  have hX := Blk.new w VT #[.int .u64 (v : Int), .int .i64 (p : Int), .int .u64 (l : Int), .int .i64 ((k : Int) - 1), .int .u64 (b : Int), .int .u64 (t : Int)]
  have hbb := (Below.refl _ w).alloc (Nat.le_refl _) (.cells #[.int .u64 (v : Int), .int .i64 (p : Int), .int .u64 (l : Int), .int .i64 ((k : Int) - 1), .int .u64 (b : Int), .int .u64 (t : Int)] VT)
  go_enter Try.func18, Try.ntmps18
  go_upto_region 1 with (fail)
  generalize w.alloc (.cells _ VT) = w1 at *
  generalize hq : w.heap.size = q at hX ⊢
  have x0 : w1.cell? ⟨q, 0, none⟩ = some (.int .u64 (v : Int)) := hX.cell 0
  have x1 : w1.cell? ⟨q, 1, none⟩ = some (.int .i64 (p : Int)) := hX.cell 1
  have x2 : w1.cell? ⟨q, 2, none⟩ = some (.int .u64 (l : Int)) := hX.cell 2
  have x3 : w1.cell? ⟨q, 3, none⟩ = some (.int .i64 ((k : Int) - 1)) := hX.cell 3
  have x4 : w1.cell? ⟨q, 4, none⟩ = some (.int .u64 (b : Int)) := hX.cell 4
  have x5 : w1.cell? ⟨q, 5, none⟩ = some (.int .u64 (t : Int)) := hX.cell 5
  go_upto_region 5 with (fail)
  have hR : Blk (w1.alloc (.cells #[.int .u64 (v : Int), .int .u64 (p : Int), .int .u64 (l : Int), .int .u64 (k : Int), .int .u64 (b : Int), .int .u64 (t : Int)] 23)) w1.heap.size 23 (u64s [v, p, l, k, b, t]) := Blk.new w1 _ _
  have hb1 : Below w.heap.size w (w1.alloc (.cells #[.int .u64 (v : Int), .int .u64 (p : Int), .int .u64 (l : Int), .int .u64 (k : Int), .int .u64 (b : Int), .int .u64 (t : Int)] 23)) := hbb.alloc hbb.size _
  have hbig : ∀ n ∈ ([v, p, l, k, b, t] : List Nat), n < 18446744073709551616 := by
    intro n hn
    simp only [List.mem_cons, List.not_mem_nil, or_false] at hn
    rcases hn with rfl | rfl | rfl | rfl | rfl | rfl
    · exact hv
    · exact Nat.lt_trans hp (by decide)
    · exact hl
    · exact Nat.lt_of_le_of_lt hk (by decide)
    · exact hb
    · exact ht
  have HBIG := Lib.hid hbig
  clear hbig x0 x1 x2 x3 x4 x5 hX hbb hq0 ew e0 eb ei
  generalize w1.alloc (.cells #[.int .u64 (v : Int), .int .u64 (p : Int), .int .u64 (l : Int), .int .u64 (k : Int), .int .u64 (b : Int), .int .u64 (t : Int)] 23) = w2 at *
  generalize w1.heap.size = r at *
  obtain ⟨L, hL⟩ : ∃ L : List Nat, L = [v, p, l, k, b, t] := ⟨_, rfl⟩
  rw [← hL] at hR HBIG
  have HL : Hid (L.length = 6) := Lib.hid (by rw [hL]; rfl)
  have HE : Hid (flat L = six v p l k b t) := Lib.hid (by rw [hL]; simp [flat, six])
  clear hL
  go_wp2_with fail
  go_loopw [5, 6] (fun vs vi wr => ∃ (j : Nat) (s : List UInt8), j ≤ 6 ∧ vi = .int .i64 j ∧ vs = .string (str s) ∧ Hid (s = flat (L.take j)) ∧ s.length ≤ 10 * j ∧ Blk wr r 23 (u64s L) ∧ Below w.heap.size w wr) (fun _ v _ => 6 - (intOf v).toNat)
  case atStart => exact ⟨0, [], by omega, rfl, rfl, Lib.hid rfl, Nat.le_refl _, hR, hb1⟩
  case round =>
    clear hR hb1
    obtain ⟨j, s, hj, rfl, rfl, HS, hsl, hR, hb1⟩ := hrel
    by_cases hjl : j < 6
    · have hlt : (j : Int) < 6 := by omega
      obtain ⟨n, hn⟩ : ∃ n, L[j]? = some n := ⟨_, List.getElem?_eq_getElem (by have := HL.out; omega)⟩
      have hn64 := HBIG.out n (List.mem_of_getElem? hn)
      have hln := enc_len hn64
      have y0 : wr.cell? ⟨r, j, none⟩ = some (.int .u64 (n : Int)) := by rw [hR.cell j, u64s_at hn]
      have hov : ¬ (9223372036854775807 < s.length + (enc n).length) := by omega
      have HN := Lib.hid hn
      clear hn
      go_wp2_with fail
      refine (Wirey.refnum_c n hn64 _).mono ?_
      rintro e w5 ⟨rfl, hbn⟩
      have hR2 := hR.below hbn hR.lt
      have hb2 := hb1.trans (hbn.mono hb1.size)
      clear y0 hR hb1 hbn
      go_wp2_with fail
      go_roundw
      case rel => exact ⟨j + 1, s ++ enc n, by omega, rfl, rfl, Lib.hid (by rw [HS.out, flat_take HN.out]), by rw [List.length_append]; omega, hR2, hb2⟩
      case measure => simp [intOf]; omega
    · obtain rfl : j = 6 := by omega
      have HF : Hid (s = six v p l k b t) := Lib.hid (by rw [HS.out, List.take_of_length_le (by have := HL.out; omega), HE.out])
      clear hR
      go_wp2_with fail
      go_ret
      exact ⟨by rw [← HF.out]; rfl, hb1⟩
set_option maxHeartbeats 4000000 in
set_option maxRecDepth 100000 in
theorem dput_0 (w : World) : Calls Try.prog 18 #[.agg (noV).cs] w fun e w' => e = .returned (.string (str (six 0 0 0 0 0 0))) ∧ Below w.heap.size w w' := by
  have hcat := str_cat
  have hsz := str_size
  have l0 := enc_len (n := 0) (by omega)
  have l1 := enc_len (n := 0) (by omega)
  have l2 := enc_len (n := 0) (by omega)
  have l3 := enc_len (n := 0) (by omega)
  have l4 := enc_len (n := 0) (by omega)
  have l5 := enc_len (n := 0) (by omega)
  have HLN : Hid ((enc 0).length ≤ 10 ∧ (enc 0).length ≤ 10 ∧ (enc 0).length ≤ 10 ∧ (enc 0).length ≤ 10 ∧ (enc 0).length ≤ 10 ∧ (enc 0).length ≤ 10) := Lib.hid ⟨l0.2, l1.2, l2.2, l3.2, l4.2, l5.2⟩
  clear l0 l1 l2 l3 l4 l5
  have hq0 : ∀ w, (Op.equalIn 10000 VT (.agg #[.int .u64 0, .int .i64 0, .int .u64 0, .int .i64 0, .int .u64 0, .int .u64 0]) (.agg #[.int .u64 0, .int .i64 0, .int .u64 0, .int .i64 0, .int .u64 0, .int .u64 0])).run Try.prog w = .ok true w := fun w => eq_yes noV w
  show Calls Try.prog 18 #[.agg #[.int .u64 0, .int .i64 0, .int .u64 0, .int .i64 0, .int .u64 0, .int .u64 0]] w _
  have hX := Blk.new w VT #[.int .u64 0, .int .i64 0, .int .u64 0, .int .i64 0, .int .u64 0, .int .u64 0]
  have hbb := (Below.refl _ w).alloc (Nat.le_refl _) (.cells #[.int .u64 0, .int .i64 0, .int .u64 0, .int .i64 0, .int .u64 0, .int .u64 0] VT)
  go_enter Try.func18, Try.ntmps18
  go_upto_region 1 with (fail)
  generalize w.alloc (.cells _ VT) = w1 at *
  generalize hq : w.heap.size = q at hX ⊢
  have x0 : w1.cell? ⟨q, 0, none⟩ = some (.int .u64 0) := hX.cell 0
  have x1 : w1.cell? ⟨q, 1, none⟩ = some (.int .i64 0) := hX.cell 1
  have x2 : w1.cell? ⟨q, 2, none⟩ = some (.int .u64 0) := hX.cell 2
  have x3 : w1.cell? ⟨q, 3, none⟩ = some (.int .i64 0) := hX.cell 3
  have x4 : w1.cell? ⟨q, 4, none⟩ = some (.int .u64 0) := hX.cell 4
  have x5 : w1.cell? ⟨q, 5, none⟩ = some (.int .u64 0) := hX.cell 5
  go_upto_region 5 with (fail)
  have hR : Blk (w1.alloc (.cells #[.int .u64 0, .int .u64 0, .int .u64 0, .int .u64 0, .int .u64 0, .int .u64 0] 23)) w1.heap.size 23 (u64s [0, 0, 0, 0, 0, 0]) := Blk.new w1 _ _
  have hb1 : Below w.heap.size w (w1.alloc (.cells #[.int .u64 0, .int .u64 0, .int .u64 0, .int .u64 0, .int .u64 0, .int .u64 0] 23)) := hbb.alloc hbb.size _
  have hbig : ∀ n ∈ ([0, 0, 0, 0, 0, 0] : List Nat), n < 18446744073709551616 := by
    intro n hn
    simp only [List.mem_cons, List.not_mem_nil, or_false] at hn
    rcases hn with rfl | rfl | rfl | rfl | rfl | rfl
    · exact (by decide)
    · exact (by decide)
    · exact (by decide)
    · exact (by decide)
    · exact (by decide)
    · exact (by decide)
  have HBIG := Lib.hid hbig
  clear hbig x0 x1 x2 x3 x4 x5 hX hbb hq0
  generalize w1.alloc (.cells #[.int .u64 0, .int .u64 0, .int .u64 0, .int .u64 0, .int .u64 0, .int .u64 0] 23) = w2 at *
  generalize w1.heap.size = r at *
  obtain ⟨L, hL⟩ : ∃ L : List Nat, L = [0, 0, 0, 0, 0, 0] := ⟨_, rfl⟩
  rw [← hL] at hR HBIG
  have HL : Hid (L.length = 6) := Lib.hid (by rw [hL]; rfl)
  have HE : Hid (flat L = six 0 0 0 0 0 0) := Lib.hid (by rw [hL]; simp [flat, six])
  clear hL
  go_wp2_with fail
  go_loopw [5, 6] (fun vs vi wr => ∃ (j : Nat) (s : List UInt8), j ≤ 6 ∧ vi = .int .i64 j ∧ vs = .string (str s) ∧ Hid (s = flat (L.take j)) ∧ s.length ≤ 10 * j ∧ Blk wr r 23 (u64s L) ∧ Below w.heap.size w wr) (fun _ v _ => 6 - (intOf v).toNat)
  case atStart => exact ⟨0, [], by omega, rfl, rfl, Lib.hid rfl, Nat.le_refl _, hR, hb1⟩
  case round =>
    clear hR hb1
    obtain ⟨j, s, hj, rfl, rfl, HS, hsl, hR, hb1⟩ := hrel
    by_cases hjl : j < 6
    · have hlt : (j : Int) < 6 := by omega
      obtain ⟨n, hn⟩ : ∃ n, L[j]? = some n := ⟨_, List.getElem?_eq_getElem (by have := HL.out; omega)⟩
      have hn64 := HBIG.out n (List.mem_of_getElem? hn)
      have hln := enc_len hn64
      have y0 : wr.cell? ⟨r, j, none⟩ = some (.int .u64 (n : Int)) := by rw [hR.cell j, u64s_at hn]
      have hov : ¬ (9223372036854775807 < s.length + (enc n).length) := by omega
      have HN := Lib.hid hn
      clear hn
      go_wp2_with fail
      refine (Wirey.refnum_c n hn64 _).mono ?_
      rintro e w5 ⟨rfl, hbn⟩
      have hR2 := hR.below hbn hR.lt
      have hb2 := hb1.trans (hbn.mono hb1.size)
      clear y0 hR hb1 hbn
      go_wp2_with fail
      go_roundw
      case rel => exact ⟨j + 1, s ++ enc n, by omega, rfl, rfl, Lib.hid (by rw [HS.out, flat_take HN.out]), by rw [List.length_append]; omega, hR2, hb2⟩
      case measure => simp [intOf]; omega
    · obtain rfl : j = 6 := by omega
      have HF : Hid (s = six 0 0 0 0 0 0) := Lib.hid (by rw [HS.out, List.take_of_length_le (by have := HL.out; omega), HE.out])
      clear hR
      go_wp2_with fail
      go_ret
      exact ⟨by rw [← HF.out]; rfl, hb1⟩
end Go.Proofs.Ytigkocdjllfhnaa.Celly
