/- Layer 10: the program's operations, records and replies as bytes. No condition but the bounds that a law lays. -/
import Derived.Test.YtpjmkgomilnhnaaOpMath
import Derived.Test.YtpjmkgomilnhnaaWireFly
import Derived.Test.YtpjmkgomilnhnaaRegion
import Derived.Test.YtpjmkgomilnhnaaOpRefPut
import Derived.BigQuiet
namespace Go.Proofs.Ytpjmkgomilnhnaa.Opy
open Go.ChangeShapes Go.WideShapes Go.ChangeAt Go.RowKit
open Wirey (Blk Row str str_size str_list str_cat enc enc_len txt)
open Regy

theorem haskey_c (k : Int) (b : Bool) (hb : (k != 5) = b) (w : World) :
    Calls Try.prog 25 #[.int .i64 k] w fun e w' => e = .returned (.bool b) ∧ w' = w := by
  subst hb
  go_enter Try.func25, Try.ntmps25
  go_wp2_with fail
  go_ret
  exact ⟨by first | rfl | simp, rfl⟩
theorem hasvalue_c (k : Int) (b : Bool) (hb : (k == 2 || k == 4) = b) (w : World) :
    Calls Try.prog 27 #[.int .i64 k] w fun e w' => e = .returned (.bool b) ∧ w' = w := by
  subst hb
  by_cases a1 : k = 2
  · subst a1
    go_enter Try.func27, Try.ntmps27
    go_wp2_with fail
    go_ret
    exact ⟨by first | rfl | simp, rfl⟩
  · have d1 : (k == 2) = false := beq_eq_false_iff_ne.2 a1
    go_enter Try.func27, Try.ntmps27
    go_wp2_with fail
    go_ret
    exact ⟨by first | rfl | simp [d1], rfl⟩
theorem hasversion_c (k : Int) (b : Bool) (hb : (k == 4) = b) (w : World) :
    Calls Try.prog 28 #[.int .i64 k] w fun e w' => e = .returned (.bool b) ∧ w' = w := by
  subst hb
  go_enter Try.func28, Try.ntmps28
  go_wp2_with fail
  go_ret
  exact ⟨by first | rfl | simp, rfl⟩
set_option maxHeartbeats 4000000 in
set_option maxRecDepth 100000 in
theorem pputReply_c {n v : Nat} {l : List UInt8} (hn : n < 65536) (hl : l.length ≤ 100000) (hv : v < 18446744073709551616) (w : World) :
    Calls Try.prog 15 #[.agg #[.int .i64 (n : Int), .string (str l), .int .u64 (v : Int)]] w fun e w' => e = .returned (.string (str (replyB n l v))) ∧ Below w.heap.size w w' := by
  have hcat := str_cat
  have hsz := str_size
  have l1 := enc_len (n := n) (by omega)
  have l2 := enc_len (n := l.length) (by omega)
  have l3 := enc_len (n := v) hv
  have l4 : (txt l).length ≤ 100010 := by unfold txt; rw [List.length_append]; omega
  have c1 : ¬ (9223372036854775807 < (enc n).length + (txt l).length) := by omega
  have c2 : ¬ (9223372036854775807 < (enc n ++ txt l).length + (enc v).length) := by rw [List.length_append]; omega
  have c3 : ¬ (9223372036854775807 < (enc n).length + (txt l).length + (enc v).length) := by omega
  have hr : replyB n l v = enc n ++ (txt l ++ enc v) := rfl
  have HR := Lib.hid hr
  clear hr l1 l2 l3 l4
  have ew : IntKind.u64.wrap (n : Int) = (n : Int) := by rw [IntKind.wrap_u64]; omega
  have step : ∀ {W W' : World}, (Below w.heap.size w W ∧ Blk W w.heap.size 37 #[.int .i64 (n : Int), .string (str l), .int .u64 (v : Int)]) → Below W.heap.size W W' → (Below w.heap.size w W' ∧ Blk W' w.heap.size 37 #[.int .i64 (n : Int), .string (str l), .int .u64 (v : Int)]) := fun {W W'} hW hb => ⟨hW.1.trans (hb.mono hW.1.size), hW.2.below hb hW.2.lt⟩
  have f1 : ∀ W, (Below w.heap.size w W ∧ Blk W w.heap.size 37 #[.int .i64 (n : Int), .string (str l), .int .u64 (v : Int)]) → Calls Try.prog 24 #[.int .u64 (n : Int)] W fun e W' => e = .returned (.string (str (enc n))) ∧ (Below w.heap.size w W' ∧ Blk W' w.heap.size 37 #[.int .i64 (n : Int), .string (str l), .int .u64 (v : Int)]) := fun W hW => (Wirey.num_c n (by omega) W).mono fun _ _ ⟨a, b⟩ => ⟨a, step hW b⟩
  have f2 : ∀ W, (Below w.heap.size w W ∧ Blk W w.heap.size 37 #[.int .i64 (n : Int), .string (str l), .int .u64 (v : Int)]) → Calls Try.prog 26 #[.string (str l)] W fun e W' => e = .returned (.string (str (txt l))) ∧ (Below w.heap.size w W' ∧ Blk W' w.heap.size 37 #[.int .i64 (n : Int), .string (str l), .int .u64 (v : Int)]) := fun W hW => (Wirey.text_c l (by omega) W).mono fun _ _ ⟨a, b⟩ => ⟨a, step hW b⟩
  have f3 : ∀ W, (Below w.heap.size w W ∧ Blk W w.heap.size 37 #[.int .i64 (n : Int), .string (str l), .int .u64 (v : Int)]) → Calls Try.prog 24 #[.int .u64 (v : Int)] W fun e W' => e = .returned (.string (str (enc v))) ∧ (Below w.heap.size w W' ∧ Blk W' w.heap.size 37 #[.int .i64 (n : Int), .string (str l), .int .u64 (v : Int)]) := fun W hW => (Wirey.num_c v hv W).mono fun _ _ ⟨a, b⟩ => ⟨a, step hW b⟩
  have cs : ∀ {W : World}, (Below w.heap.size w W ∧ Blk W w.heap.size 37 #[.int .i64 (n : Int), .string (str l), .int .u64 (v : Int)]) → (fun W => W.cell? ⟨w.heap.size, 0, none⟩ = some (.int .i64 (n : Int)) ∧ W.cell? ⟨w.heap.size, 1, none⟩ = some (.string (str l)) ∧ W.cell? ⟨w.heap.size, 2, none⟩ = some (.int .u64 (v : Int)) ∧ (Below w.heap.size w W ∧ Blk W w.heap.size 37 #[.int .i64 (n : Int), .string (str l), .int .u64 (v : Int)])) W := fun {W} hW => ⟨hW.2.cell 0, hW.2.cell 1, hW.2.cell 2, hW⟩
  have h0 : (Below w.heap.size w (w.alloc (.cells #[.int .i64 (n : Int), .string (str l), .int .u64 (v : Int)] 37)).drew ∧ Blk (w.alloc (.cells #[.int .i64 (n : Int), .string (str l), .int .u64 (v : Int)] 37)).drew w.heap.size 37 #[.int .i64 (n : Int), .string (str l), .int .u64 (v : Int)]) := ⟨((Below.refl _ w).alloc (Nat.le_refl _) (.cells #[.int .i64 (n : Int), .string (str l), .int .u64 (v : Int)] 37)).drew, Blk.new w 37 #[.int .i64 (n : Int), .string (str l), .int .u64 (v : Int)]⟩
  have h1 := cs h0
  clear h0 step
  go_enter Try.func15, Try.ntmps15
  go_upto_region 1 with (fail)
  dsimp only at h1
  refine region_only 13 #[false, false, false, false, false, false, false, false, false, false, false, false, false] (S := (fun W => W.cell? ⟨w.heap.size, 0, none⟩ = some (.int .i64 (n : Int)) ∧ W.cell? ⟨w.heap.size, 1, none⟩ = some (.string (str l)) ∧ W.cell? ⟨w.heap.size, 2, none⟩ = some (.int .u64 (v : Int)) ∧ (Below w.heap.size w W ∧ Blk W w.heap.size 37 #[.int .i64 (n : Int), .string (str l), .int .u64 (v : Int)]))) rfl rfl (by kernel_rfl) h1 (fun hSw => ?_)
  refine take_at 0 3 (fuel := 12) ?_ rfl rfl (by kernel_rfl) (by kernel_rfl) (by kernel_rfl) (Or.inl ⟨by rfl, ?_⟩) hSw ?_
  rotate_left
  · intro wx hSx
    (try dsimp only at hSx)
    go_split_ands
    go_simp
    (try with_reducible rfl)
  simp only [List.setIfInBounds_toArray, List.set_cons_zero, List.set_cons_succ]
  refine take_at 1 4 (fuel := 11) ?_ rfl rfl (by kernel_rfl) (by kernel_rfl) (by kernel_rfl) (Or.inl ⟨by rfl, ?_⟩) hSw ?_
  rotate_left
  · intro wx hSx
    (try dsimp only at hSx)
    go_split_ands
    go_simp
    (try with_reducible rfl)
  simp only [List.setIfInBounds_toArray, List.set_cons_zero, List.set_cons_succ]
  refine take_at 2 5 (fuel := 10) ?_ rfl rfl (by kernel_rfl) (by kernel_rfl) (by kernel_rfl) (Or.inl ⟨by rfl, ?_⟩) hSw ?_
  rotate_left
  · intro wx hSx
    (try dsimp only at hSx)
    go_split_ands
    go_simp
    (try with_reducible rfl)
  simp only [List.setIfInBounds_toArray, List.set_cons_zero, List.set_cons_succ]
  refine take_at 4 7 (fuel := 9) ?_ rfl rfl (by kernel_rfl) (by kernel_rfl) (by kernel_rfl) (Or.inl ⟨by rfl, ?_⟩) hSw ?_
  rotate_left
  · intro wx hSx
    (try dsimp only at hSx)
    go_split_ands
    go_simp
    (try with_reducible rfl)
  simp only [List.setIfInBounds_toArray, List.set_cons_zero, List.set_cons_succ]
  refine take_at 5 8 (fuel := 8) ?_ rfl rfl (by kernel_rfl) (by kernel_rfl) (by kernel_rfl) (Or.inl ⟨by rfl, ?_⟩) hSw ?_
  rotate_left
  · intro wx hSx
    (try dsimp only at hSx)
    go_split_ands
    go_simp
    (try with_reducible rfl)
  simp only [List.setIfInBounds_toArray, List.set_cons_zero, List.set_cons_succ]
  refine take_at 8 11 (fuel := 7) ?_ rfl rfl (by kernel_rfl) (by kernel_rfl) (by kernel_rfl) (Or.inl ⟨by rfl, ?_⟩) hSw ?_
  rotate_left
  · intro wx hSx
    (try dsimp only at hSx)
    go_split_ands
    go_simp
    (try with_reducible rfl)
  simp only [List.setIfInBounds_toArray, List.set_cons_zero, List.set_cons_succ]
  refine take_at 9 12 (fuel := 6) ?_ rfl rfl (by kernel_rfl) (by kernel_rfl) (by kernel_rfl) (Or.inl ⟨by rfl, ?_⟩) hSw ?_
  rotate_left
  · intro wx hSx
    (try dsimp only at hSx)
    go_split_ands
    go_simp
    (try with_reducible rfl)
  simp only [List.setIfInBounds_toArray, List.set_cons_zero, List.set_cons_succ]
  refine wpAnyH_ready (fuel := 5) (rs := [3]) (by kernel_rfl) (by simp) (AllReadyH.cons rfl (fun K hK => ?_) AllReadyH.nil)
  go_simp
  refine Calls.mono (f1 _ hSw.2.2.2) ?_
  rintro e wv ⟨rfl, hwv⟩
  refine hK.out _ _ (cs hwv) (fun hSw => ?_)
  clear hK K
  simp only [List.setIfInBounds_toArray, List.set_cons_zero, List.set_cons_succ]
  refine wpAnyH_ready (fuel := 4) (rs := [6]) (by kernel_rfl) (by simp) (AllReadyH.cons rfl (fun K hK => ?_) AllReadyH.nil)
  go_simp
  refine Calls.mono (f2 _ hSw.2.2.2) ?_
  rintro e wv ⟨rfl, hwv⟩
  refine hK.out _ _ (cs hwv) (fun hSw => ?_)
  clear hK K
  simp only [List.setIfInBounds_toArray, List.set_cons_zero, List.set_cons_succ]
  refine take_at 7 10 (fuel := 3) ?_ rfl rfl (by kernel_rfl) (by kernel_rfl) (by kernel_rfl) (Or.inl ⟨by rfl, ?_⟩) hSw ?_
  rotate_left
  · intro wx hSx
    (try dsimp only at hSx)
    go_split_ands
    go_simp
    (try with_reducible rfl)
  simp only [List.setIfInBounds_toArray, List.set_cons_zero, List.set_cons_succ]
  refine wpAnyH_ready (fuel := 2) (rs := [10]) (by kernel_rfl) (by simp) (AllReadyH.cons rfl (fun K hK => ?_) AllReadyH.nil)
  go_simp
  refine Calls.mono (f3 _ hSw.2.2.2) ?_
  rintro e wv ⟨rfl, hwv⟩
  refine hK.out _ _ (cs hwv) (fun hSw => ?_)
  clear hK K
  simp only [List.setIfInBounds_toArray, List.set_cons_zero, List.set_cons_succ]
  refine take_at 11 14 (fuel := 1) ?_ rfl rfl (by kernel_rfl) (by kernel_rfl) (by kernel_rfl) (Or.inl ⟨by rfl, ?_⟩) hSw ?_
  rotate_left
  · intro wx hSx
    (try dsimp only at hSx)
    go_split_ands
    go_simp
    (try with_reducible rfl)
  simp only [List.setIfInBounds_toArray, List.set_cons_zero, List.set_cons_succ]
  refine take_at 12 2 (fuel := 0) ?_ rfl rfl (by kernel_rfl) (by kernel_rfl) (by kernel_rfl) (Or.inl ⟨by rfl, ?_⟩) hSw ?_
  rotate_left
  · intro wx hSx
    (try dsimp only at hSx)
    go_split_ands
    go_simp
    (try with_reducible rfl)
  simp only [List.setIfInBounds_toArray, List.set_cons_zero, List.set_cons_succ]
  refine wpAnyH_done (by kernel_rfl) ⟨rfl, ?_⟩ 0
  have hZ := hSw.2.2.2.1
  go_wp2_with fail
  go_ret
  rw [HR.out]
  refine ⟨?_, hZ⟩
  first
  | rfl
  | simp only [List.append_assoc]
  | (rw [List.append_assoc])
  | fail
set_option maxHeartbeats 4000000 in
set_option maxRecDepth 100000 in
theorem pput_c1 {t v : Nat} {key val : List UInt8} (hk : key.length ≤ 100000) (hl : val.length ≤ 100000) (ht : t < 18446744073709551616) (hv : v < 18446744073709551616) (w : World) :
    Calls Try.prog 10 #[.agg #[.int .i64 1, .string (str key), .string (str val), .int .u64 (t : Int), .int .u64 (v : Int)]] w fun e w' => e = .returned (.string (str (opB 1 key val t v))) ∧ Below w.heap.size w w' := by
  have hcat := str_cat
  have hsz := str_size
  have hr : opB 1 key val t v = enc 1 ++ txt key := by simp [opB]
  rw [hr]
  clear hr
  have l1 := enc_len (n := 1) (by omega)
  have l2 := enc_len (n := key.length) (by omega)
  have l3 := enc_len (n := val.length) (by omega)
  have l5 := enc_len (n := t) ht
  have l6 := enc_len (n := v) hv
  have m1 : (txt key).length ≤ 100010 := by unfold txt; rw [List.length_append]; omega
  have m2 : (txt val).length ≤ 100010 := by unfold txt; rw [List.length_append]; omega
  have c1 : ¬ (9223372036854775807 < (enc 1).length + (txt key).length) := by omega
  have step : ∀ {W W' : World}, (Below w.heap.size w W ∧ Blk W w.heap.size 24 #[.int .i64 1, .string (str key), .string (str val), .int .u64 (t : Int), .int .u64 (v : Int)]) → Below W.heap.size W W' → (Below w.heap.size w W' ∧ Blk W' w.heap.size 24 #[.int .i64 1, .string (str key), .string (str val), .int .u64 (t : Int), .int .u64 (v : Int)]) := fun {W W'} hW hb => ⟨hW.1.trans (hb.mono hW.1.size), hW.2.below hb hW.2.lt⟩
  have fhk : ∀ W, (Below w.heap.size w W ∧ Blk W w.heap.size 24 #[.int .i64 1, .string (str key), .string (str val), .int .u64 (t : Int), .int .u64 (v : Int)]) → Calls Try.prog 25 #[.int .i64 1] W fun e W' => e = .returned (.bool true) ∧ (Below w.heap.size w W' ∧ Blk W' w.heap.size 24 #[.int .i64 1, .string (str key), .string (str val), .int .u64 (t : Int), .int .u64 (v : Int)]) := fun W hW => (haskey_c 1 true rfl W).mono fun _ _ ⟨a, b⟩ => ⟨a, by rw [b]; exact hW⟩
  have fhv : ∀ W, (Below w.heap.size w W ∧ Blk W w.heap.size 24 #[.int .i64 1, .string (str key), .string (str val), .int .u64 (t : Int), .int .u64 (v : Int)]) → Calls Try.prog 27 #[.int .i64 1] W fun e W' => e = .returned (.bool false) ∧ (Below w.heap.size w W' ∧ Blk W' w.heap.size 24 #[.int .i64 1, .string (str key), .string (str val), .int .u64 (t : Int), .int .u64 (v : Int)]) := fun W hW => (hasvalue_c 1 false rfl W).mono fun _ _ ⟨a, b⟩ => ⟨a, by rw [b]; exact hW⟩
  have fhs : ∀ W, (Below w.heap.size w W ∧ Blk W w.heap.size 24 #[.int .i64 1, .string (str key), .string (str val), .int .u64 (t : Int), .int .u64 (v : Int)]) → Calls Try.prog 28 #[.int .i64 1] W fun e W' => e = .returned (.bool false) ∧ (Below w.heap.size w W' ∧ Blk W' w.heap.size 24 #[.int .i64 1, .string (str key), .string (str val), .int .u64 (t : Int), .int .u64 (v : Int)]) := fun W hW => (hasversion_c 1 false rfl W).mono fun _ _ ⟨a, b⟩ => ⟨a, by rw [b]; exact hW⟩
  have fk : ∀ W, (Below w.heap.size w W ∧ Blk W w.heap.size 24 #[.int .i64 1, .string (str key), .string (str val), .int .u64 (t : Int), .int .u64 (v : Int)]) → Calls Try.prog 24 #[.int .u64 1] W fun e W' => e = .returned (.string (str (enc 1))) ∧ (Below w.heap.size w W' ∧ Blk W' w.heap.size 24 #[.int .i64 1, .string (str key), .string (str val), .int .u64 (t : Int), .int .u64 (v : Int)]) := fun W hW => (Wirey.num_c 1 (by omega) W).mono fun _ _ ⟨a, b⟩ => ⟨a, step hW b⟩
  have f1 : ∀ W, (Below w.heap.size w W ∧ Blk W w.heap.size 24 #[.int .i64 1, .string (str key), .string (str val), .int .u64 (t : Int), .int .u64 (v : Int)]) → Calls Try.prog 26 #[.string (str key)] W fun e W' => e = .returned (.string (str (txt key))) ∧ (Below w.heap.size w W' ∧ Blk W' w.heap.size 24 #[.int .i64 1, .string (str key), .string (str val), .int .u64 (t : Int), .int .u64 (v : Int)]) := fun W hW => (Wirey.text_c key (by omega) W).mono fun _ _ ⟨a, b⟩ => ⟨a, step hW b⟩
  have f2 : ∀ W, (Below w.heap.size w W ∧ Blk W w.heap.size 24 #[.int .i64 1, .string (str key), .string (str val), .int .u64 (t : Int), .int .u64 (v : Int)]) → Calls Try.prog 26 #[.string (str val)] W fun e W' => e = .returned (.string (str (txt val))) ∧ (Below w.heap.size w W' ∧ Blk W' w.heap.size 24 #[.int .i64 1, .string (str key), .string (str val), .int .u64 (t : Int), .int .u64 (v : Int)]) := fun W hW => (Wirey.text_c val (by omega) W).mono fun _ _ ⟨a, b⟩ => ⟨a, step hW b⟩
  have f3 : ∀ W, (Below w.heap.size w W ∧ Blk W w.heap.size 24 #[.int .i64 1, .string (str key), .string (str val), .int .u64 (t : Int), .int .u64 (v : Int)]) → Calls Try.prog 24 #[.int .u64 (t : Int)] W fun e W' => e = .returned (.string (str (enc t))) ∧ (Below w.heap.size w W' ∧ Blk W' w.heap.size 24 #[.int .i64 1, .string (str key), .string (str val), .int .u64 (t : Int), .int .u64 (v : Int)]) := fun W hW => (Wirey.num_c t ht W).mono fun _ _ ⟨a, b⟩ => ⟨a, step hW b⟩
  have f4 : ∀ W, (Below w.heap.size w W ∧ Blk W w.heap.size 24 #[.int .i64 1, .string (str key), .string (str val), .int .u64 (t : Int), .int .u64 (v : Int)]) → Calls Try.prog 24 #[.int .u64 (v : Int)] W fun e W' => e = .returned (.string (str (enc v))) ∧ (Below w.heap.size w W' ∧ Blk W' w.heap.size 24 #[.int .i64 1, .string (str key), .string (str val), .int .u64 (t : Int), .int .u64 (v : Int)]) := fun W hW => (Wirey.num_c v hv W).mono fun _ _ ⟨a, b⟩ => ⟨a, step hW b⟩
  have dr : ∀ {W : World}, (Below w.heap.size w W ∧ Blk W w.heap.size 24 #[.int .i64 1, .string (str key), .string (str val), .int .u64 (t : Int), .int .u64 (v : Int)]) → (Below w.heap.size w W.drew ∧ Blk W.drew w.heap.size 24 #[.int .i64 1, .string (str key), .string (str val), .int .u64 (t : Int), .int .u64 (v : Int)]) := fun {W} hW => step hW ⟨rfl, rfl, rfl, Nat.le_refl _, fun _ _ => rfl⟩
  have h0 : (Below w.heap.size w (w.alloc (.cells #[.int .i64 1, .string (str key), .string (str val), .int .u64 (t : Int), .int .u64 (v : Int)] 24)) ∧ Blk (w.alloc (.cells #[.int .i64 1, .string (str key), .string (str val), .int .u64 (t : Int), .int .u64 (v : Int)] 24)) w.heap.size 24 #[.int .i64 1, .string (str key), .string (str val), .int .u64 (t : Int), .int .u64 (v : Int)]) := ⟨(Below.refl _ w).alloc (Nat.le_refl _) (.cells #[.int .i64 1, .string (str key), .string (str val), .int .u64 (t : Int), .int .u64 (v : Int)] 24), Blk.new w 24 #[.int .i64 1, .string (str key), .string (str val), .int .u64 (t : Int), .int .u64 (v : Int)]⟩
  clear l1 l2 l3 l5 l6 m1 m2
  go_enter Try.func10, Try.ntmps10
  go_upto_region 1 with (fail)
  generalize w.alloc (.cells #[.int .i64 1, .string (str key), .string (str val), .int .u64 (t : Int), .int .u64 (v : Int)] 24) = w1 at *
  have x0 := h0.2.cell 0
  have x1 := h0.2.cell 1
  have x2 := h0.2.cell 2
  have x3 := h0.2.cell 3
  have x4 := h0.2.cell 4
  simp only [List.getElem?_toArray, List.getElem?_cons_zero, List.getElem?_cons_succ] at x0 x1 x2 x3 x4
  go_wp2_with fail
  refine (fk _ h0).mono ?_
  rintro e u1 ⟨rfl, k1⟩
  clear x0 x1 x2 x3 x4 h0
  have x0 := k1.2.cell 0
  have x1 := k1.2.cell 1
  have x2 := k1.2.cell 2
  have x3 := k1.2.cell 3
  have x4 := k1.2.cell 4
  simp only [List.getElem?_toArray, List.getElem?_cons_zero, List.getElem?_cons_succ] at x0 x1 x2 x3 x4
  go_wp2_with fail
  refine (fhk _ k1).mono ?_
  rintro e u2 ⟨rfl, k2⟩
  clear x0 x1 x2 x3 x4 k1
  have x0 := k2.2.cell 0
  have x1 := k2.2.cell 1
  have x2 := k2.2.cell 2
  have x3 := k2.2.cell 3
  have x4 := k2.2.cell 4
  simp only [List.getElem?_toArray, List.getElem?_cons_zero, List.getElem?_cons_succ] at x0 x1 x2 x3 x4
  go_wp2_with fail
  refine (f1 _ k2).mono ?_
  rintro e u3 ⟨rfl, k3⟩
  clear x0 x1 x2 x3 x4 k2
  have x0 := k3.2.cell 0
  have x1 := k3.2.cell 1
  have x2 := k3.2.cell 2
  have x3 := k3.2.cell 3
  have x4 := k3.2.cell 4
  simp only [List.getElem?_toArray, List.getElem?_cons_zero, List.getElem?_cons_succ] at x0 x1 x2 x3 x4
  go_wp2_with fail
  refine (fhv _ k3).mono ?_
  rintro e u4 ⟨rfl, k4⟩
  clear x0 x1 x2 x3 x4 k3
  have x0 := k4.2.cell 0
  have x1 := k4.2.cell 1
  have x2 := k4.2.cell 2
  have x3 := k4.2.cell 3
  have x4 := k4.2.cell 4
  simp only [List.getElem?_toArray, List.getElem?_cons_zero, List.getElem?_cons_succ] at x0 x1 x2 x3 x4
  go_wp2_with fail
  refine (fhs _ k4).mono ?_
  rintro e u5 ⟨rfl, k5⟩
  clear x0 x1 x2 x3 x4 k4
  have x0 := k5.2.cell 0
  have x1 := k5.2.cell 1
  have x2 := k5.2.cell 2
  have x3 := k5.2.cell 3
  have x4 := k5.2.cell 4
  simp only [List.getElem?_toArray, List.getElem?_cons_zero, List.getElem?_cons_succ] at x0 x1 x2 x3 x4
  go_wp2_with fail
  go_ret
  exact ⟨rfl, k5.1⟩
set_option maxHeartbeats 4000000 in
set_option maxRecDepth 100000 in
theorem pput_c3 {t v : Nat} {key val : List UInt8} (hk : key.length ≤ 100000) (hl : val.length ≤ 100000) (ht : t < 18446744073709551616) (hv : v < 18446744073709551616) (w : World) :
    Calls Try.prog 10 #[.agg #[.int .i64 3, .string (str key), .string (str val), .int .u64 (t : Int), .int .u64 (v : Int)]] w fun e w' => e = .returned (.string (str (opB 3 key val t v))) ∧ Below w.heap.size w w' := by
  have hcat := str_cat
  have hsz := str_size
  have hr : opB 3 key val t v = enc 3 ++ txt key := by simp [opB]
  rw [hr]
  clear hr
  have l1 := enc_len (n := 3) (by omega)
  have l2 := enc_len (n := key.length) (by omega)
  have l3 := enc_len (n := val.length) (by omega)
  have l5 := enc_len (n := t) ht
  have l6 := enc_len (n := v) hv
  have m1 : (txt key).length ≤ 100010 := by unfold txt; rw [List.length_append]; omega
  have m2 : (txt val).length ≤ 100010 := by unfold txt; rw [List.length_append]; omega
  have c1 : ¬ (9223372036854775807 < (enc 3).length + (txt key).length) := by omega
  have step : ∀ {W W' : World}, (Below w.heap.size w W ∧ Blk W w.heap.size 24 #[.int .i64 3, .string (str key), .string (str val), .int .u64 (t : Int), .int .u64 (v : Int)]) → Below W.heap.size W W' → (Below w.heap.size w W' ∧ Blk W' w.heap.size 24 #[.int .i64 3, .string (str key), .string (str val), .int .u64 (t : Int), .int .u64 (v : Int)]) := fun {W W'} hW hb => ⟨hW.1.trans (hb.mono hW.1.size), hW.2.below hb hW.2.lt⟩
  have fhk : ∀ W, (Below w.heap.size w W ∧ Blk W w.heap.size 24 #[.int .i64 3, .string (str key), .string (str val), .int .u64 (t : Int), .int .u64 (v : Int)]) → Calls Try.prog 25 #[.int .i64 3] W fun e W' => e = .returned (.bool true) ∧ (Below w.heap.size w W' ∧ Blk W' w.heap.size 24 #[.int .i64 3, .string (str key), .string (str val), .int .u64 (t : Int), .int .u64 (v : Int)]) := fun W hW => (haskey_c 3 true rfl W).mono fun _ _ ⟨a, b⟩ => ⟨a, by rw [b]; exact hW⟩
  have fhv : ∀ W, (Below w.heap.size w W ∧ Blk W w.heap.size 24 #[.int .i64 3, .string (str key), .string (str val), .int .u64 (t : Int), .int .u64 (v : Int)]) → Calls Try.prog 27 #[.int .i64 3] W fun e W' => e = .returned (.bool false) ∧ (Below w.heap.size w W' ∧ Blk W' w.heap.size 24 #[.int .i64 3, .string (str key), .string (str val), .int .u64 (t : Int), .int .u64 (v : Int)]) := fun W hW => (hasvalue_c 3 false rfl W).mono fun _ _ ⟨a, b⟩ => ⟨a, by rw [b]; exact hW⟩
  have fhs : ∀ W, (Below w.heap.size w W ∧ Blk W w.heap.size 24 #[.int .i64 3, .string (str key), .string (str val), .int .u64 (t : Int), .int .u64 (v : Int)]) → Calls Try.prog 28 #[.int .i64 3] W fun e W' => e = .returned (.bool false) ∧ (Below w.heap.size w W' ∧ Blk W' w.heap.size 24 #[.int .i64 3, .string (str key), .string (str val), .int .u64 (t : Int), .int .u64 (v : Int)]) := fun W hW => (hasversion_c 3 false rfl W).mono fun _ _ ⟨a, b⟩ => ⟨a, by rw [b]; exact hW⟩
  have fk : ∀ W, (Below w.heap.size w W ∧ Blk W w.heap.size 24 #[.int .i64 3, .string (str key), .string (str val), .int .u64 (t : Int), .int .u64 (v : Int)]) → Calls Try.prog 24 #[.int .u64 3] W fun e W' => e = .returned (.string (str (enc 3))) ∧ (Below w.heap.size w W' ∧ Blk W' w.heap.size 24 #[.int .i64 3, .string (str key), .string (str val), .int .u64 (t : Int), .int .u64 (v : Int)]) := fun W hW => (Wirey.num_c 3 (by omega) W).mono fun _ _ ⟨a, b⟩ => ⟨a, step hW b⟩
  have f1 : ∀ W, (Below w.heap.size w W ∧ Blk W w.heap.size 24 #[.int .i64 3, .string (str key), .string (str val), .int .u64 (t : Int), .int .u64 (v : Int)]) → Calls Try.prog 26 #[.string (str key)] W fun e W' => e = .returned (.string (str (txt key))) ∧ (Below w.heap.size w W' ∧ Blk W' w.heap.size 24 #[.int .i64 3, .string (str key), .string (str val), .int .u64 (t : Int), .int .u64 (v : Int)]) := fun W hW => (Wirey.text_c key (by omega) W).mono fun _ _ ⟨a, b⟩ => ⟨a, step hW b⟩
  have f2 : ∀ W, (Below w.heap.size w W ∧ Blk W w.heap.size 24 #[.int .i64 3, .string (str key), .string (str val), .int .u64 (t : Int), .int .u64 (v : Int)]) → Calls Try.prog 26 #[.string (str val)] W fun e W' => e = .returned (.string (str (txt val))) ∧ (Below w.heap.size w W' ∧ Blk W' w.heap.size 24 #[.int .i64 3, .string (str key), .string (str val), .int .u64 (t : Int), .int .u64 (v : Int)]) := fun W hW => (Wirey.text_c val (by omega) W).mono fun _ _ ⟨a, b⟩ => ⟨a, step hW b⟩
  have f3 : ∀ W, (Below w.heap.size w W ∧ Blk W w.heap.size 24 #[.int .i64 3, .string (str key), .string (str val), .int .u64 (t : Int), .int .u64 (v : Int)]) → Calls Try.prog 24 #[.int .u64 (t : Int)] W fun e W' => e = .returned (.string (str (enc t))) ∧ (Below w.heap.size w W' ∧ Blk W' w.heap.size 24 #[.int .i64 3, .string (str key), .string (str val), .int .u64 (t : Int), .int .u64 (v : Int)]) := fun W hW => (Wirey.num_c t ht W).mono fun _ _ ⟨a, b⟩ => ⟨a, step hW b⟩
  have f4 : ∀ W, (Below w.heap.size w W ∧ Blk W w.heap.size 24 #[.int .i64 3, .string (str key), .string (str val), .int .u64 (t : Int), .int .u64 (v : Int)]) → Calls Try.prog 24 #[.int .u64 (v : Int)] W fun e W' => e = .returned (.string (str (enc v))) ∧ (Below w.heap.size w W' ∧ Blk W' w.heap.size 24 #[.int .i64 3, .string (str key), .string (str val), .int .u64 (t : Int), .int .u64 (v : Int)]) := fun W hW => (Wirey.num_c v hv W).mono fun _ _ ⟨a, b⟩ => ⟨a, step hW b⟩
  have dr : ∀ {W : World}, (Below w.heap.size w W ∧ Blk W w.heap.size 24 #[.int .i64 3, .string (str key), .string (str val), .int .u64 (t : Int), .int .u64 (v : Int)]) → (Below w.heap.size w W.drew ∧ Blk W.drew w.heap.size 24 #[.int .i64 3, .string (str key), .string (str val), .int .u64 (t : Int), .int .u64 (v : Int)]) := fun {W} hW => step hW ⟨rfl, rfl, rfl, Nat.le_refl _, fun _ _ => rfl⟩
  have h0 : (Below w.heap.size w (w.alloc (.cells #[.int .i64 3, .string (str key), .string (str val), .int .u64 (t : Int), .int .u64 (v : Int)] 24)) ∧ Blk (w.alloc (.cells #[.int .i64 3, .string (str key), .string (str val), .int .u64 (t : Int), .int .u64 (v : Int)] 24)) w.heap.size 24 #[.int .i64 3, .string (str key), .string (str val), .int .u64 (t : Int), .int .u64 (v : Int)]) := ⟨(Below.refl _ w).alloc (Nat.le_refl _) (.cells #[.int .i64 3, .string (str key), .string (str val), .int .u64 (t : Int), .int .u64 (v : Int)] 24), Blk.new w 24 #[.int .i64 3, .string (str key), .string (str val), .int .u64 (t : Int), .int .u64 (v : Int)]⟩
  clear l1 l2 l3 l5 l6 m1 m2
  go_enter Try.func10, Try.ntmps10
  go_upto_region 1 with (fail)
  generalize w.alloc (.cells #[.int .i64 3, .string (str key), .string (str val), .int .u64 (t : Int), .int .u64 (v : Int)] 24) = w1 at *
  have x0 := h0.2.cell 0
  have x1 := h0.2.cell 1
  have x2 := h0.2.cell 2
  have x3 := h0.2.cell 3
  have x4 := h0.2.cell 4
  simp only [List.getElem?_toArray, List.getElem?_cons_zero, List.getElem?_cons_succ] at x0 x1 x2 x3 x4
  go_wp2_with fail
  refine (fk _ h0).mono ?_
  rintro e u1 ⟨rfl, k1⟩
  clear x0 x1 x2 x3 x4 h0
  have x0 := k1.2.cell 0
  have x1 := k1.2.cell 1
  have x2 := k1.2.cell 2
  have x3 := k1.2.cell 3
  have x4 := k1.2.cell 4
  simp only [List.getElem?_toArray, List.getElem?_cons_zero, List.getElem?_cons_succ] at x0 x1 x2 x3 x4
  go_wp2_with fail
  refine (fhk _ k1).mono ?_
  rintro e u2 ⟨rfl, k2⟩
  clear x0 x1 x2 x3 x4 k1
  have x0 := k2.2.cell 0
  have x1 := k2.2.cell 1
  have x2 := k2.2.cell 2
  have x3 := k2.2.cell 3
  have x4 := k2.2.cell 4
  simp only [List.getElem?_toArray, List.getElem?_cons_zero, List.getElem?_cons_succ] at x0 x1 x2 x3 x4
  go_wp2_with fail
  refine (f1 _ k2).mono ?_
  rintro e u3 ⟨rfl, k3⟩
  clear x0 x1 x2 x3 x4 k2
  have x0 := k3.2.cell 0
  have x1 := k3.2.cell 1
  have x2 := k3.2.cell 2
  have x3 := k3.2.cell 3
  have x4 := k3.2.cell 4
  simp only [List.getElem?_toArray, List.getElem?_cons_zero, List.getElem?_cons_succ] at x0 x1 x2 x3 x4
  go_wp2_with fail
  refine (fhv _ k3).mono ?_
  rintro e u4 ⟨rfl, k4⟩
  clear x0 x1 x2 x3 x4 k3
  have x0 := k4.2.cell 0
  have x1 := k4.2.cell 1
  have x2 := k4.2.cell 2
  have x3 := k4.2.cell 3
  have x4 := k4.2.cell 4
  simp only [List.getElem?_toArray, List.getElem?_cons_zero, List.getElem?_cons_succ] at x0 x1 x2 x3 x4
  go_wp2_with fail
  refine (fhs _ k4).mono ?_
  rintro e u5 ⟨rfl, k5⟩
  clear x0 x1 x2 x3 x4 k4
  have x0 := k5.2.cell 0
  have x1 := k5.2.cell 1
  have x2 := k5.2.cell 2
  have x3 := k5.2.cell 3
  have x4 := k5.2.cell 4
  simp only [List.getElem?_toArray, List.getElem?_cons_zero, List.getElem?_cons_succ] at x0 x1 x2 x3 x4
  go_wp2_with fail
  go_ret
  exact ⟨rfl, k5.1⟩
set_option maxHeartbeats 4000000 in
set_option maxRecDepth 100000 in
theorem pput_c5 {t v : Nat} {key val : List UInt8} (hk : key.length ≤ 100000) (hl : val.length ≤ 100000) (ht : t < 18446744073709551616) (hv : v < 18446744073709551616) (w : World) :
    Calls Try.prog 10 #[.agg #[.int .i64 5, .string (str key), .string (str val), .int .u64 (t : Int), .int .u64 (v : Int)]] w fun e w' => e = .returned (.string (str (opB 5 key val t v))) ∧ Below w.heap.size w w' := by
  have hcat := str_cat
  have hsz := str_size
  have hr : opB 5 key val t v = enc 5 := by simp [opB]
  rw [hr]
  clear hr
  have l1 := enc_len (n := 5) (by omega)
  have l2 := enc_len (n := key.length) (by omega)
  have l3 := enc_len (n := val.length) (by omega)
  have l5 := enc_len (n := t) ht
  have l6 := enc_len (n := v) hv
  have m1 : (txt key).length ≤ 100010 := by unfold txt; rw [List.length_append]; omega
  have m2 : (txt val).length ≤ 100010 := by unfold txt; rw [List.length_append]; omega
  have step : ∀ {W W' : World}, (Below w.heap.size w W ∧ Blk W w.heap.size 24 #[.int .i64 5, .string (str key), .string (str val), .int .u64 (t : Int), .int .u64 (v : Int)]) → Below W.heap.size W W' → (Below w.heap.size w W' ∧ Blk W' w.heap.size 24 #[.int .i64 5, .string (str key), .string (str val), .int .u64 (t : Int), .int .u64 (v : Int)]) := fun {W W'} hW hb => ⟨hW.1.trans (hb.mono hW.1.size), hW.2.below hb hW.2.lt⟩
  have fhk : ∀ W, (Below w.heap.size w W ∧ Blk W w.heap.size 24 #[.int .i64 5, .string (str key), .string (str val), .int .u64 (t : Int), .int .u64 (v : Int)]) → Calls Try.prog 25 #[.int .i64 5] W fun e W' => e = .returned (.bool false) ∧ (Below w.heap.size w W' ∧ Blk W' w.heap.size 24 #[.int .i64 5, .string (str key), .string (str val), .int .u64 (t : Int), .int .u64 (v : Int)]) := fun W hW => (haskey_c 5 false rfl W).mono fun _ _ ⟨a, b⟩ => ⟨a, by rw [b]; exact hW⟩
  have fhv : ∀ W, (Below w.heap.size w W ∧ Blk W w.heap.size 24 #[.int .i64 5, .string (str key), .string (str val), .int .u64 (t : Int), .int .u64 (v : Int)]) → Calls Try.prog 27 #[.int .i64 5] W fun e W' => e = .returned (.bool false) ∧ (Below w.heap.size w W' ∧ Blk W' w.heap.size 24 #[.int .i64 5, .string (str key), .string (str val), .int .u64 (t : Int), .int .u64 (v : Int)]) := fun W hW => (hasvalue_c 5 false rfl W).mono fun _ _ ⟨a, b⟩ => ⟨a, by rw [b]; exact hW⟩
  have fhs : ∀ W, (Below w.heap.size w W ∧ Blk W w.heap.size 24 #[.int .i64 5, .string (str key), .string (str val), .int .u64 (t : Int), .int .u64 (v : Int)]) → Calls Try.prog 28 #[.int .i64 5] W fun e W' => e = .returned (.bool false) ∧ (Below w.heap.size w W' ∧ Blk W' w.heap.size 24 #[.int .i64 5, .string (str key), .string (str val), .int .u64 (t : Int), .int .u64 (v : Int)]) := fun W hW => (hasversion_c 5 false rfl W).mono fun _ _ ⟨a, b⟩ => ⟨a, by rw [b]; exact hW⟩
  have fk : ∀ W, (Below w.heap.size w W ∧ Blk W w.heap.size 24 #[.int .i64 5, .string (str key), .string (str val), .int .u64 (t : Int), .int .u64 (v : Int)]) → Calls Try.prog 24 #[.int .u64 5] W fun e W' => e = .returned (.string (str (enc 5))) ∧ (Below w.heap.size w W' ∧ Blk W' w.heap.size 24 #[.int .i64 5, .string (str key), .string (str val), .int .u64 (t : Int), .int .u64 (v : Int)]) := fun W hW => (Wirey.num_c 5 (by omega) W).mono fun _ _ ⟨a, b⟩ => ⟨a, step hW b⟩
  have f1 : ∀ W, (Below w.heap.size w W ∧ Blk W w.heap.size 24 #[.int .i64 5, .string (str key), .string (str val), .int .u64 (t : Int), .int .u64 (v : Int)]) → Calls Try.prog 26 #[.string (str key)] W fun e W' => e = .returned (.string (str (txt key))) ∧ (Below w.heap.size w W' ∧ Blk W' w.heap.size 24 #[.int .i64 5, .string (str key), .string (str val), .int .u64 (t : Int), .int .u64 (v : Int)]) := fun W hW => (Wirey.text_c key (by omega) W).mono fun _ _ ⟨a, b⟩ => ⟨a, step hW b⟩
  have f2 : ∀ W, (Below w.heap.size w W ∧ Blk W w.heap.size 24 #[.int .i64 5, .string (str key), .string (str val), .int .u64 (t : Int), .int .u64 (v : Int)]) → Calls Try.prog 26 #[.string (str val)] W fun e W' => e = .returned (.string (str (txt val))) ∧ (Below w.heap.size w W' ∧ Blk W' w.heap.size 24 #[.int .i64 5, .string (str key), .string (str val), .int .u64 (t : Int), .int .u64 (v : Int)]) := fun W hW => (Wirey.text_c val (by omega) W).mono fun _ _ ⟨a, b⟩ => ⟨a, step hW b⟩
  have f3 : ∀ W, (Below w.heap.size w W ∧ Blk W w.heap.size 24 #[.int .i64 5, .string (str key), .string (str val), .int .u64 (t : Int), .int .u64 (v : Int)]) → Calls Try.prog 24 #[.int .u64 (t : Int)] W fun e W' => e = .returned (.string (str (enc t))) ∧ (Below w.heap.size w W' ∧ Blk W' w.heap.size 24 #[.int .i64 5, .string (str key), .string (str val), .int .u64 (t : Int), .int .u64 (v : Int)]) := fun W hW => (Wirey.num_c t ht W).mono fun _ _ ⟨a, b⟩ => ⟨a, step hW b⟩
  have f4 : ∀ W, (Below w.heap.size w W ∧ Blk W w.heap.size 24 #[.int .i64 5, .string (str key), .string (str val), .int .u64 (t : Int), .int .u64 (v : Int)]) → Calls Try.prog 24 #[.int .u64 (v : Int)] W fun e W' => e = .returned (.string (str (enc v))) ∧ (Below w.heap.size w W' ∧ Blk W' w.heap.size 24 #[.int .i64 5, .string (str key), .string (str val), .int .u64 (t : Int), .int .u64 (v : Int)]) := fun W hW => (Wirey.num_c v hv W).mono fun _ _ ⟨a, b⟩ => ⟨a, step hW b⟩
  have dr : ∀ {W : World}, (Below w.heap.size w W ∧ Blk W w.heap.size 24 #[.int .i64 5, .string (str key), .string (str val), .int .u64 (t : Int), .int .u64 (v : Int)]) → (Below w.heap.size w W.drew ∧ Blk W.drew w.heap.size 24 #[.int .i64 5, .string (str key), .string (str val), .int .u64 (t : Int), .int .u64 (v : Int)]) := fun {W} hW => step hW ⟨rfl, rfl, rfl, Nat.le_refl _, fun _ _ => rfl⟩
  have h0 : (Below w.heap.size w (w.alloc (.cells #[.int .i64 5, .string (str key), .string (str val), .int .u64 (t : Int), .int .u64 (v : Int)] 24)) ∧ Blk (w.alloc (.cells #[.int .i64 5, .string (str key), .string (str val), .int .u64 (t : Int), .int .u64 (v : Int)] 24)) w.heap.size 24 #[.int .i64 5, .string (str key), .string (str val), .int .u64 (t : Int), .int .u64 (v : Int)]) := ⟨(Below.refl _ w).alloc (Nat.le_refl _) (.cells #[.int .i64 5, .string (str key), .string (str val), .int .u64 (t : Int), .int .u64 (v : Int)] 24), Blk.new w 24 #[.int .i64 5, .string (str key), .string (str val), .int .u64 (t : Int), .int .u64 (v : Int)]⟩
  clear l1 l2 l3 l5 l6 m1 m2
  go_enter Try.func10, Try.ntmps10
  go_upto_region 1 with (fail)
  generalize w.alloc (.cells #[.int .i64 5, .string (str key), .string (str val), .int .u64 (t : Int), .int .u64 (v : Int)] 24) = w1 at *
  have x0 := h0.2.cell 0
  have x1 := h0.2.cell 1
  have x2 := h0.2.cell 2
  have x3 := h0.2.cell 3
  have x4 := h0.2.cell 4
  simp only [List.getElem?_toArray, List.getElem?_cons_zero, List.getElem?_cons_succ] at x0 x1 x2 x3 x4
  go_wp2_with fail
  refine (fk _ h0).mono ?_
  rintro e u1 ⟨rfl, k1⟩
  clear x0 x1 x2 x3 x4 h0
  have x0 := k1.2.cell 0
  have x1 := k1.2.cell 1
  have x2 := k1.2.cell 2
  have x3 := k1.2.cell 3
  have x4 := k1.2.cell 4
  simp only [List.getElem?_toArray, List.getElem?_cons_zero, List.getElem?_cons_succ] at x0 x1 x2 x3 x4
  go_wp2_with fail
  refine (fhk _ k1).mono ?_
  rintro e u2 ⟨rfl, k2⟩
  clear x0 x1 x2 x3 x4 k1
  have x0 := k2.2.cell 0
  have x1 := k2.2.cell 1
  have x2 := k2.2.cell 2
  have x3 := k2.2.cell 3
  have x4 := k2.2.cell 4
  simp only [List.getElem?_toArray, List.getElem?_cons_zero, List.getElem?_cons_succ] at x0 x1 x2 x3 x4
  go_wp2_with fail
  refine (fhv _ k2).mono ?_
  rintro e u3 ⟨rfl, k3⟩
  clear x0 x1 x2 x3 x4 k2
  have x0 := k3.2.cell 0
  have x1 := k3.2.cell 1
  have x2 := k3.2.cell 2
  have x3 := k3.2.cell 3
  have x4 := k3.2.cell 4
  simp only [List.getElem?_toArray, List.getElem?_cons_zero, List.getElem?_cons_succ] at x0 x1 x2 x3 x4
  go_wp2_with fail
  refine (fhs _ k3).mono ?_
  rintro e u4 ⟨rfl, k4⟩
  clear x0 x1 x2 x3 x4 k3
  have x0 := k4.2.cell 0
  have x1 := k4.2.cell 1
  have x2 := k4.2.cell 2
  have x3 := k4.2.cell 3
  have x4 := k4.2.cell 4
  simp only [List.getElem?_toArray, List.getElem?_cons_zero, List.getElem?_cons_succ] at x0 x1 x2 x3 x4
  go_wp2_with fail
  go_ret
  exact ⟨rfl, k4.1⟩
set_option maxHeartbeats 4000000 in
set_option maxRecDepth 100000 in
theorem pput_c2 {t v : Nat} {key val : List UInt8} (hk : key.length ≤ 100000) (hl : val.length ≤ 100000) (ht : t < 18446744073709551616) (hv : v < 18446744073709551616) (w : World) :
    Calls Try.prog 10 #[.agg #[.int .i64 2, .string (str key), .string (str val), .int .u64 (t : Int), .int .u64 (v : Int)]] w fun e w' => e = .returned (.string (str (opB 2 key val t v))) ∧ Below w.heap.size w w' := by
  have hcat := str_cat
  have hsz := str_size
  have hr : opB 2 key val t v = enc 2 ++ (txt key ++ (txt val ++ enc t)) := by simp [opB]
  rw [hr]
  clear hr
  have l1 := enc_len (n := 2) (by omega)
  have l2 := enc_len (n := key.length) (by omega)
  have l3 := enc_len (n := val.length) (by omega)
  have l5 := enc_len (n := t) ht
  have l6 := enc_len (n := v) hv
  have m1 : (txt key).length ≤ 100010 := by unfold txt; rw [List.length_append]; omega
  have m2 : (txt val).length ≤ 100010 := by unfold txt; rw [List.length_append]; omega
  have c1 : ¬ (9223372036854775807 < (enc 2).length + (txt key).length) := by omega
  have c2 : ¬ (9223372036854775807 < (txt val).length + (enc t).length) := by omega
  have c3 : ¬ (9223372036854775807 < (enc 2 ++ txt key).length + (txt val ++ enc t).length) := by simp only [List.length_append]; omega
  have c4 : ¬ (9223372036854775807 < (enc 2).length + (txt key).length + ((txt val).length + (enc t).length)) := by omega
  have step : ∀ {W W' : World}, (Below w.heap.size w W ∧ Blk W w.heap.size 24 #[.int .i64 2, .string (str key), .string (str val), .int .u64 (t : Int), .int .u64 (v : Int)]) → Below W.heap.size W W' → (Below w.heap.size w W' ∧ Blk W' w.heap.size 24 #[.int .i64 2, .string (str key), .string (str val), .int .u64 (t : Int), .int .u64 (v : Int)]) := fun {W W'} hW hb => ⟨hW.1.trans (hb.mono hW.1.size), hW.2.below hb hW.2.lt⟩
  have fhk : ∀ W, (Below w.heap.size w W ∧ Blk W w.heap.size 24 #[.int .i64 2, .string (str key), .string (str val), .int .u64 (t : Int), .int .u64 (v : Int)]) → Calls Try.prog 25 #[.int .i64 2] W fun e W' => e = .returned (.bool true) ∧ (Below w.heap.size w W' ∧ Blk W' w.heap.size 24 #[.int .i64 2, .string (str key), .string (str val), .int .u64 (t : Int), .int .u64 (v : Int)]) := fun W hW => (haskey_c 2 true rfl W).mono fun _ _ ⟨a, b⟩ => ⟨a, by rw [b]; exact hW⟩
  have fhv : ∀ W, (Below w.heap.size w W ∧ Blk W w.heap.size 24 #[.int .i64 2, .string (str key), .string (str val), .int .u64 (t : Int), .int .u64 (v : Int)]) → Calls Try.prog 27 #[.int .i64 2] W fun e W' => e = .returned (.bool true) ∧ (Below w.heap.size w W' ∧ Blk W' w.heap.size 24 #[.int .i64 2, .string (str key), .string (str val), .int .u64 (t : Int), .int .u64 (v : Int)]) := fun W hW => (hasvalue_c 2 true rfl W).mono fun _ _ ⟨a, b⟩ => ⟨a, by rw [b]; exact hW⟩
  have fhs : ∀ W, (Below w.heap.size w W ∧ Blk W w.heap.size 24 #[.int .i64 2, .string (str key), .string (str val), .int .u64 (t : Int), .int .u64 (v : Int)]) → Calls Try.prog 28 #[.int .i64 2] W fun e W' => e = .returned (.bool false) ∧ (Below w.heap.size w W' ∧ Blk W' w.heap.size 24 #[.int .i64 2, .string (str key), .string (str val), .int .u64 (t : Int), .int .u64 (v : Int)]) := fun W hW => (hasversion_c 2 false rfl W).mono fun _ _ ⟨a, b⟩ => ⟨a, by rw [b]; exact hW⟩
  have fk : ∀ W, (Below w.heap.size w W ∧ Blk W w.heap.size 24 #[.int .i64 2, .string (str key), .string (str val), .int .u64 (t : Int), .int .u64 (v : Int)]) → Calls Try.prog 24 #[.int .u64 2] W fun e W' => e = .returned (.string (str (enc 2))) ∧ (Below w.heap.size w W' ∧ Blk W' w.heap.size 24 #[.int .i64 2, .string (str key), .string (str val), .int .u64 (t : Int), .int .u64 (v : Int)]) := fun W hW => (Wirey.num_c 2 (by omega) W).mono fun _ _ ⟨a, b⟩ => ⟨a, step hW b⟩
  have f1 : ∀ W, (Below w.heap.size w W ∧ Blk W w.heap.size 24 #[.int .i64 2, .string (str key), .string (str val), .int .u64 (t : Int), .int .u64 (v : Int)]) → Calls Try.prog 26 #[.string (str key)] W fun e W' => e = .returned (.string (str (txt key))) ∧ (Below w.heap.size w W' ∧ Blk W' w.heap.size 24 #[.int .i64 2, .string (str key), .string (str val), .int .u64 (t : Int), .int .u64 (v : Int)]) := fun W hW => (Wirey.text_c key (by omega) W).mono fun _ _ ⟨a, b⟩ => ⟨a, step hW b⟩
  have f2 : ∀ W, (Below w.heap.size w W ∧ Blk W w.heap.size 24 #[.int .i64 2, .string (str key), .string (str val), .int .u64 (t : Int), .int .u64 (v : Int)]) → Calls Try.prog 26 #[.string (str val)] W fun e W' => e = .returned (.string (str (txt val))) ∧ (Below w.heap.size w W' ∧ Blk W' w.heap.size 24 #[.int .i64 2, .string (str key), .string (str val), .int .u64 (t : Int), .int .u64 (v : Int)]) := fun W hW => (Wirey.text_c val (by omega) W).mono fun _ _ ⟨a, b⟩ => ⟨a, step hW b⟩
  have f3 : ∀ W, (Below w.heap.size w W ∧ Blk W w.heap.size 24 #[.int .i64 2, .string (str key), .string (str val), .int .u64 (t : Int), .int .u64 (v : Int)]) → Calls Try.prog 24 #[.int .u64 (t : Int)] W fun e W' => e = .returned (.string (str (enc t))) ∧ (Below w.heap.size w W' ∧ Blk W' w.heap.size 24 #[.int .i64 2, .string (str key), .string (str val), .int .u64 (t : Int), .int .u64 (v : Int)]) := fun W hW => (Wirey.num_c t ht W).mono fun _ _ ⟨a, b⟩ => ⟨a, step hW b⟩
  have f4 : ∀ W, (Below w.heap.size w W ∧ Blk W w.heap.size 24 #[.int .i64 2, .string (str key), .string (str val), .int .u64 (t : Int), .int .u64 (v : Int)]) → Calls Try.prog 24 #[.int .u64 (v : Int)] W fun e W' => e = .returned (.string (str (enc v))) ∧ (Below w.heap.size w W' ∧ Blk W' w.heap.size 24 #[.int .i64 2, .string (str key), .string (str val), .int .u64 (t : Int), .int .u64 (v : Int)]) := fun W hW => (Wirey.num_c v hv W).mono fun _ _ ⟨a, b⟩ => ⟨a, step hW b⟩
  have dr : ∀ {W : World}, (Below w.heap.size w W ∧ Blk W w.heap.size 24 #[.int .i64 2, .string (str key), .string (str val), .int .u64 (t : Int), .int .u64 (v : Int)]) → (Below w.heap.size w W.drew ∧ Blk W.drew w.heap.size 24 #[.int .i64 2, .string (str key), .string (str val), .int .u64 (t : Int), .int .u64 (v : Int)]) := fun {W} hW => step hW ⟨rfl, rfl, rfl, Nat.le_refl _, fun _ _ => rfl⟩
  have h0 : (Below w.heap.size w (w.alloc (.cells #[.int .i64 2, .string (str key), .string (str val), .int .u64 (t : Int), .int .u64 (v : Int)] 24)) ∧ Blk (w.alloc (.cells #[.int .i64 2, .string (str key), .string (str val), .int .u64 (t : Int), .int .u64 (v : Int)] 24)) w.heap.size 24 #[.int .i64 2, .string (str key), .string (str val), .int .u64 (t : Int), .int .u64 (v : Int)]) := ⟨(Below.refl _ w).alloc (Nat.le_refl _) (.cells #[.int .i64 2, .string (str key), .string (str val), .int .u64 (t : Int), .int .u64 (v : Int)] 24), Blk.new w 24 #[.int .i64 2, .string (str key), .string (str val), .int .u64 (t : Int), .int .u64 (v : Int)]⟩
  clear l1 l2 l3 l5 l6 m1 m2
  go_enter Try.func10, Try.ntmps10
  go_upto_region 1 with (fail)
  generalize w.alloc (.cells #[.int .i64 2, .string (str key), .string (str val), .int .u64 (t : Int), .int .u64 (v : Int)] 24) = w1 at *
  have x0 := h0.2.cell 0
  have x1 := h0.2.cell 1
  have x2 := h0.2.cell 2
  have x3 := h0.2.cell 3
  have x4 := h0.2.cell 4
  simp only [List.getElem?_toArray, List.getElem?_cons_zero, List.getElem?_cons_succ] at x0 x1 x2 x3 x4
  go_wp2_with fail
  refine (fk _ h0).mono ?_
  rintro e u1 ⟨rfl, k1⟩
  clear x0 x1 x2 x3 x4 h0
  have x0 := k1.2.cell 0
  have x1 := k1.2.cell 1
  have x2 := k1.2.cell 2
  have x3 := k1.2.cell 3
  have x4 := k1.2.cell 4
  simp only [List.getElem?_toArray, List.getElem?_cons_zero, List.getElem?_cons_succ] at x0 x1 x2 x3 x4
  go_wp2_with fail
  refine (fhk _ k1).mono ?_
  rintro e u2 ⟨rfl, k2⟩
  clear x0 x1 x2 x3 x4 k1
  have x0 := k2.2.cell 0
  have x1 := k2.2.cell 1
  have x2 := k2.2.cell 2
  have x3 := k2.2.cell 3
  have x4 := k2.2.cell 4
  simp only [List.getElem?_toArray, List.getElem?_cons_zero, List.getElem?_cons_succ] at x0 x1 x2 x3 x4
  go_wp2_with fail
  refine (f1 _ k2).mono ?_
  rintro e u3 ⟨rfl, k3⟩
  clear x0 x1 x2 x3 x4 k2
  have x0 := k3.2.cell 0
  have x1 := k3.2.cell 1
  have x2 := k3.2.cell 2
  have x3 := k3.2.cell 3
  have x4 := k3.2.cell 4
  simp only [List.getElem?_toArray, List.getElem?_cons_zero, List.getElem?_cons_succ] at x0 x1 x2 x3 x4
  go_wp2_with fail
  refine (fhv _ k3).mono ?_
  rintro e u4 ⟨rfl, k4⟩
  clear x0 x1 x2 x3 x4 k3
  have x0 := k4.2.cell 0
  have x1 := k4.2.cell 1
  have x2 := k4.2.cell 2
  have x3 := k4.2.cell 3
  have x4 := k4.2.cell 4
  simp only [List.getElem?_toArray, List.getElem?_cons_zero, List.getElem?_cons_succ] at x0 x1 x2 x3 x4
  go_upto_region 5 with (fail)
  have h3 := dr k4
  clear x0 x1 x2 x3 x4
  have cs : ∀ {W : World}, (Below w.heap.size w W ∧ Blk W w.heap.size 24 #[.int .i64 2, .string (str key), .string (str val), .int .u64 (t : Int), .int .u64 (v : Int)]) → (fun W => W.cell? ⟨w.heap.size, 2, none⟩ = some (.string (str val)) ∧ W.cell? ⟨w.heap.size, 3, none⟩ = some (.int .u64 (t : Int)) ∧ (Below w.heap.size w W ∧ Blk W w.heap.size 24 #[.int .i64 2, .string (str key), .string (str val), .int .u64 (t : Int), .int .u64 (v : Int)])) W := fun {W} hW => ⟨hW.2.cell 2, hW.2.cell 3, hW⟩
  have h4 := cs h3
  dsimp only at h4
  refine region_only 10 #[false, false, false, false, false, false, false, false, false, false] (S := (fun W => W.cell? ⟨w.heap.size, 2, none⟩ = some (.string (str val)) ∧ W.cell? ⟨w.heap.size, 3, none⟩ = some (.int .u64 (t : Int)) ∧ (Below w.heap.size w W ∧ Blk W w.heap.size 24 #[.int .i64 2, .string (str key), .string (str val), .int .u64 (t : Int), .int .u64 (v : Int)]))) rfl rfl (by kernel_rfl) h4 (fun hSw => ?_)
  refine take_at 0 19 (fuel := 9) ?_ rfl rfl (by kernel_rfl) (by kernel_rfl) (by kernel_rfl) (Or.inl ⟨by rfl, ?_⟩) hSw ?_
  rotate_left
  · intro wx hSx
    (try dsimp only at hSx)
    go_split_ands
    go_simp
    (try with_reducible rfl)
  simp only [List.setIfInBounds_toArray, List.set_cons_zero, List.set_cons_succ]
  refine take_at 1 20 (fuel := 8) ?_ rfl rfl (by kernel_rfl) (by kernel_rfl) (by kernel_rfl) (Or.inl ⟨by rfl, ?_⟩) hSw ?_
  rotate_left
  · intro wx hSx
    (try dsimp only at hSx)
    go_split_ands
    go_simp
    (try with_reducible rfl)
  simp only [List.setIfInBounds_toArray, List.set_cons_zero, List.set_cons_succ]
  refine take_at 2 21 (fuel := 7) ?_ rfl rfl (by kernel_rfl) (by kernel_rfl) (by kernel_rfl) (Or.inl ⟨by rfl, ?_⟩) hSw ?_
  rotate_left
  · intro wx hSx
    (try dsimp only at hSx)
    go_split_ands
    go_simp
    (try with_reducible rfl)
  simp only [List.setIfInBounds_toArray, List.set_cons_zero, List.set_cons_succ]
  refine take_at 4 23 (fuel := 6) ?_ rfl rfl (by kernel_rfl) (by kernel_rfl) (by kernel_rfl) (Or.inl ⟨by rfl, ?_⟩) hSw ?_
  rotate_left
  · intro wx hSx
    (try dsimp only at hSx)
    go_split_ands
    go_simp
    (try with_reducible rfl)
  simp only [List.setIfInBounds_toArray, List.set_cons_zero, List.set_cons_succ]
  refine take_at 5 24 (fuel := 5) ?_ rfl rfl (by kernel_rfl) (by kernel_rfl) (by kernel_rfl) (Or.inl ⟨by rfl, ?_⟩) hSw ?_
  rotate_left
  · intro wx hSx
    (try dsimp only at hSx)
    go_split_ands
    go_simp
    (try with_reducible rfl)
  simp only [List.setIfInBounds_toArray, List.set_cons_zero, List.set_cons_succ]
  refine wpAnyH_ready (fuel := 4) (rs := [3]) (by kernel_rfl) (by simp) (AllReadyH.cons rfl (fun K hK => ?_) AllReadyH.nil)
  go_simp
  refine Calls.mono (f2 _ hSw.2.2) ?_
  rintro e wv ⟨rfl, hwv⟩
  refine hK.out _ _ (cs hwv) (fun hSw => ?_)
  clear hK K
  simp only [List.setIfInBounds_toArray, List.set_cons_zero, List.set_cons_succ]
  refine wpAnyH_ready (fuel := 3) (rs := [6]) (by kernel_rfl) (by simp) (AllReadyH.cons rfl (fun K hK => ?_) AllReadyH.nil)
  go_simp
  refine Calls.mono (f3 _ hSw.2.2) ?_
  rintro e wv ⟨rfl, hwv⟩
  refine hK.out _ _ (cs hwv) (fun hSw => ?_)
  clear hK K
  simp only [List.setIfInBounds_toArray, List.set_cons_zero, List.set_cons_succ]
  refine take_at 7 26 (fuel := 2) ?_ rfl rfl (by kernel_rfl) (by kernel_rfl) (by kernel_rfl) (Or.inl ⟨by rfl, ?_⟩) hSw ?_
  rotate_left
  · intro wx hSx
    (try dsimp only at hSx)
    go_split_ands
    go_simp
    (try with_reducible rfl)
  simp only [List.setIfInBounds_toArray, List.set_cons_zero, List.set_cons_succ]
  refine take_at 8 27 (fuel := 1) ?_ rfl rfl (by kernel_rfl) (by kernel_rfl) (by kernel_rfl) (Or.inl ⟨by rfl, ?_⟩) hSw ?_
  rotate_left
  · intro wx hSx
    (try dsimp only at hSx)
    go_split_ands
    go_simp
    (try with_reducible rfl)
  simp only [List.setIfInBounds_toArray, List.set_cons_zero, List.set_cons_succ]
  refine take_at 9 3 (fuel := 0) ?_ rfl rfl (by kernel_rfl) (by kernel_rfl) (by kernel_rfl) (Or.inl ⟨by rfl, ?_⟩) hSw ?_
  rotate_left
  · intro wx hSx
    (try dsimp only at hSx)
    go_split_ands
    go_simp
    (try with_reducible rfl)
  simp only [List.setIfInBounds_toArray, List.set_cons_zero, List.set_cons_succ]
  refine wpAnyH_done (by kernel_rfl) ⟨rfl, ?_⟩ 0
  have h5 := hSw.2.2
  clear hSw h4 h3 k4 cs
  have x0 := h5.2.cell 0
  have x1 := h5.2.cell 1
  have x2 := h5.2.cell 2
  have x3 := h5.2.cell 3
  have x4 := h5.2.cell 4
  simp only [List.getElem?_toArray, List.getElem?_cons_zero, List.getElem?_cons_succ] at x0 x1 x2 x3 x4
  go_wp2_with fail
  refine (fhs _ h5).mono ?_
  rintro e u5 ⟨rfl, k5⟩
  clear x0 x1 x2 x3 x4 h5
  have x0 := k5.2.cell 0
  have x1 := k5.2.cell 1
  have x2 := k5.2.cell 2
  have x3 := k5.2.cell 3
  have x4 := k5.2.cell 4
  simp only [List.getElem?_toArray, List.getElem?_cons_zero, List.getElem?_cons_succ] at x0 x1 x2 x3 x4
  go_wp2_with fail
  go_ret
  exact ⟨rfl, k5.1⟩
set_option maxHeartbeats 4000000 in
set_option maxRecDepth 100000 in
theorem pput_c4 {t v : Nat} {key val : List UInt8} (hk : key.length ≤ 100000) (hl : val.length ≤ 100000) (ht : t < 18446744073709551616) (hv : v < 18446744073709551616) (w : World) :
    Calls Try.prog 10 #[.agg #[.int .i64 4, .string (str key), .string (str val), .int .u64 (t : Int), .int .u64 (v : Int)]] w fun e w' => e = .returned (.string (str (opB 4 key val t v))) ∧ Below w.heap.size w w' := by
  have hcat := str_cat
  have hsz := str_size
  have hr : opB 4 key val t v = enc 4 ++ (txt key ++ (txt val ++ (enc t ++ enc v))) := by simp [opB]
  rw [hr]
  clear hr
  have l1 := enc_len (n := 4) (by omega)
  have l2 := enc_len (n := key.length) (by omega)
  have l3 := enc_len (n := val.length) (by omega)
  have l5 := enc_len (n := t) ht
  have l6 := enc_len (n := v) hv
  have m1 : (txt key).length ≤ 100010 := by unfold txt; rw [List.length_append]; omega
  have m2 : (txt val).length ≤ 100010 := by unfold txt; rw [List.length_append]; omega
  have c1 : ¬ (9223372036854775807 < (enc 4).length + (txt key).length) := by omega
  have c2 : ¬ (9223372036854775807 < (txt val).length + (enc t).length) := by omega
  have c3 : ¬ (9223372036854775807 < (enc 4 ++ txt key).length + (txt val ++ enc t).length) := by simp only [List.length_append]; omega
  have c4 : ¬ (9223372036854775807 < (enc 4).length + (txt key).length + ((txt val).length + (enc t).length)) := by omega
  have c5 : ¬ (9223372036854775807 < (enc 4 ++ txt key ++ (txt val ++ enc t)).length + (enc v).length) := by simp only [List.length_append]; omega
  have c6 : ¬ (9223372036854775807 < (enc 4).length + (txt key).length + ((txt val).length + (enc t).length) + (enc v).length) := by omega
  have step : ∀ {W W' : World}, (Below w.heap.size w W ∧ Blk W w.heap.size 24 #[.int .i64 4, .string (str key), .string (str val), .int .u64 (t : Int), .int .u64 (v : Int)]) → Below W.heap.size W W' → (Below w.heap.size w W' ∧ Blk W' w.heap.size 24 #[.int .i64 4, .string (str key), .string (str val), .int .u64 (t : Int), .int .u64 (v : Int)]) := fun {W W'} hW hb => ⟨hW.1.trans (hb.mono hW.1.size), hW.2.below hb hW.2.lt⟩
  have fhk : ∀ W, (Below w.heap.size w W ∧ Blk W w.heap.size 24 #[.int .i64 4, .string (str key), .string (str val), .int .u64 (t : Int), .int .u64 (v : Int)]) → Calls Try.prog 25 #[.int .i64 4] W fun e W' => e = .returned (.bool true) ∧ (Below w.heap.size w W' ∧ Blk W' w.heap.size 24 #[.int .i64 4, .string (str key), .string (str val), .int .u64 (t : Int), .int .u64 (v : Int)]) := fun W hW => (haskey_c 4 true rfl W).mono fun _ _ ⟨a, b⟩ => ⟨a, by rw [b]; exact hW⟩
  have fhv : ∀ W, (Below w.heap.size w W ∧ Blk W w.heap.size 24 #[.int .i64 4, .string (str key), .string (str val), .int .u64 (t : Int), .int .u64 (v : Int)]) → Calls Try.prog 27 #[.int .i64 4] W fun e W' => e = .returned (.bool true) ∧ (Below w.heap.size w W' ∧ Blk W' w.heap.size 24 #[.int .i64 4, .string (str key), .string (str val), .int .u64 (t : Int), .int .u64 (v : Int)]) := fun W hW => (hasvalue_c 4 true rfl W).mono fun _ _ ⟨a, b⟩ => ⟨a, by rw [b]; exact hW⟩
  have fhs : ∀ W, (Below w.heap.size w W ∧ Blk W w.heap.size 24 #[.int .i64 4, .string (str key), .string (str val), .int .u64 (t : Int), .int .u64 (v : Int)]) → Calls Try.prog 28 #[.int .i64 4] W fun e W' => e = .returned (.bool true) ∧ (Below w.heap.size w W' ∧ Blk W' w.heap.size 24 #[.int .i64 4, .string (str key), .string (str val), .int .u64 (t : Int), .int .u64 (v : Int)]) := fun W hW => (hasversion_c 4 true rfl W).mono fun _ _ ⟨a, b⟩ => ⟨a, by rw [b]; exact hW⟩
  have fk : ∀ W, (Below w.heap.size w W ∧ Blk W w.heap.size 24 #[.int .i64 4, .string (str key), .string (str val), .int .u64 (t : Int), .int .u64 (v : Int)]) → Calls Try.prog 24 #[.int .u64 4] W fun e W' => e = .returned (.string (str (enc 4))) ∧ (Below w.heap.size w W' ∧ Blk W' w.heap.size 24 #[.int .i64 4, .string (str key), .string (str val), .int .u64 (t : Int), .int .u64 (v : Int)]) := fun W hW => (Wirey.num_c 4 (by omega) W).mono fun _ _ ⟨a, b⟩ => ⟨a, step hW b⟩
  have f1 : ∀ W, (Below w.heap.size w W ∧ Blk W w.heap.size 24 #[.int .i64 4, .string (str key), .string (str val), .int .u64 (t : Int), .int .u64 (v : Int)]) → Calls Try.prog 26 #[.string (str key)] W fun e W' => e = .returned (.string (str (txt key))) ∧ (Below w.heap.size w W' ∧ Blk W' w.heap.size 24 #[.int .i64 4, .string (str key), .string (str val), .int .u64 (t : Int), .int .u64 (v : Int)]) := fun W hW => (Wirey.text_c key (by omega) W).mono fun _ _ ⟨a, b⟩ => ⟨a, step hW b⟩
  have f2 : ∀ W, (Below w.heap.size w W ∧ Blk W w.heap.size 24 #[.int .i64 4, .string (str key), .string (str val), .int .u64 (t : Int), .int .u64 (v : Int)]) → Calls Try.prog 26 #[.string (str val)] W fun e W' => e = .returned (.string (str (txt val))) ∧ (Below w.heap.size w W' ∧ Blk W' w.heap.size 24 #[.int .i64 4, .string (str key), .string (str val), .int .u64 (t : Int), .int .u64 (v : Int)]) := fun W hW => (Wirey.text_c val (by omega) W).mono fun _ _ ⟨a, b⟩ => ⟨a, step hW b⟩
  have f3 : ∀ W, (Below w.heap.size w W ∧ Blk W w.heap.size 24 #[.int .i64 4, .string (str key), .string (str val), .int .u64 (t : Int), .int .u64 (v : Int)]) → Calls Try.prog 24 #[.int .u64 (t : Int)] W fun e W' => e = .returned (.string (str (enc t))) ∧ (Below w.heap.size w W' ∧ Blk W' w.heap.size 24 #[.int .i64 4, .string (str key), .string (str val), .int .u64 (t : Int), .int .u64 (v : Int)]) := fun W hW => (Wirey.num_c t ht W).mono fun _ _ ⟨a, b⟩ => ⟨a, step hW b⟩
  have f4 : ∀ W, (Below w.heap.size w W ∧ Blk W w.heap.size 24 #[.int .i64 4, .string (str key), .string (str val), .int .u64 (t : Int), .int .u64 (v : Int)]) → Calls Try.prog 24 #[.int .u64 (v : Int)] W fun e W' => e = .returned (.string (str (enc v))) ∧ (Below w.heap.size w W' ∧ Blk W' w.heap.size 24 #[.int .i64 4, .string (str key), .string (str val), .int .u64 (t : Int), .int .u64 (v : Int)]) := fun W hW => (Wirey.num_c v hv W).mono fun _ _ ⟨a, b⟩ => ⟨a, step hW b⟩
  have dr : ∀ {W : World}, (Below w.heap.size w W ∧ Blk W w.heap.size 24 #[.int .i64 4, .string (str key), .string (str val), .int .u64 (t : Int), .int .u64 (v : Int)]) → (Below w.heap.size w W.drew ∧ Blk W.drew w.heap.size 24 #[.int .i64 4, .string (str key), .string (str val), .int .u64 (t : Int), .int .u64 (v : Int)]) := fun {W} hW => step hW ⟨rfl, rfl, rfl, Nat.le_refl _, fun _ _ => rfl⟩
  have h0 : (Below w.heap.size w (w.alloc (.cells #[.int .i64 4, .string (str key), .string (str val), .int .u64 (t : Int), .int .u64 (v : Int)] 24)) ∧ Blk (w.alloc (.cells #[.int .i64 4, .string (str key), .string (str val), .int .u64 (t : Int), .int .u64 (v : Int)] 24)) w.heap.size 24 #[.int .i64 4, .string (str key), .string (str val), .int .u64 (t : Int), .int .u64 (v : Int)]) := ⟨(Below.refl _ w).alloc (Nat.le_refl _) (.cells #[.int .i64 4, .string (str key), .string (str val), .int .u64 (t : Int), .int .u64 (v : Int)] 24), Blk.new w 24 #[.int .i64 4, .string (str key), .string (str val), .int .u64 (t : Int), .int .u64 (v : Int)]⟩
  clear l1 l2 l3 l5 l6 m1 m2
  go_enter Try.func10, Try.ntmps10
  go_upto_region 1 with (fail)
  generalize w.alloc (.cells #[.int .i64 4, .string (str key), .string (str val), .int .u64 (t : Int), .int .u64 (v : Int)] 24) = w1 at *
  have x0 := h0.2.cell 0
  have x1 := h0.2.cell 1
  have x2 := h0.2.cell 2
  have x3 := h0.2.cell 3
  have x4 := h0.2.cell 4
  simp only [List.getElem?_toArray, List.getElem?_cons_zero, List.getElem?_cons_succ] at x0 x1 x2 x3 x4
  go_wp2_with fail
  refine (fk _ h0).mono ?_
  rintro e u1 ⟨rfl, k1⟩
  clear x0 x1 x2 x3 x4 h0
  have x0 := k1.2.cell 0
  have x1 := k1.2.cell 1
  have x2 := k1.2.cell 2
  have x3 := k1.2.cell 3
  have x4 := k1.2.cell 4
  simp only [List.getElem?_toArray, List.getElem?_cons_zero, List.getElem?_cons_succ] at x0 x1 x2 x3 x4
  go_wp2_with fail
  refine (fhk _ k1).mono ?_
  rintro e u2 ⟨rfl, k2⟩
  clear x0 x1 x2 x3 x4 k1
  have x0 := k2.2.cell 0
  have x1 := k2.2.cell 1
  have x2 := k2.2.cell 2
  have x3 := k2.2.cell 3
  have x4 := k2.2.cell 4
  simp only [List.getElem?_toArray, List.getElem?_cons_zero, List.getElem?_cons_succ] at x0 x1 x2 x3 x4
  go_wp2_with fail
  refine (f1 _ k2).mono ?_
  rintro e u3 ⟨rfl, k3⟩
  clear x0 x1 x2 x3 x4 k2
  have x0 := k3.2.cell 0
  have x1 := k3.2.cell 1
  have x2 := k3.2.cell 2
  have x3 := k3.2.cell 3
  have x4 := k3.2.cell 4
  simp only [List.getElem?_toArray, List.getElem?_cons_zero, List.getElem?_cons_succ] at x0 x1 x2 x3 x4
  go_wp2_with fail
  refine (fhv _ k3).mono ?_
  rintro e u4 ⟨rfl, k4⟩
  clear x0 x1 x2 x3 x4 k3
  have x0 := k4.2.cell 0
  have x1 := k4.2.cell 1
  have x2 := k4.2.cell 2
  have x3 := k4.2.cell 3
  have x4 := k4.2.cell 4
  simp only [List.getElem?_toArray, List.getElem?_cons_zero, List.getElem?_cons_succ] at x0 x1 x2 x3 x4
  go_upto_region 5 with (fail)
  have h3 := dr k4
  clear x0 x1 x2 x3 x4
  have cs : ∀ {W : World}, (Below w.heap.size w W ∧ Blk W w.heap.size 24 #[.int .i64 4, .string (str key), .string (str val), .int .u64 (t : Int), .int .u64 (v : Int)]) → (fun W => W.cell? ⟨w.heap.size, 2, none⟩ = some (.string (str val)) ∧ W.cell? ⟨w.heap.size, 3, none⟩ = some (.int .u64 (t : Int)) ∧ (Below w.heap.size w W ∧ Blk W w.heap.size 24 #[.int .i64 4, .string (str key), .string (str val), .int .u64 (t : Int), .int .u64 (v : Int)])) W := fun {W} hW => ⟨hW.2.cell 2, hW.2.cell 3, hW⟩
  have h4 := cs h3
  dsimp only at h4
  refine region_only 10 #[false, false, false, false, false, false, false, false, false, false] (S := (fun W => W.cell? ⟨w.heap.size, 2, none⟩ = some (.string (str val)) ∧ W.cell? ⟨w.heap.size, 3, none⟩ = some (.int .u64 (t : Int)) ∧ (Below w.heap.size w W ∧ Blk W w.heap.size 24 #[.int .i64 4, .string (str key), .string (str val), .int .u64 (t : Int), .int .u64 (v : Int)]))) rfl rfl (by kernel_rfl) h4 (fun hSw => ?_)
  refine take_at 0 19 (fuel := 9) ?_ rfl rfl (by kernel_rfl) (by kernel_rfl) (by kernel_rfl) (Or.inl ⟨by rfl, ?_⟩) hSw ?_
  rotate_left
  · intro wx hSx
    (try dsimp only at hSx)
    go_split_ands
    go_simp
    (try with_reducible rfl)
  simp only [List.setIfInBounds_toArray, List.set_cons_zero, List.set_cons_succ]
  refine take_at 1 20 (fuel := 8) ?_ rfl rfl (by kernel_rfl) (by kernel_rfl) (by kernel_rfl) (Or.inl ⟨by rfl, ?_⟩) hSw ?_
  rotate_left
  · intro wx hSx
    (try dsimp only at hSx)
    go_split_ands
    go_simp
    (try with_reducible rfl)
  simp only [List.setIfInBounds_toArray, List.set_cons_zero, List.set_cons_succ]
  refine take_at 2 21 (fuel := 7) ?_ rfl rfl (by kernel_rfl) (by kernel_rfl) (by kernel_rfl) (Or.inl ⟨by rfl, ?_⟩) hSw ?_
  rotate_left
  · intro wx hSx
    (try dsimp only at hSx)
    go_split_ands
    go_simp
    (try with_reducible rfl)
  simp only [List.setIfInBounds_toArray, List.set_cons_zero, List.set_cons_succ]
  refine take_at 4 23 (fuel := 6) ?_ rfl rfl (by kernel_rfl) (by kernel_rfl) (by kernel_rfl) (Or.inl ⟨by rfl, ?_⟩) hSw ?_
  rotate_left
  · intro wx hSx
    (try dsimp only at hSx)
    go_split_ands
    go_simp
    (try with_reducible rfl)
  simp only [List.setIfInBounds_toArray, List.set_cons_zero, List.set_cons_succ]
  refine take_at 5 24 (fuel := 5) ?_ rfl rfl (by kernel_rfl) (by kernel_rfl) (by kernel_rfl) (Or.inl ⟨by rfl, ?_⟩) hSw ?_
  rotate_left
  · intro wx hSx
    (try dsimp only at hSx)
    go_split_ands
    go_simp
    (try with_reducible rfl)
  simp only [List.setIfInBounds_toArray, List.set_cons_zero, List.set_cons_succ]
  refine wpAnyH_ready (fuel := 4) (rs := [3]) (by kernel_rfl) (by simp) (AllReadyH.cons rfl (fun K hK => ?_) AllReadyH.nil)
  go_simp
  refine Calls.mono (f2 _ hSw.2.2) ?_
  rintro e wv ⟨rfl, hwv⟩
  refine hK.out _ _ (cs hwv) (fun hSw => ?_)
  clear hK K
  simp only [List.setIfInBounds_toArray, List.set_cons_zero, List.set_cons_succ]
  refine wpAnyH_ready (fuel := 3) (rs := [6]) (by kernel_rfl) (by simp) (AllReadyH.cons rfl (fun K hK => ?_) AllReadyH.nil)
  go_simp
  refine Calls.mono (f3 _ hSw.2.2) ?_
  rintro e wv ⟨rfl, hwv⟩
  refine hK.out _ _ (cs hwv) (fun hSw => ?_)
  clear hK K
  simp only [List.setIfInBounds_toArray, List.set_cons_zero, List.set_cons_succ]
  refine take_at 7 26 (fuel := 2) ?_ rfl rfl (by kernel_rfl) (by kernel_rfl) (by kernel_rfl) (Or.inl ⟨by rfl, ?_⟩) hSw ?_
  rotate_left
  · intro wx hSx
    (try dsimp only at hSx)
    go_split_ands
    go_simp
    (try with_reducible rfl)
  simp only [List.setIfInBounds_toArray, List.set_cons_zero, List.set_cons_succ]
  refine take_at 8 27 (fuel := 1) ?_ rfl rfl (by kernel_rfl) (by kernel_rfl) (by kernel_rfl) (Or.inl ⟨by rfl, ?_⟩) hSw ?_
  rotate_left
  · intro wx hSx
    (try dsimp only at hSx)
    go_split_ands
    go_simp
    (try with_reducible rfl)
  simp only [List.setIfInBounds_toArray, List.set_cons_zero, List.set_cons_succ]
  refine take_at 9 3 (fuel := 0) ?_ rfl rfl (by kernel_rfl) (by kernel_rfl) (by kernel_rfl) (Or.inl ⟨by rfl, ?_⟩) hSw ?_
  rotate_left
  · intro wx hSx
    (try dsimp only at hSx)
    go_split_ands
    go_simp
    (try with_reducible rfl)
  simp only [List.setIfInBounds_toArray, List.set_cons_zero, List.set_cons_succ]
  refine wpAnyH_done (by kernel_rfl) ⟨rfl, ?_⟩ 0
  have h5 := hSw.2.2
  clear hSw h4 h3 k4 cs
  have x0 := h5.2.cell 0
  have x1 := h5.2.cell 1
  have x2 := h5.2.cell 2
  have x3 := h5.2.cell 3
  have x4 := h5.2.cell 4
  simp only [List.getElem?_toArray, List.getElem?_cons_zero, List.getElem?_cons_succ] at x0 x1 x2 x3 x4
  go_wp2_with fail
  refine (fhs _ h5).mono ?_
  rintro e u5 ⟨rfl, k5⟩
  clear x0 x1 x2 x3 x4 h5
  have x0 := k5.2.cell 0
  have x1 := k5.2.cell 1
  have x2 := k5.2.cell 2
  have x3 := k5.2.cell 3
  have x4 := k5.2.cell 4
  simp only [List.getElem?_toArray, List.getElem?_cons_zero, List.getElem?_cons_succ] at x0 x1 x2 x3 x4
  go_wp2_with fail
  refine (f4 _ k5).mono ?_
  rintro e u6 ⟨rfl, k6⟩
  clear x0 x1 x2 x3 x4 k5
  have x0 := k6.2.cell 0
  have x1 := k6.2.cell 1
  have x2 := k6.2.cell 2
  have x3 := k6.2.cell 3
  have x4 := k6.2.cell 4
  simp only [List.getElem?_toArray, List.getElem?_cons_zero, List.getElem?_cons_succ] at x0 x1 x2 x3 x4
  go_wp2_with fail
  go_ret
  exact ⟨rfl, k6.1⟩
theorem pput_c {k : Int} {t v : Nat} {key val : List UInt8} (hkd : 1 ≤ k ∧ k ≤ 5) (hk : key.length ≤ 100000) (hl : val.length ≤ 100000) (ht : t < 18446744073709551616) (hv : v < 18446744073709551616) (w : World) :
    Calls Try.prog 10 #[.agg #[.int .i64 k, .string (str key), .string (str val), .int .u64 (t : Int), .int .u64 (v : Int)]] w fun e w' => e = .returned (.string (str (opB k key val t v))) ∧ Below w.heap.size w w' := by
  rcases (by omega : k = 1 ∨ k = 2 ∨ k = 3 ∨ k = 4 ∨ k = 5) with rfl | rfl | rfl | rfl | rfl
  · exact pput_c1 hk hl ht hv w
  · exact pput_c2 hk hl ht hv w
  · exact pput_c3 hk hl ht hv w
  · exact pput_c4 hk hl ht hv w
  · exact pput_c5 hk hl ht hv w
set_option maxHeartbeats 4000000 in
set_option maxRecDepth 100000 in
theorem pputRec_c {k : Int} {q n s m t v : Nat} {key val : List UInt8} (hkd : 1 ≤ k ∧ k ≤ 5) (hk : key.length ≤ 100000) (hl : val.length ≤ 100000) (hq : q < 18446744073709551616) (hn : n < 18446744073709551616) (hs : s < 18446744073709551616) (hm : m < 18446744073709551616) (ht : t < 18446744073709551616) (hv : v < 18446744073709551616) (w : World) :
    Calls Try.prog 18 #[.agg #[.int .u64 (q : Int), .int .u64 (n : Int), .int .u64 (s : Int), .int .u64 (m : Int), .int .i64 k, .string (str key), .string (str val), .int .u64 (t : Int), .int .u64 (v : Int)]] w fun e w' => e = .returned (.string (str (recB q n s m (opB k key val t v)))) ∧ Below w.heap.size w w' := by
  have hcat := str_cat
  have hsz := str_size
  have hr : recB q n s m (opB k key val t v) = enc q ++ (enc n ++ (enc s ++ (enc m ++ opB k key val t v))) := rfl
  rw [hr]
  clear hr
  have l1 := enc_len hq
  have l2 := enc_len hn
  have l3 := enc_len hs
  have l4 := enc_len hm
  have l5 := opB_len (k := k) (key := key) (val := val) (t := t) (v := v) (by omega) (by omega) hk hl ht hv
  have hp : ∀ W, Calls Try.prog 10 #[.agg #[.int .i64 k, .string (str key), .string (str val), .int .u64 (t : Int), .int .u64 (v : Int)]] W fun e W' => e = .returned (.string (str (opB k key val t v))) ∧ Below W.heap.size W W' := fun W => pput_c hkd hk hl ht hv W
  generalize opB k key val t v = ob at *
  have c1 : ¬ (9223372036854775807 < (enc q).length + (enc n).length) := by omega
  have c2 : ¬ (9223372036854775807 < (enc q).length + (enc n).length + (enc s).length) := by omega
  have c3 : ¬ (9223372036854775807 < (enc q).length + (enc n).length + (enc s).length + (enc m).length) := by omega
  have c4 : ¬ (9223372036854775807 < (enc q).length + (enc n).length + (enc s).length + (enc m).length + ob.length) := by omega
  have c5 : ¬ (9223372036854775807 < (enc q).length + ((enc n).length + (enc s).length)) := by omega
  have c6 : ¬ (9223372036854775807 < (enc q).length + ((enc n).length + ((enc s).length + (enc m).length))) := by omega
  have c7 : ¬ (9223372036854775807 < (enc q).length + ((enc n).length + ((enc s).length + ((enc m).length + ob.length)))) := by omega
  have d2 : ¬ (9223372036854775807 < (enc q ++ enc n).length + (enc s).length) := by simp only [List.length_append]; omega
  have d3 : ¬ (9223372036854775807 < (enc q ++ (enc n ++ enc s)).length + (enc m).length) := by simp only [List.length_append]; omega
  have d4 : ¬ (9223372036854775807 < (enc q ++ (enc n ++ (enc s ++ enc m))).length + ob.length) := by simp only [List.length_append]; omega
  have e3 : ¬ (9223372036854775807 < (enc q).length + ((enc n).length + (enc s).length) + (enc m).length) := by omega
  have e4 : ¬ (9223372036854775807 < (enc q).length + ((enc n).length + ((enc s).length + (enc m).length)) + ob.length) := by omega
  clear l1 l2 l3 l4 l5
  have step : ∀ {W W' : World}, (Below w.heap.size w W ∧ Blk W w.heap.size 35 #[.int .u64 (q : Int), .int .u64 (n : Int), .int .u64 (s : Int), .int .u64 (m : Int), .int .i64 k, .string (str key), .string (str val), .int .u64 (t : Int), .int .u64 (v : Int)]) → Below W.heap.size W W' → (Below w.heap.size w W' ∧ Blk W' w.heap.size 35 #[.int .u64 (q : Int), .int .u64 (n : Int), .int .u64 (s : Int), .int .u64 (m : Int), .int .i64 k, .string (str key), .string (str val), .int .u64 (t : Int), .int .u64 (v : Int)]) := fun {W W'} hW hb => ⟨hW.1.trans (hb.mono hW.1.size), hW.2.below hb hW.2.lt⟩
  have fq : ∀ W, (Below w.heap.size w W ∧ Blk W w.heap.size 35 #[.int .u64 (q : Int), .int .u64 (n : Int), .int .u64 (s : Int), .int .u64 (m : Int), .int .i64 k, .string (str key), .string (str val), .int .u64 (t : Int), .int .u64 (v : Int)]) → Calls Try.prog 24 #[.int .u64 (q : Int)] W fun e W' => e = .returned (.string (str (enc q))) ∧ (Below w.heap.size w W' ∧ Blk W' w.heap.size 35 #[.int .u64 (q : Int), .int .u64 (n : Int), .int .u64 (s : Int), .int .u64 (m : Int), .int .i64 k, .string (str key), .string (str val), .int .u64 (t : Int), .int .u64 (v : Int)]) := fun W hW => (Wirey.num_c q hq W).mono fun _ _ ⟨a, b⟩ => ⟨a, step hW b⟩
  have fn : ∀ W, (Below w.heap.size w W ∧ Blk W w.heap.size 35 #[.int .u64 (q : Int), .int .u64 (n : Int), .int .u64 (s : Int), .int .u64 (m : Int), .int .i64 k, .string (str key), .string (str val), .int .u64 (t : Int), .int .u64 (v : Int)]) → Calls Try.prog 24 #[.int .u64 (n : Int)] W fun e W' => e = .returned (.string (str (enc n))) ∧ (Below w.heap.size w W' ∧ Blk W' w.heap.size 35 #[.int .u64 (q : Int), .int .u64 (n : Int), .int .u64 (s : Int), .int .u64 (m : Int), .int .i64 k, .string (str key), .string (str val), .int .u64 (t : Int), .int .u64 (v : Int)]) := fun W hW => (Wirey.num_c n hn W).mono fun _ _ ⟨a, b⟩ => ⟨a, step hW b⟩
  have fs : ∀ W, (Below w.heap.size w W ∧ Blk W w.heap.size 35 #[.int .u64 (q : Int), .int .u64 (n : Int), .int .u64 (s : Int), .int .u64 (m : Int), .int .i64 k, .string (str key), .string (str val), .int .u64 (t : Int), .int .u64 (v : Int)]) → Calls Try.prog 24 #[.int .u64 (s : Int)] W fun e W' => e = .returned (.string (str (enc s))) ∧ (Below w.heap.size w W' ∧ Blk W' w.heap.size 35 #[.int .u64 (q : Int), .int .u64 (n : Int), .int .u64 (s : Int), .int .u64 (m : Int), .int .i64 k, .string (str key), .string (str val), .int .u64 (t : Int), .int .u64 (v : Int)]) := fun W hW => (Wirey.num_c s hs W).mono fun _ _ ⟨a, b⟩ => ⟨a, step hW b⟩
  have fm : ∀ W, (Below w.heap.size w W ∧ Blk W w.heap.size 35 #[.int .u64 (q : Int), .int .u64 (n : Int), .int .u64 (s : Int), .int .u64 (m : Int), .int .i64 k, .string (str key), .string (str val), .int .u64 (t : Int), .int .u64 (v : Int)]) → Calls Try.prog 24 #[.int .u64 (m : Int)] W fun e W' => e = .returned (.string (str (enc m))) ∧ (Below w.heap.size w W' ∧ Blk W' w.heap.size 35 #[.int .u64 (q : Int), .int .u64 (n : Int), .int .u64 (s : Int), .int .u64 (m : Int), .int .i64 k, .string (str key), .string (str val), .int .u64 (t : Int), .int .u64 (v : Int)]) := fun W hW => (Wirey.num_c m hm W).mono fun _ _ ⟨a, b⟩ => ⟨a, step hW b⟩
  have fo : ∀ W, (Below w.heap.size w W ∧ Blk W w.heap.size 35 #[.int .u64 (q : Int), .int .u64 (n : Int), .int .u64 (s : Int), .int .u64 (m : Int), .int .i64 k, .string (str key), .string (str val), .int .u64 (t : Int), .int .u64 (v : Int)]) → Calls Try.prog 10 #[.agg #[.int .i64 k, .string (str key), .string (str val), .int .u64 (t : Int), .int .u64 (v : Int)]] W fun e W' => e = .returned (.string (str ob)) ∧ (Below w.heap.size w W' ∧ Blk W' w.heap.size 35 #[.int .u64 (q : Int), .int .u64 (n : Int), .int .u64 (s : Int), .int .u64 (m : Int), .int .i64 k, .string (str key), .string (str val), .int .u64 (t : Int), .int .u64 (v : Int)]) := fun W hW => (hp W).mono fun _ _ ⟨a, b⟩ => ⟨a, step hW b⟩
  have cs : ∀ {W : World}, (Below w.heap.size w W ∧ Blk W w.heap.size 35 #[.int .u64 (q : Int), .int .u64 (n : Int), .int .u64 (s : Int), .int .u64 (m : Int), .int .i64 k, .string (str key), .string (str val), .int .u64 (t : Int), .int .u64 (v : Int)]) → (fun W => W.cell? ⟨w.heap.size, 0, none⟩ = some (.int .u64 (q : Int)) ∧ W.cell? ⟨w.heap.size, 1, none⟩ = some (.int .u64 (n : Int)) ∧ W.cell? ⟨w.heap.size, 2, none⟩ = some (.int .u64 (s : Int)) ∧ W.cell? ⟨w.heap.size, 3, none⟩ = some (.int .u64 (m : Int)) ∧ W.cell? ⟨w.heap.size, 4, none⟩ = some (.int .i64 k) ∧ W.cell? ⟨w.heap.size, 5, none⟩ = some (.string (str key)) ∧ W.cell? ⟨w.heap.size, 6, none⟩ = some (.string (str val)) ∧ W.cell? ⟨w.heap.size, 7, none⟩ = some (.int .u64 (t : Int)) ∧ W.cell? ⟨w.heap.size, 8, none⟩ = some (.int .u64 (v : Int)) ∧ (Below w.heap.size w W ∧ Blk W w.heap.size 35 #[.int .u64 (q : Int), .int .u64 (n : Int), .int .u64 (s : Int), .int .u64 (m : Int), .int .i64 k, .string (str key), .string (str val), .int .u64 (t : Int), .int .u64 (v : Int)])) W := fun {W} hW => ⟨hW.2.cell 0, hW.2.cell 1, hW.2.cell 2, hW.2.cell 3, hW.2.cell 4, hW.2.cell 5, hW.2.cell 6, hW.2.cell 7, hW.2.cell 8, hW⟩
  have h0 : (Below w.heap.size w (w.alloc (.cells #[.int .u64 (q : Int), .int .u64 (n : Int), .int .u64 (s : Int), .int .u64 (m : Int), .int .i64 k, .string (str key), .string (str val), .int .u64 (t : Int), .int .u64 (v : Int)] 35)).drew ∧ Blk (w.alloc (.cells #[.int .u64 (q : Int), .int .u64 (n : Int), .int .u64 (s : Int), .int .u64 (m : Int), .int .i64 k, .string (str key), .string (str val), .int .u64 (t : Int), .int .u64 (v : Int)] 35)).drew w.heap.size 35 #[.int .u64 (q : Int), .int .u64 (n : Int), .int .u64 (s : Int), .int .u64 (m : Int), .int .i64 k, .string (str key), .string (str val), .int .u64 (t : Int), .int .u64 (v : Int)]) := ⟨((Below.refl _ w).alloc (Nat.le_refl _) (.cells #[.int .u64 (q : Int), .int .u64 (n : Int), .int .u64 (s : Int), .int .u64 (m : Int), .int .i64 k, .string (str key), .string (str val), .int .u64 (t : Int), .int .u64 (v : Int)] 35)).drew, Blk.new w 35 #[.int .u64 (q : Int), .int .u64 (n : Int), .int .u64 (s : Int), .int .u64 (m : Int), .int .i64 k, .string (str key), .string (str val), .int .u64 (t : Int), .int .u64 (v : Int)]⟩
  have h1 := cs h0
  clear h0 step hp
  go_enter Try.func18, Try.ntmps18
  go_upto_region 1 with (fail)
  dsimp only at h1
  refine region_only 20 #[false, false, false, false, false, false, false, false, false, false, false, false, false, false, false, false, false, false, false, false] (S := (fun W => W.cell? ⟨w.heap.size, 0, none⟩ = some (.int .u64 (q : Int)) ∧ W.cell? ⟨w.heap.size, 1, none⟩ = some (.int .u64 (n : Int)) ∧ W.cell? ⟨w.heap.size, 2, none⟩ = some (.int .u64 (s : Int)) ∧ W.cell? ⟨w.heap.size, 3, none⟩ = some (.int .u64 (m : Int)) ∧ W.cell? ⟨w.heap.size, 4, none⟩ = some (.int .i64 k) ∧ W.cell? ⟨w.heap.size, 5, none⟩ = some (.string (str key)) ∧ W.cell? ⟨w.heap.size, 6, none⟩ = some (.string (str val)) ∧ W.cell? ⟨w.heap.size, 7, none⟩ = some (.int .u64 (t : Int)) ∧ W.cell? ⟨w.heap.size, 8, none⟩ = some (.int .u64 (v : Int)) ∧ (Below w.heap.size w W ∧ Blk W w.heap.size 35 #[.int .u64 (q : Int), .int .u64 (n : Int), .int .u64 (s : Int), .int .u64 (m : Int), .int .i64 k, .string (str key), .string (str val), .int .u64 (t : Int), .int .u64 (v : Int)]))) rfl rfl (by kernel_rfl) h1 (fun hSw => ?_)
  refine take_at 0 3 (fuel := 19) ?_ rfl rfl (by kernel_rfl) (by kernel_rfl) (by kernel_rfl) (Or.inl ⟨by rfl, ?_⟩) hSw ?_
  rotate_left
  · intro wx hSx
    (try dsimp only at hSx)
    go_split_ands
    go_simp
    (try with_reducible rfl)
  simp only [List.setIfInBounds_toArray, List.set_cons_zero, List.set_cons_succ]
  refine take_at 1 4 (fuel := 18) ?_ rfl rfl (by kernel_rfl) (by kernel_rfl) (by kernel_rfl) (Or.inl ⟨by rfl, ?_⟩) hSw ?_
  rotate_left
  · intro wx hSx
    (try dsimp only at hSx)
    go_split_ands
    go_simp
    (try with_reducible rfl)
  simp only [List.setIfInBounds_toArray, List.set_cons_zero, List.set_cons_succ]
  refine take_at 3 6 (fuel := 17) ?_ rfl rfl (by kernel_rfl) (by kernel_rfl) (by kernel_rfl) (Or.inl ⟨by rfl, ?_⟩) hSw ?_
  rotate_left
  · intro wx hSx
    (try dsimp only at hSx)
    go_split_ands
    go_simp
    (try with_reducible rfl)
  simp only [List.setIfInBounds_toArray, List.set_cons_zero, List.set_cons_succ]
  refine take_at 4 7 (fuel := 16) ?_ rfl rfl (by kernel_rfl) (by kernel_rfl) (by kernel_rfl) (Or.inl ⟨by rfl, ?_⟩) hSw ?_
  rotate_left
  · intro wx hSx
    (try dsimp only at hSx)
    go_split_ands
    go_simp
    (try with_reducible rfl)
  simp only [List.setIfInBounds_toArray, List.set_cons_zero, List.set_cons_succ]
  refine take_at 7 10 (fuel := 15) ?_ rfl rfl (by kernel_rfl) (by kernel_rfl) (by kernel_rfl) (Or.inl ⟨by rfl, ?_⟩) hSw ?_
  rotate_left
  · intro wx hSx
    (try dsimp only at hSx)
    go_split_ands
    go_simp
    (try with_reducible rfl)
  simp only [List.setIfInBounds_toArray, List.set_cons_zero, List.set_cons_succ]
  refine take_at 8 11 (fuel := 14) ?_ rfl rfl (by kernel_rfl) (by kernel_rfl) (by kernel_rfl) (Or.inl ⟨by rfl, ?_⟩) hSw ?_
  rotate_left
  · intro wx hSx
    (try dsimp only at hSx)
    go_split_ands
    go_simp
    (try with_reducible rfl)
  simp only [List.setIfInBounds_toArray, List.set_cons_zero, List.set_cons_succ]
  refine take_at 11 14 (fuel := 13) ?_ rfl rfl (by kernel_rfl) (by kernel_rfl) (by kernel_rfl) (Or.inl ⟨by rfl, ?_⟩) hSw ?_
  rotate_left
  · intro wx hSx
    (try dsimp only at hSx)
    go_split_ands
    go_simp
    (try with_reducible rfl)
  simp only [List.setIfInBounds_toArray, List.set_cons_zero, List.set_cons_succ]
  refine take_at 12 15 (fuel := 12) ?_ rfl rfl (by kernel_rfl) (by kernel_rfl) (by kernel_rfl) (Or.inl ⟨by rfl, ?_⟩) hSw ?_
  rotate_left
  · intro wx hSx
    (try dsimp only at hSx)
    go_split_ands
    go_simp
    (try with_reducible rfl)
  simp only [List.setIfInBounds_toArray, List.set_cons_zero, List.set_cons_succ]
  refine take_at 15 18 (fuel := 11) ?_ rfl rfl (by kernel_rfl) (by kernel_rfl) (by kernel_rfl) (Or.inl ⟨by rfl, ?_⟩) hSw ?_
  rotate_left
  · intro wx hSx
    (try dsimp only at hSx)
    go_split_ands
    go_simp
    (try with_reducible rfl)
  simp only [List.setIfInBounds_toArray, List.set_cons_zero, List.set_cons_succ]
  refine take_at 16 19 (fuel := 10) ?_ rfl rfl (by kernel_rfl) (by kernel_rfl) (by kernel_rfl) (Or.inl ⟨by rfl, ?_⟩) hSw ?_
  rotate_left
  · intro wx hSx
    (try dsimp only at hSx)
    go_split_ands
    go_simp
    (try with_reducible rfl)
  simp only [List.setIfInBounds_toArray, List.set_cons_zero, List.set_cons_succ]
  refine wpAnyH_ready (fuel := 9) (rs := [2]) (by kernel_rfl) (by simp) (AllReadyH.cons rfl (fun K hK => ?_) AllReadyH.nil)
  go_simp
  refine Calls.mono (fq _ hSw.2.2.2.2.2.2.2.2.2) ?_
  rintro e wv ⟨rfl, hwv⟩
  refine hK.out _ _ (cs hwv) (fun hSw => ?_)
  clear hK K
  simp only [List.setIfInBounds_toArray, List.set_cons_zero, List.set_cons_succ]
  refine wpAnyH_ready (fuel := 8) (rs := [5]) (by kernel_rfl) (by simp) (AllReadyH.cons rfl (fun K hK => ?_) AllReadyH.nil)
  go_simp
  refine Calls.mono (fn _ hSw.2.2.2.2.2.2.2.2.2) ?_
  rintro e wv ⟨rfl, hwv⟩
  refine hK.out _ _ (cs hwv) (fun hSw => ?_)
  clear hK K
  simp only [List.setIfInBounds_toArray, List.set_cons_zero, List.set_cons_succ]
  refine take_at 6 9 (fuel := 7) ?_ rfl rfl (by kernel_rfl) (by kernel_rfl) (by kernel_rfl) (Or.inl ⟨by rfl, ?_⟩) hSw ?_
  rotate_left
  · intro wx hSx
    (try dsimp only at hSx)
    go_split_ands
    go_simp
    (try with_reducible rfl)
  simp only [List.setIfInBounds_toArray, List.set_cons_zero, List.set_cons_succ]
  refine wpAnyH_ready (fuel := 6) (rs := [9]) (by kernel_rfl) (by simp) (AllReadyH.cons rfl (fun K hK => ?_) AllReadyH.nil)
  go_simp
  refine Calls.mono (fs _ hSw.2.2.2.2.2.2.2.2.2) ?_
  rintro e wv ⟨rfl, hwv⟩
  refine hK.out _ _ (cs hwv) (fun hSw => ?_)
  clear hK K
  simp only [List.setIfInBounds_toArray, List.set_cons_zero, List.set_cons_succ]
  refine take_at 10 13 (fuel := 5) ?_ rfl rfl (by kernel_rfl) (by kernel_rfl) (by kernel_rfl) (Or.inl ⟨by rfl, ?_⟩) hSw ?_
  rotate_left
  · intro wx hSx
    (try dsimp only at hSx)
    go_split_ands
    go_simp
    (try with_reducible rfl)
  simp only [List.setIfInBounds_toArray, List.set_cons_zero, List.set_cons_succ]
  refine wpAnyH_ready (fuel := 4) (rs := [13]) (by kernel_rfl) (by simp) (AllReadyH.cons rfl (fun K hK => ?_) AllReadyH.nil)
  go_simp
  refine Calls.mono (fm _ hSw.2.2.2.2.2.2.2.2.2) ?_
  rintro e wv ⟨rfl, hwv⟩
  refine hK.out _ _ (cs hwv) (fun hSw => ?_)
  clear hK K
  simp only [List.setIfInBounds_toArray, List.set_cons_zero, List.set_cons_succ]
  refine take_at 14 17 (fuel := 3) ?_ rfl rfl (by kernel_rfl) (by kernel_rfl) (by kernel_rfl) (Or.inl ⟨by rfl, ?_⟩) hSw ?_
  rotate_left
  · intro wx hSx
    (try dsimp only at hSx)
    go_split_ands
    go_simp
    (try with_reducible rfl)
  simp only [List.setIfInBounds_toArray, List.set_cons_zero, List.set_cons_succ]
  refine wpAnyH_ready (fuel := 2) (rs := [17]) (by kernel_rfl) (by simp) (AllReadyH.cons rfl (fun K hK => ?_) AllReadyH.nil)
  go_simp
  refine Calls.mono (fo _ hSw.2.2.2.2.2.2.2.2.2) ?_
  rintro e wv ⟨rfl, hwv⟩
  refine hK.out _ _ (cs hwv) (fun hSw => ?_)
  clear hK K
  simp only [List.setIfInBounds_toArray, List.set_cons_zero, List.set_cons_succ]
  refine take_at 18 21 (fuel := 1) ?_ rfl rfl (by kernel_rfl) (by kernel_rfl) (by kernel_rfl) (Or.inl ⟨by rfl, ?_⟩) hSw ?_
  rotate_left
  · intro wx hSx
    (try dsimp only at hSx)
    go_split_ands
    go_simp
    (try with_reducible rfl)
  simp only [List.setIfInBounds_toArray, List.set_cons_zero, List.set_cons_succ]
  refine take_at 19 2 (fuel := 0) ?_ rfl rfl (by kernel_rfl) (by kernel_rfl) (by kernel_rfl) (Or.inl ⟨by rfl, ?_⟩) hSw ?_
  rotate_left
  · intro wx hSx
    (try dsimp only at hSx)
    go_split_ands
    go_simp
    (try with_reducible rfl)
  simp only [List.setIfInBounds_toArray, List.set_cons_zero, List.set_cons_succ]
  refine wpAnyH_done (by kernel_rfl) ⟨rfl, ?_⟩ 0
  have hZ := hSw.2.2.2.2.2.2.2.2.2.1
  go_wp2_with fail
  go_ret
  exact ⟨rfl, hZ⟩
end Go.Proofs.Ytpjmkgomilnhnaa.Opy
