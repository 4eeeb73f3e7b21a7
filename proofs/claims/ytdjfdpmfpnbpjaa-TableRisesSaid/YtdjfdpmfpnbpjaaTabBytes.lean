/- Layer 11: the document's own table: a slice of entries; what each of its calls tells. No condition but bounds that the laws lay. -/
import Derived.Test.YtdjfdpmfpnbpjaaTabMem
import Derived.Test.YtdjfdpmfpnbpjaaTabGet
import Derived.Laws.Cover1
import Derived.BigQuiet
import Derived.Lib.Hide
namespace Go.Proofs.Ytdjfdpmfpnbpjaa.Taby
open Go.ChangeShapes Go.WideShapes Go.ChangeAt Go.RowKit
open Wirey (Blk Row str str_size str_list str_cat enc enc_len txt)
open Regy

/-! ### The bytes -/
def oneB (x : En) : List UInt8 := txt x.key ++ (txt x.val ++ (enc x.ver ++ enc x.fin))
def bodyB : List En → List UInt8
  | [] => []
  | x :: l => oneB x ++ bodyB l
def allB (l : List En) : List UInt8 := enc l.length ++ bodyB l
theorem bodyB_append : ∀ a b : List En, bodyB (a ++ b) = bodyB a ++ bodyB b
  | [], b => rfl
  | x :: a, b => by rw [List.cons_append, bodyB, bodyB, bodyB_append a b, List.append_assoc]
theorem bodyB_take {l : List En} {j : Nat} {x : En} (h : l[j]? = some x) : bodyB (l.take (j + 1)) = bodyB (l.take j) ++ oneB x := by
  rw [List.take_add_one, h, bodyB_append]; simp [bodyB]
theorem size_take {l : List En} {j : Nat} {x : En} (h : l[j]? = some x) : size (l.take (j + 1)) = size (l.take j) + (x.key.length + x.val.length) := by
  rw [List.take_add_one, h, size_append]; simp [size]
theorem oneB_len {x : En} (h : x.Ok) : (oneB x).length ≤ 5000 := by
  have h1 := h.key; have h2 := h.val
  have l1 := enc_len (n := x.key.length) (by omega); have l2 := enc_len (n := x.val.length) (by omega); have l3 := enc_len h.ver; have l4 := enc_len h.fin
  unfold oneB txt
  simp only [List.length_append]; omega
theorem bodyB_len : ∀ {l : List En}, (∀ x ∈ l, x.Ok) → (bodyB l).length ≤ 5000 * l.length
  | [], _ => by simp [bodyB]
  | x :: l, h => by
    have h1 := oneB_len (h x List.mem_cons_self)
    have h2 := bodyB_len (l := l) fun y hy => h y (List.mem_cons_of_mem _ hy)
    rw [bodyB, List.length_append, List.length_cons]; omega
theorem ok_take {l : List En} (h : ∀ x ∈ l, x.Ok) (j : Nat) : ∀ x ∈ l.take j, x.Ok := fun x hx => h x (List.mem_of_mem_take hx)
set_option maxHeartbeats 2000000 in
set_option maxRecDepth 100000 in
theorem rone_c {x : En} (hx : x.Ok) (w : World) :
    Calls Try.prog 42 #[.agg x.cs] w fun e w' => e = .returned (.string (str (oneB x))) ∧ Below w.heap.size w w' := by
  have hcat := str_cat
  have hsz := str_size
  have h1 := hx.key
  have h2 := hx.val
  have hr : oneB x = txt x.key ++ (txt x.val ++ (enc x.ver ++ enc x.fin)) := rfl
  rw [hr]
  clear hr
  have l1 := enc_len (n := x.key.length) (by omega)
  have l2 := enc_len (n := x.val.length) (by omega)
  have l3 := enc_len hx.ver
  have l4 := enc_len hx.fin
  have m1 : (txt x.key).length ≤ 100 := by unfold txt; rw [List.length_append]; omega
  have m2 : (txt x.val).length ≤ 5000 := by unfold txt; rw [List.length_append]; omega
  have c1 : ¬ (9223372036854775807 < (txt x.key).length + (txt x.val).length) := by omega
  have c2 : ¬ (9223372036854775807 < (txt x.key).length + (txt x.val).length + (enc x.ver).length) := by omega
  have c3 : ¬ (9223372036854775807 < (txt x.key).length + (txt x.val).length + (enc x.ver).length + (enc x.fin).length) := by omega
  have c5 : ¬ (9223372036854775807 < (txt x.key).length + ((txt x.val).length + (enc x.ver).length)) := by omega
  have c6 : ¬ (9223372036854775807 < (txt x.key).length + ((txt x.val).length + ((enc x.ver).length + (enc x.fin).length))) := by omega
  have d2 : ¬ (9223372036854775807 < ((txt x.key) ++ (txt x.val)).length + (enc x.ver).length) := by simp only [List.length_append]; omega
  have d3 : ¬ (9223372036854775807 < ((txt x.key) ++ ((txt x.val) ++ (enc x.ver))).length + (enc x.fin).length) := by simp only [List.length_append]; omega
  have e3 : ¬ (9223372036854775807 < (txt x.key).length + ((txt x.val).length + (enc x.ver).length) + (enc x.fin).length) := by omega
  clear l1 l2 l3 l4 m1 m2
  have step : ∀ {W W' : World}, (Below w.heap.size w W ∧ Blk W w.heap.size 32 #[.string (str x.key), .string (str x.val), .int .u64 (x.ver : Int), .int .u64 (x.fin : Int)]) → Below W.heap.size W W' → (Below w.heap.size w W' ∧ Blk W' w.heap.size 32 #[.string (str x.key), .string (str x.val), .int .u64 (x.ver : Int), .int .u64 (x.fin : Int)]) := fun {W W'} hW hb => ⟨hW.1.trans (hb.mono hW.1.size), hW.2.below hb hW.2.lt⟩
  have fa : ∀ W, (Below w.heap.size w W ∧ Blk W w.heap.size 32 #[.string (str x.key), .string (str x.val), .int .u64 (x.ver : Int), .int .u64 (x.fin : Int)]) → Calls Try.prog 53 #[.string (str x.key)] W fun e W' => e = .returned (.string (str (txt x.key))) ∧ (Below w.heap.size w W' ∧ Blk W' w.heap.size 32 #[.string (str x.key), .string (str x.val), .int .u64 (x.ver : Int), .int .u64 (x.fin : Int)]) := fun W hW => (Wirey.reftext_c x.key (by omega) W).mono fun _ _ ⟨a, b⟩ => ⟨a, step hW b⟩
  have fb : ∀ W, (Below w.heap.size w W ∧ Blk W w.heap.size 32 #[.string (str x.key), .string (str x.val), .int .u64 (x.ver : Int), .int .u64 (x.fin : Int)]) → Calls Try.prog 53 #[.string (str x.val)] W fun e W' => e = .returned (.string (str (txt x.val))) ∧ (Below w.heap.size w W' ∧ Blk W' w.heap.size 32 #[.string (str x.key), .string (str x.val), .int .u64 (x.ver : Int), .int .u64 (x.fin : Int)]) := fun W hW => (Wirey.reftext_c x.val (by omega) W).mono fun _ _ ⟨a, b⟩ => ⟨a, step hW b⟩
  have fc : ∀ W, (Below w.heap.size w W ∧ Blk W w.heap.size 32 #[.string (str x.key), .string (str x.val), .int .u64 (x.ver : Int), .int .u64 (x.fin : Int)]) → Calls Try.prog 41 #[.int .u64 (x.ver : Int)] W fun e W' => e = .returned (.string (str (enc x.ver))) ∧ (Below w.heap.size w W' ∧ Blk W' w.heap.size 32 #[.string (str x.key), .string (str x.val), .int .u64 (x.ver : Int), .int .u64 (x.fin : Int)]) := fun W hW => (Wirey.refnum_c x.ver hx.ver W).mono fun _ _ ⟨a, b⟩ => ⟨a, step hW b⟩
  have fd : ∀ W, (Below w.heap.size w W ∧ Blk W w.heap.size 32 #[.string (str x.key), .string (str x.val), .int .u64 (x.ver : Int), .int .u64 (x.fin : Int)]) → Calls Try.prog 41 #[.int .u64 (x.fin : Int)] W fun e W' => e = .returned (.string (str (enc x.fin))) ∧ (Below w.heap.size w W' ∧ Blk W' w.heap.size 32 #[.string (str x.key), .string (str x.val), .int .u64 (x.ver : Int), .int .u64 (x.fin : Int)]) := fun W hW => (Wirey.refnum_c x.fin hx.fin W).mono fun _ _ ⟨a, b⟩ => ⟨a, step hW b⟩
  have cs : ∀ {W : World}, (Below w.heap.size w W ∧ Blk W w.heap.size 32 #[.string (str x.key), .string (str x.val), .int .u64 (x.ver : Int), .int .u64 (x.fin : Int)]) → (fun W => W.cell? ⟨w.heap.size, 0, none⟩ = some (.string (str x.key)) ∧ W.cell? ⟨w.heap.size, 1, none⟩ = some (.string (str x.val)) ∧ W.cell? ⟨w.heap.size, 2, none⟩ = some (.int .u64 (x.ver : Int)) ∧ W.cell? ⟨w.heap.size, 3, none⟩ = some (.int .u64 (x.fin : Int)) ∧ (Below w.heap.size w W ∧ Blk W w.heap.size 32 #[.string (str x.key), .string (str x.val), .int .u64 (x.ver : Int), .int .u64 (x.fin : Int)])) W := fun {W} hW => ⟨hW.2.cell 0, hW.2.cell 1, hW.2.cell 2, hW.2.cell 3, hW⟩
  have h0 : (Below w.heap.size w (w.alloc (.cells #[.string (str x.key), .string (str x.val), .int .u64 (x.ver : Int), .int .u64 (x.fin : Int)] 32)).drew ∧ Blk (w.alloc (.cells #[.string (str x.key), .string (str x.val), .int .u64 (x.ver : Int), .int .u64 (x.fin : Int)] 32)).drew w.heap.size 32 #[.string (str x.key), .string (str x.val), .int .u64 (x.ver : Int), .int .u64 (x.fin : Int)]) := ⟨((Below.refl _ w).alloc (Nat.le_refl _) (.cells #[.string (str x.key), .string (str x.val), .int .u64 (x.ver : Int), .int .u64 (x.fin : Int)] 32)).drew, Blk.new w 32 #[.string (str x.key), .string (str x.val), .int .u64 (x.ver : Int), .int .u64 (x.fin : Int)]⟩
  have h9 := cs h0
  clear h0 step h1 h2
  go_enter Try.func42, Try.ntmps42
  go_upto_region 1 with (fail)
  dsimp only at h9
  refine region_only 16 #[false, false, false, false, false, false, false, false, false, false, false, false, false, false, false, false] (S := (fun W => W.cell? ⟨w.heap.size, 0, none⟩ = some (.string (str x.key)) ∧ W.cell? ⟨w.heap.size, 1, none⟩ = some (.string (str x.val)) ∧ W.cell? ⟨w.heap.size, 2, none⟩ = some (.int .u64 (x.ver : Int)) ∧ W.cell? ⟨w.heap.size, 3, none⟩ = some (.int .u64 (x.fin : Int)) ∧ (Below w.heap.size w W ∧ Blk W w.heap.size 32 #[.string (str x.key), .string (str x.val), .int .u64 (x.ver : Int), .int .u64 (x.fin : Int)]))) rfl rfl (by kernel_rfl) h9 (fun hSw => ?_)
  refine take_at 0 3 (fuel := 15) ?_ rfl rfl (by kernel_rfl) (by kernel_rfl) (by kernel_rfl) (Or.inl ⟨by rfl, ?_⟩) hSw ?_
  rotate_left
  · intro wx hSx
    (try dsimp only at hSx)
    go_split_ands
    go_simp
    (try with_reducible rfl)
  simp only [List.setIfInBounds_toArray, List.set_cons_zero, List.set_cons_succ]
  refine take_at 1 4 (fuel := 14) ?_ rfl rfl (by kernel_rfl) (by kernel_rfl) (by kernel_rfl) (Or.inl ⟨by rfl, ?_⟩) hSw ?_
  rotate_left
  · intro wx hSx
    (try dsimp only at hSx)
    go_split_ands
    go_simp
    (try with_reducible rfl)
  simp only [List.setIfInBounds_toArray, List.set_cons_zero, List.set_cons_succ]
  refine take_at 3 6 (fuel := 13) ?_ rfl rfl (by kernel_rfl) (by kernel_rfl) (by kernel_rfl) (Or.inl ⟨by rfl, ?_⟩) hSw ?_
  rotate_left
  · intro wx hSx
    (try dsimp only at hSx)
    go_split_ands
    go_simp
    (try with_reducible rfl)
  simp only [List.setIfInBounds_toArray, List.set_cons_zero, List.set_cons_succ]
  refine take_at 4 7 (fuel := 12) ?_ rfl rfl (by kernel_rfl) (by kernel_rfl) (by kernel_rfl) (Or.inl ⟨by rfl, ?_⟩) hSw ?_
  rotate_left
  · intro wx hSx
    (try dsimp only at hSx)
    go_split_ands
    go_simp
    (try with_reducible rfl)
  simp only [List.setIfInBounds_toArray, List.set_cons_zero, List.set_cons_succ]
  refine take_at 7 10 (fuel := 11) ?_ rfl rfl (by kernel_rfl) (by kernel_rfl) (by kernel_rfl) (Or.inl ⟨by rfl, ?_⟩) hSw ?_
  rotate_left
  · intro wx hSx
    (try dsimp only at hSx)
    go_split_ands
    go_simp
    (try with_reducible rfl)
  simp only [List.setIfInBounds_toArray, List.set_cons_zero, List.set_cons_succ]
  refine take_at 8 11 (fuel := 10) ?_ rfl rfl (by kernel_rfl) (by kernel_rfl) (by kernel_rfl) (Or.inl ⟨by rfl, ?_⟩) hSw ?_
  rotate_left
  · intro wx hSx
    (try dsimp only at hSx)
    go_split_ands
    go_simp
    (try with_reducible rfl)
  simp only [List.setIfInBounds_toArray, List.set_cons_zero, List.set_cons_succ]
  refine take_at 11 14 (fuel := 9) ?_ rfl rfl (by kernel_rfl) (by kernel_rfl) (by kernel_rfl) (Or.inl ⟨by rfl, ?_⟩) hSw ?_
  rotate_left
  · intro wx hSx
    (try dsimp only at hSx)
    go_split_ands
    go_simp
    (try with_reducible rfl)
  simp only [List.setIfInBounds_toArray, List.set_cons_zero, List.set_cons_succ]
  refine take_at 12 15 (fuel := 8) ?_ rfl rfl (by kernel_rfl) (by kernel_rfl) (by kernel_rfl) (Or.inl ⟨by rfl, ?_⟩) hSw ?_
  rotate_left
  · intro wx hSx
    (try dsimp only at hSx)
    go_split_ands
    go_simp
    (try with_reducible rfl)
  simp only [List.setIfInBounds_toArray, List.set_cons_zero, List.set_cons_succ]
  refine wpAnyH_ready (fuel := 7) (rs := [2]) (by kernel_rfl) (by simp) (AllReadyH.cons rfl (fun K hK => ?_) AllReadyH.nil)
  go_simp
  refine Calls.mono (fa _ hSw.2.2.2.2) ?_
  rintro e wv ⟨rfl, hwv⟩
  refine hK.out _ _ (cs hwv) (fun hSw => ?_)
  clear hK K
  simp only [List.setIfInBounds_toArray, List.set_cons_zero, List.set_cons_succ]
  refine wpAnyH_ready (fuel := 6) (rs := [5]) (by kernel_rfl) (by simp) (AllReadyH.cons rfl (fun K hK => ?_) AllReadyH.nil)
  go_simp
  refine Calls.mono (fb _ hSw.2.2.2.2) ?_
  rintro e wv ⟨rfl, hwv⟩
  refine hK.out _ _ (cs hwv) (fun hSw => ?_)
  clear hK K
  simp only [List.setIfInBounds_toArray, List.set_cons_zero, List.set_cons_succ]
  refine take_at 6 9 (fuel := 5) ?_ rfl rfl (by kernel_rfl) (by kernel_rfl) (by kernel_rfl) (Or.inl ⟨by rfl, ?_⟩) hSw ?_
  rotate_left
  · intro wx hSx
    (try dsimp only at hSx)
    go_split_ands
    go_simp
    (try with_reducible rfl)
  simp only [List.setIfInBounds_toArray, List.set_cons_zero, List.set_cons_succ]
  refine wpAnyH_ready (fuel := 4) (rs := [9]) (by kernel_rfl) (by simp) (AllReadyH.cons rfl (fun K hK => ?_) AllReadyH.nil)
  go_simp
  refine Calls.mono (fc _ hSw.2.2.2.2) ?_
  rintro e wv ⟨rfl, hwv⟩
  refine hK.out _ _ (cs hwv) (fun hSw => ?_)
  clear hK K
  simp only [List.setIfInBounds_toArray, List.set_cons_zero, List.set_cons_succ]
  refine take_at 10 13 (fuel := 3) ?_ rfl rfl (by kernel_rfl) (by kernel_rfl) (by kernel_rfl) (Or.inl ⟨by rfl, ?_⟩) hSw ?_
  rotate_left
  · intro wx hSx
    (try dsimp only at hSx)
    go_split_ands
    go_simp
    (try with_reducible rfl)
  simp only [List.setIfInBounds_toArray, List.set_cons_zero, List.set_cons_succ]
  refine wpAnyH_ready (fuel := 2) (rs := [13]) (by kernel_rfl) (by simp) (AllReadyH.cons rfl (fun K hK => ?_) AllReadyH.nil)
  go_simp
  refine Calls.mono (fd _ hSw.2.2.2.2) ?_
  rintro e wv ⟨rfl, hwv⟩
  refine hK.out _ _ (cs hwv) (fun hSw => ?_)
  clear hK K
  simp only [List.setIfInBounds_toArray, List.set_cons_zero, List.set_cons_succ]
  refine take_at 14 17 (fuel := 1) ?_ rfl rfl (by kernel_rfl) (by kernel_rfl) (by kernel_rfl) (Or.inl ⟨by rfl, ?_⟩) hSw ?_
  rotate_left
  · intro wx hSx
    (try dsimp only at hSx)
    go_split_ands
    go_simp
    (try with_reducible rfl)
  simp only [List.setIfInBounds_toArray, List.set_cons_zero, List.set_cons_succ]
  refine take_at 15 2 (fuel := 0) ?_ rfl rfl (by kernel_rfl) (by kernel_rfl) (by kernel_rfl) (Or.inl ⟨by rfl, ?_⟩) hSw ?_
  rotate_left
  · intro wx hSx
    (try dsimp only at hSx)
    go_split_ands
    go_simp
    (try with_reducible rfl)
  simp only [List.setIfInBounds_toArray, List.set_cons_zero, List.set_cons_succ]
  refine wpAnyH_done (by kernel_rfl) ⟨rfl, ?_⟩ 0
  have hZ := hSw.2.2.2.2.1
  go_wp2_with fail
  go_ret
  exact ⟨rfl, hZ⟩
set_option maxHeartbeats 2000000 in
set_option maxRecDepth 100000 in
theorem rbytes_c {l : List En} {v : Value} (hl : l.length ≤ 1000000) (hok : ∀ x ∈ l, x.Ok) (w : World) (h : Sl w 0 v l) :
    Calls Try.prog 43 #[v] w fun e w' => e = .returned (.int .i64 (size l : Int)) ∧ Below w.heap.size w w' := by
  have hsz := str_size
  obtain ⟨a, c, rfl⟩ := h.form
  go_enter Try.func43, Try.ntmps43
  go_wp2_with fail
  go_loopw [3, 4] (fun n i wr => ∃ j : Nat, j ≤ l.length ∧ i = .int .i64 j ∧ n = .int .i64 (size (l.take j) : Int) ∧ Below w.heap.size w wr) (fun n i _ => l.length - (intOf i).toNat)
  case atStart => exact ⟨0, by omega, rfl, rfl, Below.refl _ _⟩
  case round =>
    obtain ⟨j, hj, rfl, rfl, hb⟩ := hrel
    have hs := h.below hb
    by_cases h3 : j < l.length
    · obtain ⟨x, hx⟩ : ∃ x, l[j]? = some x := ⟨_, List.getElem?_eq_getElem h3⟩
      obtain ⟨g, rfl, -, hg, hcell⟩ := hs.at_ hx
      have hlt : (j : Int) < (l.length : Int) := by omega
      have hX := hok x (List.mem_of_getElem? hx)
      have k1 := hX.key
      have k2 := hX.val
      have k3 := size_le (ok_take hok j)
      rw [List.length_take] at k3
      have e2 := size_take hx
      have E2 := Lib.hid e2
      clear e2
      have hb2 := hb.drew
      obtain ⟨c0, c1, -, -⟩ := hcell wr.drew rfl
      clear hcell hs h hb
      generalize size (l.take j) = n at *
      have k4 : n + (x.key.length + x.val.length) ≤ 10000000000 := by omega
      clear k1 k2 k3
      skip
      go_upto_region 5 with (fail)
      refine region_only 16 #[false, false, false, false, false, false, false, false, false, false, false, false, false, false, false, false] (S := (fun W => W.cell? ⟨g, j * 4, none⟩ = some (.string (str x.key)) ∧ W.cell? ⟨g, j * 4 + 1, none⟩ = some (.string (str x.val)))) rfl rfl (by kernel_rfl) ⟨c0, c1⟩ (fun hSw => ?_)
      refine take_at 0 11 (fuel := 15) ?_ rfl rfl (by kernel_rfl) (by kernel_rfl) (by kernel_rfl) (Or.inl ⟨by rfl, ?_⟩) hSw ?_
      rotate_left
      · intro wx hSx
        (try dsimp only at hSx)
        go_split_ands
        go_simp
        (try with_reducible rfl)
      simp only [List.setIfInBounds_toArray, List.set_cons_zero, List.set_cons_succ]
      refine take_at 1 12 (fuel := 14) ?_ rfl rfl (by kernel_rfl) (by kernel_rfl) (by kernel_rfl) (Or.inl ⟨by rfl, ?_⟩) hSw ?_
      rotate_left
      · intro wx hSx
        (try dsimp only at hSx)
        go_split_ands
        go_simp
        (try with_reducible rfl)
      simp only [List.setIfInBounds_toArray, List.set_cons_zero, List.set_cons_succ]
      refine take_at 2 13 (fuel := 13) ?_ rfl rfl (by kernel_rfl) (by kernel_rfl) (by kernel_rfl) (Or.inl ⟨by rfl, ?_⟩) hSw ?_
      rotate_left
      · intro wx hSx
        (try dsimp only at hSx)
        go_split_ands
        go_simp
        (try with_reducible rfl)
      simp only [List.setIfInBounds_toArray, List.set_cons_zero, List.set_cons_succ]
      refine take_at 3 14 (fuel := 12) ?_ rfl rfl (by kernel_rfl) (by kernel_rfl) (by kernel_rfl) (Or.inl ⟨by rfl, ?_⟩) hSw ?_
      rotate_left
      · intro wx hSx
        (try dsimp only at hSx)
        go_split_ands
        go_simp
        (try with_reducible rfl)
      simp only [List.setIfInBounds_toArray, List.set_cons_zero, List.set_cons_succ]
      refine take_at 4 15 (fuel := 11) ?_ rfl rfl (by kernel_rfl) (by kernel_rfl) (by kernel_rfl) (Or.inl ⟨by rfl, ?_⟩) hSw ?_
      rotate_left
      · intro wx hSx
        (try dsimp only at hSx)
        go_split_ands
        go_simp
        (try with_reducible rfl)
      simp only [List.setIfInBounds_toArray, List.set_cons_zero, List.set_cons_succ]
      refine take_at 5 16 (fuel := 10) ?_ rfl rfl (by kernel_rfl) (by kernel_rfl) (by kernel_rfl) (Or.inl ⟨by rfl, ?_⟩) hSw ?_
      rotate_left
      · intro wx hSx
        (try dsimp only at hSx)
        go_split_ands
        go_simp
        (try with_reducible rfl)
      simp only [List.setIfInBounds_toArray, List.set_cons_zero, List.set_cons_succ]
      refine take_at 6 17 (fuel := 9) ?_ rfl rfl (by kernel_rfl) (by kernel_rfl) (by kernel_rfl) (Or.inl ⟨by rfl, ?_⟩) hSw ?_
      rotate_left
      · intro wx hSx
        (try dsimp only at hSx)
        go_split_ands
        go_simp
        (try with_reducible rfl)
      simp only [List.setIfInBounds_toArray, List.set_cons_zero, List.set_cons_succ]
      refine take_at 7 18 (fuel := 8) ?_ rfl rfl (by kernel_rfl) (by kernel_rfl) (by kernel_rfl) (Or.inl ⟨by rfl, ?_⟩) hSw ?_
      rotate_left
      · intro wx hSx
        (try dsimp only at hSx)
        go_split_ands
        go_simp
        (try with_reducible rfl)
      simp only [List.setIfInBounds_toArray, List.set_cons_zero, List.set_cons_succ]
      refine take_at 8 19 (fuel := 7) ?_ rfl rfl (by kernel_rfl) (by kernel_rfl) (by kernel_rfl) (Or.inl ⟨by rfl, ?_⟩) hSw ?_
      rotate_left
      · intro wx hSx
        (try dsimp only at hSx)
        go_split_ands
        go_simp
        (try with_reducible rfl)
      simp only [List.setIfInBounds_toArray, List.set_cons_zero, List.set_cons_succ]
      refine take_at 9 20 (fuel := 6) ?_ rfl rfl (by kernel_rfl) (by kernel_rfl) (by kernel_rfl) (Or.inl ⟨by rfl, ?_⟩) hSw ?_
      rotate_left
      · intro wx hSx
        (try dsimp only at hSx)
        go_split_ands
        go_simp
        (try with_reducible rfl)
      simp only [List.setIfInBounds_toArray, List.set_cons_zero, List.set_cons_succ]
      refine take_at 10 21 (fuel := 5) ?_ rfl rfl (by kernel_rfl) (by kernel_rfl) (by kernel_rfl) (Or.inl ⟨by rfl, ?_⟩) hSw ?_
      rotate_left
      · intro wx hSx
        (try dsimp only at hSx)
        go_split_ands
        go_simp
        (try with_reducible rfl)
      simp only [List.setIfInBounds_toArray, List.set_cons_zero, List.set_cons_succ]
      refine take_at 11 22 (fuel := 4) ?_ rfl rfl (by kernel_rfl) (by kernel_rfl) (by kernel_rfl) (Or.inl ⟨by rfl, ?_⟩) hSw ?_
      rotate_left
      · intro wx hSx
        (try dsimp only at hSx)
        go_split_ands
        go_simp
        (try with_reducible rfl)
      simp only [List.setIfInBounds_toArray, List.set_cons_zero, List.set_cons_succ]
      refine take_at 12 23 (fuel := 3) ?_ rfl rfl (by kernel_rfl) (by kernel_rfl) (by kernel_rfl) (Or.inl ⟨by rfl, ?_⟩) hSw ?_
      rotate_left
      · intro wx hSx
        (try dsimp only at hSx)
        go_split_ands
        go_simp
        (try with_reducible rfl)
      simp only [List.setIfInBounds_toArray, List.set_cons_zero, List.set_cons_succ]
      refine take_at 13 24 (fuel := 2) ?_ rfl rfl (by kernel_rfl) (by kernel_rfl) (by kernel_rfl) (Or.inl ⟨by rfl, ?_⟩) hSw ?_
      rotate_left
      · intro wx hSx
        (try dsimp only at hSx)
        go_split_ands
        go_simp
        (try with_reducible rfl)
      simp only [List.setIfInBounds_toArray, List.set_cons_zero, List.set_cons_succ]
      refine take_at 14 25 (fuel := 1) ?_ rfl rfl (by kernel_rfl) (by kernel_rfl) (by kernel_rfl) (Or.inl ⟨by rfl, ?_⟩) hSw ?_
      rotate_left
      · intro wx hSx
        (try dsimp only at hSx)
        go_split_ands
        go_simp
        (try with_reducible rfl)
      simp only [List.setIfInBounds_toArray, List.set_cons_zero, List.set_cons_succ]
      refine take_at 15 3 (fuel := 0) ?_ rfl rfl (by kernel_rfl) (by kernel_rfl) (by kernel_rfl) (Or.inl ⟨by rfl, ?_⟩) hSw ?_
      rotate_left
      · intro wx hSx
        (try dsimp only at hSx)
        go_split_ands
        go_simp
        (try with_reducible rfl)
      simp only [List.setIfInBounds_toArray, List.set_cons_zero, List.set_cons_succ]
      refine wpAnyH_done (by kernel_rfl) ⟨rfl, ?_⟩ 0
      clear hSw c0 c1
      generalize wr.drew = w2 at *
      go_wp2_with fail
      go_roundw
      case rel => exact ⟨j + 1, by omega, rfl, by rw [E2.out]; simp [IntKind.wrap_i64]; omega, hb2⟩
      case measure => simp [intOf]; omega
    · obtain rfl : j = l.length := by omega
      rw [List.take_length] at *
      generalize hN : size l = n at *
      have HN := Lib.hid hN
      clear hs h hok hN
      go_wp2_with fail
      go_ret
      exact ⟨by rw [HN.out]; rfl, hb⟩
set_option maxHeartbeats 2000000 in
set_option maxRecDepth 100000 in
theorem rputall_c {l : List En} {v : Value} (hl : l.length ≤ 1000000) (hok : ∀ x ∈ l, x.Ok) (w : World) (h : Sl w 0 v l) :
    Calls Try.prog 19 #[v] w fun e w' => e = .returned (.string (str (allB l))) ∧ Below w.heap.size w w' := by
  have hsz := str_size
  have hcat := str_cat
  obtain ⟨a, c, rfl⟩ := h.form
  have ew : IntKind.u64.wrap (l.length : Int) = (l.length : Int) := by rw [IntKind.wrap_u64]; omega
  go_enter Try.func19, Try.ntmps19
  go_wp2_with fail
  refine (Wirey.refnum_c l.length (by omega) _).mono ?_
  rintro e w1 ⟨rfl, hb1⟩
  have hel := enc_len (n := l.length) (by omega)
  go_wp2_with fail
  go_loopw [3, 4] (fun s i wr => ∃ j : Nat, j ≤ l.length ∧ i = .int .i64 j ∧ s = .string (str (enc l.length ++ bodyB (l.take j))) ∧ Below w.heap.size w wr) (fun s i _ => l.length - (intOf i).toNat)
  case atStart => exact ⟨0, by omega, rfl, by simp [bodyB], hb1⟩
  case round =>
    obtain ⟨j, hj, rfl, rfl, hb⟩ := hrel
    have hs := h.below hb
    by_cases h3 : j < l.length
    · obtain ⟨x, hx⟩ : ∃ x, l[j]? = some x := ⟨_, List.getElem?_eq_getElem h3⟩
      obtain ⟨g, rfl, -, hg, hcell⟩ := hs.at_ hx
      have hlt : (j : Int) < (l.length : Int) := by omega
      have hX := hok x (List.mem_of_getElem? hx)
      have k1 := oneB_len hX
      have k2 := bodyB_len (ok_take hok j)
      rw [List.length_take] at k2
      have e2 := bodyB_take hx
      have E2 := Lib.hid e2
      clear e2
      obtain ⟨c0, c1, c2, c3⟩ := hcell wr rfl
      clear hcell hs h
      generalize bodyB (l.take j) = n at *
      have k4 : ¬ (9223372036854775807 < (enc l.length ++ n).length + (oneB x).length) := by simp only [List.length_append]; omega
      have k5 : ¬ (9223372036854775807 < (enc l.length).length + n.length + (oneB x).length) := by omega
      clear k1 k2 hel
      go_wp2_with fail
      refine (rone_c hX _).mono ?_
      rintro e w3 ⟨rfl, hb3⟩
      have hb4 := hb.trans (hb3.mono hb.size)
      generalize oneB x = ox at *
      go_wp2_with fail
      go_roundw
      case rel => exact ⟨j + 1, by omega, rfl, by rw [E2.out], hb4⟩
      case measure => simp [intOf]; omega
    · obtain rfl : j = l.length := by omega
      rw [List.take_length] at *
      have ha : allB l = enc l.length ++ bodyB l := rfl
      have HA := Lib.hid ha
      generalize enc l.length ++ bodyB l = n at *
      clear hs h hok ha
      go_wp2_with fail
      go_ret
      exact ⟨by rw [HA.out]; rfl, hb⟩
end Go.Proofs.Ytdjfdpmfpnbpjaa.Taby
