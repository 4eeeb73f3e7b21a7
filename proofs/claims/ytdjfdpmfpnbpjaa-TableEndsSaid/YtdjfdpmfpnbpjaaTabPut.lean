/- Layer 11: the document's own table: a slice of entries; what each of its calls tells. No condition but bounds that the laws lay. -/
import Derived.Test.YtdjfdpmfpnbpjaaTabMem
import Derived.Test.YtdjfdpmfpnbpjaaTabGet
import Derived.Laws.Cover1
import Derived.BigQuiet
import Derived.Lib.Hide
namespace Go.Proofs.Ytdjfdpmfpnbpjaa.Taby
open Go.ChangeShapes Go.WideShapes Go.ChangeAt Go.RowKit
open Wirey (Blk Row str str_size str_list str_cat enc enc_len txt)
open Regy

/-- Put under way: what it was given, the entry in its own box, what it has laid so far. -/
structure Pt (w W : World) (x : En) (vin : Value) (l : List En) (o : Value) (D : List En) : Prop where
  bel : Below w.heap.size w W
  box : Blk W w.heap.size 32 x.cs
  src : Sl W 0 vin l
  out : Sl W (w.heap.size + 1) o D
  low : ∀ g, vin.ownBlock = some g → g < w.heap.size
section
variable {w W W' : World} {x y : En} {vin o o' : Value} {l D D' : List En}
theorem Pt.drew (h : Pt w W x vin l o D) : Pt w W.drew x vin l o D := ⟨h.bel.drew, h.box, h.src, h.out, h.low⟩
theorem Pt.cells (h : Pt w W x vin l o D) : W.cell? ⟨w.heap.size, 0, none⟩ = some (.string (str x.key)) ∧ W.cell? ⟨w.heap.size, 1, none⟩ = some (.string (str x.val)) ∧ W.cell? ⟨w.heap.size, 2, none⟩ = some (.int .u64 (x.ver : Int)) ∧ W.cell? ⟨w.heap.size, 3, none⟩ = some (.int .u64 (x.fin : Int)) :=
  ⟨h.box.cell 0, h.box.cell 1, h.box.cell 2, h.box.cell 3⟩
theorem Pt.grown (h : Pt w W x vin l o D) (b : Obj) (hg : (W.alloc b).grownBy W' o.ownBlock) (hn : Sl W' (w.heap.size + 1) o' D') : Pt w W' x vin l o' D' := by
  have hs := h.bel.size
  have hlt := h.box.lt
  have hb : ∀ k, k < W.heap.size → some k ≠ o.ownBlock → W'.heap[k]? = W.heap[k]? := fun k hk hne => (hg.block k (by simp; omega) hne).trans (Below.heap_alloc W b k hk)
  have ho := h.out.lt
  exact ⟨(h.bel.alloc hs b).trans ⟨hg.os, hg.tape, hg.output, hg.size, fun k hk => hg.block k (by simp; omega) (fun e => by have := (ho k e.symm).1; omega)⟩,
    (hb _ hlt (fun e => by have := (ho _ e.symm).1; omega)).trans h.box,
    h.src.stay fun k hk => hb k (by have := h.low k hk; omega) (fun e => by have := (ho k e.symm).1; have := h.low k hk; omega), hn, h.low⟩
end
set_option maxHeartbeats 2000000 in
set_option maxRecDepth 100000 in
theorem rput_c {l : List En} {v : Value} {x : En} (hl : l.length ≤ 1000000) (hr : Rise l) (w : World) (h : Sl w 0 v l) :
    Calls Try.prog 20 #[v, .agg x.cs] w fun e w' => ∃ v', e = .returned v' ∧ Sl w' w.heap.size v' (ins x l) ∧ Below w.heap.size w w' := by
  have htl := Wirey.toList_str
  obtain ⟨a, c, rfl⟩ := h.form
  have hins := put_ins x l [] hr
  rw [List.nil_append] at hins
  have HINS := Lib.hid hins
  clear hins hr
  obtain ⟨i0, hi0, hz0, hz1, hz2⟩ : ∃ i0, Try.prog.info? 32 = some i0 ∧ i0.zero = some (.agg #[.string ⟨#[]⟩, .string ⟨#[]⟩, .int .u64 0, .int .u64 0]) ∧ i0.size = 4 ∧ i0.bytes = 48 := by
    have h := entry_info
    cases hh : Try.prog.info? 32 with
    | none => rw [hh] at h; cases h
    | some i => rw [hh] at h; injection h with h; injection h with h1 h2; injection h2 with h2 h3; exact ⟨i, rfl, h1, h2, h3⟩
  have hP : Pt w ((w.alloc (.cells #[.string (str x.key), .string (str x.val), .int .u64 (x.ver : Int), .int .u64 (x.fin : Int)] 32)).alloc (.cells #[] 32)) x (.slice a l.length c) l (.slice (some ⟨w.heap.size + 1, 0, none⟩) 0 0) [] := by
    have s1 : (w.alloc (.cells #[.string (str x.key), .string (str x.val), .int .u64 (x.ver : Int), .int .u64 (x.fin : Int)] 32)).heap.size = w.heap.size + 1 := by simp
    refine ⟨((Below.refl _ w).alloc (Nat.le_refl _) _).alloc (by rw [s1]; omega) _, (Blk.new w 32 #[.string (str x.key), .string (str x.val), .int .u64 (x.ver : Int), .int .u64 (x.fin : Int)]).alloc _, (h.alloc _).alloc _, ?_, fun g hg => (h.lt g hg).2⟩
    have := Sl.empty (w.alloc (.cells #[.string (str x.key), .string (str x.val), .int .u64 (x.ver : Int), .int .u64 (x.fin : Int)] 32)) (w.heap.size + 1) (by rw [s1]; omega)
    rwa [s1] at this
  clear h
  go_enter Try.func20, Try.ntmps20
  go_wp2_with fail
  generalize (w.alloc (.cells #[.string (str x.key), .string (str x.val), .int .u64 (x.ver : Int), .int .u64 (x.fin : Int)] 32)).alloc (.cells #[] 32) = w1 at *
  go_loopw [5, 6, 7] (fun o b i wr => ∃ j : Nat, j ≤ l.length ∧ i = .int .i64 j ∧ b = .bool ((l.take j).foldl (putS x) ([], false)).2 ∧ Pt w wr x (.slice a l.length c) l o ((l.take j).foldl (putS x) ([], false)).1) (fun o b i _ => l.length - (intOf i).toNat)
  case atStart => exact ⟨0, by omega, rfl, rfl, hP⟩
  case round =>
    obtain ⟨j, hj, rfl, rfl, hP⟩ := hrel
    by_cases h3 : j < l.length
    · obtain ⟨y, hy⟩ : ∃ y, l[j]? = some y := ⟨_, List.getElem?_eq_getElem h3⟩
      have hfold := foldl_take (putS x) ([], false) l hy
      have hsl := putS_len x (l.take j) ([], false)
      rw [List.length_take] at hsl
      simp only [List.length_nil] at hsl
      generalize (l.take j).foldl (putS x) ([], false) = st at *
      obtain ⟨D, fl⟩ := st
      dsimp only at hP hsl
      obtain ⟨g, rfl, -, hg, hcell⟩ := hP.src.at_ hy
      have hlt : (j : Int) < (l.length : Int) := by omega
      have hgl := hP.low g rfl
      have hce : ∀ {W : World} {o' : Value} {D' : List En}, Pt w W x (.slice (some ⟨g, 0, none⟩) l.length c) l o' D' → W.cell? ⟨g, j * 4, none⟩ = some (.string (str y.key)) ∧ W.cell? ⟨g, j * 4 + 1, none⟩ = some (.string (str y.val)) ∧ W.cell? ⟨g, j * 4 + 2, none⟩ = some (.int .u64 (y.ver : Int)) ∧ W.cell? ⟨g, j * 4 + 3, none⟩ = some (.int .u64 (y.fin : Int)) := by
        intro W o' D' hW
        obtain ⟨g', e, -, -, hc⟩ := hW.src.at_ hy
        obtain rfl : g = g' := by simpa using e
        exact hc W rfl
      clear hcell hg
      obtain ⟨oa, oc, rfl⟩ := hP.out.form
      have hDl : D.length ≤ 2000000 := by omega
      clear hsl
      cases fl with
      | true =>
        go_upto_region 5 with (fail)
        have hP2 := hP.drew
        have hc5 := hce hP2
        have hb5 := hP2.cells
        refine region_only 12 #[false, false, false, false, false, false, false, false, false, false, false, false] (S := (fun W => W.cell? ⟨g, j * 4, none⟩ = some (.string (str y.key)) ∧ W.cell? ⟨w.heap.size, 0, none⟩ = some (.string (str x.key)))) rfl rfl (by kernel_rfl) ⟨hc5.1, hb5.1⟩ (fun hSw => ?_)
        refine take_at 0 15 (fuel := 11) ?_ rfl rfl (by kernel_rfl) (by kernel_rfl) (by kernel_rfl) (Or.inl ⟨by rfl, ?_⟩) hSw ?_
        rotate_left
        · intro wx hSx
          (try dsimp only at hSx)
          go_split_ands
          go_simp
          (try with_reducible rfl)
        simp only [List.setIfInBounds_toArray, List.set_cons_zero, List.set_cons_succ]
        refine take_at 1 16 (fuel := 10) ?_ rfl rfl (by kernel_rfl) (by kernel_rfl) (by kernel_rfl) (Or.inl ⟨by rfl, ?_⟩) hSw ?_
        rotate_left
        · intro wx hSx
          (try dsimp only at hSx)
          go_split_ands
          go_simp
          (try with_reducible rfl)
        simp only [List.setIfInBounds_toArray, List.set_cons_zero, List.set_cons_succ]
        refine take_at 2 17 (fuel := 9) ?_ rfl rfl (by kernel_rfl) (by kernel_rfl) (by kernel_rfl) (Or.inl ⟨by rfl, ?_⟩) hSw ?_
        rotate_left
        · intro wx hSx
          (try dsimp only at hSx)
          go_split_ands
          go_simp
          (try with_reducible rfl)
        simp only [List.setIfInBounds_toArray, List.set_cons_zero, List.set_cons_succ]
        refine take_at 3 18 undef (fuel := 8) rfl rfl (by kernel_rfl) (by kernel_rfl) (by kernel_rfl) (Or.inr ⟨by rfl, rfl⟩) hSw ?_
        simp only [List.setIfInBounds_toArray, List.set_cons_zero, List.set_cons_succ]
        refine take_at 4 19 undef (fuel := 7) rfl rfl (by kernel_rfl) (by kernel_rfl) (by kernel_rfl) (Or.inr ⟨by rfl, rfl⟩) hSw ?_
        simp only [List.setIfInBounds_toArray, List.set_cons_zero, List.set_cons_succ]
        refine take_at 5 20 undef (fuel := 6) rfl rfl (by kernel_rfl) (by kernel_rfl) (by kernel_rfl) (Or.inr ⟨by rfl, rfl⟩) hSw ?_
        simp only [List.setIfInBounds_toArray, List.set_cons_zero, List.set_cons_succ]
        refine take_at 6 21 undef (fuel := 5) rfl rfl (by kernel_rfl) (by kernel_rfl) (by kernel_rfl) (Or.inr ⟨by rfl, rfl⟩) hSw ?_
        simp only [List.setIfInBounds_toArray, List.set_cons_zero, List.set_cons_succ]
        refine take_at 7 22 undef (fuel := 4) rfl rfl (by kernel_rfl) (by kernel_rfl) (by kernel_rfl) (Or.inr ⟨by rfl, rfl⟩) hSw ?_
        simp only [List.setIfInBounds_toArray, List.set_cons_zero, List.set_cons_succ]
        refine take_at 8 23 undef (fuel := 3) rfl rfl (by kernel_rfl) (by kernel_rfl) (by kernel_rfl) (Or.inr ⟨by rfl, rfl⟩) hSw ?_
        simp only [List.setIfInBounds_toArray, List.set_cons_zero, List.set_cons_succ]
        refine take_at 9 24 undef (fuel := 2) rfl rfl (by kernel_rfl) (by kernel_rfl) (by kernel_rfl) (Or.inr ⟨by rfl, rfl⟩) hSw ?_
        simp only [List.setIfInBounds_toArray, List.set_cons_zero, List.set_cons_succ]
        refine take_at 10 25 undef (fuel := 1) rfl rfl (by kernel_rfl) (by kernel_rfl) (by kernel_rfl) (Or.inr ⟨by rfl, rfl⟩) hSw ?_
        simp only [List.setIfInBounds_toArray, List.set_cons_zero, List.set_cons_succ]
        refine take_at 11 26 (fuel := 0) ?_ rfl rfl (by kernel_rfl) (by kernel_rfl) (by kernel_rfl) (Or.inl ⟨by rfl, ?_⟩) hSw ?_
        rotate_left
        · intro wx hSx
          (try dsimp only at hSx)
          go_split_ands
          go_simp
          (try with_reducible rfl)
        simp only [List.setIfInBounds_toArray, List.set_cons_zero, List.set_cons_succ]
        refine wpAnyH_done (by kernel_rfl) ⟨rfl, ?_⟩ 0
        generalize wr.drew = w2 at *
        clear hSw hc5 hb5 hP
        go_upto_region 7 with (fail)
        have hP6 := hP2.drew
        have hc6 := hce hP6
        have hb6 := hP6.cells
        refine region_only 8 #[false, false, false, false, false, false, false, false] (S := (fun W => W.cell? ⟨g, j * 4, none⟩ = some (.string (str y.key)) ∧ W.cell? ⟨w.heap.size, 0, none⟩ = some (.string (str x.key)))) rfl rfl (by kernel_rfl) ⟨hc6.1, hb6.1⟩ (fun hSw => ?_)
        refine take_at 0 31 (fuel := 7) ?_ rfl rfl (by kernel_rfl) (by kernel_rfl) (by kernel_rfl) (Or.inl ⟨by rfl, ?_⟩) hSw ?_
        rotate_left
        · intro wx hSx
          (try dsimp only at hSx)
          go_split_ands
          go_simp
          (try with_reducible rfl)
        simp only [List.setIfInBounds_toArray, List.set_cons_zero, List.set_cons_succ]
        refine take_at 1 32 (fuel := 6) ?_ rfl rfl (by kernel_rfl) (by kernel_rfl) (by kernel_rfl) (Or.inl ⟨by rfl, ?_⟩) hSw ?_
        rotate_left
        · intro wx hSx
          (try dsimp only at hSx)
          go_split_ands
          go_simp
          (try with_reducible rfl)
        simp only [List.setIfInBounds_toArray, List.set_cons_zero, List.set_cons_succ]
        refine take_at 2 33 (fuel := 5) ?_ rfl rfl (by kernel_rfl) (by kernel_rfl) (by kernel_rfl) (Or.inl ⟨by rfl, ?_⟩) hSw ?_
        rotate_left
        · intro wx hSx
          (try dsimp only at hSx)
          go_split_ands
          go_simp
          (try with_reducible rfl)
        simp only [List.setIfInBounds_toArray, List.set_cons_zero, List.set_cons_succ]
        refine take_at 3 34 (fuel := 4) ?_ rfl rfl (by kernel_rfl) (by kernel_rfl) (by kernel_rfl) (Or.inl ⟨by rfl, ?_⟩) hSw ?_
        rotate_left
        · intro wx hSx
          (try dsimp only at hSx)
          go_split_ands
          go_simp
          (try with_reducible rfl)
        simp only [List.setIfInBounds_toArray, List.set_cons_zero, List.set_cons_succ]
        refine take_at 4 35 (fuel := 3) ?_ rfl rfl (by kernel_rfl) (by kernel_rfl) (by kernel_rfl) (Or.inl ⟨by rfl, ?_⟩) hSw ?_
        rotate_left
        · intro wx hSx
          (try dsimp only at hSx)
          go_split_ands
          go_simp
          (try with_reducible rfl)
        simp only [List.setIfInBounds_toArray, List.set_cons_zero, List.set_cons_succ]
        refine take_at 5 36 (fuel := 2) ?_ rfl rfl (by kernel_rfl) (by kernel_rfl) (by kernel_rfl) (Or.inl ⟨by rfl, ?_⟩) hSw ?_
        rotate_left
        · intro wx hSx
          (try dsimp only at hSx)
          go_split_ands
          go_simp
          (try with_reducible rfl)
        simp only [List.setIfInBounds_toArray, List.set_cons_zero, List.set_cons_succ]
        refine take_at 6 37 (fuel := 1) ?_ rfl rfl (by kernel_rfl) (by kernel_rfl) (by kernel_rfl) (Or.inl ⟨by rfl, ?_⟩) hSw ?_
        rotate_left
        · intro wx hSx
          (try dsimp only at hSx)
          go_split_ands
          go_simp
          (try with_reducible rfl)
        simp only [List.setIfInBounds_toArray, List.set_cons_zero, List.set_cons_succ]
        refine take_at 7 38 (fuel := 0) ?_ rfl rfl (by kernel_rfl) (by kernel_rfl) (by kernel_rfl) (Or.inl ⟨by rfl, ?_⟩) hSw ?_
        rotate_left
        · intro wx hSx
          (try dsimp only at hSx)
          go_split_ands
          go_simp
          (try with_reducible rfl)
        simp only [List.setIfInBounds_toArray, List.set_cons_zero, List.set_cons_succ]
        refine wpAnyH_done (by kernel_rfl) ⟨rfl, ?_⟩ 0
        generalize w2.drew = w6 at *
        clear hSw hP2
        by_cases hk : y.key = x.key
        · have d1 : (y.key == x.key) = true := by simpa using hk
          have hf2 : putS x (D, true) y = (D, true) := by simp [putS, hk]
          rw [hf2] at hfold
          have HF := Lib.hid hfold
          clear hfold hf2 hk
          (try rw [d1])
          clear hc6 hb6 hce
          go_wp2_with fail
          go_roundw
          case rel => exact ⟨j + 1, by omega, rfl, by rw [HF.out], by rw [HF.out]; exact hP6⟩
          case measure => simp [intOf]; omega
        · have d1 : (y.key == x.key) = false := by simpa using hk
          have hf2 : putS x (D, true) y = (D ++ [y], true) := by simp [putS, hk]
          rw [hf2] at hfold
          have HF := Lib.hid hfold
          clear hfold hf2 hk
          (try rw [d1])
          obtain ⟨c0, c1, c2, c3⟩ := hc6
          clear hb6 hce
          have ho6 := hP6.out
          have hz6 := hP6.bel.size
          have hx6 := hP6.box.lt
          go_wp2_with (first | (refine wpList_append_lies _ (by rfl) _ _ _ (by rfl) (w.heap.size + 1) 32 i0 _ 4 48 Try.underlying30 hi0 hz0 hz1 hz2 rfl (by omega) (.slice oa D.length oc) D.length (rows D) (by rfl) (ho6.alloc _) ⟨w6.heap.size, 0, none⟩ 1 1 [.string (str y.key), .string (str y.val), .int .u64 (y.ver : Int), .int .u64 (y.fin : Int)] (by rfl) (by rfl) (World.news_of_block (cs := #[.string (str y.key), .string (str y.val), .int .u64 (y.ver : Int), .int .u64 (y.fin : Int)]) (t := 32) (fr := (0, 0)) (heap_alloc_new w6 _)) (by simp [Value.oneCell']) (by omega) (by simp [maxLen]; omega) (by omega) (by simp; omega) (w6.heap.size + 1) (by simp) ?_; intro gg cp w7 hown hgrow hat hlt7))
          go_roundw
          case rel => exact ⟨j + 1, by omega, rfl, by rw [HF.out], by rw [HF.out]; exact hP6.grown _ hgrow (Sl.snoc hown)⟩
          case measure => simp [intOf]; omega
      | false =>
        go_upto_region 5 with (fail)
        have hP2 := hP.drew
        have hc5 := hce hP2
        have hb5 := hP2.cells
        refine region_only 12 #[false, false, false, false, false, false, false, false, false, false, false, false] (S := (fun W => W.cell? ⟨g, j * 4, none⟩ = some (.string (str y.key)) ∧ W.cell? ⟨w.heap.size, 0, none⟩ = some (.string (str x.key)))) rfl rfl (by kernel_rfl) ⟨hc5.1, hb5.1⟩ (fun hSw => ?_)
        refine take_at 0 15 (fuel := 11) ?_ rfl rfl (by kernel_rfl) (by kernel_rfl) (by kernel_rfl) (Or.inl ⟨by rfl, ?_⟩) hSw ?_
        rotate_left
        · intro wx hSx
          (try dsimp only at hSx)
          go_split_ands
          go_simp
          (try with_reducible rfl)
        simp only [List.setIfInBounds_toArray, List.set_cons_zero, List.set_cons_succ]
        refine take_at 1 16 (fuel := 10) ?_ rfl rfl (by kernel_rfl) (by kernel_rfl) (by kernel_rfl) (Or.inl ⟨by rfl, ?_⟩) hSw ?_
        rotate_left
        · intro wx hSx
          (try dsimp only at hSx)
          go_split_ands
          go_simp
          (try with_reducible rfl)
        simp only [List.setIfInBounds_toArray, List.set_cons_zero, List.set_cons_succ]
        refine take_at 2 17 (fuel := 9) ?_ rfl rfl (by kernel_rfl) (by kernel_rfl) (by kernel_rfl) (Or.inl ⟨by rfl, ?_⟩) hSw ?_
        rotate_left
        · intro wx hSx
          (try dsimp only at hSx)
          go_split_ands
          go_simp
          (try with_reducible rfl)
        simp only [List.setIfInBounds_toArray, List.set_cons_zero, List.set_cons_succ]
        refine take_at 3 18 (fuel := 8) ?_ rfl rfl (by kernel_rfl) (by kernel_rfl) (by kernel_rfl) (Or.inl ⟨by rfl, ?_⟩) hSw ?_
        rotate_left
        · intro wx hSx
          (try dsimp only at hSx)
          go_split_ands
          go_simp
          (try with_reducible rfl)
        simp only [List.setIfInBounds_toArray, List.set_cons_zero, List.set_cons_succ]
        refine take_at 4 19 (fuel := 7) ?_ rfl rfl (by kernel_rfl) (by kernel_rfl) (by kernel_rfl) (Or.inl ⟨by rfl, ?_⟩) hSw ?_
        rotate_left
        · intro wx hSx
          (try dsimp only at hSx)
          go_split_ands
          go_simp
          (try with_reducible rfl)
        simp only [List.setIfInBounds_toArray, List.set_cons_zero, List.set_cons_succ]
        refine take_at 5 20 (fuel := 6) ?_ rfl rfl (by kernel_rfl) (by kernel_rfl) (by kernel_rfl) (Or.inl ⟨by rfl, ?_⟩) hSw ?_
        rotate_left
        · intro wx hSx
          (try dsimp only at hSx)
          go_split_ands
          go_simp
          (try with_reducible rfl)
        simp only [List.setIfInBounds_toArray, List.set_cons_zero, List.set_cons_succ]
        refine take_at 6 21 (fuel := 5) ?_ rfl rfl (by kernel_rfl) (by kernel_rfl) (by kernel_rfl) (Or.inl ⟨by rfl, ?_⟩) hSw ?_
        rotate_left
        · intro wx hSx
          (try dsimp only at hSx)
          go_split_ands
          go_simp
          (try with_reducible rfl)
        simp only [List.setIfInBounds_toArray, List.set_cons_zero, List.set_cons_succ]
        refine take_at 7 22 (fuel := 4) ?_ rfl rfl (by kernel_rfl) (by kernel_rfl) (by kernel_rfl) (Or.inl ⟨by rfl, ?_⟩) hSw ?_
        rotate_left
        · intro wx hSx
          (try dsimp only at hSx)
          go_split_ands
          go_simp
          (try with_reducible rfl)
        simp only [List.setIfInBounds_toArray, List.set_cons_zero, List.set_cons_succ]
        refine take_at 8 23 (fuel := 3) ?_ rfl rfl (by kernel_rfl) (by kernel_rfl) (by kernel_rfl) (Or.inl ⟨by rfl, ?_⟩) hSw ?_
        rotate_left
        · intro wx hSx
          (try dsimp only at hSx)
          go_split_ands
          go_simp
          (try with_reducible rfl)
        simp only [List.setIfInBounds_toArray, List.set_cons_zero, List.set_cons_succ]
        refine take_at 9 24 (fuel := 2) ?_ rfl rfl (by kernel_rfl) (by kernel_rfl) (by kernel_rfl) (Or.inl ⟨by rfl, ?_⟩) hSw ?_
        rotate_left
        · intro wx hSx
          (try dsimp only at hSx)
          go_split_ands
          go_simp
          (try with_reducible rfl)
        simp only [List.setIfInBounds_toArray, List.set_cons_zero, List.set_cons_succ]
        refine take_at 10 25 (fuel := 1) ?_ rfl rfl (by kernel_rfl) (by kernel_rfl) (by kernel_rfl) (Or.inl ⟨by rfl, ?_⟩) hSw ?_
        rotate_left
        · intro wx hSx
          (try dsimp only at hSx)
          go_split_ands
          go_simp
          (try with_reducible rfl)
        simp only [List.setIfInBounds_toArray, List.set_cons_zero, List.set_cons_succ]
        refine take_at 11 26 (fuel := 0) ?_ rfl rfl (by kernel_rfl) (by kernel_rfl) (by kernel_rfl) (Or.inl ⟨by rfl, ?_⟩) hSw ?_
        rotate_left
        · intro wx hSx
          (try dsimp only at hSx)
          go_split_ands
          go_simp
          (try with_reducible rfl)
        simp only [List.setIfInBounds_toArray, List.set_cons_zero, List.set_cons_succ]
        refine wpAnyH_done (by kernel_rfl) ⟨rfl, ?_⟩ 0
        generalize wr.drew = w2 at *
        clear hSw hc5 hb5 hP
        by_cases hle : less y.key x.key = true
        · have hk := less_ne hle
          have d1 : (y.key == x.key) = false := by simpa using hk
          have d2 : Op.bytesLess y.key x.key = true := hle
          have hf2 : putS x (D, false) y = (D ++ [y], false) := by simp [putS, hk, hle]
          rw [hf2] at hfold
          have HF := Lib.hid hfold
          clear hfold hf2 hk hle
          rw [d2]
          go_upto_region 7 with (fail)
          have hP6 := hP2.drew
          have hc6 := hce hP6
          have hb6 := hP6.cells
          refine region_only 8 #[false, false, false, false, false, false, false, false] (S := (fun W => W.cell? ⟨g, j * 4, none⟩ = some (.string (str y.key)) ∧ W.cell? ⟨w.heap.size, 0, none⟩ = some (.string (str x.key)))) rfl rfl (by kernel_rfl) ⟨hc6.1, hb6.1⟩ (fun hSw => ?_)
          refine take_at 0 31 (fuel := 7) ?_ rfl rfl (by kernel_rfl) (by kernel_rfl) (by kernel_rfl) (Or.inl ⟨by rfl, ?_⟩) hSw ?_
          rotate_left
          · intro wx hSx
            (try dsimp only at hSx)
            go_split_ands
            go_simp
            (try with_reducible rfl)
          simp only [List.setIfInBounds_toArray, List.set_cons_zero, List.set_cons_succ]
          refine take_at 1 32 (fuel := 6) ?_ rfl rfl (by kernel_rfl) (by kernel_rfl) (by kernel_rfl) (Or.inl ⟨by rfl, ?_⟩) hSw ?_
          rotate_left
          · intro wx hSx
            (try dsimp only at hSx)
            go_split_ands
            go_simp
            (try with_reducible rfl)
          simp only [List.setIfInBounds_toArray, List.set_cons_zero, List.set_cons_succ]
          refine take_at 2 33 (fuel := 5) ?_ rfl rfl (by kernel_rfl) (by kernel_rfl) (by kernel_rfl) (Or.inl ⟨by rfl, ?_⟩) hSw ?_
          rotate_left
          · intro wx hSx
            (try dsimp only at hSx)
            go_split_ands
            go_simp
            (try with_reducible rfl)
          simp only [List.setIfInBounds_toArray, List.set_cons_zero, List.set_cons_succ]
          refine take_at 3 34 (fuel := 4) ?_ rfl rfl (by kernel_rfl) (by kernel_rfl) (by kernel_rfl) (Or.inl ⟨by rfl, ?_⟩) hSw ?_
          rotate_left
          · intro wx hSx
            (try dsimp only at hSx)
            go_split_ands
            go_simp
            (try with_reducible rfl)
          simp only [List.setIfInBounds_toArray, List.set_cons_zero, List.set_cons_succ]
          refine take_at 4 35 (fuel := 3) ?_ rfl rfl (by kernel_rfl) (by kernel_rfl) (by kernel_rfl) (Or.inl ⟨by rfl, ?_⟩) hSw ?_
          rotate_left
          · intro wx hSx
            (try dsimp only at hSx)
            go_split_ands
            go_simp
            (try with_reducible rfl)
          simp only [List.setIfInBounds_toArray, List.set_cons_zero, List.set_cons_succ]
          refine take_at 5 36 (fuel := 2) ?_ rfl rfl (by kernel_rfl) (by kernel_rfl) (by kernel_rfl) (Or.inl ⟨by rfl, ?_⟩) hSw ?_
          rotate_left
          · intro wx hSx
            (try dsimp only at hSx)
            go_split_ands
            go_simp
            (try with_reducible rfl)
          simp only [List.setIfInBounds_toArray, List.set_cons_zero, List.set_cons_succ]
          refine take_at 6 37 (fuel := 1) ?_ rfl rfl (by kernel_rfl) (by kernel_rfl) (by kernel_rfl) (Or.inl ⟨by rfl, ?_⟩) hSw ?_
          rotate_left
          · intro wx hSx
            (try dsimp only at hSx)
            go_split_ands
            go_simp
            (try with_reducible rfl)
          simp only [List.setIfInBounds_toArray, List.set_cons_zero, List.set_cons_succ]
          refine take_at 7 38 (fuel := 0) ?_ rfl rfl (by kernel_rfl) (by kernel_rfl) (by kernel_rfl) (Or.inl ⟨by rfl, ?_⟩) hSw ?_
          rotate_left
          · intro wx hSx
            (try dsimp only at hSx)
            go_split_ands
            go_simp
            (try with_reducible rfl)
          simp only [List.setIfInBounds_toArray, List.set_cons_zero, List.set_cons_succ]
          refine wpAnyH_done (by kernel_rfl) ⟨rfl, ?_⟩ 0
          generalize w2.drew = w6 at *
          clear hSw hP2
          (try rw [d1])
          obtain ⟨c0, c1, c2, c3⟩ := hc6
          clear hb6 hce
          have ho6 := hP6.out
          have hz6 := hP6.bel.size
          have hx6 := hP6.box.lt
          go_wp2_with (first | (refine wpList_append_lies _ (by rfl) _ _ _ (by rfl) (w.heap.size + 1) 32 i0 _ 4 48 Try.underlying30 hi0 hz0 hz1 hz2 rfl (by omega) (.slice oa D.length oc) D.length (rows D) (by rfl) (ho6.alloc _) ⟨w6.heap.size, 0, none⟩ 1 1 [.string (str y.key), .string (str y.val), .int .u64 (y.ver : Int), .int .u64 (y.fin : Int)] (by rfl) (by rfl) (World.news_of_block (cs := #[.string (str y.key), .string (str y.val), .int .u64 (y.ver : Int), .int .u64 (y.fin : Int)]) (t := 32) (fr := (0, 0)) (heap_alloc_new w6 _)) (by simp [Value.oneCell']) (by omega) (by simp [maxLen]; omega) (by omega) (by simp; omega) (w6.heap.size + 1) (by simp) ?_; intro gg cp w7 hown hgrow hat hlt7))
          go_roundw
          case rel => exact ⟨j + 1, by omega, rfl, by rw [HF.out], by rw [HF.out]; exact hP6.grown _ hgrow (Sl.snoc hown)⟩
          case measure => simp [intOf]; omega
        · have d2 : Op.bytesLess y.key x.key = false := by simpa using hle
          rw [d2]
          obtain ⟨b0, b1, b2, b3⟩ := hP2.cells
          have ho2 := hP2.out
          have hz2' := hP2.bel.size
          have hx2 := hP2.box.lt
          go_upto_region 7 with (first | (refine wpList_append_lies _ (by rfl) _ _ _ (by rfl) (w.heap.size + 1) 32 i0 _ 4 48 Try.underlying30 hi0 hz0 hz1 hz2 rfl (by omega) (.slice oa D.length oc) D.length (rows D) (by rfl) (ho2.alloc _) ⟨w2.heap.size, 0, none⟩ 1 1 [.string (str x.key), .string (str x.val), .int .u64 (x.ver : Int), .int .u64 (x.fin : Int)] (by rfl) (by rfl) (World.news_of_block (cs := #[.string (str x.key), .string (str x.val), .int .u64 (x.ver : Int), .int .u64 (x.fin : Int)]) (t := 32) (fr := (0, 0)) (heap_alloc_new w2 _)) (by simp [Value.oneCell']) (by omega) (by simp [maxLen]; omega) (by omega) (by simp; omega) (w2.heap.size + 1) (by simp) ?_; intro gg cp w3 hown hgrow hat hlt3))
          have hP4 := hP2.grown _ hgrow (Sl.snoc hown)
          clear hown hgrow hat hP2 ho2 b0 b1 b2 b3 hz2' hx2
          have hP6 := hP4.drew
          have hc6 := hce hP6
          have hb6 := hP6.cells
          refine region_only 8 #[false, false, false, false, false, false, false, false] (S := (fun W => W.cell? ⟨g, j * 4, none⟩ = some (.string (str y.key)) ∧ W.cell? ⟨w.heap.size, 0, none⟩ = some (.string (str x.key)))) rfl rfl (by kernel_rfl) ⟨hc6.1, hb6.1⟩ (fun hSw => ?_)
          refine take_at 0 31 (fuel := 7) ?_ rfl rfl (by kernel_rfl) (by kernel_rfl) (by kernel_rfl) (Or.inl ⟨by rfl, ?_⟩) hSw ?_
          rotate_left
          · intro wx hSx
            (try dsimp only at hSx)
            go_split_ands
            go_simp
            (try with_reducible rfl)
          simp only [List.setIfInBounds_toArray, List.set_cons_zero, List.set_cons_succ]
          refine take_at 1 32 (fuel := 6) ?_ rfl rfl (by kernel_rfl) (by kernel_rfl) (by kernel_rfl) (Or.inl ⟨by rfl, ?_⟩) hSw ?_
          rotate_left
          · intro wx hSx
            (try dsimp only at hSx)
            go_split_ands
            go_simp
            (try with_reducible rfl)
          simp only [List.setIfInBounds_toArray, List.set_cons_zero, List.set_cons_succ]
          refine take_at 2 33 (fuel := 5) ?_ rfl rfl (by kernel_rfl) (by kernel_rfl) (by kernel_rfl) (Or.inl ⟨by rfl, ?_⟩) hSw ?_
          rotate_left
          · intro wx hSx
            (try dsimp only at hSx)
            go_split_ands
            go_simp
            (try with_reducible rfl)
          simp only [List.setIfInBounds_toArray, List.set_cons_zero, List.set_cons_succ]
          refine take_at 3 34 (fuel := 4) ?_ rfl rfl (by kernel_rfl) (by kernel_rfl) (by kernel_rfl) (Or.inl ⟨by rfl, ?_⟩) hSw ?_
          rotate_left
          · intro wx hSx
            (try dsimp only at hSx)
            go_split_ands
            go_simp
            (try with_reducible rfl)
          simp only [List.setIfInBounds_toArray, List.set_cons_zero, List.set_cons_succ]
          refine take_at 4 35 (fuel := 3) ?_ rfl rfl (by kernel_rfl) (by kernel_rfl) (by kernel_rfl) (Or.inl ⟨by rfl, ?_⟩) hSw ?_
          rotate_left
          · intro wx hSx
            (try dsimp only at hSx)
            go_split_ands
            go_simp
            (try with_reducible rfl)
          simp only [List.setIfInBounds_toArray, List.set_cons_zero, List.set_cons_succ]
          refine take_at 5 36 (fuel := 2) ?_ rfl rfl (by kernel_rfl) (by kernel_rfl) (by kernel_rfl) (Or.inl ⟨by rfl, ?_⟩) hSw ?_
          rotate_left
          · intro wx hSx
            (try dsimp only at hSx)
            go_split_ands
            go_simp
            (try with_reducible rfl)
          simp only [List.setIfInBounds_toArray, List.set_cons_zero, List.set_cons_succ]
          refine take_at 6 37 (fuel := 1) ?_ rfl rfl (by kernel_rfl) (by kernel_rfl) (by kernel_rfl) (Or.inl ⟨by rfl, ?_⟩) hSw ?_
          rotate_left
          · intro wx hSx
            (try dsimp only at hSx)
            go_split_ands
            go_simp
            (try with_reducible rfl)
          simp only [List.setIfInBounds_toArray, List.set_cons_zero, List.set_cons_succ]
          refine take_at 7 38 (fuel := 0) ?_ rfl rfl (by kernel_rfl) (by kernel_rfl) (by kernel_rfl) (Or.inl ⟨by rfl, ?_⟩) hSw ?_
          rotate_left
          · intro wx hSx
            (try dsimp only at hSx)
            go_split_ands
            go_simp
            (try with_reducible rfl)
          simp only [List.setIfInBounds_toArray, List.set_cons_zero, List.set_cons_succ]
          refine wpAnyH_done (by kernel_rfl) ⟨rfl, ?_⟩ 0
          generalize w3.drew = w6 at *
          clear hSw hP4
          have hDl2 : D.length + 1 ≤ 2000001 := by omega
          by_cases hk : y.key = x.key
          · have d1 : (y.key == x.key) = true := by simpa using hk
            have hf2 : putS x (D, false) y = (D ++ [x], true) := by simp [putS, hk, less_irr]
            rw [hf2] at hfold
            have HF := Lib.hid hfold
            clear hfold hf2 hk hle
            (try rw [d1])
            clear hc6 hb6 hce
            go_wp2_with fail
            go_roundw
            case rel => exact ⟨j + 1, by omega, rfl, by rw [HF.out], by rw [HF.out]; exact hP6⟩
            case measure => simp [intOf]; omega
          · have d1 : (y.key == x.key) = false := by simpa using hk
            have hf2 : putS x (D, false) y = (D ++ [x] ++ [y], true) := by simp [putS, hk, show less y.key x.key = false from d2]
            rw [hf2] at hfold
            have HF := Lib.hid hfold
            clear hfold hf2 hk hle
            have hlen : D.length + 1 = (D ++ [x]).length := by simp
            generalize hE : D ++ [x] = E at *
            rw [hlen] at hP6 hDl2 ⊢
            clear hlen hE
            (try rw [d1])
            obtain ⟨c0, c1, c2, c3⟩ := hc6
            clear hb6 hce
            have ho6 := hP6.out
            have hz6 := hP6.bel.size
            have hx6 := hP6.box.lt
            go_wp2_with (first | (refine wpList_append_lies _ (by rfl) _ _ _ (by rfl) (w.heap.size + 1) 32 i0 _ 4 48 Try.underlying30 hi0 hz0 hz1 hz2 rfl (by omega) (.slice (some ⟨gg, 0, none⟩) E.length cp) E.length (rows E) (by rfl) (ho6.alloc _) ⟨w6.heap.size, 0, none⟩ 1 1 [.string (str y.key), .string (str y.val), .int .u64 (y.ver : Int), .int .u64 (y.fin : Int)] (by rfl) (by rfl) (World.news_of_block (cs := #[.string (str y.key), .string (str y.val), .int .u64 (y.ver : Int), .int .u64 (y.fin : Int)]) (t := 32) (fr := (0, 0)) (heap_alloc_new w6 _)) (by simp [Value.oneCell']) (by omega) (by simp [maxLen]; omega) (by omega) (by simp; omega) (w6.heap.size + 1) (by simp) ?_; intro gg cp w7 hown hgrow hat hlt7))
            go_roundw
            case rel => exact ⟨j + 1, by omega, rfl, by rw [HF.out], by rw [HF.out]; exact hP6.grown _ hgrow (Sl.snoc hown)⟩
            case measure => simp [intOf]; omega
    · obtain rfl : j = l.length := by omega
      rw [List.take_length] at hP ⊢
      have hins := HINS.out
      have hsl := putS_len x l ([], false)
      simp only [List.length_nil] at hsl
      generalize l.foldl (putS x) ([], false) = st at *
      obtain ⟨D, fl⟩ := st
      dsimp only at hP hins hsl
      obtain ⟨oa, oc, rfl⟩ := hP.out.form
      cases fl with
      | true =>
        have hi : D = ins x l := by simpa using hins
        have HI := Lib.hid hi
        clear hi hins
        go_wp2_with fail
        go_ret
        exact ⟨_, rfl, HI.out ▸ hP.out.low (by omega), hP.bel⟩
      | false =>
        have hi : D ++ [x] = ins x l := by simpa using hins
        have HI := Lib.hid hi
        clear hi hins
        obtain ⟨b0, b1, b2, b3⟩ := hP.cells
        have ho2 := hP.out
        have hz2' := hP.bel.size
        have hx2 := hP.box.lt
        go_wp2_with (first | (refine wpList_append_lies _ (by rfl) _ _ _ (by rfl) (w.heap.size + 1) 32 i0 _ 4 48 Try.underlying30 hi0 hz0 hz1 hz2 rfl (by omega) (.slice oa D.length oc) D.length (rows D) (by rfl) (ho2.alloc _) ⟨wr.heap.size, 0, none⟩ 1 1 [.string (str x.key), .string (str x.val), .int .u64 (x.ver : Int), .int .u64 (x.fin : Int)] (by rfl) (by rfl) (World.news_of_block (cs := #[.string (str x.key), .string (str x.val), .int .u64 (x.ver : Int), .int .u64 (x.fin : Int)]) (t := 32) (fr := (0, 0)) (heap_alloc_new wr _)) (by simp [Value.oneCell']) (by omega) (by simp [maxLen]; omega) (by omega) (by simp; omega) (wr.heap.size + 1) (by simp) ?_; intro gg cp w3 hown hgrow hat hlt3))
        have hP4 := hP.grown _ hgrow (Sl.snoc hown)
        go_ret
        exact ⟨_, rfl, HI.out ▸ hP4.out.low (by omega), hP4.bel⟩
end Go.Proofs.Ytdjfdpmfpnbpjaa.Taby
