/- Layer 11: the document's own table: a slice of entries; what each of its calls tells. No condition but bounds that the laws lay. -/
import Derived.Test.YtdjfdpmfpnbpjaaTabMem
import Derived.Test.YtdjfdpmfpnbpjaaWireEnc
import Derived.Laws.Cover1
import Derived.BigQuiet
import Derived.Lib.Hide
namespace Go.Proofs.Ytdjfdpmfpnbpjaa.Taby
open Go.ChangeShapes Go.WideShapes Go.ChangeAt Go.RowKit
open Wirey (Blk Row str str_size str_list str_cat enc enc_len txt)
open Regy

theorem find_at {k : List UInt8} {x : En} : ∀ {a b : List En}, find k a = Option.none → x.key = k → find k (a ++ x :: b) = some x
  | [], b, _, h => by rw [List.nil_append, find, if_pos h]
  | y :: a, b, hn, h => by
    rw [find] at hn
    split at hn
    · cases hn
    · rename_i hy
      rw [List.cons_append, find, if_neg hy]; exact find_at hn h
theorem find_snoc {k : List UInt8} {x : En} {a : List En} (hn : find k a = Option.none) (h : x.key ≠ k) : find k (a ++ (some x).toList) = Option.none := by
  rw [find_none] at hn ⊢
  intro y hy
  rcases List.mem_append.1 hy with h1 | h1
  · exact hn y h1
  · simp at h1; subst h1; exact h
set_option maxHeartbeats 2000000 in
set_option maxRecDepth 100000 in
theorem rget_c {l : List En} {v : Value} (k : List UInt8) (hl : l.length ≤ 1000000) (w : World) (h : Sl w 0 v l) :
    Calls Try.prog 14 #[v, .string (str k)] w fun e w' => e = .returned (.tuple #[.agg ((find k l).getD En.none).cs, .bool (find k l).isSome]) ∧ Below w.heap.size w w' := by
  have htl := Wirey.toList_str
  obtain ⟨a, c, rfl⟩ := h.form
  have hz := Blk.new w 32 #[.string ⟨#[]⟩, .string ⟨#[]⟩, .int .u64 0, .int .u64 0]
  have hb := (Below.refl _ w).alloc (Nat.le_refl _) (.cells #[.string ⟨#[]⟩, .string ⟨#[]⟩, .int .u64 0, .int .u64 0] 32)
  have hs := h.alloc (.cells #[.string ⟨#[]⟩, .string ⟨#[]⟩, .int .u64 0, .int .u64 0] 32)
  have hsz : ∀ (i : Nat) (u : Value) (W : World), True := fun _ _ _ => trivial
  clear hsz
  have y0 := hz.cell 0
  have y1 := hz.cell 1
  have y2 := hz.cell 2
  have y3 := hz.cell 3
  have f0 := hz.free 0
  have f1 := hz.free 1
  have f2 := hz.free 2
  have f3 := hz.free 3
  simp only [List.getElem?_toArray, List.getElem?_cons_zero, List.getElem?_cons_succ] at y0 y1 y2 y3
  go_enter Try.func14, Try.ntmps14
  go_wp2_with fail
  generalize w.alloc (.cells #[.string ⟨#[]⟩, .string ⟨#[]⟩, .int .u64 0, .int .u64 0] 32) = w1 at *
  go_loopw [6] (fun i wr => ∃ j : Nat, j ≤ l.length ∧ i = .int .i64 j ∧ find k (l.take j) = Option.none ∧ wr = w1) (fun i _ => l.length - (intOf i).toNat)
  case atStart => exact ⟨0, by omega, rfl, rfl, rfl⟩
  case round =>
    obtain ⟨j, hj, rfl, hnone, rfl⟩ := hrel
    by_cases h3 : j < l.length
    · obtain ⟨x, hx⟩ : ∃ x, l[j]? = some x := ⟨_, List.getElem?_eq_getElem h3⟩
      obtain ⟨g, rfl, -, hg, hcell⟩ := hs.at_ hx
      obtain ⟨c0, c1, c2, c3⟩ := hcell wr rfl
      have hlt : (j : Int) < (l.length : Int) := by omega
      by_cases hk : x.key = k
      · have d1 : (x.key == k) = true := by simpa using hk
        have hf : find k l = some x := by
          have e : l = l.take j ++ x :: l.drop (j + 1) := by rw [← (List.getElem?_eq_some_iff.1 hx).2, ← List.drop_eq_getElem_cons h3, List.take_append_drop]
          rw [e]; exact find_at hnone hk
        subst hk
        have hT := ((((hz.put 0 (.string (str x.key))).put 1 (.string (str x.val))).put 2 (.int .u64 (x.ver : Int))).put 3 (.int .u64 (x.fin : Int)))
        simp only [List.setIfInBounds_toArray, List.set_cons_zero, List.set_cons_succ] at hT
        have hB2 := (((hb.setCell (p := ⟨w.heap.size, 0, none⟩) (Nat.le_refl _) (.string (str x.key))).setCell (p := ⟨w.heap.size, 1, none⟩) (Nat.le_refl _) (.string (str x.val))).setCell (p := ⟨w.heap.size, 2, none⟩) (Nat.le_refl _) (.int .u64 (x.ver : Int))).setCell (p := ⟨w.heap.size, 3, none⟩) (Nat.le_refl _) (.int .u64 (x.fin : Int))
        clear hcell hs h hz hb hnone
        have HF := Lib.hid hf
        have HT := Lib.hid hT
        have HB := Lib.hid hB2
        clear hf hT hB2
        go_wp2_with fail
        (try simp only [Exit.inBlock, Exit.then])
        refine bodyPost_ret (results_row_tmp rfl _ _ w.heap.size rfl (run_loadVar_row _ _ _ _ _ _ _ HT.out Try.underlying32 rfl (by kernel_rfl))) rfl ⟨?_, HB.out⟩
        rw [HF.out]
        rfl
      · have d1 : (x.key == k) = false := by simpa using hk
        have hn2 : find k (l.take (j + 1)) = Option.none := by rw [List.take_add_one, hx]; exact find_snoc hnone hk
        have HN := Lib.hid hn2
        clear hcell hn2
        go_wp2_with fail
        go_roundw
        case rel => exact ⟨j + 1, by omega, rfl, HN.out, by first | trivial | rfl⟩
        case measure => simp [intOf]; omega
    · obtain rfl : j = l.length := by omega
      rw [List.take_length] at hnone
      have hT := ((((hz.put 0 (.string ⟨#[]⟩)).put 1 (.string ⟨#[]⟩)).put 2 (.int .u64 0)).put 3 (.int .u64 0))
      simp only [List.setIfInBounds_toArray, List.set_cons_zero, List.set_cons_succ] at hT
      have hB2 := (((hb.setCell (p := ⟨w.heap.size, 0, none⟩) (Nat.le_refl _) (.string ⟨#[]⟩)).setCell (p := ⟨w.heap.size, 1, none⟩) (Nat.le_refl _) (.string ⟨#[]⟩)).setCell (p := ⟨w.heap.size, 2, none⟩) (Nat.le_refl _) (.int .u64 0)).setCell (p := ⟨w.heap.size, 3, none⟩) (Nat.le_refl _) (.int .u64 0)
      have HF := Lib.hid hnone
      have HT := Lib.hid hT
      have HB := Lib.hid hB2
      clear hnone hT hB2 hs h hz hb
      go_wp2_with fail
      (try simp only [Exit.inBlock, Exit.then])
      refine bodyPost_ret (results_row_tmp rfl _ _ w.heap.size rfl (run_loadVar_row _ _ _ _ _ _ _ HT.out Try.underlying32 rfl (by kernel_rfl))) rfl ⟨?_, HB.out⟩
      rw [HF.out]
      rfl
end Go.Proofs.Ytdjfdpmfpnbpjaa.Taby
