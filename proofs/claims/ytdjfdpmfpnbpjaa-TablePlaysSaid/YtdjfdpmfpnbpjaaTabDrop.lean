/- Layer 11: the document's own table: a slice of entries; what each of its calls tells. No condition but bounds that the laws lay. -/
import Derived.Test.YtdjfdpmfpnbpjaaTabMem
import Derived.Test.YtdjfdpmfpnbpjaaTabGet
import Derived.Laws.Cover1
import Derived.BigQuiet
import Derived.Lib.Hide
namespace Go.Proofs.Ytdjfdpmfpnbpjaa.Taby
open Go.ChangeShapes Go.WideShapes Go.ChangeAt Go.RowKit
open Wirey (Blk Row str str_size str_list str_cat enc enc_len txt)
open Regy

set_option maxHeartbeats 2000000 in
set_option maxRecDepth 100000 in
theorem rdrop_c {l : List En} {v : Value} (k : List UInt8) (hl : l.length ≤ 1000000) (w : World) (h : Sl w 0 v l) :
    Calls Try.prog 15 #[v, .string (str k)] w fun e w' => ∃ v', e = .returned v' ∧ Sl w' w.heap.size v' (drop k l) ∧ Below w.heap.size w w' := by
  have htl := Wirey.toList_str
  obtain ⟨a, c, rfl⟩ := h.form
  obtain ⟨i0, hi0, hz0, hz1, hz2⟩ : ∃ i0, Try.prog.info? 32 = some i0 ∧ i0.zero = some (.agg #[.string ⟨#[]⟩, .string ⟨#[]⟩, .int .u64 0, .int .u64 0]) ∧ i0.size = 4 ∧ i0.bytes = 48 := by
    have h := entry_info
    cases hh : Try.prog.info? 32 with
    | none => rw [hh] at h; cases h
    | some i => rw [hh] at h; injection h with h; injection h with h1 h2; injection h2 with h2 h3; exact ⟨i, rfl, h1, h2, h3⟩
  have hb := (Below.refl _ w).alloc (Nat.le_refl _) (.cells #[] 32)
  have hs := h.alloc (.cells #[] 32)
  have ho := Sl.empty w w.heap.size (Nat.le_refl _)
  go_enter Try.func15, Try.ntmps15
  go_wp2_with fail
  generalize w.alloc (.cells #[] 32) = w1 at *
  go_loopw [5, 6] (fun o i wr => ∃ j : Nat, j ≤ l.length ∧ i = .int .i64 j ∧ Sl wr w.heap.size o (drop k (l.take j)) ∧ Below w.heap.size w wr) (fun o i _ => l.length - (intOf i).toNat)
  case atStart => exact ⟨0, by omega, rfl, ho, hb⟩
  case round =>
    obtain ⟨j, hj, rfl, ho, hb⟩ := hrel
    have hs := h.below hb
    by_cases h3 : j < l.length
    · obtain ⟨x, hx⟩ : ∃ x, l[j]? = some x := ⟨_, List.getElem?_eq_getElem h3⟩
      obtain ⟨g, rfl, -, hg, hcell⟩ := hs.at_ hx
      have hlt : (j : Int) < (l.length : Int) := by omega
      have hdl : (drop k (l.take j)).length ≤ j := Nat.le_trans drop_len (by rw [List.length_take]; omega)
      obtain ⟨c0, c1, c2, c3⟩ := hcell wr rfl
      by_cases hk : x.key = k
      · subst hk
        have hd : drop x.key (l.take (j + 1)) = drop x.key (l.take j) := by unfold drop; rw [List.take_add_one, hx]; simp
        have HD := Lib.hid hd
        have HO := Lib.hid ho
        have HB := Lib.hid hb
        clear hd ho hb hcell hs h hdl
        go_wp2_with fail
        go_roundw
        case rel => exact ⟨j + 1, by omega, rfl, by rw [HD.out]; exact HO.out, HB.out⟩
        case measure => simp [intOf]; omega
      · have d1 : (x.key == k) = false := by simpa using hk
        have hd : drop k (l.take (j + 1)) = drop k (l.take j) ++ [x] := by unfold drop; rw [List.take_add_one, hx]; simp [hk]
        have HD := Lib.hid hd
        have HB := Lib.hid hb
        clear hd hcell hs h
        obtain ⟨oa, oc, rfl⟩ := ho.form
        have hwz := hb.size
        clear hb
        generalize hD : drop k (l.take j) = D at *
        clear hD
        go_wp2_with (first | (refine wpList_append_lies _ (by rfl) _ _ _ (by rfl) w.heap.size 32 i0 _ 4 48 Try.underlying30 hi0 hz0 hz1 hz2 rfl (by omega) (.slice oa D.length oc) D.length (rows D) (by rfl) (ho.alloc _) ⟨wr.heap.size, 0, none⟩ 1 1 [.string (str x.key), .string (str x.val), .int .u64 (x.ver : Int), .int .u64 (x.fin : Int)] (by rfl) (by rfl) (World.news_of_block (cs := #[.string (str x.key), .string (str x.val), .int .u64 (x.ver : Int), .int .u64 (x.fin : Int)]) (t := 32) (fr := (0, 0)) (heap_alloc_new wr _)) (by simp [Value.oneCell']) (by omega) (by simp [maxLen]; omega) (by omega) (by simp; omega) (wr.heap.size + 1) (by simp) ?_; intro gg cp w3 hown hgrow hat hlt3))
        go_roundw
        case rel =>
          have hrow := ho.lt
          refine ⟨j + 1, by omega, rfl, by rw [HD.out]; exact Sl.snoc hown, ?_⟩
          exact (HB.out.alloc hwz _).trans ⟨hgrow.os, hgrow.tape, hgrow.output, hgrow.size, fun b hb => hgrow.block b (by simp; omega) (fun e => by have := (hrow b e.symm).1; omega)⟩
        case measure => simp [intOf]; omega
    · obtain rfl : j = l.length := by omega
      rw [List.take_length] at ho
      have HO := Lib.hid ho
      have HB := Lib.hid hb
      clear ho hb hs h
      go_wp2_with fail
      go_ret
      exact ⟨_, rfl, HO.out, HB.out⟩
end Go.Proofs.Ytdjfdpmfpnbpjaa.Taby
