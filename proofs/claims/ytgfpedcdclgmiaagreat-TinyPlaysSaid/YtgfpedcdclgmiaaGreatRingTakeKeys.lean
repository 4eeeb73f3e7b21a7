/- The keys of a list off bytes that hold them. -/
import Derived.Test.YtgfpedcdclgmiaaGreatRingExport
import Derived.Test.YtgfpedcdclgmiaaGreatWireFly
namespace Go.Proofs.YtgfpedcdclgmiaaGreat.Ringy
open Go.ChangeShapes Go.WideShapes Go.ChangeAt Go.RowKit Go.Shelf
open Wirey (Blk Row str str_size str_list Kp Kept RS enc txt numR_enc num_ok rtext_ok)
open Go.ChangeMaps Go.Maps

theorem txt_took {x : Key} (hx : x.length ≤ 64) (rest : List UInt8) (hr : rest.length < 549755813888) :
    Wirey.numR (txt x ++ rest) = (x.length, (enc x.length).length, 0) ∧ (enc x.length).length + x.length ≤ (txt x ++ rest).length ∧ (txt x ++ rest).length < 1099511627776 ∧
      (((txt x ++ rest).drop (enc x.length).length).take x.length) = x ∧ (txt x ++ rest).drop ((enc x.length).length + x.length) = rest := by
  have e1 : txt x ++ rest = enc x.length ++ (x ++ rest) := by simp [txt]
  have hl := enc_ten (n := x.length) (by omega)
  rw [e1]
  refine ⟨numR_enc (by omega) _, by simp only [List.length_append]; omega, by simp only [List.length_append]; omega, by rw [List.drop_left, List.take_left], ?_⟩
  rw [← List.drop_drop, List.drop_left, List.drop_left]
theorem keysB_drop {l : List Key} {p : Nat} (hp : p < l.length) : keysB (l.drop p) = txt (l[p]?.getD []) ++ keysB (l.drop (p + 1)) := by
  rw [List.drop_eq_getElem_cons hp, List.getElem?_eq_getElem hp]
  rfl
set_option maxHeartbeats 4000000 in
set_option maxRecDepth 100000 in
theorem takeKeys_c {R O most : Nat} {l : List Key} {rest : List UInt8} (hm : most ≤ 4096) (hl : l.length ≤ most) (hk : ∀ k ∈ l, k.length ≤ 64) (hrest : rest.length < 274877906944) (w : World) (h : RS w R O (listB l ++ rest)) :
    Calls Tryz.prog 119 #[.pointer (some ⟨R, 0, none⟩), .int .i64 (most : Int)] w fun e w' => ∃ v, e = .returned v ∧ w'.ownsRow w.heap.size 9 1 v l.length (strsV l) ∧ RS w' R O rest ∧ Kp (fun k => k = R ∨ k = O) w w' := by
  obtain ⟨i0, hi0, hz0, hz1, hz2⟩ := info_parts str_info
  have hRl := h.rd.lt
  have hOl := h.of.lt
  have hkl := keysB_len hk
  have hel := enc_ten (n := l.length) (by omega)
  have e1 : listB l ++ rest = enc l.length ++ (keysB l ++ rest) := by simp [listB]
  rw [e1] at h
  have hn := num_ok most (numR_enc (n := l.length) (by omega) (keysB l ++ rest)) hl (by simp only [List.length_append]; omega) w h
  rw [List.drop_left] at hn
  have HN := Lib.hid hn
  have HKL := Lib.hid (fun p => keysB_len (l := l.drop p) (fun x hx => hk x (List.mem_of_mem_drop hx)))
  have HK := Lib.hid hk
  have HR := Lib.hid hrest
  clear hn e1 hel hkl hk hrest
  go_enter Tryz.func119, Tryz.ntmps119
  go_wp2_with fail
  refine HN.out.mono ?_
  rintro e v1 ⟨rfl, hk1, hr1⟩
  have hK1 : Kp (fun k => k = R ∨ k = O) w v1 := Kp.of_kept hk1 (.inl rfl) (.inr rfl)
  go_wp2_with fail
  go_loopw [5, 10] (fun v i wr => ∃ p : Nat, p ≤ l.length ∧ i = .int .u64 p ∧ wr.ownsRow w.heap.size 9 1 v p (strsV (l.take p)) ∧ RS wr R O (keysB (l.drop p) ++ rest) ∧ Kp (fun k => k = R ∨ k = O) w wr) (fun _ i _ => l.length - (intOf i).toNat)
  case atStart => exact ⟨0, Nat.zero_le _, rfl, ⟨rfl, .inl ⟨rfl, rfl⟩⟩, hr1, hK1⟩
  case round =>
    obtain ⟨p, hp, rfl, hrow, hR, hK⟩ := hrel
    clear hr1 hK1 hk1
    by_cases hlt : p < l.length
    · have hkd := keysB_drop hlt
      rw [hkd, List.append_assoc] at hR
      have hx := HK.out (l[p]?.getD []) (mem_pos_of hlt)
      obtain ⟨t1, t2, t3, t4, t5⟩ := txt_took hx (keysB (l.drop (p + 1)) ++ rest) (by have := HKL.out (p + 1); have h3 := HR.out; rw [List.length_drop] at this; simp only [List.length_append]; omega)
      have ht := rtext_ok 64 (by omega) t1 hx t2 t3 wr hR
      rw [t4, t5] at ht
      have HT := Lib.hid ht
      have HTK := Lib.hid (take_snoc hlt)
      clear t1 t2 t3 t4 t5 ht hkd hR hx
      generalize l[p]?.getD [] = x at *
      obtain ⟨sa, sc, rfl⟩ := own_form hrow
      go_wp2_with fail
      refine HT.out.mono ?_
      rintro e w2 ⟨rfl, hk2, hr2⟩
      have hrow2 : w2.ownsRow w.heap.size 9 1 (.slice sa p sc) p (strsV (l.take p)) := ownsRow_stay hrow (fun g hg => hk2.block g (hrow.lt g hg).2 (by have := (hrow.lt g hg).1; omega) (by have := (hrow.lt g hg).1; omega))
      have hK2 := hK.trans (Kp.of_kept hk2 (.inl rfl) (.inr rfl))
      have hw2 : w.heap.size ≤ w2.heap.size := hK2.size
      have HR2 := Lib.hid hr2
      clear hrow hk2 hr2 hK
      go_wp2_with (first | (refine wpList_append_lies _ (by rfl) _ _ _ (by rfl) w.heap.size 9 i0 _ 1 16 Tryz.underlying61 hi0 hz0 hz1 hz2 rfl (by omega) (.slice sa p sc) p (strsV (l.take p)) (by rfl) (hrow2.alloc _) ⟨w2.heap.size, 0, none⟩ 1 1 [.string (str x)] (by rfl) (by rfl) (World.news_of_block (cs := #[.string (str x)]) (t := 9) (fr := (0, 0)) (heap_alloc_new w2 _)) (by simp [Value.oneCell']) (by omega) (by simp [maxLen]; omega) (by omega) (by simp; omega) (w2.heap.size + 1) (by simp) ?_; intro gg cp w3 hown1 hgrow hat3 hlt3))
      go_roundw
      case rel =>
        rw [← strsV_snoc, ← HTK.out] at hown1
        have hrow2l := hrow2.lt
        have hne : ∀ b, b < w.heap.size → w3.heap[b]? = w2.heap[b]? := fun b hb => (hgrow.block b (by simp; omega) (fun e => by have := (hrow2l b e.symm).1; omega)).trans (Below.heap_alloc w2 _ b (by omega))
        have hkk : Kp (fun k => k = R ∨ k = O) w w3 := ⟨hgrow.os.trans hK2.os, hgrow.tape.trans hK2.tape, hgrow.output.trans hK2.output, by have := hgrow.size; simp at this; omega, fun b hb hS => (hne b hb).trans (hK2.block b hb hS)⟩
        refine ⟨p + 1, by omega, rfl, hown1, ?_, hkk⟩
        exact ⟨(hne R hRl).trans HR2.out.rd, (hne O hOl).trans HR2.out.of⟩
      case measure => simp [intOf]; omega
    · obtain rfl : p = l.length := by omega
      obtain ⟨sa, sc, rfl⟩ := own_form hrow
      go_wp2_with fail
      go_ret
      rw [List.drop_length] at hR
      rw [List.take_length] at hrow
      exact ⟨_, rfl, hrow, hR, hK⟩
end Go.Proofs.YtgfpedcdclgmiaaGreat.Ringy
