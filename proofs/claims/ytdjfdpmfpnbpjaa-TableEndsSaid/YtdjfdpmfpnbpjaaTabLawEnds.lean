/- Layer 11 (table): for every input the call returns true and leaves what it was given as it was: just those entries are told as ended whose end is not above the tick; those without an end never (TableEnds). No condition. -/
import Derived.Test.YtdjfdpmfpnbpjaaTabCalls
import Derived.Test.YtdjfdpmfpnbpjaaKit
import Derived.Test.YtdjfdpmfpnbpjaaTabAwake
import Derived.Test.YtdjfdpmfpnbpjaaTabOpen
import Derived.Test.YtdjfdpmfpnbpjaaRows
import Derived.Test.YtdjfdpmfpnbpjaaTabPut
import Derived.Lib.Hide
import Derived.Laws.Cover1
import Derived.BigQuiet
namespace Go.Proofs.Ytdjfdpmfpnbpjaa.Taby
open Go.ChangeShapes Go.WideShapes Go.ChangeAt Go.RowKit
open Wirey (Blk Row str str_size str_list str_cat str_take enc enc_len txt Kp)
open Regy

/-- The program's entries and the document's, side by side. -/
structure Tw (w W : World) (P : Nat → Prop) (b : Nat) (mp md : List En) (v : Value) : Prop where
  held : HeldT w W P b mp
  sl : Sl W w.heap.size v md
  no : ∀ g, v.ownBlock = some g → ¬ P g
  bel : Below w.heap.size w W
section
variable {w W W' : World} {P P' : Nat → Prop} {b : Nat} {mp md mp' md' : List En} {v v' : Value}
theorem Tw.below (h : Tw w W P b mp md v) (hb : Below W.heap.size W W') : Tw w W' P b mp md v := ⟨h.held.below hb, h.sl.below hb, h.no, h.bel.trans (hb.mono h.bel.size)⟩
theorem Tw.doc (h : Tw w W P b mp md v) (hs : Sl W' W.heap.size v' md') (hb : Below W.heap.size W W') : Tw w W' P b mp md' v' :=
  ⟨h.held.below hb, hs.low h.bel.size, fun g hg hp => by have := (hs.lt g hg).1; have := (h.held.low g hp).2; omega, h.bel.trans (hb.mono h.bel.size)⟩
theorem Tw.prog (h : Tw w W P b mp md v) (hH : HeldT w W' P' b mp') (hM : Mv P P' W W') : Tw w W' P' b mp' md v :=
  ⟨hH, hM.sl h.sl h.no, hM.no h.sl h.no, hM.below h.bel fun k hk => (h.held.low k hk).1⟩
end
theorem ended_take {l : List En} {now j : Nat} {x : En} (h : l[j]? = some x) : ended now (l.take (j + 1)) = if 0 < x.fin ∧ x.fin ≤ now then ended now (l.take j) ++ [x.key] else ended now (l.take j) := by
  rw [List.take_add_one, h]
  unfold ended
  rw [List.filter_append, List.map_append]
  by_cases hc : 0 < x.fin ∧ x.fin ≤ now
  · rw [if_pos hc]; simp [hc]
  · rw [if_neg hc]
    have : (decide (0 < x.fin) && decide (x.fin ≤ now)) = false := by simpa using hc
    simp [this]
theorem ended_len {now : Nat} {l : List En} : (ended now l).length ≤ l.length := by
  unfold ended; rw [List.length_map]; exact List.length_filter_le _ _
set_option maxHeartbeats 2000000 in
set_option maxRecDepth 100000 in
theorem tableEnds_walk (ao : Option Addr) (len cap sb off : Nat) (X : Nat → En) (now : Nat) (hn : now < 18446744073709551616) (w : World) (hA : Ents w ao len sb off X) :
    Calls Try.prog 5 #[.slice ao len cap, .int .u64 (now : Int)] w fun e w' => e = .returned (.bool true) ∧ Below w.heap.size w w' := by
  have htl := Wirey.toList_str
  have hmost := hA.most
  unfold maxLen at hmost
  obtain ⟨i1, hi1, hy0, hy1, hy2⟩ : ∃ i, Try.prog.info? 9 = some i ∧ i.zero = some (.string ⟨#[]⟩) ∧ i.size = 1 ∧ i.bytes = 16 := by
    have h := str_info
    cases hh : Try.prog.info? 9 with
    | none => rw [hh] at h; cases h
    | some i => rw [hh] at h; injection h with h; injection h with h1 h2; injection h2 with h2 h3; exact ⟨i, rfl, h1, h2, h3⟩
  go_enter Try.func5, Try.ntmps5
  go_wp2_with fail
  refine (new_c _).mono ?_
  rintro e w1 ⟨P0, b, rfl, hH1, hb1⟩
  have hT : Tw w (w1.alloc (.cells #[] 32)) P0 b [] [] (.slice (some ⟨w1.heap.size, 0, none⟩) 0 0) := ⟨hH1.below ((Below.refl _ w1).alloc (Nat.le_refl _) _), Sl.empty w1 w.heap.size hb1.size, fun g hg hp => by
    have h1 := (hH1.low g hp).2
    have e : w1.heap.size = g := by simpa [Value.ownBlock] using hg
    omega, hb1.alloc hb1.size _⟩
  clear hH1 hb1
  go_wp2_with fail
  generalize w1.alloc (.cells #[] 32) = w2 at *
  go_loopw [6, 7] (fun v i wr => ∃ (j : Nat) (P : Nat → Prop) (m : List En), j ≤ len ∧ j ≤ 60 ∧ i = .int .i64 j ∧ m.length ≤ j ∧ Tw w wr P b m m v) (fun v i _ => len - (intOf i).toNat)
  case atStart => exact ⟨0, P0, [], by omega, by omega, rfl, Nat.le_refl _, hT⟩
  case round =>
    clear hT
    obtain ⟨j, P, m, hj, hj60, rfl, hml, hT⟩ := hrel
    obtain ⟨va, vc, rfl⟩ := hT.sl.form
    by_cases h3 : j < len ∧ j < 60
    · have hlt : (j : Int) < (len : Int) := by omega
      have h60 : (j : Int) < 60 := by omega
      have d1 : decide ((j : Int) < (len : Int)) = true := decide_eq_true hlt
      have d2 : decide ((j : Int) < 60) = true := decide_eq_true h60
      have hAr := hA.below hT.bel
      obtain ⟨rfl, a0, a1, a2, a3⟩ := hAr.at_ h3.1
      have hbig := hAr.big j h3.1
      have hsb : sb < w.heap.size := by obtain ⟨C, a, -⟩ := hA.arr; exact a.lt (by omega)
      have hrise := hT.held.rise
      have hce : ∀ {W : World}, Below w.heap.size w W → W.cell? ⟨sb, off + j * 4, none⟩ = some (.string (str (X j).key)) ∧ W.cell? ⟨sb, off + j * 4 + 1, none⟩ = some (.string (str (X j).val)) ∧ W.cell? ⟨sb, off + j * 4 + 2, none⟩ = some (.int .u64 ((X j).ver : Int)) ∧ W.cell? ⟨sb, off + j * 4 + 3, none⟩ = some (.int .u64 ((X j).fin : Int)) := fun hW => ((hA.below hW).at_ h3.1).2
      generalize X j = y at *
      have hok := En.cut_ok y hbig.ver hbig.fin
      have hcut := fun W => cut_c y hbig.key hbig.val W
      generalize hxc : y.cut = x at *
      clear hxc hbig hA hAr
      go_wp2_with fail
      refine (hcut _).mono ?_
      rintro e w5 ⟨rfl, hbn⟩
      have T1 := hT.below hbn
      clear hT hbn a0 a1 a2 a3
      go_wp2_with fail
      refine (put_c hok (by omega) T1.held).mono ?_
      rintro e w6 ⟨rfl, P6, hH6, hM6⟩
      have T2 := T1.prog hH6 hM6
      clear T1 hH6 hM6
      obtain ⟨a0, a1, a2, a3⟩ := hce T2.bel
      go_wp2_with fail
      refine (hcut _).mono ?_
      rintro e w7 ⟨rfl, hbn⟩
      have T3 := T2.below hbn
      clear T2 hbn a0 a1 a2 a3
      go_wp2_with fail
      refine (rput_c (x := x) (by omega) hrise _ (T3.sl.low (Nat.zero_le _))).mono ?_
      rintro e w8 ⟨v8, rfl, hS8, hbn⟩
      have T4 := T3.doc hS8 hbn
      clear T3 hS8 hbn
      have hil := ins_len (x := x) (l := m)
      go_wp2_with fail
      go_roundw
      case rel => exact ⟨j + 1, _, _, by omega, by omega, rfl, by omega, T4⟩
      case measure => simp [intOf]; omega
    · have hexit : ¬ j < len ∨ (j < len ∧ ¬ j < 60) := by omega
      have hrise := hT.held.rise
      have hoks := hT.held.ok
      clear hA
      have hm60 : m.length ≤ 60 := by omega
      rcases hexit with h4 | ⟨h4, h5⟩
      · have d1 : decide ((j : Int) < (len : Int)) = false := decide_eq_false (by omega)
        have hT2 := hT.below ((Below.refl _ wr).alloc (Nat.le_refl _) (.cells #[] 9))
        have hS2 := St.empty wr wr.heap.size (Nat.le_refl _)
        have hwb := (Below.refl _ wr).alloc (Nat.le_refl _) (.cells #[] 9)
        go_wp2_with fail
        generalize hw2 : wr.alloc (.cells #[] 9) = w20 at *
        clear hw2
        generalize wr = wq at *
        go_loopw [8, 9] (fun o i wr => ∃ k : Nat, k ≤ m.length ∧ i = .int .i64 k ∧ St wr wq.heap.size o (ended now (m.take k)) ∧ Below wq.heap.size wq wr) (fun o i _ => m.length - (intOf i).toNat)
        case atStart => exact ⟨0, by omega, rfl, hS2, hwb⟩
        case round =>
          clear hS2 hwb hT2
          obtain ⟨k, hk, rfl, hO, hbq⟩ := hrel
          have hTr := hT.below hbq
          by_cases h6 : k < m.length
          · obtain ⟨x, hx⟩ : ∃ x, m[k]? = some x := ⟨_, List.getElem?_eq_getElem h6⟩
            obtain ⟨g, rfl, -, hg, hcell⟩ := hTr.sl.at_ hx
            have hlt : (k : Int) < (m.length : Int) := by omega
            obtain ⟨c0, -, -, c3⟩ := hcell wr rfl
            have het := ended_take (now := now) hx
            have hel := ended_len (now := now) (l := m.take k)
            rw [List.length_take] at hel
            have hkey := (hoks x (List.mem_of_getElem? hx)).key
            have HBQ := Lib.hid hbq
            have hqs := hbq.size
            clear hcell hTr hbq
            by_cases hc : 0 < x.fin ∧ x.fin ≤ now
            · rw [if_pos hc] at het
              have HE := Lib.hid het
              clear het
              have e1 : decide ((0 : Int) < (x.fin : Int)) = true := decide_eq_true (by omega)
              have e2 : decide ((x.fin : Int) ≤ (now : Int)) = true := decide_eq_true (by omega)
              generalize hD : ended now (m.take k) = D at *
              clear hD
              obtain ⟨oa, oc, rfl⟩ := hO.form
              go_wp2_with (first | (refine wpList_append_lies _ (by rfl) _ _ _ (by rfl) wq.heap.size 9 i1 _ 1 16 Try.underlying48 hi1 hy0 hy1 hy2 rfl (by omega) (.slice oa D.length oc) D.length (strsV D) (by rfl) (hO.alloc _) ⟨wr.heap.size, 0, none⟩ 1 1 [.string (str x.key)] (by rfl) (by rfl) (World.news_of_block (cs := #[.string (str x.key)]) (t := 9) (fr := (0, 0)) (heap_alloc_new wr _)) (by simp [Value.oneCell']) (by omega) (by simp [maxLen]; omega) (by omega) (by simp; omega) (wr.heap.size + 1) (by simp) ?_; intro gg cp w30 hown hgrow hat hlt3))
              go_roundw
              case rel =>
                have hrow := hO.lt
                refine ⟨k + 1, by omega, rfl, by rw [HE.out]; exact St.snoc hown, ?_⟩
                exact (HBQ.out.alloc hqs _).trans ⟨hgrow.os, hgrow.tape, hgrow.output, hgrow.size, fun b hb => hgrow.block b (by simp; omega) (fun e => by have := (hrow b e.symm).1; omega)⟩
              case measure => simp [intOf]; omega
            · rw [if_neg hc] at het
              have HE := Lib.hid het
              clear het
              have HO := Lib.hid hO
              clear hO
              rcases (by omega : ¬ 0 < x.fin ∨ (0 < x.fin ∧ ¬ x.fin ≤ now)) with hc1 | ⟨hc1, hc2⟩
              · have e1 : decide ((0 : Int) < (x.fin : Int)) = false := decide_eq_false (by omega)
                go_wp2_with fail
                go_roundw
                case rel => exact ⟨k + 1, by omega, rfl, by rw [HE.out]; exact HO.out, HBQ.out⟩
                case measure => simp [intOf]; omega
              · have e1 : decide ((0 : Int) < (x.fin : Int)) = true := decide_eq_true (by omega)
                have e2 : decide ((x.fin : Int) ≤ (now : Int)) = false := decide_eq_false (by omega)
                go_wp2_with fail
                go_roundw
                case rel => exact ⟨k + 1, by omega, rfl, by rw [HE.out]; exact HO.out, HBQ.out⟩
                case measure => simp [intOf]; omega
          · obtain rfl : k = m.length := by omega
            rw [List.take_length] at hO
            have hel := ended_len (now := now) (l := m)
            obtain ⟨oa, oc, rfl⟩ := hO.form
            go_wp2_with fail
            refine (ended_c now hn (by omega) hTr.held).mono ?_
            rintro e w31 ⟨v31, rfl, hG, hbn⟩
            have hO2 := hO.below hbn
            have hb32 := hTr.bel.trans (hbn.mono hTr.bel.size)
            clear hO hTr hbn hT hbq
            obtain ⟨ga, gc, rfl⟩ := hG.form
            generalize ended now m = D at *
            go_wp2_with fail
            refine (awake_c _).mono ?_
            rintro e w33 ⟨rfl, hbn⟩
            have hO3 := hO2.below hbn
            have hG3 := hG.below hbn
            have hb34 := hb32.trans (hbn.mono hb32.size)
            clear hO2 hG hb32 hbn
            go_wp2_with fail
            go_loopw [11] (fun i wr => ∃ k : Nat, k ≤ D.length ∧ i = .int .i64 k ∧ Below w33.heap.size w33 wr) (fun i _ => D.length - (intOf i).toNat)
            case atStart => exact ⟨0, by omega, rfl, Below.refl _ _⟩
            case round =>
              obtain ⟨k, hk, rfl, hbr⟩ := hrel
              have hO4 := hO3.below hbr
              have hG4 := hG3.below hbr
              have hb35 := hb34.trans (hbr.mono hb34.size)
              by_cases h7 : k < D.length
              · obtain ⟨s, hs⟩ : ∃ s, D[k]? = some s := ⟨_, List.getElem?_eq_getElem h7⟩
                obtain ⟨g1, rfl, -, hg1, hc1⟩ := hO4.at_ hs
                obtain ⟨g2, rfl, -, hg2, hc2⟩ := hG4.at_ hs
                have hlt : (k : Int) < (D.length : Int) := by omega
                have c1 := hc1 wr.drew rfl
                have c2 := hc2 wr.drew rfl
                have hbr2 := hbr.drew
                clear hO4 hG4 hb35 hc1 hc2 hbr
                go_upto_region 19 with (fail)
                refine region_only 9 #[false, false, false, false, false, false, false, false, false] (S := (fun W => W.cell? ⟨g2, k, none⟩ = some (.string (str s)) ∧ W.cell? ⟨g1, k, none⟩ = some (.string (str s)))) rfl rfl (by kernel_rfl) ⟨c2, c1⟩ (fun hSw => ?_)
                refine take_at 0 86 (fuel := 8) ?_ rfl rfl (by kernel_rfl) (by kernel_rfl) (by kernel_rfl) (Or.inl ⟨by rfl, ?_⟩) hSw ?_
                rotate_left
                · intro wx hSx
                  (try dsimp only at hSx)
                  go_split_ands
                  go_simp
                  (try with_reducible rfl)
                simp only [List.setIfInBounds_toArray, List.set_cons_zero, List.set_cons_succ]
                refine take_at 1 87 (fuel := 7) ?_ rfl rfl (by kernel_rfl) (by kernel_rfl) (by kernel_rfl) (Or.inl ⟨by rfl, ?_⟩) hSw ?_
                rotate_left
                · intro wx hSx
                  (try dsimp only at hSx)
                  go_split_ands
                  go_simp
                  (try with_reducible rfl)
                simp only [List.setIfInBounds_toArray, List.set_cons_zero, List.set_cons_succ]
                refine take_at 2 88 (fuel := 6) ?_ rfl rfl (by kernel_rfl) (by kernel_rfl) (by kernel_rfl) (Or.inl ⟨by rfl, ?_⟩) hSw ?_
                rotate_left
                · intro wx hSx
                  (try dsimp only at hSx)
                  go_split_ands
                  go_simp
                  (try with_reducible rfl)
                simp only [List.setIfInBounds_toArray, List.set_cons_zero, List.set_cons_succ]
                refine take_at 3 89 (fuel := 5) ?_ rfl rfl (by kernel_rfl) (by kernel_rfl) (by kernel_rfl) (Or.inl ⟨by rfl, ?_⟩) hSw ?_
                rotate_left
                · intro wx hSx
                  (try dsimp only at hSx)
                  go_split_ands
                  go_simp
                  (try with_reducible rfl)
                simp only [List.setIfInBounds_toArray, List.set_cons_zero, List.set_cons_succ]
                refine take_at 4 90 (fuel := 4) ?_ rfl rfl (by kernel_rfl) (by kernel_rfl) (by kernel_rfl) (Or.inl ⟨by rfl, ?_⟩) hSw ?_
                rotate_left
                · intro wx hSx
                  (try dsimp only at hSx)
                  go_split_ands
                  go_simp
                  (try with_reducible rfl)
                simp only [List.setIfInBounds_toArray, List.set_cons_zero, List.set_cons_succ]
                refine take_at 5 91 (fuel := 3) ?_ rfl rfl (by kernel_rfl) (by kernel_rfl) (by kernel_rfl) (Or.inl ⟨by rfl, ?_⟩) hSw ?_
                rotate_left
                · intro wx hSx
                  (try dsimp only at hSx)
                  go_split_ands
                  go_simp
                  (try with_reducible rfl)
                simp only [List.setIfInBounds_toArray, List.set_cons_zero, List.set_cons_succ]
                refine take_at 6 92 (fuel := 2) ?_ rfl rfl (by kernel_rfl) (by kernel_rfl) (by kernel_rfl) (Or.inl ⟨by rfl, ?_⟩) hSw ?_
                rotate_left
                · intro wx hSx
                  (try dsimp only at hSx)
                  go_split_ands
                  go_simp
                  (try with_reducible rfl)
                simp only [List.setIfInBounds_toArray, List.set_cons_zero, List.set_cons_succ]
                refine take_at 7 93 (fuel := 1) ?_ rfl rfl (by kernel_rfl) (by kernel_rfl) (by kernel_rfl) (Or.inl ⟨by rfl, ?_⟩) hSw ?_
                rotate_left
                · intro wx hSx
                  (try dsimp only at hSx)
                  go_split_ands
                  go_simp
                  (try with_reducible rfl)
                simp only [List.setIfInBounds_toArray, List.set_cons_zero, List.set_cons_succ]
                refine take_at 8 94 (fuel := 0) ?_ rfl rfl (by kernel_rfl) (by kernel_rfl) (by kernel_rfl) (Or.inl ⟨by rfl, ?_⟩) hSw ?_
                rotate_left
                · intro wx hSx
                  (try dsimp only at hSx)
                  go_split_ands
                  go_simp
                  (try with_reducible rfl)
                simp only [List.setIfInBounds_toArray, List.set_cons_zero, List.set_cons_succ]
                refine wpAnyH_done (by kernel_rfl) ⟨rfl, ?_⟩ 0
                clear hSw c1 c2
                generalize wr.drew = w40 at *
                go_wp2_with fail
                go_roundw
                case rel => exact ⟨k + 1, by omega, rfl, hbr2⟩
                case measure => simp [intOf]; omega
              · obtain rfl : k = D.length := by omega
                clear hO4 hG4
                go_wp2_with fail
                go_ret
                exact ⟨rfl, hb35⟩
      · have d1 : decide ((j : Int) < (len : Int)) = true := decide_eq_true (by omega)
        have d2 : decide ((j : Int) < 60) = false := decide_eq_false (by omega)
        have hT2 := hT.below ((Below.refl _ wr).alloc (Nat.le_refl _) (.cells #[] 9))
        have hS2 := St.empty wr wr.heap.size (Nat.le_refl _)
        have hwb := (Below.refl _ wr).alloc (Nat.le_refl _) (.cells #[] 9)
        go_wp2_with fail
        generalize hw2 : wr.alloc (.cells #[] 9) = w20 at *
        clear hw2
        generalize wr = wq at *
        go_loopw [8, 9] (fun o i wr => ∃ k : Nat, k ≤ m.length ∧ i = .int .i64 k ∧ St wr wq.heap.size o (ended now (m.take k)) ∧ Below wq.heap.size wq wr) (fun o i _ => m.length - (intOf i).toNat)
        case atStart => exact ⟨0, by omega, rfl, hS2, hwb⟩
        case round =>
          clear hS2 hwb hT2
          obtain ⟨k, hk, rfl, hO, hbq⟩ := hrel
          have hTr := hT.below hbq
          by_cases h6 : k < m.length
          · obtain ⟨x, hx⟩ : ∃ x, m[k]? = some x := ⟨_, List.getElem?_eq_getElem h6⟩
            obtain ⟨g, rfl, -, hg, hcell⟩ := hTr.sl.at_ hx
            have hlt : (k : Int) < (m.length : Int) := by omega
            obtain ⟨c0, -, -, c3⟩ := hcell wr rfl
            have het := ended_take (now := now) hx
            have hel := ended_len (now := now) (l := m.take k)
            rw [List.length_take] at hel
            have hkey := (hoks x (List.mem_of_getElem? hx)).key
            have HBQ := Lib.hid hbq
            have hqs := hbq.size
            clear hcell hTr hbq
            by_cases hc : 0 < x.fin ∧ x.fin ≤ now
            · rw [if_pos hc] at het
              have HE := Lib.hid het
              clear het
              have e1 : decide ((0 : Int) < (x.fin : Int)) = true := decide_eq_true (by omega)
              have e2 : decide ((x.fin : Int) ≤ (now : Int)) = true := decide_eq_true (by omega)
              generalize hD : ended now (m.take k) = D at *
              clear hD
              obtain ⟨oa, oc, rfl⟩ := hO.form
              go_wp2_with (first | (refine wpList_append_lies _ (by rfl) _ _ _ (by rfl) wq.heap.size 9 i1 _ 1 16 Try.underlying48 hi1 hy0 hy1 hy2 rfl (by omega) (.slice oa D.length oc) D.length (strsV D) (by rfl) (hO.alloc _) ⟨wr.heap.size, 0, none⟩ 1 1 [.string (str x.key)] (by rfl) (by rfl) (World.news_of_block (cs := #[.string (str x.key)]) (t := 9) (fr := (0, 0)) (heap_alloc_new wr _)) (by simp [Value.oneCell']) (by omega) (by simp [maxLen]; omega) (by omega) (by simp; omega) (wr.heap.size + 1) (by simp) ?_; intro gg cp w30 hown hgrow hat hlt3))
              go_roundw
              case rel =>
                have hrow := hO.lt
                refine ⟨k + 1, by omega, rfl, by rw [HE.out]; exact St.snoc hown, ?_⟩
                exact (HBQ.out.alloc hqs _).trans ⟨hgrow.os, hgrow.tape, hgrow.output, hgrow.size, fun b hb => hgrow.block b (by simp; omega) (fun e => by have := (hrow b e.symm).1; omega)⟩
              case measure => simp [intOf]; omega
            · rw [if_neg hc] at het
              have HE := Lib.hid het
              clear het
              have HO := Lib.hid hO
              clear hO
              rcases (by omega : ¬ 0 < x.fin ∨ (0 < x.fin ∧ ¬ x.fin ≤ now)) with hc1 | ⟨hc1, hc2⟩
              · have e1 : decide ((0 : Int) < (x.fin : Int)) = false := decide_eq_false (by omega)
                go_wp2_with fail
                go_roundw
                case rel => exact ⟨k + 1, by omega, rfl, by rw [HE.out]; exact HO.out, HBQ.out⟩
                case measure => simp [intOf]; omega
              · have e1 : decide ((0 : Int) < (x.fin : Int)) = true := decide_eq_true (by omega)
                have e2 : decide ((x.fin : Int) ≤ (now : Int)) = false := decide_eq_false (by omega)
                go_wp2_with fail
                go_roundw
                case rel => exact ⟨k + 1, by omega, rfl, by rw [HE.out]; exact HO.out, HBQ.out⟩
                case measure => simp [intOf]; omega
          · obtain rfl : k = m.length := by omega
            rw [List.take_length] at hO
            have hel := ended_len (now := now) (l := m)
            obtain ⟨oa, oc, rfl⟩ := hO.form
            go_wp2_with fail
            refine (ended_c now hn (by omega) hTr.held).mono ?_
            rintro e w31 ⟨v31, rfl, hG, hbn⟩
            have hO2 := hO.below hbn
            have hb32 := hTr.bel.trans (hbn.mono hTr.bel.size)
            clear hO hTr hbn hT hbq
            obtain ⟨ga, gc, rfl⟩ := hG.form
            generalize ended now m = D at *
            go_wp2_with fail
            refine (awake_c _).mono ?_
            rintro e w33 ⟨rfl, hbn⟩
            have hO3 := hO2.below hbn
            have hG3 := hG.below hbn
            have hb34 := hb32.trans (hbn.mono hb32.size)
            clear hO2 hG hb32 hbn
            go_wp2_with fail
            go_loopw [11] (fun i wr => ∃ k : Nat, k ≤ D.length ∧ i = .int .i64 k ∧ Below w33.heap.size w33 wr) (fun i _ => D.length - (intOf i).toNat)
            case atStart => exact ⟨0, by omega, rfl, Below.refl _ _⟩
            case round =>
              obtain ⟨k, hk, rfl, hbr⟩ := hrel
              have hO4 := hO3.below hbr
              have hG4 := hG3.below hbr
              have hb35 := hb34.trans (hbr.mono hb34.size)
              by_cases h7 : k < D.length
              · obtain ⟨s, hs⟩ : ∃ s, D[k]? = some s := ⟨_, List.getElem?_eq_getElem h7⟩
                obtain ⟨g1, rfl, -, hg1, hc1⟩ := hO4.at_ hs
                obtain ⟨g2, rfl, -, hg2, hc2⟩ := hG4.at_ hs
                have hlt : (k : Int) < (D.length : Int) := by omega
                have c1 := hc1 wr.drew rfl
                have c2 := hc2 wr.drew rfl
                have hbr2 := hbr.drew
                clear hO4 hG4 hb35 hc1 hc2 hbr
                go_upto_region 19 with (fail)
                refine region_only 9 #[false, false, false, false, false, false, false, false, false] (S := (fun W => W.cell? ⟨g2, k, none⟩ = some (.string (str s)) ∧ W.cell? ⟨g1, k, none⟩ = some (.string (str s)))) rfl rfl (by kernel_rfl) ⟨c2, c1⟩ (fun hSw => ?_)
                refine take_at 0 86 (fuel := 8) ?_ rfl rfl (by kernel_rfl) (by kernel_rfl) (by kernel_rfl) (Or.inl ⟨by rfl, ?_⟩) hSw ?_
                rotate_left
                · intro wx hSx
                  (try dsimp only at hSx)
                  go_split_ands
                  go_simp
                  (try with_reducible rfl)
                simp only [List.setIfInBounds_toArray, List.set_cons_zero, List.set_cons_succ]
                refine take_at 1 87 (fuel := 7) ?_ rfl rfl (by kernel_rfl) (by kernel_rfl) (by kernel_rfl) (Or.inl ⟨by rfl, ?_⟩) hSw ?_
                rotate_left
                · intro wx hSx
                  (try dsimp only at hSx)
                  go_split_ands
                  go_simp
                  (try with_reducible rfl)
                simp only [List.setIfInBounds_toArray, List.set_cons_zero, List.set_cons_succ]
                refine take_at 2 88 (fuel := 6) ?_ rfl rfl (by kernel_rfl) (by kernel_rfl) (by kernel_rfl) (Or.inl ⟨by rfl, ?_⟩) hSw ?_
                rotate_left
                · intro wx hSx
                  (try dsimp only at hSx)
                  go_split_ands
                  go_simp
                  (try with_reducible rfl)
                simp only [List.setIfInBounds_toArray, List.set_cons_zero, List.set_cons_succ]
                refine take_at 3 89 (fuel := 5) ?_ rfl rfl (by kernel_rfl) (by kernel_rfl) (by kernel_rfl) (Or.inl ⟨by rfl, ?_⟩) hSw ?_
                rotate_left
                · intro wx hSx
                  (try dsimp only at hSx)
                  go_split_ands
                  go_simp
                  (try with_reducible rfl)
                simp only [List.setIfInBounds_toArray, List.set_cons_zero, List.set_cons_succ]
                refine take_at 4 90 (fuel := 4) ?_ rfl rfl (by kernel_rfl) (by kernel_rfl) (by kernel_rfl) (Or.inl ⟨by rfl, ?_⟩) hSw ?_
                rotate_left
                · intro wx hSx
                  (try dsimp only at hSx)
                  go_split_ands
                  go_simp
                  (try with_reducible rfl)
                simp only [List.setIfInBounds_toArray, List.set_cons_zero, List.set_cons_succ]
                refine take_at 5 91 (fuel := 3) ?_ rfl rfl (by kernel_rfl) (by kernel_rfl) (by kernel_rfl) (Or.inl ⟨by rfl, ?_⟩) hSw ?_
                rotate_left
                · intro wx hSx
                  (try dsimp only at hSx)
                  go_split_ands
                  go_simp
                  (try with_reducible rfl)
                simp only [List.setIfInBounds_toArray, List.set_cons_zero, List.set_cons_succ]
                refine take_at 6 92 (fuel := 2) ?_ rfl rfl (by kernel_rfl) (by kernel_rfl) (by kernel_rfl) (Or.inl ⟨by rfl, ?_⟩) hSw ?_
                rotate_left
                · intro wx hSx
                  (try dsimp only at hSx)
                  go_split_ands
                  go_simp
                  (try with_reducible rfl)
                simp only [List.setIfInBounds_toArray, List.set_cons_zero, List.set_cons_succ]
                refine take_at 7 93 (fuel := 1) ?_ rfl rfl (by kernel_rfl) (by kernel_rfl) (by kernel_rfl) (Or.inl ⟨by rfl, ?_⟩) hSw ?_
                rotate_left
                · intro wx hSx
                  (try dsimp only at hSx)
                  go_split_ands
                  go_simp
                  (try with_reducible rfl)
                simp only [List.setIfInBounds_toArray, List.set_cons_zero, List.set_cons_succ]
                refine take_at 8 94 (fuel := 0) ?_ rfl rfl (by kernel_rfl) (by kernel_rfl) (by kernel_rfl) (Or.inl ⟨by rfl, ?_⟩) hSw ?_
                rotate_left
                · intro wx hSx
                  (try dsimp only at hSx)
                  go_split_ands
                  go_simp
                  (try with_reducible rfl)
                simp only [List.setIfInBounds_toArray, List.set_cons_zero, List.set_cons_succ]
                refine wpAnyH_done (by kernel_rfl) ⟨rfl, ?_⟩ 0
                clear hSw c1 c2
                generalize wr.drew = w40 at *
                go_wp2_with fail
                go_roundw
                case rel => exact ⟨k + 1, by omega, rfl, hbr2⟩
                case measure => simp [intOf]; omega
              · obtain rfl : k = D.length := by omega
                clear hO4 hG4
                go_wp2_with fail
                go_ret
                exact ⟨rfl, hb35⟩
set_option linter.unusedVariables false in
set_option maxRecDepth 100000 in
theorem tableEnds_lifted (os : Os) (started : os.Started) (H : Type) (enc : TypeId × Value → H) :
    ReturnsInHanded {} Try.checked os 5 .any (Rows.tableEndsSpec.pre6 enc Try.prog Try.f5 Rows.tableEndsRow.domain false) (Rows.tableEndsSpec.post enc Try.prog Try.f5 false true false false) := by
  refine returnsInHanded_of_change (C := Try.checked) Kit.own started (by kernel_rfl) Try.func5
    (ChangeSpec.witness6 (enc := enc) (C := Try.checked) false ⟨#[], #[.slice none 0 0, .int .u64 0], []⟩ 8 (by kernel_rfl) (by kernel_rfl) (by kernel_rfl) (by kernel_rfl)) ?_
  intro W base args ds gs before hval0 hW hcnd _
  have hval : ∀ (j : Nat) t v, Try.f5.params[j]? = some t → args[j]? = some v → Value.okWide Try.prog W .any base t v := hval0
  have hW' := hW
  obtain ⟨p, q, hA0, hV, rfl, hfz, hnd⟩ := hW
  have hA : DataW.TrodAll enc Try.prog W 0 (fun _ => true) true Try.f5.params.toList args.toList ds p := hA0
  rw [Try.params5] at hA hval
  obtain ⟨v0, vs0, d0, ds0, p0, q0, hargs, rfl, rfl, h0, r0⟩ := trodAll_cons hA
  obtain ⟨v1, vs1, d1, ds1, p1, q1, rfl, rfl, rfl, h1, r1⟩ := trodAll_cons r0
  obtain ⟨rfl, rfl, rfl⟩ := trodAll_nil r1
  obtain ⟨rfl, rfl⟩ := trodVars_none hV
  obtain rfl : args = #[v0, v1] := by cases args; simp_all
  obtain ⟨b0, c0, l0, rfl⟩ := okWide_slice Try.underlying29 (hval 0 29 v0 rfl rfl)
  obtain ⟨fuel0, hf0⟩ := h0
  obtain ⟨ao0, len0, cap0, sb0, off0, X0, hv0, ht0⟩ := open_ents (show DataW.trod enc Try.prog W 0 (fun _ => true) true fuel0 29 [.slice b0 c0 l0] = some _ from hf0)
  injection hv0 with hv0x hv0y hv0z
  subst hv0x hv0y hv0z
  obtain ⟨a1, rfl, rfl, rfl, w1⟩ := open_int Try.underlying22 (hval 1 22 v1 rfl rfl) h1
  obtain ⟨now, rfl, hn1⟩ := Arry.u64_nat w1
  clear hA0 hval0
  refine (tableEnds_walk _ _ _ _ _ _ now hn1 W ht0).mono fun e W' ⟨he, hg⟩ => ?_
  subst he
  exact ⟨_, rfl, Kit.law_post hW' rfl (by kernel_rfl) rfl (by kernel_rfl) hg⟩

theorem tableEnds_over : Rows.tableEndsRow.holds Try.pinned (OpenSpec.ofChange Rows.tableEndsSpec) :=
  OpenClaim.holds_of_wide 5 Try.f5 rfl rfl rfl rfl rfl rfl rfl ⟨rfl, rfl, rfl, rfl, rfl⟩ rfl rfl rfl rfl rfl (by kernel_rfl) Try.func5 (by kernel_rfl)
    (of_decide_eq_true (by kernel_rfl)) (by unfold Func.isWrapper; first | (rw [if_pos (by decide +kernel)]; kernel_rfl) | (rw [if_neg (by decide +kernel)]; exact ⟨rfl, rfl⟩))
    (fun os started H enc _ => tableEnds_lifted os started H enc)

theorem tableEnds_holds : Rows.TableEndsSaid :=
  tableEnds_over
end Go.Proofs.Ytdjfdpmfpnbpjaa.Taby
