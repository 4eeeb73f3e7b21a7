/- Layer 8 (tiny): for every input the call returns true and leaves what it was given as it was: all that were kept are kept, but those that were told to go (TinyKeeps). No condition. -/
import Derived.Test.YtgfpedcdclgmiaaKit
import Derived.Test.YtgfpedcdclgmiaaTexts
import Derived.Test.YtgfpedcdclgmiaaTinyLawNone
import Derived.Deep.QuietTactic
import Derived.BigQuiet
namespace Go.Proofs.Ytgfpedcdclgmiaa.Tinyy
open Go.ChangeShapes Go.WideShapes Go.ChangeAt Go.RowKit Go.Shelf
open Wirey (Blk Row str str_size str_list str_of str_take Kp Texts)
open Ringy Go.ChangeMaps Go.Maps

attribute [local go_sem] Oper.semAt_some

/-- Those of a list that do not go. -/
def rest (G : List Key) (l : List Key) : List Key := l.filter fun x => decide (x ∉ G)
theorem rest_snoc (G : List Key) (l : List Key) (x : Key) : rest G (l ++ [x]) = if x ∉ G then rest G l ++ [x] else rest G l := by
  unfold rest
  rw [List.filter_append]
  by_cases e : x ∉ G
  · rw [if_pos e]; simp [e]
  · rw [if_neg e]
    have : decide (x ∉ G) = false := decide_eq_false e
    rw [List.filter_cons, this, if_neg (by decide)]
    simp
theorem rest_le (G : List Key) (l : List Key) : (rest G l).length ≤ l.length := List.length_filter_le _ _
theorem rest_mem {x : Key} {G l : List Key} : x ∈ rest G l ↔ x ∈ l ∧ x ∉ G := by unfold rest; simp
theorem strike_snoc (k : Key) (l : List Key) (x : Key) : strike k (l ++ [x]) = if x ≠ k then strike k l ++ [x] else strike k l := by
  unfold strike
  rw [List.filter_append]
  by_cases e : x ≠ k
  · rw [if_pos e]; simp [e]
  · rw [if_neg e]
    have : decide (x ≠ k) = false := decide_eq_false e
    rw [List.filter_cons, this, if_neg (by decide)]
    simp
theorem strike_le (k : Key) (l : List Key) : (strike k l).length ≤ l.length := List.length_filter_le _ _
theorem take_more {l : List Key} {i : Nat} (h : i < l.length) : l.take (i + 1) = l.take i ++ [l[i]?.getD []] := by
  rw [List.take_succ_eq_append_getElem h, List.getElem?_eq_getElem h]; rfl
/-- A list of all that are kept. -/
structure Kept (v : Tv) (L : List Key) : Prop where
  ok : v.Ok
  nd : L.Nodup
  mem : ∀ x, x ∈ L ↔ v.has x = true
theorem Kept.len {v : Tv} {L : List Key} (h : Kept v L) : v.kept = L.length := Tv.kept_of h.ok.fit h.nd h.mem
theorem Kept.next {v : Tv} {L : List Key} (h : Kept v L) {k : Key} (hk : k.length ≤ 64) : Kept (v.ins k) (rest (v.insK k) (strike k L ++ [k])) := by
  have hs := Tv.ins_spec h.ok hk
  refine ⟨hs.ok, List.Pairwise.filter _ (List.nodup_append.2 ⟨strike_nodup h.nd, by simp, fun a ha b hb e => by
    rw [List.mem_singleton] at hb
    exact (strike_mem.1 ha).2 (e.trans hb)⟩), fun x => ?_⟩
  rw [hs.has, rest_mem, List.mem_append, strike_mem, List.mem_singleton, h.mem, Bool.and_eq_true, Bool.or_eq_true, decide_eq_true_eq, decide_eq_true_eq]
  by_cases e : x = k
  · simp [e]
  · simp [e]
theorem below_drewN {B : Nat} {w w' : World} (h : Below B w w') (n : Nat) : Below B w (w'.drewN n) := ⟨h.os, h.tape, h.output, h.size, h.block⟩
theorem row_at {w : World} {base : Nat} {val : Value} {l : List Key} (hr : w.ownsRow base 9 1 val l.length (strsV l)) {i : Nat} (hi : i < l.length) : ∃ g c, val = .slice (some ⟨g, 0, none⟩) l.length c ∧ w.cell? ⟨g, i, none⟩ = some (.string (str (l[i]?.getD []))) := by
  obtain ⟨g, c, hv, -, -⟩ := hr.form (by omega)
  rw [hv] at hr
  refine ⟨g, c, hv, ?_⟩
  rw [hr.cellAt i (by omega)]
  exact strsV_at hi
section
variable {w w' : World} {base B : Nat} {m : Rm} {val : Value} {l : List Key}
theorem Tell.later (h : Tell base B m val l w) {C : Nat} (hb : Below C w w') (hC : w.heap.size ≤ C) : Tell base B m val l w' :=
  ⟨ownsRow_stay h.row fun b hb2 => hb.block b (Nat.lt_of_lt_of_le (h.row.lt b hb2).2 hC), h.no⟩
end
theorem few_max (l : List UInt8) : (fewL l).length ≤ maxLen := by have := fewL_le l; unfold maxLen; omega
set_option maxHeartbeats 40000000 in
set_option maxRecDepth 100000 in
theorem tinyKeeps_walk (a0 : Int) (_w0 : (Lit.int .i64 a0).wf = true) (ao : Option Addr) (n cap sb off : Nat) (T : Nat → List UInt8) (w : World) (ht : Texts w ao n sb off T) :
    Calls Try.prog 4 #[.int .i64 a0, .slice ao n cap] w fun e w' => e = .returned (.bool true) ∧ Below w.heap.size w w' := by
  obtain ⟨i0, hi0, hz0, hz1, hz2⟩ := info_parts str_info
  obtain ⟨x, hx, hx2⟩ := and_nat a0 15 4 (by decide) (by omega)
  have hx : bits .and .i64 a0 15 = (x : Int) := hx
  have hn63 := ht.n63
  have hN := newT_c (n := 1 + x) (seed := 9) (by omega) (by omega) (by omega) w
  rw [Int.natCast_add] at hN
  have hS0 : Kept (Tv.new (1 + x) 9) [] := ⟨Tv.new_ok (by omega) (by omega) (by omega), List.nodup_nil, fun x => ⟨fun h => absurd h List.not_mem_nil, fun h => by
    obtain ⟨i, -, h⟩ := Tv.has_iff.1 h
    cases h⟩⟩
  have hm0 : (Tv.new (1 + x) 9).most = 1 + x := rfl
  go_enter Try.func4, Try.ntmps4
  go_wp2_with fail
  refine hN.mono ?_
  rintro e w1 ⟨A, m, rfl, h1⟩
  go_wp2_with fail
  refine (awakeT_c _).mono ?_
  rintro e w2 ⟨rfl, hb2⟩
  have h2 := h1.later hb2 (Nat.le_refl _)
  clear h1 hb2 hN
  go_upto_region 6 with (fail)
  have hT0 : Tell w.heap.size w.heap.size m (.slice (some ⟨w2.heap.size, 0, none⟩) 0 0) [] (w2.alloc (.cells #[] 9)) :=
    ⟨World.ownsRow_lit (size := 1) (e := 9) w2 #[] 0 h2.below.size (Nat.zero_le _) rfl, fun b hb => by
      obtain rfl : w2.heap.size = b := by injection hb
      exact ⟨fun ho => by have := h2.h.lt _ ho; omega, fun e => by have := h2.sk.lt; have := e.2; omega⟩⟩
  have h3 := h2.alloc (.cells #[] 9)
  generalize w2.alloc (.cells #[] 9) = w3 at *
  generalize Value.slice (some ⟨w2.heap.size, 0, none⟩) 0 0 = v0 at *
  clear h2
  go_wp2_with fail
  go_loopw [8, 9] (fun hv i wr => ∃ (j : Nat) (m : Rm) (v : Tv) (L : List Key), j ≤ n ∧ j ≤ 100 ∧ i = .int .i64 j ∧ HeldT w A w.heap.size (w.heap.size + 8) wr m v ∧ v.most = 1 + x ∧ Kept v L ∧ Tell w.heap.size w.heap.size m hv L wr) (fun _ i _ => 100 - (intOf i).toNat)
  case atStart => exact ⟨0, m, _, [], by omega, by omega, rfl, h3, hm0, hS0, hT0⟩
  case round =>
    obtain ⟨j, m, v, L, hjn, hj100, rfl, hH, hmo, hK, hT⟩ := hrel
    clear h3 hT0 hS0 hm0
    by_cases h1 : j < n ∧ j < 100
    · obtain ⟨h1, h100⟩ := h1
      have d1 : decide ((j : Int) < (n : Int)) = true := decide_eq_true (by omega)
      have d2 : decide ((j : Int) < 100) = true := decide_eq_true (by omega)
      have hao := ht.ao (by omega)
      have hcell := (ht.below hH.below (fun h => ht.lt h)).cell j h1
      have hsize := ht.size j h1
      subst hao
      go_wp2_with fail
      refine (fewT_c (T j) hsize _).mono ?_
      rintro e w' ⟨rfl, rfl⟩
      have hfl := few_max (T j)
      generalize hkk : fewL (T j) = k at *
      clear hkk hcell hsize
      have hsz := str_size k
      by_cases hk : k.length ≤ 64
      · have hk2 : decide ((64 : Int) < (k.length : Int)) = false := decide_eq_false (by omega)
        have hKn := hK.next hk
        have hins : v.insert k = v.ins k := by unfold Tv.insert; rw [if_neg (by omega)]
        have hinsK : v.insertK k = v.insK k := by unfold Tv.insertK; rw [if_neg (by omega)]
        have hsp := Tv.ins_spec hK.ok hk
        have hgl := hsp.glen
        have hmo2 := hsp.most.trans hmo
        have hi := insertT_c hfl hK.ok hH
        rw [hins, hinsK] at hi
        have hLl : L.length ≤ 16 := by have := hK.len; have := hK.ok.kept; omega
        clear hsp hK hins hinsK
        generalize v.insK k = G at *
        go_wp2_with fail
        refine hi.mono ?_
        rintro e w5 ⟨gv, m5, rfl, h5, hS5, hG5⟩
        have hT5 := hT.step hS5
        have hwr := hH.below.size
        clear hi hH hT hS5
        generalize v.ins k = v5 at *
        go_upto_region 13 with (fail)
        have hb6 := (Below.refl _ w5).alloc (Nat.le_refl _) (.cells #[] 9)
        have hown6 := World.ownsRow_lit (size := 1) (e := 9) (base := w5.heap.size) w5 #[] 0 (Nat.le_refl _) (Nat.zero_le _) rfl
        generalize w5.alloc (.cells #[] 9) = w6 at *
        obtain ⟨ga, gc, rfl⟩ := hG5.form
        obtain ⟨va, vc, rfl⟩ := hT5.form
        generalize hs8 : Value.slice (some ⟨w5.heap.size, 0, none⟩) 0 0 = v8 at *
        clear hs8
        have hw5 := h5.below.size
        go_wp2_with fail
        go_loopw [12, 13] (fun v2 i wr => ∃ j2 : Nat, j2 ≤ L.length ∧ i = .int .i64 j2 ∧ wr.ownsRow w5.heap.size 9 1 v2 (strike k (L.take j2)).length (strsV (strike k (L.take j2))) ∧ Below w5.heap.size w5 wr) (fun _ i _ => L.length - (intOf i).toNat)
        case atStart => exact ⟨0, Nat.zero_le _, rfl, hown6, hb6⟩
        case round =>
          obtain ⟨j2, hj2, rfl, hown, hbw⟩ := hrel
          clear hown6 hb6
          have hTw := hT5.later hbw (Nat.le_refl _)
          by_cases hlt : j2 < L.length
          · have d3 : decide ((j2 : Int) < (L.length : Int)) = true := decide_eq_true (by omega)
            obtain ⟨g, c, hv, hg⟩ := row_at hTw.row hlt
            cases hv
            have HTK := Lib.hid (take_more hlt)
            generalize L[j2]?.getD [] = y at *
            have htl := Wirey.toList_str
            by_cases e : y = k
            · have e2 : (y == k) = true := beq_iff_eq.2 e
              have hst : strike k (L.take (j2 + 1)) = strike k (L.take j2) := by rw [HTK.out, strike_snoc, if_neg (fun h => h e)]
              have HST := Lib.hid hst
              clear hst
              go_wp2_with fail
              go_roundw
              case rel => exact ⟨j2 + 1, by omega, by simp, by rw [HST.out]; exact hown, hbw⟩
              case measure => simp [intOf]; omega
            · have e2 : (y == k) = false := beq_eq_false_iff_ne.2 e
              have hst : strike k (L.take (j2 + 1)) = strike k (L.take j2) ++ [y] := by rw [HTK.out, strike_snoc, if_pos e]
              have HST := Lib.hid hst
              have hln : (strike k (L.take j2)).length ≤ 18 := by
                have h1 := strike_le k (L.take j2)
                rw [List.length_take] at h1
                omega
              clear hst
              generalize strike k (L.take j2) = Q at *
              have hwd := hbw.size
              have hownd := hown
              have hbd := hbw
              generalize hwdd : wr = wd at *
              go_wp2_with (first | (refine wpList_append_lies _ (by rfl) _ _ _ (by rfl) w5.heap.size 9 i0 _ 1 16 Try.underlying40 hi0 hz0 hz1 hz2 rfl (by omega) u12 Q.length (strsV Q) (by rfl) (hownd.alloc _) ⟨wd.heap.size, 0, none⟩ 1 1 [.string (str y)] (by rfl) (by rfl) (World.news_of_block (cs := #[.string (str y)]) (t := 9) (fr := (0, 0)) (heap_alloc_new wd _)) (by simp [Value.oneCell']) (by omega) (by simp [maxLen]; omega) (by omega) (by simp; omega) (wd.heap.size + 1) (by simp) ?_; intro gg cp w7 hown1 hgrow hat3 hlt3))
              go_roundw
              case rel =>
                refine ⟨j2 + 1, by omega, by simp, ?_, ?_⟩
                · rw [HST.out, strsV_snoc]; simpa using hown1
                · exact (hbd.alloc hwd _).trans ⟨hgrow.os, hgrow.tape, hgrow.output, hgrow.size, fun b hb => hgrow.block b (by simp; omega) (fun e => by have := (hownd.lt b e.symm).1; omega)⟩
              case measure => simp [intOf]; omega
          · have d3 : decide ((j2 : Int) < (L.length : Int)) = false := decide_eq_false (by omega)
            obtain rfl : j2 = L.length := by omega
            rw [List.take_length] at hown
            have hln : (strike k L).length ≤ 18 := by have h1 := strike_le k L; omega
            have hNn : (strike k L ++ [k]).length ≤ 17 := by have h1 := strike_le k L; rw [List.length_append, List.length_singleton]; omega
            generalize strike k L = Q at *
            have hwd := hbw.size
            have hownd := hown
            have hbd := hbw
            generalize hwdd : wr = wd at *
            clear hTw
            go_upto_region 19 with (first | (refine wpList_append_lies _ (by rfl) _ _ _ (by rfl) w5.heap.size 9 i0 _ 1 16 Try.underlying40 hi0 hz0 hz1 hz2 rfl (by omega) u12 Q.length (strsV Q) (by rfl) (hownd.alloc _) ⟨wd.heap.size, 0, none⟩ 1 1 [.string (str k)] (by rfl) (by rfl) (World.news_of_block (cs := #[.string (str k)]) (t := 9) (fr := (0, 0)) (heap_alloc_new wd _)) (by simp [Value.oneCell']) (by omega) (by simp [maxLen]; omega) (by omega) (by simp; omega) (wd.heap.size + 1) (by simp) ?_; intro gg cp w7 hown1 hgrow hat3 hlt3))
            obtain ⟨N, hNd⟩ : ∃ N, N = Q ++ [k] := ⟨_, rfl⟩
            have hNl : N.length = Q.length + 1 := by rw [hNd, List.length_append, List.length_singleton]
            have hN7 : w7.ownsRow w5.heap.size 9 1 (.slice (some ⟨gg, 0, none⟩) N.length cp) N.length (strsV N) := by
              rw [hNd, strsV_snoc, ← hNd, hNl]
              exact hown1
            have hb7 : Below w5.heap.size w5 w7 := (hbd.alloc hwd _).trans ⟨hgrow.os, hgrow.tape, hgrow.output, hgrow.size, fun b hb => hgrow.block b (by simp; omega) (fun e => by have := (hownd.lt b e.symm).1; omega)⟩
            rw [← hNl]
            rw [← hNd] at hKn hNn
            have hG7 := hG5.later hb7 (Nat.le_refl _)
            have h7 := h5.later hb7 (Nat.le_refl _)
            have hs7 := hb7.size
            clear hown1 hgrow hat3 hlt3 hNd hNl hown hownd hbw hbd hwd hwdd hln hT5 hG5 hb7 h5
            clear Q
            generalize w7 = wc at *
            go_upto_region 20 with (fail)
            have hb8 := (Below.refl _ wc).alloc (Nat.le_refl _) (.cells #[] 9)
            have hown8 := World.ownsRow_lit (size := 1) (e := 9) (base := wc.heap.size) wc #[] 0 (Nat.le_refl _) (Nat.zero_le _) rfl
            generalize wc.alloc (.cells #[] 9) = w8 at *
            generalize hs8 : Value.slice (some ⟨wc.heap.size, 0, none⟩) 0 0 = v8 at *
            clear hs8
            go_wp2_with fail
            go_loopw [8, 14] (fun v2 i wr => ∃ j3 : Nat, j3 ≤ N.length ∧ i = .int .i64 j3 ∧ wr.ownsRow wc.heap.size 9 1 v2 (rest G (N.take j3)).length (strsV (rest G (N.take j3))) ∧ Below wc.heap.size wc wr) (fun _ i _ => N.length - (intOf i).toNat)
            case atStart => exact ⟨0, Nat.zero_le _, rfl, hown8, hb8⟩
            case round =>
              obtain ⟨j3, hj3, rfl, hown, hbw⟩ := hrel
              clear hown8 hb8
              have hNw := ownsRow_stay hN7 (fun b hb => hbw.block b (hN7.lt b hb).2)
              have hGw := hG7.later hbw (Nat.le_refl _)
              by_cases hlt : j3 < N.length
              · have d4 : decide ((j3 : Int) < (N.length : Int)) = true := decide_eq_true (by omega)
                obtain ⟨ga2, c, hv, hg⟩ := row_at hNw hlt
                cases hv
                have HTK := Lib.hid (take_more hlt)
                generalize N[j3]?.getD [] = y at *
                have htl := Wirey.toList_str
                rcases (show G = [] ∨ ∃ z, G = [z] by
                  cases G with
                  | nil => exact .inl rfl
                  | cons z G => cases G with | nil => exact .inr ⟨z, rfl⟩ | cons _ _ => simp at hgl) with rfl | ⟨z, rfl⟩
                · have e0 : True := trivial
                  have hst : rest [] (N.take (j3 + 1)) = rest [] (N.take j3) ++ [y] := by rw [HTK.out, rest_snoc, if_pos (by simp)]
                  have HST := Lib.hid hst
                  have hln : (rest [] (N.take j3)).length ≤ 18 := by
                    have h1 := rest_le [] (N.take j3)
                    rw [List.length_take] at h1
                    omega
                  clear hst
                  generalize rest [] (N.take j3) = Q at *
                  have hws := hbw.size
                  go_wp2_with fail
                  go_quiet (fail)
                  have hownd : (wr.drewN nq).ownsRow wc.heap.size 9 1 u8 Q.length (strsV Q) := ownsRow_stay hown (fun _ _ => rfl)
                  have hbd := below_drewN hbw nq
                  have hwd : wc.heap.size ≤ (wr.drewN nq).heap.size := hws
                  have hgd : (wr.drewN nq).cell? ⟨gg, j3, none⟩ = some (.string (str y)) := hg
                  generalize wr.drewN nq = wd at *
                  go_wp2_with (first | (refine wpList_append_lies _ (by rfl) _ _ _ (by rfl) wc.heap.size 9 i0 _ 1 16 Try.underlying40 hi0 hz0 hz1 hz2 rfl (by omega) u8 Q.length (strsV Q) (by rfl) (hownd.alloc _) ⟨wd.heap.size, 0, none⟩ 1 1 [.string (str y)] (by rfl) (by rfl) (World.news_of_block (cs := #[.string (str y)]) (t := 9) (fr := (0, 0)) (heap_alloc_new wd _)) (by simp [Value.oneCell']) (by omega) (by simp [maxLen]; omega) (by omega) (by simp; omega) (wd.heap.size + 1) (by simp) ?_; intro gg cp w7 hown1 hgrow hat3 hlt3))
                  go_roundw
                  case rel =>
                    (repeat apply Exists.intro)
                    refine And.intro ?_ rfl
                    refine ⟨j3 + 1, by omega, by simp, ?_, ?_⟩
                    · rw [HST.out, strsV_snoc]; simpa using hown1
                    · exact (hbd.alloc hwd _).trans ⟨hgrow.os, hgrow.tape, hgrow.output, hgrow.size, fun b hb => hgrow.block b (by simp; omega) (fun e => by have := (hownd.lt b e.symm).1; omega)⟩
                  case measure => simp [intOf]; omega
                · obtain ⟨g2, c2, hv2, hc2⟩ := row_at hGw.row (i := 0) (by simp)
                  cases hv2
                  have hc2 : wr.cell? ⟨g2, 0, none⟩ = some (.string (str z)) := hc2
                  by_cases e5 : y = z
                  · subst e5
                    have e6 : (y == y) = true := beq_iff_eq.2 rfl
                    have hst : rest [y] (N.take (j3 + 1)) = rest [y] (N.take j3) := by rw [HTK.out, rest_snoc, if_neg (fun h => h (by simp))]
                    have HST := Lib.hid hst
                    clear hst
                    go_wp2_with fail
                    go_quiet (fail)
                    go_wp2_with fail
                    go_roundw
                    case rel => exact ⟨j3 + 1, by omega, by simp, by rw [HST.out]; exact ownsRow_stay hown (fun _ _ => rfl), below_drewN hbw _⟩
                    case measure => simp [intOf]; omega
                  · have e6 : (y == z) = false := beq_eq_false_iff_ne.2 e5
                    have hst : rest [z] (N.take (j3 + 1)) = rest [z] (N.take j3) ++ [y] := by rw [HTK.out, rest_snoc, if_pos (by simp; exact e5)]
                    have HST := Lib.hid hst
                    have hln : (rest [z] (N.take j3)).length ≤ 18 := by
                      have h1 := rest_le [z] (N.take j3)
                      rw [List.length_take] at h1
                      omega
                    clear hst
                    generalize rest [z] (N.take j3) = Q at *
                    have hws := hbw.size
                    go_wp2_with fail
                    go_quiet (fail)
                    have hownd : (wr.drewN nq).ownsRow wc.heap.size 9 1 u8 Q.length (strsV Q) := ownsRow_stay hown (fun _ _ => rfl)
                    have hbd := below_drewN hbw nq
                    have hwd : wc.heap.size ≤ (wr.drewN nq).heap.size := hws
                    have hgd : (wr.drewN nq).cell? ⟨gg, j3, none⟩ = some (.string (str y)) := hg
                    generalize wr.drewN nq = wd at *
                    go_wp2_with (first | (refine wpList_append_lies _ (by rfl) _ _ _ (by rfl) wc.heap.size 9 i0 _ 1 16 Try.underlying40 hi0 hz0 hz1 hz2 rfl (by omega) u8 Q.length (strsV Q) (by rfl) (hownd.alloc _) ⟨wd.heap.size, 0, none⟩ 1 1 [.string (str y)] (by rfl) (by rfl) (World.news_of_block (cs := #[.string (str y)]) (t := 9) (fr := (0, 0)) (heap_alloc_new wd _)) (by simp [Value.oneCell']) (by omega) (by simp [maxLen]; omega) (by omega) (by simp; omega) (wd.heap.size + 1) (by simp) ?_; intro gg cp w7 hown1 hgrow hat3 hlt3))
                    go_roundw
                    case rel =>
                      (repeat apply Exists.intro)
                      refine And.intro ?_ rfl
                      refine ⟨j3 + 1, by omega, by simp, ?_, ?_⟩
                      · rw [HST.out, strsV_snoc]; simpa using hown1
                      · exact (hbd.alloc hwd _).trans ⟨hgrow.os, hgrow.tape, hgrow.output, hgrow.size, fun b hb => hgrow.block b (by simp; omega) (fun e => by have := (hownd.lt b e.symm).1; omega)⟩
                    case measure => simp [intOf]; omega
              · have d4 : decide ((j3 : Int) < (N.length : Int)) = false := decide_eq_false (by omega)
                obtain rfl : j3 = N.length := by omega
                rw [List.take_length] at hown
                obtain ⟨a2, c2, rfl⟩ := own_form hown
                have h5w := h7.later hbw (Nat.le_refl _)
                have hTn : Tell w.heap.size w.heap.size m5 (.slice a2 (rest G N).length c2) (rest G N) wr :=
                  ⟨own_mono hown h7.below.size, fun b hb => ⟨fun ho => by have := h7.h.lt b ho; have := (hown.lt b hb).1; omega, fun e => by have := h7.sk.lt; have := (hown.lt b hb).1; have := e.2; omega⟩⟩
                have hln : (rest G N).length ≤ 18 := by
                  have h1 := rest_le G N
                  omega
                have hlen := lenT_c h5w
                rw [hKn.len] at hlen
                clear hown hbw hGw hNw hG7 hN7 h7
                generalize rest G N = Q at *
                have hg1 : decide ((1 : Int) < (G.length : Int)) = false := decide_eq_false (by omega)
                generalize wr = w9 at *
                go_wp2_with fail
                refine hlen.mono ?_
                rintro e w' ⟨rfl, rfl⟩
                clear hlen
                go_wp2_with fail
                go_loopw [15] (fun i wr => ∃ t : Nat, t ≤ Q.length ∧ i = .int .i64 t ∧ HeldT w A w.heap.size (w.heap.size + 8) wr m5 v5 ∧ Tell w.heap.size w.heap.size m5 (.slice a2 Q.length c2) Q wr) (fun i _ => Q.length - (intOf i).toNat)
                case atStart => exact ⟨0, Nat.zero_le _, rfl, h5w, hTn⟩
                case round =>
                  obtain ⟨t, ht2, rfl, h7, hT7⟩ := hrel
                  clear h5w hTn
                  by_cases hlt2 : t < Q.length
                  · have d5 : decide ((t : Int) < (Q.length : Int)) = true := decide_eq_true (by omega)
                    obtain ⟨g, c, hv, hg⟩ := row_at hT7.row hlt2
                    cases hv
                    have hq : Q[t]?.getD [] ∈ Q := by rw [List.getElem?_eq_getElem hlt2]; exact List.getElem_mem hlt2
                    have hhq := (hKn.mem _).1 hq
                    have hkq : (Q[t]?.getD []).length ≤ maxLen := by
                      obtain ⟨i, hi, h⟩ := Tv.has_iff.1 hhq
                      have h9 := hKn.ok.fit.klen hi h
                      unfold maxLen
                      omega
                    have hhs := has_t hkq h7
                    rw [hhq] at hhs
                    generalize Q[t]?.getD [] = z at *
                    clear hhq hkq hq
                    go_wp2_with fail
                    refine hhs.mono ?_
                    rintro e w' ⟨rfl, rfl⟩
                    go_wp2_with fail
                    go_roundw
                    case rel => exact ⟨t + 1, by omega, by simp, h7, hT7⟩
                    case measure => simp [intOf]; omega
                  · have d5 : decide ((t : Int) < (Q.length : Int)) = false := decide_eq_false (by omega)
                    go_wp2_with fail
                    go_roundw
                    case rel => exact ⟨j + 1, m5, v5, Q, by omega, by omega, by simp, h7, hmo2, hKn, hT7⟩
                    case measure => simp [intOf]; omega
      · have hk2 : decide ((64 : Int) < (k.length : Int)) = true := decide_eq_true (by omega)
        go_wp2_with fail
        go_roundw
        case rel => exact ⟨j + 1, m, v, L, by omega, by omega, by simp, hH, hmo, hK, hT⟩
        case measure => simp [intOf]; omega
    · have hend : (j < n ∧ ¬ j < 100 ∧ decide ((j : Int) < (n : Int)) = true ∧ decide ((j : Int) < 100) = false) ∨ (¬ j < n ∧ decide ((j : Int) < (n : Int)) = false) := by
        by_cases h : j < n
        · exact .inl ⟨h, by omega, decide_eq_true (by omega), decide_eq_false (by omega)⟩
        · exact .inr ⟨h, decide_eq_false (by omega)⟩
      clear h1
      rcases hend with ⟨h2, h3, d1, d2⟩ | ⟨h2, d1⟩
      all_goals
        go_wp2_with fail
        go_ret
        exact ⟨rfl, hH.below⟩
set_option linter.unusedVariables false in
set_option maxRecDepth 100000 in
theorem tinyKeeps_lifted (os : Os) (started : os.Started) (H : Type) (enc : TypeId × Value → H) :
    ReturnsInHanded {} Try.checked os 4 .any (Rows.tinyKeepsSpec.pre6 enc Try.prog Try.f4 Rows.tinyKeepsRow.domain false) (Rows.tinyKeepsSpec.post enc Try.prog Try.f4 false true false false) := by
  refine returnsInHanded_of_change (C := Try.checked) Kit.own started (by kernel_rfl) Try.func4
    (ChangeSpec.witness6 (enc := enc) (C := Try.checked) false ⟨#[], #[.int .i64 0, .slice none 0 0], []⟩ 8 (by kernel_rfl) (by kernel_rfl) (by kernel_rfl) (by kernel_rfl)) ?_
  intro W base args ds gs before hval0 hW hcnd _
  have hval : ∀ (j : Nat) t v, Try.f4.params[j]? = some t → args[j]? = some v → Value.okWide Try.prog W .any base t v := hval0
  have hW' := hW
  obtain ⟨p, q, hA0, hV, rfl, hfz, hnd⟩ := hW
  have hA : DataW.TrodAll enc Try.prog W 0 (fun _ => true) true Try.f4.params.toList args.toList ds p := hA0
  rw [Try.params4] at hA hval
  obtain ⟨v0, vs0, d0, ds0, p0, q0, hargs, rfl, rfl, h0, r0⟩ := trodAll_cons hA
  obtain ⟨v1, vs1, d1, ds1, p1, q1, rfl, rfl, rfl, h1, r1⟩ := trodAll_cons r0
  obtain ⟨rfl, rfl, rfl⟩ := trodAll_nil r1
  obtain ⟨rfl, rfl⟩ := trodVars_none hV
  obtain rfl : args = #[v0, v1] := by cases args; simp_all
  obtain ⟨a0, rfl, rfl, rfl, w0⟩ := open_int Try.underlying3 (hval 0 3 v0 rfl rfl) h0
  obtain ⟨b1, c1, e1, rfl⟩ := okWide_slice Try.underlying40 (hval 1 40 v1 rfl rfl)
  obtain ⟨fuel1, hf1⟩ := h1
  obtain ⟨ao1, len1, cap1, sb1, off1, tx1, hv1, ht1⟩ := Wirey.open_texts (show DataW.trod enc Try.prog W 0 (fun _ => true) true fuel1 40 [.slice b1 c1 e1] = some _ from hf1)
  injection hv1 with hv1x hv1y hv1z
  subst hv1x hv1y hv1z
  clear hA0 hval0
  refine (tinyKeeps_walk a0 w0 _ _ _ _ _ _ W ht1).mono fun e W' ⟨he, hg⟩ => ?_
  subst he
  exact ⟨_, rfl, Kit.law_post hW' rfl (by kernel_rfl) rfl (by kernel_rfl) hg⟩

theorem tinyKeeps_over : Rows.tinyKeepsRow.holds Try.pinned (OpenSpec.ofChange Rows.tinyKeepsSpec) :=
  OpenClaim.holds_of_wide 4 Try.f4 rfl rfl rfl rfl rfl rfl rfl ⟨rfl, rfl, rfl, rfl, rfl⟩ rfl rfl rfl rfl rfl (by kernel_rfl) Try.func4 (by kernel_rfl)
    (of_decide_eq_true (by kernel_rfl)) (by unfold Func.isWrapper; first | (rw [if_pos (by decide +kernel)]; kernel_rfl) | (rw [if_neg (by decide +kernel)]; exact ⟨rfl, rfl⟩))
    (fun os started H enc _ => tinyKeeps_lifted os started H enc)

theorem tinyKeeps_holds : Rows.TinyKeepsSaid :=
  tinyKeeps_over

end Go.Proofs.Ytgfpedcdclgmiaa.Tinyy
