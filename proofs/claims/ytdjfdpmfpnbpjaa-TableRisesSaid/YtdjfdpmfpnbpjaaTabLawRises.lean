/- Layer 11 (table): for every input the call returns true and leaves what it was given as it was: keys rise, each once; in whatever order entries of unlike keys are laid, the bytes are the same (TableRises). No condition. -/
import Derived.Test.YtdjfdpmfpnbpjaaTabCalls
import Derived.Test.YtdjfdpmfpnbpjaaKit
import Derived.Test.YtdjfdpmfpnbpjaaTabAwake
import Derived.Test.YtdjfdpmfpnbpjaaTabOpen
import Derived.Test.YtdjfdpmfpnbpjaaRows
import Derived.Test.YtdjfdpmfpnbpjaaTabPut
import Derived.Lib.Hide
import Derived.Laws.Cover1
import Derived.BigQuiet
namespace Go.Proofs.Ytdjfdpmfpnbpjaa.Taby
open Go.ChangeShapes Go.WideShapes Go.ChangeAt Go.RowKit
open Wirey (Blk Row str str_size str_list str_cat str_take enc enc_len txt Kp)
open Regy

/-- Two of the program's tables, and the keys in hand. -/
structure T2 (w W : World) (P Q : Nat → Prop) (bt bu : Nat) (m mu : List En) (v : Value) (ks : List (List UInt8)) : Prop where
  ht : HeldT w W P bt m
  hu : HeldT w W Q bu mu
  st : St W w.heap.size v ks
  pq : ∀ k, P k → ¬ Q k
  np : ∀ g, v.ownBlock = some g → ¬ P g
  nq : ∀ g, v.ownBlock = some g → ¬ Q g
  bel : Below w.heap.size w W
section
variable {w W W' : World} {P Q P' : Nat → Prop} {bt bu : Nat} {m mu m' : List En} {v v' : Value} {ks ks' : List (List UInt8)}
theorem T2.below (h : T2 w W P Q bt bu m mu v ks) (hb : Below W.heap.size W W') : T2 w W' P Q bt bu m mu v ks :=
  ⟨h.ht.below hb, h.hu.below hb, h.st.below hb, h.pq, h.np, h.nq, h.bel.trans (hb.mono h.bel.size)⟩
theorem T2.putT (h : T2 w W P Q bt bu m mu v ks) (hH : HeldT w W' P' bt m') (hM : Mv P P' W W') : T2 w W' P' Q bt bu m' mu v ks :=
  ⟨hH, h.hu.kp hM.kp fun k hq hp => h.pq k hp hq, h.st.stay fun g hg => hM.kp.block g (h.st.lt g hg).2 (h.np g hg), fun k hp hq => by
      rcases hM.new k hp with h1 | h1
      · exact h.pq k h1 hq
      · have := (h.hu.low k hq).2; omega,
    fun g hg hp => by
      rcases hM.new g hp with h1 | h1
      · exact h.np g hg h1
      · have := (h.st.lt g hg).2; omega, h.nq, hM.below h.bel fun k hk => (h.ht.low k hk).1⟩
theorem T2.putU (h : T2 w W P Q bt bu m mu v ks) (hH : HeldT w W' P' bu m') (hM : Mv Q P' W W') : T2 w W' P P' bt bu m m' v ks :=
  ⟨h.ht.kp hM.kp fun k hp hq => h.pq k hp hq, hH, h.st.stay fun g hg => hM.kp.block g (h.st.lt g hg).2 (h.nq g hg), fun k hp hq => by
      rcases hM.new k hq with h1 | h1
      · exact h.pq k hp h1
      · have := (h.ht.low k hp).2; omega, h.np,
    fun g hg hp => by
      rcases hM.new g hp with h1 | h1
      · exact h.nq g hg h1
      · have := (h.st.lt g hg).2; omega, hM.below h.bel fun k hk => (h.hu.low k hk).1⟩
theorem T2.grown (h : T2 w W P Q bt bu m mu v ks) (b : Obj) (hg : (W.alloc b).grownBy W' v.ownBlock) {g cap : Nat} (hv : v' = .slice (some ⟨g, 0, none⟩) (ks.length + 1) cap) (hn : St W' w.heap.size v' ks') (hat : v.ownBlock = some g ∨ g = W.heap.size + 1) : T2 w W' P Q bt bu m mu v' ks' := by
  have hs := h.bel.size
  have ho := h.st.lt
  have hb : ∀ k, k < W.heap.size → some k ≠ v.ownBlock → W'.heap[k]? = W.heap[k]? := fun k hk hne => (hg.block k (by simp; omega) hne).trans (Below.heap_alloc W b k hk)
  have hK : Kp (fun k => v.ownBlock = some k) W W' := ⟨hg.os, hg.tape, hg.output, Nat.le_trans (by simp) hg.size, fun k hk hne => hb k hk fun e => hne e.symm⟩
  refine ⟨h.ht.kp hK fun k hp e => h.np k e hp, h.hu.kp hK fun k hp e => h.nq k e hp, hn, h.pq, fun k hk hp => ?_, fun k hk hp => ?_,
    (h.bel.alloc hs b).trans ⟨hg.os, hg.tape, hg.output, hg.size, fun k hk => hg.block k (by simp; omega) (fun e => by have := (ho k e.symm).1; omega)⟩⟩
  · subst hv
    obtain rfl : g = k := by simpa [Value.ownBlock] using hk
    rcases hat with e | e
    · exact h.np _ e hp
    · have := (h.ht.low _ hp).2; omega
  · subst hv
    obtain rfl : g = k := by simpa [Value.ownBlock] using hk
    rcases hat with e | e
    · exact h.nq _ e hp
    · have := (h.hu.low _ hp).2; omega
end
theorem rise_keys {m : List En} (h : Rise m) {n : Nat} {a b : En} (ha : m[n]? = some a) (hb : m[n + 1]? = some b) : less a.key b.key = true := by
  obtain ⟨h1, rfl⟩ := List.getElem?_eq_some_iff.1 ha
  obtain ⟨h2, rfl⟩ := List.getElem?_eq_some_iff.1 hb
  exact List.pairwise_iff_getElem.1 h n (n + 1) h1 h2 (by omega)
set_option maxHeartbeats 2000000 in
set_option maxRecDepth 100000 in
theorem tableRises_walk (ao : Option Addr) (len cap sb off : Nat) (X : Nat → En) (w : World) (hA : Ents w ao len sb off X) :
    Calls Try.prog 7 #[.slice ao len cap] w fun e w' => e = .returned (.bool true) ∧ Below w.heap.size w w' := by
  have htl := Wirey.toList_str
  have hmost := hA.most
  unfold maxLen at hmost
  obtain ⟨i1, hi1, hy0, hy1, hy2⟩ : ∃ i, Try.prog.info? 9 = some i ∧ i.zero = some (.string ⟨#[]⟩) ∧ i.size = 1 ∧ i.bytes = 16 := by
    have h := str_info
    cases hh : Try.prog.info? 9 with
    | none => rw [hh] at h; cases h
    | some i => rw [hh] at h; injection h with h; injection h with h1 h2; injection h2 with h2 h3; exact ⟨i, rfl, h1, h2, h3⟩
  go_enter Try.func7, Try.ntmps7
  go_wp2_with fail
  refine (new_c _).mono ?_
  rintro e w1 ⟨P0, bt, rfl, hH1, hb1⟩
  go_wp2_with fail
  refine (new_c _).mono ?_
  rintro e w2 ⟨Q0, bu, rfl, hH2, hb2⟩
  have hT : T2 w (w2.alloc (.cells #[] 9)) P0 Q0 bt bu [] [] (.slice (some ⟨w2.heap.size, 0, none⟩) 0 0) [] := by
    have e2 := (Below.refl _ w2).alloc (Nat.le_refl _) (.cells #[] 9)
    refine ⟨(hH1.below hb2).below e2, (hH2.base hb1.size).below e2, St.empty w2 w.heap.size (Nat.le_trans hb1.size hb2.size), fun k hp hq => ?_, fun g hg hp => ?_, fun g hg hp => ?_, (hb1.trans (hb2.mono hb1.size)).alloc (Nat.le_trans hb1.size hb2.size) _⟩
    · have := (hH1.low k hp).2; have := (hH2.low k hq).1; omega
    · have h1 := (hH1.low g hp).2
      have h2 := hb2.size
      have e : w2.heap.size = g := by simpa [Value.ownBlock] using hg
      omega
    · have h1 := (hH2.low g hp).2
      have e : w2.heap.size = g := by simpa [Value.ownBlock] using hg
      omega
  clear hH1 hb1 hH2 hb2
  go_wp2_with fail
  generalize w2.alloc (.cells #[] 9) = w3 at *
  go_loopw [5, 6] (fun v i wr => ∃ (j : Nat) (P Q : Nat → Prop) (m : List En) (ks : List (List UInt8)), j ≤ len ∧ j ≤ 40 ∧ i = .int .i64 j ∧ m.length = ks.length ∧ ks.length ≤ j ∧ (∀ k, (find k m).isSome = true ↔ k ∈ ks) ∧ T2 w wr P Q bt bu m [] v ks) (fun v i _ => len - (intOf i).toNat)
  case atStart => exact ⟨0, P0, Q0, [], [], by omega, by omega, rfl, rfl, Nat.le_refl _, fun k => by simp [find], hT⟩
  case round =>
    clear hT
    obtain ⟨j, P, Q, m, ks, hj, hj60, rfl, hmk, hkl, hin, hT⟩ := hrel
    obtain ⟨va, vc, rfl⟩ := hT.st.form
    by_cases h3 : j < len ∧ j < 40
    · have hlt : (j : Int) < (len : Int) := by omega
      have h60 : (j : Int) < 40 := by omega
      have d1 : decide ((j : Int) < (len : Int)) = true := decide_eq_true hlt
      have d2 : decide ((j : Int) < 40) = true := decide_eq_true h60
      have hAr := hA.below hT.bel
      obtain ⟨rfl, a0, a1, a2, a3⟩ := hAr.at_ h3.1
      have hbig := hAr.big j h3.1
      have hrise := hT.ht.rise
      generalize X j = y at *
      have hok := En.cut_ok y hbig.ver hbig.fin
      have hcut := fun W => cut_c y hbig.key hbig.val W
      generalize hxc : y.cut = x at *
      clear hxc hbig hA hAr
      have hfi : ∀ k, find k (ins x m) = if x.key = k then some x else find k m := fun k => find_ins hrise
      go_wp2_with fail
      refine (hcut _).mono ?_
      rintro e w5 ⟨rfl, hbn⟩
      have T1 := (hT.below hbn).below ((Below.refl _ w5).alloc (Nat.le_refl _) (.cells x.cs 32))
      have B1 := Blk.new w5 32 x.cs
      have hqP : ¬ P w5.heap.size := fun hp => by have := (hT.ht.low _ hp).2; have := hbn.size; omega
      clear hT hbn a0 a1 a2 a3
      go_upto_region 6 with (fail)
      generalize hw6 : w5.alloc (.cells _ 32) = w6 at *
      clear hw6
      generalize w5.heap.size = q at *
      have c0 := B1.cell 0
      have c1 := B1.cell 1
      have c2 := B1.cell 2
      have c3 := B1.cell 3
      simp only [List.getElem?_toArray, List.getElem?_cons_zero, List.getElem?_cons_succ] at c0 c1 c2 c3
      go_wp2_with fail
      refine (get_c x.key hok.key (by omega) T1.ht).mono ?_
      rintro e w7 ⟨rfl, hbn⟩
      have T3 := (T1.below hbn).below ((Below.refl _ w7).alloc (Nat.le_refl _) (.cells ((find x.key m).getD En.none).cs 32))
      have B3 := (B1.below hbn B1.lt).alloc (.cells ((find x.key m).getD En.none).cs 32)
      clear T1 B1 hbn c0 c1 c2 c3
      go_upto_region 7 with (fail)
      generalize hw8 : w7.alloc (.cells _ 32) = w8 at *
      clear hw8
      have c0 := B3.cell 0
      have c1 := B3.cell 1
      have c2 := B3.cell 2
      have c3 := B3.cell 3
      simp only [List.getElem?_toArray, List.getElem?_cons_zero, List.getElem?_cons_succ] at c0 c1 c2 c3
      cases hf : find x.key m with
      | some z =>
        have HF := Lib.hid hf
        clear hf
        simp only [Option.isSome_some]
        have HT3 := Lib.hid T3
        have HIN := Lib.hid hin
        clear T3 hin
        go_wp2_with fail
        go_roundw
        case rel => exact ⟨j + 1, P, Q, m, ks, by omega, by omega, rfl, hmk, by omega, HIN.out, HT3.out⟩
        case measure => simp [intOf]; omega
      | none =>
        have hnew := ins_new hf
        have HF := Lib.hid hf
        clear hf
        simp only [Option.isSome_none]
        go_wp2_with fail
        refine (put_c hok (by omega) T3.ht).mono ?_
        rintro e w9 ⟨rfl, P9, hH9, hM9⟩
        have T4 := T3.putT hH9 hM9
        have B4 := (hM9.kp.block q B3.lt hqP).trans B3
        clear T3 B3 hH9 hM9 c0 c1 c2 c3
        have c0 := Blk.cell B4 0
        simp only [List.getElem?_toArray, List.getElem?_cons_zero] at c0
        have hO := T4.st
        have hsz := T4.bel.size
        have hkk : ks.length ≤ 40 := by omega
        go_wp2_with (first | (refine wpList_append_lies _ (by rfl) _ _ _ (by rfl) w.heap.size 9 i1 _ 1 16 Try.underlying48 hi1 hy0 hy1 hy2 rfl (by omega) (.slice va ks.length vc) ks.length (strsV ks) (by rfl) (hO.alloc _) ⟨w9.heap.size, 0, none⟩ 1 1 [.string (str x.key)] (by rfl) (by rfl) (World.news_of_block (cs := #[.string (str x.key)]) (t := 9) (fr := (0, 0)) (heap_alloc_new w9 _)) (by simp [Value.oneCell']) (by omega) (by simp [maxLen]; omega) (by omega) (by simp; omega) (w9.heap.size + 1) (by simp) ?_; intro gg cp w30 hown hgrow hat hlt3))
        have T5 := T4.grown _ hgrow rfl (St.snoc hown) hat
        go_roundw
        case rel =>
          refine ⟨j + 1, P9, Q, ins x m, ks ++ [x.key], by omega, by omega, rfl, by rw [hnew, hmk]; simp, by simp; omega, fun k => ?_, T5⟩
          rw [hfi k, List.mem_append, List.mem_singleton, ← hin k]
          by_cases hk : x.key = k
          · rw [if_pos hk]; exact ⟨fun _ => .inr hk.symm, fun _ => rfl⟩
          · rw [if_neg hk]; exact ⟨fun h => .inl h, fun h => h.elim id fun e => absurd e.symm hk⟩
        case measure => simp [intOf]; omega
    · have hexit : ¬ j < len ∨ (j < len ∧ ¬ j < 40) := by omega
      clear hA
      have hm60 : m.length ≤ 40 := by omega
      have hkk : ks.length ≤ 40 := by omega
      rcases hexit with h4 | ⟨h4, h5⟩
      · have d1 : decide ((j : Int) < (len : Int)) = false := decide_eq_false (by omega)
        have hks : ∀ k, find k ([] : List En) = if k ∈ ks.drop ks.length then find k m else Option.none := fun k => by simp [find]
        have hrm := hT.ht.rise
        have hom := hT.ht.ok
        go_wp2_with fail
        generalize wr = wq at *
        go_loopw [10] (fun i wr => ∃ (c : Nat) (z : Int) (Q' : Nat → Prop) (mu : List En), c ≤ ks.length ∧ i = .int .i64 z ∧ z = (c : Int) - 1 ∧ mu.length ≤ ks.length - c ∧ (∀ k, find k mu = if k ∈ ks.drop c then find k m else Option.none) ∧ T2 w wr P Q' bt bu m mu (.slice va ks.length vc) ks) (fun i _ => (intOf i + 1).toNat)
        case atStart => exact ⟨ks.length, _, Q, [], Nat.le_refl _, rfl, by first | rfl | omega | (rw [IntKind.wrap_i64]; omega) | (simp [IntKind.wrap_i64]; omega), by simp, hks, hT⟩
        case round =>
          clear hT hks
          obtain ⟨c, z, Q', mu, hc, rfl, hz, hml, hfm, hT⟩ := hrel
          cases c with
          | succ n =>
            obtain rfl : z = (n : Int) := by omega
            clear hz
            obtain ⟨s, hs⟩ : ∃ s, ks[n]? = some s := ⟨_, List.getElem?_eq_getElem (by omega)⟩
            obtain ⟨g, rfl, -, hg, hcell⟩ := hT.st.at_ hs
            have hnl : (n : Int) < (ks.length : Int) := by omega
            obtain ⟨x, hx⟩ : ∃ x, find s m = some x := by have := (hin s).2 (List.mem_of_getElem? hs); exact Option.isSome_iff_exists.1 this
            obtain ⟨hxm, hxk⟩ := find_mem hx
            have hxo := hom x hxm
            have hrmu := hT.hu.rise
            have hfi : ∀ k, find k (ins x mu) = if x.key = k then some x else find k mu := fun k => find_ins hrmu
            have hil := ins_len (x := x) (l := mu)
            have c0 := hcell wr rfl
            clear hcell
            have HX := Lib.hid hx
            have HK := Lib.hid hxk
            clear hx hxk
            go_wp2_with fail
            refine (get_c s (by rw [← HK.out]; exact hxo.key) (by omega) hT.ht).mono ?_
            rintro e w50 ⟨rfl, hbn⟩
            rw [HX.out]
            dsimp only [Option.getD_some, Option.isSome_some]
            have T1 := (hT.below hbn).below ((Below.refl _ w50).alloc (Nat.le_refl _) (.cells x.cs 32))
            have B1 := Blk.new w50 32 x.cs
            clear hT hbn c0
            go_upto_region 14 with (fail)
            generalize hw51 : w50.alloc (.cells _ 32) = w51 at *
            clear hw51
            generalize w50.heap.size = q at *
            have c0 := B1.cell 0
            have c1 := B1.cell 1
            have c2 := B1.cell 2
            have c3 := B1.cell 3
            simp only [List.getElem?_toArray, List.getElem?_cons_zero, List.getElem?_cons_succ] at c0 c1 c2 c3
            go_wp2_with fail
            refine (put_c hxo (by omega) T1.hu).mono ?_
            rintro e w52 ⟨rfl, Q2, hH2, hM2⟩
            have T3 := T1.putU hH2 hM2
            clear T1 B1 hH2 hM2 c0 c1 c2 c3
            go_wp2_with fail
            go_roundw
            case rel =>
              refine ⟨n, _, Q2, ins x mu, by omega, rfl, by first | rfl | omega | (rw [IntKind.wrap_i64]; omega) | (simp [IntKind.wrap_i64]; omega), by omega, fun k => ?_, T3⟩
              have hn := (List.getElem?_eq_some_iff.1 hs)
              obtain ⟨h1, h2⟩ := hn
              have hmem : k ∈ ks.drop n ↔ k = s ∨ k ∈ ks.drop (n + 1) := by rw [List.drop_eq_getElem_cons h1, h2, List.mem_cons]
              rw [hfi k, hfm k]
              by_cases hk : x.key = k
              · have e : k = s := hk.symm.trans HK.out
                rw [if_pos hk, if_pos (hmem.2 (.inl e)), e]
                exact HX.out.symm
              · rw [if_neg hk]
                by_cases h4 : k ∈ ks.drop (n + 1)
                · rw [if_pos h4, if_pos (hmem.2 (.inr h4))]
                · rw [if_neg h4, if_neg (fun h => (hmem.1 h).elim (fun e => hk (HK.out.trans e.symm)) h4)]
            case measure => first | (simp [intOf]; omega) | simp [intOf]
          | zero =>
            have dz : decide ((0 : Int) ≤ z) = false := decide_eq_false (by omega)
            have hzn : ¬ ((0 : Int) ≤ z) := by omega
            clear hz
            have hall : mu = m := rise_ext hT.hu.rise hrm fun k => by
              rw [hfm k, List.drop_zero]
              by_cases hk : k ∈ ks
              · rw [if_pos hk]
              · rw [if_neg hk]
                cases hfk : find k m with
                | none => rfl
                | some y => exact absurd ((hin k).1 (by rw [hfk]; rfl)) hk
            subst hall
            clear hfm hin hml hom
            go_wp2_with fail
            refine (keys_c (by omega) hT.ht).mono ?_
            rintro e w60 ⟨vk, rfl, hK, hbn⟩
            have T1 := hT.below hbn
            clear hT hbn
            obtain ⟨ka, kc, rfl⟩ := hK.form
            have hkm : (keysOf mu).length = mu.length := by simp [keysOf]
            rw [hkm]
            go_wp2_with fail
            go_loopw [14] (fun i wr => ∃ n : Nat, n ≤ mu.length ∧ i = .int .i64 ((n + 1 : Nat) : Int) ∧ Below w60.heap.size w60 wr) (fun i _ => mu.length + 1 - (intOf i).toNat)
            case atStart => exact ⟨0, by omega, rfl, Below.refl _ _⟩
            case round =>
              obtain ⟨n, hn, rfl, hbr⟩ := hrel
              have T2' := T1.below hbr
              have hK2 := hK.below hbr
              by_cases h7 : n + 1 < mu.length
              · obtain ⟨a, ha⟩ : ∃ a, mu[n]? = some a := ⟨_, List.getElem?_eq_getElem (by omega)⟩
                obtain ⟨b, hb⟩ : ∃ b, mu[n + 1]? = some b := ⟨_, List.getElem?_eq_getElem h7⟩
                have hless : Op.bytesLess a.key b.key = true := rise_keys hrm ha hb
                obtain ⟨g1, rfl, -, hg1, hc1⟩ := hK2.at_ (x := a.key) (show (keysOf mu)[n]? = some a.key by simp [keysOf, ha])
                obtain ⟨g2, e2, -, -, hc2⟩ := hK2.at_ (x := b.key) (show (keysOf mu)[n + 1]? = some b.key by simp [keysOf, hb])
                obtain rfl : g1 = g2 := by simpa using e2
                have hlt : ((n + 1 : Nat) : Int) < (mu.length : Int) := by omega
                have hlt2 : (n : Int) < (mu.length : Int) := by omega
                have hlt3 : (n : Int) + 1 < (mu.length : Int) := by omega
                have c1 := hc1 wr.drew rfl
                have c2 := hc2 wr.drew rfl
                have hbr2 := hbr.drew
                have HW : IntKind.i64.wrap (n : Int) = (n : Int) := by rw [IntKind.wrap_i64]; omega
                have hz1 : (0 : Int) ≤ (n : Int) + 1 := by omega
                have hlk : (n : Int) < (ks.length : Int) := by omega
                have hlk2 : (n : Int) + 1 < (ks.length : Int) := by omega
                have hlk3 : ((n + 1 : Nat) : Int) < (ks.length : Int) := by omega
                clear T2' hK2 hc1 hc2 hbr e2 ha hb
                go_upto_region 19 with (fail)
                refine region_only 10 #[false, false, false, false, false, false, false, false, false, false] (S := (fun W => W.cell? ⟨g1, n, none⟩ = some (.string (str a.key)) ∧ W.cell? ⟨g1, n + 1, none⟩ = some (.string (str b.key)))) rfl rfl (by kernel_rfl) ⟨c1, c2⟩ (fun hSw => ?_)
                refine take_at 0 77 (fuel := 9) ?_ rfl rfl (by kernel_rfl) (by kernel_rfl) (by kernel_rfl) (Or.inl ⟨by rfl, ?_⟩) hSw ?_
                rotate_left
                · intro wx hSx
                  (try dsimp only at hSx)
                  go_split_ands
                  go_simp
                  (try with_reducible rfl)
                simp only [List.setIfInBounds_toArray, List.set_cons_zero, List.set_cons_succ]
                refine take_at 1 78 (fuel := 8) ?_ rfl rfl (by kernel_rfl) (by kernel_rfl) (by kernel_rfl) (Or.inl ⟨by rfl, ?_⟩) hSw ?_
                rotate_left
                · intro wx hSx
                  (try dsimp only at hSx)
                  go_split_ands
                  go_simp
                  (try with_reducible rfl)
                simp only [List.setIfInBounds_toArray, List.set_cons_zero, List.set_cons_succ]
                refine take_at 2 79 (fuel := 7) ?_ rfl rfl (by kernel_rfl) (by kernel_rfl) (by kernel_rfl) (Or.inl ⟨by rfl, ?_⟩) hSw ?_
                rotate_left
                · intro wx hSx
                  (try dsimp only at hSx)
                  go_split_ands
                  go_simp
                  (try with_reducible rfl)
                simp only [List.setIfInBounds_toArray, List.set_cons_zero, List.set_cons_succ]
                refine take_at 3 80 (fuel := 6) ?_ rfl rfl (by kernel_rfl) (by kernel_rfl) (by kernel_rfl) (Or.inl ⟨by rfl, ?_⟩) hSw ?_
                rotate_left
                · intro wx hSx
                  (try dsimp only at hSx)
                  go_split_ands
                  go_simp
                  (try with_reducible rfl)
                simp only [List.setIfInBounds_toArray, List.set_cons_zero, List.set_cons_succ]
                refine take_at 4 81 (fuel := 5) ?_ rfl rfl (by kernel_rfl) (by kernel_rfl) (by kernel_rfl) (Or.inl ⟨by rfl, ?_⟩) hSw ?_
                rotate_left
                · intro wx hSx
                  (try dsimp only at hSx)
                  go_split_ands
                  go_simp
                  (try with_reducible rfl)
                simp only [List.setIfInBounds_toArray, List.set_cons_zero, List.set_cons_succ]
                refine take_at 5 82 (fuel := 4) ?_ rfl rfl (by kernel_rfl) (by kernel_rfl) (by kernel_rfl) (Or.inl ⟨by rfl, ?_⟩) hSw ?_
                rotate_left
                · intro wx hSx
                  (try dsimp only at hSx)
                  go_split_ands
                  go_simp
                  (try with_reducible rfl)
                simp only [List.setIfInBounds_toArray, List.set_cons_zero, List.set_cons_succ]
                refine take_at 6 83 (fuel := 3) ?_ rfl rfl (by kernel_rfl) (by kernel_rfl) (by kernel_rfl) (Or.inl ⟨by rfl, ?_⟩) hSw ?_
                rotate_left
                · intro wx hSx
                  (try dsimp only at hSx)
                  go_split_ands
                  go_simp
                  (try with_reducible rfl)
                simp only [List.setIfInBounds_toArray, List.set_cons_zero, List.set_cons_succ]
                refine take_at 7 84 (fuel := 2) ?_ rfl rfl (by kernel_rfl) (by kernel_rfl) (by kernel_rfl) (Or.inl ⟨by rfl, ?_⟩) hSw ?_
                rotate_left
                · intro wx hSx
                  (try dsimp only at hSx)
                  go_split_ands
                  go_simp
                  (try with_reducible rfl)
                simp only [List.setIfInBounds_toArray, List.set_cons_zero, List.set_cons_succ]
                refine take_at 8 85 (fuel := 1) ?_ rfl rfl (by kernel_rfl) (by kernel_rfl) (by kernel_rfl) (Or.inl ⟨by rfl, ?_⟩) hSw ?_
                rotate_left
                · intro wx hSx
                  (try dsimp only at hSx)
                  go_split_ands
                  go_simp
                  (try with_reducible rfl)
                simp only [List.setIfInBounds_toArray, List.set_cons_zero, List.set_cons_succ]
                refine take_at 9 86 (fuel := 0) ?_ rfl rfl (by kernel_rfl) (by kernel_rfl) (by kernel_rfl) (Or.inl ⟨by rfl, ?_⟩) hSw ?_
                rotate_left
                · intro wx hSx
                  (try dsimp only at hSx)
                  go_split_ands
                  go_simp
                  (try with_reducible rfl)
                simp only [List.setIfInBounds_toArray, List.set_cons_zero, List.set_cons_succ]
                refine wpAnyH_done (by kernel_rfl) ⟨rfl, ?_⟩ 0
                clear hSw c1 c2
                generalize wr.drew = w70 at *
                (try rw [hless])
                go_wp2_with fail
                go_roundw
                case rel => exact ⟨n + 1, by omega, by first | (simp; omega) | simp, hbr2⟩
                case measure => simp [intOf]; omega
              · have hge : ¬ (((n + 1 : Nat) : Int) < (mu.length : Int)) := by omega
                have dge : decide (((n + 1 : Nat) : Int) < (mu.length : Int)) = false := decide_eq_false hge
                have dge2 : decide ((n : Int) + 1 < (mu.length : Int)) = false := decide_eq_false (by omega)
                clear hK2 hK hbr
                go_wp2_with fail
                refine (awake_c _).mono ?_
                rintro e w80 ⟨rfl, hbn⟩
                have T3 := T2'.below hbn
                clear T2' hbn
                have hme : ((mu.length : Int) == (ks.length : Int)) = true := by rw [hmk]; simp
                go_wp2_with fail
                refine (export_c (by omega) T3.ht).mono ?_
                rintro e w81 ⟨rfl, hbn⟩
                have T4 := T3.below hbn
                clear T3 hbn
                go_wp2_with fail
                refine (export_c (by omega) T4.hu).mono ?_
                rintro e w82 ⟨rfl, hbn⟩
                have T5 := T4.below hbn
                clear T4 hbn
                go_wp2_with fail
                go_ret
                exact ⟨rfl, T5.bel⟩
      · have d1 : decide ((j : Int) < (len : Int)) = true := decide_eq_true (by omega)
        have d2 : decide ((j : Int) < 40) = false := decide_eq_false (by omega)
        have hks : ∀ k, find k ([] : List En) = if k ∈ ks.drop ks.length then find k m else Option.none := fun k => by simp [find]
        have hrm := hT.ht.rise
        have hom := hT.ht.ok
        go_wp2_with fail
        generalize wr = wq at *
        go_loopw [10] (fun i wr => ∃ (c : Nat) (z : Int) (Q' : Nat → Prop) (mu : List En), c ≤ ks.length ∧ i = .int .i64 z ∧ z = (c : Int) - 1 ∧ mu.length ≤ ks.length - c ∧ (∀ k, find k mu = if k ∈ ks.drop c then find k m else Option.none) ∧ T2 w wr P Q' bt bu m mu (.slice va ks.length vc) ks) (fun i _ => (intOf i + 1).toNat)
        case atStart => exact ⟨ks.length, _, Q, [], Nat.le_refl _, rfl, by first | rfl | omega | (rw [IntKind.wrap_i64]; omega) | (simp [IntKind.wrap_i64]; omega), by simp, hks, hT⟩
        case round =>
          clear hT hks
          obtain ⟨c, z, Q', mu, hc, rfl, hz, hml, hfm, hT⟩ := hrel
          cases c with
          | succ n =>
            obtain rfl : z = (n : Int) := by omega
            clear hz
            obtain ⟨s, hs⟩ : ∃ s, ks[n]? = some s := ⟨_, List.getElem?_eq_getElem (by omega)⟩
            obtain ⟨g, rfl, -, hg, hcell⟩ := hT.st.at_ hs
            have hnl : (n : Int) < (ks.length : Int) := by omega
            obtain ⟨x, hx⟩ : ∃ x, find s m = some x := by have := (hin s).2 (List.mem_of_getElem? hs); exact Option.isSome_iff_exists.1 this
            obtain ⟨hxm, hxk⟩ := find_mem hx
            have hxo := hom x hxm
            have hrmu := hT.hu.rise
            have hfi : ∀ k, find k (ins x mu) = if x.key = k then some x else find k mu := fun k => find_ins hrmu
            have hil := ins_len (x := x) (l := mu)
            have c0 := hcell wr rfl
            clear hcell
            have HX := Lib.hid hx
            have HK := Lib.hid hxk
            clear hx hxk
            go_wp2_with fail
            refine (get_c s (by rw [← HK.out]; exact hxo.key) (by omega) hT.ht).mono ?_
            rintro e w50 ⟨rfl, hbn⟩
            rw [HX.out]
            dsimp only [Option.getD_some, Option.isSome_some]
            have T1 := (hT.below hbn).below ((Below.refl _ w50).alloc (Nat.le_refl _) (.cells x.cs 32))
            have B1 := Blk.new w50 32 x.cs
            clear hT hbn c0
            go_upto_region 14 with (fail)
            generalize hw51 : w50.alloc (.cells _ 32) = w51 at *
            clear hw51
            generalize w50.heap.size = q at *
            have c0 := B1.cell 0
            have c1 := B1.cell 1
            have c2 := B1.cell 2
            have c3 := B1.cell 3
            simp only [List.getElem?_toArray, List.getElem?_cons_zero, List.getElem?_cons_succ] at c0 c1 c2 c3
            go_wp2_with fail
            refine (put_c hxo (by omega) T1.hu).mono ?_
            rintro e w52 ⟨rfl, Q2, hH2, hM2⟩
            have T3 := T1.putU hH2 hM2
            clear T1 B1 hH2 hM2 c0 c1 c2 c3
            go_wp2_with fail
            go_roundw
            case rel =>
              refine ⟨n, _, Q2, ins x mu, by omega, rfl, by first | rfl | omega | (rw [IntKind.wrap_i64]; omega) | (simp [IntKind.wrap_i64]; omega), by omega, fun k => ?_, T3⟩
              have hn := (List.getElem?_eq_some_iff.1 hs)
              obtain ⟨h1, h2⟩ := hn
              have hmem : k ∈ ks.drop n ↔ k = s ∨ k ∈ ks.drop (n + 1) := by rw [List.drop_eq_getElem_cons h1, h2, List.mem_cons]
              rw [hfi k, hfm k]
              by_cases hk : x.key = k
              · have e : k = s := hk.symm.trans HK.out
                rw [if_pos hk, if_pos (hmem.2 (.inl e)), e]
                exact HX.out.symm
              · rw [if_neg hk]
                by_cases h4 : k ∈ ks.drop (n + 1)
                · rw [if_pos h4, if_pos (hmem.2 (.inr h4))]
                · rw [if_neg h4, if_neg (fun h => (hmem.1 h).elim (fun e => hk (HK.out.trans e.symm)) h4)]
            case measure => first | (simp [intOf]; omega) | simp [intOf]
          | zero =>
            have dz : decide ((0 : Int) ≤ z) = false := decide_eq_false (by omega)
            have hzn : ¬ ((0 : Int) ≤ z) := by omega
            clear hz
            have hall : mu = m := rise_ext hT.hu.rise hrm fun k => by
              rw [hfm k, List.drop_zero]
              by_cases hk : k ∈ ks
              · rw [if_pos hk]
              · rw [if_neg hk]
                cases hfk : find k m with
                | none => rfl
                | some y => exact absurd ((hin k).1 (by rw [hfk]; rfl)) hk
            subst hall
            clear hfm hin hml hom
            go_wp2_with fail
            refine (keys_c (by omega) hT.ht).mono ?_
            rintro e w60 ⟨vk, rfl, hK, hbn⟩
            have T1 := hT.below hbn
            clear hT hbn
            obtain ⟨ka, kc, rfl⟩ := hK.form
            have hkm : (keysOf mu).length = mu.length := by simp [keysOf]
            rw [hkm]
            go_wp2_with fail
            go_loopw [14] (fun i wr => ∃ n : Nat, n ≤ mu.length ∧ i = .int .i64 ((n + 1 : Nat) : Int) ∧ Below w60.heap.size w60 wr) (fun i _ => mu.length + 1 - (intOf i).toNat)
            case atStart => exact ⟨0, by omega, rfl, Below.refl _ _⟩
            case round =>
              obtain ⟨n, hn, rfl, hbr⟩ := hrel
              have T2' := T1.below hbr
              have hK2 := hK.below hbr
              by_cases h7 : n + 1 < mu.length
              · obtain ⟨a, ha⟩ : ∃ a, mu[n]? = some a := ⟨_, List.getElem?_eq_getElem (by omega)⟩
                obtain ⟨b, hb⟩ : ∃ b, mu[n + 1]? = some b := ⟨_, List.getElem?_eq_getElem h7⟩
                have hless : Op.bytesLess a.key b.key = true := rise_keys hrm ha hb
                obtain ⟨g1, rfl, -, hg1, hc1⟩ := hK2.at_ (x := a.key) (show (keysOf mu)[n]? = some a.key by simp [keysOf, ha])
                obtain ⟨g2, e2, -, -, hc2⟩ := hK2.at_ (x := b.key) (show (keysOf mu)[n + 1]? = some b.key by simp [keysOf, hb])
                obtain rfl : g1 = g2 := by simpa using e2
                have hlt : ((n + 1 : Nat) : Int) < (mu.length : Int) := by omega
                have hlt2 : (n : Int) < (mu.length : Int) := by omega
                have hlt3 : (n : Int) + 1 < (mu.length : Int) := by omega
                have c1 := hc1 wr.drew rfl
                have c2 := hc2 wr.drew rfl
                have hbr2 := hbr.drew
                have HW : IntKind.i64.wrap (n : Int) = (n : Int) := by rw [IntKind.wrap_i64]; omega
                have hz1 : (0 : Int) ≤ (n : Int) + 1 := by omega
                have hlk : (n : Int) < (ks.length : Int) := by omega
                have hlk2 : (n : Int) + 1 < (ks.length : Int) := by omega
                have hlk3 : ((n + 1 : Nat) : Int) < (ks.length : Int) := by omega
                clear T2' hK2 hc1 hc2 hbr e2 ha hb
                go_upto_region 19 with (fail)
                refine region_only 10 #[false, false, false, false, false, false, false, false, false, false] (S := (fun W => W.cell? ⟨g1, n, none⟩ = some (.string (str a.key)) ∧ W.cell? ⟨g1, n + 1, none⟩ = some (.string (str b.key)))) rfl rfl (by kernel_rfl) ⟨c1, c2⟩ (fun hSw => ?_)
                refine take_at 0 77 (fuel := 9) ?_ rfl rfl (by kernel_rfl) (by kernel_rfl) (by kernel_rfl) (Or.inl ⟨by rfl, ?_⟩) hSw ?_
                rotate_left
                · intro wx hSx
                  (try dsimp only at hSx)
                  go_split_ands
                  go_simp
                  (try with_reducible rfl)
                simp only [List.setIfInBounds_toArray, List.set_cons_zero, List.set_cons_succ]
                refine take_at 1 78 (fuel := 8) ?_ rfl rfl (by kernel_rfl) (by kernel_rfl) (by kernel_rfl) (Or.inl ⟨by rfl, ?_⟩) hSw ?_
                rotate_left
                · intro wx hSx
                  (try dsimp only at hSx)
                  go_split_ands
                  go_simp
                  (try with_reducible rfl)
                simp only [List.setIfInBounds_toArray, List.set_cons_zero, List.set_cons_succ]
                refine take_at 2 79 (fuel := 7) ?_ rfl rfl (by kernel_rfl) (by kernel_rfl) (by kernel_rfl) (Or.inl ⟨by rfl, ?_⟩) hSw ?_
                rotate_left
                · intro wx hSx
                  (try dsimp only at hSx)
                  go_split_ands
                  go_simp
                  (try with_reducible rfl)
                simp only [List.setIfInBounds_toArray, List.set_cons_zero, List.set_cons_succ]
                refine take_at 3 80 (fuel := 6) ?_ rfl rfl (by kernel_rfl) (by kernel_rfl) (by kernel_rfl) (Or.inl ⟨by rfl, ?_⟩) hSw ?_
                rotate_left
                · intro wx hSx
                  (try dsimp only at hSx)
                  go_split_ands
                  go_simp
                  (try with_reducible rfl)
                simp only [List.setIfInBounds_toArray, List.set_cons_zero, List.set_cons_succ]
                refine take_at 4 81 (fuel := 5) ?_ rfl rfl (by kernel_rfl) (by kernel_rfl) (by kernel_rfl) (Or.inl ⟨by rfl, ?_⟩) hSw ?_
                rotate_left
                · intro wx hSx
                  (try dsimp only at hSx)
                  go_split_ands
                  go_simp
                  (try with_reducible rfl)
                simp only [List.setIfInBounds_toArray, List.set_cons_zero, List.set_cons_succ]
                refine take_at 5 82 (fuel := 4) ?_ rfl rfl (by kernel_rfl) (by kernel_rfl) (by kernel_rfl) (Or.inl ⟨by rfl, ?_⟩) hSw ?_
                rotate_left
                · intro wx hSx
                  (try dsimp only at hSx)
                  go_split_ands
                  go_simp
                  (try with_reducible rfl)
                simp only [List.setIfInBounds_toArray, List.set_cons_zero, List.set_cons_succ]
                refine take_at 6 83 (fuel := 3) ?_ rfl rfl (by kernel_rfl) (by kernel_rfl) (by kernel_rfl) (Or.inl ⟨by rfl, ?_⟩) hSw ?_
                rotate_left
                · intro wx hSx
                  (try dsimp only at hSx)
                  go_split_ands
                  go_simp
                  (try with_reducible rfl)
                simp only [List.setIfInBounds_toArray, List.set_cons_zero, List.set_cons_succ]
                refine take_at 7 84 (fuel := 2) ?_ rfl rfl (by kernel_rfl) (by kernel_rfl) (by kernel_rfl) (Or.inl ⟨by rfl, ?_⟩) hSw ?_
                rotate_left
                · intro wx hSx
                  (try dsimp only at hSx)
                  go_split_ands
                  go_simp
                  (try with_reducible rfl)
                simp only [List.setIfInBounds_toArray, List.set_cons_zero, List.set_cons_succ]
                refine take_at 8 85 (fuel := 1) ?_ rfl rfl (by kernel_rfl) (by kernel_rfl) (by kernel_rfl) (Or.inl ⟨by rfl, ?_⟩) hSw ?_
                rotate_left
                · intro wx hSx
                  (try dsimp only at hSx)
                  go_split_ands
                  go_simp
                  (try with_reducible rfl)
                simp only [List.setIfInBounds_toArray, List.set_cons_zero, List.set_cons_succ]
                refine take_at 9 86 (fuel := 0) ?_ rfl rfl (by kernel_rfl) (by kernel_rfl) (by kernel_rfl) (Or.inl ⟨by rfl, ?_⟩) hSw ?_
                rotate_left
                · intro wx hSx
                  (try dsimp only at hSx)
                  go_split_ands
                  go_simp
                  (try with_reducible rfl)
                simp only [List.setIfInBounds_toArray, List.set_cons_zero, List.set_cons_succ]
                refine wpAnyH_done (by kernel_rfl) ⟨rfl, ?_⟩ 0
                clear hSw c1 c2
                generalize wr.drew = w70 at *
                (try rw [hless])
                go_wp2_with fail
                go_roundw
                case rel => exact ⟨n + 1, by omega, by first | (simp; omega) | simp, hbr2⟩
                case measure => simp [intOf]; omega
              · have hge : ¬ (((n + 1 : Nat) : Int) < (mu.length : Int)) := by omega
                have dge : decide (((n + 1 : Nat) : Int) < (mu.length : Int)) = false := decide_eq_false hge
                have dge2 : decide ((n : Int) + 1 < (mu.length : Int)) = false := decide_eq_false (by omega)
                clear hK2 hK hbr
                go_wp2_with fail
                refine (awake_c _).mono ?_
                rintro e w80 ⟨rfl, hbn⟩
                have T3 := T2'.below hbn
                clear T2' hbn
                have hme : ((mu.length : Int) == (ks.length : Int)) = true := by rw [hmk]; simp
                go_wp2_with fail
                refine (export_c (by omega) T3.ht).mono ?_
                rintro e w81 ⟨rfl, hbn⟩
                have T4 := T3.below hbn
                clear T3 hbn
                go_wp2_with fail
                refine (export_c (by omega) T4.hu).mono ?_
                rintro e w82 ⟨rfl, hbn⟩
                have T5 := T4.below hbn
                clear T4 hbn
                go_wp2_with fail
                go_ret
                exact ⟨rfl, T5.bel⟩
set_option linter.unusedVariables false in
set_option maxRecDepth 100000 in
theorem tableRises_lifted (os : Os) (started : os.Started) (H : Type) (enc : TypeId × Value → H) :
    ReturnsInHanded {} Try.checked os 7 .any (Rows.tableRisesSpec.pre6 enc Try.prog Try.f7 Rows.tableRisesRow.domain false) (Rows.tableRisesSpec.post enc Try.prog Try.f7 false true false false) := by
  refine returnsInHanded_of_change (C := Try.checked) Kit.own started (by kernel_rfl) Try.func7
    (ChangeSpec.witness6 (enc := enc) (C := Try.checked) false ⟨#[], #[.slice none 0 0], []⟩ 8 (by kernel_rfl) (by kernel_rfl) (by kernel_rfl) (by kernel_rfl)) ?_
  intro W base args ds gs before hval0 hW hcnd _
  have hval : ∀ (j : Nat) t v, Try.f7.params[j]? = some t → args[j]? = some v → Value.okWide Try.prog W .any base t v := hval0
  have hW' := hW
  obtain ⟨p, q, hA0, hV, rfl, hfz, hnd⟩ := hW
  have hA : DataW.TrodAll enc Try.prog W 0 (fun _ => true) true Try.f7.params.toList args.toList ds p := hA0
  rw [Try.params7] at hA hval
  obtain ⟨v0, vs0, d0, ds0, p0, q0, hargs, rfl, rfl, h0, r0⟩ := trodAll_cons hA
  obtain ⟨rfl, rfl, rfl⟩ := trodAll_nil r0
  obtain ⟨rfl, rfl⟩ := trodVars_none hV
  obtain rfl : args = #[v0] := by cases args; simp_all
  obtain ⟨b0, c0, l0, rfl⟩ := okWide_slice Try.underlying29 (hval 0 29 v0 rfl rfl)
  obtain ⟨fuel0, hf0⟩ := h0
  obtain ⟨ao0, len0, cap0, sb0, off0, X0, hv0, ht0⟩ := open_ents (show DataW.trod enc Try.prog W 0 (fun _ => true) true fuel0 29 [.slice b0 c0 l0] = some _ from hf0)
  injection hv0 with hv0x hv0y hv0z
  subst hv0x hv0y hv0z
  clear hA0 hval0
  refine (tableRises_walk _ _ _ _ _ _ W ht0).mono fun e W' ⟨he, hg⟩ => ?_
  subst he
  exact ⟨_, rfl, Kit.law_post hW' rfl (by kernel_rfl) rfl (by kernel_rfl) hg⟩

theorem tableRises_over : Rows.tableRisesRow.holds Try.pinned (OpenSpec.ofChange Rows.tableRisesSpec) :=
  OpenClaim.holds_of_wide 7 Try.f7 rfl rfl rfl rfl rfl rfl rfl ⟨rfl, rfl, rfl, rfl, rfl⟩ rfl rfl rfl rfl rfl (by kernel_rfl) Try.func7 (by kernel_rfl)
    (of_decide_eq_true (by kernel_rfl)) (by unfold Func.isWrapper; first | (rw [if_pos (by decide +kernel)]; kernel_rfl) | (rw [if_neg (by decide +kernel)]; exact ⟨rfl, rfl⟩))
    (fun os started H enc _ => tableRises_lifted os started H enc)

theorem tableRises_holds : Rows.TableRisesSaid :=
  tableRises_over
end Go.Proofs.Ytdjfdpmfpnbpjaa.Taby
