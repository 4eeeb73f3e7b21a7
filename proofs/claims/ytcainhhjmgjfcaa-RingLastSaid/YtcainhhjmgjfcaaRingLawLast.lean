/- Layer 6 (ring): for every input the call returns true and leaves what it was given as it was: keys that all go to the front of one list stand there by when they last did, each once (RingLast). No condition. -/
import Derived.Test.YtcainhhjmgjfcaaKit
import Derived.Test.YtcainhhjmgjfcaaTexts
import Derived.Test.YtcainhhjmgjfcaaRingAside
import Derived.Deep.QuietTactic
import Derived.BigQuiet
namespace Go.Proofs.Ytcainhhjmgjfcaa.Ringy
open Go.ChangeShapes Go.WideShapes Go.ChangeAt Go.RowKit Go.Shelf
open Wirey (Blk Row str str_size str_list str_of str_take Kp Texts)
open Go.ChangeMaps Go.Maps

attribute [local go_sem] Oper.semAt_some

/-- One list of a hundred places, of which few are taken. -/
structure One (r : Rg) (j : Nat) : Prop where
  n : r.n = 1
  pl : r.places = 100
  len : (r.l 0).length ≤ j
theorem One.front {r : Rg} {j : Nat} (h : One r j) (hj : j < 60) {k : Key} (hk : k.length ≤ 64) : One (r.fr 0 k) (j + 1) ∧ (r.fr 0 k).l 0 = k :: strike k (r.l 0) := by
  have hm : r.many = (r.l 0).length := by
    unfold Rg.many
    rw [h.n]
    show 0 + (r.l 0).length = _
    omega
  have hok : r.ok 0 k = true := by
    unfold Rg.ok
    rw [decide_eq_true hk, h.n, h.pl, hm, decide_eq_true (by have := h.len; omega : (r.l 0).length < 100)]
    simp
  have hfr : r.fr 0 k = (r.drop k).push 0 k := by unfold Rg.fr; rw [if_pos hok]; rfl
  have hl : (r.fr 0 k).l 0 = k :: strike k (r.l 0) := by rw [hfr]; show (if 0 = 0 then k :: strike k (r.l 0) else strike k (r.l 0)) = _; rw [if_pos rfl]
  refine ⟨⟨by rw [(Rg.fr_n r 0 k).1]; exact h.n, by rw [(Rg.fr_n r 0 k).2]; exact h.pl, ?_⟩, hl⟩
  rw [hl]
  have := strike_le k (r.l 0)
  have := h.len
  show (strike k (r.l 0)).length + 1 ≤ j + 1
  omega

set_option maxHeartbeats 4000000 in
set_option maxRecDepth 100000 in
theorem ringLast_walk (ao : Option Addr) (n cap sb off : Nat) (T : Nat → List UInt8) (w : World) (ht : Texts w ao n sb off T) :
    Calls Try.prog 7 #[.slice ao n cap] w fun e w' => e = .returned (.bool true) ∧ Below w.heap.size w w' := by
  have hn63 := ht.n63
  have hsz := str_size
  obtain ⟨i0, hi0, hz0, hz1, hz2⟩ := info_parts str_info
  have hnew := fun W : World => new_h (n := 1) (places := 100) (by omega) (by omega) (by omega) W
  refine calls_marks Try.func7 rfl ?_
  simp only [Try.ntmps7, List.size_toArray, List.length_cons, List.length_nil, Nat.reduceAdd, Nat.reduceSub, Array.replicate_succ, Array.replicate_zero, List.push_toArray, List.append_toArray, List.nil_append, List.cons_append]
  go_wp2_with fail
  refine (hnew _).mono ?_
  clear hnew
  rintro e w2 ⟨rfl, m, hH⟩
  go_wp2_with fail
  refine (awake_c _).mono ?_
  rintro e w3 ⟨rfl, hb3⟩
  have hH3 := hH.later hb3 (Nat.le_refl _)
  clear hH hb3
  go_upto_region 5 with (fail)
  have hA0 : Aside ((w3.alloc (.cells #[] 9)).alloc (.cells #[.slice (some ⟨w3.heap.size, 0, none⟩) 0 0] 49)) m w.heap.size (w3.heap.size + 1) (.slice (some ⟨w3.heap.size, 0, none⟩) 0 0) [] := by
    have hs : (w3.alloc (.cells #[] 9)).heap.size = w3.heap.size + 1 := by simp
    have h3 := hH3.below.size
    refine ⟨by omega, ?_, ?_, fun ho => by have := hH3.lt _ ho; omega, fun g hg ho => by cases hg; have := hH3.lt _ ho; exact absurd this (Nat.lt_irrefl _)⟩
    · have := Blk.new (w3.alloc (.cells #[] 9)) 49 #[.slice (some ⟨w3.heap.size, 0, none⟩) 0 0]
      rw [hs] at this
      exact this
    · exact (World.ownsRow_lit (size := 1) (e := 9) w3 #[] 0 h3 (Nat.zero_le _) rfl).alloc _
  have hH4 := (hH3.alloc (.cells #[] 9)).alloc (.cells #[.slice (some ⟨w3.heap.size, 0, none⟩) 0 0] 49)
  generalize (w3.alloc (.cells #[] 9)).alloc (.cells #[.slice (some ⟨w3.heap.size, 0, none⟩) 0 0] 49) = w4 at *
  generalize w3.heap.size + 1 = WB at *
  generalize Value.slice (some ⟨w3.heap.size, 0, none⟩) 0 0 = v0 at *
  clear hH3
  go_wp2_with fail
  go_loopw [6] (fun i wr => ∃ (j : Nat) (m : Rm) (r : Rg) (v : Value), j ≤ n ∧ j ≤ 60 ∧ i = .int .i64 j ∧ Held w (w.heap.size + 2) wr m r ∧ One r j ∧ Aside wr m w.heap.size WB v (r.l 0)) (fun i _ => 60 - (intOf i).toNat)
  case atStart => exact ⟨0, m, _, v0, by omega, by omega, rfl, hH4, ⟨rfl, rfl, Nat.le_refl _⟩, hA0⟩
  case round =>
    obtain ⟨j, m, r, v, hjn, hj60, rfl, hU, hone, hA⟩ := hrel
    clear hH4 hA0
    by_cases h1 : j < n ∧ j < 60
    · obtain ⟨h1, h60⟩ := h1
      have d1 : decide ((j : Int) < (n : Int)) = true := decide_eq_true (by omega)
      have d2 : decide ((j : Int) < 60) = true := decide_eq_true (by omega)
      have hao := ht.ao (by omega)
      have hcell := (ht.below hU.below (fun h => ht.lt h)).cell j h1
      have hsize := ht.size j h1
      subst hao
      go_wp2_with fail
      refine (few_c (T j) hsize _).mono ?_
      rintro e w' ⟨rfl, rfl⟩
      have hfl := fewL_max (T j)
      generalize hkk : fewL (T j) = k at *
      clear hkk hcell hsize
      by_cases hk : k.length ≤ 64
      · have hk2 : ¬ (64 : Int) < (k.length : Int) := by omega
        obtain ⟨ho1, ho2⟩ := hone.front h60 hk
        go_wp2_with fail
        refine (front_h 0 hfl hU).mono ?_
        rintro e w5 ⟨rfl, m5, hU5, hS5⟩
        have hA5 := hA.step hS5
        clear hS5 hU hA
        generalize r.fr 0 k = r5 at *
        have HO1 := Lib.hid ho1
        have HO2 := Lib.hid ho2
        have hll : (r.l 0).length ≤ 60 := Nat.le_trans hone.len (by omega)
        clear ho1 ho2 hone
        generalize r.l 0 = l at *
        go_upto_region 12 with (fail)
        have hb6 := (Below.refl _ w5).alloc (Nat.le_refl _) (.cells #[.string (str k)] 9)
        have hown6 := World.ownsRow_lit (size := 1) (e := 9) (base := w5.heap.size) w5 #[.string (str k)] 1 (Nat.le_refl _) (by unfold maxLen; omega) rfl
        generalize w5.alloc (.cells #[.string (str k)] 9) = w6 at *
        obtain ⟨va, vc, rfl⟩ := own_form hA5.row
        generalize hs8 : Value.slice (some ⟨w5.heap.size, 0, none⟩) 1 1 = v8 at *
        clear hs8
        go_wp2_with fail
        go_loopw [8, 9] (fun v2 i wr => ∃ j2 : Nat, j2 ≤ l.length ∧ i = .int .i64 j2 ∧ wr.ownsRow w5.heap.size 9 1 v2 (k :: strike k (l.take j2)).length (strsV (k :: strike k (l.take j2))) ∧ Below w5.heap.size w5 wr) (fun _ i _ => l.length - (intOf i).toNat)
        case atStart => exact ⟨0, Nat.zero_le _, rfl, hown6, hb6⟩
        case round =>
          obtain ⟨j2, hj2, rfl, hown, hbw⟩ := hrel
          clear hown6 hb6
          have hA6 := hA5.later hbw (Nat.le_refl _)
          have cB := hA6.box.cell 0
          have fB := hA6.box.free 0
          simp only [List.getElem?_toArray, List.getElem?_cons_zero] at cB
          by_cases hlt : j2 < l.length
          · obtain ⟨g, c, hv, hg⟩ := hA6.at_ hlt
            cases hv
            have HTK := Lib.hid (take_snoc hlt)
            generalize l[j2]?.getD [] = x at *
            have htl := Wirey.toList_str
            by_cases e : x = k
            · have e2 : (x == k) = true := beq_iff_eq.2 e
              have hst : strike k (l.take (j2 + 1)) = strike k (l.take j2) := by rw [HTK.out, strike_snoc, if_pos e]
              have HST := Lib.hid hst
              clear e hst
              go_wp2_with fail
              go_roundw
              case rel => exact ⟨j2 + 1, by omega, rfl, by rw [HST.out]; exact hown, hbw⟩
              case measure => simp [intOf]; omega
            · have e2 : (x == k) = false := beq_eq_false_iff_ne.2 e
              have hst : k :: strike k (l.take (j2 + 1)) = (k :: strike k (l.take j2)) ++ [x] := by rw [HTK.out, strike_snoc, if_neg e]; rfl
              have hln : (k :: strike k (l.take j2)).length ≤ 62 := by
                have h1 := strike_le k (l.take j2)
                rw [List.length_take] at h1
                simp only [List.length_cons]
                omega
              have HST := Lib.hid hst
              clear e hst
              generalize k :: strike k (l.take j2) = L at *
              have hws := hbw.size
              go_wp2_with (first | (refine wpList_append_lies _ (by rfl) _ _ _ (by rfl) w5.heap.size 9 i0 _ 1 16 Try.underlying49 hi0 hz0 hz1 hz2 rfl (by omega) u8 L.length (strsV L) (by rfl) (hown.alloc _) ⟨wr.heap.size, 0, none⟩ 1 1 [.string (str x)] (by rfl) (by rfl) (World.news_of_block (cs := #[.string (str x)]) (t := 9) (fr := (0, 0)) (heap_alloc_new wr _)) (by simp [Value.oneCell']) (by omega) (by simp [maxLen]; omega) (by omega) (by simp; omega) (wr.heap.size + 1) (by simp) ?_; intro gg cp w7 hown1 hgrow hat3 hlt3))
              go_roundw
              case rel =>
                rw [← strsV_snoc] at hown1
                refine ⟨j2 + 1, by omega, by simp, ?_, ?_⟩
                · rw [HST.out]; simpa using hown1
                · exact (hbw.alloc hws _).trans ⟨hgrow.os, hgrow.tape, hgrow.output, hgrow.size, fun b hb => hgrow.block b (by simp; omega) (fun e => by have := (hown.lt b e.symm).1; omega)⟩
              case measure => simp [intOf]; omega
          · obtain rfl : j2 = l.length := by omega
            rw [List.take_length] at hown
            obtain ⟨a2, c2, rfl⟩ := own_form hown
            go_wp2_with fail
            go_roundw
            case rel =>
              have hkp : Kp (fun b => b = WB) wr (wr.setCell ⟨WB, 0, none⟩ (.slice a2 ((strike k l).length + 1) c2)) := (Kp.refl (fun b => b = WB) wr).set (p := ⟨WB, 0, none⟩) rfl _
              have hU6 := (hU5.later hbw (Nat.le_refl _)).kp hkp (fun b hb => ⟨by rw [hb]; exact hA5.lo, by rw [hb]; exact hA5.noB⟩)
              refine ⟨j + 1, m5, r5, .slice a2 ((strike k l).length + 1) c2, by omega, by omega, by simp, hU6, HO1.out, ?_⟩
              rw [HO2.out]
              refine ⟨hA5.lo, blk_put1 hA6.box, ownsRow_stay (own_mono hown hU5.below.size) (fun b hb => far ?_ _), hA5.noB, fun g hg ho => by have := hU5.lt g ho; have := (hown.lt g hg).1; omega⟩
              have h1 := (hown.lt b hb).1
              have h2 := hA5.box.lt
              show b ≠ WB
              omega
            case measure => simp [intOf]; omega
      · have hk2 : (64 : Int) < (k.length : Int) := by omega
        go_wp2_with fail
        go_roundw
        case rel => exact ⟨j + 1, m, r, v, by omega, by omega, rfl, hU, ⟨hone.n, hone.pl, Nat.le_succ_of_le hone.len⟩, hA⟩
        case measure => simp [intOf]; omega
    · have hend : (j < n ∧ ¬ j < 60 ∧ decide ((j : Int) < (n : Int)) = true ∧ decide ((j : Int) < 60) = false) ∨ (¬ j < n ∧ decide ((j : Int) < (n : Int)) = false) := by
        by_cases h : j < n
        · exact .inl ⟨h, by omega, decide_eq_true (by omega), decide_eq_false (by omega)⟩
        · exact .inr ⟨h, decide_eq_false (by omega)⟩
      have hr0 : 0 < r.n := by rw [hone.n]; omega
      have hll := Nat.le_trans hone.len hj60
      have HR0 := Lib.hid hr0
      clear h1 hr0 hone
      obtain ⟨va, vc, rfl⟩ := own_form hA.row
      rcases hend with ⟨h2, h3, d1, d2⟩ | ⟨h2, d1⟩
      all_goals
        go_wp2_with fail
        refine (keys_h 0 HR0.out ((hU.alloc (.cells #[.int .i64 0] 3)).alloc (.cells #[.bool true] 4))).mono ?_
        rintro e w5 ⟨B, rfl, hbox, hb5, hH5⟩
        have s1 : (wr.alloc (.cells #[.int .i64 0] 3)).heap.size = wr.heap.size + 1 := by simp
        have s2 : ((wr.alloc (.cells #[.int .i64 0] 3)).alloc (.cells #[.bool true] 4)).heap.size = wr.heap.size + 2 := by simp
        have bi : Blk w5 wr.heap.size 3 #[.int .i64 ((0 : Nat) : Int)] := ((Blk.new wr 3 #[.int .i64 0]).alloc _).below hb5 (by omega)
        have bo : Blk w5 (wr.heap.size + 1) 4 #[.bool (okF (r.l 0) [])] := by
          rw [okF_nil]
          have := Blk.new (wr.alloc (.cells #[.int .i64 0] 3)) 4 #[.bool true]
          rw [s1] at this
          exact this.below hb5 (by omega)
        have hA5 := hA.later (((Below.refl _ wr).alloc (Nat.le_refl _) (.cells #[.int .i64 0] 3)).alloc (by omega) (.cells #[.bool true] 4)) (Nat.le_refl _)
        replace hA5 := hA5.later hb5 (Nat.le_refl _)
        have hlt5 : wr.heap.size + 1 < w5.heap.size := bo.lt
        have hwr := hU.below.size
        have HO := Lib.hid (fun b (hb : b = wr.heap.size ∨ b = wr.heap.size + 1) => (⟨by rcases hb with hb | hb <;> omega, fun ho => by have := hU.lt b ho; rcases hb with hb | hb <;> omega⟩ : w.heap.size ≤ b ∧ ¬ m.own b))
        have HWB : Hid (WB < wr.heap.size) := Lib.hid hA.box.lt
        have HRW : Hid (∀ g, (Value.slice va (r.l 0).length vc).ownBlock = some g → g < wr.heap.size) := Lib.hid (fun g hg => (hA.row.lt g hg).2)
        have HA5 := Lib.hid hA5
        have HH5 := Lib.hid hH5
        have HLL := Lib.hid hll
        clear hU hA hA5 hH5 hll hb5
        rw [s2] at hbox
        clear s1 s2
        generalize hl0 : r.l 0 = l at *
        clear hl0
        go_wp2_with fail
        apply range_keys (B := B) (l := l) (I := fun pre W => Blk W wr.heap.size 3 #[.int .i64 (pre.length : Int)] ∧ Blk W (wr.heap.size + 1) 4 #[.bool (okF l pre)] ∧ Kp (fun b => b = wr.heap.size ∨ b = wr.heap.size + 1) w5 W) (Ix := fun _ _ _ => False)
        case hg => rfl
        case hbox => exact hbox
        case hlen => have := HLL.out; omega
        case hps => rfl
        case hI => exact own_kp (O := fun b => b = wr.heap.size ∨ b = wr.heap.size + 1) (fun s W h => h.2.2) (fun s W W' h hk hb => ⟨(hb _ (by omega)).trans h.1, (hb _ hlt5).trans h.2.1, hk⟩)
        case hIx => exact fun c s W W' row h _ _ => h
        case h0 => exact ⟨bi, bo, Kp.refl _ _⟩
        case hassign =>
          intro r x W K hK
          gi_wp2
          exact hK
        case hstop => exact fun _ _ _ _ _ _ h _ => h.elim
        case hbody =>
          rintro v hv rr pre x W ⟨hbi, hbo, hkp⟩ hlen
          have hAW := HA5.out.kp hkp (by have := HWB.out; omega) (fun g hg => by have := HRW.out g hg; omega)
          have ci := hbi.cell 0
          have fi := hbi.free 0
          have co := hbo.cell 0
          have fo := hbo.free 0
          have cB := hAW.box.cell 0
          obtain ⟨g, c, hgv, hg⟩ := hAW.at_ hlen
          cases hgv
          simp only [List.getElem?_toArray, List.getElem?_cons_zero] at ci co cB
          have hpl : pre.length < 5000 := by have := HLL.out; omega
          have hsn := okF_snoc hlen x
          have HSN := Lib.hid hsn
          clear hsn
          generalize hy : l[pre.length]?.getD [] = y at *
          have HY := Lib.hid hy
          clear hy
          have htl := Wirey.toList_str
          rcases Bool.eq_false_or_eq_true (okF l pre) with hok | hok
          · rw [hok] at co
            by_cases e : y = x
            · have e2 : (y == x) = true := beq_iff_eq.2 e
              gi_wp2
              exact two_put (b := true) (fun g hg => (hv g hg).1) (by omega) hbi hbo hkp (by rw [HSN.out, hok, decide_eq_true e, Bool.and_true])
            · have e2 : (y == x) = false := beq_eq_false_iff_ne.2 e
              gi_wp2
              exact two_put (b := false) (fun g hg => (hv g hg).1) (by omega) hbi hbo hkp (by rw [HSN.out, hok, decide_eq_false e, Bool.and_false])
          · rw [hok] at co
            gi_wp2
            exact two_put (b := false) (fun g hg => (hv g hg).1) (by omega) hbi hbo hkp (by rw [HSN.out, hok, Bool.false_and])
        case hdone =>
          rintro D W hD ⟨hbi, hbo, hkp⟩ hK
          have hAW := HA5.out.kp hkp (by have := HWB.out; omega) (fun g hg => by have := HRW.out g hg; omega)
          have hH := HH5.out.kp hkp HO.out
          have HK := Lib.hid hK
          have HD : Hid (w.heap.size ≤ D) := Lib.hid (by omega)
          have HB := Lib.hid hH.below
          rw [okF_all] at hbo
          have ci := hbi.cell 0
          have co := hbo.cell 0
          have cB := hAW.box.cell 0
          simp only [List.getElem?_toArray, List.getElem?_cons_zero] at ci co cB
          clear hK hD hH hAW hbi hbo hkp
          go_wp2_with fail
          exact leave_marks (B := w.heap.size) (fun _ => results_tmp rfl _ _ _) _ _ ⟨⟨D, rfl, HD.out, HK.out, by simp⟩, trivial⟩ (fun W' hb' => ⟨rfl, HB.out.trans hb'⟩)

set_option linter.unusedVariables false in
set_option maxRecDepth 100000 in
theorem ringLast_lifted (os : Os) (started : os.Started) (H : Type) (enc : TypeId × Value → H) :
    ReturnsInHanded {} Try.checked os 7 .any (Rows.ringLastSpec.pre6 enc Try.prog Try.f7 Rows.ringLastRow.domain false) (Rows.ringLastSpec.post enc Try.prog Try.f7 false true false false) := by
  refine returnsInHanded_of_change (C := Try.checked) Kit.own started (by kernel_rfl) Try.func7
    (ChangeSpec.witness6 (enc := enc) (C := Try.checked) false ⟨#[], #[.slice none 0 0], []⟩ 8 (by kernel_rfl) (by kernel_rfl) (by kernel_rfl) (by kernel_rfl)) ?_
  intro W base args ds gs before hval0 hW hcnd _
  have hval : ∀ (j : Nat) t v, Try.f7.params[j]? = some t → args[j]? = some v → Value.okWide Try.prog W .any base t v := hval0
  have hW' := hW
  obtain ⟨p, q, hA0, hV, rfl, hfz, hnd⟩ := hW
  have hA : DataW.TrodAll enc Try.prog W 0 (fun _ => true) true Try.f7.params.toList args.toList ds p := hA0
  rw [Try.params7] at hA hval
  obtain ⟨v0, vs0, d0, ds0, p0, q0, hargs, rfl, rfl, h0, r0⟩ := trodAll_cons hA
  obtain ⟨rfl, rfl, rfl⟩ := trodAll_nil r0
  obtain ⟨rfl, rfl⟩ := trodVars_none hV
  obtain rfl : args = #[v0] := by cases args; simp_all
  obtain ⟨b0, c0, e0, rfl⟩ := okWide_slice Try.underlying49 (hval 0 49 v0 rfl rfl)
  obtain ⟨fuel0, hf0⟩ := h0
  obtain ⟨ao0, len0, cap0, sb0, off0, tx0, hv0, ht0⟩ := Wirey.open_texts (show DataW.trod enc Try.prog W 0 (fun _ => true) true fuel0 49 [.slice b0 c0 e0] = some _ from hf0)
  injection hv0 with hv0x hv0y hv0z
  subst hv0x hv0y hv0z
  clear hA0 hval0
  refine (ringLast_walk _ _ _ _ _ _ W ht0).mono fun e W' ⟨he, hg⟩ => ?_
  subst he
  exact ⟨_, rfl, Kit.law_post hW' rfl (by kernel_rfl) rfl (by kernel_rfl) hg⟩

theorem ringLast_over : Rows.ringLastRow.holds Try.pinned (OpenSpec.ofChange Rows.ringLastSpec) :=
  OpenClaim.holds_of_wide 7 Try.f7 rfl rfl rfl rfl rfl rfl rfl ⟨rfl, rfl, rfl, rfl, rfl⟩ rfl rfl rfl rfl rfl (by kernel_rfl) Try.func7 (by kernel_rfl)
    (of_decide_eq_true (by kernel_rfl)) (by unfold Func.isWrapper; first | (rw [if_pos (by decide +kernel)]; kernel_rfl) | (rw [if_neg (by decide +kernel)]; exact ⟨rfl, rfl⟩))
    (fun os started H enc _ => ringLast_lifted os started H enc)

theorem ringLast_holds : Rows.RingLastSaid :=
  ringLast_over

end Go.Proofs.Ytcainhhjmgjfcaa.Ringy
