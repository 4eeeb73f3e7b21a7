/- Layer 3 (wire): for every input the call returns true and leaves what it was given as it was: whatever is taken off whatever bytes, one behind the other, comes as the document says, up to the first that can't be (WireReads). Condition: the table of halves holds what the program's text lays (the card ties it). -/
import Derived.Test.YtmoammadibepkaaDoorWireLaid
import Derived.Test.YtmoammadibepkaaDoorWireRefAt
import Derived.Test.YtmoammadibepkaaDoorWireRefOpen
namespace Go.Proofs.YtmoammadibepkaaDoor.Wirey
open Go.ChangeShapes Go.WideShapes Go.ChangeAt Go.RowKit Go.ChangeMaps

set_option maxHeartbeats 8000000 in
set_option maxRecDepth 100000 in
theorem undrew {w we : World} (h : Below w.drew.heap.size w.drew we) : Below w.heap.size w we := ((Below.refl _ w).drew).trans h
theorem own_slice {w : World} {B n : Nat} {t : TypeId} {v : Value} {xs : List Value} (h : w.ownsRow B t 1 v n xs) :
    ∃ a c, v = .slice a n c ∧ ∀ i x, xs[i]? = some x → ∃ g, a = some ⟨g, 0, none⟩ ∧ g < w.heap.size ∧ w.cell? ⟨g, i, none⟩ = some x := by
  rcases h.2 with ⟨rfl, rfl⟩ | ⟨g, cap, cur, rfl, _, hg, hn, _, hs, rfl⟩
  · refine ⟨none, 0, rfl, fun i x hi => ?_⟩
    have h1 := h.1
    have h2 := (List.getElem?_eq_some_iff.1 hi).1
    omega
  · refine ⟨_, cap, rfl, fun i x hi => ⟨g, rfl, ?_, ?_⟩⟩
    · exact Blk.lt hg
    · rw [cell_of_row w g i cur t (0, 0) hg]
      rw [List.getElem?_take] at hi
      split at hi
      · simpa using hi
      · simp at hi
theorem own_ge {w : World} {B n g : Nat} {t : TypeId} {v : Value} {xs : List Value} (h : w.ownsRow B t 1 v n xs) (hg : v.ownBlock = some g) : B ≤ g := by
  rcases h.2 with ⟨rfl, _⟩ | ⟨g', cap, cur, rfl, hb, _⟩
  · simp [Value.ownBlock] at hg
  · obtain rfl : g' = g := by simpa [Value.ownBlock] using hg
    exact hb
set_option maxHeartbeats 8000000 in
set_option maxRecDepth 100000 in
theorem wireReads_gen (hSame : ∀ l, numR l = numF l) {sb off len cap : Nat} {ao : Option Addr} {l : List UInt8} {ss : List St} (w2 : l.length ≤ maxLen) (w : World) (hT : Halves w) (hao : 0 < ss.length → ao = some ⟨sb, off, none⟩) (hlen : ss.length = if len ≤ 12 then len else 12) (hl2 : len ≤ 9223372036854775807)
    (c3 : StepsAt w sb off ss) (hsb : sb < w.heap.size) (hns : ∀ s ∈ ss, s.n ≤ 9223372036854775807) :
    Calls Tryd.prog 9 #[.string (str l), .slice ao len cap] w fun e w' => e = .returned (.bool true) ∧ Below w.heap.size w w' := by
  have hsz := str_size
  have htl := toList_str
  have HT := Lib.hid hT
  have hle := fewL_le l
  have HS := Lib.hid hSame
  clear hT hSame
  go_enter Tryd.func9, Tryd.ntmps9
  go_upto_region 1 with fail
  go_cut [5, 6] from 13 (fun s5 s6 wx => s5 = .string (str (fewL l)) ∧ s6 = .pointer (some ⟨w.heap.size + 1, 0, none⟩) ∧ wx = ((w.alloc (.cells #[.slice ao len cap] 54)).alloc (.cells #[.int .i64 (len : Int)] 3)).drew)
  case first =>
    go_region_with (first | (go_at_call 12; refine (few_c l w2 _).mono ?_; rintro e w' ⟨rfl, rfl⟩))
    all_goals (go_wp2_with fail; go_meet; exact ⟨rfl, rfl, rfl⟩)
  case rest =>
    obtain ⟨rfl, rfl, hwc⟩ := hcut
    have B0 : Blk wc w.heap.size 54 #[.slice ao len cap] := by rw [hwc]; exact ((Blk.new w _ _).alloc _)
    have B1 : Blk wc (w.heap.size + 1) 3 #[.int .i64 (len : Int)] := by rw [hwc]; have := Blk.new (w.alloc (.cells #[.slice ao len cap] 54)) 3 #[.int .i64 (len : Int)]; rw [World.size_alloc] at this; exact this
    have hb : Below w.heap.size w wc := by rw [hwc]; exact (((Below.refl _ w).alloc (Nat.le_refl _) _).alloc (by simp) _).drew
    have hs0 : wc.heap.size = w.heap.size + 2 := by rw [hwc]; simp
    clear hwc
    have c0 := B1.cell 0
    have z0 := B1.free 0
    dsimp at c0
    go_upto_if 18 with fail
    go_cut [] from 13 (fun wx => Blk wx w.heap.size 54 #[.slice ao len cap] ∧ Blk wx (w.heap.size + 1) 3 #[.int .i64 (ss.length : Int)] ∧ Below w.heap.size w wx ∧ wx.heap.size = w.heap.size + 2)
    case first =>
      by_cases h12 : len ≤ 12
      · rw [if_pos h12] at hlen
        go_wp2_with fail
        go_meet
        exact ⟨B0, by rw [hlen]; exact B1, hb, hs0⟩
      · rw [if_neg h12] at hlen
        go_wp2_with fail
        go_meet
        exact ⟨B0.far (by simp) _, by rw [hlen]; exact B1.put 0 _, hb.setCell (p := ⟨w.heap.size + 1, 0, none⟩) (by simp) _, by simpa using hs0⟩
    case rest =>
      clear B0 B1 hb hs0 c0 z0
      obtain ⟨B0, B1, hb, hs0⟩ := hcut
      have h12 : ss.length ≤ 12 ∧ ss.length ≤ len := by split at hlen <;> omega
      go_upto_region 5 with fail
      have E2 : w.heap.size + 2 = wc.heap.size := hs0.symm
      have X0 : Blk ((wc.alloc (.cells #[] 3)).alloc (.cells #[.slice (some ⟨w.heap.size + 2, 0, none⟩) 0 0] 55)) (w.heap.size + 2 + 1) 55 #[.slice (some ⟨w.heap.size + 2, 0, none⟩) 0 0] := by
        have := Blk.new (wc.alloc (.cells #[] 3)) 55 #[.slice (some ⟨w.heap.size + 2, 0, none⟩) 0 0]
        rw [World.size_alloc, hs0] at this; exact this
      have X1 : Blk ((wc.alloc (.cells #[] 3)).alloc (.cells #[.slice (some ⟨w.heap.size + 2, 0, none⟩) 0 0] 55)) (w.heap.size + 2) 3 #[] := by
        have := (Blk.new wc 3 #[]).alloc (.cells #[.slice (some ⟨w.heap.size + 2, 0, none⟩) 0 0] 55)
        rw [hs0] at this; exact this
      have X2 := (B0.alloc (.cells #[] 3)).alloc (.cells #[.slice (some ⟨w.heap.size + 2, 0, none⟩) 0 0] 55)
      have X3 := (B1.alloc (.cells #[] 3)).alloc (.cells #[.slice (some ⟨w.heap.size + 2, 0, none⟩) 0 0] 55)
      have hb5 := (hb.alloc (by omega) (.cells #[] 3)).alloc (by simp; omega) (.cells #[.slice (some ⟨w.heap.size + 2, 0, none⟩) 0 0] 55)
      have hs5 : ((wc.alloc (.cells #[] 3)).alloc (.cells #[.slice (some ⟨w.heap.size + 2, 0, none⟩) 0 0] 55)).heap.size = w.heap.size + 4 := by simp; omega
      generalize ((wc.alloc (.cells #[] 3)).alloc (.cells #[.slice (some ⟨w.heap.size + 2, 0, none⟩) 0 0] 55)) = x5 at X0 X1 X2 X3 hb5 hs5 ⊢
      clear B0 B1 hb hs0 E2 wc
      have c35 : StepsAt x5 sb off ss := fun j s hs => by
        obtain ⟨d1, d2, d3⟩ := c3 j s hs
        exact ⟨(hb5.cell hsb).trans d1, (hb5.cell hsb).trans d2, (hb5.cell hsb).trans d3⟩
      have hv0 : x5.ownsRow 0 3 1 (.slice (some ⟨w.heap.size + 2, 0, none⟩) 0 0) 0 [] := ⟨rfl, .inr ⟨w.heap.size + 2, 0, #[], rfl, Nat.zero_le _, X1, Nat.le_refl _, Nat.zero_le _, rfl, rfl⟩⟩
      have HR := Lib.hid (reads_c HS.out (v0 := .slice (some ⟨w.heap.size + 2, 0, none⟩) 0 0) (NB := w.heap.size + 1) (LB := w.heap.size) (XB := w.heap.size + 2 + 1) (l := fewL l) x5 (by omega) (X3.cell 0) (X2.cell 0) hao h12.2 hl2 h12.1 c35 (by omega) hns (X0.cell 0) hv0
        (by intro g hg; obtain rfl : w.heap.size + 2 = g := by simpa [Value.ownBlock] using hg
            omega) (X0.free 0) ⟨by omega, by omega, by omega, by simp [Value.ownBlock]⟩ ⟨by simp [Value.ownBlock], by simp [Value.ownBlock], by simp [Value.ownBlock]; omega⟩)
      clear hv0 X0 X1 hlen
      obtain ⟨i0, hi0, hz0, hz1, hz2⟩ := info_parts int_info
      go_wp2_with fail
      refine (HR.out).mono ?_
      rintro e w6 ⟨rfl, hk6, hl6⟩
      have hfar : ∀ k, (k = w.heap.size + 2 + 1 ∨ (Value.slice (some ⟨w.heap.size + 2, 0, none⟩) 0 0).ownBlock = some k) → w.heap.size + 2 ≤ k := by
        rintro k (rfl | e)
        · omega
        · obtain rfl : w.heap.size + 2 = k := by simpa [Value.ownBlock] using e
          omega
      have hb6 : Below w.heap.size w w6 := hb5.trans ⟨hk6.os, hk6.tape, hk6.output, hk6.size, fun k hk => hk6.block k (by omega) (fun h => by have := hfar k h; omega)⟩
      have Y2 := hk6.blk X2 (fun h => by have := hfar _ h; omega)
      have Y3 := hk6.blk X3 (fun h => by have := hfar _ h; omega)
      have hs6 : w.heap.size + 4 ≤ w6.heap.size := hs5 ▸ hk6.size
      clear HR c35 X2 X3 hb5 hk6 hs5
      go_wp2_with fail
      have Z0 : Blk ((w6.alloc (.cells #[.string (str (fewL l)), .int .i64 0] 28)).alloc (.cells #[] 3)) w6.heap.size 28 #[.string (str (fewL l)), .int .i64 ((0 : Nat) : Int)] := (Blk.new w6 _ _).alloc _
      have Z1 : ((w6.alloc (.cells #[.string (str (fewL l)), .int .i64 0] 28)).alloc (.cells #[] 3)).ownsRow (w6.heap.size + 1) 3 1 (.slice (some ⟨w6.heap.size + 1, 0, none⟩) 0 0) 0 [] :=
        ⟨rfl, .inr ⟨w6.heap.size + 1, 0, #[], rfl, Nat.le_refl _, by have := Blk.new (w6.alloc (.cells #[.string (str (fewL l)), .int .i64 0] 28)) 3 #[]; rw [World.size_alloc] at this; exact this, Nat.le_refl _, Nat.zero_le _, rfl, rfl⟩⟩
      have Zb : Below w6.heap.size w6 ((w6.alloc (.cells #[.string (str (fewL l)), .int .i64 0] 28)).alloc (.cells #[] 3)) := ((Below.refl _ w6).alloc (Nat.le_refl _) _).alloc (by simp) _
      generalize ((w6.alloc (.cells #[.string (str (fewL l)), .int .i64 0] 28)).alloc (.cells #[] 3)) = z at Z0 Z1 Zb ⊢
      have hQ : w6.heap.size = w6.heap.size := rfl
      generalize hQd : w6.heap.size = Q at Z0 Z1 Zb hs6 ⊢
      clear hQ
      go_loopw [10, 11] (fun v10 v11 wr => ∃ (j : Nat) (m : List UInt8) (e : Nat) (acc : List Nat) (v : Value), v = v10 ∧ v11 = .int .i64 (j : Int) ∧ j ≤ ss.length ∧ Blk wr Q 28 #[.string (str m), .int .i64 (e : Int)] ∧ Below Q w6 wr ∧ wr.ownsRow (Q + 1) 3 1 v acc.length (ints acc) ∧ acc.length ≤ j ∧ RefAt ss (fewL l) j m e acc) (fun _ i _ => ss.length + 1 - (intOf i).toNat)
      case atStart => exact ⟨0, fewL l, 0, [], _, rfl, rfl, Nat.zero_le _, Z0, Zb, Z1, Nat.le_refl _, RefAt.start _ _⟩
      case round =>
        clear Z0 Z1 Zb z
        obtain ⟨j, m, e, acc, v, rfl, rfl, hj, BA, hbr, hown, hacc, hra⟩ := hrel
        have Y2' := Y2.below hbr (by omega)
        have Y3' := Y3.below hbr (by omega)
        have k2 := Y2'.cell 0
        have k3 := Y3'.cell 0
        dsimp at k2 k3
        by_cases hj1 : j < ss.length
        · obtain ⟨s, hs⟩ : ∃ s, ss[j]? = some s := ⟨_, List.getElem?_eq_getElem hj1⟩
          have hjl : j < len := by omega
          obtain rfl := hao (by omega)
          have hsn := hns s (List.mem_of_getElem? hs)
          obtain ⟨f3, f4, f5⟩ := c3 j s hs
          have hsw : sb < w.heap.size := hsb
          have hlt : ∀ {p : Addr} {u : Value}, p.block = sb → w.cell? p = some u → wr.cell? p = some u := fun hp hc => by
            rw [← hc, ← hb6.cell (hp ▸ hsb)]; exact hbr.cell (by omega)
          have d3 := hlt rfl f3
          have d4 := hlt rfl f4
          have d5 := hlt rfl f5
          have hml : e = 0 → m.length < 549755813888 := fun he => by have := (hra.1 he).1; omega
          have AS := Lib.hid (And.intro hs (And.intro hra (And.intro hbr hown)))
          clear f3 f4 f5 hlt hs hra hbr hown Y2' Y3'
          have c0 := BA.cell 0
          have c1 := BA.cell 1
          dsimp at c0 c1
          go_upto_block 2 with fail
          go_cut [] from 26 to 95 (fun wx => ∃ m2 : List UInt8, Blk wx Q 28 #[.string (str m2), .int .i64 (errN e (takeF s m).1 : Int)] ∧ Below Q w6 wx ∧ wx.ownsRow (Q + 1) 3 1 v acc.length (ints acc) ∧ (e = 0 → (takeF s m).1 = 0 → m2 = (takeF s m).2))
          case first =>
            have hfin : ∀ (we : World) (m2 : List UInt8), Below wr.heap.size wr we → (e = 0 → (takeF s m).1 = 0 → m2 = (takeF s m).2) →
                ∃ m3 : List UInt8, Blk ((we.setCell ⟨Q, 0, none⟩ (.string (str m2))).setCell ⟨Q, 1, none⟩ (.int .i64 (errN e (takeF s m).1 : Int))) Q 28 #[.string (str m3), .int .i64 (errN e (takeF s m).1 : Int)] ∧ Below Q w6 ((we.setCell ⟨Q, 0, none⟩ (.string (str m2))).setCell ⟨Q, 1, none⟩ (.int .i64 (errN e (takeF s m).1 : Int))) ∧
                  ((we.setCell ⟨Q, 0, none⟩ (.string (str m2))).setCell ⟨Q, 1, none⟩ (.int .i64 (errN e (takeF s m).1 : Int))).ownsRow (Q + 1) 3 1 v acc.length (ints acc) ∧ (e = 0 → (takeF s m).1 = 0 → m3 = (takeF s m).2) := by
              intro we m2 hbe hme
              obtain ⟨_, _, hbr, hown⟩ := AS.out
              exact ⟨m2, ((BA.below hbe BA.lt).put 0 _).put 1 _, (((hbr.trans (hbe.mono (by have := BA.lt; omega))).setCell (p := ⟨Q, 0, none⟩) (Nat.le_refl _) _).setCell (p := ⟨Q, 1, none⟩) (Nat.le_refl _) _),
                ownsRow_setCell_below (ownsRow_setCell_below (owns_keep hown fun g _ hg => hbe.block g hg) (a := ⟨Q, 0, none⟩) (by simp) _) (a := ⟨Q, 1, none⟩) (by simp) _, hme⟩
            have HF := Lib.hid hfin
            clear hfin
            by_cases hk0 : s.k = 0
            · have hb0 : (s.k == 0) = true := by simp [hk0]
              have HT : takeF s m = (nErr m (u64Of s.n), m.drop (numF m).2.1) := by unfold takeF; rw [if_pos hk0]
              have HF2 := HF.out
              clear HF
              rw [HT] at HF2
              have HF := Lib.hid HF2
              clear HF2
              have HT2 := Lib.hid HT
              clear HT
              go_upto_region 14 with fail
              go_region_with (first | (go_at_call 13; rw [u64Of_wrap]; refine (numA (l := m) e (u64Of s.n) hml wr.drew).mono ?_; rintro e' we ⟨hbd, m2, x, rfl, hm2⟩; have hbe := undrew hbd; have BE := BA.below hbe BA.lt; have q0 := BE.cell 0; have q1 := BE.cell 1; have y0 := BE.free 0; have y1 := BE.free 1; dsimp at q0 q1; unfold atV))
              all_goals (go_wp2_with fail; go_meet; rw [HT2.out]; exact HF.out _ _ hbe hm2)
            have hb0 : (s.k == 0) = false := by simp [hk0]
            by_cases hk1 : s.k = 1
            · have hb1 : (s.k == 1) = true := by simp [hk1]
              have HT : takeF s m = (tErr m s.n, m.drop ((numF m).2.1 + (numF m).1)) := by unfold takeF; rw [if_neg hk0]; rw [if_pos hk1]
              have HF2 := HF.out
              clear HF
              rw [HT] at HF2
              have HF := Lib.hid HF2
              clear HF2
              have HT2 := Lib.hid HT
              clear HT
              go_upto_region 16 with fail
              go_region_with (first | (go_at_call 20; refine (textA (l := m) e s.n hsn hml wr.drew).mono ?_; rintro e' we ⟨hbd, m2, x, rfl, hm2⟩; have hbe := undrew hbd; have BE := BA.below hbe BA.lt; have q0 := BE.cell 0; have q1 := BE.cell 1; have y0 := BE.free 0; have y1 := BE.free 1; dsimp at q0 q1; unfold atV))
              all_goals (go_wp2_with fail; go_meet; rw [HT2.out]; exact HF.out _ _ hbe hm2)
            have hb1 : (s.k == 1) = false := by simp [hk1]
            by_cases hk2 : s.k = 2
            · have hb2 : (s.k == 2) = true := by simp [hk2]
              have HT : takeF s m = (fErr m, m.drop 1) := by unfold takeF; rw [if_neg hk0]; rw [if_neg hk1]; rw [if_pos hk2]
              have HF2 := HF.out
              clear HF
              rw [HT] at HF2
              have HF := Lib.hid HF2
              clear HF2
              have HT2 := Lib.hid HT
              clear HT
              go_wp2_with fail
              refine (flagA (l := m) e wr).mono ?_
              rintro e' we ⟨hbe, m2, x, rfl, hm2⟩
              have BE := BA.below hbe BA.lt
              have q0 := BE.cell 0
              have q1 := BE.cell 1
              have y0 := BE.free 0
              have y1 := BE.free 1
              dsimp at q0 q1
              unfold atV
              go_wp2_with fail
              go_meet
              rw [HT2.out]
              exact HF.out _ _ hbe hm2
            have hb2 : (s.k == 2) = false := by simp [hk2]
            by_cases hk3 : s.k = 3
            · have hb3 : (s.k == 3) = true := by simp [hk3]
              have HT : takeF s m = (if s.n < 0 ∨ (m.length : Int) < s.n then 4 else 0, m.drop s.n.toNat) := by unfold takeF; rw [if_neg hk0]; rw [if_neg hk1]; rw [if_neg hk2]; rw [if_pos hk3]
              have HC := Lib.hid (show ∀ wx, Calls Tryd.prog 39 #[atV m e, .int .i64 s.n] wx (AOne e (takeF s m) wx) from fun wx => by rw [HT]; exact bytesA e s.n wx)
              have HT2 := Lib.hid HT
              clear HT
              go_upto_region 20 with fail
              go_region_with (first | (go_at_call 39; refine (HC.out wr.drew).mono ?_; rintro e' we ⟨hbd, m2, x, rfl, hm2⟩; have hbe := undrew hbd; have BE := BA.below hbe BA.lt; have q0 := BE.cell 0; have q1 := BE.cell 1; have y0 := BE.free 0; have y1 := BE.free 1; dsimp at q0 q1; unfold atV))
              all_goals (go_wp2_with fail; go_meet; exact HF.out _ _ hbe hm2)
            have hb3 : (s.k == 3) = false := by simp [hk3]
            have HT : takeF s m = (if s.ok then 0 else 6, m) := by unfold takeF; rw [if_neg hk0]; rw [if_neg hk1]; rw [if_neg hk2]; rw [if_neg hk3]
            have HC := Lib.hid (show ∀ wx, Calls Tryd.prog 40 #[atV m e, .bool s.ok] wx (fun e' w' => e' = .returned (atV m (errN e (takeF s m).1)) ∧ Below wx.heap.size wx w') from fun wx => by rw [HT]; exact mustA e s.ok wx)
            have hmm : m = (takeF s m).2 := by rw [HT]
            have HM := Lib.hid hmm
            clear hmm
            have HT2 := Lib.hid HT
            clear HT
            go_upto_region 12 with fail
            go_region_with (first | (go_at_call 40; refine (HC.out wr.drew).mono ?_; rintro e' we ⟨rfl, hbd⟩; have hbe := undrew hbd; have BE := BA.below hbe BA.lt; have q0 := BE.cell 0; have q1 := BE.cell 1; have y0 := BE.free 0; have y1 := BE.free 1; dsimp at q0 q1; unfold atV))
            all_goals (go_wp2_with fail; go_meet; exact HF.out _ _ hbe (fun _ _ => HM.out))
          case rest =>
            obtain ⟨m2, BA2, hb2, hown2, hm2⟩ := hcut
            obtain ⟨hs, hra, _, _⟩ := AS.out
            have hra2 := hra.step hs hm2
            clear AS BA c0 c1 hs hra hm2 d3 d4 d5 k2 k3 hml
            generalize errN e (takeF s m).1 = e2 at hra2 BA2
            have c0 := BA2.cell 0
            have c1 := BA2.cell 1
            dsimp at c0 c1
            by_cases h0 : e2 = 0
            · subst h0
              rw [if_pos rfl] at hra2
              have hbw := hb2.size
              have hvQ : v.ownBlock ≠ some Q := fun h => by have := own_ge hown2 h; omega
              have HRA := Lib.hid hra2
              have HB2 := Lib.hid hb2
              clear hra2 hb2
              go_upto_region 22 with fail
              go_wp2_with (first | (refine wpList_append_lies _ (by rfl) _ _ _ (by rfl) (Q + 1) 3 i0 _ 1 8 Tryd.underlying55 hi0 hz0 hz1 hz2 rfl (by omega) v acc.length (ints acc) (by rfl) (hown2.alloc _) ⟨wc.heap.size, 0, none⟩ 1 1 [.int .i64 (m2.length : Int)] (by rfl) (by rfl) (World.news_of_block (cs := #[.int .i64 (m2.length : Int)]) (t := 3) (fr := (0, 0)) (heap_alloc_new wc _)) (by simp [Value.oneCell']) (by omega) (by simp [maxLen]; omega) (by omega) (by simp; have := BA2.lt; omega) (wc.heap.size + 1) (by simp) ?_; intro gg cp w1 hown3 hgrow hat hlt))
              go_roundw
              case measure => simp only [intOf] at *; omega
              case rel =>
                rw [← ints_add] at hown3
                have hb3 : Below Q wc w1 := ((Below.refl Q wc).alloc (Nat.le_of_lt BA2.lt) _).trans ⟨hgrow.os, hgrow.tape, hgrow.output, hgrow.size, fun k hk => hgrow.block k (by have := BA2.lt; simp; omega) (fun h => by have := own_ge hown2 h.symm; omega)⟩
                have BA3 : Blk w1 Q 28 #[.string (str m2), .int .i64 ((0 : Nat) : Int)] := (hgrow.block Q (by have := BA2.lt; simp; omega) (Ne.symm hvQ)).trans (BA2.alloc _)
                exact ⟨j + 1, m2, 0, acc ++ [m2.length], _, rfl, by first | rfl | simp, by omega, BA3, HB2.out.trans hb3, by rw [List.length_append]; exact hown3, by rw [List.length_append]; simp; omega, HRA.out⟩
            · rw [if_neg h0] at hra2
              have hz : ((e2 : Int) == 0) = false := by simp; omega
              have HRA := Lib.hid hra2
              have HB2 := Lib.hid hb2
              clear hra2 hb2
              go_wp2_with fail
              go_roundw
              case measure => simp only [intOf] at *; omega
              case rel => exact ⟨j + 1, m2, e2, acc, v, rfl, by first | rfl | simp, by omega, BA2, HB2.out, hown2, by omega, HRA.out⟩
        · obtain rfl : j = ss.length := by omega
          obtain ⟨hacc2, hend⟩ := hra.done
          obtain ⟨vL, x6, hownL, _⟩ := hl6
          rw [hacc2] at hownL
          obtain ⟨aL, cL, rfl, hxL⟩ := own_slice hownL
          obtain ⟨aW, cW, rfl, hxW⟩ := own_slice hown
          have HE := Lib.hid hend
          have hbw := hb6.trans (hbr.mono (by omega))
          have hsr : Q ≤ wr.heap.size := hQd ▸ hbr.size
          have HH := Lib.hid (HT.out.below hbw HT.out.lt)
          have x7 := (hbr.cell (p := ⟨w.heap.size + 2 + 1, 0, none⟩) (by simp; omega)).trans x6
          have HL := Lib.hid (show ∀ i x, (ints acc)[i]? = some x → ∃ g, aL = some ⟨g, 0, none⟩ ∧ g < wr.heap.size ∧ wr.cell? ⟨g, i, none⟩ = some x from fun i x hi => by
            obtain ⟨g, h1, h2, h3⟩ := hxL i x hi
            exact ⟨g, h1, by omega, (hbr.cell (p := ⟨g, i, none⟩) (by simp; omega)).trans h3⟩)
          have HW := Lib.hid hxW
          clear hend hra hacc2 hown hownL hxL hxW hbr hb6 Y2 Y3 x6 hns hao
          go_wp2_with fail
          clear k2 k3
          refine (awake_c _ HH.out).mono ?_
          rintro e' v1 ⟨rfl, hb1⟩
          have BA1 := BA.below hb1 BA.lt
          have x8 := (hb1.cell (p := ⟨w.heap.size + 2 + 1, 0, none⟩) (by simp; omega)).trans x7
          have c0 := BA1.cell 0
          have c1 := BA1.cell 1
          dsimp at c0 c1
          have hb1s := hb1.size
          go_wp2_with fail
          refine (aend_c m e _).mono ?_
          rintro e' v2 ⟨rfl, hb2⟩
          rw [HE.out]
          clear c0 c1
          have hb2s := hb2.size
          have x9 := (hb2.cell (p := ⟨w.heap.size + 2 + 1, 0, none⟩) (by simp; omega)).trans x8
          have hb12 : Below wr.heap.size wr v2 := hb1.trans (hb2.mono hb1s)
          have hbw2 : Below w.heap.size w v2 := hbw.trans (hb12.mono (by omega))
          have HB := Lib.hid (And.intro hb12 hbw2)
          clear hb1 hb2 hb12 hbw2 hbw x7 x8
          go_wp2_with fail
          go_loopw [12] (fun i2 wr2 => ∃ k : Nat, i2 = .int .i64 (k : Int) ∧ k ≤ acc.length ∧ Below v2.heap.size v2 wr2) (fun i2 _ => acc.length + 1 - (intOf i2).toNat)
          case atStart => exact ⟨0, rfl, Nat.zero_le _, Below.refl _ _⟩
          case round =>
            obtain ⟨k, rfl, hk, hbz⟩ := hrel
            have y9 := (hbz.cell (p := ⟨w.heap.size + 2 + 1, 0, none⟩) (by simp; omega)).trans x9
            by_cases hk1 : k < acc.length
            · obtain ⟨q, hq⟩ : ∃ q, acc[k]? = some q := ⟨_, List.getElem?_eq_getElem hk1⟩
              have hx : (ints acc)[k]? = some (.int .i64 (q : Int)) := by unfold ints; rw [List.getElem?_map, hq]; rfl
              obtain ⟨g, rfl, hg, e1⟩ := HL.out k _ hx
              obtain ⟨g2, rfl, hg2, e2⟩ := HW.out k _ hx
              have f1 := (hbz.cell (p := ⟨g, k, none⟩) (by simp; omega)).trans ((HB.out.1.cell (p := ⟨g, k, none⟩) hg).trans e1)
              have f2 := (hbz.cell (p := ⟨g2, k, none⟩) (by simp; omega)).trans ((HB.out.1.cell (p := ⟨g2, k, none⟩) hg2).trans e2)
              have HZ := Lib.hid hbz
              clear hx hq e1 e2 hbz
              go_upto_region 28 with fail
              go_region_with fail
              all_goals
                go_wp2_with fail
                go_roundw
                case measure => simp only [intOf] at *; omega
                case rel =>
                  first
                    | exact ⟨k + 1, by first | rfl | simp, by omega, HZ.out.drew⟩
                    | ((repeat apply Exists.intro); exact ⟨⟨by first | rfl | simp, by omega, HZ.out.drew⟩, rfl⟩)
            · have HZ := Lib.hid hbz
              clear hbz
              go_wp2_with fail
              go_ret
              exact ⟨rfl, HB.out.2.trans (HZ.out.mono (by have := HB.out.2.size; omega))⟩
end Go.Proofs.YtmoammadibepkaaDoor.Wirey
