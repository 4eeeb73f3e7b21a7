/- What reads lists and what turns their slots, over the five blocks as they stand. No condition beyond what the functions ask for themselves. -/
import Derived.Test.YtlnjnpchkdipdaaGreatRingMem
import Derived.Deep.AppendLies
import Derived.Deep.RegionLaw
import Derived.Lib.SliceRun
namespace Go.Proofs.YtlnjnpchkdipdaaGreat.Ringy
open Go.ChangeShapes Go.WideShapes Go.ChangeAt Go.RowKit
open Wirey (Blk Row str str_size str_list Kp)
open Go.ChangeMaps Go.Maps

section
variable {m : Rm} {places : Nat} {lens : List Nat} {S : List Sl} {F : List Nat} {D : DataW Unit}
set_option maxHeartbeats 1000000 in
theorem free_c (w : World) (h : RawAt w m places lens S F D) :
    Calls Tryz.prog 246 #[.pointer (some ⟨m.R, 0, none⟩)] w fun e w' => e = .returned (.int .i64 (wrap64 ((places : Int) - (Maps.size D : Nat)))) ∧ ∃ n, w' = w.drewN n := by
  obtain ⟨c0, c1, c2, c3, c4⟩ := h.cells
  have hlen := fun (W : World) (hW : W.ownsMap Tryz.prog 9 (plainElem Tryz.prog 3) m.Mb (Maps.size D) D) => World.ownsMap.len hW Tryz.underlying221 3
  have hl := hlen w.drew h.mp.drew
  go_enter Tryz.func246, Tryz.ntmps246
  go_wp2_with fail
  go_region
  go_wp2_with fail
  go_ret
  exact ⟨rfl, _, rfl⟩
set_option maxHeartbeats 1000000 in
theorem in_no {l : List UInt8} (hl : l.length ≤ maxLen) (w : World) (h : RawAt w m places lens S F D) (hno : Maps.has D (kl l) = false) :
    Calls Tryz.prog 231 #[.pointer (some ⟨m.R, 0, none⟩), .string (str l)] w fun e w' => e = .returned (.tuple #[.int .i64 0, .bool false]) ∧ w' = w := by
  obtain ⟨c0, c1, c2, c3, c4⟩ := h.cells
  have hmp := h.mp
  go_enter Tryz.func231, Tryz.ntmps231
  go_wp2_with (at_lookup; refine wpList_lookup_own_ok_int _ rfl _ _ 221 rfl 9 3 .i64 key_law Tryz.underlying221 Tryz.underlying3 (zeroI _) m.Mb _ D rfl hmp _ (kl l) rfl (key_of hl) ?_; intro c hat hwc; rw [hno])
  go_ret2
  exact ⟨rfl, rfl⟩
set_option maxHeartbeats 1000000 in
theorem in_yes {l : List UInt8} (hl : l.length ≤ maxLen) {p : Nat} (hp : p < S.length) (w : World) (h : RawAt w m places lens S F D) (hyes : Maps.has D (kl l) = true) (hat0 : D.atKey (kl l) (.lit (.int .i64 0)) = .lit (.int .i64 (p : Int))) :
    Calls Tryz.prog 231 #[.pointer (some ⟨m.R, 0, none⟩), .string (str l)] w fun e w' => e = .returned (.tuple #[.int .i64 ((gt S p).list : Int), .bool true]) ∧ w' = w := by
  obtain ⟨c0, c1, c2, c3, c4⟩ := h.cells
  have hmp := h.mp
  obtain ⟨g, cap, hv⟩ := h.form (by omega)
  rw [hv] at c2
  obtain ⟨s0, s1, s2, s3⟩ := h.slotAt hv hp
  go_enter Tryz.func231, Tryz.ntmps231
  go_wp2_with (at_lookup; refine wpList_lookup_own_ok_int _ rfl _ _ 221 rfl 9 3 .i64 key_law Tryz.underlying221 Tryz.underlying3 (zeroI _) m.Mb _ D rfl hmp _ (kl l) rfl (key_of hl) ?_; intro c hat hwc; rw [hyes]; obtain rfl : c = (p : Int) := by rw [hat0] at hat; simpa using hat.symm)
  go_ret2
  exact ⟨rfl, rfl⟩
set_option maxHeartbeats 2000000 in
theorem out_c {p n : Nat} (hp : p < S.length) (ha : (gt S p).ahead < S.length) (hb : (gt S p).behind < S.length) (hn : lens[(gt S p).list]? = some (n + 1)) (hbig : (n : Int) < 9000000000000000000) (w : World) (h : RawAt w m places lens S F D) :
    Calls Tryz.prog 244 #[.pointer (some ⟨m.R, 0, none⟩), .int .i64 (p : Int)] w fun e w' => e = .returned (.tuple #[]) ∧ RawAt w' m places (lens.set (gt S p).list n) (outS S p) F D ∧ Kp m.own w w' := by
  obtain ⟨g, cap, hv⟩ := h.form (by omega)
  have hlt : (gt S p).list < lens.length := by
    rcases Nat.lt_or_ge (gt S p).list lens.length with h1 | h1
    · exact h1
    · rw [List.getElem?_eq_none h1] at hn; cases hn
  have hout : outS S p = ahSet (beSet S (gt S p).ahead (gt S p).behind) (gt S p).behind (gt S p).ahead := rfl
  rw [hout]
  clear hout
  obtain ⟨s0, s1, s2, s3⟩ := h.slotAt hv hp
  obtain ⟨c0, c1, c2, c3, c4⟩ := h.cells
  rw [hv] at c2
  generalize (gt S p).list = li at *
  generalize (gt S p).ahead = a at *
  generalize (gt S p).behind = b at *
  generalize (gt S p).key = key at *
  go_enter Tryz.func244, Tryz.ntmps244
  go_upto_region 1 with (fail)
  have hA := h.alloc (.cells #[.string (str key), .int .i64 (li : Int), .int .i64 (a : Int), .int .i64 (b : Int)] 226)
  have hX := Blk.new w 226 #[.string (str key), .int .i64 (li : Int), .int .i64 (a : Int), .int .i64 (b : Int)]
  have hK := (Kp.refl m.own w).alloc (.cells #[.string (str key), .int .i64 (li : Int), .int .i64 (a : Int), .int .i64 (b : Int)] 226)
  have hBo : ∀ b, m.own b → b ≠ w.heap.size := fun b hb => by have := h.lt b hb; omega
  generalize w.alloc (.cells #[.string (str key), .int .i64 (li : Int), .int .i64 (a : Int), .int .i64 (b : Int)] 226) = w1 at *
  generalize w.heap.size = B at *
  clear s0 s1 s2 s3 c0 c1 c2 c3 c4 h
  have og := own_g hv
  have oL : m.own m.Lb := own_L
  have hng : B ≠ g := fun e => hBo g og e.symm
  have hnL : B ≠ m.Lb := fun e => hBo _ oL e.symm
  clear hBo
  -- the one ahead
  have hA1 := (hA.setBe hv ha b).drew
  have hK1 := Kp.drew' (hK.set (p := ⟨g, a * 4 + 3, none⟩) og (.int .i64 (b : Int)))
  have hX1 := Blk_drew (hX.far (p := ⟨g, a * 4 + 3, none⟩) hng (.int .i64 (b : Int)))
  obtain ⟨-, -, c2, -, -⟩ := hA.cells
  rw [hv] at c2
  obtain ⟨-, -, -, s3⟩ := hA.slotAt hv ha
  have x2 := hX.cell 2
  have x3 := hX.cell 3
  have f := hA.freeS hv (a * 4 + 3)
  simp only [List.getElem?_toArray, List.getElem?_cons_zero, List.getElem?_cons_succ] at x2 x3
  go_region
  generalize (w1.setCell ⟨g, a * 4 + 3, none⟩ (.int .i64 (b : Int))).drew = w2 at *
  clear hA hK hX c2 s3 x2 x3 f
  -- the one behind
  have hb' : b < (beSet S a b).length := by rw [beSet_len]; exact hb
  have hv' : m.vS = .slice (some ⟨g, 0, none⟩) (beSet S a b).length cap := by rw [beSet_len]; exact hv
  have hA2 := (hA1.setAh hv' hb' a).drew
  have hK2 := Kp.drew' (hK1.set (p := ⟨g, b * 4 + 2, none⟩) og (.int .i64 (a : Int)))
  have hX2 := Blk_drew (hX1.far (p := ⟨g, b * 4 + 2, none⟩) hng (.int .i64 (a : Int)))
  obtain ⟨-, -, c2, -, -⟩ := hA1.cells
  rw [hv] at c2
  obtain ⟨-, -, s2, -⟩ := hA1.slotAt hv' hb'
  have x2 := hX1.cell 2
  have x3 := hX1.cell 3
  have f := hA1.freeS hv' (b * 4 + 2)
  simp only [List.getElem?_toArray, List.getElem?_cons_zero, List.getElem?_cons_succ] at x2 x3
  clear hb'
  go_upto_region 2 with (fail)
  go_region
  generalize (w2.setCell ⟨g, b * 4 + 2, none⟩ (.int .i64 (a : Int))).drew = w3 at *
  clear hA1 hK1 hX1 c2 s2 x2 x3 f
  -- the list's count
  have hv'' : m.vS = .slice (some ⟨g, 0, none⟩) (ahSet (beSet S a b) b a).length cap := by rw [ahSet_len]; exact hv'
  have hA3 := (hA2.setLen hv'' li n).drew
  have hK3 := Kp.drew' (hK2.set (p := ⟨m.Lb, li, none⟩) oL (.int .i64 (n : Int)))
  obtain ⟨-, c1, -, -, -⟩ := hA2.cells
  have x1 := hX2.cell 1
  have l1 := hA2.lenAt hn
  have f := hA2.ln.free li
  simp only [List.getElem?_toArray, List.getElem?_cons_zero, List.getElem?_cons_succ] at x1
  have en : ((n + 1 : Nat) : Int) - 1 = (n : Int) := by omega
  have hnb : (n : Int) < 9000000000000000000 := hbig
  go_upto_region 3 with (fail)
  go_region
  go_wp2_with fail
  go_end0
  exact ⟨rfl, hA3, hK3⟩
set_option maxHeartbeats 2000000 in
theorem put_c {p j n : Nat} (key : List UInt8) (hp : p < S.length) (hj : j < S.length) (hf : (gt S j).behind < S.length) (hn : lens[j]? = some n) (hbig : (n : Int) < 9000000000000000000) (w : World) (h : RawAt w m places lens S F D) :
    Calls Tryz.prog 248 #[.pointer (some ⟨m.R, 0, none⟩), .int .i64 (j : Int), .int .i64 (p : Int), .string (str key)] w fun e w' => e = .returned (.tuple #[]) ∧ RawAt w' m places (lens.set j (n + 1)) (inS S j p key) F D ∧ Kp m.own w w' := by
  obtain ⟨g, cap, hv⟩ := h.form (by omega)
  have hlt : j < lens.length := by
    rcases Nat.lt_or_ge j lens.length with h1 | h1
    · exact h1
    · rw [List.getElem?_eq_none h1] at hn; cases hn
  have hin : inS S j p key = beSet (ahSet (S.set p ⟨key, j, j, (gt S j).behind⟩) (gt S j).behind p) j p := rfl
  rw [hin]
  clear hin
  obtain ⟨-, -, -, s3⟩ := h.slotAt hv hj
  obtain ⟨c0, c1, c2, c3, c4⟩ := h.cells
  rw [hv] at c2
  generalize (gt S j).behind = f at *
  have og := own_g hv
  have oL : m.own m.Lb := own_L
  obtain ⟨q0, q1, q2, q3⟩ := h.slotAt hv hp
  have z0 := h.freeS hv (p * 4)
  have z1 := h.freeS hv (p * 4 + 1)
  have z2 := h.freeS hv (p * 4 + 2)
  have z3 := h.freeS hv (p * 4 + 3)
  have hA1 := h.setAll hv hp ⟨key, j, j, f⟩
  have hK1 := ((((Kp.refl m.own w).set (p := ⟨g, p * 4, none⟩) og (.string (str key))).set (p := ⟨g, p * 4 + 1, none⟩) og (.int .i64 (j : Int))).set (p := ⟨g, p * 4 + 2, none⟩) og (.int .i64 (j : Int))).set (p := ⟨g, p * 4 + 3, none⟩) og (.int .i64 (f : Int))
  go_enter Tryz.func248, Tryz.ntmps248
  go_upto_region 2 with (fail)
  generalize (((w.setCell ⟨g, p * 4, none⟩ (.string (str key))).setCell ⟨g, p * 4 + 1, none⟩ (.int .i64 (j : Int))).setCell ⟨g, p * 4 + 2, none⟩ (.int .i64 (j : Int))).setCell ⟨g, p * 4 + 3, none⟩ (.int .i64 (f : Int)) = w1 at *
  clear s3 c0 c1 c2 c3 c4 q0 q1 q2 q3 z0 z1 z2 z3 h
  have l1 : (S.set p ⟨key, j, j, f⟩).length = S.length := List.length_set
  have hv1 : m.vS = .slice (some ⟨g, 0, none⟩) (S.set p ⟨key, j, j, f⟩).length cap := by rw [l1]; exact hv
  generalize hS1 : S.set p ⟨key, j, j, f⟩ = S1 at *
  have hf1 : f < S1.length := by rw [l1]; exact hf
  have hA2 := hA1.setAh hv1 hf1 p
  have hK2 := hK1.set (p := ⟨g, f * 4 + 2, none⟩) og (.int .i64 (p : Int))
  obtain ⟨-, -, c2, -, -⟩ := hA1.cells
  rw [hv] at c2
  obtain ⟨-, -, s2, -⟩ := hA1.slotAt hv1 hf1
  have z := hA1.freeS hv1 (f * 4 + 2)
  clear hf1
  go_upto_region 3 with (fail)
  generalize w1.setCell ⟨g, f * 4 + 2, none⟩ (.int .i64 (p : Int)) = w2 at *
  clear hA1 hK1 c2 s2 z
  have hv2 : m.vS = .slice (some ⟨g, 0, none⟩) (ahSet S1 f p).length cap := by rw [ahSet_len]; exact hv1
  have hj2 : j < (ahSet S1 f p).length := by rw [ahSet_len, l1]; exact hj
  have hA3 := hA2.setBe hv2 hj2 p
  have hK3 := hK2.set (p := ⟨g, j * 4 + 3, none⟩) og (.int .i64 (p : Int))
  obtain ⟨-, -, c2, -, -⟩ := hA2.cells
  rw [hv] at c2
  obtain ⟨-, -, -, s3⟩ := hA2.slotAt hv2 hj2
  have z := hA2.freeS hv2 (j * 4 + 3)
  clear hj2
  go_upto_region 4 with (fail)
  generalize w2.setCell ⟨g, j * 4 + 3, none⟩ (.int .i64 (p : Int)) = w3 at *
  clear hA2 hK2 c2 s3 z
  have hv3 : m.vS = .slice (some ⟨g, 0, none⟩) (beSet (ahSet S1 f p) j p).length cap := by rw [beSet_len]; exact hv2
  have hA4 := hA3.setLen hv3 j (n + 1)
  have hK4 := hK3.set (p := ⟨m.Lb, j, none⟩) oL (.int .i64 ((n + 1 : Nat) : Int))
  obtain ⟨-, c1, -, -, -⟩ := hA3.cells
  have e1 := hA3.lenAt hn
  have z := hA3.ln.free j
  have en : (n : Int) + 1 = ((n + 1 : Nat) : Int) := by omega
  rw [← en] at hA4 hK4
  clear en hv1 hv2 hv3 l1
  go_wp2_with fail
  go_end0
  subst hS1
  exact ⟨rfl, hA4, hK4⟩
set_option maxHeartbeats 2000000 in
theorem slot_left {p : Nat} (w : World) (h : RawAt w m places lens S (F ++ [p]) D) (hF : F.length < 100000) :
    Calls Tryz.prog 247 #[.pointer (some ⟨m.R, 0, none⟩)] w fun e w' => e = .returned (.int .i64 (p : Int)) ∧ ∃ v, RawAt w' { m with vL := v } places lens S F D ∧ Kp m.own w w' ∧ ∀ b, Rm.own { m with vL := v } b → m.own b ∨ w.heap.size ≤ b := by
  obtain ⟨q, c, hv, -⟩ := h.lf.form (by simp)
  rw [show (F ++ [p]).length = F.length + 1 from by simp] at hv
  obtain ⟨-, -, -, -, c4⟩ := h.cells
  rw [hv] at c4
  have hq : w.cell? ⟨q, F.length, none⟩ = some (.int .i64 (p : Int)) := by
    have hl := h.lf
    rw [hv, show (F ++ [p]).length = F.length + 1 from by simp] at hl
    rw [hl.cellAt _ (by omega)]
    simp [intsV, iv]
  have z := h.hd.free 4
  have hc : F.length + 1 ≤ c := by
    have hl := h.lf
    rw [hv] at hl
    rcases hl.2 with ⟨h1, _⟩ | ⟨_, _, _, h1, _, _, h2, _⟩
    · cases h1
    · injection h1 with _ _ e3
      subst e3
      simpa using h2
  have hpost := h.lessL hv
  have HP := Lib.hid hpost
  clear hpost
  have e1 : ((F.length + 1 : Nat) : Int) = (F.length : Int) + 1 := by omega
  go_enter Tryz.func247, Tryz.ntmps247
  go_wp2_with fail
  go_ret
  exact ⟨rfl, _, HP.out⟩
set_option maxHeartbeats 2000000 in
theorem slot_new (w : World) (h : RawAt w m places lens S [] D) (hS : S.length < 100000) :
    Calls Tryz.prog 247 #[.pointer (some ⟨m.R, 0, none⟩)] w fun e w' => e = .returned (.int .i64 (S.length : Int)) ∧ ∃ v, RawAt w' { m with vS := v } places lens (S ++ [Sl.none]) [] D ∧ Kp m.own w w' ∧ ∀ b, Rm.own { m with vS := v } b → m.own b ∨ w.heap.size ≤ b := by
  obtain ⟨-, -, c2, -, c4⟩ := h.cells
  obtain ⟨i0, hi0, hz0, hz1, hz2⟩ := info_parts slot_info
  have z := h.hd.free 2
  have hlf : m.vL = .slice none 0 0 ∨ ∃ q c, m.vL = .slice (some ⟨q, 0, none⟩) 0 c := by
    rcases h.lf.2 with ⟨h1, _⟩ | ⟨q, c, _, h1, _⟩
    · exact .inl h1
    · exact .inr ⟨q, c, h1⟩
  have hsl := h.sl
  have hRs : m.vS.ownBlock ≠ some m.R := fun e => by obtain ⟨c, hb⟩ := owned_blk h.sl e; exact hb.ne_ h.hd (by decide) rfl
  have HP := Lib.hid (fun (o : Obj) (w1 : World) (g' cap' : Nat) (s : Sl) hgr hown hat => h.moreS (o := o) (w1 := w1) (g' := g') (cap' := cap') (s := s) hgr hown hat)
  have hRl := h.hd.lt
  have hc2 : ∀ o, (w.alloc o).cell? ⟨m.R, 2, none⟩ = some m.vS := fun o => (h.alloc o).hd.cell 2
  have hz3 := fun o => (h.alloc o).hd.free 2
  generalize m.vS = vs at *
  rcases hlf with e4 | ⟨q, c, e4⟩
  all_goals
    rw [e4] at c4
    go_enter Tryz.func247, Tryz.ntmps247
    go_wp2_with (first | (refine wpList_append_lies _ (by rfl) _ _ _ (by rfl) 0 226 i0 _ 4 40 Tryz.underlying222 hi0 hz0 hz1 hz2 rfl (by omega) vs S.length (flat S) (by rfl) (hsl.alloc _) ⟨w.heap.size, 0, none⟩ 1 1 (slc Sl.none) (by rfl) (by rfl) (World.news_of_block (cs := #[.string ⟨#[]⟩, .int .i64 0, .int .i64 0, .int .i64 0]) (t := 226) (fr := (0, 0)) (heap_alloc_new w _)) (by simp [Value.oneCell', slc, iv, Sl.none]) (by omega) (by simp [maxLen]; omega) (by omega) (by omega) (w.heap.size + 1) (by simp) ?_; intro gg cp w1 hown1 hgrow hat hlt; have x2 := (hgrow.cell_far ⟨m.R, 2, none⟩ (by simp; omega) (Ne.symm hRs)).trans (hc2 _); have z2 := (hgrow.frozen_far ⟨m.R, 2, none⟩ (by simp; omega) (Ne.symm hRs)).trans (hz3 _)))
    go_ret
    exact ⟨by simp, _, HP.out _ _ _ _ _ hgrow hown1 hat⟩
end
end Go.Proofs.YtlnjnpchkdipdaaGreat.Ringy
