/- What reads lists and what turns their slots, over the five blocks as they stand. No condition beyond what the functions ask for themselves. Lists that share their places, whole: their keys, the slots that hold them, the map that finds them, the slots that are left; and the contracts of In, Front, Drop. The only condition: a key is no longer than a text may be. -/
import Derived.Test.YtkiabladmgagdabGreatDoorRingMem
import Derived.Deep.AppendLies
import Derived.Deep.RegionLaw
import Derived.Lib.SliceRun
import Derived.Test.YtkiabladmgagdabGreatDoorSq
namespace Go.Proofs.YtkiabladmgagdabGreatDoor.Ringy
open Go.ChangeShapes Go.WideShapes Go.ChangeAt Go.RowKit
open Wirey (Blk Row str str_size str_list Kp)
open Go.ChangeMaps Go.Maps

section
variable {m : Rm} {places : Nat} {lens : List Nat} {S : List Sl} {F : List Nat} {D : DataW Unit}
set_option maxHeartbeats 1000000 in
theorem free_c (w : World) (h : RawAt w m places lens S F D) :
  Calls Tryz.prog 132 #[.pointer (some ⟨m.R, 0, none⟩)] w fun e w' => e = .returned (.int .i64 (wrap64 ((places : Int) - (Maps.size D : Nat)))) ∧ ∃ n, w' = w.drewN n := by
 obtain ⟨c0, c1, c2, c3, c4⟩ := h.cells
 have hlen := fun (W : World) (hW : W.ownsMap Tryz.prog 9 (plainElem Tryz.prog 3) m.Mb (Maps.size D) D) => World.ownsMap.len hW Tryz.underlying231 3
 have hl := hlen w.drew h.mp.drew
 go_enter Tryz.func132, Tryz.ntmps132
 go_wp2_with fail
 go_region
 go_wp2_with fail
 go_ret
 exact ⟨rfl, _, rfl⟩
set_option maxHeartbeats 1000000 in
theorem in_no {l : List UInt8} (hl : l.length ≤ maxLen) (w : World) (h : RawAt w m places lens S F D) (hno : Maps.has D (kl l) = false) :
  Calls Tryz.prog 167 #[.pointer (some ⟨m.R, 0, none⟩), .string (str l)] w fun e w' => e = .returned (.tuple #[.int .i64 0, .bool false]) ∧ w' = w := by
 obtain ⟨c0, c1, c2, c3, c4⟩ := h.cells
 have hmp := h.mp
 go_enter Tryz.func167, Tryz.ntmps167
 go_wp2_with (at_lookup; refine wpList_lookup_own_ok_int _ rfl _ _ 231 rfl 9 3 .i64 key_law Tryz.underlying231 Tryz.underlying3 (zeroI _) m.Mb _ D rfl hmp _ (kl l) rfl (key_of hl) ?_; intro c hat hwc; rw [hno])
 go_ret2
 exact ⟨rfl, rfl⟩
set_option maxHeartbeats 1000000 in
theorem in_yes {l : List UInt8} (hl : l.length ≤ maxLen) {p : Nat} (hp : p < S.length) (w : World) (h : RawAt w m places lens S F D) (hyes : Maps.has D (kl l) = true) (hat0 : D.atKey (kl l) (.lit (.int .i64 0)) = .lit (.int .i64 p)) :
  Calls Tryz.prog 167 #[.pointer (some ⟨m.R, 0, none⟩), .string (str l)] w fun e w' => e = .returned (.tuple #[.int .i64 ((gt S p).list : Int), .bool true]) ∧ w' = w := by
 obtain ⟨c0, c1, c2, c3, c4⟩ := h.cells
 have hmp := h.mp
 obtain ⟨g, cap, hv⟩ := h.form (by omega)
 rw [hv] at c2
 obtain ⟨s0, s1, s2, s3⟩ := h.slotAt hv hp
 go_enter Tryz.func167, Tryz.ntmps167
 go_wp2_with (at_lookup; refine wpList_lookup_own_ok_int _ rfl _ _ 231 rfl 9 3 .i64 key_law Tryz.underlying231 Tryz.underlying3 (zeroI _) m.Mb _ D rfl hmp _ (kl l) rfl (key_of hl) ?_; intro c hat hwc; rw [hyes]; obtain rfl : c = (p : Int) := by rw [hat0] at hat; simpa using hat.symm)
 go_ret2
 exact ⟨rfl, rfl⟩
set_option maxHeartbeats 2000000 in
theorem out_c {p n : Nat} (hp : p < S.length) (ha : (gt S p).ahead < S.length) (hb : (gt S p).behind < S.length) (hn : lens[(gt S p).list]? = some (n + 1)) (hbig : (n : Int) < 9000000000000000000) (w : World) (h : RawAt w m places lens S F D) :
  Calls Tryz.prog 187 #[.pointer (some ⟨m.R, 0, none⟩), .int .i64 p] w fun e w' => e = .returned (.tuple #[]) ∧ RawAt w' m places (lens.set (gt S p).list n) (outS S p) F D ∧ Kp m.own w w' := by
 obtain ⟨g, cap, hv⟩ := h.form (by omega)
 have hlt : (gt S p).list < lens.length := by
  rcases Nat.lt_or_ge (gt S p).list lens.length with h1 | h1
  ·exact h1
  ·rw [List.getElem?_eq_none h1] at hn; cases hn
 have hout : outS S p = ahSet (beSet S (gt S p).ahead (gt S p).behind) (gt S p).behind (gt S p).ahead := rfl
 rw [hout]
 clear hout
 obtain ⟨s0, s1, s2, s3⟩ := h.slotAt hv hp
 obtain ⟨c0, c1, c2, c3, c4⟩ := h.cells
 rw [hv] at c2
 generalize (gt S p).list = li at *
 generalize (gt S p).ahead = a at *
 generalize (gt S p).behind = b at *
 generalize (gt S p).key = key at *
 go_enter Tryz.func187, Tryz.ntmps187
 go_upto_region 1 with (fail)
 have hA := h.alloc (.cells #[.string (str key), .int .i64 li, .int .i64 a, .int .i64 b] 236)
 have hX := Blk.new w 236 #[.string (str key), .int .i64 li, .int .i64 a, .int .i64 b]
 have hK := (Kp.refl m.own w).alloc (.cells #[.string (str key), .int .i64 li, .int .i64 a, .int .i64 b] 236)
 have hBo : ∀ b, m.own b → b ≠ w.heap.size := fun b hb => by have := h.lt b hb; omega
 generalize w.alloc (.cells #[.string (str key), .int .i64 li, .int .i64 a, .int .i64 b] 236) = w1 at *
 generalize w.heap.size = B at *
 clear s0 s1 s2 s3 c0 c1 c2 c3 c4 h
 have og := own_g hv
 have oL : m.own m.Lb := own_L
 have hng : B ≠ g := fun e => hBo g og e.symm
 have hnL : B ≠ m.Lb := fun e => hBo _ oL e.symm
 clear hBo
 -- the one ahead
 have hA1 := (hA.setBe hv ha b).drew
 have hK1 := Kp.drew' (hK.set (p := ⟨g, a * 4 + 3, none⟩) og (.int .i64 b))
 have hX1 := Blk_drew (hX.far (p := ⟨g, a * 4 + 3, none⟩) hng (.int .i64 b))
 obtain ⟨-, -, c2, -, -⟩ := hA.cells
 rw [hv] at c2
 obtain ⟨-, -, -, s3⟩ := hA.slotAt hv ha
 have x2 := hX.cell 2
 have x3 := hX.cell 3
 have f := hA.freeS hv (a * 4 + 3)
 simp only [gA, gB, gC] at x2 x3
 go_region
 generalize (w1.setCell ⟨g, a * 4 + 3, none⟩ (.int .i64 b)).drew = w2 at *
 clear hA hK hX c2 s3 x2 x3 f
 -- the one behind
 have hb' : b < (beSet S a b).length := by rw [beSet_len]; exact hb
 have hv' : m.vS = .slice (some ⟨g, 0, none⟩) (beSet S a b).length cap := by rw [beSet_len]; exact hv
 have hA2 := (hA1.setAh hv' hb' a).drew
 have hK2 := Kp.drew' (hK1.set (p := ⟨g, b * 4 + 2, none⟩) og (.int .i64 a))
 have hX2 := Blk_drew (hX1.far (p := ⟨g, b * 4 + 2, none⟩) hng (.int .i64 a))
 obtain ⟨-, -, c2, -, -⟩ := hA1.cells
 rw [hv] at c2
 obtain ⟨-, -, s2, -⟩ := hA1.slotAt hv' hb'
 have x2 := hX1.cell 2
 have x3 := hX1.cell 3
 have f := hA1.freeS hv' (b * 4 + 2)
 simp only [gA, gB, gC] at x2 x3
 clear hb'
 go_upto_region 2 with (fail)
 go_region
 generalize (w2.setCell ⟨g, b * 4 + 2, none⟩ (.int .i64 a)).drew = w3 at *
 clear hA1 hK1 hX1 c2 s2 x2 x3 f
 -- the list's count
 have hv'' : m.vS = .slice (some ⟨g, 0, none⟩) (ahSet (beSet S a b) b a).length cap := by rw [ahSet_len]; exact hv'
 have hA3 := (hA2.setLen hv'' li n).drew
 have hK3 := Kp.drew' (hK2.set (p := ⟨m.Lb, li, none⟩) oL (.int .i64 n))
 obtain ⟨-, c1, -, -, -⟩ := hA2.cells
 have x1 := hX2.cell 1
 have l1 := hA2.lenAt hn
 have f := hA2.ln.free li
 simp only [gA, gB, gC] at x1
 have en : ((n + 1 : Nat) : Int) - 1 = (n : Int) := by omega
 have hnb : (n : Int) < 9000000000000000000 := hbig
 go_upto_region 3 with (fail)
 go_region
 go_wp2_with fail
 go_end0
 exact ⟨rfl, hA3, hK3⟩
set_option maxHeartbeats 2000000 in
theorem put_c {p j n : Nat} (key : List UInt8) (hp : p < S.length) (hj : j < S.length) (hf : (gt S j).behind < S.length) (hn : lens[j]? = some n) (hbig : (n : Int) < 9000000000000000000) (w : World) (h : RawAt w m places lens S F D) :
  Calls Tryz.prog 189 #[.pointer (some ⟨m.R, 0, none⟩), .int .i64 j, .int .i64 p, .string (str key)] w fun e w' => e = .returned (.tuple #[]) ∧ RawAt w' m places (lens.set j (n + 1)) (inS S j p key) F D ∧ Kp m.own w w' := by
 obtain ⟨g, cap, hv⟩ := h.form (by omega)
 have hlt : j < lens.length := by
  rcases Nat.lt_or_ge j lens.length with h1 | h1
  ·exact h1
  ·rw [List.getElem?_eq_none h1] at hn; cases hn
 have hin : inS S j p key = beSet (ahSet (S.set p ⟨key, j, j, (gt S j).behind⟩) (gt S j).behind p) j p := rfl
 rw [hin]
 clear hin
 obtain ⟨-, -, -, s3⟩ := h.slotAt hv hj
 obtain ⟨c0, c1, c2, c3, c4⟩ := h.cells
 rw [hv] at c2
 generalize (gt S j).behind = f at *
 have og := own_g hv
 have oL : m.own m.Lb := own_L
 obtain ⟨q0, q1, q2, q3⟩ := h.slotAt hv hp
 have z0 := h.freeS hv (p * 4)
 have z1 := h.freeS hv (p * 4 + 1)
 have z2 := h.freeS hv (p * 4 + 2)
 have z3 := h.freeS hv (p * 4 + 3)
 have hA1 := h.setAll hv hp ⟨key, j, j, f⟩
 have hK1 := ((((Kp.refl m.own w).set (p := ⟨g, p * 4, none⟩) og (.string (str key))).set (p := ⟨g, p * 4 + 1, none⟩) og (.int .i64 j)).set (p := ⟨g, p * 4 + 2, none⟩) og (.int .i64 j)).set (p := ⟨g, p * 4 + 3, none⟩) og (.int .i64 f)
 go_enter Tryz.func189, Tryz.ntmps189
 go_upto_region 2 with (fail)
 generalize (((w.setCell ⟨g, p * 4, none⟩ (.string (str key))).setCell ⟨g, p * 4 + 1, none⟩ (.int .i64 j)).setCell ⟨g, p * 4 + 2, none⟩ (.int .i64 j)).setCell ⟨g, p * 4 + 3, none⟩ (.int .i64 f) = w1 at *
 clear s3 c0 c1 c2 c3 c4 q0 q1 q2 q3 z0 z1 z2 z3 h
 have l1 : (S.set p ⟨key, j, j, f⟩).length = S.length := List.length_set
 have hv1 : m.vS = .slice (some ⟨g, 0, none⟩) (S.set p ⟨key, j, j, f⟩).length cap := by rw [l1]; exact hv
 generalize hS1 : S.set p ⟨key, j, j, f⟩ = S1 at *
 have hf1 : f < S1.length := by rw [l1]; exact hf
 have hA2 := hA1.setAh hv1 hf1 p
 have hK2 := hK1.set (p := ⟨g, f * 4 + 2, none⟩) og (.int .i64 p)
 obtain ⟨-, -, c2, -, -⟩ := hA1.cells
 rw [hv] at c2
 obtain ⟨-, -, s2, -⟩ := hA1.slotAt hv1 hf1
 have z := hA1.freeS hv1 (f * 4 + 2)
 clear hf1
 go_upto_region 3 with (fail)
 generalize w1.setCell ⟨g, f * 4 + 2, none⟩ (.int .i64 p) = w2 at *
 clear hA1 hK1 c2 s2 z
 have hv2 : m.vS = .slice (some ⟨g, 0, none⟩) (ahSet S1 f p).length cap := by rw [ahSet_len]; exact hv1
 have hj2 : j < (ahSet S1 f p).length := by rw [ahSet_len, l1]; exact hj
 have hA3 := hA2.setBe hv2 hj2 p
 have hK3 := hK2.set (p := ⟨g, j * 4 + 3, none⟩) og (.int .i64 p)
 obtain ⟨-, -, c2, -, -⟩ := hA2.cells
 rw [hv] at c2
 obtain ⟨-, -, -, s3⟩ := hA2.slotAt hv2 hj2
 have z := hA2.freeS hv2 (j * 4 + 3)
 clear hj2
 go_upto_region 4 with (fail)
 generalize w2.setCell ⟨g, j * 4 + 3, none⟩ (.int .i64 p) = w3 at *
 clear hA2 hK2 c2 s3 z
 have hv3 : m.vS = .slice (some ⟨g, 0, none⟩) (beSet (ahSet S1 f p) j p).length cap := by rw [beSet_len]; exact hv2
 have hA4 := hA3.setLen hv3 j (n + 1)
 have hK4 := hK3.set (p := ⟨m.Lb, j, none⟩) oL (.int .i64 ((n + 1 : Nat) : Int))
 obtain ⟨-, c1, -, -, -⟩ := hA3.cells
 have e1 := hA3.lenAt hn
 have z := hA3.ln.free j
 have en : (n : Int) + 1 = ((n + 1 : Nat) : Int) := by omega
 rw [← en] at hA4 hK4
 clear en hv1 hv2 hv3 l1
 go_wp2_with fail
 go_end0
 subst hS1
 exact ⟨rfl, hA4, hK4⟩
set_option maxHeartbeats 2000000 in
theorem slot_left {p : Nat} (w : World) (h : RawAt w m places lens S (F ++ [p]) D) (hF : F.length < 100000) :
  Calls Tryz.prog 188 #[.pointer (some ⟨m.R, 0, none⟩)] w fun e w' => e = .returned (.int .i64 p) ∧ ∃ v, RawAt w' { m with vL := v } places lens S F D ∧ Kp m.own w w' ∧ ∀ b, Rm.own { m with vL := v } b → m.own b ∨ w.heap.size ≤ b := by
 obtain ⟨q, c, hv, -⟩ := h.lf.form (by simp)
 rw [show (F ++ [p]).length = F.length + 1 from by simp] at hv
 obtain ⟨-, -, -, -, c4⟩ := h.cells
 rw [hv] at c4
 have hq : w.cell? ⟨q, F.length, none⟩ = some (.int .i64 p) := by
  have hl := h.lf
  rw [hv, show (F ++ [p]).length = F.length + 1 from by simp] at hl
  rw [hl.cellAt _ (by omega)]
  simp [intsV, iv]
 have z := h.hd.free 4
 have hc : F.length + 1 ≤ c := by
  have hl := h.lf
  rw [hv] at hl
  rcases hl.2 with ⟨h1, _⟩ | ⟨_, _, _, h1, _, _, h2, _⟩
  ·cases h1
  ·injection h1 with _ _ e3
   subst e3
   simpa using h2
 have hpost := h.lessL hv
 have HP := Lib.hid hpost
 clear hpost
 have e1 : ((F.length + 1 : Nat) : Int) = (F.length : Int) + 1 := by omega
 go_enter Tryz.func188, Tryz.ntmps188
 go_wp2_with fail
 go_ret
 exact ⟨rfl, _, HP.out⟩
set_option maxHeartbeats 2000000 in
theorem slot_new (w : World) (h : RawAt w m places lens S [] D) (hS : S.length < 100000) :
  Calls Tryz.prog 188 #[.pointer (some ⟨m.R, 0, none⟩)] w fun e w' => e = .returned (.int .i64 S.length) ∧ ∃ v, RawAt w' { m with vS := v } places lens (S ++ [Sl.none]) [] D ∧ Kp m.own w w' ∧ ∀ b, Rm.own { m with vS := v } b → m.own b ∨ w.heap.size ≤ b := by
 obtain ⟨-, -, c2, -, c4⟩ := h.cells
 obtain ⟨i0, hi0, hz0, hz1, hz2⟩ := info_parts slot_info
 have z := h.hd.free 2
 have hlf : m.vL = .slice none 0 0 ∨ ∃ q c, m.vL = .slice (some ⟨q, 0, none⟩) 0 c := by
  rcases h.lf.2 with ⟨h1, _⟩ | ⟨q, c, _, h1, _⟩
  ·exact .inl h1
  ·exact .inr ⟨q, c, h1⟩
 have hsl := h.sl
 have hRs : m.vS.ownBlock ≠ some m.R := fun e => by obtain ⟨c, hb⟩ := owned_blk h.sl e; exact hb.ne_ h.hd (by decide) rfl
 have HP := Lib.hid (fun (o : Obj) (w1 : World) (g' cap' : Nat) (s : Sl) hgr hown hat => h.moreS (o := o) (w1 := w1) (g' := g') (cap' := cap') (s := s) hgr hown hat)
 have hRl := h.hd.lt
 have hc2 : ∀ o, (w.alloc o).cell? ⟨m.R, 2, none⟩ = some m.vS := fun o => (h.alloc o).hd.cell 2
 have hz3 := fun o => (h.alloc o).hd.free 2
 generalize m.vS = vs at *
 rcases hlf with e4 | ⟨q, c, e4⟩
 all_goals
  rw [e4] at c4
  go_enter Tryz.func188, Tryz.ntmps188
  go_wp2_with (first | (refine wpList_append_lies _ (by rfl) _ _ _ (by rfl) 0 236 i0 _ 4 40 Tryz.underlying232 hi0 hz0 hz1 hz2 rfl (by omega) vs S.length (flat S) (by rfl) (hsl.alloc _) ⟨w.heap.size, 0, none⟩ 1 1 (slc Sl.none) (by rfl) (by rfl) (World.news_of_block (cs := #[.string ⟨#[]⟩, .int .i64 0, .int .i64 0, .int .i64 0]) (t := 236) (fr := (0, 0)) (heap_alloc_new w _)) (by simp [Value.oneCell', slc, iv, Sl.none]) (by omega) (by simp [maxLen]; omega) (by omega) (by omega) (w.heap.size + 1) (by simp) ?_; intro gg cp w1 hown1 hgrow hat hlt; have x2 := (hgrow.cell_far ⟨m.R, 2, none⟩ (by simp; omega) (Ne.symm hRs)).trans (hc2 _); have z2 := (hgrow.frozen_far ⟨m.R, 2, none⟩ (by simp; omega) (Ne.symm hRs)).trans (hz3 _)))
  go_ret
  exact ⟨by simp, _, HP.out _ _ _ _ _ hgrow hown1 hat⟩
end
end Go.Proofs.YtkiabladmgagdabGreatDoor.Ringy
namespace Go.Proofs.YtkiabladmgagdabGreatDoor.Ringy
open Go.ChangeShapes Go.WideShapes Go.ChangeAt Go.RowKit
open Wirey (Blk Row str str_size str_list Kp)
open Go.ChangeMaps Go.Maps

structure Fit (D : DataW Unit) (r : Rg) (pos : Key → Nat) : Prop where
 yes : ∀ k, r.has k → Maps.has D (kl k) = true ∧ D.atKey (kl k) (.lit (.int .i64 0)) = .lit (.int .i64 (pos k : Int))
 no : ∀ k, ¬ r.has k → Maps.has D (kl k) = false
 size : Maps.size D = r.many
structure Spare (S : List Sl) (F : List Nat) (r : Rg) (pos : Key → Nat) : Prop where
 nd : F.Nodup
 mem : ∀ p, p ∈ F → r.n ≤ p ∧ p < S.length ∧ ∀ i k, i < r.n → k ∈ r.l i → pos k ≠ p
 cnt : S.length = r.n + r.many + F.length
 top : r.many + F.length ≤ r.places
structure Full (w : World) (m : Rm) (r : Rg) (lens : List Nat) (S : List Sl) (F : List Nat) (D : DataW Unit) (pos : Key → Nat) : Prop where
 raw : RawAt w m r.places lens S F D
 lay : Lay S lens r pos
 wf : r.Wf
 fit : Fit D r pos
 spare : Spare S F r pos
def At (w : World) (m : Rm) (r : Rg) : Prop := ∃ lens S F D pos, Full w m r lens S F D pos
structure Step (w : World) (m : Rm) (w' : World) (m' : Rm) : Prop where
 R : m'.R = m.R
 kp : Kp m.own w w'
 own : ∀ b, m'.own b → m.own b ∨ w.heap.size ≤ b
 M : m'.Mb = m.Mb
theorem Step.refl (w : World) (m : Rm) : Step w m w m := ⟨rfl, Kp.refl _ _, fun _ h => .inl h, rfl⟩
theorem Step.trans {w w' w'' : World} {m m' m'' : Rm} (h : Step w m w' m') (h' : Step w' m' w'' m'') : Step w m w'' m'' := by
 refine ⟨h'.R.trans h.R, ⟨h'.kp.os.trans h.kp.os, h'.kp.tape.trans h.kp.tape, h'.kp.output.trans h.kp.output, Nat.le_trans h.kp.size h'.kp.size, fun k hk hn => ?_⟩, fun b hb => ?_, h'.M.trans h.M⟩
 ·refine (h'.kp.block k (Nat.lt_of_lt_of_le hk h.kp.size) (fun ho => ?_)).trans (h.kp.block k hk hn)
  rcases h.own k ho with h1 | h1
  ·exact hn h1
  ·omega
 ·rcases h'.own b hb with h1 | h1
  ·exact h.own b h1
  ·exact .inr (Nat.le_trans h.kp.size h1)
theorem Step.of_kp {w w' : World} {m : Rm} (h : Kp m.own w w') : Step w m w' m := ⟨rfl, h, fun _ h => .inl h, rfl⟩
theorem Step.drewN {w w' : World} {m m' : Rm} (h : Step w m w' m') (n : Nat) : Step w m (w'.drewN n) m' := ⟨h.R, ⟨h.kp.os, h.kp.tape, h.kp.output, h.kp.size, h.kp.block⟩, h.own, h.M⟩
section
variable {w w' : World} {m : Rm} {r r' : Rg} {lens : List Nat} {S : List Sl} {F : List Nat} {D : DataW Unit} {pos : Key → Nat}
theorem Full.with (h : Full w m r lens S F D pos) {w' : World} (hr : RawAt w' m r.places lens S F D) : Full w' m r lens S F D pos := ⟨hr, h.lay, h.wf, h.fit, h.spare⟩
theorem Full.nz (h : Full w m r lens S F D pos) : 0 < S.length := by have := h.lay.sz; have := h.wf.n1; omega
theorem Full.small (h : Full w m r lens S F D pos) : S.length < 5000 ∧ F.length < 5000 ∧ r.many < 5000 := by
 have := h.spare.cnt; have := h.spare.top; have := h.wf.n2; have := h.wf.pl; omega
theorem Full.len_small (h : Full w m r lens S F D pos) {i : Nat} (hi : i < r.n) : (r.l i).length < 5000 := by
 have h1 := sumTo_le (f := fun i => (r.l i).length) r.n hi
 have h2 := h.small
 have h3 : sumTo (fun i => (r.l i).length) r.n = r.many := rfl
 have h1 : (r.l i).length ≤ sumTo (fun i => (r.l i).length) r.n := h1
 omega
theorem At.lt (h : At w m r) : ∀ b, m.own b → b < w.heap.size := by obtain ⟨_, _, _, _, _, h⟩ := h; exact h.raw.lt
theorem At.stay (h : At w m r) (hb : ∀ b, m.own b → w'.heap[b]? = w.heap[b]?) : At w' m r := by
 obtain ⟨lens, S, F, D, pos, h⟩ := h
 exact ⟨lens, S, F, D, pos, h.with (h.raw.stay hb)⟩
theorem At.drewN (h : At w m r) (n : Nat) : At (w.drewN n) m r := h.stay fun _ _ => rfl
theorem At.alloc (h : At w m r) (o : Obj) : At (w.alloc o) m r := h.stay fun b hb => Below.heap_alloc w o b (h.lt b hb)
theorem At.below (h : At w m r) {C : Nat} (hb : Below C w w') (hC : w.heap.size ≤ C) : At w' m r := h.stay fun b hb2 => hb.block b (Nat.lt_of_lt_of_le (h.lt b hb2) hC)
theorem At.kp (h : At w m r) {O : Nat → Prop} (hk : Kp O w w') (hO : ∀ b, m.own b → ¬ O b) : At w' m r := h.stay fun b hb => hk.block b (h.lt b hb) (hO b hb)
theorem At.alike (h : At w m r) (hn : r'.n = r.n) (hp : r'.places = r.places) (hl : ∀ i, i < r.n → r'.l i = r.l i) : At w m r' := by
 obtain ⟨lens, S, F, D, pos, h⟩ := h
 have hm : r'.many = r.many := by unfold Rg.many; rw [hn]; exact sumTo_congr _ fun i hi => by show (r'.l i).length = _; rw [hl i hi]
 have hh : ∀ k, r'.has k ↔ r.has k := fun k => by
  unfold Rg.has
  rw [hn]
  exact ⟨fun ⟨i, hi, hk⟩ => ⟨i, hi, hl i hi ▸ hk⟩, fun ⟨i, hi, hk⟩ => ⟨i, hi, (hl i hi).symm ▸ hk⟩⟩
 refine ⟨lens, S, F, D, pos, ?_, ⟨?_, ?_, ?_, ?_⟩, ⟨?_, ?_, ?_, ?_, ?_, ?_, ?_⟩, ⟨?_, ?_, ?_⟩, ⟨h.spare.nd, ?_, ?_, ?_⟩⟩
 ·rw [hp]; exact h.raw
 ·rw [hn]; exact h.lay.sz
 ·rw [h.lay.ln, hn]; exact List.map_congr_left fun i hi => by rw [hl i (List.mem_range.1 hi)]
 ·rw [hn]; intro i k hi hk; rw [hl i hi] at hk; exact h.lay.at_ i k hi hk
 ·rw [hn]; intro i hi; rw [hl i hi]; exact h.lay.lk i hi
 ·rw [hn]; exact h.wf.n1
 ·rw [hn]; exact h.wf.n2
 ·rw [hp]; exact h.wf.pl
 ·rw [hn]; intro i hi; rw [hl i hi]; exact h.wf.nd i hi
 ·rw [hn]; intro i j k hi hj h1 h2; rw [hl i hi] at h1; rw [hl j hj] at h2; exact h.wf.dj i j k hi hj h1 h2
 ·rw [hn]; intro i k hi hk; rw [hl i hi] at hk; exact h.wf.len i k hi hk
 ·rw [hm, hp]; exact h.wf.many
 ·intro k hk; exact h.fit.yes k ((hh k).1 hk)
 ·intro k hk; exact h.fit.no k (fun h1 => hk ((hh k).2 h1))
 ·rw [hm]; exact h.fit.size
 ·rw [hn]; intro p hp; obtain ⟨a, b, c⟩ := h.spare.mem p hp; exact ⟨a, b, fun i k hi hk => c i k hi (hl i hi ▸ hk)⟩
 ·rw [hn, hm]; exact h.spare.cnt
 ·rw [hm, hp]; exact h.spare.top
theorem Rg.has_drop {k x : Key} : (r.drop k).has x ↔ r.has x ∧ x ≠ k := by
 constructor
 ·rintro ⟨i, hi, hx⟩
  exact ⟨⟨i, hi, (strike_mem.1 hx).1⟩, (strike_mem.1 hx).2⟩
 ·rintro ⟨⟨i, hi, hx⟩, hne⟩
  exact ⟨i, hi, strike_mem.2 ⟨hx, hne⟩⟩
theorem Rg.has_push {j : Nat} {k x : Key} (hj : j < r.n) : (r.push j k).has x ↔ x = k ∨ r.has x := by
 constructor
 ·rintro ⟨i, hi, hx⟩
  have hx : x ∈ (if i = j then k :: r.l i else r.l i) := hx
  split at hx
  ·rcases List.mem_cons.1 hx with h | h
   ·exact .inl h
   ·exact .inr ⟨i, hi, h⟩
  ·exact .inr ⟨i, hi, hx⟩
 ·rintro (rfl | ⟨i, hi, hx⟩)
  ·exact ⟨j, hj, by show x ∈ (if j = j then x :: r.l j else r.l j); rw [if_pos rfl]; simp⟩
  ·exact ⟨i, hi, by show x ∈ (if i = j then k :: r.l i else r.l i); split; exact List.mem_cons_of_mem _ hx; exact hx⟩
theorem RawAt.turnM {places : Nat} (h : RawAt w m places lens S F D) {n : Nat} {D' : DataW Unit} (hg : w.grownBy w' (some m.Mb)) (hown : w'.ownsMap Tryz.prog 9 (plainElem Tryz.prog 3) m.Mb n D') (hn : 0 < S.length) :
  RawAt w' m places lens S F D' ∧ Kp m.own w w' := by
 obtain ⟨g, cap, hv⟩ := h.form hn
 have ap := h.apart hv
 have hb : ∀ b, b < w.heap.size → b ≠ m.Mb → w'.heap[b]? = w.heap[b]? := fun b hb hne => hg.block b hb (fun e => hne (by cases e; rfl))
 refine ⟨⟨(hb _ h.hd.lt ap.RM).trans h.hd, (hb _ h.ln.lt ap.LM).trans h.ln, ownsRow_stay h.sl (fun b e => hb b (h.sl.lt b e).2 (by rw [hv] at e; cases e; exact ap.gM)), ownsMap_tight hown, ownsRow_stay h.lf (fun b e => hb b (h.lf.lt b e).2 (ap.v b e).2.2.1), h.ne⟩, ⟨hg.os, hg.tape, hg.output, hg.size, fun k hk hn => hb k hk (fun e => hn (by rw [e]; exact .inr (.inr (.inl rfl))))⟩⟩
theorem Full.tidy (h : Full w m r lens S F D pos) : Tidy D := h.raw.mp.tidy key_law

theorem in_yes' {l : List UInt8} {i : Nat} (hl : l.length ≤ maxLen) (w : World) (h : At w m r) (hi : i < r.n) (hm : l ∈ r.l i) :
  Calls Tryz.prog 167 #[.pointer (some ⟨m.R, 0, none⟩), .string (str l)] w fun e w' => e = .returned (.tuple #[.int .i64 i, .bool true]) ∧ w' = w := by
 obtain ⟨lens, S, F, D, pos, h⟩ := h
 obtain ⟨_, hp, _, hi2⟩ := h.lay.at_ i l hi hm
 obtain ⟨h1, h2⟩ := h.fit.yes l ⟨i, hi, hm⟩
 have := in_yes hl hp w h.raw h1 h2
 rw [hi2] at this
 exact this
theorem in_no' {l : List UInt8} (hl : l.length ≤ maxLen) (w : World) (h : At w m r) (hm : ¬ r.has l) :
  Calls Tryz.prog 167 #[.pointer (some ⟨m.R, 0, none⟩), .string (str l)] w fun e w' => e = .returned (.tuple #[.int .i64 0, .bool false]) ∧ w' = w := by
 obtain ⟨lens, S, F, D, pos, h⟩ := h
 exact in_no hl w h.raw (h.fit.no l hm)
theorem len_c' {i : Nat} (w : World) (h : At w m r) (hi : i < r.n) :
  Calls Tryz.prog 140 #[.pointer (some ⟨m.R, 0, none⟩), .int .i64 i] w fun e w' => e = .returned (.int .i64 ((r.l i).length : Int)) ∧ w' = w := by
 obtain ⟨lens, S, F, D, pos, h⟩ := h
 exact len_c (h.lay.len_at hi) w h.raw
theorem lists_c' (w : World) (h : At w m r) :
  Calls Tryz.prog 130 #[.pointer (some ⟨m.R, 0, none⟩)] w fun e w' => e = .returned (.int .i64 r.n) ∧ w' = w := by
 obtain ⟨lens, S, F, D, pos, h⟩ := h
 have := lists_c w h.raw
 rw [h.lay.len_len] at this
 exact this
theorem has_c' (a : Int) (w : World) (h : At w m r) :
  Calls Tryz.prog 172 #[.pointer (some ⟨m.R, 0, none⟩), .int .i64 a] w fun e w' => e = .returned (.bool (decide (0 ≤ a) && decide (a < (r.n : Int)))) ∧ w' = w := by
 obtain ⟨lens, S, F, D, pos, h⟩ := h
 have := has_c a w h.raw
 rw [h.lay.len_len] at this
 exact this
theorem free_c' (w : World) (h : At w m r) :
  Calls Tryz.prog 132 #[.pointer (some ⟨m.R, 0, none⟩)] w fun e w' => e = .returned (.int .i64 ((r.places : Int) - r.many)) ∧ ∃ n, w' = w.drewN n := by
 obtain ⟨lens, S, F, D, pos, h⟩ := h
 have := free_c w h.raw
 rw [h.fit.size] at this
 have hs := h.small
 have hp := h.wf.pl
 have hw : wrap64 ((r.places : Int) - (r.many : Nat)) = (r.places : Int) - r.many := by unfold wrap64; omega
 rw [hw] at this
 exact this
end

section
variable {m : Rm} {r : Rg}
set_option maxHeartbeats 1000000 in
theorem drop_no {l : List UInt8} (hl : l.length ≤ maxLen) (w : World) (hA : At w m r) (hno : ¬ r.has l) :
  Calls Tryz.prog 232 #[.pointer (some ⟨m.R, 0, none⟩), .string (str l)] w fun e w' => e = .returned (.bool false) ∧ w' = w := by
 obtain ⟨lens, S, F, D, pos, h⟩ := hA
 have hno := h.fit.no l hno
 have hmp := h.raw.mp
 obtain ⟨c0, c1, c2, c3, c4⟩ := h.raw.cells
 clear h
 go_enter Tryz.func232, Tryz.ntmps232
 go_wp2_with (at_lookup; refine wpList_lookup_own_ok_int _ rfl _ _ 231 rfl 9 3 .i64 key_law Tryz.underlying231 Tryz.underlying3 (zeroI _) m.Mb _ D rfl hmp _ (kl l) rfl (key_of hl) ?_; intro c hat hwc; rw [hno])
 go_ret
 exact ⟨rfl, rfl⟩
theorem kl_ne {a b : Key} (h : a ≠ b) : kl a ≠ kl b := fun e => h (by injection e)
theorem full_drop {w : World} {m : Rm} {lens : List Nat} {S : List Sl} {F : List Nat} {D : DataW Unit} {pos : Key → Nat} {l : Key} {w0 : World} {m0 : Rm} (h : Full w0 m0 r lens S F D pos) {i : Nat} (hi : i < r.n) (hm : l ∈ r.l i)
  (hr : RawAt w m r.places (lens.set i ((r.l i).length - 1)) (keySet (outS S (pos l)) (pos l) []) (F ++ [pos l]) (D.del (kl l))) : At w m (r.drop l) := by
 obtain ⟨p1, p2, -, -⟩ := h.lay.at_ i l hi hm
 have ho := h.lay.out h.wf hi hm
 have hlen : (keySet (outS S (pos l)) (pos l) []).length = S.length := by rw [keySet_len, outS_len]
 have hgt : ∀ x, x ≠ pos l → gt (keySet (outS S (pos l)) (pos l) []) x = gt (outS S (pos l)) x := fun x hx => by unfold keySet; rw [gt_set (by rw [outS_len]; exact p2), if_neg hx]
 have hne : ∀ j x, j < r.n → x ∈ (r.drop l).l j → pos x ≠ pos l := fun j x hj hx e => (strike_mem.1 hx).2 (h.lay.inj hj hi (strike_mem.1 hx).1 hm e)
 have hmany := Rg.many_drop h.wf hi hm
 have hfit := h.fit
 refine ⟨_, _, _, _, pos, hr, ?_, h.wf.drop l, ⟨fun k hk => ?_, fun k hk => ?_, ?_⟩, ⟨?_, fun p hp => ?_, ?_, ?_⟩⟩
 ·refine ho.frame (by rw [keySet_len]; exact Nat.le_refl _) (fun q hq => hgt q ?_) (fun j x hj hx => hgt _ (hne j x hj hx))
  have hq : q < r.n := hq
  omega
 ·obtain ⟨h1, h2⟩ := Rg.has_drop.1 hk
  obtain ⟨y1, y2⟩ := hfit.yes k h1
  exact ⟨by rw [has_del_other (kl_ne h2)]; exact y1, by rw [atKey_del_other (kl_ne h2)]; exact y2⟩
 ·by_cases e : k = l
  ·subst e; exact has_del_same
  ·rw [has_del_other (kl_ne e)]
   exact hfit.no k (fun h1 => hk (Rg.has_drop.2 ⟨h1, e⟩))
 ·have hs := size_del (k := kl l) h.tidy
  rw [(hfit.yes l ⟨i, hi, hm⟩).1, if_pos rfl, hfit.size] at hs
  omega
 ·rw [List.nodup_append]
  refine ⟨h.spare.nd, by simp, fun a ha b hb e => ?_⟩
  rw [List.mem_singleton] at hb
  exact (h.spare.mem a ha).2.2 i l hi hm (by rw [e, hb])
 ·rw [hlen]
  rcases List.mem_append.1 hp with h1 | h1
  ·obtain ⟨a, b, c⟩ := h.spare.mem p h1
   exact ⟨a, b, fun j x hj hx => c j x hj (strike_mem.1 hx).1⟩
  ·rw [List.mem_singleton] at h1
   subst h1
   exact ⟨p1, p2, hne⟩
 ·rw [hlen, h.spare.cnt]
  simp
  show _ = r.n + _ + _
  omega
 ·have := h.spare.top
  show (r.drop l).many + (F ++ [pos l]).length ≤ r.places
  simp
  omega
set_option maxHeartbeats 2000000 in
set_option maxRecDepth 100000 in
theorem drop_yes {l : List UInt8} (hl : l.length ≤ maxLen) (w : World) (hA : At w m r) (hyes : r.has l) :
  Calls Tryz.prog 232 #[.pointer (some ⟨m.R, 0, none⟩), .string (str l)] w fun e w' => e = .returned (.bool true) ∧ ∃ m', At w' m' (r.drop l) ∧ Step w m w' m' := by
 obtain ⟨lens, S, F, D, pos, h⟩ := hA
 obtain ⟨i, hi, hm⟩ := hyes
 obtain ⟨y1, y2⟩ := h.fit.yes l ⟨i, hi, hm⟩
 obtain ⟨p1, p2, -, -⟩ := h.lay.at_ i l hi hm
 obtain ⟨n1, n2, n3, n4, n5⟩ := h.lay.near hi hm
 have hmp := h.raw.mp
 obtain ⟨c0, c1, c2, c3, c4⟩ := h.raw.cells
 have hlen := h.lay.len_at hi
 have hlp : 0 < (r.l i).length := List.length_pos_of_mem hm
 have hsm := h.len_small hi
 have hout := out_c (n := (r.l i).length - 1) p2 n4 n5 (by rw [n1, hlen]; congr 1; omega) (by omega) w h.raw
 rw [n1] at hout
 have hF := h.small.2.1
 have HD := Lib.hid (fun (w' : World) (m' : Rm) hr => full_drop (w := w') (m := m') h hi hm hr)
 have hS := h.nz
 clear h n2 n3
 generalize pos l = p at *
 have hpo : p < (outS S p).length := by rw [outS_len]; exact p2
 have HPO := Lib.hid hpo
 clear hpo n4 n5
 generalize outS S p = S1 at *
 generalize lens.set i ((r.l i).length - 1) = lens1 at *
 obtain ⟨i0, hi0, hz0, hz1, hz2⟩ := info_parts int_info
 go_enter Tryz.func232, Tryz.ntmps232
 go_wp2_with (at_lookup; refine wpList_lookup_own_ok_int _ rfl _ _ 231 rfl 9 3 .i64 key_law Tryz.underlying231 Tryz.underlying3 (zeroI _) m.Mb _ D rfl hmp _ (kl l) rfl (key_of hl) ?_; intro c hat hwc; rw [y1]; obtain rfl : c = (p : Int) := by rw [y2] at hat; simpa using hat.symm)
 refine hout.mono ?_
 rintro e w1 ⟨rfl, hA1, hK1⟩
 clear c0 c1 c2 c3 c4 hmp y1 y2 hlen
 have hp1 : p < S1.length := HPO.out
 obtain ⟨g, cap, hv⟩ := hA1.form (by omega)
 obtain ⟨-, -, c2, -, -⟩ := hA1.cells
 rw [hv] at c2
 obtain ⟨s0, -, -, -⟩ := hA1.slotAt hv hp1
 have z0 := hA1.freeS hv (p * 4)
 have hA2 := hA1.setKey hv hp1 []
 have hK2 := hK1.set (p := ⟨g, p * 4, none⟩) (own_g hv) (.string (str []))
 have e0 : str [] = ⟨#[]⟩ := rfl
 rw [e0] at hA2 hK2
 clear e0
 go_upto_region 8 with (fail)
 generalize w1.setCell ⟨g, p * 4, none⟩ (.string ⟨#[]⟩) = w2 at *
 clear hA1 hK1 c2 s0 z0 hv hp1
 obtain ⟨-, -, -, -, c4⟩ := hA2.cells
 have z4 := hA2.hd.free 4
 have hlf := hA2.lf
 have hRl := hA2.hd.lt
 have hRs : m.vL.ownBlock ≠ some m.R := fun e => by obtain ⟨c, hb⟩ := owned_blk hA2.lf e; exact hb.ne_ hA2.hd (by decide) rfl
 have hc4 : ∀ o, (w2.alloc o).cell? ⟨m.R, 4, none⟩ = some m.vL := fun o => (hA2.alloc o).hd.cell 4
 have hz4 := fun o => (hA2.alloc o).hd.free 4
 have HP := Lib.hid (fun (o : Obj) (w1 : World) (g' cap' : Nat) hgr hown hat => hA2.moreL (o := o) (w1 := w1) (g' := g') (cap' := cap') (p := p) hgr hown hat)
 have HK2 := Lib.hid hK2
 clear hA2 hK2
 generalize hvs : m.vL = vs at *
 have HVS := Lib.hid hvs
 clear hvs
 go_upto_region 9 with (first | (refine wpList_append_lies _ (by rfl) _ _ _ (by rfl) 0 3 i0 _ 1 8 Tryz.underlying230 hi0 hz0 hz1 hz2 rfl (by omega) vs F.length (intsV F) (by rfl) (hlf.alloc _) ⟨w2.heap.size, 0, none⟩ 1 1 [.int .i64 p] (by rfl) (by rfl) (World.news_of_block (cs := #[.int .i64 p]) (t := 3) (fr := (0, 0)) (heap_alloc_new w2 _)) (by simp [Value.oneCell']) (by omega) (by simp [maxLen]; omega) (by omega) (by omega) (w2.heap.size + 1) (by simp) ?_; intro gg cp w3 hown1 hgrow hat3 hlt3; have x4 := (hgrow.cell_far ⟨m.R, 4, none⟩ (by simp; omega) (Ne.symm hRs)).trans (hc4 _); have y4 := (hgrow.frozen_far ⟨m.R, 4, none⟩ (by simp; omega) (Ne.symm hRs)).trans (hz4 _)))
 obtain ⟨hA4, hK4, hO4⟩ := HP.out _ _ _ _ hgrow hown1 hat3
 have HS4 := Lib.hid (Step.trans (m'' := { m with vL := .slice (some ⟨gg, 0, none⟩) (F.length + 1) cp }) (Step.of_kp HK2.out) ⟨rfl, hK4, hO4, rfl⟩)
 clear hK4 hO4 x4 y4 hgrow hown1 hat3 hlt3 c4 z4 hlf hc4 hz4
 generalize w3.setCell ⟨m.R, 4, none⟩ (.slice (some ⟨gg, 0, none⟩) (F.length + 1) cp) = w4 at *
 have hmp := hA4.mp
 obtain ⟨-, -, -, c3, -⟩ := hA4.cells
 have hk0 : 0 < (keySet S1 p []).length := by have := HPO.out; rw [keySet_len]; omega
 have HT := Lib.hid (fun (w5 : World) (n : Nat) (D' : DataW Unit) hg hown => hA4.turnM (w' := w5) (n := n) (D' := D') hg hown hk0)
 clear hA4 hk0
 have hmp : w4.ownsMap Tryz.prog 9 (plainElem Tryz.prog 3) m.Mb (Maps.size D) D := hmp
 have c3 : w4.cell? ⟨m.R, 3, none⟩ = some (.map (some m.Mb)) := c3
 go_wp2_with (at_delete; refine wpList_delete_own _ rfl _ _ 231 9 rfl 3 key_law Tryz.underlying231 _ m.Mb _ D rfl hmp _ (kl l) rfl (key_of hl) ?_; intro w5 hown5 hturn5)
 go_ret
 obtain ⟨hA5, hK5⟩ := HT.out w5 _ (D.del (kl l)) hturn5.grown hown5
 exact ⟨rfl, _, HD.out _ _ hA5, HS4.out.trans (Step.of_kp hK5)⟩

set_option maxHeartbeats 1000000 in
theorem front_bad {a : Int} {l : List UInt8} (hl : l.length ≤ maxLen) (w : World) (hA : At w m r) (hno : a < 0 ∨ (r.n : Int) ≤ a ∨ 64 < l.length) :
  Calls Tryz.prog 168 #[.pointer (some ⟨m.R, 0, none⟩), .int .i64 a, .string (str l)] w fun e w' => e = .returned (.bool false) ∧ w' = w := by
 have hh := has_c' a w hA
 have hsz := str_size l
 unfold maxLen at hl
 by_cases hb : (decide (0 ≤ a) && decide (a < (r.n : Int))) = true
 ·have h64 : 64 < l.length := by
   rw [Bool.and_eq_true, decide_eq_true_eq, decide_eq_true_eq] at hb
   omega
  rw [hb] at hh
  clear hb hno hA
  go_enter Tryz.func168, Tryz.ntmps168
  go_wp2_with fail
  refine hh.mono ?_
  rintro e w' ⟨rfl, rfl⟩
  go_wp2_with fail
  go_ret
  exact ⟨rfl, rfl⟩
 ·rw [Bool.not_eq_true] at hb
  rw [hb] at hh
  clear hb hno hA
  go_enter Tryz.func168, Tryz.ntmps168
  go_wp2_with fail
  refine hh.mono ?_
  rintro e w' ⟨rfl, rfl⟩
  go_wp2_with fail
  go_ret
  exact ⟨rfl, rfl⟩
set_option maxHeartbeats 1000000 in
theorem front_full {j : Nat} {l : List UInt8} (hj : j < r.n) (hl : l.length ≤ 64) (w : World) (hA : At w m r) (hno : ¬ r.has l) (hfull : r.places ≤ r.many) :
  Calls Tryz.prog 168 #[.pointer (some ⟨m.R, 0, none⟩), .int .i64 j, .string (str l)] w fun e w' => e = .returned (.bool false) ∧ ∃ n, w' = w.drewN n := by
 have hh := has_c' (j : Int) w hA
 have hsz := str_size l
 have hb : (decide (0 ≤ (j : Int)) && decide ((j : Int) < (r.n : Int))) = true := by simp; omega
 rw [hb] at hh
 clear hb
 have hfr := free_c' w hA
 obtain ⟨lens, S, F, D, pos, h⟩ := hA
 have hno := h.fit.no l hno
 have hmp := h.raw.mp
 obtain ⟨c0, c1, c2, c3, c4⟩ := h.raw.cells
 clear h
 go_enter Tryz.func168, Tryz.ntmps168
 go_wp2_with fail
 refine hh.mono ?_
 rintro e w' ⟨rfl, rfl⟩
 go_wp2_with (at_lookup; refine wpList_lookup_own_ok_int _ rfl _ _ 231 rfl 9 3 .i64 key_law Tryz.underlying231 Tryz.underlying3 (zeroI _) m.Mb _ D rfl hmp _ (kl l) rfl (key_of (by unfold maxLen; omega)) ?_; intro c hat hwc; rw [hno])
 refine hfr.mono ?_
 rintro e w' ⟨rfl, n, rfl⟩
 go_wp2_with fail
 go_ret
 exact ⟨rfl, _, rfl⟩
end
end Go.Proofs.YtkiabladmgagdabGreatDoor.Ringy
