/- The document's own addition (layer 5). Nothing that was there turns. -/
import Derived.Test.YtncgfnocokippaaGreatSketchRefAgeAll
import Derived.Laws.CopyRow
import Derived.Deep.CutRange
import Derived.Deep.DeepCutAuto
import Derived.Test.YtncgfnocokippaaGreatSq
namespace Go.Proofs.YtncgfnocokippaaGreat.Sketchy
open Go.ChangeShapes Go.WideShapes Go.ChangeAt Go.RowKit
open Wirey (Blk Row str str_size str_list Kp)

section
variable {w : World} {R D : Nat} {G : Nat → Nat} {s : Sk}
theorem blk_row {w : World} {g : Nat} {t : TypeId} {cs : Array Value} (h : Blk w g t cs) (ds : Array Value) : Blk (w.setRow g ds) g t ds := setRow_heap w g cs ds t (0, 0) h
theorem blk_rowfar {w : World} {g b : Nat} {t : TypeId} {cs : Array Value} (h : Blk w g t cs) (hne : g ≠ b) (ds : Array Value) : Blk (w.setRow b ds) g t cs := (setRow_other w b g ds hne).trans h
theorem row_below {C : Nat} {w v : World} {b : Nat} (h : Below C w v) (hb : C ≤ b) (ds : Array Value) : Below C w (v.setRow b ds) :=
 ⟨h.os, h.tape, h.output, by rw [setRow_size]; exact h.size, fun k hk => (setRow_other v b k ds (by omega)).trans (h.block k hk)⟩
theorem Ref.rowfar (h : Ref w R D G s) {b : Nat} (h1 : R ≠ b) (h2 : ∀ i, i < 4 → G i ≠ b) (h3 : D ≠ b) (ds : Array Value) : Ref (w.setRow b ds) R D G s :=
 ⟨by rw [setRow_size]; exact h.lt, fun i hi => (World.cell?_of_block (setRow_other w b R ds h1)).trans (h.rows i hi), fun i hi => blk_rowfar (h.row i hi) (h2 i hi) ds, blk_rowfar h.door h3 ds⟩
def Sk.with_ (t : Sk) (u : Sk) (j : Nat) : Sk := { t with r := fun i => if i < j then u.r i else t.r i, door := u.door }
theorem with_r (t u : Sk) (j i : Nat) : (t.with_ u j).r i = if i < j then u.r i else t.r i := rfl
theorem Ref.door_set {B : Nat} (hA : Apart B R D G) (h : Ref w R D G s) (u : Sk) : Ref (w.setRow D (boolsV u.door)) R D G (s.with_ u 0) :=
 ⟨by rw [setRow_size]; exact h.lt, fun i hi => (World.cell?_of_block (setRow_other w D R _ hA.RD)).trans (h.rows i hi), fun i hi => by rw [with_r, if_neg (by omega)]; exact blk_rowfar (h.row i hi) (Ne.symm (hA.DG i hi)) _, blk_row h.door _⟩
theorem Ref.row_set {B j : Nat} (hA : Apart B R D G) {u : Sk} (h : Ref w R D G (s.with_ u j)) (hj : j < 4) : Ref (w.setRow (G j) (intsV (u.r j))) R D G (s.with_ u (j + 1)) := by
 refine ⟨by rw [setRow_size]; exact h.lt, fun i hi => (World.cell?_of_block (setRow_other w (G j) R _ (hA.RG j hj))).trans (h.rows i hi), fun i hi => ?_, blk_rowfar h.door (hA.DG j hj) _⟩
 have hr := h.row i hi
 rw [with_r] at hr ⊢
 by_cases e : i = j
 ·subst e
  rw [if_pos (by omega)]
  exact blk_row hr _
 ·have := blk_rowfar hr (hA.GG i j hi hj e) (intsV (u.r j))
  by_cases e2 : i < j
  ·rw [if_pos e2] at this
   rw [if_pos (by omega)]
   exact this
  ·rw [if_neg e2] at this
   rw [if_neg (by omega)]
   exact this
end
theorem copy_all {w : World} {g a n cap cap' : Nat} {dT elem t : TypeId} {cur cs : Array Value} (hu : Tryz.prog.underlying dT = some (.slice elem)) (hs : (Tryz.prog.info? elem).map (·.size) = some 1) (hg : Blk w g t cur) (hsrc : Blk w a t cs) (hc : cur.size = n) (hd : cs.size = n) (h1 : ∀ v ∈ cs.toList, v.oneCell' = true) :
  (Builtin.copy_ #[dT, dT] 3 #[.slice (some ⟨g, 0, none⟩) n cap, .slice (some ⟨a, 0, none⟩) n cap']).run Tryz.prog w = .ok (.int .i64 n) (w.setRow g cs) := by
 have h := run_copy_row (P := Tryz.prog) w dT dT 3 elem g 0 n cap ⟨a, 0, none⟩ n cap' cur t cs.toList hu hs hg (by rw [Array.length_toList, hd]; exact (Nat.min_self n).symm) (fun j v hv => by
   have e : (⟨a, 0, none⟩ : Addr).add j = ⟨a, j, none⟩ := by unfold Addr.add; by_cases h : j = 0 <;> simp [h]
   rw [e, hsrc.cell j, ← hv]
   simp) (by rw [Array.length_toList]; omega) h1
 rw [h, List.take_zero, List.nil_append, Array.length_toList, List.drop_of_length_le (by rw [Array.length_toList]; omega), List.append_nil, Array.toArray_toList, hd]
 rfl
theorem boolsV_size (l : List Bool) : (boolsV l).size = l.length := by unfold boolsV; simp
theorem intsV_size (l : List Nat) : (intsV l).size = l.length := by unfold intsV; simp
theorem boolsV_one (l : List Bool) : ∀ v ∈ (boolsV l).toList, v.oneCell' = true := by
 intro v hv
 unfold boolsV at hv
 obtain ⟨x, _, rfl⟩ := List.mem_map.1 hv
 rfl
theorem intsV_one (l : List Nat) : ∀ v ∈ (intsV l).toList, v.oneCell' = true := by
 intro v hv
 unfold intsV at hv
 obtain ⟨x, _, rfl⟩ := List.mem_map.1 hv
 rfl
theorem bool_one : (Tryz.prog.info? 4).map (·.size) = some 1 := by kernel_rfl
theorem int_one : (Tryz.prog.info? 3).map (·.size) = some 1 := by kernel_rfl

structure Adding (w : World) (R cap D : Nat) (G : Nat → Nat) (s : Sk) (Y R' cap' D' : Nat) (G' : Nat → Nat) (t : Sk) (v : World) : Prop where
 old : Ref v R D G s
 x : Blk v w.heap.size 36 (boxV R cap D s)
 res : Blk v (w.heap.size + 1) 36 #[.int .i64 0, .int .u64 0, .slice none 0 0, .slice none 0 0, .int .i64 0]
 y : Blk v Y 36 (boxV R' cap' D' t)
 new : Ref v R' D' G' t
 below : Below w.heap.size w v
structure Lies (w : World) (R D : Nat) (G : Nat → Nat) (Y R' D' : Nat) (G' : Nat → Nat) : Prop where
 apart : Apart (w.heap.size + 2) R' D' G'
 R1 : R < w.heap.size
 D1 : D < w.heap.size
 G1 : ∀ i, i < 4 → G i < w.heap.size
 R2 : R' < Y
 D2 : D' < Y
 G2 : ∀ i, i < 4 → G' i < Y
section
variable {w v : World} {R cap D : Nat} {G : Nat → Nat} {s : Sk} {Y R' cap' D' : Nat} {G' : Nat → Nat} {t : Sk}
theorem Adding.drew (h : Adding w R cap D G s Y R' cap' D' G' t v) : Adding w R cap D G s Y R' cap' D' G' t v.drew := ⟨h.old.drew, h.x, h.res, h.y, h.new.drew, h.below.drew⟩
theorem Adding.onto (h : Adding w R cap D G s Y R' cap' D' G' t v) {v' : World} (hb : Below v.heap.size v v') : Adding w R cap D G s Y R' cap' D' G' t v' :=
 ⟨h.old.below hb (Nat.le_refl _), h.x.below hb h.x.lt, h.res.below hb h.res.lt, h.y.below hb h.y.lt, h.new.below hb (Nat.le_refl _), below_step h.below hb⟩
theorem Adding.door_set (h : Adding w R cap D G s Y R' cap' D' G' t v) (L : Lies w R D G Y R' D' G') (u : Sk) : Adding w R cap D G s Y R' cap' D' G' (t.with_ u 0) (v.setRow D' (boolsV u.door)) :=
 ⟨h.old.rowfar (by have := L.R1; have := L.apart.hD; omega) (fun i hi => by have := L.G1 i hi; have := L.apart.hD; omega) (by have := L.D1; have := L.apart.hD; omega) _,
   blk_rowfar h.x (by have := L.apart.hD; omega) _, blk_rowfar h.res (by have := L.apart.hD; omega) _, blk_rowfar h.y (by have := L.D2; omega) _, h.new.door_set L.apart u, row_below h.below (by have := L.apart.hD; omega) _⟩
theorem Adding.row_set {u : Sk} {j : Nat} (h : Adding w R cap D G s Y R' cap' D' G' (t.with_ u j) v) (L : Lies w R D G Y R' D' G') (hj : j < 4) : Adding w R cap D G s Y R' cap' D' G' (t.with_ u (j + 1)) (v.setRow (G' j) (intsV (u.r j))) :=
 ⟨h.old.rowfar (by have := L.R1; have := L.apart.hG j hj; omega) (fun i hi => by have := L.G1 i hi; have := L.apart.hG j hj; omega) (by have := L.D1; have := L.apart.hG j hj; omega) _,
   blk_rowfar h.x (by have := L.apart.hG j hj; omega) _, blk_rowfar h.res (by have := L.apart.hG j hj; omega) _, blk_rowfar h.y (by have := L.G2 j hj; omega) _, h.new.row_set L.apart hj, row_below h.below (by have := L.apart.hG j hj; omega) _⟩
theorem Adding.put (h : Adding w R cap D G s Y R' cap' D' G' t v) (L : Lies w R D G Y R' D' G') {b k : Nat} (hb : w.heap.size + 2 ≤ b) (hY : b < Y) (z : Value) {t' : Sk} (ht : Ref (v.setCell ⟨b, k, none⟩ z) R' D' G' t') (hw : boxV R' cap' D' t' = boxV R' cap' D' t) : Adding w R cap D G s Y R' cap' D' G' t' (v.setCell ⟨b, k, none⟩ z) :=
 ⟨h.old.far (by show R ≠ b; have := L.R1; omega) (fun i hi => by show G i ≠ b; have := L.G1 i hi; omega) (by show D ≠ b; have := L.D1; omega) _,
   h.x.far (by show w.heap.size ≠ b; omega) _, h.res.far (by show w.heap.size + 1 ≠ b; omega) _, by rw [hw]; exact h.y.far (by show Y ≠ b; omega) _, ht, h.below.setCell (p := ⟨b, k, none⟩) (by show w.heap.size ≤ b; omega) _⟩
end

theorem Adding.count {w v : World} {R cap D : Nat} {G : Nat → Nat} {s : Sk} {Y R' cap' D' : Nat} {G' : Nat → Nat} (h : Adding w R cap D G s Y R' cap' D' G' ((Sk.new s.wide s.seed).with_ s 4) v) (L : Lies w R D G Y R' D' G') :
  Adding w R cap D G s Y R' cap' D' G' s.count (v.setCell ⟨Y, 4, none⟩ (.int .i64 ((s.added + 1 : Nat) : Int))) ∧ v.frozen? ⟨Y, 4, none⟩ = false := by
 have hz := L.apart.hD
 have hY := L.D2
 refine ⟨⟨h.old.far (by show R ≠ Y; have := L.R1; omega) (fun i hi => by show G i ≠ Y; have := L.G1 i hi; omega) (by show D ≠ Y; have := L.D1; omega) _,
   h.x.far (by show w.heap.size ≠ Y; omega) _, h.res.far (by show w.heap.size + 1 ≠ Y; omega) _, h.y.put 4 _, ?_, h.below.setCell (p := ⟨Y, 4, none⟩) (by show w.heap.size ≤ Y; omega) _⟩, h.y.free 4⟩
 have hn := h.new.far (p := ⟨Y, 4, none⟩) (by show R' ≠ Y; have := L.R2; omega) (fun i hi => by show G' i ≠ Y; have := L.G2 i hi; omega) (by show D' ≠ Y; omega) (.int .i64 ((s.added + 1 : Nat) : Int))
 exact hn.like rfl (fun i hi => by rw [with_r, if_pos hi]; rfl) rfl
theorem Ref.mark {w : World} {B R D : Nat} {G : Nat → Nat} {s : Sk} {ks : Nat → Nat} (h : Ref w R D G s.count) (hA : Apart B R D G) : Ref (w.setCell ⟨D, ks 4, none⟩ (.bool true)) R D G (s.mark ks).count := by
 refine ⟨by have := h.lt; simpa [World.setCell] using this, fun i hi => (World.cell?_of_block (Below.heap_setCell w _ _ R hA.RD)).trans (h.rows i hi), fun i hi => (h.row i hi).far (Ne.symm (hA.DG i hi)) _, ?_⟩
 have := h.door.put (ks 4) (.bool true)
 rw [boolsV_put] at this
 exact this
def Sk.upTo (s : Sk) (ks : Nat → Nat) (j : Nat) : Sk := if s.lst ks 4 = 15 then s else s.up ks j
theorem Sk.upTo_zero {s : Sk} {ks : Nat → Nat} : s.upTo ks 0 = s := by
 unfold Sk.upTo
 rw [Sk.up_zero]
 split <;> rfl
theorem upTo_box {s : Sk} {ks : Nat → Nat} {j : Nat} (R cap D : Nat) : boxV R cap D (s.upTo ks j).count = boxV R cap D s.count := by
 unfold Sk.upTo
 split <;> rfl
theorem upTo_wide {s : Sk} {ks : Nat → Nat} {j : Nat} : (s.upTo ks j).count.wide = s.wide := by
 unfold Sk.upTo
 split <;> rfl
theorem upTo_r {s : Sk} {ks : Nat → Nat} {j : Nat} : (s.upTo ks j).count.r j = s.r j := by
 unfold Sk.upTo
 split
 ·rfl
 ·show (if j < j then _ else s.r j) = _
  rw [if_neg (by omega)]
theorem upTo_stay {s : Sk} {ks : Nat → Nat} {j : Nat} (h : s.lst ks 4 = 15 ∨ s.cnt ks j ≠ s.lst ks 4) : s.upTo ks (j + 1) = s.upTo ks j := by
 unfold Sk.upTo
 by_cases h15 : s.lst ks 4 = 15
 ·rw [if_pos h15, if_pos h15]
 ·rw [if_neg h15, if_neg h15]
  have hne : s.cnt ks j ≠ s.lst ks 4 := by
   rcases h with h | h
   ·exact absurd h h15
   ·exact h
  unfold Sk.up
  have : (fun i => if i < j + 1 then upRow (s.r i) (ks i) (s.lst ks 4) else s.r i) = (fun i => if i < j then upRow (s.r i) (ks i) (s.lst ks 4) else s.r i) := by
   funext i
   by_cases e : i = j
   ·subst e
    rw [if_pos (by omega), if_neg (by omega), upRow, if_neg (show ¬ (s.r i)[ks i]?.getD 0 = s.lst ks 4 from hne)]
   ·by_cases e2 : i < j
    ·rw [if_pos e2, if_pos (by omega)]
    ·rw [if_neg e2, if_neg (by omega)]
  rw [this]
theorem Ref.upSet {w : World} {B R D : Nat} {G : Nat → Nat} {s : Sk} {ks : Nat → Nat} {j : Nat} (h : Ref w R D G (s.upTo ks j).count) (hA : Apart B R D G) (hj : j < 4) (h15 : s.lst ks 4 ≠ 15) (heq : s.cnt ks j = s.lst ks 4) :
  Ref (w.setCell ⟨G j, ks j, none⟩ (.int .i64 ((s.lst ks 4 + 1 : Nat) : Int))) R D G (s.upTo ks (j + 1)).count := by
 have e1 : ∀ k, s.upTo ks k = s.up ks k := fun k => if_neg h15
 rw [e1] at h ⊢
 refine ⟨by have := h.lt; simpa [World.setCell] using this, fun i hi => (World.cell?_of_block (Below.heap_setCell w _ _ R (hA.RG j hj))).trans (h.rows i hi), fun i hi => ?_, h.door.far (hA.DG j hj) _⟩
 have hr := h.row i hi
 show Blk _ (G i) _ (intsV (if i < j + 1 then upRow (s.r i) (ks i) (s.lst ks 4) else s.r i))
 replace hr : Blk w (G i) 3 (intsV (if i < j then upRow (s.r i) (ks i) (s.lst ks 4) else s.r i)) := hr
 by_cases e : i = j
 ·subst e
  rw [if_neg (by omega)] at hr
  have hp := hr.put (ks i) (.int .i64 ((s.lst ks 4 + 1 : Nat) : Int))
  rw [intsV_put] at hp
  rw [if_pos (by omega), upRow, if_pos (show (s.r i)[ks i]?.getD 0 = s.lst ks 4 from heq)]
  exact hp
 ·have hp := hr.far (p := ⟨G j, ks j, none⟩) (hA.GG i j hi hj e) (.int .i64 ((s.lst ks 4 + 1 : Nat) : Int))
  by_cases e2 : i < j
  ·rw [if_pos e2] at hp
   rw [if_pos (by omega)]
   exact hp
  ·rw [if_neg e2] at hp
   rw [if_neg (by omega)]
   exact hp
theorem Sk.upTo_4 {s : Sk} {ks : Nat → Nat} : s.upTo ks 4 = s.grow ks := rfl
set_option maxHeartbeats 8000000 in
set_option maxRecDepth 100000 in
theorem radd_c {s : Sk} (hf : s.Wf) {R cap D : Nat} {G : Nat → Nat} (l : List UInt8) (hl : l.length ≤ 1099511627776) (w : World) (hR : Ref w R D G s) :
  Calls Tryz.prog 80 #[refV R cap D s, .string (str l)] w fun e w' => ∃ R' cap' D' G', e = .returned (refV R' cap' D' (s.add (ksOf (Mixy.text s.seed l) s.wide))) ∧ Ref w' R' D' G' (s.add (ksOf (Mixy.text s.seed l) s.wide)) ∧ Apart w.heap.size R' D' G' ∧ Below w.heap.size w w' := by
 have hw2 := hf.w2
 have hnew := fun W => rnew_c (seed := s.seed) hf.w2 W
 have hpl := fun (i : Nat) (W : World) => rplace_c hf.pre R cap D l hl i W
 have hle := fun (W : World) (h : Ref W R D G s) => rleast_c hf.pre (cap := cap) l hl W h
 have hkl := fun i => ksOf_lt (h := Mixy.text s.seed l) hf.w1 i
 obtain ⟨ks, hks⟩ : ∃ ks, ks = ksOf (Mixy.text s.seed l) s.wide := ⟨_, rfl⟩
 rw [← hks] at hpl hkl hle ⊢
 clear hks
 have hbx := (Blk.new w 36 (boxV R cap D s)).alloc (.cells #[.int .i64 0, .int .u64 0, .slice none 0 0, .slice none 0 0, .int .i64 0] 36)
 have hby := Blk.new (w.alloc (.cells (boxV R cap D s) 36)) 36 #[.int .i64 0, .int .u64 0, .slice none 0 0, .slice none 0 0, .int .i64 0]
 rw [World.size_alloc] at hby
 have hbw := ((Below.refl w.heap.size w).alloc (Nat.le_refl _) (.cells (boxV R cap D s) 36)).alloc (by simp) (.cells #[.int .i64 0, .int .u64 0, .slice none 0 0, .slice none 0 0, .int .i64 0] 36)
 have hRx := (hR.alloc (.cells (boxV R cap D s) 36)).alloc (.cells #[.int .i64 0, .int .u64 0, .slice none 0 0, .slice none 0 0, .int .i64 0] 36)
 have hsz : ((w.alloc (.cells (boxV R cap D s) 36)).alloc (.cells #[.int .i64 0, .int .u64 0, .slice none 0 0, .slice none 0 0, .int .i64 0] 36)).heap.size = w.heap.size + 2 := by simp
 unfold refV at hnew hpl hle ⊢
 go_enter Tryz.func80, Tryz.ntmps80
 go_wp2_with fail
 refine (hnew _).mono ?_
 rintro e v1 ⟨R', cap', D', G', rfl, hN, hA, hb1⟩
 have hsz2 := hb1.size
 change ((w.alloc (.cells (boxV R cap D s) 36)).alloc (.cells #[.int .i64 0, .int .u64 0, .slice none 0 0, .slice none 0 0, .int .i64 0] 36)).heap.size ≤ v1.heap.size at hsz2
 change Apart ((w.alloc (.cells (boxV R cap D s) 36)).alloc (.cells #[.int .i64 0, .int .u64 0, .slice none 0 0, .slice none 0 0, .int .i64 0] 36)).heap.size R' D' G' at hA
 rw [hsz] at hsz2 hA
 have hAd : Adding w R cap D G s v1.heap.size R' cap' D' G' (Sk.new s.wide s.seed) (v1.alloc (.cells (boxV R' cap' D' (Sk.new s.wide s.seed)) 36)) :=
  ⟨(hRx.below hb1 (Nat.le_refl _)).alloc _, (hbx.below hb1 hbx.lt).alloc _, (hby.below hb1 hby.lt).alloc _, Blk.new _ _ _, hN.alloc _, (hbw.trans (hb1.mono hbw.size)).alloc (by omega) _⟩
 have L : Lies w R D G v1.heap.size R' D' G' := ⟨hA, hR.lt, hR.door.lt, fun i hi => (hR.row i hi).lt, hN.lt, hN.door.lt, fun i hi => (hN.row i hi).lt⟩
 generalize hv2 : v1.alloc (.cells (boxV R' cap' D' (Sk.new s.wide s.seed)) 36) = v2 at hAd
 have HV2 := Lib.hid hv2
 clear hbx hby hbw hRx hN hb1 hnew hR hv2
 go_upto_region 2 with (fail)
 unfold boxV at HV2
 rw [HV2.out]
 have hdc := copy_all (w := v2) (n := s.wide) (cap := s.wide) (cap' := s.wide) Tryz.underlying34 bool_one hAd.new.door hAd.old.door (by rw [boolsV_size]; exact List.length_replicate ..) (by rw [boolsV_size]; exact hf.dlen) (boolsV_one _)
 obtain ⟨x0, x1, x2, x3, x4⟩ := box_cells hAd.x
 obtain ⟨y0, y1, y2, y3, y4⟩ := box_cells hAd.y
 have ew : (Sk.new s.wide s.seed).wide = s.wide := rfl
 rw [ew] at y3
 clear ew y0 y1 y4
 have hA1 := hAd.door_set L s
 generalize v2.setRow D' (boolsV s.door) = v3 at hdc hA1
 go_upto_region 3 with (fail)
 clear hdc HV2 hAd x0 x1 x2 x3 x4 y2 y3
 go_wp2_with fail
 go_loopw [6] (fun i wr => ∃ j : Nat, j ≤ 4 ∧ i = .int .i64 j ∧ Adding w R cap D G s v1.heap.size R' cap' D' G' ((Sk.new s.wide s.seed).with_ s j) wr) (fun i _ => 4 - (intOf i).toNat)
 case atStart => exact ⟨0, by omega, rfl, hA1⟩
 case round =>
  obtain ⟨j, hj, rfl, hG⟩ := hrel
  obtain ⟨x0, x1, x2, x3, x4⟩ := box_cells hG.x
  obtain ⟨y0, y1, y2, y3, y4⟩ := box_cells hG.y
  by_cases h4 : j < 4
  ·have hr := hG.old.rows j h4
   have hr' := hG.new.rows j h4
   have ew : ((Sk.new s.wide s.seed).with_ s j).wide = s.wide := rfl
   rw [ew] at hr'
   have hnl : (((Sk.new s.wide s.seed).with_ s j).r j).length = s.wide := by rw [with_r, if_neg (by omega)]; exact List.length_replicate ..
   have hcp := copy_all (w := wr.drew) (n := s.wide) (cap := s.wide) (cap' := s.wide) Tryz.underlying130 int_one (hG.new.row j h4) (hG.old.row j h4) (by rw [intsV_size]; exact hnl) (by rw [intsV_size]; exact hf.len j h4) (intsV_one _)
   have hN := hG.drew.row_set L h4
   generalize hu : wr.drew.setRow (G' j) (intsV (s.r j)) = u at hcp hN
   clear hu hnl ew hG y0 y1 y3 y4 x0 x1 x3 x4
   go_wp2_with fail
   go_region
   go_wp2_with fail
   go_roundw
   case rel => exact ⟨j + 1, by omega, rfl, hN⟩
   case measure => simp [intOf]; omega
  ·obtain rfl : j = 4 := by omega
   have hadd := hf.added
   have HC := Lib.hid (hG.count L)
   clear hG hA1 y0 y1 y2 y3 h4 hj
   go_upto_region 7 with (fail)
   have z4 : wr.frozen? ⟨v1.heap.size, 4, none⟩ = false := HC.out.2
   have HC1 := Lib.hid HC.out.1
   clear HC
   go_upto_region 8 with (fail)
   have hC := HC1.out
   have hq : ((s.added + 1 : Nat) : Int) = (s.added : Int) + 1 := by omega
   rw [hq] at hC
   clear HC1 x0 x1 x2 x3 x4 y4 z4
   generalize hv4 : wr.setCell ⟨v1.heap.size, 4, none⟩ (.int .i64 ((s.added : Int) + 1)) = v4 at hC
   clear hv4
   obtain ⟨x0, x1, x2, x3, x4⟩ := box_cells hC.x
   have hp4 := hpl 4
   go_wp2_with fail
   refine (hp4 _).mono ?_
   rintro e v5 ⟨rfl, hb5⟩
   have hC5 := hC.onto hb5
   have hbit := hC5.old.bit hf.pre (ks := ks) (hkl 4)
   clear x0 x1 x2 x3 x4 hC hb5
   obtain ⟨x0, x1, x2, x3, x4⟩ := box_cells hC5.x
   have hk4 := hkl 4
   go_upto_if 48 with (fail)
   go_cut [8, 9, 10] from 47 (fun _ _ _ wx => Adding w R cap D G s v1.heap.size R' cap' D' G' (s.note ks).count wx)
   case first =>
    rcases Bool.eq_false_or_eq_true (s.bit ks) with hb | hb
    ·rw [hb] at hbit ⊢
     have hnote : s.note ks = s.grow ks := by rw [Sk.note, if_pos hb]
     have hl5 := fun (W : World) (h : Ref W R D G s) => hle W h
     have hlst := Sk.lst_le (s := s) (ks := ks) 4
     have HNT := Lib.hid hnote
     clear hb hnote
     go_wp2_with fail
     refine (hl5 _ hC5.old).mono ?_
     rintro e v6 ⟨rfl, hb6⟩
     have hC6 := hC5.onto hb6
     clear hbit x0 x1 x2 x3 x4 hC5 hb6
     go_wp2_with fail
     go_loopw [9] (fun i wr => ∃ j : Nat, j ≤ 4 ∧ i = .int .i64 j ∧ Adding w R cap D G s v1.heap.size R' cap' D' G' (s.upTo ks j).count wr) (fun i _ => 4 - (intOf i).toNat)
     case atStart => exact ⟨0, by omega, rfl, by rw [Sk.upTo_zero]; exact hC6⟩
     case round =>
      obtain ⟨j, hj, rfl, hG⟩ := hrel
      by_cases h4 : j < 4
      ·obtain ⟨x0, x1, x2, x3, x4⟩ := box_cells hG.x
       have hpj := hpl j
       go_wp2_with fail
       refine (hpj _).mono ?_
       rintro e v7 ⟨rfl, hb7⟩
       have hG7 := hG.onto hb7
       clear x0 x1 x2 x3 x4 hG hb7 hC6
       obtain ⟨x0, x1, x2, x3, x4⟩ := box_cells hG7.x
       have hr := hG7.old.rows j h4
       have hc := hG7.old.cnt hf.pre (ks := ks) h4 (hkl j)
       have hcl := hf.pre.cnt_le (ks := ks) h4
       have hkj := hkl j
       by_cases hup : s.lst ks 4 ≠ 15 ∧ s.cnt ks j = s.lst ks 4
       ·obtain ⟨h15, heq⟩ := hup
        have y2 := (box_cells hG7.y).2.2.1
        have hr' := hG7.new.rows j h4
        have ew := upTo_wide (s := s) (ks := ks) (j := j)
        rw [ew] at hr'
        have hrow := hG7.new.row j h4
        rw [upTo_r] at hrow
        have hc' := (hrow.cell (ks j)).trans (intsV_at (by rw [hf.len j h4]; exact hkj))
        have hz := hrow.free (ks j)
        have eg : (s.r j)[ks j]?.getD 0 = s.lst ks 4 := heq
        rw [eg] at hc'
        have hP := hG7.put L (b := G' j) (k := ks j) (by have := hA.hG j h4; omega) (L.G2 j h4) (.int .i64 ((s.lst ks 4 + 1 : Nat) : Int)) (t' := (s.upTo ks (j + 1)).count) (hG7.new.upSet hA h4 h15 heq) (by rw [upTo_box, upTo_box])
        have hq : ((s.lst ks 4 + 1 : Nat) : Int) = (s.lst ks 4 : Int) + 1 := by omega
        rw [hq] at hP
        rw [heq] at hc
        have hlt15 : (s.lst ks 4 : Int) < 15 := by omega
        clear hq eg hrow ew hG7
        go_wp2_with fail
        go_roundw
        case rel => exact ⟨j + 1, by omega, rfl, hP⟩
        case measure => simp [intOf]; omega
       ·have hst := upTo_stay (s := s) (ks := ks) (j := j) (by by_cases h15 : s.lst ks 4 = 15; exact .inl h15; exact .inr (fun e => hup ⟨h15, e⟩))
        rw [← hst] at hG7
        by_cases heq : s.cnt ks j = s.lst ks 4
        ·have h15' : s.lst ks 4 = 15 := by (by_cases h15 : s.lst ks 4 = 15; exact h15; exact absurd ⟨h15, heq⟩ hup)
         have hlt15 : ¬ (s.lst ks 4 : Int) < 15 := by omega
         clear h15'
         have hd : decide ((s.lst ks 4 : Int) < 15) = false := decide_eq_false hlt15
         rw [heq] at hc
         clear hst hup
         go_wp2_with fail
         go_roundw
         case rel => exact ⟨j + 1, by omega, rfl, hG7⟩
         case measure => simp [intOf]; omega
        ·have hd : ((s.cnt ks j : Int) == (s.lst ks 4 : Int)) = false := by rw [beq_eq_false_iff_ne]; omega
         clear hst hup
         go_wp2_with fail
         go_roundw
         case rel => exact ⟨j + 1, by omega, rfl, hG7⟩
         case measure => simp [intOf]; omega
      ·obtain rfl : j = 4 := by omega
       rw [Sk.upTo_4] at hG
       go_wp2_with fail
       go_meet
       rw [HNT.out]
       exact hG
    ·rw [hb] at hbit ⊢
     have hnote : s.note ks = s.mark ks := by rw [Sk.note, if_neg (by rw [hb]; decide)]
     have HNT := Lib.hid hnote
     obtain ⟨y0, y1, y2, y3, y4⟩ := box_cells hC5.y
     have ew : s.count.wide = s.wide := rfl
     rw [ew] at y3
     have hd := (hC5.new.door.cell (ks 4)).trans (boolsV_at (by show ks 4 < s.door.length; rw [hf.dlen]; exact hk4))
     have hz := hC5.new.door.free (ks 4)
     have hP := hC5.put L (b := D') (k := ks 4) (by have := hA.hD; omega) L.D2 (.bool true) (t' := (s.mark ks).count) (hC5.new.mark hA) rfl
     clear hb hnote ew y0 y1 y2 y4 hC5
     go_wp2_with fail
     go_meet
     rw [HNT.out]
     exact hP
   case rest =>
    have hfix := Sk.note_fix (s := s) (ks := ks)
    have hpre := hf.count (ks := ks)
    have hw10 : s.wide * 10 ≤ 40960 := by omega
    obtain ⟨T, hT⟩ : ∃ T, T = (s.note ks).count := ⟨_, rfl⟩
    have e1 : T.wide = s.wide := by rw [hT]; exact hfix.1
    have e2 : T.seed = s.seed := by rw [hT]; exact hfix.2.2
    have e3 : T.added = s.added + 1 := by rw [hT]; show (s.note ks).added + 1 = _; rw [hfix.2.1]
    rw [← hT] at hcut hpre
    have hyoung : s.added + 1 < 10 * s.wide → s.add ks = T := fun h => by rw [Sk.add, if_neg (by omega), hT]
    have hold : ¬ s.added + 1 < 10 * s.wide → s.add ks = T.age := fun h => by rw [Sk.add, if_pos (by omega), hT]
    have HE := Lib.hid (And.intro hyoung hold)
    have HQ := Lib.hid (And.intro e1 (And.intro e2 e3))
    have hage := fun (W : World) (h : Ref W R' D' G' T) => rage_c (s := T) hpre (cap := cap') W h
    unfold refV at hage
    rw [e1, e2, e3] at hage
    clear hyoung hold hfix hT
    obtain ⟨x0, -, -, -, -⟩ := box_cells hcut.x
    obtain ⟨y0, y1, y2, y3, y4⟩ := box_cells hcut.y
    rw [e1] at y0 y3
    rw [e2] at y1
    rw [e3] at y4
    have hq : ((s.added + 1 : Nat) : Int) = (s.added : Int) + 1 := by omega
    rw [hq] at y4 hage
    have HQ2 := Lib.hid hq
    clear e1 e2 e3 hq
    have r0 := hcut.res.cell 0
    have r1 := hcut.res.cell 1
    have r2 := hcut.res.cell 2
    have r3 := hcut.res.cell 3
    have r4 := hcut.res.cell 4
    have f0 := hcut.res.free 0
    have f1 := hcut.res.free 1
    have f2 := hcut.res.free 2
    have f3 := hcut.res.free 3
    have f4 := hcut.res.free 4
    simp only [gA, gB, gC] at r0 r1 r2 r3 r4
    by_cases hlt : s.added + 1 < 10 * s.wide
    ·have hlt2 : (s.added : Int) + 1 < 10 * (s.wide : Int) := by omega
     have hRF := fill5_ref hcut.new (B := w.heap.size + 1) (by have := hA.hR; omega) (fun i hi => by have := hA.hG i hi; omega) (by have := hA.hD; omega) (.int .i64 s.wide) (.int .u64 s.seed) (.slice (some ⟨R', 0, none⟩) 4 cap') (.slice (some ⟨D', 0, none⟩) s.wide s.wide) (.int .i64 ((s.added : Int) + 1))
     have hBF := fill5_below hcut.below (B := w.heap.size + 1) (by omega) (.int .i64 s.wide) (.int .u64 s.seed) (.slice (some ⟨R', 0, none⟩) 4 cap') (.slice (some ⟨D', 0, none⟩) s.wide s.wide) (.int .i64 ((s.added : Int) + 1))
     have hCF := fill5_blk hcut.res (.int .i64 s.wide) (.int .u64 s.seed) (.slice (some ⟨R', 0, none⟩) 4 cap') (.slice (some ⟨D', 0, none⟩) s.wide s.wide) (.int .i64 ((s.added : Int) + 1))
     generalize hu : fill5 wc (w.heap.size + 1) (.int .i64 s.wide) (.int .u64 s.seed) (.slice (some ⟨R', 0, none⟩) 4 cap') (.slice (some ⟨D', 0, none⟩) s.wide s.wide) (.int .i64 ((s.added : Int) + 1)) = u2 at hRF hBF hCF
     have HU2 := Lib.hid hu
     unfold fill5 at HU2
     clear hu hcut
     go_wp2_with fail
     rw [HU2.out]
     have p0 := hCF.cell 0
     have p1 := hCF.cell 1
     have p2 := hCF.cell 2
     have p3 := hCF.cell 3
     have p4 := hCF.cell 4
     simp only [gA, gB, gC] at p0 p1 p2 p3 p4
     refine bodyPost_ret (v := refV R' cap' D' T) (by unfold refV; rw [HQ.out.1, HQ.out.2.1, HQ.out.2.2, HQ2.out]; simp [results, Tryz.results80, go_sem, p0, p1, p2, p3, p4]) rfl ?_
     rw [HE.out.1 hlt]
     exact ⟨R', cap', D', G', rfl, hRF, hA.low (by omega), hBF⟩
    ·have hlt2 : ¬ (s.added : Int) + 1 < 10 * (s.wide : Int) := by omega
     go_wp2_with fail
     refine (hage _ hcut.new).mono ?_
     rintro e v6 ⟨R2, cap2, D2, G2, rfl, hN2, hA2, hb6⟩
     have hres := hcut.res.below hb6 hcut.res.lt
     have hbel := below_step hcut.below hb6
     have hlow : w.heap.size + 2 ≤ wc.heap.size := hcut.res.lt
     have a1 : (T.age).wide = s.wide := HQ.out.1
     have a2 : (T.age).seed = s.seed := HQ.out.2.1
     clear r0 r1 r2 r3 r4 f0 f1 f2 f3 f4 hcut
     have r0 := hres.cell 0
     have r1 := hres.cell 1
     have r2 := hres.cell 2
     have r3 := hres.cell 3
     have r4 := hres.cell 4
     have f0 := hres.free 0
     have f1 := hres.free 1
     have f2 := hres.free 2
     have f3 := hres.free 3
     have f4 := hres.free 4
     simp only [gA, gB, gC] at r0 r1 r2 r3 r4
     have hRF := fill5_ref hN2 (B := w.heap.size + 1) (by have := hA2.hR; omega) (fun i hi => by have := hA2.hG i hi; omega) (by have := hA2.hD; omega) (.int .i64 T.age.wide) (.int .u64 T.age.seed) (.slice (some ⟨R2, 0, none⟩) 4 cap2) (.slice (some ⟨D2, 0, none⟩) T.age.wide T.age.wide) (.int .i64 T.age.added)
     have hBF := fill5_below hbel (B := w.heap.size + 1) (by omega) (.int .i64 T.age.wide) (.int .u64 T.age.seed) (.slice (some ⟨R2, 0, none⟩) 4 cap2) (.slice (some ⟨D2, 0, none⟩) T.age.wide T.age.wide) (.int .i64 T.age.added)
     have hCF := fill5_blk hres (.int .i64 T.age.wide) (.int .u64 T.age.seed) (.slice (some ⟨R2, 0, none⟩) 4 cap2) (.slice (some ⟨D2, 0, none⟩) T.age.wide T.age.wide) (.int .i64 T.age.added)
     generalize hu : fill5 v6 (w.heap.size + 1) (.int .i64 T.age.wide) (.int .u64 T.age.seed) (.slice (some ⟨R2, 0, none⟩) 4 cap2) (.slice (some ⟨D2, 0, none⟩) T.age.wide T.age.wide) (.int .i64 T.age.added) = u2 at hRF hBF hCF
     have HU2 := Lib.hid hu
     unfold fill5 at HU2
     clear hu a1 a2
     go_wp2_with fail
     rw [HU2.out]
     have p0 := hCF.cell 0
     have p1 := hCF.cell 1
     have p2 := hCF.cell 2
     have p3 := hCF.cell 3
     have p4 := hCF.cell 4
     simp only [gA, gB, gC] at p0 p1 p2 p3 p4
     refine bodyPost_ret (v := refV R2 cap2 D2 T.age) (by unfold refV; simp [results, Tryz.results80, go_sem, p0, p1, p2, p3, p4]) rfl ?_
     rw [HE.out.2 hlt]
     exact ⟨R2, cap2, D2, G2, rfl, hRF, hA2.low (by omega), hBF⟩
end Go.Proofs.YtncgfnocokippaaGreat.Sketchy
