/- The document's own sketch (layer 5): what reads one: least, Seen. Nothing that was there turns. The document's own ageing (layer 5). Nothing that was there turns. -/
import Derived.Test.YtncgfnocokippaaGreatSketchRef
import Derived.Deep.DeepCutAuto
import Derived.Test.YtncgfnocokippaaGreatSketchAwakeAll
import Derived.StillTailTactics
import Derived.Test.YtncgfnocokippaaGreatSq
namespace Go.Proofs.YtncgfnocokippaaGreat.Sketchy
open Go.ChangeShapes Go.WideShapes Go.ChangeAt Go.RowKit
open Wirey (Blk Row str str_size str_list Kp)

theorem keep_c {x y : World} {b i : Nat} {v : Value} (h : x.cell? ⟨b, i, none⟩ = some v) (hb : Below x.heap.size x y) : y.cell? ⟨b, i, none⟩ = some v :=
 (World.cell?_of_block (hb.block b (World.block_lt_of_cell? x _ h))).trans h
theorem below_step {w x y : World} (h : Below w.heap.size w x) (hb : Below x.heap.size x y) : Below w.heap.size w y := h.trans (hb.mono h.size)
theorem keep7 {w x y : World} {b0 b1 b2 b3 b4 b5 b6 i0 i1 i2 i3 i4 i5 i6 : Nat} {u0 u1 u2 u3 u4 u5 u6 : Value}
  (hS : x.cell? ⟨b0, i0, none⟩ = some u0 ∧ x.cell? ⟨b1, i1, none⟩ = some u1 ∧ x.cell? ⟨b2, i2, none⟩ = some u2 ∧ x.cell? ⟨b3, i3, none⟩ = some u3 ∧ x.cell? ⟨b4, i4, none⟩ = some u4 ∧ x.cell? ⟨b5, i5, none⟩ = some u5 ∧ x.cell? ⟨b6, i6, none⟩ = some u6 ∧ Below w.heap.size w x)
  (hb : Below x.heap.size x y) :
  y.cell? ⟨b0, i0, none⟩ = some u0 ∧ y.cell? ⟨b1, i1, none⟩ = some u1 ∧ y.cell? ⟨b2, i2, none⟩ = some u2 ∧ y.cell? ⟨b3, i3, none⟩ = some u3 ∧ y.cell? ⟨b4, i4, none⟩ = some u4 ∧ y.cell? ⟨b5, i5, none⟩ = some u5 ∧ y.cell? ⟨b6, i6, none⟩ = some u6 ∧ Below w.heap.size w y :=
 ⟨keep_c hS.1 hb, keep_c hS.2.1 hb, keep_c hS.2.2.1 hb, keep_c hS.2.2.2.1 hb, keep_c hS.2.2.2.2.1 hb, keep_c hS.2.2.2.2.2.1 hb, keep_c hS.2.2.2.2.2.2.1 hb, below_step hS.2.2.2.2.2.2.2 hb⟩
theorem keep7d {w x : World} {b0 b1 b2 b3 b4 b5 b6 i0 i1 i2 i3 i4 i5 i6 : Nat} {u0 u1 u2 u3 u4 u5 u6 : Value}
  (hS : x.cell? ⟨b0, i0, none⟩ = some u0 ∧ x.cell? ⟨b1, i1, none⟩ = some u1 ∧ x.cell? ⟨b2, i2, none⟩ = some u2 ∧ x.cell? ⟨b3, i3, none⟩ = some u3 ∧ x.cell? ⟨b4, i4, none⟩ = some u4 ∧ x.cell? ⟨b5, i5, none⟩ = some u5 ∧ x.cell? ⟨b6, i6, none⟩ = some u6 ∧ Below w.heap.size w x) :
  x.drew.cell? ⟨b0, i0, none⟩ = some u0 ∧ x.drew.cell? ⟨b1, i1, none⟩ = some u1 ∧ x.drew.cell? ⟨b2, i2, none⟩ = some u2 ∧ x.drew.cell? ⟨b3, i3, none⟩ = some u3 ∧ x.drew.cell? ⟨b4, i4, none⟩ = some u4 ∧ x.drew.cell? ⟨b5, i5, none⟩ = some u5 ∧ x.drew.cell? ⟨b6, i6, none⟩ = some u6 ∧ Below w.heap.size w x.drew :=
 ⟨hS.1, hS.2.1, hS.2.2.1, hS.2.2.2.1, hS.2.2.2.2.1, hS.2.2.2.2.2.1, hS.2.2.2.2.2.2.1, hS.2.2.2.2.2.2.2.drew⟩
theorem keep7b {w x : World} {b0 b1 b2 b3 b4 b5 b6 i0 i1 i2 i3 i4 i5 i6 : Nat} {u0 u1 u2 u3 u4 u5 u6 : Value}
  (hS : x.cell? ⟨b0, i0, none⟩ = some u0 ∧ x.cell? ⟨b1, i1, none⟩ = some u1 ∧ x.cell? ⟨b2, i2, none⟩ = some u2 ∧ x.cell? ⟨b3, i3, none⟩ = some u3 ∧ x.cell? ⟨b4, i4, none⟩ = some u4 ∧ x.cell? ⟨b5, i5, none⟩ = some u5 ∧ x.cell? ⟨b6, i6, none⟩ = some u6 ∧ Below w.heap.size w x) : Below w.heap.size w x := hS.2.2.2.2.2.2.2

def boxV (R cap D : Nat) (s : Sk) : Array Value := #[.int .i64 s.wide, .int .u64 s.seed, .slice (some ⟨R, 0, none⟩) 4 cap, .slice (some ⟨D, 0, none⟩) s.wide s.wide, .int .i64 s.added]
theorem box_cells {w : World} {X R cap D : Nat} {s : Sk} (h : Blk w X 36 (boxV R cap D s)) :
  w.cell? ⟨X, 0, none⟩ = some (.int .i64 s.wide) ∧ w.cell? ⟨X, 1, none⟩ = some (.int .u64 s.seed) ∧ w.cell? ⟨X, 2, none⟩ = some (.slice (some ⟨R, 0, none⟩) 4 cap) ∧ w.cell? ⟨X, 3, none⟩ = some (.slice (some ⟨D, 0, none⟩) s.wide s.wide) ∧ w.cell? ⟨X, 4, none⟩ = some (.int .i64 s.added) :=
 ⟨h.cell 0, h.cell 1, h.cell 2, h.cell 3, h.cell 4⟩

set_option maxHeartbeats 8000000 in
set_option maxRecDepth 100000 in
theorem rleast_c {s : Sk} (hf : s.Pre) {R cap D : Nat} {G : Nat → Nat} (l : List UInt8) (hl : l.length ≤ 1099511627776) (w : World) (hR : Ref w R D G s) :
  Calls Tryz.prog 105 #[refV R cap D s, .string (str l)] w fun e w' => e = .returned (.int .i64 (s.lst (ksOf (Mixy.text s.seed l) s.wide) 4 : Int)) ∧ Below w.heap.size w w' := by
 have hpl := fun (i : Nat) (W : World) => rplace_c hf R cap D l hl i W
 have hkl := fun i => ksOf_lt (h := Mixy.text s.seed l) hf.w1 i
 obtain ⟨ks, hks⟩ : ∃ ks, ks = ksOf (Mixy.text s.seed l) s.wide := ⟨_, rfl⟩
 rw [← hks] at hpl hkl ⊢
 clear hks
 have hbx := (Blk.new w 36 (boxV R cap D s))
 have hbw := (Below.refl w.heap.size w).alloc (Nat.le_refl _) (.cells (boxV R cap D s) 36)
 have hRx := hR.alloc (.cells (boxV R cap D s) 36)
 unfold refV at hpl ⊢
 go_enter Tryz.func105, Tryz.ntmps105
 go_wp2_with fail
 go_loopw [5, 6] (fun m i wr => ∃ j : Nat, j ≤ 4 ∧ i = .int .i64 j ∧ m = .int .i64 (s.lst ks j : Int) ∧ Blk wr w.heap.size 36 (boxV R cap D s) ∧ Below w.heap.size w wr ∧ Ref wr R D G s) (fun _ i _ => 4 - (intOf i).toNat)
 case atStart => exact ⟨0, by omega, rfl, rfl, hbx, hbw, hRx⟩
 case round =>
  obtain ⟨j, hj, rfl, rfl, hX, hW, hU⟩ := hrel
  have hlst := Sk.lst_le (s := s) (ks := ks) j
  by_cases h4 : j < 4
  ·have hc := hU.cnt hf (ks := ks) h4 (hkl j)
   have hr := hU.rows j h4
   have hcl := hf.cnt_le (ks := ks) h4
   have hkj := hkl j
   have hw2 := hf.w2
   obtain ⟨x0, x1, x2, x3, x4⟩ := box_cells hX
   have hmin : s.lst ks (j + 1) = min (s.lst ks j) (s.cnt ks j) := rfl
   have HM := Lib.hid hmin
   have HX := Lib.hid hX
   have HU := Lib.hid hU
   have HW := Lib.hid hW
   have hbr := (Below.refl wr.heap.size wr).drew
   have hp := fun W => hpl j W
   clear hpl hkl hmin hX hU hW hR hRx hbx hbw
   generalize ks j = k at hc hkj hp
   go_wp2_with fail
   go_region_held3 (fun w' => w'.cell? ⟨w.heap.size, 0, none⟩ = some (.int .i64 s.wide) ∧ w'.cell? ⟨w.heap.size, 1, none⟩ = some (.int .u64 s.seed) ∧ w'.cell? ⟨w.heap.size, 2, none⟩ = some (.slice (some ⟨R, 0, none⟩) 4 cap) ∧ w'.cell? ⟨w.heap.size, 3, none⟩ = some (.slice (some ⟨D, 0, none⟩) s.wide s.wide) ∧ w'.cell? ⟨w.heap.size, 4, none⟩ = some (.int .i64 s.added) ∧ w'.cell? ⟨R, j, none⟩ = some (.slice (some ⟨G j, 0, none⟩) s.wide s.wide) ∧ w'.cell? ⟨G j, k, none⟩ = some (.int .i64 (s.cnt ks j : Int)) ∧ Below wr.heap.size wr w')
    (first | exact ⟨x0, x1, x2, x3, x4, hr, hc, hbr⟩ | exact keep7 (by assumption) (by assumption) | exact keep7d (by assumption) | go_keep)
    (first | (go_at_call 104; refine (hp _).mono ?_; rintro e v ⟨rfl, hv⟩))
   have hbv : Below wr.heap.size wr v := keep7b (by assumption)
   have hX2 := HX.out.below hbv HX.out.lt
   have hU2 := HU.out.below hbv (Nat.le_refl _)
   have hW2 := below_step HW.out hbv
   have hj1 : j + 1 ≤ 4 := by omega
   by_cases hlt : s.cnt ks j < s.lst ks j
   ·have hm : s.lst ks (j + 1) = s.cnt ks j := by rw [HM.out]; omega
    have HM2 := Lib.hid hm
    have hlt2 : (s.cnt ks j : Int) < (s.lst ks j : Int) := by omega
    clear hm
    go_wp2_with fail
    go_roundw
    case rel => exact ⟨j + 1, hj1, rfl, by rw [HM2.out], hX2, hW2, hU2⟩
    case measure => simp [intOf]; omega
   ·have hm : s.lst ks (j + 1) = s.lst ks j := by rw [HM.out]; omega
    have HM2 := Lib.hid hm
    have hlt2 : ¬ (s.cnt ks j : Int) < (s.lst ks j : Int) := by omega
    clear hm
    go_wp2_with fail
    go_roundw
    case rel => exact ⟨j + 1, hj1, rfl, by rw [HM2.out], hX2, hW2, hU2⟩
    case measure => simp [intOf]; omega
  ·obtain rfl : j = 4 := by omega
   go_wp2_with fail
   go_ret
   exact ⟨rfl, hW⟩

set_option maxHeartbeats 8000000 in
set_option maxRecDepth 100000 in
theorem rseen_c {s : Sk} (hf : s.Pre) {R cap D : Nat} {G : Nat → Nat} (l : List UInt8) (hl : l.length ≤ 1099511627776) (w : World) (hR : Ref w R D G s) :
  Calls Tryz.prog 87 #[refV R cap D s, .string (str l)] w fun e w' => e = .returned (.int .i64 (s.seen (ksOf (Mixy.text s.seed l) s.wide) : Int)) ∧ Below w.heap.size w w' := by
 have hpl := fun (W : World) => rplace_c hf R cap D l hl 4 W
 have hkl := ksOf_lt (h := Mixy.text s.seed l) hf.w1 4
 have hle := fun (W : World) (h : Ref W R D G s) => rleast_c hf (cap := cap) l hl W h
 obtain ⟨ks, hks⟩ : ∃ ks, ks = ksOf (Mixy.text s.seed l) s.wide := ⟨_, rfl⟩
 rw [← hks] at hpl hkl hle ⊢
 clear hks
 have hbx := (Blk.new w 36 (boxV R cap D s))
 have hbw := (Below.refl w.heap.size w).alloc (Nat.le_refl _) (.cells (boxV R cap D s) 36)
 have hRx := hR.alloc (.cells (boxV R cap D s) 36)
 have hlst := Sk.lst_le (s := s) (ks := ks) 4
 have hs0 : s.bit ks = false → s.seen ks = s.lst ks 4 := fun hb => by rw [Sk.seen, hb]; rfl
 have hs1 : s.bit ks = true → s.seen ks = s.lst ks 4 + 1 := fun hb => by rw [Sk.seen, hb]; rfl
 have HS0 := Lib.hid hs0
 have HS1 := Lib.hid hs1
 have hw2 := hf.w2
 unfold refV at hpl hle ⊢
 clear hs0 hs1
 go_enter Tryz.func87, Tryz.ntmps87
 go_wp2_with fail
 refine (hle _ hRx).mono ?_
 rintro e wr ⟨rfl, hb1⟩
 have hU := hRx.below hb1 (Nat.le_refl _)
 have hX := hbx.below hb1 hbx.lt
 have hW := hbw.trans (hb1.mono hbw.size)
 obtain ⟨x0, x1, x2, x3, x4⟩ := box_cells hX
 have hc := hU.bit hf (ks := ks) hkl
 have hbr := (Below.refl wr.heap.size wr).drew
 have HX := Lib.hid hX
 have HU := Lib.hid hU
 have HW := Lib.hid hW
 clear hle hX hU hW hR hRx hbx hbw hb1
 generalize ks 4 = k at hc hkl hpl
 rcases Bool.eq_false_or_eq_true (s.bit ks) with hb | hb
 ·have HS := Lib.hid (HS1.out hb)
  rw [hb] at hc
  clear hb
  go_wp2_with fail
  go_region_held3 (fun w' => w'.cell? ⟨w.heap.size, 0, none⟩ = some (.int .i64 s.wide) ∧ w'.cell? ⟨w.heap.size, 1, none⟩ = some (.int .u64 s.seed) ∧ w'.cell? ⟨w.heap.size, 2, none⟩ = some (.slice (some ⟨R, 0, none⟩) 4 cap) ∧ w'.cell? ⟨w.heap.size, 3, none⟩ = some (.slice (some ⟨D, 0, none⟩) s.wide s.wide) ∧ w'.cell? ⟨w.heap.size, 4, none⟩ = some (.int .i64 s.added) ∧ w'.cell? ⟨D, k, none⟩ = some (.bool true) ∧ w'.cell? ⟨D, k, none⟩ = some (.bool true) ∧ Below wr.heap.size wr w')
   (first | exact ⟨x0, x1, x2, x3, x4, hc, hc, hbr⟩ | exact keep7 (by assumption) (by assumption) | exact keep7d (by assumption) | go_keep)
   (first | (go_at_call 104; refine (hpl _).mono ?_; rintro e v ⟨rfl, hv⟩))
  have hbv : Below wr.heap.size wr v := keep7b (by assumption)
  have hW2 := below_step HW.out hbv
  go_wp2_with fail
  go_ret
  exact ⟨by rw [HS.out]; rfl, hW2⟩
 ·have HS := Lib.hid (HS0.out hb)
  rw [hb] at hc
  clear hb
  go_wp2_with fail
  go_region_held3 (fun w' => w'.cell? ⟨w.heap.size, 0, none⟩ = some (.int .i64 s.wide) ∧ w'.cell? ⟨w.heap.size, 1, none⟩ = some (.int .u64 s.seed) ∧ w'.cell? ⟨w.heap.size, 2, none⟩ = some (.slice (some ⟨R, 0, none⟩) 4 cap) ∧ w'.cell? ⟨w.heap.size, 3, none⟩ = some (.slice (some ⟨D, 0, none⟩) s.wide s.wide) ∧ w'.cell? ⟨w.heap.size, 4, none⟩ = some (.int .i64 s.added) ∧ w'.cell? ⟨D, k, none⟩ = some (.bool false) ∧ w'.cell? ⟨D, k, none⟩ = some (.bool false) ∧ Below wr.heap.size wr w')
   (first | exact ⟨x0, x1, x2, x3, x4, hc, hc, hbr⟩ | exact keep7 (by assumption) (by assumption) | exact keep7d (by assumption) | go_keep)
   (first | (go_at_call 104; refine (hpl _).mono ?_; rintro e v ⟨rfl, hv⟩))
  have hbv : Below wr.heap.size wr v := keep7b (by assumption)
  have hW2 := below_step HW.out hbv
  go_wp2_with fail
  go_ret
  exact ⟨by rw [HS.out]; rfl, hW2⟩
end Go.Proofs.YtncgfnocokippaaGreat.Sketchy
namespace Go.Proofs.YtncgfnocokippaaGreat.Sketchy
open Go.ChangeShapes Go.WideShapes Go.ChangeAt Go.RowKit
open Wirey (Blk Row str str_size str_list Kp)

def halfZ (l : List Nat) (k : Nat) : List Nat := (l.take k).map (· / 2) ++ List.replicate (l.length - k) 0
theorem halfZ_0 (l : List Nat) : halfZ l 0 = List.replicate l.length 0 := rfl
theorem halfZ_all {l : List Nat} {k : Nat} (h : l.length ≤ k) : halfZ l k = l.map (· / 2) := by
 rw [halfZ, List.take_of_length_le h, Nat.sub_eq_zero_of_le h, List.replicate_zero, List.append_nil]
theorem halfZ_length {l : List Nat} {k : Nat} (hk : k ≤ l.length) : (halfZ l k).length = l.length := by
 unfold halfZ
 rw [List.length_append, List.length_map, List.length_take, List.length_replicate]
 omega
theorem halfZ_set {l : List Nat} {k : Nat} (hk : k < l.length) : (halfZ l k).set k (l[k] / 2) = halfZ l (k + 1) := by
 unfold halfZ
 obtain ⟨m, hm⟩ : ∃ m, l.length - k = m + 1 := ⟨l.length - k - 1, by omega⟩
 have hm2 : l.length - (k + 1) = m := by omega
 rw [hm, hm2, List.replicate_succ, List.set_append_right _ _ (by rw [List.length_map, List.length_take]; omega), List.length_map, List.length_take, Nat.min_eq_left (by omega), Nat.sub_self, List.set_cons_zero, List.take_succ_eq_append_getElem hk, List.map_append, List.append_assoc]
 rfl
def Sk.zalf (s : Sk) (j k : Nat) : Sk := ⟨s.wide, s.seed, 0, fun i => if i < j then (s.r i).map (· / 2) else if i = j then halfZ (s.r i) k else List.replicate s.wide 0, List.replicate s.wide false⟩
theorem zalf_r (s : Sk) (j k i : Nat) : (s.zalf j k).r i = if i < j then (s.r i).map (· / 2) else if i = j then halfZ (s.r i) k else List.replicate s.wide 0 := rfl
section
variable {w : World} {R D : Nat} {G : Nat → Nat} {s : Sk}
theorem Ref.like {t u : Sk} (h : Ref w R D G t) (hw : t.wide = u.wide) (hr : ∀ i, i < 4 → t.r i = u.r i) (hd : t.door = u.door) : Ref w R D G u :=
 ⟨h.lt, fun i hi => by rw [← hw]; exact h.rows i hi, fun i hi => by rw [← hr i hi]; exact h.row i hi, by rw [← hd]; exact h.door⟩
theorem zalf_0 (hf : s.Pre) (h : Ref w R D G (Sk.new s.wide s.seed)) : Ref w R D G (s.zalf 0 0) := by
 refine h.like rfl (fun i hi => ?_) rfl
 rw [zalf_r, if_neg (by omega)]
 split
 ·rw [halfZ_0, hf.len i hi]; rfl
 ·rfl
theorem zalf_next (hf : s.Pre) {j k : Nat} (hk : s.wide ≤ k) (h : Ref w R D G (s.zalf j k)) : Ref w R D G (s.zalf (j + 1) 0) := by
 refine h.like rfl (fun i hi => ?_) rfl
 rw [zalf_r, zalf_r]
 by_cases e : i < j
 ·rw [if_pos e, if_pos (by omega)]
 ·rw [if_neg e]
  by_cases e2 : i = j
  ·rw [if_pos e2, if_pos (by omega), halfZ_all (by rw [hf.len i hi]; exact hk)]
  ·rw [if_neg e2, if_neg (by omega)]
   split
   ·rw [halfZ_0, hf.len i hi]
   ·rfl
theorem zalf_4 {k : Nat} (h : Ref w R D G (s.zalf 4 k)) : Ref w R D G s.age := by
 refine h.like rfl (fun i hi => ?_) rfl
 rw [zalf_r, if_pos hi]
 rfl
theorem zalf_put {B j k : Nat} (hA : Apart B R D G) (h : Ref w R D G (s.zalf j k)) (hj : j < 4) (hk : k < (s.r j).length) : Ref (w.setCell ⟨G j, k, none⟩ (.int .i64 (((s.r j)[k] / 2 : Nat) : Int))) R D G (s.zalf j (k + 1)) := by
 refine ⟨by have := h.lt; simpa [World.setCell] using this, fun i hi => (World.cell?_of_block (Below.heap_setCell w _ _ R (hA.RG j hj))).trans (h.rows i hi), fun i hi => ?_, h.door.far (hA.DG j hj) _⟩
 have hr := h.row i hi
 rw [zalf_r] at hr ⊢
 by_cases e : i = j
 ·subst e
  rw [if_neg (by omega), if_pos rfl] at hr ⊢
  have hp := hr.put k (.int .i64 (((s.r i)[k] / 2 : Nat) : Int))
  rw [intsV_put, halfZ_set hk] at hp
  exact hp
 ·have hp := hr.far (p := ⟨G j, k, none⟩) (hA.GG i j hi hj e) (.int .i64 (((s.r j)[k] / 2 : Nat) : Int))
  rw [if_neg e] at hp ⊢
  exact hp
end
theorem Apart.low {B C R D : Nat} {G : Nat → Nat} (h : Apart C R D G) (hB : B ≤ C) : Apart B R D G :=
 ⟨Nat.le_trans hB h.hR, Nat.le_trans hB h.hD, fun i hi => Nat.le_trans hB (h.hG i hi), h.RD, h.RG, h.DG, h.GG⟩

structure Aging (w : World) (R cap D : Nat) (G : Nat → Nat) (s : Sk) (Y R' cap' D' : Nat) (G' : Nat → Nat) (j k : Nat) (v : World) : Prop where
 old : Ref v R D G s
 x : Blk v w.heap.size 36 (boxV R cap D s)
 res : Blk v (w.heap.size + 1) 36 #[.int .i64 0, .int .u64 0, .slice none 0 0, .slice none 0 0, .int .i64 0]
 y : Blk v Y 36 (boxV R' cap' D' (Sk.new s.wide s.seed))
 new : Ref v R' D' G' (s.zalf j k)
 below : Below w.heap.size w v

theorem Aging.drew {w : World} {R cap D : Nat} {G : Nat → Nat} {s : Sk} {Y R' cap' D' : Nat} {G' : Nat → Nat} {j k : Nat} {v : World} (h : Aging w R cap D G s Y R' cap' D' G' j k v) : Aging w R cap D G s Y R' cap' D' G' j k v.drew :=
 ⟨h.old.drew, h.x, h.res, h.y, h.new.drew, h.below.drew⟩
set_option maxHeartbeats 8000000 in
set_option maxRecDepth 100000 in
theorem rage_c {s : Sk} (hf : s.Pre) {R cap D : Nat} {G : Nat → Nat} (w : World) (hR : Ref w R D G s) :
  Calls Tryz.prog 106 #[refV R cap D s] w fun e w' => ∃ R' cap' D' G', e = .returned (refV R' cap' D' s.age) ∧ Ref w' R' D' G' s.age ∧ Apart w.heap.size R' D' G' ∧ Below w.heap.size w w' := by
 have hw2 := hf.w2
 have hnew := fun W => rnew_c (seed := s.seed) hf.w2 W
 have hbx := (Blk.new w 36 (boxV R cap D s)).alloc (.cells #[.int .i64 0, .int .u64 0, .slice none 0 0, .slice none 0 0, .int .i64 0] 36)
 have hby := Blk.new (w.alloc (.cells (boxV R cap D s) 36)) 36 #[.int .i64 0, .int .u64 0, .slice none 0 0, .slice none 0 0, .int .i64 0]
 rw [World.size_alloc] at hby
 have hbw := ((Below.refl w.heap.size w).alloc (Nat.le_refl _) (.cells (boxV R cap D s) 36)).alloc (by simp) (.cells #[.int .i64 0, .int .u64 0, .slice none 0 0, .slice none 0 0, .int .i64 0] 36)
 have hRx := (hR.alloc (.cells (boxV R cap D s) 36)).alloc (.cells #[.int .i64 0, .int .u64 0, .slice none 0 0, .slice none 0 0, .int .i64 0] 36)
 have hsz : ((w.alloc (.cells (boxV R cap D s) 36)).alloc (.cells #[.int .i64 0, .int .u64 0, .slice none 0 0, .slice none 0 0, .int .i64 0] 36)).heap.size = w.heap.size + 2 := by simp
 unfold refV at hnew ⊢
 go_enter Tryz.func106, Tryz.ntmps106
 go_wp2_with fail
 refine (hnew _).mono ?_
 rintro e v1 ⟨R', cap', D', G', rfl, hN, hA, hb1⟩
 have hsz2 := hb1.size
 change ((w.alloc (.cells (boxV R cap D s) 36)).alloc (.cells #[.int .i64 0, .int .u64 0, .slice none 0 0, .slice none 0 0, .int .i64 0] 36)).heap.size ≤ v1.heap.size at hsz2
 change Apart ((w.alloc (.cells (boxV R cap D s) 36)).alloc (.cells #[.int .i64 0, .int .u64 0, .slice none 0 0, .slice none 0 0, .int .i64 0] 36)).heap.size R' D' G' at hA
 rw [hsz] at hsz2 hA
 have hAg : Aging w R cap D G s v1.heap.size R' cap' D' G' 0 0 (v1.alloc (.cells (boxV R' cap' D' (Sk.new s.wide s.seed)) 36)) :=
  ⟨(hRx.below hb1 (Nat.le_refl _)).alloc _, (hbx.below hb1 hbx.lt).alloc _, (hby.below hb1 hby.lt).alloc _, Blk.new _ _ _, (zalf_0 hf hN).alloc _, (hbw.trans (hb1.mono hbw.size)).alloc (by omega) _⟩
 have hYN : R' < v1.heap.size ∧ D' < v1.heap.size ∧ ∀ i, i < 4 → G' i < v1.heap.size := ⟨hN.lt, hN.door.lt, fun i hi => (hN.row i hi).lt⟩
 have hIn : R < w.heap.size ∧ D < w.heap.size ∧ ∀ i, i < 4 → G i < w.heap.size := ⟨hR.lt, hR.door.lt, fun i hi => (hR.row i hi).lt⟩
 clear hbx hby hbw hRx hN hb1 hnew hR
 go_wp2_with fail
 go_loopw [4] (fun i wr => ∃ j : Nat, j ≤ 4 ∧ i = .int .i64 j ∧ Aging w R cap D G s v1.heap.size R' cap' D' G' j 0 wr) (fun i _ => 4 - (intOf i).toNat)
 case atStart => exact ⟨0, by omega, rfl, hAg⟩
 case round =>
  obtain ⟨j, hj, rfl, hG⟩ := hrel
  by_cases h4 : j < 4
  ·go_wp2_with fail
   go_loopw [5] (fun i wq => ∃ k : Nat, k ≤ s.wide ∧ i = .int .i64 k ∧ Aging w R cap D G s v1.heap.size R' cap' D' G' j k wq) (fun i _ => s.wide - (intOf i).toNat)
   case atStart => exact ⟨0, by omega, rfl, hG⟩
   case round =>
    obtain ⟨k, hk, rfl, hH⟩ := hrel
    obtain ⟨x0, x1, x2, x3, x4⟩ := box_cells hH.x
    by_cases hkw : k < s.wide
    ·have hlen := hf.len j h4
     have hkl : k < (s.r j).length := by omega
     obtain ⟨y0, y1, y2, y3, y4⟩ := box_cells hH.y
     have hr := hH.old.rows j h4
     have hr' := hH.new.rows j h4
     have hwz : (s.zalf j k).wide = s.wide := rfl
     rw [hwz] at hr'
     have hc := ((hH.old.row j h4).cell k).trans (intsV_at hkl)
     have hg : (s.r j)[k]?.getD 0 = (s.r j)[k] := by rw [List.getElem?_eq_getElem hkl]; rfl
     rw [hg] at hc
     have hc' : ∃ u, wr.cell? ⟨G' j, k, none⟩ = some u := by
      have h1 := (hH.new.row j h4).cell k
      rw [zalf_r, if_neg (by omega), if_pos rfl] at h1
      exact ⟨_, h1.trans (intsV_at (by rw [halfZ_length (by omega)]; exact hkl))⟩
     obtain ⟨u, hc'⟩ := hc'
     have hz := (hH.new.row j h4).free k
     have htop := hf.top j h4 _ (List.getElem_mem hkl)
     have hGj := hA.hG j h4
     have hP : Aging w R cap D G s v1.heap.size R' cap' D' G' j (k + 1) (wr.setCell ⟨G' j, k, none⟩ (.int .i64 (((s.r j)[k] / 2 : Nat) : Int))) :=
      ⟨hH.old.far (by show R ≠ G' j; have := hIn.1; omega) (fun i hi => by show G i ≠ G' j; have := hIn.2.2 i hi; omega) (by show D ≠ G' j; have := hIn.2.1; omega) _,
        hH.x.far (by show w.heap.size ≠ G' j; omega) _, hH.res.far (by show w.heap.size + 1 ≠ G' j; omega) _, hH.y.far (by show v1.heap.size ≠ G' j; have := hYN.2.2 j h4; omega) _,
        zalf_put hA hH.new h4 hkl, hH.below.setCell (p := ⟨G' j, k, none⟩) (by show w.heap.size ≤ G' j; omega) _⟩
     generalize (s.r j)[k] = c at hc hP htop
     have hq : (((c / 2 : Nat)) : Int) = (c : Int) / 2 := by omega
     rw [hq] at hP
     clear hq hg hlen hkl hH hG
     go_wp2_with fail
     go_region
     go_wp2_with fail
     go_roundw
     case rel => exact ⟨k + 1, by omega, rfl, hP.drew⟩
     case measure => simp [intOf]; omega
    ·have hN : Aging w R cap D G s v1.heap.size R' cap' D' G' (j + 1) 0 wr := ⟨hH.old, hH.x, hH.res, hH.y, zalf_next hf (by omega) hH.new, hH.below⟩
     clear hH hG
     go_wp2_with fail
     go_roundw
     case rel => exact ⟨j + 1, by omega, rfl, hN⟩
     case measure => simp [intOf]; omega
  ·obtain rfl : j = 4 := by omega
   obtain ⟨x0, x1, x2, x3, x4⟩ := box_cells hG.x
   have hdiv : ((s.added / 2 : Nat) : Int) = (s.added : Int) / 2 := by omega
   have hadd := hf.added
   have y4 := hG.y.cell 4
   have z4 := hG.y.free 4
   have hY2 := hG.y.put 4 (.int .i64 ((s.added / 2 : Nat) : Int))
   have hX2 : Blk (wr.setCell ⟨v1.heap.size, 4, none⟩ (.int .i64 ((s.added / 2 : Nat) : Int))) (w.heap.size + 1) 36 #[.int .i64 0, .int .u64 0, .slice none 0 0, .slice none 0 0, .int .i64 0] := hG.res.far (by show w.heap.size + 1 ≠ v1.heap.size; omega) _
   have hB2 := hG.below.setCell (p := ⟨v1.heap.size, 4, none⟩) (by show w.heap.size ≤ v1.heap.size; omega) (.int .i64 ((s.added / 2 : Nat) : Int))
   have hN2 := (zalf_4 hG.new).far (p := ⟨v1.heap.size, 4, none⟩) (by show R' ≠ v1.heap.size; have := hYN.1; omega) (fun i hi => by show G' i ≠ v1.heap.size; have := hYN.2.2 i hi; omega) (by show D' ≠ v1.heap.size; have := hYN.2.1; omega) (.int .i64 ((s.added / 2 : Nat) : Int))
   rw [hdiv] at hY2 hX2 hB2 hN2
   clear hG hdiv hAg
   generalize hu : wr.setCell ⟨v1.heap.size, 4, none⟩ (.int .i64 ((s.added : Int) / 2)) = u at hY2 hX2 hB2 hN2
   have HU := Lib.hid hu
   clear hu
   have q0 := hY2.cell 0
   have q1 := hY2.cell 1
   have q2 := hY2.cell 2
   have q3 := hY2.cell 3
   have q4 := hY2.cell 4
   have r0 := hX2.cell 0
   have r1 := hX2.cell 1
   have r2 := hX2.cell 2
   have r3 := hX2.cell 3
   have r4 := hX2.cell 4
   have f0 := hX2.free 0
   have f1 := hX2.free 1
   have f2 := hX2.free 2
   have f3 := hX2.free 3
   have f4 := hX2.free 4
   unfold boxV at q0 q1 q2 q3 q4 y4
   simp only [List.getElem?_toArray, List.getElem?_cons_zero, List.getElem?_cons_succ, List.setIfInBounds_toArray, List.set_cons_zero, List.set_cons_succ] at q0 q1 q2 q3 q4 r0 r1 r2 r3 r4 y4
   have ew : (Sk.new s.wide s.seed).wide = s.wide := rfl
   have es : (Sk.new s.wide s.seed).seed = s.seed := rfl
   rw [ew] at q0 q3
   rw [es] at q1
   have hRF := fill5_ref hN2 (B := w.heap.size + 1) (by have := hA.hR; omega) (fun i hi => by have := hA.hG i hi; omega) (by have := hA.hD; omega) (.int .i64 s.wide) (.int .u64 s.seed) (.slice (some ⟨R', 0, none⟩) 4 cap') (.slice (some ⟨D', 0, none⟩) s.wide s.wide) (.int .i64 ((s.added : Int) / 2))
   have hBF := fill5_below hB2 (B := w.heap.size + 1) (by omega) (.int .i64 s.wide) (.int .u64 s.seed) (.slice (some ⟨R', 0, none⟩) 4 cap') (.slice (some ⟨D', 0, none⟩) s.wide s.wide) (.int .i64 ((s.added : Int) / 2))
   have hCF := fill5_blk hX2 (.int .i64 s.wide) (.int .u64 s.seed) (.slice (some ⟨R', 0, none⟩) 4 cap') (.slice (some ⟨D', 0, none⟩) s.wide s.wide) (.int .i64 ((s.added : Int) / 2))
   generalize hu : fill5 u (w.heap.size + 1) (.int .i64 s.wide) (.int .u64 s.seed) (.slice (some ⟨R', 0, none⟩) 4 cap') (.slice (some ⟨D', 0, none⟩) s.wide s.wide) (.int .i64 ((s.added : Int) / 2)) = u2 at hRF hBF hCF
   have HU2 := Lib.hid hu
   unfold fill5 at HU2
   clear hu
   go_upto_region 10 with (fail)
   rw [HU.out]
   go_wp2_with fail
   rw [HU2.out]
   have p0 := hCF.cell 0
   have p1 := hCF.cell 1
   have p2 := hCF.cell 2
   have p3 := hCF.cell 3
   have p4 := hCF.cell 4
   simp only [gA, gB, gC] at p0 p1 p2 p3 p4
   refine bodyPost_ret (v := refV R' cap' D' s.age) (by simp [results, Tryz.results106, go_sem, p0, p1, p2, p3, p4]; rfl) rfl ?_
   exact ⟨R', cap', D', G', rfl, hRF, hA.low (by omega), hBF⟩
end Go.Proofs.YtncgfnocokippaaGreat.Sketchy
