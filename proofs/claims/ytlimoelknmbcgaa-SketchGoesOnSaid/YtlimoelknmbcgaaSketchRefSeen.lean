/- The document's own sketch (layer 5): what reads one: least, Seen. Nothing that was there turns. -/
import Derived.Test.YtlimoelknmbcgaaSketchRef
import Derived.Deep.DeepCutAuto
namespace Go.Proofs.Ytlimoelknmbcgaa.Sketchy
open Go.ChangeShapes Go.WideShapes Go.ChangeAt Go.RowKit
open Wirey (Blk Row str str_size str_list Kp)

theorem keep_c {x y : World} {b i : Nat} {v : Value} (h : x.cell? ⟨b, i, none⟩ = some v) (hb : Below x.heap.size x y) : y.cell? ⟨b, i, none⟩ = some v :=
  (World.cell?_of_block (hb.block b (World.block_lt_of_cell? x _ h))).trans h
theorem below_step {w x y : World} (h : Below w.heap.size w x) (hb : Below x.heap.size x y) : Below w.heap.size w y := h.trans (hb.mono h.size)
theorem keep7 {w x y : World} {b0 b1 b2 b3 b4 b5 b6 i0 i1 i2 i3 i4 i5 i6 : Nat} {u0 u1 u2 u3 u4 u5 u6 : Value}
    (hS : x.cell? ⟨b0, i0, none⟩ = some u0 ∧ x.cell? ⟨b1, i1, none⟩ = some u1 ∧ x.cell? ⟨b2, i2, none⟩ = some u2 ∧ x.cell? ⟨b3, i3, none⟩ = some u3 ∧ x.cell? ⟨b4, i4, none⟩ = some u4 ∧ x.cell? ⟨b5, i5, none⟩ = some u5 ∧ x.cell? ⟨b6, i6, none⟩ = some u6 ∧ Below w.heap.size w x)
    (hb : Below x.heap.size x y) :
    y.cell? ⟨b0, i0, none⟩ = some u0 ∧ y.cell? ⟨b1, i1, none⟩ = some u1 ∧ y.cell? ⟨b2, i2, none⟩ = some u2 ∧ y.cell? ⟨b3, i3, none⟩ = some u3 ∧ y.cell? ⟨b4, i4, none⟩ = some u4 ∧ y.cell? ⟨b5, i5, none⟩ = some u5 ∧ y.cell? ⟨b6, i6, none⟩ = some u6 ∧ Below w.heap.size w y :=
  ⟨keep_c hS.1 hb, keep_c hS.2.1 hb, keep_c hS.2.2.1 hb, keep_c hS.2.2.2.1 hb, keep_c hS.2.2.2.2.1 hb, keep_c hS.2.2.2.2.2.1 hb, keep_c hS.2.2.2.2.2.2.1 hb, below_step hS.2.2.2.2.2.2.2 hb⟩
theorem keep7d {w x : World} {b0 b1 b2 b3 b4 b5 b6 i0 i1 i2 i3 i4 i5 i6 : Nat} {u0 u1 u2 u3 u4 u5 u6 : Value}
    (hS : x.cell? ⟨b0, i0, none⟩ = some u0 ∧ x.cell? ⟨b1, i1, none⟩ = some u1 ∧ x.cell? ⟨b2, i2, none⟩ = some u2 ∧ x.cell? ⟨b3, i3, none⟩ = some u3 ∧ x.cell? ⟨b4, i4, none⟩ = some u4 ∧ x.cell? ⟨b5, i5, none⟩ = some u5 ∧ x.cell? ⟨b6, i6, none⟩ = some u6 ∧ Below w.heap.size w x) :
    x.drew.cell? ⟨b0, i0, none⟩ = some u0 ∧ x.drew.cell? ⟨b1, i1, none⟩ = some u1 ∧ x.drew.cell? ⟨b2, i2, none⟩ = some u2 ∧ x.drew.cell? ⟨b3, i3, none⟩ = some u3 ∧ x.drew.cell? ⟨b4, i4, none⟩ = some u4 ∧ x.drew.cell? ⟨b5, i5, none⟩ = some u5 ∧ x.drew.cell? ⟨b6, i6, none⟩ = some u6 ∧ Below w.heap.size w x.drew :=
  ⟨hS.1, hS.2.1, hS.2.2.1, hS.2.2.2.1, hS.2.2.2.2.1, hS.2.2.2.2.2.1, hS.2.2.2.2.2.2.1, hS.2.2.2.2.2.2.2.drew⟩
theorem keep7b {w x : World} {b0 b1 b2 b3 b4 b5 b6 i0 i1 i2 i3 i4 i5 i6 : Nat} {u0 u1 u2 u3 u4 u5 u6 : Value}
    (hS : x.cell? ⟨b0, i0, none⟩ = some u0 ∧ x.cell? ⟨b1, i1, none⟩ = some u1 ∧ x.cell? ⟨b2, i2, none⟩ = some u2 ∧ x.cell? ⟨b3, i3, none⟩ = some u3 ∧ x.cell? ⟨b4, i4, none⟩ = some u4 ∧ x.cell? ⟨b5, i5, none⟩ = some u5 ∧ x.cell? ⟨b6, i6, none⟩ = some u6 ∧ Below w.heap.size w x) : Below w.heap.size w x := hS.2.2.2.2.2.2.2

/-- The cells of a sketch's value. -/
def boxV (R cap D : Nat) (s : Sk) : Array Value := #[.int .i64 (s.wide : Int), .int .u64 (s.seed : Int), .slice (some ⟨R, 0, none⟩) 4 cap, .slice (some ⟨D, 0, none⟩) s.wide s.wide, .int .i64 (s.added : Int)]
theorem box_cells {w : World} {X R cap D : Nat} {s : Sk} (h : Blk w X 28 (boxV R cap D s)) :
    w.cell? ⟨X, 0, none⟩ = some (.int .i64 (s.wide : Int)) ∧ w.cell? ⟨X, 1, none⟩ = some (.int .u64 (s.seed : Int)) ∧ w.cell? ⟨X, 2, none⟩ = some (.slice (some ⟨R, 0, none⟩) 4 cap) ∧ w.cell? ⟨X, 3, none⟩ = some (.slice (some ⟨D, 0, none⟩) s.wide s.wide) ∧ w.cell? ⟨X, 4, none⟩ = some (.int .i64 (s.added : Int)) :=
  ⟨h.cell 0, h.cell 1, h.cell 2, h.cell 3, h.cell 4⟩

set_option maxHeartbeats 8000000 in
set_option maxRecDepth 100000 in
theorem rleast_c {s : Sk} (hf : s.Pre) {R cap D : Nat} {G : Nat → Nat} (l : List UInt8) (hl : l.length ≤ 1099511627776) (w : World) (hR : Ref w R D G s) :
    Calls Try.prog 27 #[refV R cap D s, .string (str l)] w fun e w' => e = .returned (.int .i64 (s.lst (ksOf (Mixy.text s.seed l) s.wide) 4 : Int)) ∧ Below w.heap.size w w' := by
  have hpl := fun (i : Nat) (W : World) => rplace_c hf R cap D l hl i W
  have hkl := fun i => ksOf_lt (h := Mixy.text s.seed l) hf.w1 i
  obtain ⟨ks, hks⟩ : ∃ ks, ks = ksOf (Mixy.text s.seed l) s.wide := ⟨_, rfl⟩
  rw [← hks] at hpl hkl ⊢
  clear hks
  have hbx := (Blk.new w 28 (boxV R cap D s))
  have hbw := (Below.refl w.heap.size w).alloc (Nat.le_refl _) (.cells (boxV R cap D s) 28)
  have hRx := hR.alloc (.cells (boxV R cap D s) 28)
  unfold refV at hpl ⊢
  go_enter Try.func27, Try.ntmps27
  go_wp2_with fail
  go_loopw [5, 6] (fun m i wr => ∃ j : Nat, j ≤ 4 ∧ i = .int .i64 j ∧ m = .int .i64 (s.lst ks j : Int) ∧ Blk wr w.heap.size 28 (boxV R cap D s) ∧ Below w.heap.size w wr ∧ Ref wr R D G s) (fun _ i _ => 4 - (intOf i).toNat)
  case atStart => exact ⟨0, by omega, rfl, rfl, hbx, hbw, hRx⟩
  case round =>
    obtain ⟨j, hj, rfl, rfl, hX, hW, hU⟩ := hrel
    have hlst := Sk.lst_le (s := s) (ks := ks) j
    by_cases h4 : j < 4
    · have hc := hU.cnt hf (ks := ks) h4 (hkl j)
      have hr := hU.rows j h4
      have hcl := hf.cnt_le (ks := ks) h4
      have hkj := hkl j
      have hw2 := hf.w2
      obtain ⟨x0, x1, x2, x3, x4⟩ := box_cells hX
      have hmin : s.lst ks (j + 1) = min (s.lst ks j) (s.cnt ks j) := rfl
      have HM := Lib.hid hmin
      have HX := Lib.hid hX
      have HU := Lib.hid hU
      have HW := Lib.hid hW
      have hbr := (Below.refl wr.heap.size wr).drew
      have hp := fun W => hpl j W
      clear hpl hkl hmin hX hU hW hR hRx hbx hbw
      generalize ks j = k at hc hkj hp
      go_wp2_with fail
      go_region_held3 (fun w' => w'.cell? ⟨w.heap.size, 0, none⟩ = some (.int .i64 (s.wide : Int)) ∧ w'.cell? ⟨w.heap.size, 1, none⟩ = some (.int .u64 (s.seed : Int)) ∧ w'.cell? ⟨w.heap.size, 2, none⟩ = some (.slice (some ⟨R, 0, none⟩) 4 cap) ∧ w'.cell? ⟨w.heap.size, 3, none⟩ = some (.slice (some ⟨D, 0, none⟩) s.wide s.wide) ∧ w'.cell? ⟨w.heap.size, 4, none⟩ = some (.int .i64 (s.added : Int)) ∧ w'.cell? ⟨R, j, none⟩ = some (.slice (some ⟨G j, 0, none⟩) s.wide s.wide) ∧ w'.cell? ⟨G j, k, none⟩ = some (.int .i64 (s.cnt ks j : Int)) ∧ Below wr.heap.size wr w')
        (first | exact ⟨x0, x1, x2, x3, x4, hr, hc, hbr⟩ | exact keep7 (by assumption) (by assumption) | exact keep7d (by assumption) | go_keep)
        (first | (go_at_call 28; refine (hp _).mono ?_; rintro e v ⟨rfl, hv⟩))
      have hbv : Below wr.heap.size wr v := keep7b (by assumption)
      have hX2 := HX.out.below hbv HX.out.lt
      have hU2 := HU.out.below hbv (Nat.le_refl _)
      have hW2 := below_step HW.out hbv
      have hj1 : j + 1 ≤ 4 := by omega
      by_cases hlt : s.cnt ks j < s.lst ks j
      · have hm : s.lst ks (j + 1) = s.cnt ks j := by rw [HM.out]; omega
        have HM2 := Lib.hid hm
        have hlt2 : (s.cnt ks j : Int) < (s.lst ks j : Int) := by omega
        clear hm
        go_wp2_with fail
        go_roundw
        case rel => exact ⟨j + 1, hj1, rfl, by rw [HM2.out], hX2, hW2, hU2⟩
        case measure => simp [intOf]; omega
      · have hm : s.lst ks (j + 1) = s.lst ks j := by rw [HM.out]; omega
        have HM2 := Lib.hid hm
        have hlt2 : ¬ (s.cnt ks j : Int) < (s.lst ks j : Int) := by omega
        clear hm
        go_wp2_with fail
        go_roundw
        case rel => exact ⟨j + 1, hj1, rfl, by rw [HM2.out], hX2, hW2, hU2⟩
        case measure => simp [intOf]; omega
    · obtain rfl : j = 4 := by omega
      go_wp2_with fail
      go_ret
      exact ⟨rfl, hW⟩

set_option maxHeartbeats 8000000 in
set_option maxRecDepth 100000 in
theorem rseen_c {s : Sk} (hf : s.Pre) {R cap D : Nat} {G : Nat → Nat} (l : List UInt8) (hl : l.length ≤ 1099511627776) (w : World) (hR : Ref w R D G s) :
    Calls Try.prog 12 #[refV R cap D s, .string (str l)] w fun e w' => e = .returned (.int .i64 (s.seen (ksOf (Mixy.text s.seed l) s.wide) : Int)) ∧ Below w.heap.size w w' := by
  have hpl := fun (W : World) => rplace_c hf R cap D l hl 4 W
  have hkl := ksOf_lt (h := Mixy.text s.seed l) hf.w1 4
  have hle := fun (W : World) (h : Ref W R D G s) => rleast_c hf (cap := cap) l hl W h
  obtain ⟨ks, hks⟩ : ∃ ks, ks = ksOf (Mixy.text s.seed l) s.wide := ⟨_, rfl⟩
  rw [← hks] at hpl hkl hle ⊢
  clear hks
  have hbx := (Blk.new w 28 (boxV R cap D s))
  have hbw := (Below.refl w.heap.size w).alloc (Nat.le_refl _) (.cells (boxV R cap D s) 28)
  have hRx := hR.alloc (.cells (boxV R cap D s) 28)
  have hlst := Sk.lst_le (s := s) (ks := ks) 4
  have hs0 : s.bit ks = false → s.seen ks = s.lst ks 4 := fun hb => by rw [Sk.seen, hb]; rfl
  have hs1 : s.bit ks = true → s.seen ks = s.lst ks 4 + 1 := fun hb => by rw [Sk.seen, hb]; rfl
  have HS0 := Lib.hid hs0
  have HS1 := Lib.hid hs1
  have hw2 := hf.w2
  unfold refV at hpl hle ⊢
  clear hs0 hs1
  go_enter Try.func12, Try.ntmps12
  go_wp2_with fail
  refine (hle _ hRx).mono ?_
  rintro e wr ⟨rfl, hb1⟩
  have hU := hRx.below hb1 (Nat.le_refl _)
  have hX := hbx.below hb1 hbx.lt
  have hW := hbw.trans (hb1.mono hbw.size)
  obtain ⟨x0, x1, x2, x3, x4⟩ := box_cells hX
  have hc := hU.bit hf (ks := ks) hkl
  have hbr := (Below.refl wr.heap.size wr).drew
  have HX := Lib.hid hX
  have HU := Lib.hid hU
  have HW := Lib.hid hW
  clear hle hX hU hW hR hRx hbx hbw hb1
  generalize ks 4 = k at hc hkl hpl
  rcases Bool.eq_false_or_eq_true (s.bit ks) with hb | hb
  · have HS := Lib.hid (HS1.out hb)
    rw [hb] at hc
    clear hb
    go_wp2_with fail
    go_region_held3 (fun w' => w'.cell? ⟨w.heap.size, 0, none⟩ = some (.int .i64 (s.wide : Int)) ∧ w'.cell? ⟨w.heap.size, 1, none⟩ = some (.int .u64 (s.seed : Int)) ∧ w'.cell? ⟨w.heap.size, 2, none⟩ = some (.slice (some ⟨R, 0, none⟩) 4 cap) ∧ w'.cell? ⟨w.heap.size, 3, none⟩ = some (.slice (some ⟨D, 0, none⟩) s.wide s.wide) ∧ w'.cell? ⟨w.heap.size, 4, none⟩ = some (.int .i64 (s.added : Int)) ∧ w'.cell? ⟨D, k, none⟩ = some (.bool true) ∧ w'.cell? ⟨D, k, none⟩ = some (.bool true) ∧ Below wr.heap.size wr w')
      (first | exact ⟨x0, x1, x2, x3, x4, hc, hc, hbr⟩ | exact keep7 (by assumption) (by assumption) | exact keep7d (by assumption) | go_keep)
      (first | (go_at_call 28; refine (hpl _).mono ?_; rintro e v ⟨rfl, hv⟩))
    have hbv : Below wr.heap.size wr v := keep7b (by assumption)
    have hW2 := below_step HW.out hbv
    go_wp2_with fail
    go_ret
    exact ⟨by rw [HS.out]; rfl, hW2⟩
  · have HS := Lib.hid (HS0.out hb)
    rw [hb] at hc
    clear hb
    go_wp2_with fail
    go_region_held3 (fun w' => w'.cell? ⟨w.heap.size, 0, none⟩ = some (.int .i64 (s.wide : Int)) ∧ w'.cell? ⟨w.heap.size, 1, none⟩ = some (.int .u64 (s.seed : Int)) ∧ w'.cell? ⟨w.heap.size, 2, none⟩ = some (.slice (some ⟨R, 0, none⟩) 4 cap) ∧ w'.cell? ⟨w.heap.size, 3, none⟩ = some (.slice (some ⟨D, 0, none⟩) s.wide s.wide) ∧ w'.cell? ⟨w.heap.size, 4, none⟩ = some (.int .i64 (s.added : Int)) ∧ w'.cell? ⟨D, k, none⟩ = some (.bool false) ∧ w'.cell? ⟨D, k, none⟩ = some (.bool false) ∧ Below wr.heap.size wr w')
      (first | exact ⟨x0, x1, x2, x3, x4, hc, hc, hbr⟩ | exact keep7 (by assumption) (by assumption) | exact keep7d (by assumption) | go_keep)
      (first | (go_at_call 28; refine (hpl _).mono ?_; rintro e v ⟨rfl, hv⟩))
    have hbv : Below wr.heap.size wr v := keep7b (by assumption)
    have hW2 := below_step HW.out hbv
    go_wp2_with fail
    go_ret
    exact ⟨by rw [HS.out]; rfl, hW2⟩
end Go.Proofs.Ytlimoelknmbcgaa.Sketchy
