/- Layer 16 (cell): for every input the call returns true and leaves what it was given as it was: what is chosen only goes on: a cell learns views of greater numbers alone, and forgets the ballots of the one that was to come (CellLearns). No condition. -/
import Derived.Test.YtigkocdjllfhnaaCellAwake
import Derived.Test.YtigkocdjllfhnaaCellOpen
import Derived.Test.YtigkocdjllfhnaaKit
import Derived.Test.YtigkocdjllfhnaaRows
namespace Go.Proofs.Ytigkocdjllfhnaa.Celly
open Go.ChangeShapes Go.WideShapes Go.ChangeAt Go.RowKit
open Wirey (Blk Row Kp)
open Regy
theorem learn_same (c : Ce) : c.learn c.ch = c := by
  unfold Ce.learn Ce.learns
  rw [decide_eq_false (fun h => Nat.lt_irrefl _ h.2)]
  rfl
theorem prep_same {c : Ce} {n : Nat} (h : c.most < n) : c.preps c.ch n = true ∧ c.prep c.ch n = ⟨c.ch, n, c.bal, c.val⟩ := by
  have h1 : c.preps c.ch n = true := by
    unfold Ce.preps
    rw [learn_same]
    exact decide_eq_true ⟨rfl, h⟩
  refine ⟨h1, ?_⟩
  unfold Ce.prep
  rw [h1, learn_same]
  rfl
theorem may_ne {x : Vw} (h : May x) : x ≠ noV := by
  rintro rfl
  exact h.1 rfl
theorem field_ok (c : Ce) (ok : Bool) (w : World) : (Instr.field PT (.agg (c.told ok)) 0).run Try.prog w = .ok (.bool ok) w := by kernel_rfl
theorem chosen_new {w : World} {b : Nat} {y : Vw} (h : Blk w b CT (Ce.new y).cs) (hne : (Ce.new y).ch ≠ noV) : Calls Try.prog 19 #[cp b] w fun e w' => e = .returned (.agg y.cs) ∧ Below w.heap.size w w' := chosen_c h hne
theorem chosen_mk {w : World} {b m n : Nat} {x y : Vw} (h : Blk w b CT (Ce.mk x m n y).cs) (hne : (Ce.mk x m n y).ch ≠ noV) : Calls Try.prog 19 #[cp b] w fun e w' => e = .returned (.agg x.cs) ∧ Below w.heap.size w w' := chosen_c h hne
/-- What lies in memory by then: a cell, and a view that was told. -/
structure Le (w0 w : World) (b : Nat) (c : Ce) : Prop where
  cell : Blk w b CT c.cs
  bel : Below w0.heap.size w0 w
  lo : w0.heap.size ≤ b
theorem Le.kp {w0 w w' : World} {b : Nat} {c c' : Ce} (h : Le w0 w b c) (hc : Blk w' b CT c'.cs) (hk : Kp (fun k => k = b) w w') : Le w0 w' b c' :=
  ⟨hc, Kp.low hk h.bel (fun k e => by rw [e]; exact h.lo), h.lo⟩
theorem Le.below {w0 w w' : World} {b : Nat} {c : Ce} (h : Le w0 w b c) (hb : Below w.heap.size w w') : Le w0 w' b c := h.kp (h.cell.below hb h.cell.lt) (Kp.of_below hb)
theorem Le.alloc {w0 w : World} {b : Nat} {c : Ce} (h : Le w0 w b c) (o : Obj) : Le w0 (w.alloc o) b c := h.below ((Below.refl _ w).alloc (Nat.le_refl _) o)
theorem Le.row {w0 w : World} {b p : Nat} {c : Ce} (h : Le w0 w b c) (hp : w0.heap.size ≤ p) (hne : b ≠ p) (cs : Array Value) : Le w0 (w.setRow p cs) b c :=
  ⟨(setRow_other w p b cs hne).trans h.cell, row_below h.bel hp _, h.lo⟩
set_option maxHeartbeats 20000000 in
set_option maxRecDepth 100000 in
theorem cellLearns_walk (ao : Option Addr) (len cap sb off : Nat) (X : Nat → Vw) (w0 : World) (hI : Vws w0 ao len sb off X) :
    Calls Try.prog 5 #[.slice ao len cap] w0 fun e w' => e = .returned (.bool true) ∧ Below w0.heap.size w0 w' := by
  have hat := hI.at_
  have hIl := hI.lt
  have hbig := hI.big
  have HI := Lib.hid hI
  clear hI
  go_enter Try.func5, Try.ntmps5
  go_wp2_with fail
  refine (first_c _).mono ?_
  rintro e w2 ⟨rfl, hb⟩
  go_wp2_with fail
  refine (new_ok (x := firstV) may_first _).mono ?_
  rintro e w3 ⟨b, rfl, hbl, hc, hbn⟩
  have hb0 : w0.heap.size ≤ b := Nat.le_trans hb.size hbl
  replace hb := hb.trans (hbn.mono hb.size)
  clear hbn hbl
  go_wp2_with fail
  refine (awake_c _).mono ?_
  rintro e w4 ⟨rfl, hbn⟩
  have hL : Le w0 w4 b (Ce.new firstV) := (Le.mk hc hb hb0).below hbn
  clear hc hb hb0 hbn
  go_wp2_with fail
  go_loopw [5, 6] (fun vm vi wr => ∃ (j m : Nat) (c : Ce), j ≤ len ∧ vi = .int .i64 j ∧ vm = .int .u64 m ∧ j ≤ 30 ∧ m ≤ j ∧ Hid (c.ch ≠ noV) ∧ Hid (c.most ≤ m) ∧ Le w0 wr b c) (fun _ v _ => len - (intOf v).toNat)
  case atStart => exact ⟨0, 0, Ce.new firstV, by omega, rfl, rfl, by omega, by omega, Lib.hid first_ne, Lib.hid (Nat.le_refl 0), hL⟩
  case round =>
    clear hL
    obtain ⟨j, m, c, hj, rfl, rfl, hj30, hmj, HN, HM, hL⟩ := hrel
    by_cases hjl : j < len
    · have hlt1 : decide ((j : Int) < (len : Int)) = true := decide_eq_true (by omega)
      have hlt2 : decide (j < len) = true := decide_eq_true hjl
      have hlt3 : (j : Int) < (len : Int) := by omega
      obtain rfl := hat (by omega)
      by_cases h30 : j < 30
      · have h31 : decide ((j : Int) < 30) = true := decide_eq_true (by omega)
        have h32 : decide (j < 30) = true := decide_eq_true h30
        have h33 : (j : Int) < 30 := by omega
        have hwm : IntKind.u64.wrap ((m : Int) + 1) = (m : Int) + 1 := by rw [IntKind.wrap_u64]; omega
        obtain ⟨y, hy⟩ : ∃ y, y = X j := ⟨_, rfl⟩
        have hel : ∀ W, Below w0.heap.size w0 W → ∀ k, k < 6 → W.cell? ⟨sb, off + j * 6 + k, none⟩ = y.enc[k]? := fun W hb k hk => by
          rw [hy]
          exact (World.cell?_of_block (a := ⟨sb, off + j * 6 + k, none⟩) (hb.block sb (hIl (by omega)))).trans (HI.out.cell j hjl k hk)
        clear hy
        go_wp2_with fail
        refine (chosen_c hL.cell HN.out).mono ?_
        rintro e w5 ⟨rfl, hbn⟩
        replace hL := hL.below hbn
        clear hbn
        have hZ0 := Blk.new w5 VT #[.int .u64 0, .int .i64 0, .int .u64 0, .int .i64 0, .int .u64 0, .int .u64 0]
        have hbz := hL.cell.lt
        have hlz : w0.heap.size ≤ w5.heap.size := hL.bel.size
        replace hL := hL.alloc (.cells #[.int .u64 0, .int .i64 0, .int .u64 0, .int .i64 0, .int .u64 0, .int .u64 0] VT)
        have hst : (storeVar VT ⟨w5.heap.size, 0, none⟩ (.agg c.ch.cs)).run Try.prog (w5.alloc (.cells #[.int .u64 0, .int .i64 0, .int .u64 0, .int .i64 0, .int .u64 0, .int .u64 0] VT)) = .ok () ((w5.alloc (.cells #[.int .u64 0, .int .i64 0, .int .u64 0, .int .i64 0, .int .u64 0, .int .u64 0] VT)).setRow w5.heap.size c.ch.cs) := store_row info_VT hZ0 rfl (all_one (Vw.one _))
        have hZ : Blk ((w5.alloc (.cells #[.int .u64 0, .int .i64 0, .int .u64 0, .int .i64 0, .int .u64 0, .int .u64 0] VT)).setRow w5.heap.size c.ch.cs) w5.heap.size VT c.ch.cs := setRow_heap _ _ _ _ _ (0, 0) hZ0
        replace hL := hL.row (p := w5.heap.size) hlz (by omega) c.ch.cs
        go_upto_region 9 with (refine step_store VT (.tmp 7) (.tmp 32) ⟨w5.heap.size, 0, none⟩ (.agg c.ch.cs) rfl rfl rfl rfl rfl hst ?_)
        clear hst hZ0
        generalize (w5.alloc (.cells #[.int .u64 0, .int .i64 0, .int .u64 0, .int .i64 0, .int .u64 0, .int .u64 0] VT)).setRow w5.heap.size c.ch.cs = w6 at *
        generalize w5.heap.size = z at *
        have z0 : w6.cell? ⟨z, 0, none⟩ = some (.int .u64 (c.ch.v : Int)) := hZ.cell 0
        have z1 : w6.cell? ⟨z, 1, none⟩ = some (.int .i64 c.ch.pr) := hZ.cell 1
        have z2 : w6.cell? ⟨z, 2, none⟩ = some (.int .u64 (c.ch.pl : Int)) := hZ.cell 2
        have z3 : w6.cell? ⟨z, 3, none⟩ = some (.int .i64 c.ch.ba) := hZ.cell 3
        have z4 : w6.cell? ⟨z, 4, none⟩ = some (.int .u64 (c.ch.bl : Int)) := hZ.cell 4
        have z5 : w6.cell? ⟨z, 5, none⟩ = some (.int .u64 (c.ch.ep : Int)) := hZ.cell 5
        have hpr : Calls Try.prog 10 #[cp b, .agg c.ch.cs, .int .u64 ((m : Int) + 1)] w6 fun e w' => e = .returned (.agg ((Ce.mk c.ch (m + 1) c.bal c.val).told true)) ∧ Blk w' b CT (Ce.mk c.ch (m + 1) c.bal c.val).cs ∧ Kp (fun k => k = b) w6 w' := by
          have h1 := prep_c (x := c.ch) (m + 1) hL.cell HN.out
          obtain ⟨e1, e2⟩ := prep_same (c := c) (n := m + 1) (by have := HM.out; omega)
          rw [e1, e2] at h1
          exact h1
        have hfld : ∀ w, (Op.equalIn 10000 VT (.agg c.ch.cs) (.agg c.ch.cs)).run Try.prog w = .ok true w := fun w => eq_yes _ w
        have hflds : ∀ w, (Op.equalIn 10000 VT (.agg y.cs) (.agg y.cs)).run Try.prog w = .ok true w := fun w => eq_yes _ w
        go_wp2_with fail
        refine hpr.mono ?_
        rintro e w7 ⟨rfl, hc7, hk7⟩
        have hL7 := hL.kp hc7 hk7
        have hZ7 := hk7.blk hZ (by omega)
        have hbz7 : b ≠ z := by omega
        have HNC : Hid ((Ce.mk c.ch (m + 1) c.bal c.val).ch ≠ noV) := Lib.hid HN.out
        clear hpr hL hZ hc7 hk7 z0 z1 z2 z3 z4 z5
        have hfd := field_ok (Ce.mk c.ch (m + 1) c.bal c.val) true
        have l0 : w7.cell? ⟨sb, off + j * 6, none⟩ = some (.int .u64 (y.v : Int)) := hel w7 hL7.bel 0 (by decide)
        have l1 : w7.cell? ⟨sb, off + j * 6 + 1, none⟩ = some (.int .i64 y.pr) := hel w7 hL7.bel 1 (by decide)
        have l2 : w7.cell? ⟨sb, off + j * 6 + 2, none⟩ = some (.int .u64 (y.pl : Int)) := hel w7 hL7.bel 2 (by decide)
        have l3 : w7.cell? ⟨sb, off + j * 6 + 3, none⟩ = some (.int .i64 y.ba) := hel w7 hL7.bel 3 (by decide)
        have l4 : w7.cell? ⟨sb, off + j * 6 + 4, none⟩ = some (.int .u64 (y.bl : Int)) := hel w7 hL7.bel 4 (by decide)
        have l5 : w7.cell? ⟨sb, off + j * 6 + 5, none⟩ = some (.int .u64 (y.ep : Int)) := hel w7 hL7.bel 5 (by decide)
        go_wp2_with fail
        refine (learn_c (x := y) hL7.cell HNC.out).mono ?_
        rintro e w8 ⟨rfl, hc8, hk8⟩
        have hL8 := hL7.kp hc8 hk8
        have hZ8 := hk8.blk hZ7 (Ne.symm hbz7)
        clear hL7 hZ7 hc8 hk8 hfd l0 l1 l2 l3 l4 l5
        go_upto_region 13 with (fail)
        by_cases hm : May y
        · by_cases hv : c.ch.v < y.v
          · have hvc := hv
            have e1 : (Ce.mk c.ch (m + 1) c.bal c.val).learns y = true := decide_eq_true ⟨hm, hv⟩
            have e2 : (Ce.mk c.ch (m + 1) c.bal c.val).learn y = Ce.new y := by unfold Ce.learn; rw [e1]; rfl
            rw [e1]
            rw [e2] at hL8
            clear e1 e2
            have dm : decide (May y) = true := decide_eq_true hm
            have d1 : decide ((c.ch.v : Int) < (y.v : Int)) = true := decide_eq_true (by omega)
            have d2 : decide (c.ch.v < y.v) = true := decide_eq_true hv
            have HNY : Hid ((Ce.new y).ch ≠ noV) := Lib.hid (may_ne hm)
            have hZ8d : Blk w8.drew z VT c.ch.cs := hZ8
            have hL8d : Le w0 w8.drew b (Ce.new y) := hL8.below (Below.drew (Below.refl _ w8))
            have l0 : w8.drew.cell? ⟨sb, off + j * 6, none⟩ = some (.int .u64 (y.v : Int)) := hel w8.drew hL8d.bel 0 (by decide)
            have l1 : w8.drew.cell? ⟨sb, off + j * 6 + 1, none⟩ = some (.int .i64 y.pr) := hel w8.drew hL8d.bel 1 (by decide)
            have l2 : w8.drew.cell? ⟨sb, off + j * 6 + 2, none⟩ = some (.int .u64 (y.pl : Int)) := hel w8.drew hL8d.bel 2 (by decide)
            have l3 : w8.drew.cell? ⟨sb, off + j * 6 + 3, none⟩ = some (.int .i64 y.ba) := hel w8.drew hL8d.bel 3 (by decide)
            have l4 : w8.drew.cell? ⟨sb, off + j * 6 + 4, none⟩ = some (.int .u64 (y.bl : Int)) := hel w8.drew hL8d.bel 4 (by decide)
            have l5 : w8.drew.cell? ⟨sb, off + j * 6 + 5, none⟩ = some (.int .u64 (y.ep : Int)) := hel w8.drew hL8d.bel 5 (by decide)
            have z0 : w8.drew.cell? ⟨z, 0, none⟩ = some (.int .u64 (c.ch.v : Int)) := hZ8d.cell 0
            have z1 : w8.drew.cell? ⟨z, 1, none⟩ = some (.int .i64 c.ch.pr) := hZ8d.cell 1
            have z2 : w8.drew.cell? ⟨z, 2, none⟩ = some (.int .u64 (c.ch.pl : Int)) := hZ8d.cell 2
            have z3 : w8.drew.cell? ⟨z, 3, none⟩ = some (.int .i64 c.ch.ba) := hZ8d.cell 3
            have z4 : w8.drew.cell? ⟨z, 4, none⟩ = some (.int .u64 (c.ch.bl : Int)) := hZ8d.cell 4
            have z5 : w8.drew.cell? ⟨z, 5, none⟩ = some (.int .u64 (c.ch.ep : Int)) := hZ8d.cell 5
            have mk : ∀ W, Below w8.drew.heap.size w8.drew W → W.cell? ⟨sb, off + j * 6, none⟩ = some (.int .u64 (y.v : Int)) ∧ W.cell? ⟨sb, off + j * 6 + 1, none⟩ = some (.int .i64 y.pr) ∧ W.cell? ⟨sb, off + j * 6 + 2, none⟩ = some (.int .u64 (y.pl : Int)) ∧ W.cell? ⟨sb, off + j * 6 + 3, none⟩ = some (.int .i64 y.ba) ∧ W.cell? ⟨sb, off + j * 6 + 4, none⟩ = some (.int .u64 (y.bl : Int)) ∧ W.cell? ⟨sb, off + j * 6 + 5, none⟩ = some (.int .u64 (y.ep : Int)) ∧ W.cell? ⟨z, 0, none⟩ = some (.int .u64 (c.ch.v : Int)) ∧ W.cell? ⟨z, 1, none⟩ = some (.int .i64 c.ch.pr) ∧ W.cell? ⟨z, 2, none⟩ = some (.int .u64 (c.ch.pl : Int)) ∧ W.cell? ⟨z, 3, none⟩ = some (.int .i64 c.ch.ba) ∧ W.cell? ⟨z, 4, none⟩ = some (.int .u64 (c.ch.bl : Int)) ∧ W.cell? ⟨z, 5, none⟩ = some (.int .u64 (c.ch.ep : Int)) := fun W hb => by
              have h1 := hL8d.below hb
              have h2 := hZ8d.below hb hZ8d.lt
              exact ⟨hel W h1.bel 0 (by decide), hel W h1.bel 1 (by decide), hel W h1.bel 2 (by decide), hel W h1.bel 3 (by decide), hel W h1.bel 4 (by decide), hel W h1.bel 5 (by decide), h2.cell 0, h2.cell 1, h2.cell 2, h2.cell 3, h2.cell 4, h2.cell 5⟩
            refine region_only 39 #[false, false, false, false, false, false, false, false, false, false, false, false, false, false, false, false, false, false, false, false, false, false, false, false, false, false, false, false, false, false, false, false, false, false, false, false, false, false, false] (S := (fun W => W.cell? ⟨sb, off + j * 6, none⟩ = some (.int .u64 (y.v : Int)) ∧ W.cell? ⟨sb, off + j * 6 + 1, none⟩ = some (.int .i64 y.pr) ∧ W.cell? ⟨sb, off + j * 6 + 2, none⟩ = some (.int .u64 (y.pl : Int)) ∧ W.cell? ⟨sb, off + j * 6 + 3, none⟩ = some (.int .i64 y.ba) ∧ W.cell? ⟨sb, off + j * 6 + 4, none⟩ = some (.int .u64 (y.bl : Int)) ∧ W.cell? ⟨sb, off + j * 6 + 5, none⟩ = some (.int .u64 (y.ep : Int)) ∧ W.cell? ⟨z, 0, none⟩ = some (.int .u64 (c.ch.v : Int)) ∧ W.cell? ⟨z, 1, none⟩ = some (.int .i64 c.ch.pr) ∧ W.cell? ⟨z, 2, none⟩ = some (.int .u64 (c.ch.pl : Int)) ∧ W.cell? ⟨z, 3, none⟩ = some (.int .i64 c.ch.ba) ∧ W.cell? ⟨z, 4, none⟩ = some (.int .u64 (c.ch.bl : Int)) ∧ W.cell? ⟨z, 5, none⟩ = some (.int .u64 (c.ch.ep : Int)))) rfl rfl (by kernel_rfl) ⟨l0, l1, l2, l3, l4, l5, z0, z1, z2, z3, z4, z5⟩ (fun hSw => ?_)
            refine take_at 0 47 (fuel := 38) ?_ rfl rfl (by kernel_rfl) (by kernel_rfl) (by kernel_rfl) (Or.inl ⟨by rfl, ?_⟩) hSw ?_
            rotate_left
            · intro wx hSx
              (try dsimp only at hSx)
              go_split_ands
              go_simp
              (try with_reducible rfl)
            simp only [List.setIfInBounds_toArray, List.set_cons_zero, List.set_cons_succ]
            refine take_at 1 48 (fuel := 37) ?_ rfl rfl (by kernel_rfl) (by kernel_rfl) (by kernel_rfl) (Or.inl ⟨by rfl, ?_⟩) hSw ?_
            rotate_left
            · intro wx hSx
              (try dsimp only at hSx)
              go_split_ands
              go_simp
              (try with_reducible rfl)
            simp only [List.setIfInBounds_toArray, List.set_cons_zero, List.set_cons_succ]
            refine take_at 2 49 (fuel := 36) ?_ rfl rfl (by kernel_rfl) (by kernel_rfl) (by kernel_rfl) (Or.inl ⟨by rfl, ?_⟩) hSw ?_
            rotate_left
            · intro wx hSx
              (try dsimp only at hSx)
              go_split_ands
              go_simp
              (try with_reducible rfl)
            simp only [List.setIfInBounds_toArray, List.set_cons_zero, List.set_cons_succ]
            refine take_at 3 50 (fuel := 35) ?_ rfl rfl (by kernel_rfl) (by kernel_rfl) (by kernel_rfl) (Or.inl ⟨by rfl, ?_⟩) hSw ?_
            rotate_left
            · intro wx hSx
              (try dsimp only at hSx)
              go_split_ands
              go_simp
              (try with_reducible rfl)
            simp only [List.setIfInBounds_toArray, List.set_cons_zero, List.set_cons_succ]
            refine take_at 4 51 (fuel := 34) ?_ rfl rfl (by kernel_rfl) (by kernel_rfl) (by kernel_rfl) (Or.inl ⟨by rfl, ?_⟩) hSw ?_
            rotate_left
            · intro wx hSx
              (try dsimp only at hSx)
              go_split_ands
              go_simp
              (try with_reducible rfl)
            simp only [List.setIfInBounds_toArray, List.set_cons_zero, List.set_cons_succ]
            refine wpAnyH_ready (fuel := 33) (rs := [5]) (by kernel_rfl) (by simp) (AllReadyH.cons rfl (fun K hK => ?_) AllReadyH.nil)
            go_simp
            refine Calls.mono (dcheck_c y _) ?_
            rintro e wv ⟨rfl, hb2⟩
            rw [dm]
            refine hK.out _ _ (mk _ hb2) (fun hSw => ?_)
            clear hK K
            simp only [List.setIfInBounds_toArray, List.set_cons_zero, List.set_cons_succ]
            refine take_at 6 53 (fuel := 32) ?_ rfl rfl (by kernel_rfl) (by kernel_rfl) (by kernel_rfl) (Or.inl ⟨by rfl, ?_⟩) hSw ?_
            rotate_left
            · intro wx hSx
              (try dsimp only at hSx)
              go_split_ands
              go_simp
              (try with_reducible rfl)
            simp only [List.setIfInBounds_toArray, List.set_cons_zero, List.set_cons_succ]
            refine take_at 7 54 (fuel := 31) ?_ rfl rfl (by kernel_rfl) (by kernel_rfl) (by kernel_rfl) (Or.inl ⟨by rfl, ?_⟩) hSw ?_
            rotate_left
            · intro wx hSx
              (try dsimp only at hSx)
              go_split_ands
              go_simp
              (try with_reducible rfl)
            simp only [List.setIfInBounds_toArray, List.set_cons_zero, List.set_cons_succ]
            refine take_at 8 55 (fuel := 30) ?_ rfl rfl (by kernel_rfl) (by kernel_rfl) (by kernel_rfl) (Or.inl ⟨by rfl, ?_⟩) hSw ?_
            rotate_left
            · intro wx hSx
              (try dsimp only at hSx)
              go_split_ands
              go_simp
              (try with_reducible rfl)
            simp only [List.setIfInBounds_toArray, List.set_cons_zero, List.set_cons_succ]
            refine take_at 9 56 (fuel := 29) ?_ rfl rfl (by kernel_rfl) (by kernel_rfl) (by kernel_rfl) (Or.inl ⟨by rfl, ?_⟩) hSw ?_
            rotate_left
            · intro wx hSx
              (try dsimp only at hSx)
              go_split_ands
              go_simp
              (try with_reducible rfl)
            simp only [List.setIfInBounds_toArray, List.set_cons_zero, List.set_cons_succ]
            refine take_at 10 57 (fuel := 28) ?_ rfl rfl (by kernel_rfl) (by kernel_rfl) (by kernel_rfl) (Or.inl ⟨by rfl, ?_⟩) hSw ?_
            rotate_left
            · intro wx hSx
              (try dsimp only at hSx)
              go_split_ands
              go_simp
              (try with_reducible rfl)
            simp only [List.setIfInBounds_toArray, List.set_cons_zero, List.set_cons_succ]
            refine take_at 11 58 (fuel := 27) ?_ rfl rfl (by kernel_rfl) (by kernel_rfl) (by kernel_rfl) (Or.inl ⟨by rfl, ?_⟩) hSw ?_
            rotate_left
            · intro wx hSx
              (try dsimp only at hSx)
              go_split_ands
              go_simp
              (try with_reducible rfl)
            simp only [List.setIfInBounds_toArray, List.set_cons_zero, List.set_cons_succ]
            refine take_at 12 59 (fuel := 26) ?_ rfl rfl (by kernel_rfl) (by kernel_rfl) (by kernel_rfl) (Or.inl ⟨by rfl, ?_⟩) hSw ?_
            rotate_left
            · intro wx hSx
              (try dsimp only at hSx)
              go_split_ands
              go_simp
              (try with_reducible rfl)
            simp only [List.setIfInBounds_toArray, List.set_cons_zero, List.set_cons_succ]
            refine take_at 13 60 (fuel := 25) ?_ rfl rfl (by kernel_rfl) (by kernel_rfl) (by kernel_rfl) (Or.inl ⟨by rfl, ?_⟩) hSw ?_
            rotate_left
            · intro wx hSx
              (try dsimp only at hSx)
              go_split_ands
              go_simp
              (try with_reducible rfl)
            simp only [List.setIfInBounds_toArray, List.set_cons_zero, List.set_cons_succ]
            refine take_at 14 61 (fuel := 24) ?_ rfl rfl (by kernel_rfl) (by kernel_rfl) (by kernel_rfl) (Or.inl ⟨by rfl, ?_⟩) hSw ?_
            rotate_left
            · intro wx hSx
              (try dsimp only at hSx)
              go_split_ands
              go_simp
              (try with_reducible rfl)
            simp only [List.setIfInBounds_toArray, List.set_cons_zero, List.set_cons_succ]
            refine take_at 15 62 (fuel := 23) ?_ rfl rfl (by kernel_rfl) (by kernel_rfl) (by kernel_rfl) (Or.inl ⟨by rfl, ?_⟩) hSw ?_
            rotate_left
            · intro wx hSx
              (try dsimp only at hSx)
              go_split_ands
              go_simp
              (try with_reducible rfl)
            simp only [List.setIfInBounds_toArray, List.set_cons_zero, List.set_cons_succ]
            refine take_at 16 63 (fuel := 22) ?_ rfl rfl (by kernel_rfl) (by kernel_rfl) (by kernel_rfl) (Or.inl ⟨by rfl, ?_⟩) hSw ?_
            rotate_left
            · intro wx hSx
              (try dsimp only at hSx)
              go_split_ands
              go_simp
              (try with_reducible rfl)
            simp only [List.setIfInBounds_toArray, List.set_cons_zero, List.set_cons_succ]
            refine take_at 17 64 (fuel := 21) ?_ rfl rfl (by kernel_rfl) (by kernel_rfl) (by kernel_rfl) (Or.inl ⟨by rfl, ?_⟩) hSw ?_
            rotate_left
            · intro wx hSx
              (try dsimp only at hSx)
              go_split_ands
              go_simp
              (try with_reducible rfl)
            simp only [List.setIfInBounds_toArray, List.set_cons_zero, List.set_cons_succ]
            refine take_at 18 65 (fuel := 20) ?_ rfl rfl (by kernel_rfl) (by kernel_rfl) (by kernel_rfl) (Or.inl ⟨by rfl, ?_⟩) hSw ?_
            rotate_left
            · intro wx hSx
              (try dsimp only at hSx)
              go_split_ands
              go_simp
              (try with_reducible rfl)
            simp only [List.setIfInBounds_toArray, List.set_cons_zero, List.set_cons_succ]
            refine take_at 19 66 (fuel := 19) ?_ rfl rfl (by kernel_rfl) (by kernel_rfl) (by kernel_rfl) (Or.inl ⟨by rfl, ?_⟩) hSw ?_
            rotate_left
            · intro wx hSx
              (try dsimp only at hSx)
              go_split_ands
              go_simp
              (try with_reducible rfl)
            simp only [List.setIfInBounds_toArray, List.set_cons_zero, List.set_cons_succ]
            refine take_at 20 67 (fuel := 18) ?_ rfl rfl (by kernel_rfl) (by kernel_rfl) (by kernel_rfl) (Or.inl ⟨by rfl, ?_⟩) hSw ?_
            rotate_left
            · intro wx hSx
              (try dsimp only at hSx)
              go_split_ands
              go_simp
              (try with_reducible rfl)
            simp only [List.setIfInBounds_toArray, List.set_cons_zero, List.set_cons_succ]
            refine take_at 22 69 (fuel := 17) ?_ rfl rfl (by kernel_rfl) (by kernel_rfl) (by kernel_rfl) (Or.inl ⟨by rfl, ?_⟩) hSw ?_
            rotate_left
            · intro wx hSx
              (try dsimp only at hSx)
              go_split_ands
              go_simp
              (try with_reducible rfl)
            simp only [List.setIfInBounds_toArray, List.set_cons_zero, List.set_cons_succ]
            refine take_at 23 70 (fuel := 16) ?_ rfl rfl (by kernel_rfl) (by kernel_rfl) (by kernel_rfl) (Or.inl ⟨by rfl, ?_⟩) hSw ?_
            rotate_left
            · intro wx hSx
              (try dsimp only at hSx)
              go_split_ands
              go_simp
              (try with_reducible rfl)
            simp only [List.setIfInBounds_toArray, List.set_cons_zero, List.set_cons_succ]
            refine take_at 24 71 (fuel := 15) ?_ rfl rfl (by kernel_rfl) (by kernel_rfl) (by kernel_rfl) (Or.inl ⟨by rfl, ?_⟩) hSw ?_
            rotate_left
            · intro wx hSx
              (try dsimp only at hSx)
              go_split_ands
              go_simp
              (try with_reducible rfl)
            simp only [List.setIfInBounds_toArray, List.set_cons_zero, List.set_cons_succ]
            refine take_at 25 72 (fuel := 14) ?_ rfl rfl (by kernel_rfl) (by kernel_rfl) (by kernel_rfl) (Or.inl ⟨by rfl, ?_⟩) hSw ?_
            rotate_left
            · intro wx hSx
              (try dsimp only at hSx)
              go_split_ands
              go_simp
              (try with_reducible rfl)
            simp only [List.setIfInBounds_toArray, List.set_cons_zero, List.set_cons_succ]
            refine wpAnyH_ready (fuel := 13) (rs := [21]) (by kernel_rfl) (by simp) (AllReadyH.cons rfl (fun K hK => ?_) AllReadyH.nil)
            go_simp
            refine Calls.mono (chosen_new (hL8d.below hb2).cell HNY.out) ?_
            rintro e wx ⟨rfl, hb3⟩
            refine hK.out _ _ (mk _ (hb2.trans (hb3.mono hb2.size))) (fun hSw => ?_)
            clear hK K
            simp only [List.setIfInBounds_toArray, List.set_cons_zero, List.set_cons_succ]
            refine take_at 26 73 (fuel := 12) ?_ rfl rfl (by kernel_rfl) (by kernel_rfl) (by kernel_rfl) (Or.inl ⟨by rfl, ?_⟩) hSw ?_
            rotate_left
            · intro wx hSx
              (try dsimp only at hSx)
              go_split_ands
              go_simp
              (try with_reducible rfl)
            simp only [List.setIfInBounds_toArray, List.set_cons_zero, List.set_cons_succ]
            refine take_at 27 74 (fuel := 11) ?_ rfl rfl (by kernel_rfl) (by kernel_rfl) (by kernel_rfl) (Or.inl ⟨by rfl, ?_⟩) hSw ?_
            rotate_left
            · intro wx hSx
              (try dsimp only at hSx)
              go_split_ands
              go_simp
              (try with_reducible rfl)
            simp only [List.setIfInBounds_toArray, List.set_cons_zero, List.set_cons_succ]
            refine take_at 28 75 (fuel := 10) ?_ rfl rfl (by kernel_rfl) (by kernel_rfl) (by kernel_rfl) (Or.inl ⟨by rfl, ?_⟩) hSw ?_
            rotate_left
            · intro wx hSx
              (try dsimp only at hSx)
              go_split_ands
              go_simp
              (try with_reducible rfl)
            simp only [List.setIfInBounds_toArray, List.set_cons_zero, List.set_cons_succ]
            refine take_at 29 76 (fuel := 9) ?_ rfl rfl (by kernel_rfl) (by kernel_rfl) (by kernel_rfl) (Or.inl ⟨by rfl, ?_⟩) hSw ?_
            rotate_left
            · intro wx hSx
              (try dsimp only at hSx)
              go_split_ands
              go_simp
              (try with_reducible rfl)
            simp only [List.setIfInBounds_toArray, List.set_cons_zero, List.set_cons_succ]
            refine take_at 30 77 (fuel := 8) ?_ rfl rfl (by kernel_rfl) (by kernel_rfl) (by kernel_rfl) (Or.inl ⟨by rfl, ?_⟩) hSw ?_
            rotate_left
            · intro wx hSx
              (try dsimp only at hSx)
              go_split_ands
              go_simp
              (try with_reducible rfl)
            simp only [List.setIfInBounds_toArray, List.set_cons_zero, List.set_cons_succ]
            refine take_at 31 78 (fuel := 7) ?_ rfl rfl (by kernel_rfl) (by kernel_rfl) (by kernel_rfl) (Or.inl ⟨by rfl, ?_⟩) hSw ?_
            rotate_left
            · intro wx hSx
              (try dsimp only at hSx)
              go_split_ands
              go_simp
              (try with_reducible rfl)
            simp only [List.setIfInBounds_toArray, List.set_cons_zero, List.set_cons_succ]
            refine take_at 32 79 (fuel := 6) ?_ rfl rfl (by kernel_rfl) (by kernel_rfl) (by kernel_rfl) (Or.inl ⟨by rfl, ?_⟩) hSw ?_
            rotate_left
            · intro wx hSx
              (try dsimp only at hSx)
              go_split_ands
              go_simp
              (try with_reducible rfl)
            simp only [List.setIfInBounds_toArray, List.set_cons_zero, List.set_cons_succ]
            refine take_at 33 80 undef (fuel := 5) rfl rfl (by kernel_rfl) (by kernel_rfl) (by kernel_rfl) (Or.inr ⟨by rfl, rfl⟩) hSw ?_
            simp only [List.setIfInBounds_toArray, List.set_cons_zero, List.set_cons_succ]
            refine take_at 34 81 undef (fuel := 4) rfl rfl (by kernel_rfl) (by kernel_rfl) (by kernel_rfl) (Or.inr ⟨by rfl, rfl⟩) hSw ?_
            simp only [List.setIfInBounds_toArray, List.set_cons_zero, List.set_cons_succ]
            refine take_at 35 82 undef (fuel := 3) rfl rfl (by kernel_rfl) (by kernel_rfl) (by kernel_rfl) (Or.inr ⟨by rfl, rfl⟩) hSw ?_
            simp only [List.setIfInBounds_toArray, List.set_cons_zero, List.set_cons_succ]
            refine take_at 36 83 undef (fuel := 2) rfl rfl (by kernel_rfl) (by kernel_rfl) (by kernel_rfl) (Or.inr ⟨by rfl, rfl⟩) hSw ?_
            simp only [List.setIfInBounds_toArray, List.set_cons_zero, List.set_cons_succ]
            refine take_at 37 84 (fuel := 1) ?_ rfl rfl (by kernel_rfl) (by kernel_rfl) (by kernel_rfl) (Or.inl ⟨by rfl, ?_⟩) hSw ?_
            rotate_left
            · intro wx hSx
              (try dsimp only at hSx)
              go_split_ands
              go_simp
              (try with_reducible rfl)
            simp only [List.setIfInBounds_toArray, List.set_cons_zero, List.set_cons_succ]
            refine take_at 38 85 (fuel := 0) ?_ rfl rfl (by kernel_rfl) (by kernel_rfl) (by kernel_rfl) (Or.inl ⟨by rfl, ?_⟩) hSw ?_
            rotate_left
            · intro wx hSx
              (try dsimp only at hSx)
              go_split_ands
              go_simp
              (try with_reducible rfl)
            simp only [List.setIfInBounds_toArray, List.set_cons_zero, List.set_cons_succ]
            refine wpAnyH_done (by kernel_rfl) ⟨rfl, ?_⟩ 0
            have hL9 := hL8d.below (hb2.trans (hb3.mono hb2.size))
            clear hSw mk hZ8 hZ8d hL8 hL8d hb2 hb3 l0 l1 l2 l3 l4 l5 z0 z1 z2 z3 z4 z5
            have l0 : wx.cell? ⟨sb, off + j * 6, none⟩ = some (.int .u64 (y.v : Int)) := hel wx hL9.bel 0 (by decide)
            have l1 : wx.cell? ⟨sb, off + j * 6 + 1, none⟩ = some (.int .i64 y.pr) := hel wx hL9.bel 1 (by decide)
            have l2 : wx.cell? ⟨sb, off + j * 6 + 2, none⟩ = some (.int .u64 (y.pl : Int)) := hel wx hL9.bel 2 (by decide)
            have l3 : wx.cell? ⟨sb, off + j * 6 + 3, none⟩ = some (.int .i64 y.ba) := hel wx hL9.bel 3 (by decide)
            have l4 : wx.cell? ⟨sb, off + j * 6 + 4, none⟩ = some (.int .u64 (y.bl : Int)) := hel wx hL9.bel 4 (by decide)
            have l5 : wx.cell? ⟨sb, off + j * 6 + 5, none⟩ = some (.int .u64 (y.ep : Int)) := hel wx hL9.bel 5 (by decide)
            have hpr : Calls Try.prog 10 #[cp b, .agg y.cs, .int .u64 1] wx fun e w' => e = .returned (.agg ((Ce.mk y 1 0 noV).told true)) ∧ Blk w' b CT (Ce.mk y 1 0 noV).cs ∧ Kp (fun k => k = b) wx w' := by
              have h1 := prep_c (x := y) 1 hL9.cell HNY.out
              obtain ⟨e1, e2⟩ := prep_same (c := Ce.new y) (n := 1) (show 0 < 1 by decide)
              rw [show (Ce.new y).preps y 1 = true from e1, show (Ce.new y).prep y 1 = ⟨y, 1, 0, noV⟩ from e2] at h1
              exact h1
            go_wp2_with fail
            refine hpr.mono ?_
            rintro e w10 ⟨rfl, hc10, hk10⟩
            have hL10 := hL9.kp hc10 hk10
            clear hpr hL9 hc10 hk10 l0 l1 l2 l3 l4 l5
            have hR0 := Blk.new w10 PT zP
            have hbr := hL10.cell.lt
            have hlr : w0.heap.size ≤ w10.heap.size := hL10.bel.size
            have hst : (storeVar PT ⟨w10.heap.size, 0, none⟩ (.agg ((Ce.mk y 1 0 noV).told true))).run Try.prog (w10.alloc (.cells zP PT)) = .ok () ((w10.alloc (.cells zP PT)).setRow w10.heap.size ((Ce.mk y 1 0 noV).told true)) := store_row info_PT hR0 rfl (all_one (Ce.told_one _ _))
            have hR : Blk ((w10.alloc (.cells zP PT)).setRow w10.heap.size ((Ce.mk y 1 0 noV).told true)) w10.heap.size PT ((Ce.mk y 1 0 noV).told true) := setRow_heap _ _ _ _ _ (0, 0) hR0
            have hL11 := (hL10.alloc (.cells zP PT)).row (p := w10.heap.size) hlr (by omega) ((Ce.mk y 1 0 noV).told true)
            go_upto_region 17 with (refine step_store PT (.tmp 9) (.tmp 92) ⟨w10.heap.size, 0, none⟩ (.agg ((Ce.mk y 1 0 noV).told true)) rfl rfl rfl rfl rfl hst ?_)
            clear hst hR0 hL10
            generalize (w10.alloc (.cells zP PT)).setRow w10.heap.size ((Ce.mk y 1 0 noV).told true) = w11 at *
            generalize w10.heap.size = r at *
            have r0 : w11.cell? ⟨r, 0, none⟩ = some (.bool true) := hR.cell 0
            have r2 : w11.cell? ⟨r, 2, none⟩ = some (.int .u64 1) := hR.cell 2
            have r3 : w11.cell? ⟨r, 3, none⟩ = some (.int .u64 0) := hR.cell 3
            have r4 : w11.cell? ⟨r, 4, none⟩ = some (.int .u64 0) := hR.cell 4
            have r5 : w11.cell? ⟨r, 5, none⟩ = some (.int .i64 0) := hR.cell 5
            have r6 : w11.cell? ⟨r, 6, none⟩ = some (.int .u64 0) := hR.cell 6
            have r7 : w11.cell? ⟨r, 7, none⟩ = some (.int .i64 0) := hR.cell 7
            have r8 : w11.cell? ⟨r, 8, none⟩ = some (.int .u64 0) := hR.cell 8
            have r9 : w11.cell? ⟨r, 9, none⟩ = some (.int .u64 0) := hR.cell 9
            have he : ∀ w, (Op.equalIn 10000 VT (.agg #[.int .u64 0, .int .i64 0, .int .u64 0, .int .i64 0, .int .u64 0, .int .u64 0]) (.agg #[.int .u64 0, .int .i64 0, .int .u64 0, .int .i64 0, .int .u64 0, .int .u64 0])).run Try.prog w = .ok true w := fun w => eq_yes noV w
            clear hR
            go_wp2_with fail
            go_roundw
            case rel => exact ⟨j + 1, 1, Ce.mk y 1 0 noV, by omega, rfl, rfl, by omega, by omega, Lib.hid (may_ne hm), Lib.hid (Nat.le_refl _), hL11⟩
            case measure => simp [intOf]; omega
          · have hvc := hv
            have e1 : (Ce.mk c.ch (m + 1) c.bal c.val).learns y = false := decide_eq_false (fun h => hv h.2)
            have e2 : (Ce.mk c.ch (m + 1) c.bal c.val).learn y = (Ce.mk c.ch (m + 1) c.bal c.val) := by unfold Ce.learn; rw [e1]; rfl
            rw [e1]
            rw [e2] at hL8
            clear e1 e2
            have dm : decide (May y) = true := decide_eq_true hm
            have d1 : decide ((c.ch.v : Int) < (y.v : Int)) = false := decide_eq_false (by omega)
            have d2 : decide (c.ch.v < y.v) = false := decide_eq_false hv
            have hZ8d : Blk w8.drew z VT c.ch.cs := hZ8
            have hL8d : Le w0 w8.drew b ((Ce.mk c.ch (m + 1) c.bal c.val)) := hL8.below (Below.drew (Below.refl _ w8))
            have l0 : w8.drew.cell? ⟨sb, off + j * 6, none⟩ = some (.int .u64 (y.v : Int)) := hel w8.drew hL8d.bel 0 (by decide)
            have l1 : w8.drew.cell? ⟨sb, off + j * 6 + 1, none⟩ = some (.int .i64 y.pr) := hel w8.drew hL8d.bel 1 (by decide)
            have l2 : w8.drew.cell? ⟨sb, off + j * 6 + 2, none⟩ = some (.int .u64 (y.pl : Int)) := hel w8.drew hL8d.bel 2 (by decide)
            have l3 : w8.drew.cell? ⟨sb, off + j * 6 + 3, none⟩ = some (.int .i64 y.ba) := hel w8.drew hL8d.bel 3 (by decide)
            have l4 : w8.drew.cell? ⟨sb, off + j * 6 + 4, none⟩ = some (.int .u64 (y.bl : Int)) := hel w8.drew hL8d.bel 4 (by decide)
            have l5 : w8.drew.cell? ⟨sb, off + j * 6 + 5, none⟩ = some (.int .u64 (y.ep : Int)) := hel w8.drew hL8d.bel 5 (by decide)
            have z0 : w8.drew.cell? ⟨z, 0, none⟩ = some (.int .u64 (c.ch.v : Int)) := hZ8d.cell 0
            have z1 : w8.drew.cell? ⟨z, 1, none⟩ = some (.int .i64 c.ch.pr) := hZ8d.cell 1
            have z2 : w8.drew.cell? ⟨z, 2, none⟩ = some (.int .u64 (c.ch.pl : Int)) := hZ8d.cell 2
            have z3 : w8.drew.cell? ⟨z, 3, none⟩ = some (.int .i64 c.ch.ba) := hZ8d.cell 3
            have z4 : w8.drew.cell? ⟨z, 4, none⟩ = some (.int .u64 (c.ch.bl : Int)) := hZ8d.cell 4
            have z5 : w8.drew.cell? ⟨z, 5, none⟩ = some (.int .u64 (c.ch.ep : Int)) := hZ8d.cell 5
            have mk : ∀ W, Below w8.drew.heap.size w8.drew W → W.cell? ⟨sb, off + j * 6, none⟩ = some (.int .u64 (y.v : Int)) ∧ W.cell? ⟨sb, off + j * 6 + 1, none⟩ = some (.int .i64 y.pr) ∧ W.cell? ⟨sb, off + j * 6 + 2, none⟩ = some (.int .u64 (y.pl : Int)) ∧ W.cell? ⟨sb, off + j * 6 + 3, none⟩ = some (.int .i64 y.ba) ∧ W.cell? ⟨sb, off + j * 6 + 4, none⟩ = some (.int .u64 (y.bl : Int)) ∧ W.cell? ⟨sb, off + j * 6 + 5, none⟩ = some (.int .u64 (y.ep : Int)) ∧ W.cell? ⟨z, 0, none⟩ = some (.int .u64 (c.ch.v : Int)) ∧ W.cell? ⟨z, 1, none⟩ = some (.int .i64 c.ch.pr) ∧ W.cell? ⟨z, 2, none⟩ = some (.int .u64 (c.ch.pl : Int)) ∧ W.cell? ⟨z, 3, none⟩ = some (.int .i64 c.ch.ba) ∧ W.cell? ⟨z, 4, none⟩ = some (.int .u64 (c.ch.bl : Int)) ∧ W.cell? ⟨z, 5, none⟩ = some (.int .u64 (c.ch.ep : Int)) := fun W hb => by
              have h1 := hL8d.below hb
              have h2 := hZ8d.below hb hZ8d.lt
              exact ⟨hel W h1.bel 0 (by decide), hel W h1.bel 1 (by decide), hel W h1.bel 2 (by decide), hel W h1.bel 3 (by decide), hel W h1.bel 4 (by decide), hel W h1.bel 5 (by decide), h2.cell 0, h2.cell 1, h2.cell 2, h2.cell 3, h2.cell 4, h2.cell 5⟩
            refine region_only 39 #[false, false, false, false, false, false, false, false, false, false, false, false, false, false, false, false, false, false, false, false, false, false, false, false, false, false, false, false, false, false, false, false, false, false, false, false, false, false, false] (S := (fun W => W.cell? ⟨sb, off + j * 6, none⟩ = some (.int .u64 (y.v : Int)) ∧ W.cell? ⟨sb, off + j * 6 + 1, none⟩ = some (.int .i64 y.pr) ∧ W.cell? ⟨sb, off + j * 6 + 2, none⟩ = some (.int .u64 (y.pl : Int)) ∧ W.cell? ⟨sb, off + j * 6 + 3, none⟩ = some (.int .i64 y.ba) ∧ W.cell? ⟨sb, off + j * 6 + 4, none⟩ = some (.int .u64 (y.bl : Int)) ∧ W.cell? ⟨sb, off + j * 6 + 5, none⟩ = some (.int .u64 (y.ep : Int)) ∧ W.cell? ⟨z, 0, none⟩ = some (.int .u64 (c.ch.v : Int)) ∧ W.cell? ⟨z, 1, none⟩ = some (.int .i64 c.ch.pr) ∧ W.cell? ⟨z, 2, none⟩ = some (.int .u64 (c.ch.pl : Int)) ∧ W.cell? ⟨z, 3, none⟩ = some (.int .i64 c.ch.ba) ∧ W.cell? ⟨z, 4, none⟩ = some (.int .u64 (c.ch.bl : Int)) ∧ W.cell? ⟨z, 5, none⟩ = some (.int .u64 (c.ch.ep : Int)))) rfl rfl (by kernel_rfl) ⟨l0, l1, l2, l3, l4, l5, z0, z1, z2, z3, z4, z5⟩ (fun hSw => ?_)
            refine take_at 0 47 (fuel := 38) ?_ rfl rfl (by kernel_rfl) (by kernel_rfl) (by kernel_rfl) (Or.inl ⟨by rfl, ?_⟩) hSw ?_
            rotate_left
            · intro wx hSx
              (try dsimp only at hSx)
              go_split_ands
              go_simp
              (try with_reducible rfl)
            simp only [List.setIfInBounds_toArray, List.set_cons_zero, List.set_cons_succ]
            refine take_at 1 48 (fuel := 37) ?_ rfl rfl (by kernel_rfl) (by kernel_rfl) (by kernel_rfl) (Or.inl ⟨by rfl, ?_⟩) hSw ?_
            rotate_left
            · intro wx hSx
              (try dsimp only at hSx)
              go_split_ands
              go_simp
              (try with_reducible rfl)
            simp only [List.setIfInBounds_toArray, List.set_cons_zero, List.set_cons_succ]
            refine take_at 2 49 (fuel := 36) ?_ rfl rfl (by kernel_rfl) (by kernel_rfl) (by kernel_rfl) (Or.inl ⟨by rfl, ?_⟩) hSw ?_
            rotate_left
            · intro wx hSx
              (try dsimp only at hSx)
              go_split_ands
              go_simp
              (try with_reducible rfl)
            simp only [List.setIfInBounds_toArray, List.set_cons_zero, List.set_cons_succ]
            refine take_at 3 50 (fuel := 35) ?_ rfl rfl (by kernel_rfl) (by kernel_rfl) (by kernel_rfl) (Or.inl ⟨by rfl, ?_⟩) hSw ?_
            rotate_left
            · intro wx hSx
              (try dsimp only at hSx)
              go_split_ands
              go_simp
              (try with_reducible rfl)
            simp only [List.setIfInBounds_toArray, List.set_cons_zero, List.set_cons_succ]
            refine take_at 4 51 (fuel := 34) ?_ rfl rfl (by kernel_rfl) (by kernel_rfl) (by kernel_rfl) (Or.inl ⟨by rfl, ?_⟩) hSw ?_
            rotate_left
            · intro wx hSx
              (try dsimp only at hSx)
              go_split_ands
              go_simp
              (try with_reducible rfl)
            simp only [List.setIfInBounds_toArray, List.set_cons_zero, List.set_cons_succ]
            refine wpAnyH_ready (fuel := 33) (rs := [5]) (by kernel_rfl) (by simp) (AllReadyH.cons rfl (fun K hK => ?_) AllReadyH.nil)
            go_simp
            refine Calls.mono (dcheck_c y _) ?_
            rintro e wv ⟨rfl, hb2⟩
            rw [dm]
            refine hK.out _ _ (mk _ hb2) (fun hSw => ?_)
            clear hK K
            simp only [List.setIfInBounds_toArray, List.set_cons_zero, List.set_cons_succ]
            refine take_at 6 53 (fuel := 32) ?_ rfl rfl (by kernel_rfl) (by kernel_rfl) (by kernel_rfl) (Or.inl ⟨by rfl, ?_⟩) hSw ?_
            rotate_left
            · intro wx hSx
              (try dsimp only at hSx)
              go_split_ands
              go_simp
              (try with_reducible rfl)
            simp only [List.setIfInBounds_toArray, List.set_cons_zero, List.set_cons_succ]
            refine take_at 7 54 (fuel := 31) ?_ rfl rfl (by kernel_rfl) (by kernel_rfl) (by kernel_rfl) (Or.inl ⟨by rfl, ?_⟩) hSw ?_
            rotate_left
            · intro wx hSx
              (try dsimp only at hSx)
              go_split_ands
              go_simp
              (try with_reducible rfl)
            simp only [List.setIfInBounds_toArray, List.set_cons_zero, List.set_cons_succ]
            refine take_at 8 55 (fuel := 30) ?_ rfl rfl (by kernel_rfl) (by kernel_rfl) (by kernel_rfl) (Or.inl ⟨by rfl, ?_⟩) hSw ?_
            rotate_left
            · intro wx hSx
              (try dsimp only at hSx)
              go_split_ands
              go_simp
              (try with_reducible rfl)
            simp only [List.setIfInBounds_toArray, List.set_cons_zero, List.set_cons_succ]
            refine take_at 9 56 (fuel := 29) ?_ rfl rfl (by kernel_rfl) (by kernel_rfl) (by kernel_rfl) (Or.inl ⟨by rfl, ?_⟩) hSw ?_
            rotate_left
            · intro wx hSx
              (try dsimp only at hSx)
              go_split_ands
              go_simp
              (try with_reducible rfl)
            simp only [List.setIfInBounds_toArray, List.set_cons_zero, List.set_cons_succ]
            refine take_at 10 57 (fuel := 28) ?_ rfl rfl (by kernel_rfl) (by kernel_rfl) (by kernel_rfl) (Or.inl ⟨by rfl, ?_⟩) hSw ?_
            rotate_left
            · intro wx hSx
              (try dsimp only at hSx)
              go_split_ands
              go_simp
              (try with_reducible rfl)
            simp only [List.setIfInBounds_toArray, List.set_cons_zero, List.set_cons_succ]
            refine take_at 11 58 (fuel := 27) ?_ rfl rfl (by kernel_rfl) (by kernel_rfl) (by kernel_rfl) (Or.inl ⟨by rfl, ?_⟩) hSw ?_
            rotate_left
            · intro wx hSx
              (try dsimp only at hSx)
              go_split_ands
              go_simp
              (try with_reducible rfl)
            simp only [List.setIfInBounds_toArray, List.set_cons_zero, List.set_cons_succ]
            refine take_at 12 59 (fuel := 26) ?_ rfl rfl (by kernel_rfl) (by kernel_rfl) (by kernel_rfl) (Or.inl ⟨by rfl, ?_⟩) hSw ?_
            rotate_left
            · intro wx hSx
              (try dsimp only at hSx)
              go_split_ands
              go_simp
              (try with_reducible rfl)
            simp only [List.setIfInBounds_toArray, List.set_cons_zero, List.set_cons_succ]
            refine take_at 13 60 (fuel := 25) ?_ rfl rfl (by kernel_rfl) (by kernel_rfl) (by kernel_rfl) (Or.inl ⟨by rfl, ?_⟩) hSw ?_
            rotate_left
            · intro wx hSx
              (try dsimp only at hSx)
              go_split_ands
              go_simp
              (try with_reducible rfl)
            simp only [List.setIfInBounds_toArray, List.set_cons_zero, List.set_cons_succ]
            refine take_at 14 61 (fuel := 24) ?_ rfl rfl (by kernel_rfl) (by kernel_rfl) (by kernel_rfl) (Or.inl ⟨by rfl, ?_⟩) hSw ?_
            rotate_left
            · intro wx hSx
              (try dsimp only at hSx)
              go_split_ands
              go_simp
              (try with_reducible rfl)
            simp only [List.setIfInBounds_toArray, List.set_cons_zero, List.set_cons_succ]
            refine take_at 15 62 (fuel := 23) ?_ rfl rfl (by kernel_rfl) (by kernel_rfl) (by kernel_rfl) (Or.inl ⟨by rfl, ?_⟩) hSw ?_
            rotate_left
            · intro wx hSx
              (try dsimp only at hSx)
              go_split_ands
              go_simp
              (try with_reducible rfl)
            simp only [List.setIfInBounds_toArray, List.set_cons_zero, List.set_cons_succ]
            refine take_at 16 63 (fuel := 22) ?_ rfl rfl (by kernel_rfl) (by kernel_rfl) (by kernel_rfl) (Or.inl ⟨by rfl, ?_⟩) hSw ?_
            rotate_left
            · intro wx hSx
              (try dsimp only at hSx)
              go_split_ands
              go_simp
              (try with_reducible rfl)
            simp only [List.setIfInBounds_toArray, List.set_cons_zero, List.set_cons_succ]
            refine take_at 17 64 (fuel := 21) ?_ rfl rfl (by kernel_rfl) (by kernel_rfl) (by kernel_rfl) (Or.inl ⟨by rfl, ?_⟩) hSw ?_
            rotate_left
            · intro wx hSx
              (try dsimp only at hSx)
              go_split_ands
              go_simp
              (try with_reducible rfl)
            simp only [List.setIfInBounds_toArray, List.set_cons_zero, List.set_cons_succ]
            refine take_at 18 65 (fuel := 20) ?_ rfl rfl (by kernel_rfl) (by kernel_rfl) (by kernel_rfl) (Or.inl ⟨by rfl, ?_⟩) hSw ?_
            rotate_left
            · intro wx hSx
              (try dsimp only at hSx)
              go_split_ands
              go_simp
              (try with_reducible rfl)
            simp only [List.setIfInBounds_toArray, List.set_cons_zero, List.set_cons_succ]
            refine take_at 19 66 (fuel := 19) ?_ rfl rfl (by kernel_rfl) (by kernel_rfl) (by kernel_rfl) (Or.inl ⟨by rfl, ?_⟩) hSw ?_
            rotate_left
            · intro wx hSx
              (try dsimp only at hSx)
              go_split_ands
              go_simp
              (try with_reducible rfl)
            simp only [List.setIfInBounds_toArray, List.set_cons_zero, List.set_cons_succ]
            refine take_at 20 67 undef (fuel := 18) rfl rfl (by kernel_rfl) (by kernel_rfl) (by kernel_rfl) (Or.inr ⟨by rfl, rfl⟩) hSw ?_
            simp only [List.setIfInBounds_toArray, List.set_cons_zero, List.set_cons_succ]
            refine take_at 21 68 undef (fuel := 17) rfl rfl (by kernel_rfl) (by kernel_rfl) (by kernel_rfl) (Or.inr ⟨by rfl, rfl⟩) hSw ?_
            simp only [List.setIfInBounds_toArray, List.set_cons_zero, List.set_cons_succ]
            refine take_at 22 69 undef (fuel := 16) rfl rfl (by kernel_rfl) (by kernel_rfl) (by kernel_rfl) (Or.inr ⟨by rfl, rfl⟩) hSw ?_
            simp only [List.setIfInBounds_toArray, List.set_cons_zero, List.set_cons_succ]
            refine take_at 23 70 undef (fuel := 15) rfl rfl (by kernel_rfl) (by kernel_rfl) (by kernel_rfl) (Or.inr ⟨by rfl, rfl⟩) hSw ?_
            simp only [List.setIfInBounds_toArray, List.set_cons_zero, List.set_cons_succ]
            refine take_at 24 71 undef (fuel := 14) rfl rfl (by kernel_rfl) (by kernel_rfl) (by kernel_rfl) (Or.inr ⟨by rfl, rfl⟩) hSw ?_
            simp only [List.setIfInBounds_toArray, List.set_cons_zero, List.set_cons_succ]
            refine take_at 25 72 undef (fuel := 13) rfl rfl (by kernel_rfl) (by kernel_rfl) (by kernel_rfl) (Or.inr ⟨by rfl, rfl⟩) hSw ?_
            simp only [List.setIfInBounds_toArray, List.set_cons_zero, List.set_cons_succ]
            refine take_at 26 73 undef (fuel := 12) rfl rfl (by kernel_rfl) (by kernel_rfl) (by kernel_rfl) (Or.inr ⟨by rfl, rfl⟩) hSw ?_
            simp only [List.setIfInBounds_toArray, List.set_cons_zero, List.set_cons_succ]
            refine take_at 27 74 (fuel := 11) ?_ rfl rfl (by kernel_rfl) (by kernel_rfl) (by kernel_rfl) (Or.inl ⟨by rfl, ?_⟩) hSw ?_
            rotate_left
            · intro wx hSx
              (try dsimp only at hSx)
              go_split_ands
              go_simp
              (try with_reducible rfl)
            simp only [List.setIfInBounds_toArray, List.set_cons_zero, List.set_cons_succ]
            refine take_at 28 75 (fuel := 10) ?_ rfl rfl (by kernel_rfl) (by kernel_rfl) (by kernel_rfl) (Or.inl ⟨by rfl, ?_⟩) hSw ?_
            rotate_left
            · intro wx hSx
              (try dsimp only at hSx)
              go_split_ands
              go_simp
              (try with_reducible rfl)
            simp only [List.setIfInBounds_toArray, List.set_cons_zero, List.set_cons_succ]
            refine take_at 29 76 (fuel := 9) ?_ rfl rfl (by kernel_rfl) (by kernel_rfl) (by kernel_rfl) (Or.inl ⟨by rfl, ?_⟩) hSw ?_
            rotate_left
            · intro wx hSx
              (try dsimp only at hSx)
              go_split_ands
              go_simp
              (try with_reducible rfl)
            simp only [List.setIfInBounds_toArray, List.set_cons_zero, List.set_cons_succ]
            refine take_at 30 77 (fuel := 8) ?_ rfl rfl (by kernel_rfl) (by kernel_rfl) (by kernel_rfl) (Or.inl ⟨by rfl, ?_⟩) hSw ?_
            rotate_left
            · intro wx hSx
              (try dsimp only at hSx)
              go_split_ands
              go_simp
              (try with_reducible rfl)
            simp only [List.setIfInBounds_toArray, List.set_cons_zero, List.set_cons_succ]
            refine take_at 31 78 (fuel := 7) ?_ rfl rfl (by kernel_rfl) (by kernel_rfl) (by kernel_rfl) (Or.inl ⟨by rfl, ?_⟩) hSw ?_
            rotate_left
            · intro wx hSx
              (try dsimp only at hSx)
              go_split_ands
              go_simp
              (try with_reducible rfl)
            simp only [List.setIfInBounds_toArray, List.set_cons_zero, List.set_cons_succ]
            refine take_at 32 79 (fuel := 6) ?_ rfl rfl (by kernel_rfl) (by kernel_rfl) (by kernel_rfl) (Or.inl ⟨by rfl, ?_⟩) hSw ?_
            rotate_left
            · intro wx hSx
              (try dsimp only at hSx)
              go_split_ands
              go_simp
              (try with_reducible rfl)
            simp only [List.setIfInBounds_toArray, List.set_cons_zero, List.set_cons_succ]
            refine take_at 33 80 (fuel := 5) ?_ rfl rfl (by kernel_rfl) (by kernel_rfl) (by kernel_rfl) (Or.inl ⟨by rfl, ?_⟩) hSw ?_
            rotate_left
            · intro wx hSx
              (try dsimp only at hSx)
              go_split_ands
              go_simp
              (try with_reducible rfl)
            simp only [List.setIfInBounds_toArray, List.set_cons_zero, List.set_cons_succ]
            refine take_at 35 82 (fuel := 4) ?_ rfl rfl (by kernel_rfl) (by kernel_rfl) (by kernel_rfl) (Or.inl ⟨by rfl, ?_⟩) hSw ?_
            rotate_left
            · intro wx hSx
              (try dsimp only at hSx)
              go_split_ands
              go_simp
              (try with_reducible rfl)
            simp only [List.setIfInBounds_toArray, List.set_cons_zero, List.set_cons_succ]
            refine wpAnyH_ready (fuel := 3) (rs := [34]) (by kernel_rfl) (by simp) (AllReadyH.cons rfl (fun K hK => ?_) AllReadyH.nil)
            go_simp
            refine Calls.mono (chosen_mk (hL8d.below hb2).cell HNC.out) ?_
            rintro e wx ⟨rfl, hb3⟩
            refine hK.out _ _ (mk _ (hb2.trans (hb3.mono hb2.size))) (fun hSw => ?_)
            clear hK K
            simp only [List.setIfInBounds_toArray, List.set_cons_zero, List.set_cons_succ]
            refine take_at 36 83 (fuel := 2) ?_ rfl rfl (by kernel_rfl) (by kernel_rfl) (by kernel_rfl) (Or.inl ⟨by rfl, ?_⟩) hSw ?_
            rotate_left
            · intro wx hSx
              (try dsimp only at hSx)
              go_split_ands
              go_simp
              (try with_reducible rfl)
            simp only [List.setIfInBounds_toArray, List.set_cons_zero, List.set_cons_succ]
            refine take_at 37 84 (fuel := 1) ?_ rfl rfl (by kernel_rfl) (by kernel_rfl) (by kernel_rfl) (Or.inl ⟨by rfl, ?_⟩) hSw ?_
            rotate_left
            · intro wx hSx
              (try dsimp only at hSx)
              go_split_ands
              go_simp
              (try with_reducible rfl)
            simp only [List.setIfInBounds_toArray, List.set_cons_zero, List.set_cons_succ]
            refine take_at 38 85 (fuel := 0) ?_ rfl rfl (by kernel_rfl) (by kernel_rfl) (by kernel_rfl) (Or.inl ⟨by rfl, ?_⟩) hSw ?_
            rotate_left
            · intro wx hSx
              (try dsimp only at hSx)
              go_split_ands
              go_simp
              (try with_reducible rfl)
            simp only [List.setIfInBounds_toArray, List.set_cons_zero, List.set_cons_succ]
            refine wpAnyH_done (by kernel_rfl) ⟨rfl, ?_⟩ 0
            have hL9 := hL8d.below (hb2.trans (hb3.mono hb2.size))
            clear hSw mk hZ8 hZ8d hL8 hL8d hb2 hb3 l0 l1 l2 l3 l4 l5 z0 z1 z2 z3 z4 z5
            go_wp2_with fail
            go_roundw
            case rel => exact ⟨j + 1, m + 1, (Ce.mk c.ch (m + 1) c.bal c.val), by omega, rfl, rfl, by omega, by omega, HNC, Lib.hid (Nat.le_refl _), hL9⟩
            case measure => simp [intOf]; omega
        · have hmc := hm
          have e1 : (Ce.mk c.ch (m + 1) c.bal c.val).learns y = false := decide_eq_false (fun h => hm h.1)
          have e2 : (Ce.mk c.ch (m + 1) c.bal c.val).learn y = (Ce.mk c.ch (m + 1) c.bal c.val) := by unfold Ce.learn; rw [e1]; rfl
          rw [e1]
          rw [e2] at hL8
          clear e1 e2
          have dm : decide (May y) = false := decide_eq_false hm
          have hZ8d : Blk w8.drew z VT c.ch.cs := hZ8
          have hL8d : Le w0 w8.drew b ((Ce.mk c.ch (m + 1) c.bal c.val)) := hL8.below (Below.drew (Below.refl _ w8))
          have l0 : w8.drew.cell? ⟨sb, off + j * 6, none⟩ = some (.int .u64 (y.v : Int)) := hel w8.drew hL8d.bel 0 (by decide)
          have l1 : w8.drew.cell? ⟨sb, off + j * 6 + 1, none⟩ = some (.int .i64 y.pr) := hel w8.drew hL8d.bel 1 (by decide)
          have l2 : w8.drew.cell? ⟨sb, off + j * 6 + 2, none⟩ = some (.int .u64 (y.pl : Int)) := hel w8.drew hL8d.bel 2 (by decide)
          have l3 : w8.drew.cell? ⟨sb, off + j * 6 + 3, none⟩ = some (.int .i64 y.ba) := hel w8.drew hL8d.bel 3 (by decide)
          have l4 : w8.drew.cell? ⟨sb, off + j * 6 + 4, none⟩ = some (.int .u64 (y.bl : Int)) := hel w8.drew hL8d.bel 4 (by decide)
          have l5 : w8.drew.cell? ⟨sb, off + j * 6 + 5, none⟩ = some (.int .u64 (y.ep : Int)) := hel w8.drew hL8d.bel 5 (by decide)
          have z0 : w8.drew.cell? ⟨z, 0, none⟩ = some (.int .u64 (c.ch.v : Int)) := hZ8d.cell 0
          have z1 : w8.drew.cell? ⟨z, 1, none⟩ = some (.int .i64 c.ch.pr) := hZ8d.cell 1
          have z2 : w8.drew.cell? ⟨z, 2, none⟩ = some (.int .u64 (c.ch.pl : Int)) := hZ8d.cell 2
          have z3 : w8.drew.cell? ⟨z, 3, none⟩ = some (.int .i64 c.ch.ba) := hZ8d.cell 3
          have z4 : w8.drew.cell? ⟨z, 4, none⟩ = some (.int .u64 (c.ch.bl : Int)) := hZ8d.cell 4
          have z5 : w8.drew.cell? ⟨z, 5, none⟩ = some (.int .u64 (c.ch.ep : Int)) := hZ8d.cell 5
          have mk : ∀ W, Below w8.drew.heap.size w8.drew W → W.cell? ⟨sb, off + j * 6, none⟩ = some (.int .u64 (y.v : Int)) ∧ W.cell? ⟨sb, off + j * 6 + 1, none⟩ = some (.int .i64 y.pr) ∧ W.cell? ⟨sb, off + j * 6 + 2, none⟩ = some (.int .u64 (y.pl : Int)) ∧ W.cell? ⟨sb, off + j * 6 + 3, none⟩ = some (.int .i64 y.ba) ∧ W.cell? ⟨sb, off + j * 6 + 4, none⟩ = some (.int .u64 (y.bl : Int)) ∧ W.cell? ⟨sb, off + j * 6 + 5, none⟩ = some (.int .u64 (y.ep : Int)) ∧ W.cell? ⟨z, 0, none⟩ = some (.int .u64 (c.ch.v : Int)) ∧ W.cell? ⟨z, 1, none⟩ = some (.int .i64 c.ch.pr) ∧ W.cell? ⟨z, 2, none⟩ = some (.int .u64 (c.ch.pl : Int)) ∧ W.cell? ⟨z, 3, none⟩ = some (.int .i64 c.ch.ba) ∧ W.cell? ⟨z, 4, none⟩ = some (.int .u64 (c.ch.bl : Int)) ∧ W.cell? ⟨z, 5, none⟩ = some (.int .u64 (c.ch.ep : Int)) := fun W hb => by
            have h1 := hL8d.below hb
            have h2 := hZ8d.below hb hZ8d.lt
            exact ⟨hel W h1.bel 0 (by decide), hel W h1.bel 1 (by decide), hel W h1.bel 2 (by decide), hel W h1.bel 3 (by decide), hel W h1.bel 4 (by decide), hel W h1.bel 5 (by decide), h2.cell 0, h2.cell 1, h2.cell 2, h2.cell 3, h2.cell 4, h2.cell 5⟩
          refine region_only 39 #[false, false, false, false, false, false, false, false, false, false, false, false, false, false, false, false, false, false, false, false, false, false, false, false, false, false, false, false, false, false, false, false, false, false, false, false, false, false, false] (S := (fun W => W.cell? ⟨sb, off + j * 6, none⟩ = some (.int .u64 (y.v : Int)) ∧ W.cell? ⟨sb, off + j * 6 + 1, none⟩ = some (.int .i64 y.pr) ∧ W.cell? ⟨sb, off + j * 6 + 2, none⟩ = some (.int .u64 (y.pl : Int)) ∧ W.cell? ⟨sb, off + j * 6 + 3, none⟩ = some (.int .i64 y.ba) ∧ W.cell? ⟨sb, off + j * 6 + 4, none⟩ = some (.int .u64 (y.bl : Int)) ∧ W.cell? ⟨sb, off + j * 6 + 5, none⟩ = some (.int .u64 (y.ep : Int)) ∧ W.cell? ⟨z, 0, none⟩ = some (.int .u64 (c.ch.v : Int)) ∧ W.cell? ⟨z, 1, none⟩ = some (.int .i64 c.ch.pr) ∧ W.cell? ⟨z, 2, none⟩ = some (.int .u64 (c.ch.pl : Int)) ∧ W.cell? ⟨z, 3, none⟩ = some (.int .i64 c.ch.ba) ∧ W.cell? ⟨z, 4, none⟩ = some (.int .u64 (c.ch.bl : Int)) ∧ W.cell? ⟨z, 5, none⟩ = some (.int .u64 (c.ch.ep : Int)))) rfl rfl (by kernel_rfl) ⟨l0, l1, l2, l3, l4, l5, z0, z1, z2, z3, z4, z5⟩ (fun hSw => ?_)
          refine take_at 0 47 (fuel := 38) ?_ rfl rfl (by kernel_rfl) (by kernel_rfl) (by kernel_rfl) (Or.inl ⟨by rfl, ?_⟩) hSw ?_
          rotate_left
          · intro wx hSx
            (try dsimp only at hSx)
            go_split_ands
            go_simp
            (try with_reducible rfl)
          simp only [List.setIfInBounds_toArray, List.set_cons_zero, List.set_cons_succ]
          refine take_at 1 48 (fuel := 37) ?_ rfl rfl (by kernel_rfl) (by kernel_rfl) (by kernel_rfl) (Or.inl ⟨by rfl, ?_⟩) hSw ?_
          rotate_left
          · intro wx hSx
            (try dsimp only at hSx)
            go_split_ands
            go_simp
            (try with_reducible rfl)
          simp only [List.setIfInBounds_toArray, List.set_cons_zero, List.set_cons_succ]
          refine take_at 2 49 (fuel := 36) ?_ rfl rfl (by kernel_rfl) (by kernel_rfl) (by kernel_rfl) (Or.inl ⟨by rfl, ?_⟩) hSw ?_
          rotate_left
          · intro wx hSx
            (try dsimp only at hSx)
            go_split_ands
            go_simp
            (try with_reducible rfl)
          simp only [List.setIfInBounds_toArray, List.set_cons_zero, List.set_cons_succ]
          refine take_at 3 50 (fuel := 35) ?_ rfl rfl (by kernel_rfl) (by kernel_rfl) (by kernel_rfl) (Or.inl ⟨by rfl, ?_⟩) hSw ?_
          rotate_left
          · intro wx hSx
            (try dsimp only at hSx)
            go_split_ands
            go_simp
            (try with_reducible rfl)
          simp only [List.setIfInBounds_toArray, List.set_cons_zero, List.set_cons_succ]
          refine take_at 4 51 (fuel := 34) ?_ rfl rfl (by kernel_rfl) (by kernel_rfl) (by kernel_rfl) (Or.inl ⟨by rfl, ?_⟩) hSw ?_
          rotate_left
          · intro wx hSx
            (try dsimp only at hSx)
            go_split_ands
            go_simp
            (try with_reducible rfl)
          simp only [List.setIfInBounds_toArray, List.set_cons_zero, List.set_cons_succ]
          refine wpAnyH_ready (fuel := 33) (rs := [5]) (by kernel_rfl) (by simp) (AllReadyH.cons rfl (fun K hK => ?_) AllReadyH.nil)
          go_simp
          refine Calls.mono (dcheck_c y _) ?_
          rintro e wv ⟨rfl, hb2⟩
          rw [dm]
          refine hK.out _ _ (mk _ hb2) (fun hSw => ?_)
          clear hK K
          simp only [List.setIfInBounds_toArray, List.set_cons_zero, List.set_cons_succ]
          refine take_at 6 53 (fuel := 32) ?_ rfl rfl (by kernel_rfl) (by kernel_rfl) (by kernel_rfl) (Or.inl ⟨by rfl, ?_⟩) hSw ?_
          rotate_left
          · intro wx hSx
            (try dsimp only at hSx)
            go_split_ands
            go_simp
            (try with_reducible rfl)
          simp only [List.setIfInBounds_toArray, List.set_cons_zero, List.set_cons_succ]
          refine take_at 7 54 undef (fuel := 31) rfl rfl (by kernel_rfl) (by kernel_rfl) (by kernel_rfl) (Or.inr ⟨by rfl, rfl⟩) hSw ?_
          simp only [List.setIfInBounds_toArray, List.set_cons_zero, List.set_cons_succ]
          refine take_at 8 55 undef (fuel := 30) rfl rfl (by kernel_rfl) (by kernel_rfl) (by kernel_rfl) (Or.inr ⟨by rfl, rfl⟩) hSw ?_
          simp only [List.setIfInBounds_toArray, List.set_cons_zero, List.set_cons_succ]
          refine take_at 9 56 undef (fuel := 29) rfl rfl (by kernel_rfl) (by kernel_rfl) (by kernel_rfl) (Or.inr ⟨by rfl, rfl⟩) hSw ?_
          simp only [List.setIfInBounds_toArray, List.set_cons_zero, List.set_cons_succ]
          refine take_at 10 57 undef (fuel := 28) rfl rfl (by kernel_rfl) (by kernel_rfl) (by kernel_rfl) (Or.inr ⟨by rfl, rfl⟩) hSw ?_
          simp only [List.setIfInBounds_toArray, List.set_cons_zero, List.set_cons_succ]
          refine take_at 11 58 undef (fuel := 27) rfl rfl (by kernel_rfl) (by kernel_rfl) (by kernel_rfl) (Or.inr ⟨by rfl, rfl⟩) hSw ?_
          simp only [List.setIfInBounds_toArray, List.set_cons_zero, List.set_cons_succ]
          refine take_at 12 59 undef (fuel := 26) rfl rfl (by kernel_rfl) (by kernel_rfl) (by kernel_rfl) (Or.inr ⟨by rfl, rfl⟩) hSw ?_
          simp only [List.setIfInBounds_toArray, List.set_cons_zero, List.set_cons_succ]
          refine take_at 13 60 undef (fuel := 25) rfl rfl (by kernel_rfl) (by kernel_rfl) (by kernel_rfl) (Or.inr ⟨by rfl, rfl⟩) hSw ?_
          simp only [List.setIfInBounds_toArray, List.set_cons_zero, List.set_cons_succ]
          refine take_at 14 61 undef (fuel := 24) rfl rfl (by kernel_rfl) (by kernel_rfl) (by kernel_rfl) (Or.inr ⟨by rfl, rfl⟩) hSw ?_
          simp only [List.setIfInBounds_toArray, List.set_cons_zero, List.set_cons_succ]
          refine take_at 15 62 (fuel := 23) ?_ rfl rfl (by kernel_rfl) (by kernel_rfl) (by kernel_rfl) (Or.inl ⟨by rfl, ?_⟩) hSw ?_
          rotate_left
          · intro wx hSx
            (try dsimp only at hSx)
            go_split_ands
            go_simp
            (try with_reducible rfl)
          simp only [List.setIfInBounds_toArray, List.set_cons_zero, List.set_cons_succ]
          refine take_at 16 63 (fuel := 22) ?_ rfl rfl (by kernel_rfl) (by kernel_rfl) (by kernel_rfl) (Or.inl ⟨by rfl, ?_⟩) hSw ?_
          rotate_left
          · intro wx hSx
            (try dsimp only at hSx)
            go_split_ands
            go_simp
            (try with_reducible rfl)
          simp only [List.setIfInBounds_toArray, List.set_cons_zero, List.set_cons_succ]
          refine take_at 17 64 (fuel := 21) ?_ rfl rfl (by kernel_rfl) (by kernel_rfl) (by kernel_rfl) (Or.inl ⟨by rfl, ?_⟩) hSw ?_
          rotate_left
          · intro wx hSx
            (try dsimp only at hSx)
            go_split_ands
            go_simp
            (try with_reducible rfl)
          simp only [List.setIfInBounds_toArray, List.set_cons_zero, List.set_cons_succ]
          refine take_at 18 65 (fuel := 20) ?_ rfl rfl (by kernel_rfl) (by kernel_rfl) (by kernel_rfl) (Or.inl ⟨by rfl, ?_⟩) hSw ?_
          rotate_left
          · intro wx hSx
            (try dsimp only at hSx)
            go_split_ands
            go_simp
            (try with_reducible rfl)
          simp only [List.setIfInBounds_toArray, List.set_cons_zero, List.set_cons_succ]
          refine take_at 19 66 (fuel := 19) ?_ rfl rfl (by kernel_rfl) (by kernel_rfl) (by kernel_rfl) (Or.inl ⟨by rfl, ?_⟩) hSw ?_
          rotate_left
          · intro wx hSx
            (try dsimp only at hSx)
            go_split_ands
            go_simp
            (try with_reducible rfl)
          simp only [List.setIfInBounds_toArray, List.set_cons_zero, List.set_cons_succ]
          refine take_at 20 67 undef (fuel := 18) rfl rfl (by kernel_rfl) (by kernel_rfl) (by kernel_rfl) (Or.inr ⟨by rfl, rfl⟩) hSw ?_
          simp only [List.setIfInBounds_toArray, List.set_cons_zero, List.set_cons_succ]
          refine take_at 21 68 undef (fuel := 17) rfl rfl (by kernel_rfl) (by kernel_rfl) (by kernel_rfl) (Or.inr ⟨by rfl, rfl⟩) hSw ?_
          simp only [List.setIfInBounds_toArray, List.set_cons_zero, List.set_cons_succ]
          refine take_at 22 69 undef (fuel := 16) rfl rfl (by kernel_rfl) (by kernel_rfl) (by kernel_rfl) (Or.inr ⟨by rfl, rfl⟩) hSw ?_
          simp only [List.setIfInBounds_toArray, List.set_cons_zero, List.set_cons_succ]
          refine take_at 23 70 undef (fuel := 15) rfl rfl (by kernel_rfl) (by kernel_rfl) (by kernel_rfl) (Or.inr ⟨by rfl, rfl⟩) hSw ?_
          simp only [List.setIfInBounds_toArray, List.set_cons_zero, List.set_cons_succ]
          refine take_at 24 71 undef (fuel := 14) rfl rfl (by kernel_rfl) (by kernel_rfl) (by kernel_rfl) (Or.inr ⟨by rfl, rfl⟩) hSw ?_
          simp only [List.setIfInBounds_toArray, List.set_cons_zero, List.set_cons_succ]
          refine take_at 25 72 undef (fuel := 13) rfl rfl (by kernel_rfl) (by kernel_rfl) (by kernel_rfl) (Or.inr ⟨by rfl, rfl⟩) hSw ?_
          simp only [List.setIfInBounds_toArray, List.set_cons_zero, List.set_cons_succ]
          refine take_at 26 73 undef (fuel := 12) rfl rfl (by kernel_rfl) (by kernel_rfl) (by kernel_rfl) (Or.inr ⟨by rfl, rfl⟩) hSw ?_
          simp only [List.setIfInBounds_toArray, List.set_cons_zero, List.set_cons_succ]
          refine take_at 27 74 (fuel := 11) ?_ rfl rfl (by kernel_rfl) (by kernel_rfl) (by kernel_rfl) (Or.inl ⟨by rfl, ?_⟩) hSw ?_
          rotate_left
          · intro wx hSx
            (try dsimp only at hSx)
            go_split_ands
            go_simp
            (try with_reducible rfl)
          simp only [List.setIfInBounds_toArray, List.set_cons_zero, List.set_cons_succ]
          refine take_at 28 75 (fuel := 10) ?_ rfl rfl (by kernel_rfl) (by kernel_rfl) (by kernel_rfl) (Or.inl ⟨by rfl, ?_⟩) hSw ?_
          rotate_left
          · intro wx hSx
            (try dsimp only at hSx)
            go_split_ands
            go_simp
            (try with_reducible rfl)
          simp only [List.setIfInBounds_toArray, List.set_cons_zero, List.set_cons_succ]
          refine take_at 29 76 (fuel := 9) ?_ rfl rfl (by kernel_rfl) (by kernel_rfl) (by kernel_rfl) (Or.inl ⟨by rfl, ?_⟩) hSw ?_
          rotate_left
          · intro wx hSx
            (try dsimp only at hSx)
            go_split_ands
            go_simp
            (try with_reducible rfl)
          simp only [List.setIfInBounds_toArray, List.set_cons_zero, List.set_cons_succ]
          refine take_at 30 77 (fuel := 8) ?_ rfl rfl (by kernel_rfl) (by kernel_rfl) (by kernel_rfl) (Or.inl ⟨by rfl, ?_⟩) hSw ?_
          rotate_left
          · intro wx hSx
            (try dsimp only at hSx)
            go_split_ands
            go_simp
            (try with_reducible rfl)
          simp only [List.setIfInBounds_toArray, List.set_cons_zero, List.set_cons_succ]
          refine take_at 31 78 (fuel := 7) ?_ rfl rfl (by kernel_rfl) (by kernel_rfl) (by kernel_rfl) (Or.inl ⟨by rfl, ?_⟩) hSw ?_
          rotate_left
          · intro wx hSx
            (try dsimp only at hSx)
            go_split_ands
            go_simp
            (try with_reducible rfl)
          simp only [List.setIfInBounds_toArray, List.set_cons_zero, List.set_cons_succ]
          refine take_at 32 79 (fuel := 6) ?_ rfl rfl (by kernel_rfl) (by kernel_rfl) (by kernel_rfl) (Or.inl ⟨by rfl, ?_⟩) hSw ?_
          rotate_left
          · intro wx hSx
            (try dsimp only at hSx)
            go_split_ands
            go_simp
            (try with_reducible rfl)
          simp only [List.setIfInBounds_toArray, List.set_cons_zero, List.set_cons_succ]
          refine take_at 33 80 (fuel := 5) ?_ rfl rfl (by kernel_rfl) (by kernel_rfl) (by kernel_rfl) (Or.inl ⟨by rfl, ?_⟩) hSw ?_
          rotate_left
          · intro wx hSx
            (try dsimp only at hSx)
            go_split_ands
            go_simp
            (try with_reducible rfl)
          simp only [List.setIfInBounds_toArray, List.set_cons_zero, List.set_cons_succ]
          refine take_at 35 82 (fuel := 4) ?_ rfl rfl (by kernel_rfl) (by kernel_rfl) (by kernel_rfl) (Or.inl ⟨by rfl, ?_⟩) hSw ?_
          rotate_left
          · intro wx hSx
            (try dsimp only at hSx)
            go_split_ands
            go_simp
            (try with_reducible rfl)
          simp only [List.setIfInBounds_toArray, List.set_cons_zero, List.set_cons_succ]
          refine wpAnyH_ready (fuel := 3) (rs := [34]) (by kernel_rfl) (by simp) (AllReadyH.cons rfl (fun K hK => ?_) AllReadyH.nil)
          go_simp
          refine Calls.mono (chosen_mk (hL8d.below hb2).cell HNC.out) ?_
          rintro e wx ⟨rfl, hb3⟩
          refine hK.out _ _ (mk _ (hb2.trans (hb3.mono hb2.size))) (fun hSw => ?_)
          clear hK K
          simp only [List.setIfInBounds_toArray, List.set_cons_zero, List.set_cons_succ]
          refine take_at 36 83 (fuel := 2) ?_ rfl rfl (by kernel_rfl) (by kernel_rfl) (by kernel_rfl) (Or.inl ⟨by rfl, ?_⟩) hSw ?_
          rotate_left
          · intro wx hSx
            (try dsimp only at hSx)
            go_split_ands
            go_simp
            (try with_reducible rfl)
          simp only [List.setIfInBounds_toArray, List.set_cons_zero, List.set_cons_succ]
          refine take_at 37 84 (fuel := 1) ?_ rfl rfl (by kernel_rfl) (by kernel_rfl) (by kernel_rfl) (Or.inl ⟨by rfl, ?_⟩) hSw ?_
          rotate_left
          · intro wx hSx
            (try dsimp only at hSx)
            go_split_ands
            go_simp
            (try with_reducible rfl)
          simp only [List.setIfInBounds_toArray, List.set_cons_zero, List.set_cons_succ]
          refine take_at 38 85 (fuel := 0) ?_ rfl rfl (by kernel_rfl) (by kernel_rfl) (by kernel_rfl) (Or.inl ⟨by rfl, ?_⟩) hSw ?_
          rotate_left
          · intro wx hSx
            (try dsimp only at hSx)
            go_split_ands
            go_simp
            (try with_reducible rfl)
          simp only [List.setIfInBounds_toArray, List.set_cons_zero, List.set_cons_succ]
          refine wpAnyH_done (by kernel_rfl) ⟨rfl, ?_⟩ 0
          have hL9 := hL8d.below (hb2.trans (hb3.mono hb2.size))
          clear hSw mk hZ8 hZ8d hL8 hL8d hb2 hb3 l0 l1 l2 l3 l4 l5 z0 z1 z2 z3 z4 z5
          go_wp2_with fail
          go_roundw
          case rel => exact ⟨j + 1, m + 1, (Ce.mk c.ch (m + 1) c.bal c.val), by omega, rfl, rfl, by omega, by omega, HNC, Lib.hid (Nat.le_refl _), hL9⟩
          case measure => simp [intOf]; omega
      · have h31 : decide ((j : Int) < 30) = false := decide_eq_false (by omega)
        have h32 : decide (j < 30) = false := decide_eq_false h30
        have hb := hL.bel
        clear hL
        go_wp2_with fail
        go_ret
        exact ⟨rfl, hb⟩
    · obtain rfl : j = len := by omega
      have hlt1 : decide ((j : Int) < (j : Int)) = false := decide_eq_false (by omega)
      have hb := hL.bel
      clear hL
      go_wp2_with fail
      go_ret
      exact ⟨rfl, hb⟩
set_option linter.unusedVariables false in
set_option maxRecDepth 100000 in
theorem cellLearns_lifted (os : Os) (started : os.Started) (H : Type) (enc : TypeId × Value → H) :
    ReturnsInHanded {} Try.checked os 5 .any (Rows.cellLearnsSpec.pre6 enc Try.prog Try.f5 Rows.cellLearnsRow.domain false) (Rows.cellLearnsSpec.post enc Try.prog Try.f5 false true false false) := by
  refine returnsInHanded_of_change (C := Try.checked) Kit.own started (by kernel_rfl) Try.func5
    (ChangeSpec.witness6 (enc := enc) (C := Try.checked) false ⟨#[], #[.slice none 0 0], []⟩ 8 (by kernel_rfl) (by kernel_rfl) (by kernel_rfl) (by kernel_rfl)) ?_
  intro W base args ds gs before hval0 hW hcnd _
  have hval : ∀ (j : Nat) t v, Try.f5.params[j]? = some t → args[j]? = some v → Value.okWide Try.prog W .any base t v := hval0
  have hW' := hW
  obtain ⟨p, q, hA0, hV, rfl, hfz, hnd⟩ := hW
  have hA : DataW.TrodAll enc Try.prog W 0 (fun _ => true) true Try.f5.params.toList args.toList ds p := hA0
  rw [Try.params5] at hA hval
  obtain ⟨v0, vs0, d0, ds0, p0, q0, hargs, rfl, rfl, h0, r0⟩ := trodAll_cons hA
  obtain ⟨rfl, rfl, rfl⟩ := trodAll_nil r0
  obtain ⟨rfl, rfl⟩ := trodVars_none hV
  obtain rfl : args = #[v0] := by cases args; simp_all
  obtain ⟨b0, c0, e0, rfl⟩ := okWide_slice Try.underlying42 (hval 0 42 v0 rfl rfl)
  obtain ⟨fuel0, hf0⟩ := h0
  obtain ⟨ao0, len0, cap0, sb0, off0, X0, hv0, hI0⟩ := open_vws (show DataW.trod enc Try.prog W 0 (fun _ => true) true fuel0 42 [.slice b0 c0 e0] = some _ from hf0)
  injection hv0 with hv0x hv0y hv0z
  subst hv0x hv0y hv0z
  clear hA0 hval0
  refine (cellLearns_walk _ _ _ _ _ _ W hI0).mono fun e W' ⟨he, hg⟩ => ?_
  subst he
  exact ⟨_, rfl, Kit.law_post hW' rfl (by kernel_rfl) rfl (by kernel_rfl) hg⟩

theorem cellLearns_over : Rows.cellLearnsRow.holds Try.pinned (OpenSpec.ofChange Rows.cellLearnsSpec) :=
  OpenClaim.holds_of_wide 5 Try.f5 rfl rfl rfl rfl rfl rfl rfl ⟨rfl, rfl, rfl, rfl, rfl⟩ rfl rfl rfl rfl rfl (by kernel_rfl) Try.func5 (by kernel_rfl)
    (of_decide_eq_true (by kernel_rfl)) (by unfold Func.isWrapper; first | (rw [if_pos (by decide +kernel)]; kernel_rfl) | (rw [if_neg (by decide +kernel)]; exact ⟨rfl, rfl⟩))
    (fun os started H enc _ => cellLearns_lifted os started H enc)

theorem cellLearns_holds : Rows.CellLearnsSaid :=
  cellLearns_over
end Go.Proofs.Ytigkocdjllfhnaa.Celly
