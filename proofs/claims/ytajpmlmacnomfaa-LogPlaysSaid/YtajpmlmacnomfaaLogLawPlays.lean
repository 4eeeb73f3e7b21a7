/- Layer 13 (log): for every input the call returns true and leaves what it was given as it was: whatever is put, cut off, or slides in, the records are those that were put and are left, one behind the other (LogPlays). No condition. -/
import Derived.Test.YtajpmlmacnomfaaLogCalls
import Derived.Test.YtajpmlmacnomfaaBits
import Derived.Test.YtajpmlmacnomfaaKit
import Derived.Test.YtajpmlmacnomfaaLogAwake
import Derived.Test.YtajpmlmacnomfaaLogOpen
import Derived.Test.YtajpmlmacnomfaaRows
import Derived.Test.YtajpmlmacnomfaaRegion
import Derived.Test.YtajpmlmacnomfaaLogActs
import Derived.Test.YtajpmlmacnomfaaLogDo
import Derived.Deep.DeepCutAuto
import Derived.Lib.Hide
import Derived.BigQuiet
namespace Go.Proofs.Ytajpmlmacnomfaa.Logy
open Go.ChangeShapes Go.WideShapes Go.ChangeAt Go.RowKit
open Wirey (Blk Row str str_size str_list str_cat Kp)
open Regy Slsy

/-- The law's round: the program's log and the model's box. -/
structure Pl (w W : World) (P : Nat → Prop) (p base most : Nat) (l : List Rc) (MB : Nat) (v : Value) : Prop where
  held : HeldL w W P p base most l
  box : Blk W MB 30 #[.int .u64 (base : Int), v, .int .i64 (most : Int)]
  vw : Vw W Rc.enc 9 v l
  no : ∀ g, v.ownBlock = some g → ¬ P g ∧ g ≠ MB
  nM : ¬ P MB
  lM : w.heap.size ≤ MB
  bel : Below w.heap.size w W
theorem Pl.below {w W W' : World} {P : Nat → Prop} {p base most : Nat} {l : List Rc} {MB : Nat} {v : Value} (h : Pl w W P p base most l MB v) (hb : Below W.heap.size W W') : Pl w W' P p base most l MB v :=
  ⟨h.held.below hb, h.box.below hb h.box.lt, h.vw.below hb, h.no, h.nM, h.lM, h.bel.trans (hb.mono h.bel.size)⟩
theorem room_z {w0 w : World} {P : Nat → Prop} {b base most : Nat} {l : List Rc} (h : HeldL w0 w P b base most l) : Calls Try.prog 15 #[lp b] w fun e w' => e = .returned (.int .i64 ((most : Int) - (l.length : Int))) ∧ Below w.heap.size w w' :=
  (room_c h).mono fun e w' h1 => ⟨h1.1.trans (by rw [show ((most - l.length : Nat) : Int) = (most : Int) - (l.length : Int) by have := h.le; omega]), h1.2⟩
theorem from_whole {base : Nat} {l : List Rc} (h : l.length ≤ 100) : fromL base l base 100 = l ∧ inL base l base = true := by
  unfold fromL inL
  rw [if_pos (by omega), Nat.sub_self, List.drop_zero, List.take_of_length_le (by show l.length ≤ 100; exact h)]
  exact ⟨rfl, by simp⟩
set_option maxHeartbeats 8000000 in
set_option maxRecDepth 100000 in
theorem logPlays_walk (b0 : Nat) (_hb0 : b0 < 18446744073709551616) (n0 : Int) (_hn : (Lit.int .i64 n0).wf = true) (ao : Option Addr) (len cap sb off : Nat) (K : Nat → Int) (A U : Nat → Nat) (w : World) (hA : Acts w ao len sb off K A U) :
    Calls Try.prog 3 #[.int .u64 (b0 : Int), .int .i64 n0, .slice ao len cap] w fun e w' => e = .returned (.bool true) ∧ Below w.heap.size w w' := by
  obtain ⟨q, hq, hqe⟩ := Bity.i64_cut 15 4 rfl (by omega) n0
  have hqe2 : bits .and .i64 n0 15 = (q : Int) := hqe
  clear hqe
  obtain ⟨b, hbl, hbe⟩ := Bity.u64_cut 65535 16 rfl (by omega) (b0 : Int)
  have hbe2 : bits .and .u64 (b0 : Int) 65535 = (b : Int) := hbe
  clear hbe
  have hmost : len ≤ maxLen := by obtain ⟨C, a, -⟩ := hA.arr; exact a.most
  unfold maxLen at hmost
  obtain ⟨n, hn⟩ : ∃ n, n = 1 + q := ⟨_, rfl⟩
  have hnI : 1 + (q : Int) = (n : Int) := by omega
  have hq1 : IntKind.i64.wrap (1 + (q : Int)) = (n : Int) := by rw [IntKind.wrap_i64]; omega
  have hn16 : 1 ≤ n ∧ n ≤ 16 := by omega
  have HN := Lib.hid hn
  have HNI := Lib.hid hnI
  clear hn hnI
  go_enter Try.func3, Try.ntmps3
  go_wp2_with fail
  refine (new_ok b n (by omega) (by omega) _).mono ?_
  rintro e w1 ⟨P0, p, rfl, hH, hb⟩
  have hP : Pl w (w1.alloc (.cells #[.int .u64 (b : Int), .slice none 0 0, .int .i64 (n : Int)] 30)) P0 p b n [] w1.heap.size (.slice none 0 0) := by
    have hb2 := (Below.refl _ w1).alloc (Nat.le_refl _) (.cells #[.int .u64 (b : Int), .slice none 0 0, .int .i64 (n : Int)] 30)
    exact ⟨hH.below hb2, Blk.new w1 30 _, ⟨none, 0, rfl, Nat.le_refl _, Nat.zero_le _, fun _ => rfl, (fun _ e => nomatch e), fun i x hx => nomatch hx⟩, (fun g hg => nomatch hg), fun hp => by have := (hH.low _ hp).2; omega, hb.size, hb.trans (hb2.mono hb.size)⟩
  clear hH hb
  go_upto_region 4 with (fail)
  generalize w1.alloc (.cells _ 30) = w2 at *
  generalize w1.heap.size = MB at *
  go_wp2_with fail
  refine (awake_c _).mono ?_
  rintro e w3 ⟨rfl, hbn⟩
  have hP2 := hP.below hbn
  clear hP hbn
  go_wp2_with fail
  go_loopw [12] (fun i wr => ∃ (j : Nat) (P : Nat → Prop) (base : Nat) (l : List Rc) (v : Value), j ≤ len ∧ j ≤ 60 ∧ i = .int .i64 j ∧ base + l.length ≤ 65535 + j ∧ Pl w wr P p base n l MB v) (fun i _ => len - (intOf i).toNat)
  case atStart => exact ⟨0, P0, b, [], _, by omega, by omega, rfl, by simp; omega, hP2⟩
  case round =>
    clear hP2
    obtain ⟨j, P, base, l, v, hj, hj60, rfl, hbl2, hP⟩ := hrel
    by_cases h3 : j < len ∧ j < 60
    · have hlt : (j : Int) < (len : Int) := by omega
      have h60 : (j : Int) < 60 := by omega
      have d1 : decide ((j : Int) < (len : Int)) = true := decide_eq_true hlt
      have d2 : decide ((j : Int) < 60) = true := decide_eq_true h60
      have hnum := hA.num j h3.1
      have hao := (hA.at_ h3.1).1
      have hce : ∀ {W : World}, W.heap[sb]? = w.heap[sb]? → W.cell? ⟨sb, off + j * 3, none⟩ = some (.int .i64 (K j)) ∧ W.cell? ⟨sb, off + j * 3 + 1, none⟩ = some (.int .u64 (A j : Int)) ∧ W.cell? ⟨sb, off + j * 3 + 2, none⟩ = some (.int .u64 (U j : Int)) := fun hW => by
        obtain ⟨-, e1, e2, e3⟩ := hA.at_ h3.1
        exact ⟨(World.cell?_of_block (a := ⟨sb, off + j * 3, none⟩) hW).trans e1, (World.cell?_of_block (a := ⟨sb, off + j * 3 + 1, none⟩) hW).trans e2, (World.cell?_of_block (a := ⟨sb, off + j * 3 + 2, none⟩) hW).trans e3⟩
      have hsb : sb < w.heap.size := by obtain ⟨C, a, -⟩ := hA.arr; exact a.lt (by omega)
      subst hao
      generalize K j = kd at *
      generalize A j = at_ at *
      generalize U j = num at *
      skip
      have hdo := fun {W : World} (hW : Pl w W P p base n l MB v) => mdo_c (w0 := w) (w := W) (P := P) (b := p) (base := base) (most := n) (l := l) (v := v) kd at_ num hnum.1 hnum.2 (by omega) hW.held hW.vw (fun g hg => (hW.no g hg).1)
      obtain ⟨va, vc, rfl, hvc1, hvc2⟩ := hP.vw.form
      have hle := hP.held.le
      go_upto_region 9 with (fail)
      go_cut [13, 14] from 38 (fun s13 s14 wx => ∃ (KB : Nat) (P' : Nat → Prop) (base' : Nat) (l' : List Rc) (v' : Value), s13 = .pointer (some ⟨KB, 0, none⟩) ∧ s14 = .bool true ∧ HeldL w wx P' p base' n l' ∧ Blk wx MB 30 #[.int .u64 (base : Int), .slice va l.length vc, .int .i64 (n : Int)] ∧ Blk wx KB 30 #[.int .u64 (base' : Int), v', .int .i64 (n : Int)] ∧ Vw wx Rc.enc 9 v' l' ∧ (∀ g, v'.ownBlock = some g → ¬ P' g ∧ g ≠ MB) ∧ ¬ P' MB ∧ KB ≠ MB ∧ Below w.heap.size w wx ∧ base' + l'.length ≤ base + l.length + 1)
      case first =>
        have cs : ∀ {W : World}, Blk W MB 30 #[.int .u64 (base : Int), .slice va l.length vc, .int .i64 (n : Int)] → Below w.heap.size w W → (fun W => W.cell? ⟨MB, 0, none⟩ = some (.int .u64 (base : Int)) ∧ W.cell? ⟨MB, 1, none⟩ = some (.slice va l.length vc) ∧ W.cell? ⟨MB, 2, none⟩ = some (.int .i64 (n : Int)) ∧ W.cell? ⟨sb, off + j * 3, none⟩ = some (.int .i64 kd) ∧ W.cell? ⟨sb, off + j * 3 + 1, none⟩ = some (.int .u64 (at_ : Int)) ∧ W.cell? ⟨sb, off + j * 3 + 2, none⟩ = some (.int .u64 (num : Int))) W := fun {W} h1 h2 => ⟨h1.cell 0, h1.cell 1, h1.cell 2, hce (h2.block sb hsb)⟩
        have hPd : Pl w wr.drew P p base n l MB (.slice va l.length vc) := hP.below (Below.refl _ wr).drew
        have h1 := cs hPd.box hPd.bel
        dsimp only at h1
        refine region_only 13 #[false, false, false, false, false, false, false, false, false, false, false, false, false] (S := (fun W => W.cell? ⟨MB, 0, none⟩ = some (.int .u64 (base : Int)) ∧ W.cell? ⟨MB, 1, none⟩ = some (.slice va l.length vc) ∧ W.cell? ⟨MB, 2, none⟩ = some (.int .i64 (n : Int)) ∧ W.cell? ⟨sb, off + j * 3, none⟩ = some (.int .i64 kd) ∧ W.cell? ⟨sb, off + j * 3 + 1, none⟩ = some (.int .u64 (at_ : Int)) ∧ W.cell? ⟨sb, off + j * 3 + 2, none⟩ = some (.int .u64 (num : Int)))) rfl rfl (by kernel_rfl) h1 (fun hSw => ?_)
        generalize wr.drew = wd at *
        clear h1
        refine take_at 0 49 (fuel := 12) ?_ rfl rfl (by kernel_rfl) (by kernel_rfl) (by kernel_rfl) (Or.inl ⟨by rfl, ?_⟩) hSw ?_
        rotate_left
        · intro wx hSx
          (try dsimp only at hSx)
          go_split_ands
          go_simp
          (try with_reducible rfl)
        simp only [List.setIfInBounds_toArray, List.set_cons_zero, List.set_cons_succ]
        refine take_at 1 50 (fuel := 11) ?_ rfl rfl (by kernel_rfl) (by kernel_rfl) (by kernel_rfl) (Or.inl ⟨by rfl, ?_⟩) hSw ?_
        rotate_left
        · intro wx hSx
          (try dsimp only at hSx)
          go_split_ands
          go_simp
          (try with_reducible rfl)
        simp only [List.setIfInBounds_toArray, List.set_cons_zero, List.set_cons_succ]
        refine take_at 2 51 (fuel := 10) ?_ rfl rfl (by kernel_rfl) (by kernel_rfl) (by kernel_rfl) (Or.inl ⟨by rfl, ?_⟩) hSw ?_
        rotate_left
        · intro wx hSx
          (try dsimp only at hSx)
          go_split_ands
          go_simp
          (try with_reducible rfl)
        simp only [List.setIfInBounds_toArray, List.set_cons_zero, List.set_cons_succ]
        refine take_at 3 52 (fuel := 9) ?_ rfl rfl (by kernel_rfl) (by kernel_rfl) (by kernel_rfl) (Or.inl ⟨by rfl, ?_⟩) hSw ?_
        rotate_left
        · intro wx hSx
          (try dsimp only at hSx)
          go_split_ands
          go_simp
          (try with_reducible rfl)
        simp only [List.setIfInBounds_toArray, List.set_cons_zero, List.set_cons_succ]
        refine take_at 4 53 (fuel := 8) ?_ rfl rfl (by kernel_rfl) (by kernel_rfl) (by kernel_rfl) (Or.inl ⟨by rfl, ?_⟩) hSw ?_
        rotate_left
        · intro wx hSx
          (try dsimp only at hSx)
          go_split_ands
          go_simp
          (try with_reducible rfl)
        simp only [List.setIfInBounds_toArray, List.set_cons_zero, List.set_cons_succ]
        refine take_at 5 54 (fuel := 7) ?_ rfl rfl (by kernel_rfl) (by kernel_rfl) (by kernel_rfl) (Or.inl ⟨by rfl, ?_⟩) hSw ?_
        rotate_left
        · intro wx hSx
          (try dsimp only at hSx)
          go_split_ands
          go_simp
          (try with_reducible rfl)
        simp only [List.setIfInBounds_toArray, List.set_cons_zero, List.set_cons_succ]
        refine wpAnyH_ready (fuel := 6) (rs := [6, 10]) (by kernel_rfl) (by simp) (AllReadyH.cons rfl (fun K hK => ?_) (AllReadyH.cons rfl (fun K hK => ?_) AllReadyH.nil))
        · skip
          go_simp
          refine Calls.mono (hdo hPd) ?_
          rintro e wv ⟨P1, base1, l1, v1, rfl, hH1, hv1, hno1, hM1, hb1, hsr1⟩
          have hbm1 := (hM1.kp.block MB hPd.box.lt hPd.nM).trans hPd.box
          have hbel1 := HeldL.mv hM1 hPd.bel hPd.held
          have hvM : ∀ g, v1.ownBlock = some g → g ≠ MB := fun g hg => (hsr1 g hg).elim (fun h => (hPd.no g h).2) fun h => by have := hPd.box.lt; omega
          have hnM1 : ¬ P1 MB := fun hp => (hM1.new MB hp).elim hPd.nM fun h => by have := hPd.box.lt; omega
          refine hK.out _ _ (cs hbm1 hbel1) (fun hSw => ?_)
          clear hK K
          simp only [List.setIfInBounds_toArray, List.set_cons_zero, List.set_cons_succ]
          refine take_at 7 48 (fuel := 5) ?_ rfl rfl (by kernel_rfl) (by kernel_rfl) (by kernel_rfl) (Or.inl ⟨by rfl, ?_⟩) hSw ?_
          rotate_left
          · intro wx hSx
            (try dsimp only at hSx)
            go_split_ands
            go_simp
            (try with_reducible rfl)
          simp only [List.setIfInBounds_toArray, List.set_cons_zero, List.set_cons_succ]
          refine take_at 8 56 (fuel := 4) ?_ rfl rfl (by kernel_rfl) (by kernel_rfl) (by kernel_rfl) (Or.inl ⟨by rfl, ?_⟩) hSw ?_
          rotate_left
          · intro wx hSx
            (try dsimp only at hSx)
            go_split_ands
            go_simp
            (try with_reducible rfl)
          simp only [List.setIfInBounds_toArray, List.set_cons_zero, List.set_cons_succ]
          refine take_at 9 57 (fuel := 3) ?_ rfl rfl (by kernel_rfl) (by kernel_rfl) (by kernel_rfl) (Or.inl ⟨by rfl, ?_⟩) hSw ?_
          rotate_left
          · intro wx hSx
            (try dsimp only at hSx)
            go_split_ands
            go_simp
            (try with_reducible rfl)
          simp only [List.setIfInBounds_toArray, List.set_cons_zero, List.set_cons_succ]
          refine wpAnyH_ready (fuel := 2) (rs := [10]) (by kernel_rfl) (by simp) (AllReadyH.cons rfl (fun K hK => ?_) AllReadyH.nil)
          go_simp
          have ex := (Below.refl _ wv).alloc (Nat.le_refl _) (.cells #[.int .u64 0, .slice none 0 0, .int .i64 0] 30)
          have hK0 := Blk.new wv 30 #[.int .u64 0, .slice none 0 0, .int .i64 0]
          have hKP : ¬ P1 wv.heap.size := fun hp => by have := (hH1.low _ hp).2; omega
          have hKM : wv.heap.size ≠ MB := fun e => by have h9 : MB < wv.heap.size := Blk.lt hbm1; omega
          have hKw := hbel1.size
          have hKv : ∀ g, v1.ownBlock = some g → g ≠ wv.heap.size := fun g hg e => by have := hv1.lt g hg; omega
          have hH1 := hH1.below ex
          have hv1 := hv1.below ex
          have hbm1 := Blk.below hbm1 ex (Blk.lt hbm1)
          have hbel1 := hbel1.trans (ex.mono hbel1.size)
          clear ex
          refine hK.out _ _ (cs hbm1 hbel1) (fun hSw => ?_)
          clear hK K
          simp only [List.setIfInBounds_toArray, List.set_cons_zero, List.set_cons_succ]
          generalize hwz : wv.alloc (.cells _ 30) = wz at *
          clear hwz
          generalize wv.heap.size = KB at *
          have z0 := hK0.free 0
          have z1 := hK0.free 1
          have z2 := hK0.free 2
          have y0 := hK0.cell 0
          have y1 := hK0.cell 1
          have y2 := hK0.cell 2
          simp only [List.getElem?_toArray, List.getElem?_cons_zero, List.getElem?_cons_succ] at y0 y1 y2
          obtain ⟨a1, c1, rfl, -, -⟩ := hv1.form
          have hKK := ((hK0.put 0 (.int .u64 (base1 : Int))).put 1 (.slice a1 l1.length c1)).put 2 (.int .i64 (n : Int))
          simp only [List.setIfInBounds_toArray, List.set_cons_zero, List.set_cons_succ] at hKK
          have hkp : Kp (fun k => k = KB) wz (((wz.setCell ⟨KB, 0, none⟩ (.int .u64 (base1 : Int))).setCell ⟨KB, 1, none⟩ (.slice a1 l1.length c1)).setCell ⟨KB, 2, none⟩ (.int .i64 (n : Int))) := (((Kp.refl (fun k => k = KB) wz).set (p := ⟨KB, 0, none⟩) rfl _).set (p := ⟨KB, 1, none⟩) rfl _).set (p := ⟨KB, 2, none⟩) rfl _
          have hHz := hH1.kp hkp fun k hp e => hKP (e ▸ hp)
          have hbmz := hkp.blk hbm1 (fun e => hKM e.symm)
          have hvz := hv1.stay hkp.size fun g hg => hkp.block g (hv1.lt g hg) (hKv g hg)
          have hbz := ((hbel1.setCell (p := ⟨KB, 0, none⟩) hKw (.int .u64 (base1 : Int))).setCell (p := ⟨KB, 1, none⟩) hKw (.slice a1 l1.length c1)).setCell (p := ⟨KB, 2, none⟩) hKw (.int .i64 (n : Int))
          have HKK := Lib.hid hKK
          have HHz := Lib.hid hHz
          have HBM := Lib.hid hbmz
          have HVz := Lib.hid hvz
          have HBz := Lib.hid hbz
          clear hKK hHz hbmz hvz hbz hkp
          refine wpAnyH_ready (fuel := 1) (rs := [11]) (by kernel_rfl) (by simp) (AllReadyH.cons rfl (fun K hK => ?_) AllReadyH.nil)
          go_simp
          refine hK.out _ _ (cs HBM.out HBz.out) (fun hSw => ?_)
          clear hK K
          simp only [List.setIfInBounds_toArray, List.set_cons_zero, List.set_cons_succ]
          refine take_at 12 14 (fuel := 0) ?_ rfl rfl (by kernel_rfl) (by kernel_rfl) (by kernel_rfl) (Or.inl ⟨by rfl, ?_⟩) hSw ?_
          rotate_left
          · intro wx hSx
            (try dsimp only at hSx)
            go_split_ands
            go_simp
            (try with_reducible rfl)
          simp only [List.setIfInBounds_toArray, List.set_cons_zero, List.set_cons_succ]
          refine wpAnyH_done (by kernel_rfl) ⟨rfl, ?_⟩ 0
          go_wp2_with fail
          go_meet
          exact ⟨KB, P1, base1, l1, _, rfl, rfl, HHz.out, HBM.out, HKK.out, HVz.out, fun g hg => ⟨hno1 g hg, hvM g hg⟩, hnM1, hKM, HBz.out, hb1⟩
        · skip
          go_simp
          have ex := (Below.refl _ wd).alloc (Nat.le_refl _) (.cells #[.int .u64 0, .slice none 0 0, .int .i64 0] 30)
          have hK00 := Blk.new wd 30 #[.int .u64 0, .slice none 0 0, .int .i64 0]
          have hPe := hPd.below ex
          have hKP0 : ¬ P wd.heap.size := fun hp => by have := (hPd.held.low _ hp).2; omega
          have hKM : wd.heap.size ≠ MB := fun e => by have := hPd.box.lt; omega
          have hKw := hPd.bel.size
          have hKo : ∀ g, (Value.slice va l.length vc).ownBlock = some g → g ≠ wd.heap.size := fun g hg e => by have := hPd.vw.lt g hg; omega
          clear ex
          refine hK.out _ _ (cs hPe.box hPe.bel) (fun hSw => ?_)
          clear hK K
          simp only [List.setIfInBounds_toArray, List.set_cons_zero, List.set_cons_succ]
          generalize hwz : wd.alloc (.cells _ 30) = wy at *
          clear hwz
          generalize wd.heap.size = KB at *
          refine wpAnyH_ready (fuel := 5) (rs := [6]) (by kernel_rfl) (by simp) (AllReadyH.cons rfl (fun K hK => ?_) AllReadyH.nil)
          go_simp
          refine Calls.mono (hdo hPe) ?_
          rintro e wv ⟨P1, base1, l1, v1, rfl, hH1, hv1, hno1, hM1, hb1, hsr1⟩
          have hbm1 := (hM1.kp.block MB hPe.box.lt hPe.nM).trans hPe.box
          have hbel1 := HeldL.mv hM1 hPe.bel hPe.held
          have hvM : ∀ g, v1.ownBlock = some g → g ≠ MB := fun g hg => (hsr1 g hg).elim (fun h => (hPe.no g h).2) fun h => by have := hPe.box.lt; omega
          have hnM1 : ¬ P1 MB := fun hp => (hM1.new MB hp).elim hPe.nM fun h => by have := hPe.box.lt; omega
          have hKv : ∀ g, v1.ownBlock = some g → g ≠ KB := fun g hg => (hsr1 g hg).elim (fun h => hKo g h) fun h => by have := hK00.lt; omega
          have hK0 : Blk wv KB 30 #[.int .u64 0, .slice none 0 0, .int .i64 0] := (hM1.kp.block KB hK00.lt hKP0).trans hK00
          have hKP : ¬ P1 KB := fun hp => (hM1.new KB hp).elim hKP0 fun h => by have := hK00.lt; omega
          refine hK.out _ _ (cs hbm1 hbel1) (fun hSw => ?_)
          clear hK K
          simp only [List.setIfInBounds_toArray, List.set_cons_zero, List.set_cons_succ]
          refine take_at 7 48 (fuel := 4) ?_ rfl rfl (by kernel_rfl) (by kernel_rfl) (by kernel_rfl) (Or.inl ⟨by rfl, ?_⟩) hSw ?_
          rotate_left
          · intro wx hSx
            (try dsimp only at hSx)
            go_split_ands
            go_simp
            (try with_reducible rfl)
          simp only [List.setIfInBounds_toArray, List.set_cons_zero, List.set_cons_succ]
          refine take_at 8 56 (fuel := 3) ?_ rfl rfl (by kernel_rfl) (by kernel_rfl) (by kernel_rfl) (Or.inl ⟨by rfl, ?_⟩) hSw ?_
          rotate_left
          · intro wx hSx
            (try dsimp only at hSx)
            go_split_ands
            go_simp
            (try with_reducible rfl)
          simp only [List.setIfInBounds_toArray, List.set_cons_zero, List.set_cons_succ]
          refine take_at 9 57 (fuel := 2) ?_ rfl rfl (by kernel_rfl) (by kernel_rfl) (by kernel_rfl) (Or.inl ⟨by rfl, ?_⟩) hSw ?_
          rotate_left
          · intro wx hSx
            (try dsimp only at hSx)
            go_split_ands
            go_simp
            (try with_reducible rfl)
          simp only [List.setIfInBounds_toArray, List.set_cons_zero, List.set_cons_succ]
          generalize wv = wz at *
          have z0 := hK0.free 0
          have z1 := hK0.free 1
          have z2 := hK0.free 2
          have y0 := hK0.cell 0
          have y1 := hK0.cell 1
          have y2 := hK0.cell 2
          simp only [List.getElem?_toArray, List.getElem?_cons_zero, List.getElem?_cons_succ] at y0 y1 y2
          obtain ⟨a1, c1, rfl, -, -⟩ := hv1.form
          have hKK := ((hK0.put 0 (.int .u64 (base1 : Int))).put 1 (.slice a1 l1.length c1)).put 2 (.int .i64 (n : Int))
          simp only [List.setIfInBounds_toArray, List.set_cons_zero, List.set_cons_succ] at hKK
          have hkp : Kp (fun k => k = KB) wz (((wz.setCell ⟨KB, 0, none⟩ (.int .u64 (base1 : Int))).setCell ⟨KB, 1, none⟩ (.slice a1 l1.length c1)).setCell ⟨KB, 2, none⟩ (.int .i64 (n : Int))) := (((Kp.refl (fun k => k = KB) wz).set (p := ⟨KB, 0, none⟩) rfl _).set (p := ⟨KB, 1, none⟩) rfl _).set (p := ⟨KB, 2, none⟩) rfl _
          have hHz := hH1.kp hkp fun k hp e => hKP (e ▸ hp)
          have hbmz := hkp.blk hbm1 (fun e => hKM e.symm)
          have hvz := hv1.stay hkp.size fun g hg => hkp.block g (hv1.lt g hg) (hKv g hg)
          have hbz := ((hbel1.setCell (p := ⟨KB, 0, none⟩) hKw (.int .u64 (base1 : Int))).setCell (p := ⟨KB, 1, none⟩) hKw (.slice a1 l1.length c1)).setCell (p := ⟨KB, 2, none⟩) hKw (.int .i64 (n : Int))
          have HKK := Lib.hid hKK
          have HHz := Lib.hid hHz
          have HBM := Lib.hid hbmz
          have HVz := Lib.hid hvz
          have HBz := Lib.hid hbz
          clear hKK hHz hbmz hvz hbz hkp
          refine wpAnyH_ready (fuel := 1) (rs := [11]) (by kernel_rfl) (by simp) (AllReadyH.cons rfl (fun K hK => ?_) AllReadyH.nil)
          go_simp
          refine hK.out _ _ (cs HBM.out HBz.out) (fun hSw => ?_)
          clear hK K
          simp only [List.setIfInBounds_toArray, List.set_cons_zero, List.set_cons_succ]
          refine take_at 12 14 (fuel := 0) ?_ rfl rfl (by kernel_rfl) (by kernel_rfl) (by kernel_rfl) (Or.inl ⟨by rfl, ?_⟩) hSw ?_
          rotate_left
          · intro wx hSx
            (try dsimp only at hSx)
            go_split_ands
            go_simp
            (try with_reducible rfl)
          simp only [List.setIfInBounds_toArray, List.set_cons_zero, List.set_cons_succ]
          refine wpAnyH_done (by kernel_rfl) ⟨rfl, ?_⟩ 0
          go_wp2_with fail
          go_meet
          exact ⟨KB, P1, base1, l1, _, rfl, rfl, HHz.out, HBM.out, HKK.out, HVz.out, fun g hg => ⟨hno1 g hg, hvM g hg⟩, hnM1, hKM, HBz.out, hb1⟩
      case rest =>
        obtain ⟨KB, P', base', l', v', rfl, rfl, hH, hbm, hbk, hv, hno, hnM, hKM, hbel, hlen⟩ := hcut
        obtain ⟨a', c', rfl, hc1, hc2⟩ := hv.form
        have k0 : wc.cell? ⟨KB, 0, none⟩ = some (.int .u64 (base' : Int)) := hbk.cell 0
        have k1 : wc.cell? ⟨KB, 1, none⟩ = some (.slice a' l'.length c') := hbk.cell 1
        have k2 : wc.cell? ⟨KB, 2, none⟩ = some (.int .i64 (n : Int)) := hbk.cell 2
        have m0 : wc.cell? ⟨MB, 0, none⟩ = some (.int .u64 (base : Int)) := hbm.cell 0
        have m1 : wc.cell? ⟨MB, 1, none⟩ = some (.slice va l.length vc) := hbm.cell 1
        have m2 : wc.cell? ⟨MB, 2, none⟩ = some (.int .i64 (n : Int)) := hbm.cell 2
        have f0 := hbm.free 0
        have f1 := hbm.free 1
        have f2 := hbm.free 2
        have hle' := hH.le
        have hlM := hP.lM
        have hP2 : Pl w (((wc.setCell ⟨MB, 0, none⟩ (.int .u64 (base' : Int))).setCell ⟨MB, 1, none⟩ (.slice a' l'.length c')).setCell ⟨MB, 2, none⟩ (.int .i64 (n : Int))) P' p base' n l' MB (.slice a' l'.length c') := by
          have hK : Kp (fun k => k = MB) wc (((wc.setCell ⟨MB, 0, none⟩ (.int .u64 (base' : Int))).setCell ⟨MB, 1, none⟩ (.slice a' l'.length c')).setCell ⟨MB, 2, none⟩ (.int .i64 (n : Int))) :=
            (((Kp.refl (fun k => k = MB) wc).set (p := ⟨MB, 0, none⟩) rfl _).set (p := ⟨MB, 1, none⟩) rfl _).set (p := ⟨MB, 2, none⟩) rfl _
          have hT := ((hbm.put 0 (.int .u64 (base' : Int))).put 1 (.slice a' l'.length c')).put 2 (.int .i64 (n : Int))
          simp only [List.setIfInBounds_toArray, List.set_cons_zero, List.set_cons_succ] at hT
          exact ⟨hH.kp hK fun k hp e => hnM (e ▸ hp), hT, hv.stay hK.size fun g hg => hK.block g (hv.lt g hg) (hno g hg).2, hno, hnM, hlM,
            ((hbel.setCell (p := ⟨MB, 0, none⟩) hlM (.int .u64 (base' : Int))).setCell (p := ⟨MB, 1, none⟩) hlM (.slice a' l'.length c')).setCell (p := ⟨MB, 2, none⟩) hlM (.int .i64 (n : Int))⟩
        clear hH hbm hbk hv hno hnM hbel hP hdo
        go_upto_region 11 with (fail)
        generalize ((wc.setCell ⟨MB, 0, none⟩ (.int .u64 (base' : Int))).setCell ⟨MB, 1, none⟩ (.slice a' l'.length c')).setCell ⟨MB, 2, none⟩ (.int .i64 (n : Int)) = w4 at *
        clear k0 k1 k2 m0 m1 m2 f0 f1 f2
        have m0 : w4.cell? ⟨MB, 0, none⟩ = some (.int .u64 (base' : Int)) := hP2.box.cell 0
        go_wp2_with fail
        refine (from_c base' (by omega) 100 (by omega) (by omega) hP2.held).mono ?_
        rintro e w5 ⟨vg, rfl, hog, hb5⟩
        obtain ⟨x1, x2⟩ := from_whole (base := base') (l := l') (by omega)
        rw [x1] at hog
        rw [x2]
        clear x1 x2 m0
        obtain ⟨ga, gc, rfl⟩ := hog.form
        have hP3 := hP2.below hb5
        have hog3 := hog.low (B' := w.heap.size) hP2.bel.size
        clear hP2 hog hb5
        go_upto_region 12 with (fail)
        have mk : ∀ W, Below w5.heap.size w5 W → W.cell? ⟨MB, 0, none⟩ = some (.int .u64 (base' : Int)) ∧ W.cell? ⟨MB, 1, none⟩ = some (.slice a' l'.length c') ∧ W.cell? ⟨MB, 2, none⟩ = some (.int .i64 (n : Int)) ∧ Below w5.heap.size w5 W := fun W hW => by
          have q := hP3.box.below hW hP3.box.lt
          exact ⟨q.cell 0, q.cell 1, q.cell 2, hW⟩
        have hwr : IntKind.i64.wrap ((n : Int) - (l'.length : Int)) = (n : Int) - (l'.length : Int) := IntWalk.i64_in _ (by omega)
        refine region_only 38 #[false, false, false, false, false, false, false, false, false, false, false, false, false, false, false, false, false, false, false, false, false, false, false, false, false, false, false, false, false, false, false, false, false, false, false, false, false, false] (S := fun W => W.cell? ⟨MB, 0, none⟩ = some (.int .u64 (base' : Int)) ∧ W.cell? ⟨MB, 1, none⟩ = some (.slice a' l'.length c') ∧ W.cell? ⟨MB, 2, none⟩ = some (.int .i64 (n : Int)) ∧ Below w5.heap.size w5 W) rfl rfl (by kernel_rfl) (mk _ (Below.refl _ _).drew) (fun hSw => ?_)
        refine take_at 0 66 (fuel := 37) ?_ rfl rfl (by kernel_rfl) (by kernel_rfl) (by kernel_rfl) (Or.inl ⟨by rfl, ?_⟩) hSw ?_
        rotate_left
        · intro wx hSx
          (try dsimp only at hSx)
          go_split_ands
          go_simp
          (try with_reducible rfl)
        simp only [List.setIfInBounds_toArray, List.set_cons_zero, List.set_cons_succ]
        refine take_at 1 67 (fuel := 36) ?_ rfl rfl (by kernel_rfl) (by kernel_rfl) (by kernel_rfl) (Or.inl ⟨by rfl, ?_⟩) hSw ?_
        rotate_left
        · intro wx hSx
          (try dsimp only at hSx)
          go_split_ands
          go_simp
          (try with_reducible rfl)
        simp only [List.setIfInBounds_toArray, List.set_cons_zero, List.set_cons_succ]
        refine take_at 2 68 (fuel := 35) ?_ rfl rfl (by kernel_rfl) (by kernel_rfl) (by kernel_rfl) (Or.inl ⟨by rfl, ?_⟩) hSw ?_
        rotate_left
        · intro wx hSx
          (try dsimp only at hSx)
          go_split_ands
          go_simp
          (try with_reducible rfl)
        simp only [List.setIfInBounds_toArray, List.set_cons_zero, List.set_cons_succ]
        refine take_at 3 69 (fuel := 34) ?_ rfl rfl (by kernel_rfl) (by kernel_rfl) (by kernel_rfl) (Or.inl ⟨by rfl, ?_⟩) hSw ?_
        rotate_left
        · intro wx hSx
          (try dsimp only at hSx)
          go_split_ands
          go_simp
          (try with_reducible rfl)
        simp only [List.setIfInBounds_toArray, List.set_cons_zero, List.set_cons_succ]
        refine take_at 5 71 (fuel := 33) ?_ rfl rfl (by kernel_rfl) (by kernel_rfl) (by kernel_rfl) (Or.inl ⟨by rfl, ?_⟩) hSw ?_
        rotate_left
        · intro wx hSx
          (try dsimp only at hSx)
          go_split_ands
          go_simp
          (try with_reducible rfl)
        simp only [List.setIfInBounds_toArray, List.set_cons_zero, List.set_cons_succ]
        refine take_at 6 72 (fuel := 32) ?_ rfl rfl (by kernel_rfl) (by kernel_rfl) (by kernel_rfl) (Or.inl ⟨by rfl, ?_⟩) hSw ?_
        rotate_left
        · intro wx hSx
          (try dsimp only at hSx)
          go_split_ands
          go_simp
          (try with_reducible rfl)
        simp only [List.setIfInBounds_toArray, List.set_cons_zero, List.set_cons_succ]
        refine wpAnyH_ready (fuel := 31) (rs := [4]) (by kernel_rfl) (by simp) (AllReadyH.cons rfl (fun K hK => ?_) AllReadyH.nil)
        go_simp
        refine Calls.mono (base_c (hP3.below hSw.2.2.2).held) ?_
        rintro e u1 ⟨rfl, hbv⟩
        refine hK.out _ _ (mk _ (hSw.2.2.2.trans (hbv.mono hSw.2.2.2.size))) (fun hSw => ?_)
        clear hK K
        simp only [List.setIfInBounds_toArray, List.set_cons_zero, List.set_cons_succ]
        refine take_at 7 73 (fuel := 30) ?_ rfl rfl (by kernel_rfl) (by kernel_rfl) (by kernel_rfl) (Or.inl ⟨by rfl, ?_⟩) hSw ?_
        rotate_left
        · intro wx hSx
          (try dsimp only at hSx)
          go_split_ands
          go_simp
          (try with_reducible rfl)
        simp only [List.setIfInBounds_toArray, List.set_cons_zero, List.set_cons_succ]
        refine take_at 8 74 (fuel := 29) ?_ rfl rfl (by kernel_rfl) (by kernel_rfl) (by kernel_rfl) (Or.inl ⟨by rfl, ?_⟩) hSw ?_
        rotate_left
        · intro wx hSx
          (try dsimp only at hSx)
          go_split_ands
          go_simp
          (try with_reducible rfl)
        simp only [List.setIfInBounds_toArray, List.set_cons_zero, List.set_cons_succ]
        refine take_at 9 75 (fuel := 28) ?_ rfl rfl (by kernel_rfl) (by kernel_rfl) (by kernel_rfl) (Or.inl ⟨by rfl, ?_⟩) hSw ?_
        rotate_left
        · intro wx hSx
          (try dsimp only at hSx)
          go_split_ands
          go_simp
          (try with_reducible rfl)
        simp only [List.setIfInBounds_toArray, List.set_cons_zero, List.set_cons_succ]
        refine take_at 10 76 (fuel := 27) ?_ rfl rfl (by kernel_rfl) (by kernel_rfl) (by kernel_rfl) (Or.inl ⟨by rfl, ?_⟩) hSw ?_
        rotate_left
        · intro wx hSx
          (try dsimp only at hSx)
          go_split_ands
          go_simp
          (try with_reducible rfl)
        simp only [List.setIfInBounds_toArray, List.set_cons_zero, List.set_cons_succ]
        refine take_at 12 78 (fuel := 26) ?_ rfl rfl (by kernel_rfl) (by kernel_rfl) (by kernel_rfl) (Or.inl ⟨by rfl, ?_⟩) hSw ?_
        rotate_left
        · intro wx hSx
          (try dsimp only at hSx)
          go_split_ands
          go_simp
          (try with_reducible rfl)
        simp only [List.setIfInBounds_toArray, List.set_cons_zero, List.set_cons_succ]
        refine wpAnyH_ready (fuel := 25) (rs := [11]) (by kernel_rfl) (by simp) (AllReadyH.cons rfl (fun K hK => ?_) AllReadyH.nil)
        go_simp
        refine Calls.mono (last_c (by omega) (hP3.below hSw.2.2.2).held) ?_
        rintro e u2 ⟨rfl, hbv⟩
        refine hK.out _ _ (mk _ (hSw.2.2.2.trans (hbv.mono hSw.2.2.2.size))) (fun hSw => ?_)
        clear hK K
        simp only [List.setIfInBounds_toArray, List.set_cons_zero, List.set_cons_succ]
        refine wpAnyH_ready (fuel := 24) (rs := [13]) (by kernel_rfl) (by simp) (AllReadyH.cons rfl (fun K hK => ?_) AllReadyH.nil)
        go_simp
        refine Calls.mono (mlast_c (by omega) (by omega) _) ?_
        rintro e u3 ⟨rfl, hbv⟩
        refine hK.out _ _ (mk _ (hSw.2.2.2.trans (hbv.mono hSw.2.2.2.size))) (fun hSw => ?_)
        clear hK K
        simp only [List.setIfInBounds_toArray, List.set_cons_zero, List.set_cons_succ]
        refine take_at 14 80 (fuel := 23) ?_ rfl rfl (by kernel_rfl) (by kernel_rfl) (by kernel_rfl) (Or.inl ⟨by rfl, ?_⟩) hSw ?_
        rotate_left
        · intro wx hSx
          (try dsimp only at hSx)
          go_split_ands
          go_simp
          (try with_reducible rfl)
        simp only [List.setIfInBounds_toArray, List.set_cons_zero, List.set_cons_succ]
        refine take_at 15 81 (fuel := 22) ?_ rfl rfl (by kernel_rfl) (by kernel_rfl) (by kernel_rfl) (Or.inl ⟨by rfl, ?_⟩) hSw ?_
        rotate_left
        · intro wx hSx
          (try dsimp only at hSx)
          go_split_ands
          go_simp
          (try with_reducible rfl)
        simp only [List.setIfInBounds_toArray, List.set_cons_zero, List.set_cons_succ]
        refine take_at 16 82 (fuel := 21) ?_ rfl rfl (by kernel_rfl) (by kernel_rfl) (by kernel_rfl) (Or.inl ⟨by rfl, ?_⟩) hSw ?_
        rotate_left
        · intro wx hSx
          (try dsimp only at hSx)
          go_split_ands
          go_simp
          (try with_reducible rfl)
        simp only [List.setIfInBounds_toArray, List.set_cons_zero, List.set_cons_succ]
        refine take_at 17 83 (fuel := 20) ?_ rfl rfl (by kernel_rfl) (by kernel_rfl) (by kernel_rfl) (Or.inl ⟨by rfl, ?_⟩) hSw ?_
        rotate_left
        · intro wx hSx
          (try dsimp only at hSx)
          go_split_ands
          go_simp
          (try with_reducible rfl)
        simp only [List.setIfInBounds_toArray, List.set_cons_zero, List.set_cons_succ]
        refine take_at 19 85 (fuel := 19) ?_ rfl rfl (by kernel_rfl) (by kernel_rfl) (by kernel_rfl) (Or.inl ⟨by rfl, ?_⟩) hSw ?_
        rotate_left
        · intro wx hSx
          (try dsimp only at hSx)
          go_split_ands
          go_simp
          (try with_reducible rfl)
        simp only [List.setIfInBounds_toArray, List.set_cons_zero, List.set_cons_succ]
        refine take_at 20 86 (fuel := 18) ?_ rfl rfl (by kernel_rfl) (by kernel_rfl) (by kernel_rfl) (Or.inl ⟨by rfl, ?_⟩) hSw ?_
        rotate_left
        · intro wx hSx
          (try dsimp only at hSx)
          go_split_ands
          go_simp
          (try with_reducible rfl)
        simp only [List.setIfInBounds_toArray, List.set_cons_zero, List.set_cons_succ]
        refine take_at 21 87 (fuel := 17) ?_ rfl rfl (by kernel_rfl) (by kernel_rfl) (by kernel_rfl) (Or.inl ⟨by rfl, ?_⟩) hSw ?_
        rotate_left
        · intro wx hSx
          (try dsimp only at hSx)
          go_split_ands
          go_simp
          (try with_reducible rfl)
        simp only [List.setIfInBounds_toArray, List.set_cons_zero, List.set_cons_succ]
        refine take_at 22 88 (fuel := 16) ?_ rfl rfl (by kernel_rfl) (by kernel_rfl) (by kernel_rfl) (Or.inl ⟨by rfl, ?_⟩) hSw ?_
        rotate_left
        · intro wx hSx
          (try dsimp only at hSx)
          go_split_ands
          go_simp
          (try with_reducible rfl)
        simp only [List.setIfInBounds_toArray, List.set_cons_zero, List.set_cons_succ]
        refine take_at 23 89 (fuel := 15) ?_ rfl rfl (by kernel_rfl) (by kernel_rfl) (by kernel_rfl) (Or.inl ⟨by rfl, ?_⟩) hSw ?_
        rotate_left
        · intro wx hSx
          (try dsimp only at hSx)
          go_split_ands
          go_simp
          (try with_reducible rfl)
        simp only [List.setIfInBounds_toArray, List.set_cons_zero, List.set_cons_succ]
        refine wpAnyH_ready (fuel := 14) (rs := [18]) (by kernel_rfl) (by simp) (AllReadyH.cons rfl (fun K hK => ?_) AllReadyH.nil)
        go_simp
        refine Calls.mono (room_z (hP3.below hSw.2.2.2).held) ?_
        rintro e u4 ⟨rfl, hbv⟩
        refine hK.out _ _ (mk _ (hSw.2.2.2.trans (hbv.mono hSw.2.2.2.size))) (fun hSw => ?_)
        clear hK K
        simp only [List.setIfInBounds_toArray, List.set_cons_zero, List.set_cons_succ]
        refine take_at 24 90 (fuel := 13) ?_ rfl rfl (by kernel_rfl) (by kernel_rfl) (by kernel_rfl) (Or.inl ⟨by rfl, ?_⟩) hSw ?_
        rotate_left
        · intro wx hSx
          (try dsimp only at hSx)
          go_split_ands
          go_simp
          (try with_reducible rfl)
        simp only [List.setIfInBounds_toArray, List.set_cons_zero, List.set_cons_succ]
        refine take_at 25 91 (fuel := 12) ?_ rfl rfl (by kernel_rfl) (by kernel_rfl) (by kernel_rfl) (Or.inl ⟨by rfl, ?_⟩) hSw ?_
        rotate_left
        · intro wx hSx
          (try dsimp only at hSx)
          go_split_ands
          go_simp
          (try with_reducible rfl)
        simp only [List.setIfInBounds_toArray, List.set_cons_zero, List.set_cons_succ]
        refine take_at 26 92 (fuel := 11) ?_ rfl rfl (by kernel_rfl) (by kernel_rfl) (by kernel_rfl) (Or.inl ⟨by rfl, ?_⟩) hSw ?_
        rotate_left
        · intro wx hSx
          (try dsimp only at hSx)
          go_split_ands
          go_simp
          (try with_reducible rfl)
        simp only [List.setIfInBounds_toArray, List.set_cons_zero, List.set_cons_succ]
        refine take_at 27 93 (fuel := 10) ?_ rfl rfl (by kernel_rfl) (by kernel_rfl) (by kernel_rfl) (Or.inl ⟨by rfl, ?_⟩) hSw ?_
        rotate_left
        · intro wx hSx
          (try dsimp only at hSx)
          go_split_ands
          go_simp
          (try with_reducible rfl)
        simp only [List.setIfInBounds_toArray, List.set_cons_zero, List.set_cons_succ]
        refine take_at 28 94 (fuel := 9) ?_ rfl rfl (by kernel_rfl) (by kernel_rfl) (by kernel_rfl) (Or.inl ⟨by rfl, ?_⟩) hSw ?_
        rotate_left
        · intro wx hSx
          (try dsimp only at hSx)
          go_split_ands
          go_simp
          (try with_reducible rfl)
        simp only [List.setIfInBounds_toArray, List.set_cons_zero, List.set_cons_succ]
        refine take_at 29 95 (fuel := 8) ?_ rfl rfl (by kernel_rfl) (by kernel_rfl) (by kernel_rfl) (Or.inl ⟨by rfl, ?_⟩) hSw ?_
        rotate_left
        · intro wx hSx
          (try dsimp only at hSx)
          go_split_ands
          go_simp
          (try with_reducible rfl)
        simp only [List.setIfInBounds_toArray, List.set_cons_zero, List.set_cons_succ]
        refine take_at 30 96 (fuel := 7) ?_ rfl rfl (by kernel_rfl) (by kernel_rfl) (by kernel_rfl) (Or.inl ⟨by rfl, ?_⟩) hSw ?_
        rotate_left
        · intro wx hSx
          (try dsimp only at hSx)
          go_split_ands
          go_simp
          (try with_reducible rfl)
        simp only [List.setIfInBounds_toArray, List.set_cons_zero, List.set_cons_succ]
        refine take_at 31 97 (fuel := 6) ?_ rfl rfl (by kernel_rfl) (by kernel_rfl) (by kernel_rfl) (Or.inl ⟨by rfl, ?_⟩) hSw ?_
        rotate_left
        · intro wx hSx
          (try dsimp only at hSx)
          go_split_ands
          go_simp
          (try with_reducible rfl)
        simp only [List.setIfInBounds_toArray, List.set_cons_zero, List.set_cons_succ]
        refine take_at 32 98 (fuel := 5) ?_ rfl rfl (by kernel_rfl) (by kernel_rfl) (by kernel_rfl) (Or.inl ⟨by rfl, ?_⟩) hSw ?_
        rotate_left
        · intro wx hSx
          (try dsimp only at hSx)
          go_split_ands
          go_simp
          (try with_reducible rfl)
        simp only [List.setIfInBounds_toArray, List.set_cons_zero, List.set_cons_succ]
        refine take_at 33 99 (fuel := 4) ?_ rfl rfl (by kernel_rfl) (by kernel_rfl) (by kernel_rfl) (Or.inl ⟨by rfl, ?_⟩) hSw ?_
        rotate_left
        · intro wx hSx
          (try dsimp only at hSx)
          go_split_ands
          go_simp
          (try with_reducible rfl)
        simp only [List.setIfInBounds_toArray, List.set_cons_zero, List.set_cons_succ]
        refine take_at 34 100 (fuel := 3) ?_ rfl rfl (by kernel_rfl) (by kernel_rfl) (by kernel_rfl) (Or.inl ⟨by rfl, ?_⟩) hSw ?_
        rotate_left
        · intro wx hSx
          (try dsimp only at hSx)
          go_split_ands
          go_simp
          (try with_reducible rfl)
        simp only [List.setIfInBounds_toArray, List.set_cons_zero, List.set_cons_succ]
        refine take_at 35 101 (fuel := 2) ?_ rfl rfl (by kernel_rfl) (by kernel_rfl) (by kernel_rfl) (Or.inl ⟨by rfl, ?_⟩) hSw ?_
        rotate_left
        · intro wx hSx
          (try dsimp only at hSx)
          go_split_ands
          go_simp
          (try with_reducible rfl)
        simp only [List.setIfInBounds_toArray, List.set_cons_zero, List.set_cons_succ]
        refine take_at 36 102 (fuel := 1) ?_ rfl rfl (by kernel_rfl) (by kernel_rfl) (by kernel_rfl) (Or.inl ⟨by rfl, ?_⟩) hSw ?_
        rotate_left
        · intro wx hSx
          (try dsimp only at hSx)
          go_split_ands
          go_simp
          (try with_reducible rfl)
        simp only [List.setIfInBounds_toArray, List.set_cons_zero, List.set_cons_succ]
        refine take_at 37 103 (fuel := 0) ?_ rfl rfl (by kernel_rfl) (by kernel_rfl) (by kernel_rfl) (Or.inl ⟨by rfl, ?_⟩) hSw ?_
        rotate_left
        · intro wx hSx
          (try dsimp only at hSx)
          go_split_ands
          go_simp
          (try with_reducible rfl)
        simp only [List.setIfInBounds_toArray, List.set_cons_zero, List.set_cons_succ]
        refine wpAnyH_done (by kernel_rfl) ⟨rfl, ?_⟩ 0
        have hP4 := hP3.below hSw.2.2.2
        have hog4 := hog3.below hSw.2.2.2
        clear hSw mk hP3 hog3 hce
        go_wp2_with fail
        go_loopw [17] (fun v wx => ∃ q : Nat, q ≤ l'.length ∧ v = .int .i64 q ∧ Below u4.heap.size u4 wx) (fun v _ => l'.length - (intOf v).toNat)
        case atStart => exact ⟨0, Nat.zero_le _, rfl, Below.refl _ _⟩
        case round =>
          obtain ⟨q2, hq2, rfl, hbx⟩ := hrel
          have hP5 := hP4.below hbx
          have hog5 := hog4.below hbx
          clear hP4 hog4
          by_cases h3q : q2 < l'.length
          · obtain ⟨x, hx⟩ : ∃ x, l'[q2]? = some x := ⟨_, List.getElem?_eq_getElem h3q⟩
            obtain ⟨g1, rfl, -, hg1, hce1⟩ := hog5.at_ Rc.len hx
            obtain ⟨g2, o2, rfl, hg2, hce2⟩ := hP5.vw.at_ hx
            have dq : (q2 : Int) < (l'.length : Int) := by omega
            have hS : ∀ {W : World}, Below wr.heap.size wr W → (fun W => W.cell? ⟨MB, 1, none⟩ = some (.slice (some ⟨g2, o2, none⟩) l'.length c') ∧ W.cell? ⟨g1, q2 * 9, none⟩ = some (.int .u64 (x.seq : Int)) ∧ W.cell? ⟨g1, q2 * 9 + 1, none⟩ = some (.int .u64 (x.now : Int)) ∧ W.cell? ⟨g1, q2 * 9 + 2, none⟩ = some (.int .u64 (x.ses : Int)) ∧ W.cell? ⟨g1, q2 * 9 + 3, none⟩ = some (.int .u64 (x.num : Int)) ∧ W.cell? ⟨g1, q2 * 9 + 4, none⟩ = some (.int .i64 x.kind) ∧ W.cell? ⟨g1, q2 * 9 + 5, none⟩ = some (.string (str x.key)) ∧ W.cell? ⟨g1, q2 * 9 + 6, none⟩ = some (.string (str x.val)) ∧ W.cell? ⟨g1, q2 * 9 + 7, none⟩ = some (.int .u64 (x.ttl : Int)) ∧ W.cell? ⟨g1, q2 * 9 + 8, none⟩ = some (.int .u64 (x.ver : Int)) ∧ W.cell? ⟨g2, o2 + q2 * 9, none⟩ = some (.int .u64 (x.seq : Int)) ∧ W.cell? ⟨g2, o2 + q2 * 9 + 1, none⟩ = some (.int .u64 (x.now : Int)) ∧ W.cell? ⟨g2, o2 + q2 * 9 + 2, none⟩ = some (.int .u64 (x.ses : Int)) ∧ W.cell? ⟨g2, o2 + q2 * 9 + 3, none⟩ = some (.int .u64 (x.num : Int)) ∧ W.cell? ⟨g2, o2 + q2 * 9 + 4, none⟩ = some (.int .i64 x.kind) ∧ W.cell? ⟨g2, o2 + q2 * 9 + 5, none⟩ = some (.string (str x.key)) ∧ W.cell? ⟨g2, o2 + q2 * 9 + 6, none⟩ = some (.string (str x.val)) ∧ W.cell? ⟨g2, o2 + q2 * 9 + 7, none⟩ = some (.int .u64 (x.ttl : Int)) ∧ W.cell? ⟨g2, o2 + q2 * 9 + 8, none⟩ = some (.int .u64 (x.ver : Int))) W := fun {W} hW => by
              have y := hce1 W (hW.block g1 hg1)
              have z := hce2 W (hW.block g2 hg2)
              have m := hP5.box.below hW hP5.box.lt
              exact ⟨m.cell 1, y 0 (by omega), y 1 (by omega), y 2 (by omega), y 3 (by omega), y 4 (by omega), y 5 (by omega), y 6 (by omega), y 7 (by omega), y 8 (by omega), z 0 (by omega), z 1 (by omega), z 2 (by omega), z 3 (by omega), z 4 (by omega), z 5 (by omega), z 6 (by omega), z 7 (by omega), z 8 (by omega)⟩
            have HBX := Lib.hid hbx
            clear hce1 hce2 hP5 hog5 hbx hx
            go_wp2_with fail
            refine region_only 10 #[false, false, false, false, false, false, false, false, false, false] (S := (fun W => W.cell? ⟨MB, 1, none⟩ = some (.slice (some ⟨g2, o2, none⟩) l'.length c') ∧ W.cell? ⟨g1, q2 * 9, none⟩ = some (.int .u64 (x.seq : Int)) ∧ W.cell? ⟨g1, q2 * 9 + 1, none⟩ = some (.int .u64 (x.now : Int)) ∧ W.cell? ⟨g1, q2 * 9 + 2, none⟩ = some (.int .u64 (x.ses : Int)) ∧ W.cell? ⟨g1, q2 * 9 + 3, none⟩ = some (.int .u64 (x.num : Int)) ∧ W.cell? ⟨g1, q2 * 9 + 4, none⟩ = some (.int .i64 x.kind) ∧ W.cell? ⟨g1, q2 * 9 + 5, none⟩ = some (.string (str x.key)) ∧ W.cell? ⟨g1, q2 * 9 + 6, none⟩ = some (.string (str x.val)) ∧ W.cell? ⟨g1, q2 * 9 + 7, none⟩ = some (.int .u64 (x.ttl : Int)) ∧ W.cell? ⟨g1, q2 * 9 + 8, none⟩ = some (.int .u64 (x.ver : Int)) ∧ W.cell? ⟨g2, o2 + q2 * 9, none⟩ = some (.int .u64 (x.seq : Int)) ∧ W.cell? ⟨g2, o2 + q2 * 9 + 1, none⟩ = some (.int .u64 (x.now : Int)) ∧ W.cell? ⟨g2, o2 + q2 * 9 + 2, none⟩ = some (.int .u64 (x.ses : Int)) ∧ W.cell? ⟨g2, o2 + q2 * 9 + 3, none⟩ = some (.int .u64 (x.num : Int)) ∧ W.cell? ⟨g2, o2 + q2 * 9 + 4, none⟩ = some (.int .i64 x.kind) ∧ W.cell? ⟨g2, o2 + q2 * 9 + 5, none⟩ = some (.string (str x.key)) ∧ W.cell? ⟨g2, o2 + q2 * 9 + 6, none⟩ = some (.string (str x.val)) ∧ W.cell? ⟨g2, o2 + q2 * 9 + 7, none⟩ = some (.int .u64 (x.ttl : Int)) ∧ W.cell? ⟨g2, o2 + q2 * 9 + 8, none⟩ = some (.int .u64 (x.ver : Int)))) rfl rfl (by kernel_rfl) (hS (Below.refl _ _).drew) (fun hSw => ?_)
            refine take_at 0 110 (fuel := 9) ?_ rfl rfl (by kernel_rfl) (by kernel_rfl) (by kernel_rfl) (Or.inl ⟨by rfl, ?_⟩) hSw ?_
            rotate_left
            · intro wx hSx
              (try dsimp only at hSx)
              go_split_ands
              go_simp
              (try with_reducible rfl)
            simp only [List.setIfInBounds_toArray, List.set_cons_zero, List.set_cons_succ]
            refine take_at 1 111 (fuel := 8) ?_ rfl rfl (by kernel_rfl) (by kernel_rfl) (by kernel_rfl) (Or.inl ⟨by rfl, ?_⟩) hSw ?_
            rotate_left
            · intro wx hSx
              (try dsimp only at hSx)
              go_split_ands
              go_simp
              (try with_reducible rfl)
            simp only [List.setIfInBounds_toArray, List.set_cons_zero, List.set_cons_succ]
            refine take_at 2 112 (fuel := 7) ?_ rfl rfl (by kernel_rfl) (by kernel_rfl) (by kernel_rfl) (Or.inl ⟨by rfl, ?_⟩) hSw ?_
            rotate_left
            · intro wx hSx
              (try dsimp only at hSx)
              go_split_ands
              go_simp
              (try with_reducible rfl)
            simp only [List.setIfInBounds_toArray, List.set_cons_zero, List.set_cons_succ]
            refine take_at 3 113 (fuel := 6) ?_ rfl rfl (by kernel_rfl) (by kernel_rfl) (by kernel_rfl) (Or.inl ⟨by rfl, ?_⟩) hSw ?_
            rotate_left
            · intro wx hSx
              (try dsimp only at hSx)
              go_split_ands
              go_simp
              (try with_reducible rfl)
            simp only [List.setIfInBounds_toArray, List.set_cons_zero, List.set_cons_succ]
            refine take_at 4 114 (fuel := 5) ?_ rfl rfl (by kernel_rfl) (by kernel_rfl) (by kernel_rfl) (Or.inl ⟨by rfl, ?_⟩) hSw ?_
            rotate_left
            · intro wx hSx
              (try dsimp only at hSx)
              go_split_ands
              go_simp
              (try with_reducible rfl)
            simp only [List.setIfInBounds_toArray, List.set_cons_zero, List.set_cons_succ]
            refine take_at 5 115 (fuel := 4) ?_ rfl rfl (by kernel_rfl) (by kernel_rfl) (by kernel_rfl) (Or.inl ⟨by rfl, ?_⟩) hSw ?_
            rotate_left
            · intro wx hSx
              (try dsimp only at hSx)
              go_split_ands
              go_simp
              (try with_reducible rfl)
            simp only [List.setIfInBounds_toArray, List.set_cons_zero, List.set_cons_succ]
            refine take_at 6 116 (fuel := 3) ?_ rfl rfl (by kernel_rfl) (by kernel_rfl) (by kernel_rfl) (Or.inl ⟨by rfl, ?_⟩) hSw ?_
            rotate_left
            · intro wx hSx
              (try dsimp only at hSx)
              go_split_ands
              go_simp
              (try with_reducible rfl)
            simp only [List.setIfInBounds_toArray, List.set_cons_zero, List.set_cons_succ]
            refine take_at 7 117 (fuel := 2) ?_ rfl rfl (by kernel_rfl) (by kernel_rfl) (by kernel_rfl) (Or.inl ⟨by rfl, ?_⟩) hSw ?_
            rotate_left
            · intro wx hSx
              (try dsimp only at hSx)
              go_split_ands
              go_simp
              (try with_reducible rfl)
            simp only [List.setIfInBounds_toArray, List.set_cons_zero, List.set_cons_succ]
            refine take_at 8 118 (fuel := 1) ?_ rfl rfl (by kernel_rfl) (by kernel_rfl) (by kernel_rfl) (Or.inl ⟨by rfl, ?_⟩) hSw ?_
            rotate_left
            · intro wx hSx
              (try dsimp only at hSx)
              go_split_ands
              go_simp
              (try with_reducible rfl)
            simp only [List.setIfInBounds_toArray, List.set_cons_zero, List.set_cons_succ]
            refine take_at 9 119 (fuel := 0) ?_ rfl rfl (by kernel_rfl) (by kernel_rfl) (by kernel_rfl) (Or.inl ⟨by rfl, ?_⟩) hSw ?_
            rotate_left
            · intro wx hSx
              (try dsimp only at hSx)
              go_split_ands
              go_simp
              (try with_reducible rfl)
            simp only [List.setIfInBounds_toArray, List.set_cons_zero, List.set_cons_succ]
            refine wpAnyH_done (by kernel_rfl) ⟨rfl, ?_⟩ 0
            clear hSw hS
            go_wp2_with fail
            go_roundw
            case rel => exact ⟨q2 + 1, by omega, rfl, HBX.out.drew⟩
            case measure => simp [intOf]; omega
          · obtain rfl : q2 = l'.length := by omega
            clear hog5 hbx
            go_wp2_with fail
            refine ⟨⟨j + 1, P', base', l', _, by omega, by omega, rfl, by omega, hP5⟩, ?_⟩
            simp [intOf]; omega
    · have hexit : ¬ j < len ∨ (j < len ∧ ¬ j < 60) := by omega
      rcases hexit with h4 | ⟨h4, h5⟩
      · have d1 : decide ((j : Int) < (len : Int)) = false := decide_eq_false (by omega)
        have hbb := hP.bel
        clear hP hA
        go_wp2_with fail
        go_ret
        exact ⟨rfl, hbb⟩
      · have d1 : decide ((j : Int) < (len : Int)) = true := decide_eq_true (by omega)
        have d2 : decide ((j : Int) < 60) = false := decide_eq_false (by omega)
        have hbb := hP.bel
        clear hP hA
        go_wp2_with fail
        go_ret
        exact ⟨rfl, hbb⟩
set_option linter.unusedVariables false in
set_option maxRecDepth 100000 in
theorem logPlays_lifted (os : Os) (started : os.Started) (H : Type) (enc : TypeId × Value → H) :
    ReturnsInHanded {} Try.checked os 3 .any (Rows.logPlaysSpec.pre6 enc Try.prog Try.f3 Rows.logPlaysRow.domain false) (Rows.logPlaysSpec.post enc Try.prog Try.f3 false true false false) := by
  refine returnsInHanded_of_change (C := Try.checked) Kit.own started (by kernel_rfl) Try.func3
    (ChangeSpec.witness6 (enc := enc) (C := Try.checked) false ⟨#[], #[.int .u64 0, .int .i64 0, .slice none 0 0], []⟩ 8 (by kernel_rfl) (by kernel_rfl) (by kernel_rfl) (by kernel_rfl)) ?_
  intro W base args ds gs before hval0 hW hcnd _
  have hval : ∀ (j : Nat) t v, Try.f3.params[j]? = some t → args[j]? = some v → Value.okWide Try.prog W .any base t v := hval0
  have hW' := hW
  obtain ⟨p, q, hA0, hV, rfl, hfz, hnd⟩ := hW
  have hA : DataW.TrodAll enc Try.prog W 0 (fun _ => true) true Try.f3.params.toList args.toList ds p := hA0
  rw [Try.params3] at hA hval
  obtain ⟨v0, vs0, d0, ds0, p0, q0, hargs, rfl, rfl, h0, r0⟩ := trodAll_cons hA
  obtain ⟨v1, vs1, d1, ds1, p1, q1, rfl, rfl, rfl, h1, r1⟩ := trodAll_cons r0
  obtain ⟨v2, vs2, d2, ds2, p2, q2, rfl, rfl, rfl, h2, r2⟩ := trodAll_cons r1
  obtain ⟨rfl, rfl, rfl⟩ := trodAll_nil r2
  obtain ⟨rfl, rfl⟩ := trodVars_none hV
  obtain rfl : args = #[v0, v1, v2] := by cases args; simp_all
  obtain ⟨a0, rfl, rfl, rfl, w0⟩ := open_int Try.underlying22 (hval 0 22 v0 rfl rfl) h0
  obtain ⟨b0, rfl, hb0⟩ := Arry.u64_nat w0
  obtain ⟨n0, rfl, rfl, rfl, w1⟩ := open_int Try.underlying3 (hval 1 3 v1 rfl rfl) h1
  obtain ⟨b2, c2, e2, rfl⟩ := okWide_slice Try.underlying23 (hval 2 23 v2 rfl rfl)
  obtain ⟨fuel2, hf2⟩ := h2
  obtain ⟨ao, len, cap, sb, off, K, A, U, hv2, hacts⟩ := open_acts (show DataW.trod enc Try.prog W 0 (fun _ => true) true fuel2 23 [.slice b2 c2 e2] = some _ from hf2)
  injection hv2 with hv2x hv2y hv2z
  subst hv2x hv2y hv2z
  clear hA0 hval0
  refine (logPlays_walk b0 hb0 n0 w1 _ _ _ _ _ K A U W hacts).mono fun e W' ⟨he, hg⟩ => ?_
  subst he
  exact ⟨_, rfl, Kit.law_post hW' rfl (by kernel_rfl) rfl (by kernel_rfl) hg⟩

theorem logPlays_over : Rows.logPlaysRow.holds Try.pinned (OpenSpec.ofChange Rows.logPlaysSpec) :=
  OpenClaim.holds_of_wide 3 Try.f3 rfl rfl rfl rfl rfl rfl rfl ⟨rfl, rfl, rfl, rfl, rfl⟩ rfl rfl rfl rfl rfl (by kernel_rfl) Try.func3 (by kernel_rfl)
    (of_decide_eq_true (by kernel_rfl)) (by unfold Func.isWrapper; first | (rw [if_pos (by decide +kernel)]; kernel_rfl) | (rw [if_neg (by decide +kernel)]; exact ⟨rfl, rfl⟩))
    (fun os started H enc _ => logPlays_lifted os started H enc)

theorem logPlays_holds : Rows.LogPlaysSaid :=
  logPlays_over
end Go.Proofs.Ytajpmlmacnomfaa.Logy
