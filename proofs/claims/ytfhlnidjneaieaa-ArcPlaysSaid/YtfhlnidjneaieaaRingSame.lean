/- The program's lists held against the document's, list by list, key by key. No condition. -/
import Derived.Test.YtfhlnidjneaieaaRingRef
import Derived.Test.YtfhlnidjneaieaaRingExport
import Derived.Test.YtfhlnidjneaieaaRingAside
import Derived.Test.YtfhlnidjneaieaaRingRound
import Derived.BigRegionIn
import Derived.Deep.RegionHeld3
namespace Go.Proofs.Ytfhlnidjneaieaa.Ringy
open Go.ChangeShapes Go.WideShapes Go.ChangeAt Go.RowKit Go.Shelf
open Wirey (Blk Row str str_size str_list Kp)
open Go.ChangeMaps Go.Maps

attribute [local go_sem] Oper.semAt_some

/-- What a box of an int holds. -/
def boxN (v : Value) (w : World) : Nat := match v with
  | .pointer (some p) => (match w.cell? p with
    | some u => (intOf u).toNat
    | none => 0)
  | _ => 0
/-- What stands between two lists. -/
structure Sames (w : World) (m : Rm) (r : Rg) (G : Nat) (vs : Nat → Value) (x : World) : Prop where
  at_ : At x m r
  rf : RefAt x m.own G vs r
  box : Blk x w.heap.size 29 #[.slice (some ⟨G, 0, none⟩) r.n r.n, .int .i64 (r.places : Int)]
  below : Below w.heap.size w x
section
variable {w x y : World} {m : Rm} {r : Rg} {G : Nat} {vs : Nat → Value}
theorem Sames.onto (h : Sames w m r G vs x) (hb : Below x.heap.size x y) : Sames w m r G vs y :=
  ⟨h.at_.below hb (Nat.le_refl _), h.rf.below hb (Nat.le_refl _), h.box.below hb h.box.lt, h.below.trans (hb.mono h.below.size)⟩
theorem Sames.alloc (h : Sames w m r G vs x) (o : Obj) : Sames w m r G vs (x.alloc o) := h.onto ((Below.refl _ x).alloc (Nat.le_refl _) o)
end
theorem boxN_of {w : World} {g n : Nat} (h : Blk w g 3 #[.int .i64 (n : Int)]) : boxN (.pointer (some ⟨g, 0, none⟩)) w = n := by
  have hc := h.cell 0
  simp only [List.getElem?_toArray, List.getElem?_cons_zero] at hc
  simp [boxN, hc, intOf]
/-- .. and a round's end behind a draw. -/
theorem two_put_d {w5 W : World} {n₀ N iB : Nat} {l pre : List Key} {x : Key} {v : Value} {b : Bool} (hv : ∀ g, v.ownBlock = some g → n₀ ≤ g) (hn : iB + 1 < n₀)
    (hbi : Blk W iB 3 #[.int .i64 (pre.length : Int)]) (hbo : Blk W (iB + 1) 4 #[.bool (okF l pre)]) (hkp : Kp (fun b => b = iB ∨ b = iB + 1) w5 W) (hs : okF l (pre ++ [x]) = b) :
    KeepsFrom N W ((W.setCell ⟨iB + 1, 0, none⟩ (.bool b)).setCell ⟨iB, 0, none⟩ (.int .i64 ((pre.length : Int) + 1))).drew ∧ RowK v W ((W.setCell ⟨iB + 1, 0, none⟩ (.bool b)).setCell ⟨iB, 0, none⟩ (.int .i64 ((pre.length : Int) + 1))).drew ∧
    Blk ((W.setCell ⟨iB + 1, 0, none⟩ (.bool b)).setCell ⟨iB, 0, none⟩ (.int .i64 ((pre.length : Int) + 1))).drew iB 3 #[.int .i64 ((pre ++ [x]).length : Int)] ∧
    Blk ((W.setCell ⟨iB + 1, 0, none⟩ (.bool b)).setCell ⟨iB, 0, none⟩ (.int .i64 ((pre.length : Int) + 1))).drew (iB + 1) 4 #[.bool (okF l (pre ++ [x]))] ∧
    Kp (fun b => b = iB ∨ b = iB + 1) w5 ((W.setCell ⟨iB + 1, 0, none⟩ (.bool b)).setCell ⟨iB, 0, none⟩ (.int .i64 ((pre.length : Int) + 1))).drew := by
  obtain ⟨h1, h2, h3, h4, h5⟩ := two_put (N := N) hv hn hbi hbo hkp hs
  exact ⟨h1.trans ((KeepsOthers.drew _).from _), h2, h3, h4, Kp.drew' h5⟩
theorem back_h {w : World} {m : Rm} {r : Rg} {j : Nat} (hA : At w m r) (hj : j < r.n) :
    Calls Try.prog 31 #[.pointer (some ⟨m.R, 0, none⟩), .int .i64 (j : Int)] w fun e w' => e = .returned (.tuple #[.string (str (r.back j)), .bool (decide (0 < (r.l j).length))]) ∧ w = w' := by
  rcases List.eq_nil_or_concat (r.l j) with h | ⟨s, k, h⟩
  · refine (back_none w hA hj h).mono ?_
    rintro e w' ⟨rfl, rfl⟩
    refine ⟨?_, rfl⟩
    have : r.back j = [] := by unfold Rg.back; rw [h]; rfl
    rw [this, h]
    rfl
  · rw [List.concat_eq_append] at h
    refine (back_yes w hA hj h).mono ?_
    rintro e w' ⟨rfl, rfl⟩
    refine ⟨?_, rfl⟩
    have : r.back j = k := by unfold Rg.back; rw [h]; simp
    rw [this, h, decide_eq_true (by simp)]
/-- What stands beside the two lists that are held against each other. -/
structure Looks (w : World) (m : Rm) (r : Rg) (G : Nat) (vs : Nat → Value) (j iB b5 : Nat) (ds : List Deferred) (x : World) : Prop where
  sm : Sames w m r G vs x
  n : Blk x iB 3 #[.int .i64 ((r.l j).length : Int)]
  ok : Blk x (iB + 1) 4 #[.bool true]
  i : Blk x b5 3 #[.int .i64 (j : Int)]
  mks : Marked w.heap.size x ds
section
variable {w x y : World} {m : Rm} {r : Rg} {G : Nat} {vs : Nat → Value} {j iB b5 : Nat} {ds : List Deferred}
theorem Looks.onto (h : Looks w m r G vs j iB b5 ds x) (hb : Below x.heap.size x y) : Looks w m r G vs j iB b5 ds y :=
  ⟨h.sm.onto hb, h.n.below hb h.n.lt, h.ok.below hb h.ok.lt, h.i.below hb h.i.lt, h.mks.keep fun k d hd hk => hb.block k (h.mks.lt k d hd hk).2.1⟩
theorem Looks.drewN (h : Looks w m r G vs j iB b5 ds x) (n : Nat) : Looks w m r G vs j iB b5 ds (x.drewN n) := h.onto ⟨rfl, rfl, rfl, Nat.le_refl _, fun _ _ => rfl⟩
theorem Looks.drew (h : Looks w m r G vs j iB b5 ds x) : Looks w m r G vs j iB b5 ds x.drew := h.drewN 1
theorem Looks.all (h : Looks w m r G vs j iB b5 ds x) : x.cell? ⟨iB, 0, none⟩ = some (.int .i64 ((r.l j).length : Int)) ∧ x.cell? ⟨iB + 1, 0, none⟩ = some (.bool true) ∧ x.cell? ⟨b5, 0, none⟩ = some (.int .i64 (j : Int)) ∧
    x.cell? ⟨w.heap.size, 0, none⟩ = some (.slice (some ⟨G, 0, none⟩) r.n r.n) ∧ Looks w m r G vs j iB b5 ds x := ⟨h.n.cell 0, h.ok.cell 0, h.i.cell 0, h.sm.box.cell 0, h⟩
end
/-- What stands when all lists have been held against each other. -/
structure Ends (w : World) (m : Rm) (r : Rg) (G : Nat) (vs : Nat → Value) (ds : List Deferred) (x : World) : Prop where
  sm : Sames w m r G vs x
  mks : Marked w.heap.size x ds
section
variable {w x y : World} {m : Rm} {r : Rg} {G : Nat} {vs : Nat → Value} {ds : List Deferred}
theorem Ends.onto (h : Ends w m r G vs ds x) (hb : Below x.heap.size x y) : Ends w m r G vs ds y := ⟨h.sm.onto hb, h.mks.keep fun k d hd hk => hb.block k (h.mks.lt k d hd hk).2.1⟩
theorem Ends.drewN (h : Ends w m r G vs ds x) (n : Nat) : Ends w m r G vs ds (x.drewN n) := h.onto ⟨rfl, rfl, rfl, Nat.le_refl _, fun _ _ => rfl⟩
theorem Ends.drew (h : Ends w m r G vs ds x) : Ends w m r G vs ds x.drew := h.drewN 1
theorem Ends.all (h : Ends w m r G vs ds x) : x.cell? ⟨w.heap.size, 0, none⟩ = some (.slice (some ⟨G, 0, none⟩) r.n r.n) ∧ x.cell? ⟨w.heap.size, 1, none⟩ = some (.int .i64 (r.places : Int)) ∧ Ends w m r G vs ds x := ⟨h.sm.box.cell 0, h.sm.box.cell 1, h⟩
theorem ends_free (h : Ends w m r G vs ds x) :
    Calls Try.prog 28 #[.pointer (some ⟨m.R, 0, none⟩)] x fun e w' => e = .returned (.int .i64 ((r.places : Int) - r.many)) ∧ Ends w m r G vs ds w' := by
  refine (free_c' x h.sm.at_).mono ?_
  rintro e w' ⟨rfl, n, rfl⟩
  exact ⟨rfl, h.drewN n⟩
theorem ends_many (hlens : ∀ i, (r.l i).length < 5000) (hn : r.n ≤ 8) (h : Ends w m r G vs ds x) :
    Calls Try.prog 60 #[.agg #[.slice (some ⟨G, 0, none⟩) r.n r.n, .int .i64 (r.places : Int)]] x fun e w' => e = .returned (.int .i64 (r.many : Int)) ∧ Ends w m r G vs ds w' := by
  refine (rmany_c (by omega) (fun i => Nat.lt_trans (hlens i) (by omega)) x h.sm.rf).mono ?_
  rintro e w' ⟨rfl, hb⟩
  exact ⟨rfl, h.onto hb⟩
theorem ends_lists (h : Ends w m r G vs ds x) :
    Calls Try.prog 32 #[.pointer (some ⟨m.R, 0, none⟩)] x fun e w' => e = .returned (.int .i64 (r.n : Int)) ∧ Ends w m r G vs ds w' := by
  refine (lists_c' x h.sm.at_).mono ?_
  rintro e w' ⟨rfl, rfl⟩
  exact ⟨rfl, h⟩
end
theorem frame_lit (n : Nat) (F : Array Value) (h : F.size = n) : F = ((List.range n).map fun i => F.getD i undef).toArray := by
  subst h
  apply Array.ext
  · simp
  · intro i h1 h2
    simp [Array.getElem?_eq_getElem h1]
set_option maxRecDepth 100000 in
theorem frame107 {F : Array Value} (h : F.size = 107) : ∃ g : Nat → Value, (∀ i, F.getD i undef = g i) ∧ F = (g 0 :: g 1 :: g 2 :: g 3 :: g 4 :: g 5 :: g 6 :: g 7 :: g 8 :: g 9 :: g 10 :: g 11 :: g 12 :: g 13 :: g 14 :: g 15 :: g 16 :: g 17 :: g 18 :: g 19 :: g 20 :: g 21 :: g 22 :: g 23 :: g 24 :: g 25 :: g 26 :: g 27 :: g 28 :: g 29 :: g 30 :: g 31 :: g 32 :: g 33 :: g 34 :: g 35 :: g 36 :: g 37 :: g 38 :: g 39 :: g 40 :: g 41 :: g 42 :: g 43 :: g 44 :: g 45 :: g 46 :: g 47 :: g 48 :: g 49 :: g 50 :: g 51 :: g 52 :: g 53 :: g 54 :: g 55 :: g 56 :: g 57 :: g 58 :: g 59 :: g 60 :: g 61 :: g 62 :: g 63 :: g 64 :: g 65 :: g 66 :: g 67 :: g 68 :: g 69 :: g 70 :: g 71 :: g 72 :: g 73 :: g 74 :: g 75 :: g 76 :: g 77 :: g 78 :: g 79 :: g 80 :: g 81 :: g 82 :: g 83 :: g 84 :: g 85 :: g 86 :: g 87 :: g 88 :: g 89 :: g 90 :: g 91 :: g 92 :: g 93 :: g 94 :: g 95 :: g 96 :: g 97 :: g 98 :: g 99 :: g 100 :: g 101 :: g 102 :: g 103 :: g 104 :: g 105 :: g 106 :: []).toArray :=
  ⟨fun i => F.getD i undef, fun _ => rfl, frame_lit 107 F h⟩
set_option maxHeartbeats 40000000 in
set_option maxRecDepth 100000 in
theorem same_c {w : World} {m : Rm} {r : Rg} {G : Nat} {vs : Nat → Value} (hA : At w m r) (hR : RefAt w m.own G vs r) (hn : r.n ≤ 8) (hlens : ∀ i, (r.l i).length < 5000) :
    Calls Try.prog 27 #[.pointer (some ⟨m.R, 0, none⟩), refV G r] w fun e w' => e = .returned (.bool true) ∧ Below w.heap.size w w' := by
  refine calls_marks Try.func27 rfl ?_
  simp only [Try.ntmps27, List.size_toArray, List.length_cons, List.length_nil, Nat.reduceAdd, Nat.reduceSub, Array.replicate_succ, Array.replicate_zero, List.push_toArray, List.append_toArray, List.nil_append, List.cons_append]
  have hS0 : Sames w m r G vs (w.alloc (.cells #[.slice (some ⟨G, 0, none⟩) r.n r.n, .int .i64 (r.places : Int)] 29)) :=
    ⟨hA.alloc _, hR.alloc _, Blk.new w _ _, (Below.refl _ w).alloc (Nat.le_refl _) _⟩
  have hS1 := hS0.alloc (.cells #[.int .i64 0] 3)
  have hb1 := Blk.new (w.alloc (.cells #[.slice (some ⟨G, 0, none⟩) r.n r.n, .int .i64 (r.places : Int)] 29)) 3 #[.int .i64 ((0 : Nat) : Int)]
  rw [show (w.alloc (.cells #[.slice (some ⟨G, 0, none⟩) r.n r.n, .int .i64 (r.places : Int)] 29)).heap.size = w.heap.size + 1 by simp] at hb1
  have hb1 : Blk ((w.alloc (.cells #[.slice (some ⟨G, 0, none⟩) r.n r.n, .int .i64 (r.places : Int)] 29)).alloc (.cells #[.int .i64 0] 3)) (w.heap.size + 1) 3 #[.int .i64 ((0 : Nat) : Int)] := hb1
  clear hS0
  unfold refV
  go_wp2_with fail
  generalize (w.alloc (.cells #[.slice (some ⟨G, 0, none⟩) r.n r.n, .int .i64 (r.places : Int)] 29)).alloc (.cells #[.int .i64 0] 3) = w1 at *
  refine wp_loop (fun a' w' => ∃ (j b5 : Nat) (ds : List Deferred) (F : Array Value), (j ≤ r.n ∧ Sames w m r G vs w' ∧ Blk w' b5 3 #[.int .i64 (j : Int)] ∧ w.heap.size < b5 ∧ Marked w.heap.size w' ds) ∧ (F.size = 107 ∧ F.getD 0 undef = .pointer (some ⟨m.R, 0, none⟩) ∧ F.getD 1 undef = .agg #[.slice (some ⟨G, 0, none⟩) r.n r.n, .int .i64 (r.places : Int)] ∧ F.getD 3 undef = .pointer (some ⟨w.heap.size, 0, none⟩) ∧ F.getD 5 undef = .pointer (some ⟨b5, 0, none⟩)) ∧ a' = { tmps := F, defers := ds }) (fun a' w' => r.n - boxN (a'.tmps.getD 5 undef) w') ?_ ?_
  · exact ⟨0, w.heap.size + 1, [], _, ⟨Nat.zero_le _, hS1, hb1, by omega, trivial⟩, ⟨rfl, rfl, rfl, rfl, rfl⟩, rfl⟩
  · rintro a' wr ⟨j, b5', ds, F, ⟨hj, hS, hb5, hlo, hM⟩, ⟨hF, F0, F1, F3, F5⟩, rfl⟩
    obtain ⟨u, hu, hFl⟩ := frame107 hF
    rw [hu] at F0 F1 F3 F5
    rw [F0, F1, F3, F5] at hFl
    subst hFl
    clear F0 F1 F3 F5 hF hu
    clear hS1 hb1
    have c5 := hb5.cell 0
    have f5 := hb5.free 0
    have cm := hS.box.cell 0
    have cp := hS.box.cell 1
    simp only [List.getElem?_toArray, List.getElem?_cons_zero, List.getElem?_cons_succ] at c5 cm cp
    by_cases hlt : j < r.n
    · have d1 : decide ((j : Int) < (r.n : Int)) = true := decide_eq_true (by omega)
      have hk := keys_c ((wr.alloc (.cells #[.int .i64 0] 3)).alloc (.cells #[.bool true] 4)) ((hS.alloc (.cells #[.int .i64 0] 3)).alloc (.cells #[.bool true] 4)).at_ hlt
      have hll := hlens j
      have c5a := ((hb5.alloc (.cells #[.int .i64 0] 3)).alloc (.cells #[.bool true] 4)).cell 0
      simp only [List.getElem?_toArray, List.getElem?_cons_zero] at c5a
      go_wp2_with fail
      refine hk.mono ?_
      rintro e w7 ⟨B, rfl, hbox, hb7⟩
      have s1 : (wr.alloc (.cells #[.int .i64 0] 3)).heap.size = wr.heap.size + 1 := by simp
      have s2 : ((wr.alloc (.cells #[.int .i64 0] 3)).alloc (.cells #[.bool true] 4)).heap.size = wr.heap.size + 2 := by simp
      have bi : Blk w7 wr.heap.size 3 #[.int .i64 ((0 : Nat) : Int)] := ((Blk.new wr 3 #[.int .i64 0]).alloc _).below hb7 (by omega)
      have bo : Blk w7 (wr.heap.size + 1) 4 #[.bool (okF (r.l j) [])] := by
        rw [okF_nil]
        have := Blk.new (wr.alloc (.cells #[.int .i64 0] 3)) 4 #[.bool true]
        rw [s1] at this
        exact this.below hb7 (by omega)
      have hbw : Below wr.heap.size wr w7 := (((Below.refl _ wr).alloc (Nat.le_refl _) (.cells #[.int .i64 0] 3)).alloc (by omega) (.cells #[.bool true] 4)).trans (hb7.mono (by omega))
      have hS7 := hS.onto hbw
      have b57 := hb5.below hbw hb5.lt
      have hM7 := hM.keep (W' := w7) (fun k d hd hk => hbw.block k (hM.lt k d hd hk).2.1)
      have hMl := hM.lt
      have hlt7 : wr.heap.size + 1 < w7.heap.size := bo.lt
      have hb5l := hb5.lt
      have hwl := hS.below.size
      have HS := Lib.hid hS
      have HB5 := Lib.hid hb5
      have HM := Lib.hid hM
      have HRF := Lib.hid hS.rf
      have HAT := Lib.hid hS.at_
      have hboxm := hS.box.lt
      clear hk hb7 hS hb5 hM c5 f5 cm cp c5a
      rw [s2] at hbox
      clear s1 s2
      have HS7 := Lib.hid hS7
      have HM7 := Lib.hid hM7
      have HB57 := Lib.hid b57
      have HBW := Lib.hid hbw
      clear hS7 hM7 b57 hbw
      go_wp2_with fail
      apply range_keys (B := B) (l := r.l j) (I := fun pre W => Blk W wr.heap.size 3 #[.int .i64 (pre.length : Int)] ∧ Blk W (wr.heap.size + 1) 4 #[.bool (okF (r.l j) pre)] ∧ Kp (fun b => b = wr.heap.size ∨ b = wr.heap.size + 1) w7 W) (Ix := fun _ _ _ => False)
      case hg => rfl
      case hbox => exact hbox
      case hlen => omega
      case hps => rfl
      case hI => exact own_kp (O := fun b => b = wr.heap.size ∨ b = wr.heap.size + 1) (fun s W h => h.2.2) (fun s W W' h hk hb => ⟨(hb _ (by omega)).trans h.1, (hb _ hlt7).trans h.2.1, hk⟩)
      case hIx => exact fun c s W W' row h _ _ => h
      case h0 => exact ⟨bi, bo, Kp.refl _ _⟩
      case hassign =>
        intro r x W K hK
        gi_wp2
        exact hK
      case hstop => exact fun _ _ _ _ _ _ h _ => h.elim
      case hbody =>
        rintro v hv rr pre x W ⟨hbi, hbo, hkp⟩ hlen
        have ci := hbi.cell 0
        have fi := hbi.free 0
        have co := hbo.cell 0
        have fo := hbo.free 0
        have bx := hkp.blk HS7.out.box (by omega)
        have cm := bx.cell 0
        have b5 := hkp.blk HB57.out (by omega)
        have c5 := b5.cell 0
        simp only [List.getElem?_toArray, List.getElem?_cons_zero] at ci co cm c5
        have htl := Wirey.toList_str
        have HSN := Lib.hid (okF_snoc hlen x)
        rcases Bool.eq_false_or_eq_true (okF (r.l j) pre) with hok | hok
        · rw [hok] at co
          have hbW : Below wr.heap.size wr W := HBW.out.trans ⟨hkp.os, hkp.tape, hkp.output, hkp.size, fun k hk => hkp.block k (by omega) (by omega)⟩
          have hrow := HRF.out.below hbW (Nat.le_refl _)
          have cg := (hrow.at_ hlt).1
          have hGl := HRF.out.blk.lt
          obtain ⟨g, c2, hgv, hg⟩ := hrow.text hlt hlen
          have hgl := ((HRF.out.row j hlt).lt g (by rw [hgv]; rfl)).2
          rw [hgv] at cg
          clear hgv hrow
          have q1 : (0 : Int) ≤ (j : Int) := by omega
          have q2 : (j : Int) < (r.n : Int) := by omega
          have q3 : (0 : Int) ≤ (pre.length : Int) := by omega
          have q4 : (pre.length : Int) < ((r.l j).length : Int) := by omega
          have q5 : decide ((pre.length : Int) < ((r.l j).length : Int)) = true := decide_eq_true q4
          generalize (r.l j)[pre.length]?.getD [] = y at *
          gi_wp2
          refine round_region 24 #[false, false, false, false, false, false, false, false, false, false, false, false, false, false, false, false, false, false, false, false, false, false, false, false] (S := fun X => X.cell? ⟨wr.heap.size, 0, none⟩ = some (.int .i64 (pre.length : Int)) ∧ X.frozen? ⟨wr.heap.size + 1, 0, none⟩ = false ∧ X.cell? ⟨b5', 0, none⟩ = some (.int .i64 (j : Int)) ∧ X.cell? ⟨w.heap.size, 0, none⟩ = some (.slice (some ⟨G, 0, none⟩) r.n r.n) ∧ X.cell? ⟨G, j, none⟩ = some (.slice (some ⟨g, 0, none⟩) (r.l j).length c2) ∧ X.cell? ⟨g, pre.length, none⟩ = some (.string (str y))) rfl rfl (by kernel_rfl) (by kernel_rfl) ⟨ci, fo, c5, cm, cg, hg⟩ (fun hSw => ?_)
          refine wpAnyH_ready (fuel := 23) (rs := [0]) (by kernel_rfl) (by simp) (AllReadyH.cons rfl (fun K hK => ?_) AllReadyH.nil)
          go_simp
          refine hK.out _ _ hSw (fun hSw => ?_)
          clear hK K
          simp only [List.setIfInBounds_toArray, List.set_cons_zero]
          refine take_at 1 25 (fuel := 22) ?_ rfl rfl (by kernel_rfl) (by kernel_rfl) (by kernel_rfl) (Or.inl ⟨by rfl, ?_⟩) hSw ?_
          rotate_left
          · intro wx hSx
            (try dsimp only at hSx)
            go_split_ands
            go_simp
            (try with_reducible rfl)
          simp only [List.setIfInBounds_toArray, List.set_cons_zero, List.set_cons_succ]
          refine take_at 2 26 (fuel := 21) ?_ rfl rfl (by kernel_rfl) (by kernel_rfl) (by kernel_rfl) (Or.inl ⟨by rfl, ?_⟩) hSw ?_
          rotate_left
          · intro wx hSx
            (try dsimp only at hSx)
            go_split_ands
            go_simp
            (try with_reducible rfl)
          simp only [List.setIfInBounds_toArray, List.set_cons_zero, List.set_cons_succ]
          refine take_at 3 27 (fuel := 20) ?_ rfl rfl (by kernel_rfl) (by kernel_rfl) (by kernel_rfl) (Or.inl ⟨by rfl, ?_⟩) hSw ?_
          rotate_left
          · intro wx hSx
            (try dsimp only at hSx)
            go_split_ands
            go_simp
            (try with_reducible rfl)
          simp only [List.setIfInBounds_toArray, List.set_cons_zero, List.set_cons_succ]
          refine take_at 4 28 (fuel := 19) ?_ rfl rfl (by kernel_rfl) (by kernel_rfl) (by kernel_rfl) (Or.inl ⟨by rfl, ?_⟩) hSw ?_
          rotate_left
          · intro wx hSx
            (try dsimp only at hSx)
            go_split_ands
            go_simp
            (try with_reducible rfl)
          simp only [List.setIfInBounds_toArray, List.set_cons_zero, List.set_cons_succ]
          refine take_at 5 29 (fuel := 18) ?_ rfl rfl (by kernel_rfl) (by kernel_rfl) (by kernel_rfl) (Or.inl ⟨by rfl, ?_⟩) hSw ?_
          rotate_left
          · intro wx hSx
            (try dsimp only at hSx)
            go_split_ands
            go_simp
            (try with_reducible rfl)
          simp only [List.setIfInBounds_toArray, List.set_cons_zero, List.set_cons_succ]
          refine take_at 6 30 (fuel := 17) ?_ rfl rfl (by kernel_rfl) (by kernel_rfl) (by kernel_rfl) (Or.inl ⟨by rfl, ?_⟩) hSw ?_
          rotate_left
          · intro wx hSx
            (try dsimp only at hSx)
            go_split_ands
            go_simp
            (try with_reducible rfl)
          simp only [List.setIfInBounds_toArray, List.set_cons_zero, List.set_cons_succ]
          refine take_at 7 31 (fuel := 16) ?_ rfl rfl (by kernel_rfl) (by kernel_rfl) (by kernel_rfl) (Or.inl ⟨by rfl, ?_⟩) hSw ?_
          rotate_left
          · intro wx hSx
            (try dsimp only at hSx)
            go_split_ands
            go_simp
            (try with_reducible rfl)
          simp only [List.setIfInBounds_toArray, List.set_cons_zero, List.set_cons_succ]
          refine take_at 8 32 (fuel := 15) ?_ rfl rfl (by kernel_rfl) (by kernel_rfl) (by kernel_rfl) (Or.inl ⟨by rfl, ?_⟩) hSw ?_
          rotate_left
          · intro wx hSx
            (try dsimp only at hSx)
            go_split_ands
            go_simp
            (try with_reducible rfl)
          simp only [List.setIfInBounds_toArray, List.set_cons_zero, List.set_cons_succ]
          refine take_at 9 33 (fuel := 14) ?_ rfl rfl (by kernel_rfl) (by kernel_rfl) (by kernel_rfl) (Or.inl ⟨by rfl, ?_⟩) hSw ?_
          rotate_left
          · intro wx hSx
            (try dsimp only at hSx)
            go_split_ands
            go_simp
            (try with_reducible rfl)
          simp only [List.setIfInBounds_toArray, List.set_cons_zero, List.set_cons_succ]
          refine take_at 10 34 (fuel := 13) ?_ rfl rfl (by kernel_rfl) (by kernel_rfl) (by kernel_rfl) (Or.inl ⟨by rfl, ?_⟩) hSw ?_
          rotate_left
          · intro wx hSx
            (try dsimp only at hSx)
            go_split_ands
            go_simp
            (try with_reducible rfl)
          simp only [List.setIfInBounds_toArray, List.set_cons_zero, List.set_cons_succ]
          refine take_at 11 35 (fuel := 12) ?_ rfl rfl (by kernel_rfl) (by kernel_rfl) (by kernel_rfl) (Or.inl ⟨by rfl, ?_⟩) hSw ?_
          rotate_left
          · intro wx hSx
            (try dsimp only at hSx)
            go_split_ands
            go_simp
            (try with_reducible rfl)
          simp only [List.setIfInBounds_toArray, List.set_cons_zero, List.set_cons_succ]
          refine take_at 12 36 (fuel := 11) ?_ rfl rfl (by kernel_rfl) (by kernel_rfl) (by kernel_rfl) (Or.inl ⟨by rfl, ?_⟩) hSw ?_
          rotate_left
          · intro wx hSx
            (try dsimp only at hSx)
            go_split_ands
            go_simp
            (try with_reducible rfl)
          simp only [List.setIfInBounds_toArray, List.set_cons_zero, List.set_cons_succ]
          refine take_at 13 37 (fuel := 10) ?_ rfl rfl (by kernel_rfl) (by kernel_rfl) (by kernel_rfl) (Or.inl ⟨by rfl, ?_⟩) hSw ?_
          rotate_left
          · intro wx hSx
            (try dsimp only at hSx)
            go_split_ands
            go_simp
            (try with_reducible rfl)
          simp only [List.setIfInBounds_toArray, List.set_cons_zero, List.set_cons_succ]
          refine take_at 14 38 (fuel := 9) ?_ rfl rfl (by kernel_rfl) (by kernel_rfl) (by kernel_rfl) (Or.inl ⟨by rfl, ?_⟩) hSw ?_
          rotate_left
          · intro wx hSx
            (try dsimp only at hSx)
            go_split_ands
            go_simp
            (try with_reducible rfl)
          simp only [List.setIfInBounds_toArray, List.set_cons_zero, List.set_cons_succ]
          refine take_at 15 39 (fuel := 8) ?_ rfl rfl (by kernel_rfl) (by kernel_rfl) (by kernel_rfl) (Or.inl ⟨by rfl, ?_⟩) hSw ?_
          rotate_left
          · intro wx hSx
            (try dsimp only at hSx)
            go_split_ands
            go_simp
            (try with_reducible rfl)
          simp only [List.setIfInBounds_toArray, List.set_cons_zero, List.set_cons_succ]
          refine take_at 16 40 (fuel := 7) ?_ rfl rfl (by kernel_rfl) (by kernel_rfl) (by kernel_rfl) (Or.inl ⟨by rfl, ?_⟩) hSw ?_
          rotate_left
          · intro wx hSx
            (try dsimp only at hSx)
            go_split_ands
            go_simp
            (try with_reducible rfl)
          simp only [List.setIfInBounds_toArray, List.set_cons_zero, List.set_cons_succ]
          refine take_at 17 41 (fuel := 6) ?_ rfl rfl (by kernel_rfl) (by kernel_rfl) (by kernel_rfl) (Or.inl ⟨by rfl, ?_⟩) hSw ?_
          rotate_left
          · intro wx hSx
            (try dsimp only at hSx)
            go_split_ands
            go_simp
            (try with_reducible rfl)
          simp only [List.setIfInBounds_toArray, List.set_cons_zero, List.set_cons_succ]
          refine take_at 18 42 (fuel := 5) ?_ rfl rfl (by kernel_rfl) (by kernel_rfl) (by kernel_rfl) (Or.inl ⟨by rfl, ?_⟩) hSw ?_
          rotate_left
          · intro wx hSx
            (try dsimp only at hSx)
            go_split_ands
            go_simp
            (try with_reducible rfl)
          simp only [List.setIfInBounds_toArray, List.set_cons_zero, List.set_cons_succ]
          refine take_at 19 43 (fuel := 4) ?_ rfl rfl (by kernel_rfl) (by kernel_rfl) (by kernel_rfl) (Or.inl ⟨by rfl, ?_⟩) hSw ?_
          rotate_left
          · intro wx hSx
            (try dsimp only at hSx)
            go_split_ands
            go_simp
            (try with_reducible rfl)
          simp only [List.setIfInBounds_toArray, List.set_cons_zero, List.set_cons_succ]
          refine take_at 20 44 (fuel := 3) ?_ rfl rfl (by kernel_rfl) (by kernel_rfl) (by kernel_rfl) (Or.inl ⟨by rfl, ?_⟩) hSw ?_
          rotate_left
          · intro wx hSx
            (try dsimp only at hSx)
            go_split_ands
            go_simp
            (try with_reducible rfl)
          simp only [List.setIfInBounds_toArray, List.set_cons_zero, List.set_cons_succ]
          refine take_at 21 45 (fuel := 2) ?_ rfl rfl (by kernel_rfl) (by kernel_rfl) (by kernel_rfl) (Or.inl ⟨by rfl, ?_⟩) hSw ?_
          rotate_left
          · intro wx hSx
            (try dsimp only at hSx)
            go_split_ands
            go_simp
            (try with_reducible rfl)
          simp only [List.setIfInBounds_toArray, List.set_cons_zero, List.set_cons_succ]
          refine take_at 22 46 (fuel := 1) ?_ rfl rfl (by kernel_rfl) (by kernel_rfl) (by kernel_rfl) (Or.inl ⟨by rfl, ?_⟩) hSw ?_
          rotate_left
          · intro wx hSx
            (try dsimp only at hSx)
            go_split_ands
            go_simp
            (try with_reducible rfl)
          simp only [List.setIfInBounds_toArray, List.set_cons_zero, List.set_cons_succ]
          refine wpAnyH_ready (fuel := 0) (rs := [23]) (by kernel_rfl) (by simp) (AllReadyH.cons rfl (fun K hK => ?_) AllReadyH.nil)
          go_simp
          refine hK.out _ _ ⟨(World.cell?_setCell_far _ _ _ _ (by show wr.heap.size + 1 ≠ wr.heap.size; omega)).trans ci, by simpa using fo, (World.cell?_setCell_far _ _ _ _ (by show wr.heap.size + 1 ≠ b5'; omega)).trans c5, (World.cell?_setCell_far _ _ _ _ (by show wr.heap.size + 1 ≠ w.heap.size; omega)).trans cm, (World.cell?_setCell_far _ _ _ _ (by show wr.heap.size + 1 ≠ G; omega)).trans cg, (World.cell?_setCell_far _ _ _ _ (by show wr.heap.size + 1 ≠ g; omega)).trans hg⟩ (fun _ => wpAnyH_done (by kernel_rfl) ⟨rfl, ?_⟩ 0)
          clear hK K
          gi_wp2
          exact two_put_d (b := (y == x)) (fun g hg => (hv g hg).1) (by omega) hbi hbo hkp (by rw [HSN.out, hok, Bool.true_and]; exact Bool.eq_iff_iff.2 (by simp))
        · rw [hok] at co
          gi_wp2
          refine round_region 24 #[false, false, false, false, false, false, false, false, false, false, false, false, false, false, false, false, false, false, false, false, false, false, false, false] (S := fun X => X.cell? ⟨wr.heap.size, 0, none⟩ = some (.int .i64 (pre.length : Int)) ∧ X.frozen? ⟨wr.heap.size + 1, 0, none⟩ = false ∧ X.cell? ⟨b5', 0, none⟩ = some (.int .i64 (j : Int))) rfl rfl (by kernel_rfl) (by kernel_rfl) ⟨ci, fo, c5⟩ (fun hSw => ?_)
          refine wpAnyH_ready (fuel := 23) (rs := [0]) (by kernel_rfl) (by simp) (AllReadyH.cons rfl (fun K hK => ?_) AllReadyH.nil)
          go_simp
          refine hK.out _ _ hSw (fun hSw => ?_)
          clear hK K
          simp only [List.setIfInBounds_toArray, List.set_cons_zero]
          refine take_at 1 25 (fuel := 22) ?_ rfl rfl (by kernel_rfl) (by kernel_rfl) (by kernel_rfl) (Or.inl ⟨by rfl, ?_⟩) hSw ?_
          rotate_left
          · intro wx hSx
            (try dsimp only at hSx)
            go_split_ands
            go_simp
            (try with_reducible rfl)
          simp only [List.setIfInBounds_toArray, List.set_cons_zero, List.set_cons_succ]
          refine take_at 2 26 undef (fuel := 21) rfl rfl (by kernel_rfl) (by kernel_rfl) (by kernel_rfl) (Or.inr ⟨by rfl, rfl⟩) hSw ?_
          simp only [List.setIfInBounds_toArray, List.set_cons_zero, List.set_cons_succ]
          refine take_at 3 27 undef (fuel := 20) rfl rfl (by kernel_rfl) (by kernel_rfl) (by kernel_rfl) (Or.inr ⟨by rfl, rfl⟩) hSw ?_
          simp only [List.setIfInBounds_toArray, List.set_cons_zero, List.set_cons_succ]
          refine take_at 4 28 undef (fuel := 19) rfl rfl (by kernel_rfl) (by kernel_rfl) (by kernel_rfl) (Or.inr ⟨by rfl, rfl⟩) hSw ?_
          simp only [List.setIfInBounds_toArray, List.set_cons_zero, List.set_cons_succ]
          refine take_at 5 29 undef (fuel := 18) rfl rfl (by kernel_rfl) (by kernel_rfl) (by kernel_rfl) (Or.inr ⟨by rfl, rfl⟩) hSw ?_
          simp only [List.setIfInBounds_toArray, List.set_cons_zero, List.set_cons_succ]
          refine take_at 6 30 undef (fuel := 17) rfl rfl (by kernel_rfl) (by kernel_rfl) (by kernel_rfl) (Or.inr ⟨by rfl, rfl⟩) hSw ?_
          simp only [List.setIfInBounds_toArray, List.set_cons_zero, List.set_cons_succ]
          refine take_at 7 31 undef (fuel := 16) rfl rfl (by kernel_rfl) (by kernel_rfl) (by kernel_rfl) (Or.inr ⟨by rfl, rfl⟩) hSw ?_
          simp only [List.setIfInBounds_toArray, List.set_cons_zero, List.set_cons_succ]
          refine take_at 8 32 undef (fuel := 15) rfl rfl (by kernel_rfl) (by kernel_rfl) (by kernel_rfl) (Or.inr ⟨by rfl, rfl⟩) hSw ?_
          simp only [List.setIfInBounds_toArray, List.set_cons_zero, List.set_cons_succ]
          refine take_at 9 33 undef (fuel := 14) rfl rfl (by kernel_rfl) (by kernel_rfl) (by kernel_rfl) (Or.inr ⟨by rfl, rfl⟩) hSw ?_
          simp only [List.setIfInBounds_toArray, List.set_cons_zero, List.set_cons_succ]
          refine take_at 10 34 (fuel := 13) ?_ rfl rfl (by kernel_rfl) (by kernel_rfl) (by kernel_rfl) (Or.inl ⟨by rfl, ?_⟩) hSw ?_
          rotate_left
          · intro wx hSx
            (try dsimp only at hSx)
            go_split_ands
            go_simp
            (try with_reducible rfl)
          simp only [List.setIfInBounds_toArray, List.set_cons_zero, List.set_cons_succ]
          refine take_at 11 35 (fuel := 12) ?_ rfl rfl (by kernel_rfl) (by kernel_rfl) (by kernel_rfl) (Or.inl ⟨by rfl, ?_⟩) hSw ?_
          rotate_left
          · intro wx hSx
            (try dsimp only at hSx)
            go_split_ands
            go_simp
            (try with_reducible rfl)
          simp only [List.setIfInBounds_toArray, List.set_cons_zero, List.set_cons_succ]
          refine take_at 12 36 undef (fuel := 11) rfl rfl (by kernel_rfl) (by kernel_rfl) (by kernel_rfl) (Or.inr ⟨by rfl, rfl⟩) hSw ?_
          simp only [List.setIfInBounds_toArray, List.set_cons_zero, List.set_cons_succ]
          refine take_at 13 37 undef (fuel := 10) rfl rfl (by kernel_rfl) (by kernel_rfl) (by kernel_rfl) (Or.inr ⟨by rfl, rfl⟩) hSw ?_
          simp only [List.setIfInBounds_toArray, List.set_cons_zero, List.set_cons_succ]
          refine take_at 14 38 undef (fuel := 9) rfl rfl (by kernel_rfl) (by kernel_rfl) (by kernel_rfl) (Or.inr ⟨by rfl, rfl⟩) hSw ?_
          simp only [List.setIfInBounds_toArray, List.set_cons_zero, List.set_cons_succ]
          refine take_at 15 39 undef (fuel := 8) rfl rfl (by kernel_rfl) (by kernel_rfl) (by kernel_rfl) (Or.inr ⟨by rfl, rfl⟩) hSw ?_
          simp only [List.setIfInBounds_toArray, List.set_cons_zero, List.set_cons_succ]
          refine take_at 16 40 undef (fuel := 7) rfl rfl (by kernel_rfl) (by kernel_rfl) (by kernel_rfl) (Or.inr ⟨by rfl, rfl⟩) hSw ?_
          simp only [List.setIfInBounds_toArray, List.set_cons_zero, List.set_cons_succ]
          refine take_at 17 41 undef (fuel := 6) rfl rfl (by kernel_rfl) (by kernel_rfl) (by kernel_rfl) (Or.inr ⟨by rfl, rfl⟩) hSw ?_
          simp only [List.setIfInBounds_toArray, List.set_cons_zero, List.set_cons_succ]
          refine take_at 18 42 undef (fuel := 5) rfl rfl (by kernel_rfl) (by kernel_rfl) (by kernel_rfl) (Or.inr ⟨by rfl, rfl⟩) hSw ?_
          simp only [List.setIfInBounds_toArray, List.set_cons_zero, List.set_cons_succ]
          refine take_at 19 43 undef (fuel := 4) rfl rfl (by kernel_rfl) (by kernel_rfl) (by kernel_rfl) (Or.inr ⟨by rfl, rfl⟩) hSw ?_
          simp only [List.setIfInBounds_toArray, List.set_cons_zero, List.set_cons_succ]
          refine take_at 20 44 undef (fuel := 3) rfl rfl (by kernel_rfl) (by kernel_rfl) (by kernel_rfl) (Or.inr ⟨by rfl, rfl⟩) hSw ?_
          simp only [List.setIfInBounds_toArray, List.set_cons_zero, List.set_cons_succ]
          refine take_at 21 45 undef (fuel := 2) rfl rfl (by kernel_rfl) (by kernel_rfl) (by kernel_rfl) (Or.inr ⟨by rfl, rfl⟩) hSw ?_
          simp only [List.setIfInBounds_toArray, List.set_cons_zero, List.set_cons_succ]
          refine take_at 22 46 (fuel := 1) ?_ rfl rfl (by kernel_rfl) (by kernel_rfl) (by kernel_rfl) (Or.inl ⟨by rfl, ?_⟩) hSw ?_
          rotate_left
          · intro wx hSx
            (try dsimp only at hSx)
            go_split_ands
            go_simp
            (try with_reducible rfl)
          simp only [List.setIfInBounds_toArray, List.set_cons_zero, List.set_cons_succ]
          refine wpAnyH_ready (fuel := 0) (rs := [23]) (by kernel_rfl) (by simp) (AllReadyH.cons rfl (fun K hK => ?_) AllReadyH.nil)
          go_simp
          refine hK.out _ _ ⟨(World.cell?_setCell_far _ _ _ _ (by show wr.heap.size + 1 ≠ wr.heap.size; omega)).trans ci, by simpa using fo, (World.cell?_setCell_far _ _ _ _ (by show wr.heap.size + 1 ≠ b5'; omega)).trans c5⟩ (fun _ => wpAnyH_done (by kernel_rfl) ⟨rfl, ?_⟩ 0)
          clear hK K
          gi_wp2
          exact two_put_d (b := false) (fun g hg => (hv g hg).1) (by omega) hbi hbo hkp (by rw [HSN.out, hok, Bool.false_and])
      case hdone =>
        rintro D W hD ⟨hbi, hbo, hkp⟩ hK
        rw [okF_all] at hbo
        have hbW : Below wr.heap.size wr W := HBW.out.trans ⟨hkp.os, hkp.tape, hkp.output, hkp.size, fun k hk => hkp.block k (by omega) (by omega)⟩
        have hL : Looks w m r G vs j wr.heap.size b5' ({ target := .collected D, args := #[] } :: ds) W :=
          ⟨HS.out.onto hbW, hbi, hbo, hkp.blk HB57.out (by omega), ⟨⟨D, rfl, by omega, hK, fun d' hd' e => by have := (hMl D d' hd' e).2.1; omega⟩, HM.out.keep fun k d hd hk => hbW.block k (hMl k d hd hk).2.1⟩⟩
        have hbk := back_h hL.sm.at_ hlt
        have c5 := hL.i.cell 0
        have cm0 := hL.sm.box.cell 0
        have cm1 := hL.sm.box.cell 1
        simp only [List.getElem?_toArray, List.getElem?_cons_zero, List.getElem?_cons_succ] at c5 cm0 cm1
        clear hbi hbo hkp hK hbW hbox bi bo
        have HL := Lib.hid hL
        go_wp2_with fail
        refine hbk.mono ?_
        rintro e w8 ⟨rfl, rfl⟩
        have hrb := rback_c hlt (Nat.lt_trans hll (by omega)) W HL.out.sm.rf
        unfold refV at hrb
        go_wp2_with fail
        refine hrb.mono ?_
        rintro e w9 ⟨rfl, hb9⟩
        have hL9 := HL.out.onto hb9
        have hcol := (hL9.sm.rf.at_ hlt)
        obtain ⟨cg, ga, gc, hgv⟩ := hcol
        rw [hgv] at cg
        clear hgv hrb hb9 hL hbk c5 cm0 cm1
        have q1 : (0 : Int) ≤ (j : Int) := by omega
        have q2 : (j : Int) < (r.n : Int) := by omega
        go_upto_region 11 with (fail)
        have hLd := hL9.drew
        have hLa := hLd.all
        have hcd : w9.drew.cell? ⟨G, j, none⟩ = some (.slice ga (r.l j).length gc) := cg
        have hlen := fun W (h : Looks w m r G vs j wr.heap.size b5' ({ target := .collected D, args := #[] } :: ds) W) => flip (len_c' W h.sm.at_ hlt)
        go_region_held3 (fun W => W.cell? ⟨G, j, none⟩ = some (.slice ga (r.l j).length gc) ∧ W.cell? ⟨wr.heap.size, 0, none⟩ = some (.int .i64 ((r.l j).length : Int)) ∧ W.cell? ⟨wr.heap.size + 1, 0, none⟩ = some (.bool true) ∧ W.cell? ⟨b5', 0, none⟩ = some (.int .i64 (j : Int)) ∧
            W.cell? ⟨w.heap.size, 0, none⟩ = some (.slice (some ⟨G, 0, none⟩) r.n r.n) ∧ Looks w m r G vs j wr.heap.size b5' ({ target := .collected D, args := #[] } :: ds) W)
          (first | assumption | exact ⟨hcd, hLa⟩)
          ((go_at_call 29; refine (hlen _ (by assumption : _ ∧ _ ∧ _ ∧ _ ∧ _ ∧ _).2.2.2.2.2).mono ?_; rintro e wv ⟨rfl, rfl⟩))
        have HL9 := Lib.hid hL9
        have c5 := hLd.i.cell 0
        have hlr := HL.out.i.lt
        simp only [List.getElem?_toArray, List.getElem?_cons_zero] at c5
        clear hLd hLa hlen hcd cg q1 q2 hL9
        go_wp2_with fail
        have hbe := ((Below.refl _ w9).alloc (Nat.le_refl _) (.cells #[.int .i64 ((j : Int) + 1)] 3)).drew
        have hLx := HL9.out.onto hbe
        have hnb : Blk (w9.alloc (.cells #[.int .i64 ((j : Int) + 1)] 3)).drew w9.heap.size 3 #[.int .i64 ((j + 1 : Nat) : Int)] := by
          rw [Int.natCast_add]
          exact Blk.new w9 _ _
        have hbl := HL9.out.sm.below.size
        have hbx := HL9.out.sm.box.lt
        refine ⟨⟨j + 1, w9.heap.size, { target := .collected D, args := #[] } :: ds, _, ⟨by omega, hLx.sm, hnb, by omega, hLx.mks⟩, ⟨rfl, rfl, rfl, rfl, rfl⟩, rfl⟩, ?_⟩
        show r.n - boxN (.pointer (some ⟨w9.heap.size, 0, none⟩)) _ < r.n - boxN (.pointer (some ⟨b5', 0, none⟩)) wr
        rw [boxN_of hnb, boxN_of HB5.out]
        omega
    · obtain rfl : j = r.n := by omega
      have hE : Ends w m r G vs ds wr := ⟨hS, hM⟩
      have hfr := fun W (h : Ends w m r G vs ds W) => ends_free h
      have hmn := fun W (h : Ends w m r G vs ds W) => ends_many hlens hn h
      have hls := fun W (h : Ends w m r G vs ds W) => ends_lists h
      have hwf := hS.at_.wf
      have hp1 := hwf.pl
      have hp2 := hwf.many
      clear hwf hS hM hb5 hlens
      go_upto_region 15 with (fail)
      have hEd := hE.drew
      have hEa := hEd.all
      have u1 : IntKind.i64.wrap ((r.places : Int) - (r.many : Int)) = (r.places : Int) - (r.many : Int) := by rw [IntKind.wrap_i64]; omega
      go_region_held3 (fun W => W.cell? ⟨w.heap.size, 0, none⟩ = some (.slice (some ⟨G, 0, none⟩) r.n r.n) ∧ W.cell? ⟨w.heap.size, 1, none⟩ = some (.int .i64 (r.places : Int)) ∧ Ends w m r G vs ds W)
        (first | assumption | exact hEa | exact Ends.all (by assumption))
        (first | (go_at_call 28; refine (hfr _ (by assumption : _ ∧ _ ∧ _).2.2).mono ?_; rintro e wv ⟨rfl, hwv⟩) | (go_at_call 60; refine (hmn _ (by assumption : _ ∧ _ ∧ _).2.2).mono ?_; rintro e wv ⟨rfl, hwv⟩) | (go_at_call 32; refine (hls _ (by assumption : _ ∧ _ ∧ _).2.2).mono ?_; rintro e wv ⟨rfl, hwv⟩))
      have hE9 := (by assumption : _ ∧ _ ∧ Ends w m r G vs ds _).2.2
      clear hEd hEa hE hfr hmn hls u1
      go_wp2_with fail
      exact leave_marks (B := w.heap.size) (fun _ => results_tmp rfl _ _ _) _ _ hE9.mks (fun W' hb' => ⟨rfl, hE9.sm.below.trans hb'⟩)
end Go.Proofs.Ytfhlnidjneaieaa.Ringy
