/- The document's own ARC: a key is inserted, touched, removed; one is evicted; its bytes; a new one. The only condition: it is as chapter 7 has it. -/
import Derived.Test.YtfhlnidjneaieaaArcDocA
import Derived.Deep.RegionHeld3
import Derived.Deep.CutRange
import Derived.Deep.CutBlock
namespace Go.Proofs.Ytfhlnidjneaieaa.Arcy
open Go.ChangeShapes Go.WideShapes Go.ChangeAt Go.RowKit Go.Shelf
open Wirey (Blk Row str str_size str_list Kp)
open Ringy Go.ChangeMaps Go.Maps

section
variable {w x y : World} {v v' v'' : Av} {G G' G'' : Nat} {vs vs' vs'' : Nat → Value} {k : Key}
/-- .. and the keys that go. -/
structure Wo (w : World) (G : Nat) (vs : Nat → Value) (v' : Av) (G' : Nat) (vs' : Nat → Value) (out : Value) (L : List Key) (x : World) : Prop where
  wr : Wr w G vs v' G' vs' x
  row : x.ownsRow (w.heap.size + 2) 9 1 out L.length (strsV L)
theorem Wo.onto {out : Value} {L : List Key} (h : Wo w G vs v' G' vs' out L x) (hb : Below x.heap.size x y) : Wo w G vs v' G' vs' out L y := ⟨h.wr.onto hb, ownsRow_stay h.row fun b hb2 => hb.block b (h.row.lt b hb2).2⟩
theorem Wo.drewN {out : Value} {L : List Key} (h : Wo w G vs v' G' vs' out L x) (n : Nat) : Wo w G vs v' G' vs' out L (x.drewN n) := h.onto ⟨rfl, rfl, rfl, Nat.le_refl _, fun _ _ => rfl⟩
theorem Wo.all {out : Value} {L : List Key} (h : Wo w G vs v' G' vs' out L x) : x.cell? ⟨w.heap.size, 0, none⟩ = some (.int .i64 (v'.most : Int)) ∧ x.cell? ⟨w.heap.size, 1, none⟩ = some (.int .i64 (v'.tgt : Int)) ∧ x.cell? ⟨w.heap.size, 2, none⟩ = some (.slice (some ⟨G', 0, none⟩) 4 4) ∧ x.cell? ⟨w.heap.size, 3, none⟩ = some (.int .i64 (v'.pl : Int)) ∧ Wo w G vs v' G' vs' out L x := ⟨h.wr.box.cell 0, h.wr.box.cell 1, h.wr.box.cell 2, h.wr.box.cell 3, h⟩
theorem row_box {B n : Nat} {val : Value} {xs : List Value} (h : x.ownsRow B 9 1 val n xs) (hB : w.heap.size + 2 ≤ B) (i : Nat) (u : Value) : (x.setCell ⟨w.heap.size, i, none⟩ u).ownsRow B 9 1 val n xs :=
  ownsRow_stay h fun b hb => Below.heap_setCell x ⟨w.heap.size, i, none⟩ u b (by have := (h.lt b hb).1; show b ≠ w.heap.size; omega)
theorem wo_of {out : Value} {L : List Key} {f : FuncId} {args : Array Value} {R : Ending} (hc : Dat x v' G' vs' → Calls Try.prog f args x fun e y => e = R ∧ Below x.heap.size x y) (h : Wo w G vs v' G' vs' out L x) : Calls Try.prog f args x fun e y => e = R ∧ Wo w G vs v' G' vs' out L y :=
  (hc h.wr.go.rf).mono fun _ _ ⟨a, b⟩ => ⟨a, h.onto b⟩
theorem Av.Fine.room (h : v.Fine) (b : Bool) : (v.room b).Fine := by
  unfold Av.room
  split
  · exact h
  · exact h.repl b
theorem rin7_c (hok : v.Ok) (x : World) (h : Dat x v G vs) :
    Calls Try.prog 18 #[.agg #[.slice (some ⟨G, 0, none⟩) 4 4, .int .i64 (v.pl : Int)], .string (str k)] x fun e y => e = .returned (.tuple #[.int .i64 (((v.at_ k).getD 0 : Nat) : Int), .bool (v.at_ k).isSome]) ∧ Below x.heap.size x y := by
  have hc := rin_c k (by rw [hok.n]; decide) hok.lens x h
  rw [hok.val, (ix_eq hok k).1, (ix_eq hok k).2] at hc
  exact hc
theorem rlen_a {a : Int} {i : Nat} (ha : a = (i : Int)) (hi : i < 4) (hok : v.Ok) (w : World) (h : Dat w v G vs) :
    Calls Try.prog 94 #[.agg #[.int .i64 (v.most : Int), .int .i64 (v.tgt : Int), .slice (some ⟨G, 0, none⟩) 4 4, .int .i64 (v.pl : Int)], .int .i64 a] w fun e w' => e = .returned (.int .i64 (v.len i : Int)) ∧ Below w.heap.size w w' := by
  subst ha
  exact rlen_c hi hok w h
/-- One goes, and the own copy is laid anew. -/
theorem Wo.room {out val : Value} {L : List Key} {b : Bool} (h : Wo w G vs v G' vs' out L x) (hf : v.Fine) (hg : Goes x G' vs' (v.repl b) G'' vs'' y) {n : Nat} {xs : List Value} (hr : y.ownsRow x.heap.size 9 1 val n xs) :
    Wr w G vs (v.repl b) G'' vs'' ((((y.setCell ⟨w.heap.size, 0, none⟩ (.int .i64 (v.most : Int))).setCell ⟨w.heap.size, 1, none⟩ (.int .i64 (v.tgt : Int))).setCell ⟨w.heap.size, 2, none⟩ (.slice (some ⟨G'', 0, none⟩) 4 4)).setCell ⟨w.heap.size, 3, none⟩ (.int .i64 (v.pl : Int))) ∧
    ((((y.setCell ⟨w.heap.size, 0, none⟩ (.int .i64 (v.most : Int))).setCell ⟨w.heap.size, 1, none⟩ (.int .i64 (v.tgt : Int))).setCell ⟨w.heap.size, 2, none⟩ (.slice (some ⟨G'', 0, none⟩) 4 4)).setCell ⟨w.heap.size, 3, none⟩ (.int .i64 (v.pl : Int))).ownsRow (w.heap.size + 2) 9 1 val n xs := by
  have h1 := h.wr.take (v' := v.repl b) (hf.repl b).ok hg
  have hpl : (v.repl b).pl = v.pl := by unfold Av.pl; rw [(Av.repl_num v b).1]
  rw [(Av.repl_num v b).1, (Av.repl_num v b).2, hpl] at h1
  have hB : w.heap.size + 2 ≤ x.heap.size := h.wr.res.lt
  exact ⟨h1, Ringy.own_mono (row_box (row_box (row_box (row_box hr hB 0 _) hB 1 _) hB 2 _) hB 3 _) hB⟩
set_option maxHeartbeats 8000000 in
set_option maxRecDepth 100000 in
theorem rins_b2 (hk : k.length ≤ 64) (e : v.at_ k = some 2) (hf : v.Fine) (hv : ((v.up.room false).fr 1 k).Ok) (w : World) (h : Dat w v G vs) :
    Calls Try.prog 72 #[.agg #[.int .i64 (v.most : Int), .int .i64 (v.tgt : Int), .slice (some ⟨G, 0, none⟩) 4 4, .int .i64 (v.pl : Int)], .string (str k)] w (InsP w G vs ((v.up.room false).fr 1 k) (v.up.roomK false)) := by
  have hsz := str_size k
  have hok := hf.ok
  have h2 := Wr.new hok h
  have d1 : ¬ (64 : Int) < (k.length : Int) := by omega
  have hh : v.has k = false := by rw [Av.at_has hok, e]; rfl
  have fh := fun W (h : Wr w G vs v G vs W) => wr_has (k := k) hok h
  have fi : ∀ W out L, Wo w G vs v G vs out L W → Calls Try.prog 18 #[.agg #[.slice (some ⟨G, 0, none⟩) 4 4, .int .i64 (v.pl : Int)], .string (str k)] W fun e y => e = .returned (.tuple #[.int .i64 2, .bool true]) ∧ Wo w G vs v G vs out L y := fun W out L h => by have := wo_of (fun d => rin7_c (k := k) hok W d) h; rw [e] at this; exact this
  rw [hh] at fh
  obtain ⟨-, hmem⟩ := Av.at_some e
  have hpos : 0 < v.len 2 := List.length_pos_of_mem hmem
  have f2 := fun W out L (h : Wo w G vs v G vs out L W) => wo_of (fun d => rlen_a (a := 2) (i := 2) rfl (by omega) hok W d) h
  have f3 := fun W out L (h : Wo w G vs v G vs out L W) => wo_of (fun d => rlen_a (a := 3) (i := 3) rfl (by omega) hok W d) h
  have hl := hok.len_le (i := 3) (by omega)
  have ht := hok.t
  have hm2 := hok.m2
  have hfu := hf.up
  have hdl : v.len 3 / v.len 2 ≤ v.len 3 := Nat.div_le_self _ _
  have hd := div_nat (v.len 3) (v.len 2) hl
  have hup : v.up.tgt = min (v.tgt + max 1 (v.len 3 / v.len 2)) v.most := rfl
  have hT : ∀ W (t : Int) out L, t = (v.up.tgt : Int) → Wo w G vs v G vs out L W → Wo w G vs v.up G vs out L (W.setCell ⟨w.heap.size, 1, none⟩ (.int .i64 t)) := fun W t out L e h => by rw [e]; exact ⟨h.wr.turn hok hfu.ok.t, row_box h.row (Nat.le_refl _) 1 _⟩
  have hT2 : ∀ W (t : Int) u out L, t = (v.up.tgt : Int) → Wo w G vs v G vs out L W → Wo w G vs v.up G vs out L ((W.setCell ⟨w.heap.size, 1, none⟩ u).setCell ⟨w.heap.size, 1, none⟩ (.int .i64 t)) := fun W t u out L e h => by rw [e]; exact ⟨h.wr.turn2 hok hfu.ok.t u, row_box (row_box h.row (Nat.le_refl _) 1 _) (Nat.le_refl _) 1 _⟩
  generalize v.len 3 / v.len 2 = q at *
  have HT := Lib.hid hT
  have HT2 := Lib.hid hT2
  have HU := Lib.hid hup
  clear hmem e hT hT2 hup
  go_enter Try.func72, Try.ntmps72
  go_upto_region 1 with (fail)
  generalize (w.alloc (.cells #[.int .i64 (v.most : Int), .int .i64 (v.tgt : Int), .slice (some ⟨G, 0, none⟩) 4 4, .int .i64 (v.pl : Int)] 63)).alloc (.cells #[.int .i64 0, .int .i64 0, .slice none 0 0, .int .i64 0] 63) = w2 at *
  obtain ⟨x0, x1, x2, x3, -⟩ := h2.cells
  go_wp2_with fail
  refine (fh _ h2).mono ?_
  rintro e w3 ⟨rfl, h3⟩
  have h4 : Wo w G vs v G vs (.slice (some ⟨w3.heap.size, 0, none⟩) 0 0) [] (w3.alloc (.cells #[] 9)) := ⟨h3.onto ((Below.refl _ w3).alloc (Nat.le_refl _) (.cells #[] 9)), World.ownsRow_lit (size := 1) (e := 9) w3 #[] 0 (by have := h3.res.lt; omega) (by unfold maxLen; omega) rfl⟩
  clear x0 x1 x2 x3 h2 h3 fh hh
  obtain ⟨x0, x1, x2, x3, -⟩ := h4.all
  go_upto_region 6 with (fail)
  generalize w3.alloc (.cells #[] 9) = w4 at *
  go_wp2_with fail
  refine (fi _ _ _ h4).mono ?_
  rintro e w5 ⟨rfl, h5⟩
  clear x0 x1 x2 x3 h4 fi
  go_upto_region 8 with (fail)
  have hda := (h5.drewN 1).all
  go_region_held3 (fun W => W.cell? ⟨w.heap.size, 0, none⟩ = some (.int .i64 (v.most : Int)) ∧ W.cell? ⟨w.heap.size, 1, none⟩ = some (.int .i64 (v.tgt : Int)) ∧ W.cell? ⟨w.heap.size, 2, none⟩ = some (.slice (some ⟨G, 0, none⟩) 4 4) ∧ W.cell? ⟨w.heap.size, 3, none⟩ = some (.int .i64 (v.pl : Int)) ∧ Wo w G vs v G vs (.slice (some ⟨w3.heap.size, 0, none⟩) 0 0) [] W)
    (first | assumption | exact hda | exact Wo.all (by assumption))
    (first | (go_at_call 94; (with_reducible refine Calls.mono (f2 _ _ _ (by assumption : _ ∧ _ ∧ _ ∧ _ ∧ _).2.2.2.2) ?_); rintro e wv ⟨rfl, hwv⟩) | (go_at_call 94; (with_reducible refine Calls.mono (f3 _ _ _ (by assumption : _ ∧ _ ∧ _ ∧ _ ∧ _).2.2.2.2) ?_); rintro e wv ⟨rfl, hwv⟩) | fail)
  have h6 := (by assumption : _ ∧ _ ∧ _ ∧ _ ∧ Wo w G vs v G vs _ _ _).2.2.2.2
  clear hda f2 f3 h5
  have hne : (v.len 2 : Int) ≠ 0 := by omega
  go_upto_if 41 with (fail)
  go_cut [11, 12] from 42 (fun _ _ wx => Wo w G vs v.up G vs (.slice (some ⟨w3.heap.size, 0, none⟩) 0 0) [] wx)
  case first =>
    obtain ⟨x0, x1, x2, x3, -⟩ := h6.all
    have y1 := h6.wr.box.free 1
    by_cases c1 : q < 1
    · have dq : decide ((q : Int) < 1) = true := decide_eq_true (by omega)
      have u1 : IntKind.i64.wrap ((v.tgt : Int) + 1) = (v.tgt : Int) + 1 := by rw [IntKind.wrap_i64]; omega
      by_cases c2 : (v.most : Int) < (v.tgt : Int) + 1
      · have dm : decide ((v.most : Int) < (v.tgt : Int) + 1) = true := decide_eq_true c2
        go_wp2_with fail
        go_meet
        exact HT2.out _ _ _ _ _ (by have := HU.out; omega) h6
      · have dm : decide ((v.most : Int) < (v.tgt : Int) + 1) = false := decide_eq_false c2
        go_wp2_with fail
        go_meet
        exact HT.out _ _ _ _ (by have := HU.out; omega) h6
    · have dq : decide ((q : Int) < 1) = false := decide_eq_false (by omega)
      have u1 : IntKind.i64.wrap ((v.tgt : Int) + (q : Int)) = (v.tgt : Int) + (q : Int) := by rw [IntKind.wrap_i64]; omega
      by_cases c2 : (v.most : Int) < (v.tgt : Int) + (q : Int)
      · have dm : decide ((v.most : Int) < (v.tgt : Int) + (q : Int)) = true := decide_eq_true c2
        go_wp2_with fail
        go_meet
        exact HT2.out _ _ _ _ _ (by have := HU.out; omega) h6
      · have dm : decide ((v.most : Int) < (v.tgt : Int) + (q : Int)) = false := decide_eq_false c2
        go_wp2_with fail
        go_meet
        exact HT.out _ _ _ _ (by have := HU.out; omega) h6
  case rest =>
    have h7 := hcut
    clear hcut HT HT2 HU h6 hd hne
    generalize v.up = v1 at *
    have fk := fun W out L (h : Wo w G vs v1 G vs out L W) => wo_of (fun d => rkept_c hfu.ok W d) h
    obtain ⟨x0, x1, x2, x3, -⟩ := h7.all
    go_upto_region 22 with (fail)
    have hda := (h7.drewN 1).all
    go_region_held3 (fun W => W.cell? ⟨w.heap.size, 0, none⟩ = some (.int .i64 (v1.most : Int)) ∧ W.cell? ⟨w.heap.size, 1, none⟩ = some (.int .i64 (v1.tgt : Int)) ∧ W.cell? ⟨w.heap.size, 2, none⟩ = some (.slice (some ⟨G, 0, none⟩) 4 4) ∧ W.cell? ⟨w.heap.size, 3, none⟩ = some (.int .i64 (v1.pl : Int)) ∧ Wo w G vs v1 G vs (.slice (some ⟨w3.heap.size, 0, none⟩) 0 0) [] W)
      (first | assumption | exact hda | exact Wo.all (by assumption))
      (first | (go_at_call 74; (with_reducible refine Calls.mono (fk _ _ _ (by assumption : _ ∧ _ ∧ _ ∧ _ ∧ _).2.2.2.2) ?_); rintro e wv ⟨rfl, hwv⟩) | fail)
    have h8 := (by assumption : _ ∧ _ ∧ _ ∧ _ ∧ Wo w G vs v1 G vs _ _ _).2.2.2.2
    clear hda fk h7 x0 x1 x2 x3
    go_upto_if 78 with (fail)
    go_cut [6] from 78 (fun out wx => ∃ G1 vs1, Wo w G vs (v1.room false) G1 vs1 out (v1.roomK false) wx)
    case first =>
      obtain ⟨x0, x1, x2, x3, -⟩ := h8.all
      by_cases hr : v1.kept < v1.most
      · have d5 : decide ((v1.most : Int) ≤ (v1.kept : Int)) = false := decide_eq_false (by omega)
        have e1 : v1.room false = v1 := if_pos hr
        have e2 : v1.roomK false = [] := if_pos hr
        have HE1 := Lib.hid e1
        have HE2 := Lib.hid e2
        clear e1 e2
        go_wp2_with fail
        go_meet
        exact ⟨G, vs, by rw [HE1.out, HE2.out]; exact h8⟩
      · have d5 : decide ((v1.most : Int) ≤ (v1.kept : Int)) = true := decide_eq_true (by omega)
        have HE1 := Lib.hid (show v1.room false = v1.repl false from if_neg hr)
        have HE2 := Lib.hid (show v1.roomK false = (v1.last (v1.src false)).toList from if_neg hr)
        have fr := fun W (h : Dat W v1 G vs) => rreplace_c false hfu W h
        go_wp2_with fail
        refine (fr _ h8.wr.go.rf).mono ?_
        rintro e w8 ⟨G1, vs1, val, rfl, hg, hrow⟩
        have hR := Lib.hid (h8.room hfu hg hrow)
        have h9 := h8.onto hg.below
        clear x0 x1 x2 x3 hrow hg fr
        obtain ⟨x0, x1, x2, x3, y0, y1, y2, y3⟩ := h9.wr.cells
        clear h8 h9
        go_wp2_with fail
        go_meet
        exact ⟨G1, vs1, by rw [HE1.out]; exact hR.out.1, by rw [HE2.out]; exact hR.out.2⟩
    case rest =>
      obtain ⟨G1, vs1, h9⟩ := hcut
      have hf2 := hfu.room false
      clear h8
      generalize v1.room false = v2 at *
      generalize v1.roomK false = LK at *
      have fc := fun W (h : Dat W v2 G1 vs1) => rfront_a (a := 1) (j := 1) rfl (by omega) hk hf2 hv W h
      obtain ⟨x0, x1, x2, x3, -⟩ := h9.all
      go_wp2_with fail
      refine (fc _ h9.wr.go.rf).mono ?_
      rintro e w9 ⟨G', vs', rfl, hg⟩
      have h10 := h9.onto hg.below
      have hR := h9.wr.fin (v' := v2.fr 1 k) hv hg
      have hrow := row_put (w := w) (m := v2.most) (t := v2.tgt) (G := G') (p := v2.pl) h10.row (Nat.le_refl _)
      unfold putA at hrow
      have HROW := Lib.hid hrow
      clear x0 x1 x2 x3 hrow hg fc h9
      obtain ⟨z0, z1, z2, z3, z4, z5, z6, z7⟩ := h10.wr.zero
      clear h10
      obtain ⟨hG, p0, p1, p2, p3⟩ := (show Goes w G vs (v2.fr 1 k) G' vs' (putA w w9 v2.most v2.tgt G' v2.pl) ∧ (putA w w9 v2.most v2.tgt G' v2.pl).cell? ⟨w.heap.size + 1, 0, none⟩ = some (.int .i64 (v2.most : Int)) ∧ (putA w w9 v2.most v2.tgt G' v2.pl).cell? ⟨w.heap.size + 1, 1, none⟩ = some (.int .i64 (v2.tgt : Int)) ∧ (putA w w9 v2.most v2.tgt G' v2.pl).cell? ⟨w.heap.size + 1, 2, none⟩ = some (.slice (some ⟨G', 0, none⟩) 4 4) ∧ (putA w w9 v2.most v2.tgt G' v2.pl).cell? ⟨w.heap.size + 1, 3, none⟩ = some (.int .i64 (v2.pl : Int)) from hR)
      unfold putA at hG p0 p1 p2 p3
      have HG := Lib.hid hG
      have HP0 := Lib.hid p0
      have HP1 := Lib.hid p1
      have HP2 := Lib.hid p2
      have HP3 := Lib.hid p3
      clear hG p0 p1 p2 p3
      go_wp2_with fail
      have p0 := HP0.out
      have p1 := HP1.out
      have p2 := HP2.out
      have p3 := HP3.out
      have hG := HG.out
      clear HP0 HP1 HP2 HP3 HG
      generalize ((((w9.setCell ⟨w.heap.size + 1, 0, none⟩ (.int .i64 (v2.most : Int))).setCell ⟨w.heap.size + 1, 1, none⟩ (.int .i64 (v2.tgt : Int))).setCell ⟨w.heap.size + 1, 2, none⟩ (.slice (some ⟨G', 0, none⟩) 4 4)).setCell ⟨w.heap.size + 1, 3, none⟩ (.int .i64 (v2.pl : Int))) = w9 at *
      (try simp only [Exit.inBlock, Exit.then])
      refine bodyPost_ret (v := .tuple #[.agg #[.int .i64 (v2.most : Int), .int .i64 (v2.tgt : Int), .slice (some ⟨G', 0, none⟩) 4 4, .int .i64 (v2.pl : Int)], u6]) (by simp [results, Try.results72, go_sem, p0, p1, p2, p3]) rfl ?_
      exact ⟨G', vs', _, rfl, hG, Ringy.own_mono HROW.out (by omega)⟩
set_option maxHeartbeats 8000000 in
set_option maxRecDepth 100000 in
theorem rins_b3 (hk : k.length ≤ 64) (e : v.at_ k = some 3) (hf : v.Fine) (hv : ((v.down.room true).fr 1 k).Ok) (w : World) (h : Dat w v G vs) :
    Calls Try.prog 72 #[.agg #[.int .i64 (v.most : Int), .int .i64 (v.tgt : Int), .slice (some ⟨G, 0, none⟩) 4 4, .int .i64 (v.pl : Int)], .string (str k)] w (InsP w G vs ((v.down.room true).fr 1 k) (v.down.roomK true)) := by
  have hsz := str_size k
  have hok := hf.ok
  have h2 := Wr.new hok h
  have d1 : ¬ (64 : Int) < (k.length : Int) := by omega
  have hh : v.has k = false := by rw [Av.at_has hok, e]; rfl
  have fh := fun W (h : Wr w G vs v G vs W) => wr_has (k := k) hok h
  have fi : ∀ W out L, Wo w G vs v G vs out L W → Calls Try.prog 18 #[.agg #[.slice (some ⟨G, 0, none⟩) 4 4, .int .i64 (v.pl : Int)], .string (str k)] W fun e y => e = .returned (.tuple #[.int .i64 3, .bool true]) ∧ Wo w G vs v G vs out L y := fun W out L h => by have := wo_of (fun d => rin7_c (k := k) hok W d) h; rw [e] at this; exact this
  rw [hh] at fh
  obtain ⟨-, hmem⟩ := Av.at_some e
  have hpos : 0 < v.len 3 := List.length_pos_of_mem hmem
  have f2 := fun W out L (h : Wo w G vs v G vs out L W) => wo_of (fun d => rlen_a (a := 2) (i := 2) rfl (by omega) hok W d) h
  have f3 := fun W out L (h : Wo w G vs v G vs out L W) => wo_of (fun d => rlen_a (a := 3) (i := 3) rfl (by omega) hok W d) h
  have hl := hok.len_le (i := 2) (by omega)
  have ht := hok.t
  have hm2 := hok.m2
  have hfu := hf.down
  have hdl : v.len 2 / v.len 3 ≤ v.len 2 := Nat.div_le_self _ _
  have hd := div_nat (v.len 2) (v.len 3) hl
  have hup : v.down.tgt = v.tgt - max 1 (v.len 2 / v.len 3) := rfl
  have hT : ∀ W (t : Int) out L, t = (v.down.tgt : Int) → Wo w G vs v G vs out L W → Wo w G vs v.down G vs out L (W.setCell ⟨w.heap.size, 1, none⟩ (.int .i64 t)) := fun W t out L e h => by rw [e]; exact ⟨h.wr.turn hok hfu.ok.t, row_box h.row (Nat.le_refl _) 1 _⟩
  have hT2 : ∀ W (t : Int) u out L, t = (v.down.tgt : Int) → Wo w G vs v G vs out L W → Wo w G vs v.down G vs out L ((W.setCell ⟨w.heap.size, 1, none⟩ u).setCell ⟨w.heap.size, 1, none⟩ (.int .i64 t)) := fun W t u out L e h => by rw [e]; exact ⟨h.wr.turn2 hok hfu.ok.t u, row_box (row_box h.row (Nat.le_refl _) 1 _) (Nat.le_refl _) 1 _⟩
  generalize v.len 2 / v.len 3 = q at *
  have HT := Lib.hid hT
  have HT2 := Lib.hid hT2
  have HU := Lib.hid hup
  clear hmem e hT hT2 hup
  go_enter Try.func72, Try.ntmps72
  go_upto_region 1 with (fail)
  generalize (w.alloc (.cells #[.int .i64 (v.most : Int), .int .i64 (v.tgt : Int), .slice (some ⟨G, 0, none⟩) 4 4, .int .i64 (v.pl : Int)] 63)).alloc (.cells #[.int .i64 0, .int .i64 0, .slice none 0 0, .int .i64 0] 63) = w2 at *
  obtain ⟨x0, x1, x2, x3, -⟩ := h2.cells
  go_wp2_with fail
  refine (fh _ h2).mono ?_
  rintro e w3 ⟨rfl, h3⟩
  have h4 : Wo w G vs v G vs (.slice (some ⟨w3.heap.size, 0, none⟩) 0 0) [] (w3.alloc (.cells #[] 9)) := ⟨h3.onto ((Below.refl _ w3).alloc (Nat.le_refl _) (.cells #[] 9)), World.ownsRow_lit (size := 1) (e := 9) w3 #[] 0 (by have := h3.res.lt; omega) (by unfold maxLen; omega) rfl⟩
  clear x0 x1 x2 x3 h2 h3 fh hh
  obtain ⟨x0, x1, x2, x3, -⟩ := h4.all
  go_upto_region 6 with (fail)
  generalize w3.alloc (.cells #[] 9) = w4 at *
  go_wp2_with fail
  refine (fi _ _ _ h4).mono ?_
  rintro e w5 ⟨rfl, h5⟩
  clear x0 x1 x2 x3 h4 fi
  go_upto_region 8 with (fail)
  have hda := (h5.drewN 1).all
  go_region_held3 (fun W => W.cell? ⟨w.heap.size, 0, none⟩ = some (.int .i64 (v.most : Int)) ∧ W.cell? ⟨w.heap.size, 1, none⟩ = some (.int .i64 (v.tgt : Int)) ∧ W.cell? ⟨w.heap.size, 2, none⟩ = some (.slice (some ⟨G, 0, none⟩) 4 4) ∧ W.cell? ⟨w.heap.size, 3, none⟩ = some (.int .i64 (v.pl : Int)) ∧ Wo w G vs v G vs (.slice (some ⟨w3.heap.size, 0, none⟩) 0 0) [] W)
    (first | assumption | exact hda | exact Wo.all (by assumption))
    (first | (go_at_call 94; (with_reducible refine Calls.mono (f2 _ _ _ (by assumption : _ ∧ _ ∧ _ ∧ _ ∧ _).2.2.2.2) ?_); rintro e wv ⟨rfl, hwv⟩) | (go_at_call 94; (with_reducible refine Calls.mono (f3 _ _ _ (by assumption : _ ∧ _ ∧ _ ∧ _ ∧ _).2.2.2.2) ?_); rintro e wv ⟨rfl, hwv⟩) | fail)
  have h6 := (by assumption : _ ∧ _ ∧ _ ∧ _ ∧ Wo w G vs v G vs _ _ _).2.2.2.2
  clear hda f2 f3 h5
  have hne : (v.len 3 : Int) ≠ 0 := by omega
  go_upto_if 41 with (fail)
  go_cut [11, 12] from 42 (fun _ _ wx => Wo w G vs v.down G vs (.slice (some ⟨w3.heap.size, 0, none⟩) 0 0) [] wx)
  case first =>
    obtain ⟨x0, x1, x2, x3, -⟩ := h6.all
    have y1 := h6.wr.box.free 1
    by_cases c1 : q < 1
    · have dq : decide ((q : Int) < 1) = true := decide_eq_true (by omega)
      have u1 : IntKind.i64.wrap ((v.tgt : Int) - 1) = (v.tgt : Int) - 1 := by rw [IntKind.wrap_i64]; omega
      by_cases c2 : (v.tgt : Int) - 1 < 0
      · have dm : decide ((v.tgt : Int) - 1 < 0) = true := decide_eq_true c2
        go_wp2_with fail
        go_meet
        exact HT2.out _ _ _ _ _ (by have := HU.out; omega) h6
      · have dm : decide ((v.tgt : Int) - 1 < 0) = false := decide_eq_false c2
        go_wp2_with fail
        go_meet
        exact HT.out _ _ _ _ (by have := HU.out; omega) h6
    · have dq : decide ((q : Int) < 1) = false := decide_eq_false (by omega)
      have u1 : IntKind.i64.wrap ((v.tgt : Int) - (q : Int)) = (v.tgt : Int) - (q : Int) := by rw [IntKind.wrap_i64]; omega
      by_cases c2 : (v.tgt : Int) - (q : Int) < 0
      · have dm : decide ((v.tgt : Int) - (q : Int) < 0) = true := decide_eq_true c2
        go_wp2_with fail
        go_meet
        exact HT2.out _ _ _ _ _ (by have := HU.out; omega) h6
      · have dm : decide ((v.tgt : Int) - (q : Int) < 0) = false := decide_eq_false c2
        go_wp2_with fail
        go_meet
        exact HT.out _ _ _ _ (by have := HU.out; omega) h6
  case rest =>
    have h7 := hcut
    clear hcut HT HT2 HU h6 hd hne
    generalize v.down = v1 at *
    have fk := fun W out L (h : Wo w G vs v1 G vs out L W) => wo_of (fun d => rkept_c hfu.ok W d) h
    obtain ⟨x0, x1, x2, x3, -⟩ := h7.all
    go_upto_region 22 with (fail)
    have hda := (h7.drewN 1).all
    go_region_held3 (fun W => W.cell? ⟨w.heap.size, 0, none⟩ = some (.int .i64 (v1.most : Int)) ∧ W.cell? ⟨w.heap.size, 1, none⟩ = some (.int .i64 (v1.tgt : Int)) ∧ W.cell? ⟨w.heap.size, 2, none⟩ = some (.slice (some ⟨G, 0, none⟩) 4 4) ∧ W.cell? ⟨w.heap.size, 3, none⟩ = some (.int .i64 (v1.pl : Int)) ∧ Wo w G vs v1 G vs (.slice (some ⟨w3.heap.size, 0, none⟩) 0 0) [] W)
      (first | assumption | exact hda | exact Wo.all (by assumption))
      (first | (go_at_call 74; (with_reducible refine Calls.mono (fk _ _ _ (by assumption : _ ∧ _ ∧ _ ∧ _ ∧ _).2.2.2.2) ?_); rintro e wv ⟨rfl, hwv⟩) | fail)
    have h8 := (by assumption : _ ∧ _ ∧ _ ∧ _ ∧ Wo w G vs v1 G vs _ _ _).2.2.2.2
    clear hda fk h7 x0 x1 x2 x3
    go_upto_if 78 with (fail)
    go_cut [6] from 78 (fun out wx => ∃ G1 vs1, Wo w G vs (v1.room true) G1 vs1 out (v1.roomK true) wx)
    case first =>
      obtain ⟨x0, x1, x2, x3, -⟩ := h8.all
      by_cases hr : v1.kept < v1.most
      · have d5 : decide ((v1.most : Int) ≤ (v1.kept : Int)) = false := decide_eq_false (by omega)
        have e1 : v1.room true = v1 := if_pos hr
        have e2 : v1.roomK true = [] := if_pos hr
        have HE1 := Lib.hid e1
        have HE2 := Lib.hid e2
        clear e1 e2
        go_wp2_with fail
        go_meet
        exact ⟨G, vs, by rw [HE1.out, HE2.out]; exact h8⟩
      · have d5 : decide ((v1.most : Int) ≤ (v1.kept : Int)) = true := decide_eq_true (by omega)
        have HE1 := Lib.hid (show v1.room true = v1.repl true from if_neg hr)
        have HE2 := Lib.hid (show v1.roomK true = (v1.last (v1.src true)).toList from if_neg hr)
        have fr := fun W (h : Dat W v1 G vs) => rreplace_c true hfu W h
        go_wp2_with fail
        refine (fr _ h8.wr.go.rf).mono ?_
        rintro e w8 ⟨G1, vs1, val, rfl, hg, hrow⟩
        have hR := Lib.hid (h8.room hfu hg hrow)
        have h9 := h8.onto hg.below
        clear x0 x1 x2 x3 hrow hg fr
        obtain ⟨x0, x1, x2, x3, y0, y1, y2, y3⟩ := h9.wr.cells
        clear h8 h9
        go_wp2_with fail
        go_meet
        exact ⟨G1, vs1, by rw [HE1.out]; exact hR.out.1, by rw [HE2.out]; exact hR.out.2⟩
    case rest =>
      obtain ⟨G1, vs1, h9⟩ := hcut
      have hf2 := hfu.room true
      clear h8
      generalize v1.room true = v2 at *
      generalize v1.roomK true = LK at *
      have fc := fun W (h : Dat W v2 G1 vs1) => rfront_a (a := 1) (j := 1) rfl (by omega) hk hf2 hv W h
      obtain ⟨x0, x1, x2, x3, -⟩ := h9.all
      go_wp2_with fail
      refine (fc _ h9.wr.go.rf).mono ?_
      rintro e w9 ⟨G', vs', rfl, hg⟩
      have h10 := h9.onto hg.below
      have hR := h9.wr.fin (v' := v2.fr 1 k) hv hg
      have hrow := row_put (w := w) (m := v2.most) (t := v2.tgt) (G := G') (p := v2.pl) h10.row (Nat.le_refl _)
      unfold putA at hrow
      have HROW := Lib.hid hrow
      clear x0 x1 x2 x3 hrow hg fc h9
      obtain ⟨z0, z1, z2, z3, z4, z5, z6, z7⟩ := h10.wr.zero
      clear h10
      obtain ⟨hG, p0, p1, p2, p3⟩ := (show Goes w G vs (v2.fr 1 k) G' vs' (putA w w9 v2.most v2.tgt G' v2.pl) ∧ (putA w w9 v2.most v2.tgt G' v2.pl).cell? ⟨w.heap.size + 1, 0, none⟩ = some (.int .i64 (v2.most : Int)) ∧ (putA w w9 v2.most v2.tgt G' v2.pl).cell? ⟨w.heap.size + 1, 1, none⟩ = some (.int .i64 (v2.tgt : Int)) ∧ (putA w w9 v2.most v2.tgt G' v2.pl).cell? ⟨w.heap.size + 1, 2, none⟩ = some (.slice (some ⟨G', 0, none⟩) 4 4) ∧ (putA w w9 v2.most v2.tgt G' v2.pl).cell? ⟨w.heap.size + 1, 3, none⟩ = some (.int .i64 (v2.pl : Int)) from hR)
      unfold putA at hG p0 p1 p2 p3
      have HG := Lib.hid hG
      have HP0 := Lib.hid p0
      have HP1 := Lib.hid p1
      have HP2 := Lib.hid p2
      have HP3 := Lib.hid p3
      clear hG p0 p1 p2 p3
      go_wp2_with fail
      have p0 := HP0.out
      have p1 := HP1.out
      have p2 := HP2.out
      have p3 := HP3.out
      have hG := HG.out
      clear HP0 HP1 HP2 HP3 HG
      generalize ((((w9.setCell ⟨w.heap.size + 1, 0, none⟩ (.int .i64 (v2.most : Int))).setCell ⟨w.heap.size + 1, 1, none⟩ (.int .i64 (v2.tgt : Int))).setCell ⟨w.heap.size + 1, 2, none⟩ (.slice (some ⟨G', 0, none⟩) 4 4)).setCell ⟨w.heap.size + 1, 3, none⟩ (.int .i64 (v2.pl : Int))) = w9 at *
      (try simp only [Exit.inBlock, Exit.then])
      refine bodyPost_ret (v := .tuple #[.agg #[.int .i64 (v2.most : Int), .int .i64 (v2.tgt : Int), .slice (some ⟨G', 0, none⟩) 4 4, .int .i64 (v2.pl : Int)], u6]) (by simp [results, Try.results72, go_sem, p0, p1, p2, p3]) rfl ?_
      exact ⟨G', vs', _, rfl, hG, Ringy.own_mono HROW.out (by omega)⟩
end
end Go.Proofs.Ytfhlnidjneaieaa.Arcy

namespace Go.Proofs.Ytfhlnidjneaieaa.Arcy
open Go.ChangeShapes Go.WideShapes Go.ChangeAt Go.RowKit Go.Shelf
open Wirey (Blk Row str str_size str_list Kp)
open Ringy Go.ChangeMaps Go.Maps

section
variable {w x y : World} {v v' v'' : Av} {G G' G'' : Nat} {vs vs' vs'' : Nat → Value} {k : Key}
theorem Av.Fine.fresh (h : v.Fine) : v.fresh.Fine := by
  unfold Av.fresh Av.shut
  split
  · exact h.forget 0
  · split
    · exact (h.forget 2).room false
    · split
      · exact (h.forget 3).room false
      · exact h.room false
/-- The last one of a list is forgotten. -/
theorem Wo.forget {out : Value} {L : List Key} {i : Nat} (h : Wo w G vs v G' vs' out L x) (hf : v.Fine) (hg : Goes x G' vs' (v.forget i) G'' vs'' y) :
    Wo w G vs (v.forget i) G'' vs'' out L ((((y.setCell ⟨w.heap.size, 0, none⟩ (.int .i64 (v.most : Int))).setCell ⟨w.heap.size, 1, none⟩ (.int .i64 (v.tgt : Int))).setCell ⟨w.heap.size, 2, none⟩ (.slice (some ⟨G'', 0, none⟩) 4 4)).setCell ⟨w.heap.size, 3, none⟩ (.int .i64 (v.pl : Int))) := by
  have h1 := h.wr.take (v' := v.forget i) (hf.forget i).ok hg
  have hpl : (v.forget i).pl = v.pl := by unfold Av.pl; rw [(Av.forget_num v i).1]
  rw [(Av.forget_num v i).1, (Av.forget_num v i).2, hpl] at h1
  exact ⟨h1, row_box (row_box (row_box (row_box (h.onto hg.below).row (Nat.le_refl _) 0 _) (Nat.le_refl _) 1 _) (Nat.le_refl _) 2 _) (Nat.le_refl _) 3 _⟩
set_option maxHeartbeats 8000000 in
set_option maxRecDepth 100000 in
theorem rins_new (hk : k.length ≤ 64) (e : v.at_ k = none) (hf : v.Fine) (hv : (v.fresh.fr 0 k).Ok) (w : World) (h : Dat w v G vs) :
    Calls Try.prog 72 #[.agg #[.int .i64 (v.most : Int), .int .i64 (v.tgt : Int), .slice (some ⟨G, 0, none⟩) 4 4, .int .i64 (v.pl : Int)], .string (str k)] w (InsP w G vs (v.fresh.fr 0 k) v.freshK) := by
  have hsz := str_size k
  have hok := hf.ok
  have h2 := Wr.new hok h
  have d1 : ¬ (64 : Int) < (k.length : Int) := by omega
  have hh : v.has k = false := by rw [Av.at_has hok, e]; rfl
  have fh := fun W (h : Wr w G vs v G vs W) => wr_has (k := k) hok h
  have fi : ∀ W out L, Wo w G vs v G vs out L W → Calls Try.prog 18 #[.agg #[.slice (some ⟨G, 0, none⟩) 4 4, .int .i64 (v.pl : Int)], .string (str k)] W fun e y => e = .returned (.tuple #[.int .i64 0, .bool false]) ∧ Wo w G vs v G vs out L y := fun W out L h => by have := wo_of (fun d => rin7_c (k := k) hok W d) h; rw [e] at this; exact this
  rw [hh] at fh
  have f0 := fun W out L (h : Wo w G vs v G vs out L W) => wo_of (fun d => rlen_a (a := 0) (i := 0) rfl (by omega) hok W d) h
  have f2 := fun W out L (h : Wo w G vs v G vs out L W) => wo_of (fun d => rlen_a (a := 2) (i := 2) rfl (by omega) hok W d) h
  have f3 := fun W out L (h : Wo w G vs v G vs out L W) => wo_of (fun d => rlen_a (a := 3) (i := 3) rfl (by omega) hok W d) h
  have fk := fun W out L (h : Wo w G vs v G vs out L W) => wo_of (fun d => rkept_c hok W d) h
  have l0 := hok.len_le (i := 0) (by omega)
  have l1 := hok.len_le (i := 1) (by omega)
  have l2 := hok.len_le (i := 2) (by omega)
  have l3 := hok.len_le (i := 3) (by omega)
  have b1 := hok.one
  have b2 := hok.m2
  have b3 : v.one = v.len 0 + v.len 2 := rfl
  have b4 : v.kept = v.len 0 + v.len 1 := rfl
  have b5 : v.all = v.len 0 + v.len 1 + v.len 2 + v.len 3 := rfl
  obtain ⟨p, hp⟩ : ∃ p : Nat, p = v.kept + v.len 2 := ⟨_, rfl⟩
  have u1 : IntKind.i64.wrap ((v.len 0 : Int) + (v.len 2 : Int)) = (v.one : Int) := by rw [IntKind.wrap_i64]; omega
  have u2 : IntKind.i64.wrap ((v.kept : Int) + (v.len 2 : Int)) = (p : Int) := by rw [IntKind.wrap_i64]; omega
  have u3 : IntKind.i64.wrap ((p : Int) + (v.len 3 : Int)) = (v.all : Int) := by rw [IntKind.wrap_i64]; omega
  have u4 : IntKind.i64.wrap (2 * (v.most : Int)) = 2 * (v.most : Int) := by rw [IntKind.wrap_i64]; omega
  have B3 := Lib.hid b3
  have B4 := Lib.hid b4
  have B5 := Lib.hid b5
  clear b3 b4 b5 hp
  go_enter Try.func72, Try.ntmps72
  go_upto_region 1 with (fail)
  generalize (w.alloc (.cells #[.int .i64 (v.most : Int), .int .i64 (v.tgt : Int), .slice (some ⟨G, 0, none⟩) 4 4, .int .i64 (v.pl : Int)] 63)).alloc (.cells #[.int .i64 0, .int .i64 0, .slice none 0 0, .int .i64 0] 63) = w2 at *
  obtain ⟨x0, x1, x2, x3, -⟩ := h2.cells
  go_wp2_with fail
  refine (fh _ h2).mono ?_
  rintro e w3 ⟨rfl, h3⟩
  have h4 : Wo w G vs v G vs (.slice (some ⟨w3.heap.size, 0, none⟩) 0 0) [] (w3.alloc (.cells #[] 9)) := ⟨h3.onto ((Below.refl _ w3).alloc (Nat.le_refl _) (.cells #[] 9)), World.ownsRow_lit (size := 1) (e := 9) w3 #[] 0 (by have := h3.res.lt; omega) (by unfold maxLen; omega) rfl⟩
  clear x0 x1 x2 x3 h2 h3 fh hh
  obtain ⟨x0, x1, x2, x3, -⟩ := h4.all
  go_upto_region 6 with (fail)
  generalize w3.alloc (.cells #[] 9) = w4 at *
  go_wp2_with fail
  refine (fi _ _ _ h4).mono ?_
  rintro e w5 ⟨rfl, h5⟩
  clear x0 x1 x2 x3 h4 fi
  go_upto_region 25 with (fail)
  have hda := (h5.drewN 1).all
  go_region_held3 (fun W => W.cell? ⟨w.heap.size, 0, none⟩ = some (.int .i64 (v.most : Int)) ∧ W.cell? ⟨w.heap.size, 1, none⟩ = some (.int .i64 (v.tgt : Int)) ∧ W.cell? ⟨w.heap.size, 2, none⟩ = some (.slice (some ⟨G, 0, none⟩) 4 4) ∧ W.cell? ⟨w.heap.size, 3, none⟩ = some (.int .i64 (v.pl : Int)) ∧ Wo w G vs v G vs (.slice (some ⟨w3.heap.size, 0, none⟩) 0 0) [] W)
    (first | assumption | exact hda | exact Wo.all (by assumption))
    (first | (go_at_call 94; (with_reducible refine Calls.mono (f0 _ _ _ (by assumption : _ ∧ _ ∧ _ ∧ _ ∧ _).2.2.2.2) ?_); rintro e wv ⟨rfl, hwv⟩) | (go_at_call 94; (with_reducible refine Calls.mono (f2 _ _ _ (by assumption : _ ∧ _ ∧ _ ∧ _ ∧ _).2.2.2.2) ?_); rintro e wv ⟨rfl, hwv⟩) | (go_at_call 94; (with_reducible refine Calls.mono (f3 _ _ _ (by assumption : _ ∧ _ ∧ _ ∧ _ ∧ _).2.2.2.2) ?_); rintro e wv ⟨rfl, hwv⟩) | (go_at_call 74; (with_reducible refine Calls.mono (fk _ _ _ (by assumption : _ ∧ _ ∧ _ ∧ _ ∧ _).2.2.2.2) ?_); rintro e wv ⟨rfl, hwv⟩) | fail)
  have h6 := (by assumption : _ ∧ _ ∧ _ ∧ _ ∧ Wo w G vs v G vs _ _ _).2.2.2.2
  clear hda f2 f3 fk h5 u1 u2 u3
  go_upto_block 0 with (fail)
  go_cut [6, 15, 16] from 103 (fun out _ _ wx => ∃ G1 vs1, Wo w G vs v.fresh G1 vs1 out v.freshK wx)
  case first =>
    obtain ⟨x0, x1, x2, x3, -⟩ := h6.all
    by_cases n1 : v.most ≤ v.one
    · have d2 : decide ((v.most : Int) ≤ (v.one : Int)) = true := decide_eq_true (by omega)
      by_cases n2 : v.len 0 = v.most
      · have d3 : ((v.len 0 : Int) == (v.most : Int)) = true := beq_iff_eq.2 (by omega)
        have HF1 := Lib.hid (show v.fresh = v.forget 0 from if_pos (by omega))
        obtain ⟨k0, el⟩ := Av.last_of (v := v) (i := 0) (by have := hok.m1; omega)
        have HF2 := Lib.hid (show v.freshK = [k0] from (if_pos (by omega)).trans (by rw [el]; rfl))
        have fb := fun W (h : Dat W v G vs) => ring_backA (a := 0) (i := 0) rfl (by omega) hok W h
        simp only [el, Option.getD_some, Option.isSome_some] at fb
        have fg := fun W (h : Dat W v G vs) => rforget_c (a := 0) (i := 0) rfl (by omega) hok W h
        clear n2 el
        go_upto_region 26 with (fail)
        refine region_only 12 #[false, false, false, false, false, false, false, false, false, false, false, false] (S := (fun W => W.cell? ⟨w.heap.size, 0, none⟩ = some (.int .i64 (v.most : Int)) ∧ W.cell? ⟨w.heap.size, 1, none⟩ = some (.int .i64 (v.tgt : Int)) ∧ W.cell? ⟨w.heap.size, 2, none⟩ = some (.slice (some ⟨G, 0, none⟩) 4 4) ∧ W.cell? ⟨w.heap.size, 3, none⟩ = some (.int .i64 (v.pl : Int)) ∧ Wo w G vs v G vs (.slice (some ⟨w3.heap.size, 0, none⟩) 0 0) [] W)) rfl rfl (by kernel_rfl) (Wo.all (h6.drewN 1)) (fun hSw => ?_)
        refine take_at 0 104 (fuel := 11) ?_ rfl rfl (by kernel_rfl) (by kernel_rfl) (by kernel_rfl) (Or.inl ⟨by rfl, ?_⟩) hSw ?_
        rotate_left
        · intro wx hSx
          (try dsimp only at hSx)
          go_split_ands
          go_simp
          (try with_reducible rfl)
        simp only [List.setIfInBounds_toArray, List.set_cons_zero, List.set_cons_succ]
        refine take_at 1 105 (fuel := 10) ?_ rfl rfl (by kernel_rfl) (by kernel_rfl) (by kernel_rfl) (Or.inl ⟨by rfl, ?_⟩) hSw ?_
        rotate_left
        · intro wx hSx
          (try dsimp only at hSx)
          go_split_ands
          go_simp
          (try with_reducible rfl)
        simp only [List.setIfInBounds_toArray, List.set_cons_zero, List.set_cons_succ]
        refine take_at 2 106 (fuel := 9) ?_ rfl rfl (by kernel_rfl) (by kernel_rfl) (by kernel_rfl) (Or.inl ⟨by rfl, ?_⟩) hSw ?_
        rotate_left
        · intro wx hSx
          (try dsimp only at hSx)
          go_split_ands
          go_simp
          (try with_reducible rfl)
        simp only [List.setIfInBounds_toArray, List.set_cons_zero, List.set_cons_succ]
        refine take_at 3 107 (fuel := 8) ?_ rfl rfl (by kernel_rfl) (by kernel_rfl) (by kernel_rfl) (Or.inl ⟨by rfl, ?_⟩) hSw ?_
        rotate_left
        · intro wx hSx
          (try dsimp only at hSx)
          go_split_ands
          go_simp
          (try with_reducible rfl)
        simp only [List.setIfInBounds_toArray, List.set_cons_zero, List.set_cons_succ]
        refine take_at 4 108 (fuel := 7) ?_ rfl rfl (by kernel_rfl) (by kernel_rfl) (by kernel_rfl) (Or.inl ⟨by rfl, ?_⟩) hSw ?_
        rotate_left
        · intro wx hSx
          (try dsimp only at hSx)
          go_split_ands
          go_simp
          (try with_reducible rfl)
        simp only [List.setIfInBounds_toArray, List.set_cons_zero, List.set_cons_succ]
        refine take_at 5 109 (fuel := 6) ?_ rfl rfl (by kernel_rfl) (by kernel_rfl) (by kernel_rfl) (Or.inl ⟨by rfl, ?_⟩) hSw ?_
        rotate_left
        · intro wx hSx
          (try dsimp only at hSx)
          go_split_ands
          go_simp
          (try with_reducible rfl)
        simp only [List.setIfInBounds_toArray, List.set_cons_zero, List.set_cons_succ]
        refine take_at 7 111 (fuel := 5) ?_ rfl rfl (by kernel_rfl) (by kernel_rfl) (by kernel_rfl) (Or.inl ⟨by rfl, ?_⟩) hSw ?_
        rotate_left
        · intro wx hSx
          (try dsimp only at hSx)
          go_split_ands
          go_simp
          (try with_reducible rfl)
        simp only [List.setIfInBounds_toArray, List.set_cons_zero, List.set_cons_succ]
        refine take_at 8 112 (fuel := 4) ?_ rfl rfl (by kernel_rfl) (by kernel_rfl) (by kernel_rfl) (Or.inl ⟨by rfl, ?_⟩) hSw ?_
        rotate_left
        · intro wx hSx
          (try dsimp only at hSx)
          go_split_ands
          go_simp
          (try with_reducible rfl)
        simp only [List.setIfInBounds_toArray, List.set_cons_zero, List.set_cons_succ]
        refine wpAnyH_ready (fuel := 3) (rs := [6]) (by kernel_rfl) (by simp) (AllReadyH.cons rfl (fun K hK => ?_) AllReadyH.nil)
        go_simp
        refine Calls.mono (f0 _ _ _ hSw.2.2.2.2) ?_
        rintro e wv ⟨rfl, hwv⟩
        refine hK.out _ _ (Wo.all hwv) (fun hSw => ?_)
        clear hK K
        simp only [List.setIfInBounds_toArray, List.set_cons_zero, List.set_cons_succ]
        refine take_at 9 113 (fuel := 2) ?_ rfl rfl (by kernel_rfl) (by kernel_rfl) (by kernel_rfl) (Or.inl ⟨by rfl, ?_⟩) hSw ?_
        rotate_left
        · intro wx hSx
          (try dsimp only at hSx)
          go_split_ands
          go_simp
          (try with_reducible rfl)
        simp only [List.setIfInBounds_toArray, List.set_cons_zero, List.set_cons_succ]
        refine take_at 10 114 (fuel := 1) ?_ rfl rfl (by kernel_rfl) (by kernel_rfl) (by kernel_rfl) (Or.inl ⟨by rfl, ?_⟩) hSw ?_
        rotate_left
        · intro wx hSx
          (try dsimp only at hSx)
          go_split_ands
          go_simp
          (try with_reducible rfl)
        simp only [List.setIfInBounds_toArray, List.set_cons_zero, List.set_cons_succ]
        refine take_at 11 103 (fuel := 0) ?_ rfl rfl (by kernel_rfl) (by kernel_rfl) (by kernel_rfl) (Or.inl ⟨by rfl, ?_⟩) hSw ?_
        rotate_left
        · intro wx hSx
          (try dsimp only at hSx)
          go_split_ands
          go_simp
          (try with_reducible rfl)
        simp only [List.setIfInBounds_toArray, List.set_cons_zero, List.set_cons_succ]
        refine wpAnyH_done (by kernel_rfl) ⟨rfl, ?_⟩ 0
        replace h6 := hSw.2.2.2.2
        clear hSw x0 x1 x2 x3
        obtain ⟨x0, x1, x2, x3, -⟩ := h6.all
        go_wp2_with fail
        refine (fb _ h6.wr.go.rf).mono ?_
        rintro e w7 ⟨rfl, hb7⟩
        have h6' := h6.wr.onto hb7
        have h7 : Wo w G vs v G vs (.slice (some ⟨w7.heap.size, 0, none⟩) 1 1) [k0] (w7.alloc (.cells #[.string (str k0)] 9)) := ⟨h6'.onto ((Below.refl _ w7).alloc (Nat.le_refl _) _), row_lit w7 h6'.res.lt k0⟩
        clear h6' h6 hb7 x0 x1 x2 x3 fb
        obtain ⟨x0, x1, x2, x3, -⟩ := h7.all
        go_wp2_with fail
        refine (fg _ h7.wr.go.rf).mono ?_
        rintro e w8 ⟨G1, vs1, rfl, hg⟩
        have h8 := h7.forget hf hg
        have h9 := h7.onto hg.below
        clear x0 x1 x2 x3 hg fg
        obtain ⟨x0, x1, x2, x3, y0, y1, y2, y3⟩ := h9.wr.cells
        go_wp2_with fail
        go_meet
        exact ⟨G1, vs1, by rw [HF1.out, HF2.out]; exact h8⟩
      · have d3 : ((v.len 0 : Int) == (v.most : Int)) = false := beq_eq_false_iff_ne.2 (by omega)
        have n3 : ¬ v.most ≤ v.len 0 := by have := B3.out; omega
        have hs : v.shut = v.forget 2 := if_pos n1
        have HF1 := Lib.hid (show v.fresh = (v.forget 2).room false by rw [← hs]; exact if_neg n3)
        have HF2 := Lib.hid (show v.freshK = (v.forget 2).roomK false by rw [← hs]; exact if_neg n3)
        clear hs
        go_upto_region 26 with (fail)
        refine region_only 12 #[false, false, false, false, false, false, false, false, false, false, false, false] (S := (fun W => W.cell? ⟨w.heap.size, 0, none⟩ = some (.int .i64 (v.most : Int)) ∧ W.cell? ⟨w.heap.size, 1, none⟩ = some (.int .i64 (v.tgt : Int)) ∧ W.cell? ⟨w.heap.size, 2, none⟩ = some (.slice (some ⟨G, 0, none⟩) 4 4) ∧ W.cell? ⟨w.heap.size, 3, none⟩ = some (.int .i64 (v.pl : Int)) ∧ Wo w G vs v G vs (.slice (some ⟨w3.heap.size, 0, none⟩) 0 0) [] W)) rfl rfl (by kernel_rfl) (Wo.all (h6.drewN 1)) (fun hSw => ?_)
        refine take_at 0 104 (fuel := 11) ?_ rfl rfl (by kernel_rfl) (by kernel_rfl) (by kernel_rfl) (Or.inl ⟨by rfl, ?_⟩) hSw ?_
        rotate_left
        · intro wx hSx
          (try dsimp only at hSx)
          go_split_ands
          go_simp
          (try with_reducible rfl)
        simp only [List.setIfInBounds_toArray, List.set_cons_zero, List.set_cons_succ]
        refine take_at 1 105 (fuel := 10) ?_ rfl rfl (by kernel_rfl) (by kernel_rfl) (by kernel_rfl) (Or.inl ⟨by rfl, ?_⟩) hSw ?_
        rotate_left
        · intro wx hSx
          (try dsimp only at hSx)
          go_split_ands
          go_simp
          (try with_reducible rfl)
        simp only [List.setIfInBounds_toArray, List.set_cons_zero, List.set_cons_succ]
        refine take_at 2 106 (fuel := 9) ?_ rfl rfl (by kernel_rfl) (by kernel_rfl) (by kernel_rfl) (Or.inl ⟨by rfl, ?_⟩) hSw ?_
        rotate_left
        · intro wx hSx
          (try dsimp only at hSx)
          go_split_ands
          go_simp
          (try with_reducible rfl)
        simp only [List.setIfInBounds_toArray, List.set_cons_zero, List.set_cons_succ]
        refine take_at 3 107 (fuel := 8) ?_ rfl rfl (by kernel_rfl) (by kernel_rfl) (by kernel_rfl) (Or.inl ⟨by rfl, ?_⟩) hSw ?_
        rotate_left
        · intro wx hSx
          (try dsimp only at hSx)
          go_split_ands
          go_simp
          (try with_reducible rfl)
        simp only [List.setIfInBounds_toArray, List.set_cons_zero, List.set_cons_succ]
        refine take_at 4 108 (fuel := 7) ?_ rfl rfl (by kernel_rfl) (by kernel_rfl) (by kernel_rfl) (Or.inl ⟨by rfl, ?_⟩) hSw ?_
        rotate_left
        · intro wx hSx
          (try dsimp only at hSx)
          go_split_ands
          go_simp
          (try with_reducible rfl)
        simp only [List.setIfInBounds_toArray, List.set_cons_zero, List.set_cons_succ]
        refine take_at 5 109 (fuel := 6) ?_ rfl rfl (by kernel_rfl) (by kernel_rfl) (by kernel_rfl) (Or.inl ⟨by rfl, ?_⟩) hSw ?_
        rotate_left
        · intro wx hSx
          (try dsimp only at hSx)
          go_split_ands
          go_simp
          (try with_reducible rfl)
        simp only [List.setIfInBounds_toArray, List.set_cons_zero, List.set_cons_succ]
        refine take_at 7 111 (fuel := 5) ?_ rfl rfl (by kernel_rfl) (by kernel_rfl) (by kernel_rfl) (Or.inl ⟨by rfl, ?_⟩) hSw ?_
        rotate_left
        · intro wx hSx
          (try dsimp only at hSx)
          go_split_ands
          go_simp
          (try with_reducible rfl)
        simp only [List.setIfInBounds_toArray, List.set_cons_zero, List.set_cons_succ]
        refine take_at 8 112 (fuel := 4) ?_ rfl rfl (by kernel_rfl) (by kernel_rfl) (by kernel_rfl) (Or.inl ⟨by rfl, ?_⟩) hSw ?_
        rotate_left
        · intro wx hSx
          (try dsimp only at hSx)
          go_split_ands
          go_simp
          (try with_reducible rfl)
        simp only [List.setIfInBounds_toArray, List.set_cons_zero, List.set_cons_succ]
        refine wpAnyH_ready (fuel := 3) (rs := [6]) (by kernel_rfl) (by simp) (AllReadyH.cons rfl (fun K hK => ?_) AllReadyH.nil)
        go_simp
        refine Calls.mono (f0 _ _ _ hSw.2.2.2.2) ?_
        rintro e wv ⟨rfl, hwv⟩
        refine hK.out _ _ (Wo.all hwv) (fun hSw => ?_)
        clear hK K
        simp only [List.setIfInBounds_toArray, List.set_cons_zero, List.set_cons_succ]
        refine take_at 9 113 (fuel := 2) ?_ rfl rfl (by kernel_rfl) (by kernel_rfl) (by kernel_rfl) (Or.inl ⟨by rfl, ?_⟩) hSw ?_
        rotate_left
        · intro wx hSx
          (try dsimp only at hSx)
          go_split_ands
          go_simp
          (try with_reducible rfl)
        simp only [List.setIfInBounds_toArray, List.set_cons_zero, List.set_cons_succ]
        refine take_at 10 114 (fuel := 1) ?_ rfl rfl (by kernel_rfl) (by kernel_rfl) (by kernel_rfl) (Or.inl ⟨by rfl, ?_⟩) hSw ?_
        rotate_left
        · intro wx hSx
          (try dsimp only at hSx)
          go_split_ands
          go_simp
          (try with_reducible rfl)
        simp only [List.setIfInBounds_toArray, List.set_cons_zero, List.set_cons_succ]
        refine take_at 11 103 (fuel := 0) ?_ rfl rfl (by kernel_rfl) (by kernel_rfl) (by kernel_rfl) (Or.inl ⟨by rfl, ?_⟩) hSw ?_
        rotate_left
        · intro wx hSx
          (try dsimp only at hSx)
          go_split_ands
          go_simp
          (try with_reducible rfl)
        simp only [List.setIfInBounds_toArray, List.set_cons_zero, List.set_cons_succ]
        refine wpAnyH_done (by kernel_rfl) ⟨rfl, ?_⟩ 0
        replace h6 := hSw.2.2.2.2
        clear hSw x0 x1 x2 x3
        obtain ⟨x0, x1, x2, x3, -⟩ := h6.all
        have fg := fun W (h : Dat W v G vs) => rforget_c (a := 2) (i := 2) rfl (by omega) hok W h
        go_wp2_with fail
        refine (fg _ h6.wr.go.rf).mono ?_
        rintro e w8 ⟨G1, vs1, rfl, hg⟩
        have h7 := h6.forget hf hg
        have h9 := h6.onto hg.below
        clear x0 x1 x2 x3 hg fg
        obtain ⟨x0, x1, x2, x3, y0, y1, y2, y3⟩ := h9.wr.cells
        go_upto_region 32 with (fail)
        generalize ((((w8.setCell ⟨w.heap.size, 0, none⟩ (.int .i64 (v.most : Int))).setCell ⟨w.heap.size, 1, none⟩ (.int .i64 (v.tgt : Int))).setCell ⟨w.heap.size, 2, none⟩ (.slice (some ⟨G1, 0, none⟩) 4 4)).setCell ⟨w.heap.size, 3, none⟩ (.int .i64 (v.pl : Int))) = w7 at *
        have hf1 := hf.forget 2
        clear h6 h9 x0 x1 x2 x3 y0 y1 y2 y3
        generalize v.forget 2 = v1 at *
        have fk := fun W out L (h : Wo w G vs v1 G1 vs1 out L W) => wo_of (fun d => rkept_c hf1.ok W d) h
        obtain ⟨x0, x1, x2, x3, -⟩ := h7.all
        go_upto_region 32 with (fail)
        have hda := (h7.drewN 1).all
        go_region_held3 (fun W => W.cell? ⟨w.heap.size, 0, none⟩ = some (.int .i64 (v1.most : Int)) ∧ W.cell? ⟨w.heap.size, 1, none⟩ = some (.int .i64 (v1.tgt : Int)) ∧ W.cell? ⟨w.heap.size, 2, none⟩ = some (.slice (some ⟨G1, 0, none⟩) 4 4) ∧ W.cell? ⟨w.heap.size, 3, none⟩ = some (.int .i64 (v1.pl : Int)) ∧ Wo w G vs v1 G1 vs1 (.slice (some ⟨w3.heap.size, 0, none⟩) 0 0) [] W)
            (first | assumption | exact hda | exact Wo.all (by assumption))
            (first | (go_at_call 74; (with_reducible refine Calls.mono (fk _ _ _ (by assumption : _ ∧ _ ∧ _ ∧ _ ∧ _).2.2.2.2) ?_); rintro e wv ⟨rfl, hwv⟩) | fail)
        have h8 := (by assumption : _ ∧ _ ∧ _ ∧ _ ∧ Wo w G vs v1 G1 vs1 _ _ _).2.2.2.2
        clear hda fk h7 x0 x1 x2 x3
        obtain ⟨x0, x1, x2, x3, -⟩ := h8.all
        by_cases hr : v1.kept < v1.most
        · have d5 : decide ((v1.most : Int) ≤ (v1.kept : Int)) = false := decide_eq_false (by omega)
          have HE1 := Lib.hid (show v1.room false = v1 from if_pos hr)
          have HE2 := Lib.hid (show v1.roomK false = [] from if_pos hr)
          go_wp2_with fail
          go_meet
          exact ⟨G1, vs1, by rw [HF1.out, HF2.out, HE1.out, HE2.out]; exact h8⟩
        · have d5 : decide ((v1.most : Int) ≤ (v1.kept : Int)) = true := decide_eq_true (by omega)
          have HE1 := Lib.hid (show v1.room false = v1.repl false from if_neg hr)
          have HE2 := Lib.hid (show v1.roomK false = (v1.last (v1.src false)).toList from if_neg hr)
          have fr := fun W (h : Dat W v1 G1 vs1) => rreplace_c false hf1 W h
          go_wp2_with fail
          refine (fr _ h8.wr.go.rf).mono ?_
          rintro e w8 ⟨G2, vs2, val, rfl, hg, hrow⟩
          have hR := Lib.hid (h8.room hf1 hg hrow)
          have h9 := h8.onto hg.below
          clear x0 x1 x2 x3 hrow hg fr
          obtain ⟨x0, x1, x2, x3, y0, y1, y2, y3⟩ := h9.wr.cells
          clear h8 h9
          go_wp2_with fail
          go_meet
          exact ⟨G2, vs2, by rw [HF1.out, HE1.out]; exact hR.out.1, by rw [HF2.out, HE2.out]; exact hR.out.2⟩
    · have d2 : decide ((v.most : Int) ≤ (v.one : Int)) = false := decide_eq_false (by omega)
      have n3 : ¬ v.most ≤ v.len 0 := by have := B3.out; omega
      by_cases n4 : v.most ≤ v.all
      · have d4 : decide ((v.most : Int) ≤ (v.all : Int)) = true := decide_eq_true (by omega)
        by_cases n5 : 2 * v.most ≤ v.all
        · have d6 : decide (2 * (v.most : Int) ≤ (v.all : Int)) = true := decide_eq_true (by omega)
          have hs : v.shut = v.forget 3 := (if_neg n1).trans (if_pos n5)
          have HF1 := Lib.hid (show v.fresh = (v.forget 3).room false by rw [← hs]; exact if_neg n3)
          have HF2 := Lib.hid (show v.freshK = (v.forget 3).roomK false by rw [← hs]; exact if_neg n3)
          clear hs
          go_upto_region 26 with (fail)
          refine region_only 12 #[false, false, false, false, false, false, false, false, false, false, false, false] (S := (fun W => W.cell? ⟨w.heap.size, 0, none⟩ = some (.int .i64 (v.most : Int)) ∧ W.cell? ⟨w.heap.size, 1, none⟩ = some (.int .i64 (v.tgt : Int)) ∧ W.cell? ⟨w.heap.size, 2, none⟩ = some (.slice (some ⟨G, 0, none⟩) 4 4) ∧ W.cell? ⟨w.heap.size, 3, none⟩ = some (.int .i64 (v.pl : Int)) ∧ Wo w G vs v G vs (.slice (some ⟨w3.heap.size, 0, none⟩) 0 0) [] W)) rfl rfl (by kernel_rfl) (Wo.all (h6.drewN 1)) (fun hSw => ?_)
          refine take_at 0 104 (fuel := 11) ?_ rfl rfl (by kernel_rfl) (by kernel_rfl) (by kernel_rfl) (Or.inl ⟨by rfl, ?_⟩) hSw ?_
          rotate_left
          · intro wx hSx
            (try dsimp only at hSx)
            go_split_ands
            go_simp
            (try with_reducible rfl)
          simp only [List.setIfInBounds_toArray, List.set_cons_zero, List.set_cons_succ]
          refine take_at 1 105 (fuel := 10) ?_ rfl rfl (by kernel_rfl) (by kernel_rfl) (by kernel_rfl) (Or.inl ⟨by rfl, ?_⟩) hSw ?_
          rotate_left
          · intro wx hSx
            (try dsimp only at hSx)
            go_split_ands
            go_simp
            (try with_reducible rfl)
          simp only [List.setIfInBounds_toArray, List.set_cons_zero, List.set_cons_succ]
          refine take_at 2 106 (fuel := 9) ?_ rfl rfl (by kernel_rfl) (by kernel_rfl) (by kernel_rfl) (Or.inl ⟨by rfl, ?_⟩) hSw ?_
          rotate_left
          · intro wx hSx
            (try dsimp only at hSx)
            go_split_ands
            go_simp
            (try with_reducible rfl)
          simp only [List.setIfInBounds_toArray, List.set_cons_zero, List.set_cons_succ]
          refine take_at 3 107 (fuel := 8) ?_ rfl rfl (by kernel_rfl) (by kernel_rfl) (by kernel_rfl) (Or.inl ⟨by rfl, ?_⟩) hSw ?_
          rotate_left
          · intro wx hSx
            (try dsimp only at hSx)
            go_split_ands
            go_simp
            (try with_reducible rfl)
          simp only [List.setIfInBounds_toArray, List.set_cons_zero, List.set_cons_succ]
          refine take_at 4 108 (fuel := 7) ?_ rfl rfl (by kernel_rfl) (by kernel_rfl) (by kernel_rfl) (Or.inl ⟨by rfl, ?_⟩) hSw ?_
          rotate_left
          · intro wx hSx
            (try dsimp only at hSx)
            go_split_ands
            go_simp
            (try with_reducible rfl)
          simp only [List.setIfInBounds_toArray, List.set_cons_zero, List.set_cons_succ]
          refine take_at 5 109 undef (fuel := 6) rfl rfl (by kernel_rfl) (by kernel_rfl) (by kernel_rfl) (Or.inr ⟨by rfl, rfl⟩) hSw ?_
          simp only [List.setIfInBounds_toArray, List.set_cons_zero, List.set_cons_succ]
          refine take_at 6 110 undef (fuel := 5) rfl rfl (by kernel_rfl) (by kernel_rfl) (by kernel_rfl) (Or.inr ⟨by rfl, rfl⟩) hSw ?_
          simp only [List.setIfInBounds_toArray, List.set_cons_zero, List.set_cons_succ]
          refine take_at 7 111 undef (fuel := 4) rfl rfl (by kernel_rfl) (by kernel_rfl) (by kernel_rfl) (Or.inr ⟨by rfl, rfl⟩) hSw ?_
          simp only [List.setIfInBounds_toArray, List.set_cons_zero, List.set_cons_succ]
          refine take_at 8 112 undef (fuel := 3) rfl rfl (by kernel_rfl) (by kernel_rfl) (by kernel_rfl) (Or.inr ⟨by rfl, rfl⟩) hSw ?_
          simp only [List.setIfInBounds_toArray, List.set_cons_zero, List.set_cons_succ]
          refine take_at 9 113 undef (fuel := 2) rfl rfl (by kernel_rfl) (by kernel_rfl) (by kernel_rfl) (Or.inr ⟨by rfl, rfl⟩) hSw ?_
          simp only [List.setIfInBounds_toArray, List.set_cons_zero, List.set_cons_succ]
          refine take_at 10 114 (fuel := 1) ?_ rfl rfl (by kernel_rfl) (by kernel_rfl) (by kernel_rfl) (Or.inl ⟨by rfl, ?_⟩) hSw ?_
          rotate_left
          · intro wx hSx
            (try dsimp only at hSx)
            go_split_ands
            go_simp
            (try with_reducible rfl)
          simp only [List.setIfInBounds_toArray, List.set_cons_zero, List.set_cons_succ]
          refine take_at 11 103 (fuel := 0) ?_ rfl rfl (by kernel_rfl) (by kernel_rfl) (by kernel_rfl) (Or.inl ⟨by rfl, ?_⟩) hSw ?_
          rotate_left
          · intro wx hSx
            (try dsimp only at hSx)
            go_split_ands
            go_simp
            (try with_reducible rfl)
          simp only [List.setIfInBounds_toArray, List.set_cons_zero, List.set_cons_succ]
          refine wpAnyH_done (by kernel_rfl) ⟨rfl, ?_⟩ 0
          replace h6 := hSw.2.2.2.2
          clear hSw x0 x1 x2 x3
          obtain ⟨x0, x1, x2, x3, -⟩ := h6.all
          have fg := fun W (h : Dat W v G vs) => rforget_c (a := 3) (i := 3) rfl (by omega) hok W h
          go_wp2_with fail
          refine (fg _ h6.wr.go.rf).mono ?_
          rintro e w8 ⟨G1, vs1, rfl, hg⟩
          have h7 := h6.forget hf hg
          have h9 := h6.onto hg.below
          clear x0 x1 x2 x3 hg fg
          obtain ⟨x0, x1, x2, x3, y0, y1, y2, y3⟩ := h9.wr.cells
          go_upto_region 37 with (fail)
          generalize ((((w8.setCell ⟨w.heap.size, 0, none⟩ (.int .i64 (v.most : Int))).setCell ⟨w.heap.size, 1, none⟩ (.int .i64 (v.tgt : Int))).setCell ⟨w.heap.size, 2, none⟩ (.slice (some ⟨G1, 0, none⟩) 4 4)).setCell ⟨w.heap.size, 3, none⟩ (.int .i64 (v.pl : Int))) = w7 at *
          have hf1 := hf.forget 3
          clear h6 h9 x0 x1 x2 x3 y0 y1 y2 y3
          generalize v.forget 3 = v1 at *
          have fk := fun W out L (h : Wo w G vs v1 G1 vs1 out L W) => wo_of (fun d => rkept_c hf1.ok W d) h
          obtain ⟨x0, x1, x2, x3, -⟩ := h7.all
          go_upto_region 37 with (fail)
          have hda := (h7.drewN 1).all
          go_region_held3 (fun W => W.cell? ⟨w.heap.size, 0, none⟩ = some (.int .i64 (v1.most : Int)) ∧ W.cell? ⟨w.heap.size, 1, none⟩ = some (.int .i64 (v1.tgt : Int)) ∧ W.cell? ⟨w.heap.size, 2, none⟩ = some (.slice (some ⟨G1, 0, none⟩) 4 4) ∧ W.cell? ⟨w.heap.size, 3, none⟩ = some (.int .i64 (v1.pl : Int)) ∧ Wo w G vs v1 G1 vs1 (.slice (some ⟨w3.heap.size, 0, none⟩) 0 0) [] W)
              (first | assumption | exact hda | exact Wo.all (by assumption))
              (first | (go_at_call 74; (with_reducible refine Calls.mono (fk _ _ _ (by assumption : _ ∧ _ ∧ _ ∧ _ ∧ _).2.2.2.2) ?_); rintro e wv ⟨rfl, hwv⟩) | fail)
          have h8 := (by assumption : _ ∧ _ ∧ _ ∧ _ ∧ Wo w G vs v1 G1 vs1 _ _ _).2.2.2.2
          clear hda fk h7 x0 x1 x2 x3
          obtain ⟨x0, x1, x2, x3, -⟩ := h8.all
          by_cases hr : v1.kept < v1.most
          · have d5 : decide ((v1.most : Int) ≤ (v1.kept : Int)) = false := decide_eq_false (by omega)
            have HE1 := Lib.hid (show v1.room false = v1 from if_pos hr)
            have HE2 := Lib.hid (show v1.roomK false = [] from if_pos hr)
            go_wp2_with fail
            go_meet
            exact ⟨G1, vs1, by rw [HF1.out, HF2.out, HE1.out, HE2.out]; exact h8⟩
          · have d5 : decide ((v1.most : Int) ≤ (v1.kept : Int)) = true := decide_eq_true (by omega)
            have HE1 := Lib.hid (show v1.room false = v1.repl false from if_neg hr)
            have HE2 := Lib.hid (show v1.roomK false = (v1.last (v1.src false)).toList from if_neg hr)
            have fr := fun W (h : Dat W v1 G1 vs1) => rreplace_c false hf1 W h
            go_wp2_with fail
            refine (fr _ h8.wr.go.rf).mono ?_
            rintro e w8 ⟨G2, vs2, val, rfl, hg, hrow⟩
            have hR := Lib.hid (h8.room hf1 hg hrow)
            have h9 := h8.onto hg.below
            clear x0 x1 x2 x3 hrow hg fr
            obtain ⟨x0, x1, x2, x3, y0, y1, y2, y3⟩ := h9.wr.cells
            clear h8 h9
            go_wp2_with fail
            go_meet
            exact ⟨G2, vs2, by rw [HF1.out, HE1.out]; exact hR.out.1, by rw [HF2.out, HE2.out]; exact hR.out.2⟩
        · have d6 : decide (2 * (v.most : Int) ≤ (v.all : Int)) = false := decide_eq_false (by omega)
          have hs : v.shut = v := (if_neg n1).trans (if_neg n5)
          have HF1 := Lib.hid (show v.fresh = v.room false from (if_neg n3).trans (by rw [hs]))
          have HF2 := Lib.hid (show v.freshK = v.roomK false from (if_neg n3).trans (by rw [hs]))
          clear hs
          go_upto_region 26 with (fail)
          refine region_only 12 #[false, false, false, false, false, false, false, false, false, false, false, false] (S := (fun W => W.cell? ⟨w.heap.size, 0, none⟩ = some (.int .i64 (v.most : Int)) ∧ W.cell? ⟨w.heap.size, 1, none⟩ = some (.int .i64 (v.tgt : Int)) ∧ W.cell? ⟨w.heap.size, 2, none⟩ = some (.slice (some ⟨G, 0, none⟩) 4 4) ∧ W.cell? ⟨w.heap.size, 3, none⟩ = some (.int .i64 (v.pl : Int)) ∧ Wo w G vs v G vs (.slice (some ⟨w3.heap.size, 0, none⟩) 0 0) [] W)) rfl rfl (by kernel_rfl) (Wo.all (h6.drewN 1)) (fun hSw => ?_)
          refine take_at 0 104 (fuel := 11) ?_ rfl rfl (by kernel_rfl) (by kernel_rfl) (by kernel_rfl) (Or.inl ⟨by rfl, ?_⟩) hSw ?_
          rotate_left
          · intro wx hSx
            (try dsimp only at hSx)
            go_split_ands
            go_simp
            (try with_reducible rfl)
          simp only [List.setIfInBounds_toArray, List.set_cons_zero, List.set_cons_succ]
          refine take_at 1 105 (fuel := 10) ?_ rfl rfl (by kernel_rfl) (by kernel_rfl) (by kernel_rfl) (Or.inl ⟨by rfl, ?_⟩) hSw ?_
          rotate_left
          · intro wx hSx
            (try dsimp only at hSx)
            go_split_ands
            go_simp
            (try with_reducible rfl)
          simp only [List.setIfInBounds_toArray, List.set_cons_zero, List.set_cons_succ]
          refine take_at 2 106 (fuel := 9) ?_ rfl rfl (by kernel_rfl) (by kernel_rfl) (by kernel_rfl) (Or.inl ⟨by rfl, ?_⟩) hSw ?_
          rotate_left
          · intro wx hSx
            (try dsimp only at hSx)
            go_split_ands
            go_simp
            (try with_reducible rfl)
          simp only [List.setIfInBounds_toArray, List.set_cons_zero, List.set_cons_succ]
          refine take_at 3 107 (fuel := 8) ?_ rfl rfl (by kernel_rfl) (by kernel_rfl) (by kernel_rfl) (Or.inl ⟨by rfl, ?_⟩) hSw ?_
          rotate_left
          · intro wx hSx
            (try dsimp only at hSx)
            go_split_ands
            go_simp
            (try with_reducible rfl)
          simp only [List.setIfInBounds_toArray, List.set_cons_zero, List.set_cons_succ]
          refine take_at 4 108 (fuel := 7) ?_ rfl rfl (by kernel_rfl) (by kernel_rfl) (by kernel_rfl) (Or.inl ⟨by rfl, ?_⟩) hSw ?_
          rotate_left
          · intro wx hSx
            (try dsimp only at hSx)
            go_split_ands
            go_simp
            (try with_reducible rfl)
          simp only [List.setIfInBounds_toArray, List.set_cons_zero, List.set_cons_succ]
          refine take_at 5 109 undef (fuel := 6) rfl rfl (by kernel_rfl) (by kernel_rfl) (by kernel_rfl) (Or.inr ⟨by rfl, rfl⟩) hSw ?_
          simp only [List.setIfInBounds_toArray, List.set_cons_zero, List.set_cons_succ]
          refine take_at 6 110 undef (fuel := 5) rfl rfl (by kernel_rfl) (by kernel_rfl) (by kernel_rfl) (Or.inr ⟨by rfl, rfl⟩) hSw ?_
          simp only [List.setIfInBounds_toArray, List.set_cons_zero, List.set_cons_succ]
          refine take_at 7 111 undef (fuel := 4) rfl rfl (by kernel_rfl) (by kernel_rfl) (by kernel_rfl) (Or.inr ⟨by rfl, rfl⟩) hSw ?_
          simp only [List.setIfInBounds_toArray, List.set_cons_zero, List.set_cons_succ]
          refine take_at 8 112 undef (fuel := 3) rfl rfl (by kernel_rfl) (by kernel_rfl) (by kernel_rfl) (Or.inr ⟨by rfl, rfl⟩) hSw ?_
          simp only [List.setIfInBounds_toArray, List.set_cons_zero, List.set_cons_succ]
          refine take_at 9 113 undef (fuel := 2) rfl rfl (by kernel_rfl) (by kernel_rfl) (by kernel_rfl) (Or.inr ⟨by rfl, rfl⟩) hSw ?_
          simp only [List.setIfInBounds_toArray, List.set_cons_zero, List.set_cons_succ]
          refine take_at 10 114 (fuel := 1) ?_ rfl rfl (by kernel_rfl) (by kernel_rfl) (by kernel_rfl) (Or.inl ⟨by rfl, ?_⟩) hSw ?_
          rotate_left
          · intro wx hSx
            (try dsimp only at hSx)
            go_split_ands
            go_simp
            (try with_reducible rfl)
          simp only [List.setIfInBounds_toArray, List.set_cons_zero, List.set_cons_succ]
          refine take_at 11 103 (fuel := 0) ?_ rfl rfl (by kernel_rfl) (by kernel_rfl) (by kernel_rfl) (Or.inl ⟨by rfl, ?_⟩) hSw ?_
          rotate_left
          · intro wx hSx
            (try dsimp only at hSx)
            go_split_ands
            go_simp
            (try with_reducible rfl)
          simp only [List.setIfInBounds_toArray, List.set_cons_zero, List.set_cons_succ]
          refine wpAnyH_done (by kernel_rfl) ⟨rfl, ?_⟩ 0
          replace h6 := hSw.2.2.2.2
          clear hSw x0 x1 x2 x3
          obtain ⟨x0, x1, x2, x3, -⟩ := h6.all
          have h7 := h6
          have hf1 := hf
          clear h6 x0 x1 x2 x3
          have fk := fun W out L (h : Wo w G vs v G vs out L W) => wo_of (fun d => rkept_c hf1.ok W d) h
          obtain ⟨x0, x1, x2, x3, -⟩ := h7.all
          go_upto_region 37 with (fail)
          have hda := (h7.drewN 1).all
          go_region_held3 (fun W => W.cell? ⟨w.heap.size, 0, none⟩ = some (.int .i64 (v.most : Int)) ∧ W.cell? ⟨w.heap.size, 1, none⟩ = some (.int .i64 (v.tgt : Int)) ∧ W.cell? ⟨w.heap.size, 2, none⟩ = some (.slice (some ⟨G, 0, none⟩) 4 4) ∧ W.cell? ⟨w.heap.size, 3, none⟩ = some (.int .i64 (v.pl : Int)) ∧ Wo w G vs v G vs (.slice (some ⟨w3.heap.size, 0, none⟩) 0 0) [] W)
              (first | assumption | exact hda | exact Wo.all (by assumption))
              (first | (go_at_call 74; (with_reducible refine Calls.mono (fk _ _ _ (by assumption : _ ∧ _ ∧ _ ∧ _ ∧ _).2.2.2.2) ?_); rintro e wv ⟨rfl, hwv⟩) | fail)
          have h8 := (by assumption : _ ∧ _ ∧ _ ∧ _ ∧ Wo w G vs v G vs _ _ _).2.2.2.2
          clear hda fk h7 x0 x1 x2 x3
          obtain ⟨x0, x1, x2, x3, -⟩ := h8.all
          by_cases hr : v.kept < v.most
          · have d5 : decide ((v.most : Int) ≤ (v.kept : Int)) = false := decide_eq_false (by omega)
            have HE1 := Lib.hid (show v.room false = v from if_pos hr)
            have HE2 := Lib.hid (show v.roomK false = [] from if_pos hr)
            go_wp2_with fail
            go_meet
            exact ⟨G, vs, by rw [HF1.out, HF2.out, HE1.out, HE2.out]; exact h8⟩
          · have d5 : decide ((v.most : Int) ≤ (v.kept : Int)) = true := decide_eq_true (by omega)
            have HE1 := Lib.hid (show v.room false = v.repl false from if_neg hr)
            have HE2 := Lib.hid (show v.roomK false = (v.last (v.src false)).toList from if_neg hr)
            have fr := fun W (h : Dat W v G vs) => rreplace_c false hf1 W h
            go_wp2_with fail
            refine (fr _ h8.wr.go.rf).mono ?_
            rintro e w8 ⟨G2, vs2, val, rfl, hg, hrow⟩
            have hR := Lib.hid (h8.room hf1 hg hrow)
            have h9 := h8.onto hg.below
            clear x0 x1 x2 x3 hrow hg fr
            obtain ⟨x0, x1, x2, x3, y0, y1, y2, y3⟩ := h9.wr.cells
            clear h8 h9
            go_wp2_with fail
            go_meet
            exact ⟨G2, vs2, by rw [HF1.out, HE1.out]; exact hR.out.1, by rw [HF2.out, HE2.out]; exact hR.out.2⟩
      · have d4 : decide ((v.most : Int) ≤ (v.all : Int)) = false := decide_eq_false (by omega)
        have hs : v.shut = v := (if_neg n1).trans (if_neg (by omega))
        have hr : v.kept < v.most := by have := B4.out; have := B5.out; omega
        have HF1 := Lib.hid (show v.fresh = v from (if_neg n3).trans (by rw [hs]; exact if_pos hr))
        have HF2 := Lib.hid (show v.freshK = [] from (if_neg n3).trans (by rw [hs]; exact if_pos hr))
        clear hs hr
        go_upto_region 26 with (fail)
        refine region_only 12 #[false, false, false, false, false, false, false, false, false, false, false, false] (S := (fun W => W.cell? ⟨w.heap.size, 0, none⟩ = some (.int .i64 (v.most : Int)) ∧ W.cell? ⟨w.heap.size, 1, none⟩ = some (.int .i64 (v.tgt : Int)) ∧ W.cell? ⟨w.heap.size, 2, none⟩ = some (.slice (some ⟨G, 0, none⟩) 4 4) ∧ W.cell? ⟨w.heap.size, 3, none⟩ = some (.int .i64 (v.pl : Int)) ∧ Wo w G vs v G vs (.slice (some ⟨w3.heap.size, 0, none⟩) 0 0) [] W)) rfl rfl (by kernel_rfl) (Wo.all (h6.drewN 1)) (fun hSw => ?_)
        refine take_at 0 104 (fuel := 11) ?_ rfl rfl (by kernel_rfl) (by kernel_rfl) (by kernel_rfl) (Or.inl ⟨by rfl, ?_⟩) hSw ?_
        rotate_left
        · intro wx hSx
          (try dsimp only at hSx)
          go_split_ands
          go_simp
          (try with_reducible rfl)
        simp only [List.setIfInBounds_toArray, List.set_cons_zero, List.set_cons_succ]
        refine take_at 1 105 (fuel := 10) ?_ rfl rfl (by kernel_rfl) (by kernel_rfl) (by kernel_rfl) (Or.inl ⟨by rfl, ?_⟩) hSw ?_
        rotate_left
        · intro wx hSx
          (try dsimp only at hSx)
          go_split_ands
          go_simp
          (try with_reducible rfl)
        simp only [List.setIfInBounds_toArray, List.set_cons_zero, List.set_cons_succ]
        refine take_at 2 106 (fuel := 9) ?_ rfl rfl (by kernel_rfl) (by kernel_rfl) (by kernel_rfl) (Or.inl ⟨by rfl, ?_⟩) hSw ?_
        rotate_left
        · intro wx hSx
          (try dsimp only at hSx)
          go_split_ands
          go_simp
          (try with_reducible rfl)
        simp only [List.setIfInBounds_toArray, List.set_cons_zero, List.set_cons_succ]
        refine take_at 3 107 (fuel := 8) ?_ rfl rfl (by kernel_rfl) (by kernel_rfl) (by kernel_rfl) (Or.inl ⟨by rfl, ?_⟩) hSw ?_
        rotate_left
        · intro wx hSx
          (try dsimp only at hSx)
          go_split_ands
          go_simp
          (try with_reducible rfl)
        simp only [List.setIfInBounds_toArray, List.set_cons_zero, List.set_cons_succ]
        refine take_at 4 108 (fuel := 7) ?_ rfl rfl (by kernel_rfl) (by kernel_rfl) (by kernel_rfl) (Or.inl ⟨by rfl, ?_⟩) hSw ?_
        rotate_left
        · intro wx hSx
          (try dsimp only at hSx)
          go_split_ands
          go_simp
          (try with_reducible rfl)
        simp only [List.setIfInBounds_toArray, List.set_cons_zero, List.set_cons_succ]
        refine take_at 5 109 undef (fuel := 6) rfl rfl (by kernel_rfl) (by kernel_rfl) (by kernel_rfl) (Or.inr ⟨by rfl, rfl⟩) hSw ?_
        simp only [List.setIfInBounds_toArray, List.set_cons_zero, List.set_cons_succ]
        refine take_at 6 110 undef (fuel := 5) rfl rfl (by kernel_rfl) (by kernel_rfl) (by kernel_rfl) (Or.inr ⟨by rfl, rfl⟩) hSw ?_
        simp only [List.setIfInBounds_toArray, List.set_cons_zero, List.set_cons_succ]
        refine take_at 7 111 undef (fuel := 4) rfl rfl (by kernel_rfl) (by kernel_rfl) (by kernel_rfl) (Or.inr ⟨by rfl, rfl⟩) hSw ?_
        simp only [List.setIfInBounds_toArray, List.set_cons_zero, List.set_cons_succ]
        refine take_at 8 112 undef (fuel := 3) rfl rfl (by kernel_rfl) (by kernel_rfl) (by kernel_rfl) (Or.inr ⟨by rfl, rfl⟩) hSw ?_
        simp only [List.setIfInBounds_toArray, List.set_cons_zero, List.set_cons_succ]
        refine take_at 9 113 undef (fuel := 2) rfl rfl (by kernel_rfl) (by kernel_rfl) (by kernel_rfl) (Or.inr ⟨by rfl, rfl⟩) hSw ?_
        simp only [List.setIfInBounds_toArray, List.set_cons_zero, List.set_cons_succ]
        refine take_at 10 114 (fuel := 1) ?_ rfl rfl (by kernel_rfl) (by kernel_rfl) (by kernel_rfl) (Or.inl ⟨by rfl, ?_⟩) hSw ?_
        rotate_left
        · intro wx hSx
          (try dsimp only at hSx)
          go_split_ands
          go_simp
          (try with_reducible rfl)
        simp only [List.setIfInBounds_toArray, List.set_cons_zero, List.set_cons_succ]
        refine take_at 11 103 (fuel := 0) ?_ rfl rfl (by kernel_rfl) (by kernel_rfl) (by kernel_rfl) (Or.inl ⟨by rfl, ?_⟩) hSw ?_
        rotate_left
        · intro wx hSx
          (try dsimp only at hSx)
          go_split_ands
          go_simp
          (try with_reducible rfl)
        simp only [List.setIfInBounds_toArray, List.set_cons_zero, List.set_cons_succ]
        refine wpAnyH_done (by kernel_rfl) ⟨rfl, ?_⟩ 0
        replace h6 := hSw.2.2.2.2
        clear hSw x0 x1 x2 x3
        obtain ⟨x0, x1, x2, x3, -⟩ := h6.all
        go_wp2_with fail
        go_meet
        exact ⟨G, vs, by rw [HF1.out, HF2.out]; exact h6⟩
  case rest =>
    obtain ⟨G1, vs1, h9⟩ := hcut
    have hf2 := hf.fresh
    clear h6 f0 u4
    generalize v.fresh = v2 at *
    generalize v.freshK = LK at *
    have fc := fun W (h : Dat W v2 G1 vs1) => rfront_a (a := 0) (j := 0) rfl (by omega) hk hf2 hv W h
    obtain ⟨x0, x1, x2, x3, -⟩ := h9.all
    go_wp2_with fail
    refine (fc _ h9.wr.go.rf).mono ?_
    rintro e w9 ⟨G', vs', rfl, hg⟩
    have h10 := h9.onto hg.below
    have hR := h9.wr.fin (v' := v2.fr 0 k) hv hg
    have hrow := row_put (w := w) (m := v2.most) (t := v2.tgt) (G := G') (p := v2.pl) h10.row (Nat.le_refl _)
    unfold putA at hrow
    have HROW := Lib.hid hrow
    clear x0 x1 x2 x3 hrow hg fc h9
    obtain ⟨z0, z1, z2, z3, z4, z5, z6, z7⟩ := h10.wr.zero
    clear h10
    obtain ⟨hG, p0, p1, p2, p3⟩ := (show Goes w G vs (v2.fr 0 k) G' vs' (putA w w9 v2.most v2.tgt G' v2.pl) ∧ (putA w w9 v2.most v2.tgt G' v2.pl).cell? ⟨w.heap.size + 1, 0, none⟩ = some (.int .i64 (v2.most : Int)) ∧ (putA w w9 v2.most v2.tgt G' v2.pl).cell? ⟨w.heap.size + 1, 1, none⟩ = some (.int .i64 (v2.tgt : Int)) ∧ (putA w w9 v2.most v2.tgt G' v2.pl).cell? ⟨w.heap.size + 1, 2, none⟩ = some (.slice (some ⟨G', 0, none⟩) 4 4) ∧ (putA w w9 v2.most v2.tgt G' v2.pl).cell? ⟨w.heap.size + 1, 3, none⟩ = some (.int .i64 (v2.pl : Int)) from hR)
    unfold putA at hG p0 p1 p2 p3
    have HG := Lib.hid hG
    have HP0 := Lib.hid p0
    have HP1 := Lib.hid p1
    have HP2 := Lib.hid p2
    have HP3 := Lib.hid p3
    clear hG p0 p1 p2 p3
    go_wp2_with fail
    have p0 := HP0.out
    have p1 := HP1.out
    have p2 := HP2.out
    have p3 := HP3.out
    have hG := HG.out
    clear HP0 HP1 HP2 HP3 HG
    generalize ((((w9.setCell ⟨w.heap.size + 1, 0, none⟩ (.int .i64 (v2.most : Int))).setCell ⟨w.heap.size + 1, 1, none⟩ (.int .i64 (v2.tgt : Int))).setCell ⟨w.heap.size + 1, 2, none⟩ (.slice (some ⟨G', 0, none⟩) 4 4)).setCell ⟨w.heap.size + 1, 3, none⟩ (.int .i64 (v2.pl : Int))) = w9 at *
    (try simp only [Exit.inBlock, Exit.then])
    refine bodyPost_ret (v := .tuple #[.agg #[.int .i64 (v2.most : Int), .int .i64 (v2.tgt : Int), .slice (some ⟨G', 0, none⟩) 4 4, .int .i64 (v2.pl : Int)], u6]) (by simp [results, Try.results72, go_sem, p0, p1, p2, p3]) rfl ?_
    exact ⟨G', vs', _, rfl, hG, Ringy.own_mono HROW.out (by omega)⟩
end
end Go.Proofs.Ytfhlnidjneaieaa.Arcy

namespace Go.Proofs.Ytfhlnidjneaieaa.Arcy
open Go.ChangeShapes Go.WideShapes Go.ChangeAt Go.RowKit Go.Shelf
open Wirey (Blk Row str str_size str_list str_cat Kp enc)
open Ringy Go.ChangeMaps Go.Maps

section
variable {w x y : World} {v v' v'' : Av} {G G' G'' : Nat} {vs vs' vs'' : Nat → Value} {k : Key}
theorem rinsert_c (hk : k.length ≤ maxLen) (hf : v.Fine) (w : World) (h : Dat w v G vs) :
    Calls Try.prog 72 #[.agg #[.int .i64 (v.most : Int), .int .i64 (v.tgt : Int), .slice (some ⟨G, 0, none⟩) 4 4, .int .i64 (v.pl : Int)], .string (str k)] w (InsP w G vs (v.insert k) (v.insertK k)) := by
  have hv := (Av.insert_ok hf.ok k).1
  unfold Av.insert Av.insertK at *
  by_cases h1 : 64 < k.length
  · rw [if_pos h1, if_pos h1]
    exact rins_long h1 hk hf.ok w h
  · rw [if_neg h1] at hv
    rw [if_neg h1, if_neg h1]
    unfold Av.ins Av.insK at *
    have h64 : k.length ≤ 64 := by omega
    rcases e : v.at_ k with _ | i
    · rw [e] at hv
      exact rins_new h64 e hf hv w h
    · obtain ⟨hi, hm⟩ := Av.at_some e
      rw [e] at hv
      rcases (by omega : i = 0 ∨ i = 1 ∨ i = 2 ∨ i = 3) with rfl | rfl | rfl | rfl
      · exact rins_known h64 (by rw [Av.at_has hf.ok, e]; rfl) hf hv w h
      · exact rins_known h64 (by rw [Av.at_has hf.ok, e]; rfl) hf hv w h
      · exact rins_b2 h64 e hf hv w h
      · exact rins_b3 h64 e hf hv w h
theorem Av.Fine.insert (h : v.Fine) (k : Key) : (v.insert k).Fine := by
  refine ⟨(Av.insert_ok h.ok k).1, ?_⟩
  have hfr : ∀ (u : Av) (j : Nat), u.Fine → j < 4 → ∀ i, 4 ≤ i → (u.fr j k).rg.l i = [] := fun u j hu hj i hi => by
    show (if i = j then k :: strike k (u.rg.l i) else strike k (u.rg.l i)) = []
    rw [if_neg (by omega), hu.out i hi]
    rfl
  unfold Av.insert Av.ins
  split
  · exact h.out
  · split
    · exact hfr _ 0 h.fresh (by omega)
    · exact hfr _ 1 (h.up.room false) (by omega)
    · exact hfr _ 1 (h.down.room true) (by omega)
    · exact hfr _ 1 h (by omega)
set_option maxHeartbeats 2000000 in
set_option maxRecDepth 100000 in
theorem rtouch_c (hf : v.Fine) (hv : (v.touch k).Ok) (w : World) (h : Dat w v G vs) :
    Calls Try.prog 67 #[.agg #[.int .i64 (v.most : Int), .int .i64 (v.tgt : Int), .slice (some ⟨G, 0, none⟩) 4 4, .int .i64 (v.pl : Int)], .string (str k)] w fun e w' => ∃ G' vs', e = .returned (.tuple #[.agg #[.int .i64 (v.most : Int), .int .i64 (v.tgt : Int), .slice (some ⟨G', 0, none⟩) 4 4, .int .i64 (v.pl : Int)], .bool (v.has k)]) ∧ Goes w G vs (v.touch k) G' vs' w' := by
  have hok := hf.ok
  have h2 := Wr.new hok h
  have fh := fun W (h : Wr w G vs v G vs W) => wr_has (k := k) hok h
  go_enter Try.func67, Try.ntmps67
  go_upto_region 1 with (fail)
  generalize (w.alloc (.cells #[.int .i64 (v.most : Int), .int .i64 (v.tgt : Int), .slice (some ⟨G, 0, none⟩) 4 4, .int .i64 (v.pl : Int)] 63)).alloc (.cells #[.int .i64 0, .int .i64 0, .slice none 0 0, .int .i64 0] 63) = w2 at *
  obtain ⟨x0, x1, x2, x3, -⟩ := h2.cells
  cases hh : v.has k with
  | false =>
    rw [hh] at fh
    have HT := Lib.hid (show v.touch k = v by unfold Av.touch; rw [hh]; rfl)
    have HH := Lib.hid hh
    clear hh
    go_wp2_with fail
    refine (fh _ h2).mono ?_
    rintro e w3 ⟨rfl, h3⟩
    clear x0 x1 x2 x3 h2 fh
    obtain ⟨x0, x1, x2, x3, -⟩ := h3.cells
    obtain ⟨z0, z1, z2, z3, z4, z5, z6, z7⟩ := h3.zero
    obtain ⟨hG, p0, p1, p2, p3⟩ := (show Goes w G vs v G vs (putA w w3 v.most v.tgt G v.pl) ∧ (putA w w3 v.most v.tgt G v.pl).cell? ⟨w.heap.size + 1, 0, none⟩ = some (.int .i64 (v.most : Int)) ∧ (putA w w3 v.most v.tgt G v.pl).cell? ⟨w.heap.size + 1, 1, none⟩ = some (.int .i64 (v.tgt : Int)) ∧ (putA w w3 v.most v.tgt G v.pl).cell? ⟨w.heap.size + 1, 2, none⟩ = some (.slice (some ⟨G, 0, none⟩) 4 4) ∧ (putA w w3 v.most v.tgt G v.pl).cell? ⟨w.heap.size + 1, 3, none⟩ = some (.int .i64 (v.pl : Int)) from h3.done hok)
    unfold putA at hG p0 p1 p2 p3
    have HG := Lib.hid hG
    have HP0 := Lib.hid p0
    have HP1 := Lib.hid p1
    have HP2 := Lib.hid p2
    have HP3 := Lib.hid p3
    clear hG p0 p1 p2 p3
    go_wp2_with fail
    have p0 := HP0.out
    have p1 := HP1.out
    have p2 := HP2.out
    have p3 := HP3.out
    have hG := HG.out
    clear HP0 HP1 HP2 HP3 HG
    generalize ((((w3.setCell ⟨w.heap.size + 1, 0, none⟩ (.int .i64 (v.most : Int))).setCell ⟨w.heap.size + 1, 1, none⟩ (.int .i64 (v.tgt : Int))).setCell ⟨w.heap.size + 1, 2, none⟩ (.slice (some ⟨G, 0, none⟩) 4 4)).setCell ⟨w.heap.size + 1, 3, none⟩ (.int .i64 (v.pl : Int))) = w9 at *
    (try simp only [Exit.inBlock, Exit.then])
    refine bodyPost_ret (v := .tuple #[.agg #[.int .i64 (v.most : Int), .int .i64 (v.tgt : Int), .slice (some ⟨G, 0, none⟩) 4 4, .int .i64 (v.pl : Int)], .bool false]) (by simp [results, Try.results67, go_sem, p0, p1, p2, p3]) rfl ?_
    exact ⟨G, vs, by rw [HH.out], by rw [HT.out]; exact hG⟩
  | true =>
    rw [hh] at fh
    have ht : v.touch k = v.fr 1 k := by unfold Av.touch; rw [hh]; rfl
    rw [ht] at hv
    have hk : k.length ≤ 64 := by
      rcases Av.has_iff.1 hh with hm | hm
      · exact hok.klen (by omega) hm
      · exact hok.klen (by omega) hm
    have HT := Lib.hid ht
    have HH := Lib.hid hh
    clear hh ht
    have hfc := fun W (h : Dat W v G vs) => rfront_a (a := 1) (j := 1) rfl (by omega) hk hf hv W h
    go_wp2_with fail
    refine (fh _ h2).mono ?_
    rintro e w3 ⟨rfl, h3⟩
    clear x0 x1 x2 x3 h2 fh
    obtain ⟨x0, x1, x2, x3, -⟩ := h3.cells
    go_wp2_with fail
    refine (hfc _ h3.go.rf).mono ?_
    rintro e w4 ⟨G', vs', rfl, hg⟩
    have h4 := h3.onto hg.below
    have hR := h3.fin (v' := v.fr 1 k) hv hg
    clear x0 x1 x2 x3 h3 hg hfc
    obtain ⟨z0, z1, z2, z3, z4, z5, z6, z7⟩ := h4.zero
    clear h4
    obtain ⟨hG, p0, p1, p2, p3⟩ := (show Goes w G vs (v.fr 1 k) G' vs' (putA w w4 v.most v.tgt G' v.pl) ∧ (putA w w4 v.most v.tgt G' v.pl).cell? ⟨w.heap.size + 1, 0, none⟩ = some (.int .i64 (v.most : Int)) ∧ (putA w w4 v.most v.tgt G' v.pl).cell? ⟨w.heap.size + 1, 1, none⟩ = some (.int .i64 (v.tgt : Int)) ∧ (putA w w4 v.most v.tgt G' v.pl).cell? ⟨w.heap.size + 1, 2, none⟩ = some (.slice (some ⟨G', 0, none⟩) 4 4) ∧ (putA w w4 v.most v.tgt G' v.pl).cell? ⟨w.heap.size + 1, 3, none⟩ = some (.int .i64 (v.pl : Int)) from hR)
    unfold putA at hG p0 p1 p2 p3
    have HG := Lib.hid hG
    have HP0 := Lib.hid p0
    have HP1 := Lib.hid p1
    have HP2 := Lib.hid p2
    have HP3 := Lib.hid p3
    clear hG p0 p1 p2 p3
    go_wp2_with fail
    have p0 := HP0.out
    have p1 := HP1.out
    have p2 := HP2.out
    have p3 := HP3.out
    have hG := HG.out
    clear HP0 HP1 HP2 HP3 HG
    generalize ((((w4.setCell ⟨w.heap.size + 1, 0, none⟩ (.int .i64 (v.most : Int))).setCell ⟨w.heap.size + 1, 1, none⟩ (.int .i64 (v.tgt : Int))).setCell ⟨w.heap.size + 1, 2, none⟩ (.slice (some ⟨G', 0, none⟩) 4 4)).setCell ⟨w.heap.size + 1, 3, none⟩ (.int .i64 (v.pl : Int))) = w9 at *
    (try simp only [Exit.inBlock, Exit.then])
    refine bodyPost_ret (v := .tuple #[.agg #[.int .i64 (v.most : Int), .int .i64 (v.tgt : Int), .slice (some ⟨G', 0, none⟩) 4 4, .int .i64 (v.pl : Int)], .bool true]) (by simp [results, Try.results67, go_sem, p0, p1, p2, p3]) rfl ?_
    exact ⟨G', vs', by rw [HH.out], by rw [HT.out]; exact hG⟩
theorem Av.Fine.touch (h : v.Fine) (hv : (v.touch k).Ok) : (v.touch k).Fine := by
  unfold Av.touch at *
  split at hv
  · rw [if_pos (by assumption)]; exact h.fr (by omega) hv
  · rw [if_neg (by assumption)]; exact h
set_option maxHeartbeats 2000000 in
set_option maxRecDepth 100000 in
theorem rremove_c (hf : v.Fine) (w : World) (h : Dat w v G vs) :
    Calls Try.prog 68 #[.agg #[.int .i64 (v.most : Int), .int .i64 (v.tgt : Int), .slice (some ⟨G, 0, none⟩) 4 4, .int .i64 (v.pl : Int)], .string (str k)] w fun e w' => ∃ G' vs', e = .returned (.tuple #[.agg #[.int .i64 (v.most : Int), .int .i64 (v.tgt : Int), .slice (some ⟨G', 0, none⟩) 4 4, .int .i64 (v.pl : Int)], .bool (v.has k)]) ∧ Goes w G vs (v.dr k) G' vs' w' := by
  have hok := hf.ok
  have hokd := hok.dr k
  have h2 := Wr.new hok h
  have fh := fun W (h : Wr w G vs v G vs W) => wr_has (k := k) hok h
  have hdr := fun W (h : Dat W v G vs) => ring_drop (k := k) hok W h
  generalize v.has k = b at *
  go_enter Try.func68, Try.ntmps68
  go_upto_region 1 with (fail)
  generalize (w.alloc (.cells #[.int .i64 (v.most : Int), .int .i64 (v.tgt : Int), .slice (some ⟨G, 0, none⟩) 4 4, .int .i64 (v.pl : Int)] 63)).alloc (.cells #[.int .i64 0, .int .i64 0, .slice none 0 0, .int .i64 0] 63) = w2 at *
  obtain ⟨x0, x1, x2, x3, -⟩ := h2.cells
  go_wp2_with fail
  refine (fh _ h2).mono ?_
  rintro e w3 ⟨rfl, h3⟩
  clear x0 x1 x2 x3 h2 fh
  obtain ⟨x0, x1, x2, x3, -⟩ := h3.cells
  go_wp2_with fail
  refine (hdr _ h3.go.rf).mono ?_
  rintro e w4 ⟨G', vs', rfl, hg⟩
  have hR := h3.take2 (v' := v.dr k) hokd rfl rfl hg
  have h4 := h3.onto hg.below
  clear x0 x1 x2 x3 h3 hdr hg
  obtain ⟨x0, x1, x2, x3, y0, y1, y2, y3⟩ := h4.cells
  go_upto_region 3 with (fail)
  clear x0 x1 x2 x3 y0 y1 y2 y3 h4
  generalize (w4.setCell ⟨w.heap.size, 2, none⟩ (.slice (some ⟨G', 0, none⟩) 4 4)).setCell ⟨w.heap.size, 3, none⟩ (.int .i64 (v.pl : Int)) = w5 at *
  obtain ⟨x0, x1, x2, x3, -⟩ := (show w5.cell? ⟨w.heap.size, 0, none⟩ = some (.int .i64 (v.most : Int)) ∧ w5.cell? ⟨w.heap.size, 1, none⟩ = some (.int .i64 (v.tgt : Int)) ∧ w5.cell? ⟨w.heap.size, 2, none⟩ = some (.slice (some ⟨G', 0, none⟩) 4 4) ∧ w5.cell? ⟨w.heap.size, 3, none⟩ = some (.int .i64 (v.pl : Int)) ∧ _ from hR.cells)
  obtain ⟨z0, z1, z2, z3, z4, z5, z6, z7⟩ := hR.zero
  obtain ⟨hG, p0, p1, p2, p3⟩ := (show Goes w G vs (v.dr k) G' vs' (putA w w5 v.most v.tgt G' v.pl) ∧ (putA w w5 v.most v.tgt G' v.pl).cell? ⟨w.heap.size + 1, 0, none⟩ = some (.int .i64 (v.most : Int)) ∧ (putA w w5 v.most v.tgt G' v.pl).cell? ⟨w.heap.size + 1, 1, none⟩ = some (.int .i64 (v.tgt : Int)) ∧ (putA w w5 v.most v.tgt G' v.pl).cell? ⟨w.heap.size + 1, 2, none⟩ = some (.slice (some ⟨G', 0, none⟩) 4 4) ∧ (putA w w5 v.most v.tgt G' v.pl).cell? ⟨w.heap.size + 1, 3, none⟩ = some (.int .i64 (v.pl : Int)) from hR.done hokd)
  unfold putA at hG p0 p1 p2 p3
  have HG := Lib.hid hG
  have HP0 := Lib.hid p0
  have HP1 := Lib.hid p1
  have HP2 := Lib.hid p2
  have HP3 := Lib.hid p3
  clear hG p0 p1 p2 p3
  go_wp2_with fail
  have p0 := HP0.out
  have p1 := HP1.out
  have p2 := HP2.out
  have p3 := HP3.out
  have hG := HG.out
  clear HP0 HP1 HP2 HP3 HG
  generalize ((((w5.setCell ⟨w.heap.size + 1, 0, none⟩ (.int .i64 (v.most : Int))).setCell ⟨w.heap.size + 1, 1, none⟩ (.int .i64 (v.tgt : Int))).setCell ⟨w.heap.size + 1, 2, none⟩ (.slice (some ⟨G', 0, none⟩) 4 4)).setCell ⟨w.heap.size + 1, 3, none⟩ (.int .i64 (v.pl : Int))) = w9 at *
  (try simp only [Exit.inBlock, Exit.then])
  refine bodyPost_ret (v := .tuple #[.agg #[.int .i64 (v.most : Int), .int .i64 (v.tgt : Int), .slice (some ⟨G', 0, none⟩) 4 4, .int .i64 (v.pl : Int)], .bool b]) (by simp [results, Try.results68, go_sem, p0, p1, p2, p3]) rfl ?_
  exact ⟨G', vs', rfl, hG⟩
end
end Go.Proofs.Ytfhlnidjneaieaa.Arcy

namespace Go.Proofs.Ytfhlnidjneaieaa.Arcy
open Go.ChangeShapes Go.WideShapes Go.ChangeAt Go.RowKit Go.Shelf
open Wirey (Blk Row str str_size str_list str_cat Kp enc)
open Ringy Go.ChangeMaps Go.Maps

section
variable {w x y : World} {v v' v'' : Av} {G G' G'' : Nat} {vs vs' vs'' : Nat → Value} {k : Key}
/-- The bytes. -/
def Av.put (v : Av) : List UInt8 := enc v.most ++ (enc v.tgt ++ v.rg.put)
theorem putA_cell {w x : World} {m t G p : Nat} {a : Addr} (h : a.block ≠ w.heap.size + 1) : (putA w x m t G p).cell? a = x.cell? a :=
  (((World.cell?_setCell_far _ _ a _ (Ne.symm h)).trans (World.cell?_setCell_far _ _ a _ (Ne.symm h))).trans (World.cell?_setCell_far _ _ a _ (Ne.symm h))).trans (World.cell?_setCell_far _ _ a _ (Ne.symm h))
set_option maxHeartbeats 2000000 in
set_option maxRecDepth 100000 in
theorem revict_c (hf : v.Fine) (w : World) (h : Dat w v G vs) :
    Calls Try.prog 69 #[.agg #[.int .i64 (v.most : Int), .int .i64 (v.tgt : Int), .slice (some ⟨G, 0, none⟩) 4 4, .int .i64 (v.pl : Int)]] w fun e w' => ∃ G' vs', e = .returned (.tuple #[.agg #[.int .i64 (v.most : Int), .int .i64 (v.tgt : Int), .slice (some ⟨G', 0, none⟩) 4 4, .int .i64 (v.pl : Int)], .string (str ((v.last (v.src false)).getD [])), .bool (v.last (v.src false)).isSome]) ∧ Goes w G vs (v.repl false) G' vs' w' := by
  have hok := hf.ok
  have h2 := Wr.new hok h
  have fk := fun W (h : Wr w G vs v G vs W) => wr_kept hok h
  have hl0 : v.kept = v.len 0 + v.len 1 := rfl
  go_enter Try.func69, Try.ntmps69
  go_upto_region 1 with (fail)
  generalize (w.alloc (.cells #[.int .i64 (v.most : Int), .int .i64 (v.tgt : Int), .slice (some ⟨G, 0, none⟩) 4 4, .int .i64 (v.pl : Int)] 63)).alloc (.cells #[.int .i64 0, .int .i64 0, .slice none 0 0, .int .i64 0] 63) = w2 at *
  obtain ⟨x0, x1, x2, x3, -⟩ := h2.cells
  by_cases hz : v.kept = 0
  · have hn : v.last (v.src false) = none := by
      have : v.rg.l (v.src false) = [] := by
        have h0 : v.len 0 = 0 := by omega
        have h1 : v.len 1 = 0 := by omega
        rcases Av.src_cases v false with e | e <;> rw [e]
        · exact List.length_eq_zero_iff.1 h0
        · exact List.length_eq_zero_iff.1 h1
      unfold Av.last
      rw [this]
      rfl
    have hrp : v.repl false = v := by unfold Av.repl; rw [hn]
    have HN := Lib.hid hn
    have HR := Lib.hid hrp
    have d1 : ((v.kept : Int) == 0) = true := beq_iff_eq.2 (by omega)
    clear hn hrp hz hl0
    go_wp2_with fail
    refine (fk _ h2).mono ?_
    rintro e w3 ⟨rfl, h3⟩
    clear x0 x1 x2 x3 h2 fk
    obtain ⟨x0, x1, x2, x3, -⟩ := h3.cells
    obtain ⟨z0, z1, z2, z3, z4, z5, z6, z7⟩ := h3.zero
    obtain ⟨hG, p0, p1, p2, p3⟩ := (show Goes w G vs v G vs (putA w w3 v.most v.tgt G v.pl) ∧ (putA w w3 v.most v.tgt G v.pl).cell? ⟨w.heap.size + 1, 0, none⟩ = some (.int .i64 (v.most : Int)) ∧ (putA w w3 v.most v.tgt G v.pl).cell? ⟨w.heap.size + 1, 1, none⟩ = some (.int .i64 (v.tgt : Int)) ∧ (putA w w3 v.most v.tgt G v.pl).cell? ⟨w.heap.size + 1, 2, none⟩ = some (.slice (some ⟨G, 0, none⟩) 4 4) ∧ (putA w w3 v.most v.tgt G v.pl).cell? ⟨w.heap.size + 1, 3, none⟩ = some (.int .i64 (v.pl : Int)) from h3.done hok)
    unfold putA at hG p0 p1 p2 p3
    have HG := Lib.hid hG
    have HP0 := Lib.hid p0
    have HP1 := Lib.hid p1
    have HP2 := Lib.hid p2
    have HP3 := Lib.hid p3
    clear hG p0 p1 p2 p3
    go_wp2_with fail
    have p0 := HP0.out
    have p1 := HP1.out
    have p2 := HP2.out
    have p3 := HP3.out
    have hG := HG.out
    clear HP0 HP1 HP2 HP3 HG
    generalize ((((w3.setCell ⟨w.heap.size + 1, 0, none⟩ (.int .i64 (v.most : Int))).setCell ⟨w.heap.size + 1, 1, none⟩ (.int .i64 (v.tgt : Int))).setCell ⟨w.heap.size + 1, 2, none⟩ (.slice (some ⟨G, 0, none⟩) 4 4)).setCell ⟨w.heap.size + 1, 3, none⟩ (.int .i64 (v.pl : Int))) = w9 at *
    (try simp only [Exit.inBlock, Exit.then])
    refine bodyPost_ret (v := .tuple #[.agg #[.int .i64 (v.most : Int), .int .i64 (v.tgt : Int), .slice (some ⟨G, 0, none⟩) 4 4, .int .i64 (v.pl : Int)], .string ⟨#[]⟩, .bool false]) (by simp [results, Try.results69, go_sem, p0, p1, p2, p3]) rfl ?_
    exact ⟨G, vs, by rw [HN.out]; rfl, by rw [HR.out]; exact hG⟩
  · obtain ⟨k0, hn, hW⟩ := Av.repl_went hok false (by omega)
    have hokr := (hf.repl false).ok
    have hnum := Av.repl_num v false
    have hpl : (v.repl false).pl = v.pl := by unfold Av.pl; rw [hnum.1]
    have fr := fun W (h : Dat W v G vs) => rreplace_c false hf W h
    simp only [hn, Option.toList_some, List.length_singleton] at fr
    have HN := Lib.hid hn
    have HM := Lib.hid hnum
    have HP := Lib.hid hpl
    have d1 : ((v.kept : Int) == 0) = false := beq_eq_false_iff_ne.2 (by omega)
    clear hn hW hnum hz hl0 hpl
    go_wp2_with fail
    refine (fk _ h2).mono ?_
    rintro e w3 ⟨rfl, h3⟩
    clear x0 x1 x2 x3 h2 fk
    obtain ⟨x0, x1, x2, x3, -⟩ := h3.cells
    go_wp2_with fail
    refine (fr _ h3.go.rf).mono ?_
    rintro e w4 ⟨G', vs', val, rfl, hg, hrow⟩
    have hg5 := hg.onto ((Below.refl _ w4).alloc (Nat.le_refl _) (.cells #[.int .i64 (v.most : Int), .int .i64 (v.tgt : Int), .slice (some ⟨G', 0, none⟩) 4 4, .int .i64 (v.pl : Int)] 63))
    have h5 := h3.onto hg5.below
    obtain ⟨g, c, rfl, -, -⟩ := hrow.form (by omega)
    have hgl := (hrow.lt g rfl)
    have cg : (w4.alloc (.cells #[.int .i64 (v.most : Int), .int .i64 (v.tgt : Int), .slice (some ⟨G', 0, none⟩) 4 4, .int .i64 (v.pl : Int)] 63)).cell? ⟨g, 0, none⟩ = some (.string (str k0)) := (World.cell?_of_block (Below.heap_alloc w4 _ g hgl.2)).trans (hrow.cellAt 0 (by omega))
    have hR : Goes w G vs (v.repl false) G' vs' (putA w (w4.alloc (.cells #[.int .i64 (v.most : Int), .int .i64 (v.tgt : Int), .slice (some ⟨G', 0, none⟩) 4 4, .int .i64 (v.pl : Int)] 63)) v.most v.tgt G' v.pl) ∧ (putA w (w4.alloc (.cells #[.int .i64 (v.most : Int), .int .i64 (v.tgt : Int), .slice (some ⟨G', 0, none⟩) 4 4, .int .i64 (v.pl : Int)] 63)) v.most v.tgt G' v.pl).cell? ⟨w.heap.size + 1, 0, none⟩ = some (.int .i64 (v.most : Int)) ∧ (putA w (w4.alloc (.cells #[.int .i64 (v.most : Int), .int .i64 (v.tgt : Int), .slice (some ⟨G', 0, none⟩) 4 4, .int .i64 (v.pl : Int)] 63)) v.most v.tgt G' v.pl).cell? ⟨w.heap.size + 1, 1, none⟩ = some (.int .i64 (v.tgt : Int)) ∧ (putA w (w4.alloc (.cells #[.int .i64 (v.most : Int), .int .i64 (v.tgt : Int), .slice (some ⟨G', 0, none⟩) 4 4, .int .i64 (v.pl : Int)] 63)) v.most v.tgt G' v.pl).cell? ⟨w.heap.size + 1, 2, none⟩ = some (.slice (some ⟨G', 0, none⟩) 4 4) ∧ (putA w (w4.alloc (.cells #[.int .i64 (v.most : Int), .int .i64 (v.tgt : Int), .slice (some ⟨G', 0, none⟩) 4 4, .int .i64 (v.pl : Int)] 63)) v.most v.tgt G' v.pl).cell? ⟨w.heap.size + 1, 3, none⟩ = some (.int .i64 (v.pl : Int)) := by
      have := h3.fin (v' := v.repl false) hokr hg5
      rw [HM.out.1, HM.out.2, HP.out] at this
      exact this
    have hb5 := Blk.new w4 63 #[.int .i64 (v.most : Int), .int .i64 (v.tgt : Int), .slice (some ⟨G', 0, none⟩) 4 4, .int .i64 (v.pl : Int)]
    have hq : w4.heap.size ≠ w.heap.size + 1 := by have := h3.onto hg.below |>.res.lt; omega
    have hgn : g ≠ w.heap.size + 1 := by have := h3.res.lt; omega
    clear x0 x1 x2 x3 h3 fr hg hg5 hrow
    go_upto_region 6 with (fail)
    generalize w4.heap.size = q at *
    generalize w4.alloc (.cells #[.int .i64 (v.most : Int), .int .i64 (v.tgt : Int), .slice (some ⟨G', 0, none⟩) 4 4, .int .i64 (v.pl : Int)] 63) = w6 at *
    have h5d : Wr w G vs v G vs w6.drew := h5.drewN 1
    obtain ⟨z0, z1, z2, z3, z4, z5, z6, z7⟩ := h5d.zero
    obtain ⟨r0, r1, r2, r3, r4, r5, r6, r7⟩ := h5.zero
    have hS : w6.drew.cell? ⟨q, 0, none⟩ = some (.int .i64 (v.most : Int)) ∧ w6.drew.cell? ⟨q, 1, none⟩ = some (.int .i64 (v.tgt : Int)) ∧ w6.drew.cell? ⟨q, 2, none⟩ = some (.slice (some ⟨G', 0, none⟩) 4 4) ∧ w6.drew.cell? ⟨q, 3, none⟩ = some (.int .i64 (v.pl : Int)) ∧ w6.drew.cell? ⟨g, 0, none⟩ = some (.string (str k0)) := ⟨hb5.cell 0, hb5.cell 1, hb5.cell 2, hb5.cell 3, cg⟩
    have q1 : (0 : Int) < 1 := by omega
    refine region_only 7 #[false, false, false, false, false, false, false] (S := (fun W => W.cell? ⟨q, 0, none⟩ = some (.int .i64 (v.most : Int)) ∧ W.cell? ⟨q, 1, none⟩ = some (.int .i64 (v.tgt : Int)) ∧ W.cell? ⟨q, 2, none⟩ = some (.slice (some ⟨G', 0, none⟩) 4 4) ∧ W.cell? ⟨q, 3, none⟩ = some (.int .i64 (v.pl : Int)) ∧ W.cell? ⟨g, 0, none⟩ = some (.string (str k0)))) rfl rfl (by kernel_rfl) hS (fun hSw => ?_)
    refine take_at 0 20 (fuel := 6) ?_ rfl rfl (by kernel_rfl) (by kernel_rfl) (by kernel_rfl) (Or.inl ⟨by rfl, ?_⟩) hSw ?_
    rotate_left
    · intro wx hSx
      (try dsimp only at hSx)
      go_split_ands
      go_simp
      (try with_reducible rfl)
    simp only [List.setIfInBounds_toArray, List.set_cons_zero, List.set_cons_succ]
    refine take_at 1 21 (fuel := 5) ?_ rfl rfl (by kernel_rfl) (by kernel_rfl) (by kernel_rfl) (Or.inl ⟨by rfl, ?_⟩) hSw ?_
    rotate_left
    · intro wx hSx
      (try dsimp only at hSx)
      go_split_ands
      go_simp
      (try with_reducible rfl)
    simp only [List.setIfInBounds_toArray, List.set_cons_zero, List.set_cons_succ]
    refine take_at 2 22 (fuel := 4) ?_ rfl rfl (by kernel_rfl) (by kernel_rfl) (by kernel_rfl) (Or.inl ⟨by rfl, ?_⟩) hSw ?_
    rotate_left
    · intro wx hSx
      (try dsimp only at hSx)
      go_split_ands
      go_simp
      (try with_reducible rfl)
    simp only [List.setIfInBounds_toArray, List.set_cons_zero, List.set_cons_succ]
    refine take_at 3 23 (fuel := 3) ?_ rfl rfl (by kernel_rfl) (by kernel_rfl) (by kernel_rfl) (Or.inl ⟨by rfl, ?_⟩) hSw ?_
    rotate_left
    · intro wx hSx
      (try dsimp only at hSx)
      go_split_ands
      go_simp
      (try with_reducible rfl)
    simp only [List.setIfInBounds_toArray, List.set_cons_zero, List.set_cons_succ]
    refine wpAnyH_ready (fuel := 2) (rs := [4]) (by kernel_rfl) (by simp) (AllReadyH.cons rfl (fun K hK => ?_) AllReadyH.nil)
    go_simp
    refine hK.out _ _ ⟨(putA_cell (x := w6) hq).trans hSw.1, (putA_cell (x := w6) hq).trans hSw.2.1, (putA_cell (x := w6) hq).trans hSw.2.2.1, (putA_cell (x := w6) hq).trans hSw.2.2.2.1, (putA_cell (x := w6) hgn).trans hSw.2.2.2.2⟩ (fun hSw => ?_)
    clear hK K
    simp only [List.setIfInBounds_toArray, List.set_cons_zero, List.set_cons_succ]
    refine take_at 5 3 (fuel := 1) ?_ rfl rfl (by kernel_rfl) (by kernel_rfl) (by kernel_rfl) (Or.inl ⟨by rfl, ?_⟩) hSw ?_
    rotate_left
    · intro wx hSx
      (try dsimp only at hSx)
      go_split_ands
      go_simp
      (try with_reducible rfl)
    simp only [List.setIfInBounds_toArray, List.set_cons_zero, List.set_cons_succ]
    refine take_at 6 4 (fuel := 0) ?_ rfl rfl (by kernel_rfl) (by kernel_rfl) (by kernel_rfl) (Or.inl ⟨by rfl, ?_⟩) hSw ?_
    rotate_left
    · intro wx hSx
      (try dsimp only at hSx)
      go_split_ands
      go_simp
      (try with_reducible rfl)
    simp only [List.setIfInBounds_toArray, List.set_cons_zero, List.set_cons_succ]
    refine wpAnyH_done (by kernel_rfl) ⟨rfl, ?_⟩ 0
    clear hSw z0 z1 z2 z3 z4 z5 z6 z7 r0 r1 r2 r3 r4 r5 r6 r7 h5 h5d hS cg hb5
    obtain ⟨hG, p0, p1, p2, p3⟩ := hR
    unfold putA at hG p0 p1 p2 p3
    generalize ((((w6.setCell ⟨w.heap.size + 1, 0, none⟩ (.int .i64 (v.most : Int))).setCell ⟨w.heap.size + 1, 1, none⟩ (.int .i64 (v.tgt : Int))).setCell ⟨w.heap.size + 1, 2, none⟩ (.slice (some ⟨G', 0, none⟩) 4 4)).setCell ⟨w.heap.size + 1, 3, none⟩ (.int .i64 (v.pl : Int))) = w9 at *
    have p0' : w9.drew.cell? ⟨w.heap.size + 1, 0, none⟩ = some (.int .i64 (v.most : Int)) := p0
    have p1' : w9.drew.cell? ⟨w.heap.size + 1, 1, none⟩ = some (.int .i64 (v.tgt : Int)) := p1
    have p2' : w9.drew.cell? ⟨w.heap.size + 1, 2, none⟩ = some (.slice (some ⟨G', 0, none⟩) 4 4) := p2
    have p3' : w9.drew.cell? ⟨w.heap.size + 1, 3, none⟩ = some (.int .i64 (v.pl : Int)) := p3
    have hGd := hG.onto (y := w9.drew) ⟨rfl, rfl, rfl, Nat.le_refl _, fun _ _ => rfl⟩
    clear p0 p1 p2 p3 hG
    generalize w9.drew = wz at *
    go_wp2_with fail
    (try simp only [Exit.inBlock, Exit.then])
    refine bodyPost_ret (v := .tuple #[.agg #[.int .i64 (v.most : Int), .int .i64 (v.tgt : Int), .slice (some ⟨G', 0, none⟩) 4 4, .int .i64 (v.pl : Int)], .string (str k0), .bool true]) (by simp [results, Try.results69, go_sem, p0', p1', p2', p3']) rfl ?_
    exact ⟨G', vs', by rw [HN.out]; rfl, hGd⟩
set_option maxHeartbeats 2000000 in
set_option maxRecDepth 100000 in
theorem rput7_c (hok : v.Ok) (w : World) (h : Dat w v G vs) :
    Calls Try.prog 71 #[.agg #[.int .i64 (v.most : Int), .int .i64 (v.tgt : Int), .slice (some ⟨G, 0, none⟩) 4 4, .int .i64 (v.pl : Int)]] w fun e w' => e = .returned (.string (str v.put)) ∧ Below w.heap.size w w' := by
  have h1 := Wk.new h
  have hm2 := hok.m2
  have ht2 := hok.t
  have hcat := str_cat
  have hsz := str_size
  have hs := hok.wf.small
  have fm : ∀ W, Wk w G vs v G vs W → Calls Try.prog 58 #[.int .u64 (IntKind.u64.wrap (v.most : Int))] W fun e W' => e = .returned (.string (str (enc v.most))) ∧ Wk w G vs v G vs W' := fun W hW => (Ringy.refnumW (n := v.most) (by omega) W).mono fun _ _ ⟨a, b⟩ => ⟨a, hW.onto b⟩
  have ft : ∀ W, Wk w G vs v G vs W → Calls Try.prog 58 #[.int .u64 (IntKind.u64.wrap (v.tgt : Int))] W fun e W' => e = .returned (.string (str (enc v.tgt))) ∧ Wk w G vs v G vs W' := fun W hW => (Ringy.refnumW (n := v.tgt) (by omega) W).mono fun _ _ ⟨a, b⟩ => ⟨a, hW.onto b⟩
  have fp : ∀ W, Wk w G vs v G vs W → Calls Try.prog 23 #[.agg #[.slice (some ⟨G, 0, none⟩) 4 4, .int .i64 (v.pl : Int)]] W fun e W' => e = .returned (.string (str v.rg.put)) ∧ Wk w G vs v G vs W' := fun W hW => by
    have hc := rput_c hs W hW.go.rf
    rw [hok.val] at hc
    exact hc.mono fun _ _ ⟨a, b⟩ => ⟨a, hW.onto b⟩
  have l1 := enc_ten (n := v.most) (by omega)
  have l2 := enc_ten (n := v.tgt) (by omega)
  have l3 := hs.putTo v.rg.n (Nat.le_refl _)
  rw [hok.n] at l3
  have l3' : v.rg.put.length ≤ 20 + 400000 * 4 := by unfold Rg.put; rw [hok.n]; exact l3
  have hv1 : ¬ (9223372036854775807 < (enc v.most).length + (enc v.tgt).length) := by omega
  have hv2 : ¬ (9223372036854775807 < (enc v.most ++ enc v.tgt).length + v.rg.put.length) := by rw [List.length_append]; omega
  have hv3 : ¬ (9223372036854775807 < (enc v.most).length + (enc v.tgt).length + v.rg.put.length) := by omega
  have hpu : v.put = enc v.most ++ (enc v.tgt ++ v.rg.put) := rfl
  have HPU := Lib.hid hpu
  clear l1 l2 l3 l3' hpu
  go_enter Try.func71, Try.ntmps71
  go_upto_region 1 with (fail)
  generalize w.alloc (.cells #[.int .i64 (v.most : Int), .int .i64 (v.tgt : Int), .slice (some ⟨G, 0, none⟩) 4 4, .int .i64 (v.pl : Int)] 63) = w1 at *
  have hd : w1.drew.cell? ⟨w.heap.size, 0, none⟩ = some (.int .i64 (v.most : Int)) ∧ w1.drew.cell? ⟨w.heap.size, 1, none⟩ = some (.int .i64 (v.tgt : Int)) ∧ w1.drew.cell? ⟨w.heap.size, 2, none⟩ = some (.slice (some ⟨G, 0, none⟩) 4 4) ∧ w1.drew.cell? ⟨w.heap.size, 3, none⟩ = some (.int .i64 (v.pl : Int)) ∧ Wk w G vs v G vs w1.drew := (h1.drewN 1).all
  go_region_held3 (fun W => W.cell? ⟨w.heap.size, 0, none⟩ = some (.int .i64 (v.most : Int)) ∧ W.cell? ⟨w.heap.size, 1, none⟩ = some (.int .i64 (v.tgt : Int)) ∧ W.cell? ⟨w.heap.size, 2, none⟩ = some (.slice (some ⟨G, 0, none⟩) 4 4) ∧ W.cell? ⟨w.heap.size, 3, none⟩ = some (.int .i64 (v.pl : Int)) ∧ Wk w G vs v G vs W)
    (first | assumption | exact hd | exact Wk.all (by assumption))
    (first | (go_at_call 58; (with_reducible refine Calls.mono (fm _ (by assumption : _ ∧ _ ∧ _ ∧ _ ∧ _).2.2.2.2) ?_); rintro e wv ⟨rfl, hwv⟩) | (go_at_call 58; (with_reducible refine Calls.mono (ft _ (by assumption : _ ∧ _ ∧ _ ∧ _ ∧ _).2.2.2.2) ?_); rintro e wv ⟨rfl, hwv⟩) | (go_at_call 23; (with_reducible refine Calls.mono (fp _ (by assumption : _ ∧ _ ∧ _ ∧ _ ∧ _).2.2.2.2) ?_); rintro e wv ⟨rfl, hwv⟩) | fail)
  have hZ := (by assumption : _ ∧ _ ∧ _ ∧ _ ∧ Wk w G vs v G vs _).2.2.2.2
  clear hd
  go_wp2_with fail
  go_ret
  exact ⟨by rw [HPU.out]; rfl, hZ.go.below⟩
set_option maxHeartbeats 2000000 in
set_option maxRecDepth 100000 in
theorem rnew7_c {n : Nat} (hn : 1 ≤ n) (hn2 : n ≤ 1000) (w : World) :
    Calls Try.prog 34 #[.int .i64 (n : Int)] w fun e w' => ∃ G vs, e = .returned (.agg #[.int .i64 ((Av.new n).most : Int), .int .i64 ((Av.new n).tgt : Int), .slice (some ⟨G, 0, none⟩) 4 4, .int .i64 ((Av.new n).pl : Int)]) ∧ RefAt w' (fun b => b < w.heap.size + 1) G vs (Av.new n).rg ∧ Below w.heap.size w w' := by
  have hcast : ((2 * n + 1 : Nat) : Int) = 2 * (n : Int) + 1 := by omega
  have hc := rnew_c (n := 4) (places := 2 * n + 1) (by omega) (w.alloc (.cells #[.int .i64 0, .int .i64 0, .slice none 0 0, .int .i64 0] 63))
  rw [hcast] at hc
  have hc2 : Calls Try.prog 15 #[.int .i64 4, .int .i64 (2 * (n : Int) + 1)] (w.alloc (.cells #[.int .i64 0, .int .i64 0, .slice none 0 0, .int .i64 0] 63)) fun e w' => ∃ G vs, e = .returned (.agg #[.slice (some ⟨G, 0, none⟩) 4 4, .int .i64 ((Av.new n).pl : Int)]) ∧ RefAt w' (fun b => b < (w.alloc (.cells #[.int .i64 0, .int .i64 0, .slice none 0 0, .int .i64 0] 63)).heap.size) G vs (Av.new n).rg ∧ Below (w.alloc (.cells #[.int .i64 0, .int .i64 0, .slice none 0 0, .int .i64 0] 63)).heap.size (w.alloc (.cells #[.int .i64 0, .int .i64 0, .slice none 0 0, .int .i64 0] 63)) w' := hc
  have hb1 := (Below.refl _ w).alloc (Nat.le_refl _) (.cells #[.int .i64 0, .int .i64 0, .slice none 0 0, .int .i64 0] 63)
  have hX := Blk.new w 63 #[.int .i64 0, .int .i64 0, .slice none 0 0, .int .i64 0]
  have hs : (w.alloc (.cells #[.int .i64 0, .int .i64 0, .slice none 0 0, .int .i64 0] 63)).heap.size = w.heap.size + 1 := by simp
  rw [hs] at hc2
  clear hc hcast
  go_enter Try.func34, Try.ntmps34
  go_upto_region 1 with (fail)
  generalize w.alloc (.cells #[.int .i64 0, .int .i64 0, .slice none 0 0, .int .i64 0] 63) = w1 at *
  go_wp2_with fail
  refine hc2.mono ?_
  rintro e w2 ⟨G, vs, rfl, hR, hb⟩
  have hX2 := hX.below hb (by omega)
  have z0 : w2.cell? ⟨w.heap.size, 0, none⟩ = some (.int .i64 0) := hX2.cell 0
  have z1 : w2.cell? ⟨w.heap.size, 1, none⟩ = some (.int .i64 0) := hX2.cell 1
  have z2 : w2.cell? ⟨w.heap.size, 2, none⟩ = some (.slice none 0 0) := hX2.cell 2
  have z3 : w2.cell? ⟨w.heap.size, 3, none⟩ = some (.int .i64 0) := hX2.cell 3
  have y0 := hX2.free 0
  have y1 := hX2.free 1
  have y2 := hX2.free 2
  have y3 := hX2.free 3
  have hB := (((hX2.put 0 (.int .i64 (n : Int))).put 1 (.int .i64 0)).put 2 (.slice (some ⟨G, 0, none⟩) 4 4)).put 3 (.int .i64 ((Av.new n).pl : Int))
  have p0 : ((((w2.setCell ⟨w.heap.size, 0, none⟩ (.int .i64 (n : Int))).setCell ⟨w.heap.size, 1, none⟩ (.int .i64 0)).setCell ⟨w.heap.size, 2, none⟩ (.slice (some ⟨G, 0, none⟩) 4 4)).setCell ⟨w.heap.size, 3, none⟩ (.int .i64 ((Av.new n).pl : Int))).cell? ⟨w.heap.size, 0, none⟩ = some (.int .i64 (n : Int)) := hB.cell 0
  have p1 : ((((w2.setCell ⟨w.heap.size, 0, none⟩ (.int .i64 (n : Int))).setCell ⟨w.heap.size, 1, none⟩ (.int .i64 0)).setCell ⟨w.heap.size, 2, none⟩ (.slice (some ⟨G, 0, none⟩) 4 4)).setCell ⟨w.heap.size, 3, none⟩ (.int .i64 ((Av.new n).pl : Int))).cell? ⟨w.heap.size, 1, none⟩ = some (.int .i64 0) := hB.cell 1
  have p2 : ((((w2.setCell ⟨w.heap.size, 0, none⟩ (.int .i64 (n : Int))).setCell ⟨w.heap.size, 1, none⟩ (.int .i64 0)).setCell ⟨w.heap.size, 2, none⟩ (.slice (some ⟨G, 0, none⟩) 4 4)).setCell ⟨w.heap.size, 3, none⟩ (.int .i64 ((Av.new n).pl : Int))).cell? ⟨w.heap.size, 2, none⟩ = some (.slice (some ⟨G, 0, none⟩) 4 4) := hB.cell 2
  have p3 : ((((w2.setCell ⟨w.heap.size, 0, none⟩ (.int .i64 (n : Int))).setCell ⟨w.heap.size, 1, none⟩ (.int .i64 0)).setCell ⟨w.heap.size, 2, none⟩ (.slice (some ⟨G, 0, none⟩) 4 4)).setCell ⟨w.heap.size, 3, none⟩ (.int .i64 ((Av.new n).pl : Int))).cell? ⟨w.heap.size, 3, none⟩ = some (.int .i64 ((Av.new n).pl : Int)) := hB.cell 3
  have hbb := ((((hb1.trans (hb.mono (by omega))).setCell (p := ⟨w.heap.size, 0, none⟩) (Nat.le_refl _) (.int .i64 (n : Int))).setCell (p := ⟨w.heap.size, 1, none⟩) (Nat.le_refl _) (.int .i64 0)).setCell (p := ⟨w.heap.size, 2, none⟩) (Nat.le_refl _) (.slice (some ⟨G, 0, none⟩) 4 4)).setCell (p := ⟨w.heap.size, 3, none⟩) (Nat.le_refl _) (.int .i64 ((Av.new n).pl : Int))
  have hRR : RefAt ((((w2.setCell ⟨w.heap.size, 0, none⟩ (.int .i64 (n : Int))).setCell ⟨w.heap.size, 1, none⟩ (.int .i64 0)).setCell ⟨w.heap.size, 2, none⟩ (.slice (some ⟨G, 0, none⟩) 4 4)).setCell ⟨w.heap.size, 3, none⟩ (.int .i64 ((Av.new n).pl : Int))) (fun b => b < w.heap.size + 1) G vs (Av.new n).rg := hR.stay fun b _ hn => by
    have hne : b ≠ w.heap.size := fun e => hn (by omega)
    exact (((Below.heap_setCell _ ⟨w.heap.size, 3, none⟩ _ b hne).trans (Below.heap_setCell _ ⟨w.heap.size, 2, none⟩ _ b hne)).trans (Below.heap_setCell _ ⟨w.heap.size, 1, none⟩ _ b hne)).trans (Below.heap_setCell w2 ⟨w.heap.size, 0, none⟩ _ b hne)
  have HP0 := Lib.hid p0
  have HP1 := Lib.hid p1
  have HP2 := Lib.hid p2
  have HP3 := Lib.hid p3
  have HBB := Lib.hid hbb
  have HRR := Lib.hid hRR
  clear p0 p1 p2 p3 hB hbb hRR hR hb hX hX2 hc2 hb1
  go_wp2_with fail
  have p0 := HP0.out
  have p1 := HP1.out
  have p2 := HP2.out
  have p3 := HP3.out
  have hbb := HBB.out
  have hRR := HRR.out
  clear HP0 HP1 HP2 HP3 HBB HRR
  generalize (((w2.setCell ⟨w.heap.size, 0, none⟩ (.int .i64 (n : Int))).setCell ⟨w.heap.size, 1, none⟩ (.int .i64 0)).setCell ⟨w.heap.size, 2, none⟩ (.slice (some ⟨G, 0, none⟩) 4 4)).setCell ⟨w.heap.size, 3, none⟩ (.int .i64 ((Av.new n).pl : Int)) = w9 at *
  (try simp only [Exit.inBlock, Exit.then])
  refine bodyPost_ret (v := .agg #[.int .i64 ((Av.new n).most : Int), .int .i64 ((Av.new n).tgt : Int), .slice (some ⟨G, 0, none⟩) 4 4, .int .i64 ((Av.new n).pl : Int)]) (by simp [results, Try.results34, go_sem, p0, p1, p2, p3, Av.new]) rfl ?_
  exact ⟨G, vs, rfl, hRR, hbb⟩
end
end Go.Proofs.Ytfhlnidjneaieaa.Arcy
