/- The document's own ARC: a key is inserted. The only condition: it is as chapter 7 has it. The document's own ARC: a key that went is inserted again. The only condition: it is as chapter 7 has it. -/
import Derived.Test.YtncgfnocokippaaGreatArcRefRep
import Derived.Deep.RegionHeld3
import Derived.Deep.CutRange
import Derived.Test.YtncgfnocokippaaGreatSq
namespace Go.Proofs.YtncgfnocokippaaGreat.Arcy
open Go.ChangeShapes Go.WideShapes Go.ChangeAt Go.RowKit Go.Shelf
open Wirey (Blk Row str str_size str_list Kp)
open Ringy Go.ChangeMaps Go.Maps

section
variable {w x y : World} {v v' v'' : Av} {G G' G'' : Nat} {vs vs' vs'' : Nat → Value} {k : Key}
theorem Av.Fine.fr {j : Nat} (h : v.Fine) (hj : j < 4) (hv : (v.fr j k).Ok) : (v.fr j k).Fine := ⟨hv, fun i hi => by
  show (if i = j then k :: strike k (v.rg.l i) else strike k (v.rg.l i)) = []
  rw [if_neg (by omega), h.out i hi]
  rfl⟩
theorem Av.Fine.dr (h : v.Fine) (k : Key) : (v.dr k).Fine := ⟨h.ok.dr k, fun i hi => by
  show strike k (v.rg.l i) = []
  rw [h.out i hi]
  rfl⟩
theorem Av.Fine.forget (h : v.Fine) (i : Nat) : (v.forget i).Fine := by
 unfold Av.forget
 split
 ·exact h
 ·exact h.dr _
theorem Av.Fine.repl (h : v.Fine) (b : Bool) : (v.repl b).Fine := by
 unfold Av.repl
 split
 ·exact h
 ·next k e =>
  have hs : v.src b < 2 := by rcases Av.src_cases v b with e | e <;> omega
  exact h.fr (by omega) (Av.move_went h.ok hs (Av.last_mem e)).ok
theorem Av.Fine.up (h : v.Fine) : v.up.Fine := ⟨h.ok.up, h.out⟩
theorem Av.Fine.down (h : v.Fine) : v.down.Fine := ⟨h.ok.down, h.out⟩
theorem Av.forget_num (v : Av) (i : Nat) : (v.forget i).most = v.most ∧ (v.forget i).tgt = v.tgt := by unfold Av.forget; split <;> exact ⟨rfl, rfl⟩
theorem Av.repl_num (v : Av) (b : Bool) : (v.repl b).most = v.most ∧ (v.repl b).tgt = v.tgt := by unfold Av.repl; split <;> exact ⟨rfl, rfl⟩
theorem wr_has (hok : v'.Ok) (h : Wr w G vs v' G' vs' x) :
  Calls Tryz.prog 36 #[.agg #[.int .i64 v'.most, .int .i64 v'.tgt, .slice (some ⟨G', 0, none⟩) 4 4, .int .i64 v'.pl], .string (str k)] x fun e y => e = .returned (.bool (v'.has k)) ∧ Wr w G vs v' G' vs' y := by
 refine (rhas_c hok x h.go.rf).mono ?_
 rintro e y ⟨rfl, hb⟩
 exact ⟨rfl, h.onto hb⟩
theorem wr_kept (hok : v'.Ok) (h : Wr w G vs v' G' vs' x) :
  Calls Tryz.prog 34 #[.agg #[.int .i64 v'.most, .int .i64 v'.tgt, .slice (some ⟨G', 0, none⟩) 4 4, .int .i64 v'.pl]] x fun e y => e = .returned (.int .i64 v'.kept) ∧ Wr w G vs v' G' vs' y := by
 refine (rkept_c hok x h.go.rf).mono ?_
 rintro e y ⟨rfl, hb⟩
 exact ⟨rfl, h.onto hb⟩
def InsP (w : World) (G : Nat) (vs : Nat → Value) (v' : Av) (L : List Key) (e : Ending) (w' : World) : Prop :=
 ∃ G' vs' val, e = .returned (.tuple #[.agg #[.int .i64 v'.most, .int .i64 v'.tgt, .slice (some ⟨G', 0, none⟩) 4 4, .int .i64 v'.pl], val]) ∧ Goes w G vs v' G' vs' w' ∧ w'.ownsRow w.heap.size 9 1 val L.length (strsV L)
set_option maxHeartbeats 2000000 in
set_option maxRecDepth 100000 in
theorem rins_long (hk : 64 < k.length) (hl : k.length ≤ maxLen) (hok : v.Ok) (w : World) (h : Dat w v G vs) :
  Calls Tryz.prog 61 #[.agg #[.int .i64 v.most, .int .i64 v.tgt, .slice (some ⟨G, 0, none⟩) 4 4, .int .i64 v.pl], .string (str k)] w (InsP w G vs v []) := by
 have hsz := str_size k
 unfold maxLen at hl
 have h2 := Wr.new hok h
 have d1 : (64 : Int) < (k.length : Int) := by omega
 go_enter Tryz.func61, Tryz.ntmps61
 go_upto_region 1 with (fail)
 generalize (w.alloc (.cells #[.int .i64 v.most, .int .i64 v.tgt, .slice (some ⟨G, 0, none⟩) 4 4, .int .i64 v.pl] 32)).alloc (.cells #[.int .i64 0, .int .i64 0, .slice none 0 0, .int .i64 0] 32) = w2 at *
 obtain ⟨x0, x1, x2, x3, -⟩ := h2.cells
 obtain ⟨z0, z1, z2, z3, z4, z5, z6, z7⟩ := h2.zero
 obtain ⟨hG, p0, p1, p2, p3⟩ := (show Goes w G vs v G vs (putA w w2 v.most v.tgt G v.pl) ∧ (putA w w2 v.most v.tgt G v.pl).cell? ⟨w.heap.size + 1, 0, none⟩ = some (.int .i64 v.most) ∧ (putA w w2 v.most v.tgt G v.pl).cell? ⟨w.heap.size + 1, 1, none⟩ = some (.int .i64 v.tgt) ∧ (putA w w2 v.most v.tgt G v.pl).cell? ⟨w.heap.size + 1, 2, none⟩ = some (.slice (some ⟨G, 0, none⟩) 4 4) ∧ (putA w w2 v.most v.tgt G v.pl).cell? ⟨w.heap.size + 1, 3, none⟩ = some (.int .i64 v.pl) from h2.done hok)
 unfold putA at hG p0 p1 p2 p3
 have HG := Lib.hid hG
 have HP0 := Lib.hid p0
 have HP1 := Lib.hid p1
 have HP2 := Lib.hid p2
 have HP3 := Lib.hid p3
 clear hG p0 p1 p2 p3
 go_wp2_with fail
 have p0 := HP0.out
 have p1 := HP1.out
 have p2 := HP2.out
 have p3 := HP3.out
 have hG := HG.out
 clear HP0 HP1 HP2 HP3 HG
 generalize ((((w2.setCell ⟨w.heap.size + 1, 0, none⟩ (.int .i64 v.most)).setCell ⟨w.heap.size + 1, 1, none⟩ (.int .i64 v.tgt)).setCell ⟨w.heap.size + 1, 2, none⟩ (.slice (some ⟨G, 0, none⟩) 4 4)).setCell ⟨w.heap.size + 1, 3, none⟩ (.int .i64 v.pl)) = w9 at *
 (try simp only [Exit.inBlock, Exit.then])
 refine bodyPost_ret (v := .tuple #[.agg #[.int .i64 v.most, .int .i64 v.tgt, .slice (some ⟨G, 0, none⟩) 4 4, .int .i64 v.pl], .slice none 0 0]) (by simp [results, Tryz.results61, go_sem, p0, p1, p2, p3]) rfl ?_
 exact ⟨G, vs, _, rfl, hG, World.ownsRow_nil _ _ _ _⟩
set_option maxHeartbeats 2000000 in
set_option maxRecDepth 100000 in
theorem rins_known (hk : k.length ≤ 64) (hh : v.has k = true) (hf : v.Fine) (hv : (v.fr 1 k).Ok) (w : World) (h : Dat w v G vs) :
  Calls Tryz.prog 61 #[.agg #[.int .i64 v.most, .int .i64 v.tgt, .slice (some ⟨G, 0, none⟩) 4 4, .int .i64 v.pl], .string (str k)] w (InsP w G vs (v.fr 1 k) []) := by
 have hsz := str_size k
 have hok := hf.ok
 have h2 := Wr.new hok h
 have d1 : ¬ (64 : Int) < (k.length : Int) := by omega
 have fh := fun W (h : Wr w G vs v G vs W) => wr_has (k := k) hok h
 rw [hh] at fh
 have hfc := fun W (h : Dat W v G vs) => rfront_a (a := 1) (j := 1) rfl (by omega) hk hf hv W h
 clear hh
 go_enter Tryz.func61, Tryz.ntmps61
 go_upto_region 1 with (fail)
 generalize (w.alloc (.cells #[.int .i64 v.most, .int .i64 v.tgt, .slice (some ⟨G, 0, none⟩) 4 4, .int .i64 v.pl] 32)).alloc (.cells #[.int .i64 0, .int .i64 0, .slice none 0 0, .int .i64 0] 32) = w2 at *
 obtain ⟨x0, x1, x2, x3, -⟩ := h2.cells
 go_wp2_with fail
 refine (fh _ h2).mono ?_
 rintro e w3 ⟨rfl, h3⟩
 clear x0 x1 x2 x3
 obtain ⟨x0, x1, x2, x3, -⟩ := h3.cells
 go_wp2_with fail
 refine (hfc _ h3.go.rf).mono ?_
 rintro e w4 ⟨G', vs', rfl, hg⟩
 have h4 := h3.onto hg.below
 have hR := h3.fin (v' := v.fr 1 k) hv hg
 clear x0 x1 x2 x3 h2 h3 hg fh hfc
 obtain ⟨z0, z1, z2, z3, z4, z5, z6, z7⟩ := h4.zero
 clear h4
 obtain ⟨hG, p0, p1, p2, p3⟩ := (show Goes w G vs (v.fr 1 k) G' vs' (putA w w4 v.most v.tgt G' v.pl) ∧ (putA w w4 v.most v.tgt G' v.pl).cell? ⟨w.heap.size + 1, 0, none⟩ = some (.int .i64 v.most) ∧ (putA w w4 v.most v.tgt G' v.pl).cell? ⟨w.heap.size + 1, 1, none⟩ = some (.int .i64 v.tgt) ∧ (putA w w4 v.most v.tgt G' v.pl).cell? ⟨w.heap.size + 1, 2, none⟩ = some (.slice (some ⟨G', 0, none⟩) 4 4) ∧ (putA w w4 v.most v.tgt G' v.pl).cell? ⟨w.heap.size + 1, 3, none⟩ = some (.int .i64 v.pl) from hR)
 unfold putA at hG p0 p1 p2 p3
 have HG := Lib.hid hG
 have HP0 := Lib.hid p0
 have HP1 := Lib.hid p1
 have HP2 := Lib.hid p2
 have HP3 := Lib.hid p3
 clear hG p0 p1 p2 p3
 go_wp2_with fail
 have p0 := HP0.out
 have p1 := HP1.out
 have p2 := HP2.out
 have p3 := HP3.out
 have hG := HG.out
 clear HP0 HP1 HP2 HP3 HG
 generalize ((((w4.setCell ⟨w.heap.size + 1, 0, none⟩ (.int .i64 v.most)).setCell ⟨w.heap.size + 1, 1, none⟩ (.int .i64 v.tgt)).setCell ⟨w.heap.size + 1, 2, none⟩ (.slice (some ⟨G', 0, none⟩) 4 4)).setCell ⟨w.heap.size + 1, 3, none⟩ (.int .i64 v.pl)) = w9 at *
 (try simp only [Exit.inBlock, Exit.then])
 refine bodyPost_ret (v := .tuple #[.agg #[.int .i64 v.most, .int .i64 v.tgt, .slice (some ⟨G', 0, none⟩) 4 4, .int .i64 v.pl], .slice none 0 0]) (by simp [results, Tryz.results61, go_sem, p0, p1, p2, p3]) rfl ?_
 exact ⟨G', vs', _, rfl, hG, World.ownsRow_nil _ _ _ _⟩
end
end Go.Proofs.YtncgfnocokippaaGreat.Arcy
namespace Go.Proofs.YtncgfnocokippaaGreat.Arcy
open Go.ChangeShapes Go.WideShapes Go.ChangeAt Go.RowKit Go.Shelf
open Wirey (Blk Row str str_size str_list Kp)
open Ringy Go.ChangeMaps Go.Maps

section
variable {w x y : World} {v v' v'' : Av} {G G' G'' : Nat} {vs vs' vs'' : Nat → Value} {k : Key}
structure Wo (w : World) (G : Nat) (vs : Nat → Value) (v' : Av) (G' : Nat) (vs' : Nat → Value) (out : Value) (L : List Key) (x : World) : Prop where
 wr : Wr w G vs v' G' vs' x
 row : x.ownsRow (w.heap.size + 2) 9 1 out L.length (strsV L)
theorem Wo.onto {out : Value} {L : List Key} (h : Wo w G vs v' G' vs' out L x) (hb : Below x.heap.size x y) : Wo w G vs v' G' vs' out L y := ⟨h.wr.onto hb, ownsRow_stay h.row fun b hb2 => hb.block b (h.row.lt b hb2).2⟩
theorem Wo.drewN {out : Value} {L : List Key} (h : Wo w G vs v' G' vs' out L x) (n : Nat) : Wo w G vs v' G' vs' out L (x.drewN n) := h.onto ⟨rfl, rfl, rfl, Nat.le_refl _, fun _ _ => rfl⟩
theorem Wo.all {out : Value} {L : List Key} (h : Wo w G vs v' G' vs' out L x) : x.cell? ⟨w.heap.size, 0, none⟩ = some (.int .i64 v'.most) ∧ x.cell? ⟨w.heap.size, 1, none⟩ = some (.int .i64 v'.tgt) ∧ x.cell? ⟨w.heap.size, 2, none⟩ = some (.slice (some ⟨G', 0, none⟩) 4 4) ∧ x.cell? ⟨w.heap.size, 3, none⟩ = some (.int .i64 v'.pl) ∧ Wo w G vs v' G' vs' out L x := ⟨h.wr.box.cell 0, h.wr.box.cell 1, h.wr.box.cell 2, h.wr.box.cell 3, h⟩
theorem row_box {B n : Nat} {val : Value} {xs : List Value} (h : x.ownsRow B 9 1 val n xs) (hB : w.heap.size + 2 ≤ B) (i : Nat) (u : Value) : (x.setCell ⟨w.heap.size, i, none⟩ u).ownsRow B 9 1 val n xs :=
 ownsRow_stay h fun b hb => Below.heap_setCell x ⟨w.heap.size, i, none⟩ u b (by have := (h.lt b hb).1; show b ≠ w.heap.size; omega)
theorem wo_of {out : Value} {L : List Key} {f : FuncId} {args : Array Value} {R : Ending} (hc : Dat x v' G' vs' → Calls Tryz.prog f args x fun e y => e = R ∧ Below x.heap.size x y) (h : Wo w G vs v' G' vs' out L x) : Calls Tryz.prog f args x fun e y => e = R ∧ Wo w G vs v' G' vs' out L y :=
 (hc h.wr.go.rf).mono fun _ _ ⟨a, b⟩ => ⟨a, h.onto b⟩
theorem Av.Fine.room (h : v.Fine) (b : Bool) : (v.room b).Fine := by
 unfold Av.room
 split
 ·exact h
 ·exact h.repl b
theorem rin7_c (hok : v.Ok) (x : World) (h : Dat x v G vs) :
  Calls Tryz.prog 65 #[.agg #[.slice (some ⟨G, 0, none⟩) 4 4, .int .i64 v.pl], .string (str k)] x fun e y => e = .returned (.tuple #[.int .i64 (((v.at_ k).getD 0 : Nat) : Int), .bool (v.at_ k).isSome]) ∧ Below x.heap.size x y := by
 have hc := rin_c k (by rw [hok.n]; decide) hok.lens x h
 rw [hok.val, (ix_eq hok k).1, (ix_eq hok k).2] at hc
 exact hc
theorem rlen_a {a : Int} {i : Nat} (ha : a = (i : Int)) (hi : i < 4) (hok : v.Ok) (w : World) (h : Dat w v G vs) :
  Calls Tryz.prog 63 #[.agg #[.int .i64 v.most, .int .i64 v.tgt, .slice (some ⟨G, 0, none⟩) 4 4, .int .i64 v.pl], .int .i64 a] w fun e w' => e = .returned (.int .i64 (v.len i : Int)) ∧ Below w.heap.size w w' := by
 subst ha
 exact rlen_c hi hok w h
theorem Wo.room {out val : Value} {L : List Key} {b : Bool} (h : Wo w G vs v G' vs' out L x) (hf : v.Fine) (hg : Goes x G' vs' (v.repl b) G'' vs'' y) {n : Nat} {xs : List Value} (hr : y.ownsRow x.heap.size 9 1 val n xs) :
  Wr w G vs (v.repl b) G'' vs'' ((((y.setCell ⟨w.heap.size, 0, none⟩ (.int .i64 v.most)).setCell ⟨w.heap.size, 1, none⟩ (.int .i64 v.tgt)).setCell ⟨w.heap.size, 2, none⟩ (.slice (some ⟨G'', 0, none⟩) 4 4)).setCell ⟨w.heap.size, 3, none⟩ (.int .i64 v.pl)) ∧
  ((((y.setCell ⟨w.heap.size, 0, none⟩ (.int .i64 v.most)).setCell ⟨w.heap.size, 1, none⟩ (.int .i64 v.tgt)).setCell ⟨w.heap.size, 2, none⟩ (.slice (some ⟨G'', 0, none⟩) 4 4)).setCell ⟨w.heap.size, 3, none⟩ (.int .i64 v.pl)).ownsRow (w.heap.size + 2) 9 1 val n xs := by
 have h1 := h.wr.take (v' := v.repl b) (hf.repl b).ok hg
 have hpl : (v.repl b).pl = v.pl := by unfold Av.pl; rw [(Av.repl_num v b).1]
 rw [(Av.repl_num v b).1, (Av.repl_num v b).2, hpl] at h1
 have hB : w.heap.size + 2 ≤ x.heap.size := h.wr.res.lt
 exact ⟨h1, Ringy.own_mono (row_box (row_box (row_box (row_box hr hB 0 _) hB 1 _) hB 2 _) hB 3 _) hB⟩
set_option maxHeartbeats 8000000 in
set_option maxRecDepth 100000 in
theorem rins_b2 (hk : k.length ≤ 64) (e : v.at_ k = some 2) (hf : v.Fine) (hv : ((v.up.room false).fr 1 k).Ok) (w : World) (h : Dat w v G vs) :
  Calls Tryz.prog 61 #[.agg #[.int .i64 v.most, .int .i64 v.tgt, .slice (some ⟨G, 0, none⟩) 4 4, .int .i64 v.pl], .string (str k)] w (InsP w G vs ((v.up.room false).fr 1 k) (v.up.roomK false)) := by
 have hsz := str_size k
 have hok := hf.ok
 have h2 := Wr.new hok h
 have d1 : ¬ (64 : Int) < (k.length : Int) := by omega
 have hh : v.has k = false := by rw [Av.at_has hok, e]; rfl
 have fh := fun W (h : Wr w G vs v G vs W) => wr_has (k := k) hok h
 have fi : ∀ W out L, Wo w G vs v G vs out L W → Calls Tryz.prog 65 #[.agg #[.slice (some ⟨G, 0, none⟩) 4 4, .int .i64 v.pl], .string (str k)] W fun e y => e = .returned (.tuple #[.int .i64 2, .bool true]) ∧ Wo w G vs v G vs out L y := fun W out L h => by have := wo_of (fun d => rin7_c (k := k) hok W d) h; rw [e] at this; exact this
 rw [hh] at fh
 obtain ⟨-, hmem⟩ := Av.at_some e
 have hpos : 0 < v.len 2 := List.length_pos_of_mem hmem
 have f2 := fun W out L (h : Wo w G vs v G vs out L W) => wo_of (fun d => rlen_a (a := 2) (i := 2) rfl (by omega) hok W d) h
 have f3 := fun W out L (h : Wo w G vs v G vs out L W) => wo_of (fun d => rlen_a (a := 3) (i := 3) rfl (by omega) hok W d) h
 have hl := hok.len_le (i := 3) (by omega)
 have ht := hok.t
 have hm2 := hok.m2
 have hfu := hf.up
 have hdl : v.len 3 / v.len 2 ≤ v.len 3 := Nat.div_le_self _ _
 have hd := div_nat (v.len 3) (v.len 2) hl
 have hup : v.up.tgt = min (v.tgt + max 1 (v.len 3 / v.len 2)) v.most := rfl
 have hT : ∀ W (t : Int) out L, t = (v.up.tgt : Int) → Wo w G vs v G vs out L W → Wo w G vs v.up G vs out L (W.setCell ⟨w.heap.size, 1, none⟩ (.int .i64 t)) := fun W t out L e h => by rw [e]; exact ⟨h.wr.turn hok hfu.ok.t, row_box h.row (Nat.le_refl _) 1 _⟩
 have hT2 : ∀ W (t : Int) u out L, t = (v.up.tgt : Int) → Wo w G vs v G vs out L W → Wo w G vs v.up G vs out L ((W.setCell ⟨w.heap.size, 1, none⟩ u).setCell ⟨w.heap.size, 1, none⟩ (.int .i64 t)) := fun W t u out L e h => by rw [e]; exact ⟨h.wr.turn2 hok hfu.ok.t u, row_box (row_box h.row (Nat.le_refl _) 1 _) (Nat.le_refl _) 1 _⟩
 generalize v.len 3 / v.len 2 = q at *
 have HT := Lib.hid hT
 have HT2 := Lib.hid hT2
 have HU := Lib.hid hup
 clear hmem e hT hT2 hup
 go_enter Tryz.func61, Tryz.ntmps61
 go_upto_region 1 with (fail)
 generalize (w.alloc (.cells #[.int .i64 v.most, .int .i64 v.tgt, .slice (some ⟨G, 0, none⟩) 4 4, .int .i64 v.pl] 32)).alloc (.cells #[.int .i64 0, .int .i64 0, .slice none 0 0, .int .i64 0] 32) = w2 at *
 obtain ⟨x0, x1, x2, x3, -⟩ := h2.cells
 go_wp2_with fail
 refine (fh _ h2).mono ?_
 rintro e w3 ⟨rfl, h3⟩
 have h4 : Wo w G vs v G vs (.slice (some ⟨w3.heap.size, 0, none⟩) 0 0) [] (w3.alloc (.cells #[] 9)) := ⟨h3.onto ((Below.refl _ w3).alloc (Nat.le_refl _) (.cells #[] 9)), World.ownsRow_lit (size := 1) (e := 9) w3 #[] 0 (by have := h3.res.lt; omega) (by unfold maxLen; omega) rfl⟩
 clear x0 x1 x2 x3 h2 h3 fh hh
 obtain ⟨x0, x1, x2, x3, -⟩ := h4.all
 go_upto_region 6 with (fail)
 generalize w3.alloc (.cells #[] 9) = w4 at *
 go_wp2_with fail
 refine (fi _ _ _ h4).mono ?_
 rintro e w5 ⟨rfl, h5⟩
 clear x0 x1 x2 x3 h4 fi
 go_upto_region 8 with (fail)
 have hda := (h5.drewN 1).all
 go_region_held3 (fun W => W.cell? ⟨w.heap.size, 0, none⟩ = some (.int .i64 v.most) ∧ W.cell? ⟨w.heap.size, 1, none⟩ = some (.int .i64 v.tgt) ∧ W.cell? ⟨w.heap.size, 2, none⟩ = some (.slice (some ⟨G, 0, none⟩) 4 4) ∧ W.cell? ⟨w.heap.size, 3, none⟩ = some (.int .i64 v.pl) ∧ Wo w G vs v G vs (.slice (some ⟨w3.heap.size, 0, none⟩) 0 0) [] W)
  (first | assumption | exact hda | exact Wo.all (by assumption))
  (first | (go_at_call 63; (with_reducible refine Calls.mono (f2 _ _ _ (by assumption : _ ∧ _ ∧ _ ∧ _ ∧ _).2.2.2.2) ?_); rintro e wv ⟨rfl, hwv⟩) | (go_at_call 63; (with_reducible refine Calls.mono (f3 _ _ _ (by assumption : _ ∧ _ ∧ _ ∧ _ ∧ _).2.2.2.2) ?_); rintro e wv ⟨rfl, hwv⟩) | fail)
 have h6 := (by assumption : _ ∧ _ ∧ _ ∧ _ ∧ Wo w G vs v G vs _ _ _).2.2.2.2
 clear hda f2 f3 h5
 have hne : (v.len 2 : Int) ≠ 0 := by omega
 go_upto_if 41 with (fail)
 go_cut [11, 12] from 42 (fun _ _ wx => Wo w G vs v.up G vs (.slice (some ⟨w3.heap.size, 0, none⟩) 0 0) [] wx)
 case first =>
  obtain ⟨x0, x1, x2, x3, -⟩ := h6.all
  have y1 := h6.wr.box.free 1
  by_cases c1 : q < 1
  ·have dq : decide ((q : Int) < 1) = true := decide_eq_true (by omega)
   have u1 : IntKind.i64.wrap ((v.tgt : Int) + 1) = (v.tgt : Int) + 1 := by rw [IntKind.wrap_i64]; omega
   by_cases c2 : (v.most : Int) < (v.tgt : Int) + 1
   ·have dm : decide ((v.most : Int) < (v.tgt : Int) + 1) = true := decide_eq_true c2
    go_wp2_with fail
    go_meet
    exact HT2.out _ _ _ _ _ (by have := HU.out; omega) h6
   ·have dm : decide ((v.most : Int) < (v.tgt : Int) + 1) = false := decide_eq_false c2
    go_wp2_with fail
    go_meet
    exact HT.out _ _ _ _ (by have := HU.out; omega) h6
  ·have dq : decide ((q : Int) < 1) = false := decide_eq_false (by omega)
   have u1 : IntKind.i64.wrap ((v.tgt : Int) + (q : Int)) = (v.tgt : Int) + (q : Int) := by rw [IntKind.wrap_i64]; omega
   by_cases c2 : (v.most : Int) < (v.tgt : Int) + (q : Int)
   ·have dm : decide ((v.most : Int) < (v.tgt : Int) + (q : Int)) = true := decide_eq_true c2
    go_wp2_with fail
    go_meet
    exact HT2.out _ _ _ _ _ (by have := HU.out; omega) h6
   ·have dm : decide ((v.most : Int) < (v.tgt : Int) + (q : Int)) = false := decide_eq_false c2
    go_wp2_with fail
    go_meet
    exact HT.out _ _ _ _ (by have := HU.out; omega) h6
 case rest =>
  have h7 := hcut
  clear hcut HT HT2 HU h6 hd hne
  generalize v.up = v1 at *
  have fk := fun W out L (h : Wo w G vs v1 G vs out L W) => wo_of (fun d => rkept_c hfu.ok W d) h
  obtain ⟨x0, x1, x2, x3, -⟩ := h7.all
  go_upto_region 22 with (fail)
  have hda := (h7.drewN 1).all
  go_region_held3 (fun W => W.cell? ⟨w.heap.size, 0, none⟩ = some (.int .i64 v1.most) ∧ W.cell? ⟨w.heap.size, 1, none⟩ = some (.int .i64 v1.tgt) ∧ W.cell? ⟨w.heap.size, 2, none⟩ = some (.slice (some ⟨G, 0, none⟩) 4 4) ∧ W.cell? ⟨w.heap.size, 3, none⟩ = some (.int .i64 v1.pl) ∧ Wo w G vs v1 G vs (.slice (some ⟨w3.heap.size, 0, none⟩) 0 0) [] W)
   (first | assumption | exact hda | exact Wo.all (by assumption))
   (first | (go_at_call 34; (with_reducible refine Calls.mono (fk _ _ _ (by assumption : _ ∧ _ ∧ _ ∧ _ ∧ _).2.2.2.2) ?_); rintro e wv ⟨rfl, hwv⟩) | fail)
  have h8 := (by assumption : _ ∧ _ ∧ _ ∧ _ ∧ Wo w G vs v1 G vs _ _ _).2.2.2.2
  clear hda fk h7 x0 x1 x2 x3
  go_upto_if 78 with (fail)
  go_cut [6] from 78 (fun out wx => ∃ G1 vs1, Wo w G vs (v1.room false) G1 vs1 out (v1.roomK false) wx)
  case first =>
   obtain ⟨x0, x1, x2, x3, -⟩ := h8.all
   by_cases hr : v1.kept < v1.most
   ·have d5 : decide ((v1.most : Int) ≤ (v1.kept : Int)) = false := decide_eq_false (by omega)
    have e1 : v1.room false = v1 := if_pos hr
    have e2 : v1.roomK false = [] := if_pos hr
    have HE1 := Lib.hid e1
    have HE2 := Lib.hid e2
    clear e1 e2
    go_wp2_with fail
    go_meet
    exact ⟨G, vs, by rw [HE1.out, HE2.out]; exact h8⟩
   ·have d5 : decide ((v1.most : Int) ≤ (v1.kept : Int)) = true := decide_eq_true (by omega)
    have HE1 := Lib.hid (show v1.room false = v1.repl false from if_neg hr)
    have HE2 := Lib.hid (show v1.roomK false = (v1.last (v1.src false)).toList from if_neg hr)
    have fr := fun W (h : Dat W v1 G vs) => rreplace_c false hfu W h
    go_wp2_with fail
    refine (fr _ h8.wr.go.rf).mono ?_
    rintro e w8 ⟨G1, vs1, val, rfl, hg, hrow⟩
    have hR := Lib.hid (h8.room hfu hg hrow)
    have h9 := h8.onto hg.below
    clear x0 x1 x2 x3 hrow hg fr
    obtain ⟨x0, x1, x2, x3, y0, y1, y2, y3⟩ := h9.wr.cells
    clear h8 h9
    go_wp2_with fail
    go_meet
    exact ⟨G1, vs1, by rw [HE1.out]; exact hR.out.1, by rw [HE2.out]; exact hR.out.2⟩
  case rest =>
   obtain ⟨G1, vs1, h9⟩ := hcut
   have hf2 := hfu.room false
   clear h8
   generalize v1.room false = v2 at *
   generalize v1.roomK false = LK at *
   have fc := fun W (h : Dat W v2 G1 vs1) => rfront_a (a := 1) (j := 1) rfl (by omega) hk hf2 hv W h
   obtain ⟨x0, x1, x2, x3, -⟩ := h9.all
   go_wp2_with fail
   refine (fc _ h9.wr.go.rf).mono ?_
   rintro e w9 ⟨G', vs', rfl, hg⟩
   have h10 := h9.onto hg.below
   have hR := h9.wr.fin (v' := v2.fr 1 k) hv hg
   have hrow := row_put (w := w) (m := v2.most) (t := v2.tgt) (G := G') (p := v2.pl) h10.row (Nat.le_refl _)
   unfold putA at hrow
   have HROW := Lib.hid hrow
   clear x0 x1 x2 x3 hrow hg fc h9
   obtain ⟨z0, z1, z2, z3, z4, z5, z6, z7⟩ := h10.wr.zero
   clear h10
   obtain ⟨hG, p0, p1, p2, p3⟩ := (show Goes w G vs (v2.fr 1 k) G' vs' (putA w w9 v2.most v2.tgt G' v2.pl) ∧ (putA w w9 v2.most v2.tgt G' v2.pl).cell? ⟨w.heap.size + 1, 0, none⟩ = some (.int .i64 v2.most) ∧ (putA w w9 v2.most v2.tgt G' v2.pl).cell? ⟨w.heap.size + 1, 1, none⟩ = some (.int .i64 v2.tgt) ∧ (putA w w9 v2.most v2.tgt G' v2.pl).cell? ⟨w.heap.size + 1, 2, none⟩ = some (.slice (some ⟨G', 0, none⟩) 4 4) ∧ (putA w w9 v2.most v2.tgt G' v2.pl).cell? ⟨w.heap.size + 1, 3, none⟩ = some (.int .i64 v2.pl) from hR)
   unfold putA at hG p0 p1 p2 p3
   have HG := Lib.hid hG
   have HP0 := Lib.hid p0
   have HP1 := Lib.hid p1
   have HP2 := Lib.hid p2
   have HP3 := Lib.hid p3
   clear hG p0 p1 p2 p3
   go_wp2_with fail
   have p0 := HP0.out
   have p1 := HP1.out
   have p2 := HP2.out
   have p3 := HP3.out
   have hG := HG.out
   clear HP0 HP1 HP2 HP3 HG
   generalize ((((w9.setCell ⟨w.heap.size + 1, 0, none⟩ (.int .i64 v2.most)).setCell ⟨w.heap.size + 1, 1, none⟩ (.int .i64 v2.tgt)).setCell ⟨w.heap.size + 1, 2, none⟩ (.slice (some ⟨G', 0, none⟩) 4 4)).setCell ⟨w.heap.size + 1, 3, none⟩ (.int .i64 v2.pl)) = w9 at *
   (try simp only [Exit.inBlock, Exit.then])
   refine bodyPost_ret (v := .tuple #[.agg #[.int .i64 v2.most, .int .i64 v2.tgt, .slice (some ⟨G', 0, none⟩) 4 4, .int .i64 v2.pl], u6]) (by simp [results, Tryz.results61, go_sem, p0, p1, p2, p3]) rfl ?_
   exact ⟨G', vs', _, rfl, hG, Ringy.own_mono HROW.out (by omega)⟩
set_option maxHeartbeats 8000000 in
set_option maxRecDepth 100000 in
theorem rins_b3 (hk : k.length ≤ 64) (e : v.at_ k = some 3) (hf : v.Fine) (hv : ((v.down.room true).fr 1 k).Ok) (w : World) (h : Dat w v G vs) :
  Calls Tryz.prog 61 #[.agg #[.int .i64 v.most, .int .i64 v.tgt, .slice (some ⟨G, 0, none⟩) 4 4, .int .i64 v.pl], .string (str k)] w (InsP w G vs ((v.down.room true).fr 1 k) (v.down.roomK true)) := by
 have hsz := str_size k
 have hok := hf.ok
 have h2 := Wr.new hok h
 have d1 : ¬ (64 : Int) < (k.length : Int) := by omega
 have hh : v.has k = false := by rw [Av.at_has hok, e]; rfl
 have fh := fun W (h : Wr w G vs v G vs W) => wr_has (k := k) hok h
 have fi : ∀ W out L, Wo w G vs v G vs out L W → Calls Tryz.prog 65 #[.agg #[.slice (some ⟨G, 0, none⟩) 4 4, .int .i64 v.pl], .string (str k)] W fun e y => e = .returned (.tuple #[.int .i64 3, .bool true]) ∧ Wo w G vs v G vs out L y := fun W out L h => by have := wo_of (fun d => rin7_c (k := k) hok W d) h; rw [e] at this; exact this
 rw [hh] at fh
 obtain ⟨-, hmem⟩ := Av.at_some e
 have hpos : 0 < v.len 3 := List.length_pos_of_mem hmem
 have f2 := fun W out L (h : Wo w G vs v G vs out L W) => wo_of (fun d => rlen_a (a := 2) (i := 2) rfl (by omega) hok W d) h
 have f3 := fun W out L (h : Wo w G vs v G vs out L W) => wo_of (fun d => rlen_a (a := 3) (i := 3) rfl (by omega) hok W d) h
 have hl := hok.len_le (i := 2) (by omega)
 have ht := hok.t
 have hm2 := hok.m2
 have hfu := hf.down
 have hdl : v.len 2 / v.len 3 ≤ v.len 2 := Nat.div_le_self _ _
 have hd := div_nat (v.len 2) (v.len 3) hl
 have hup : v.down.tgt = v.tgt - max 1 (v.len 2 / v.len 3) := rfl
 have hT : ∀ W (t : Int) out L, t = (v.down.tgt : Int) → Wo w G vs v G vs out L W → Wo w G vs v.down G vs out L (W.setCell ⟨w.heap.size, 1, none⟩ (.int .i64 t)) := fun W t out L e h => by rw [e]; exact ⟨h.wr.turn hok hfu.ok.t, row_box h.row (Nat.le_refl _) 1 _⟩
 have hT2 : ∀ W (t : Int) u out L, t = (v.down.tgt : Int) → Wo w G vs v G vs out L W → Wo w G vs v.down G vs out L ((W.setCell ⟨w.heap.size, 1, none⟩ u).setCell ⟨w.heap.size, 1, none⟩ (.int .i64 t)) := fun W t u out L e h => by rw [e]; exact ⟨h.wr.turn2 hok hfu.ok.t u, row_box (row_box h.row (Nat.le_refl _) 1 _) (Nat.le_refl _) 1 _⟩
 generalize v.len 2 / v.len 3 = q at *
 have HT := Lib.hid hT
 have HT2 := Lib.hid hT2
 have HU := Lib.hid hup
 clear hmem e hT hT2 hup
 go_enter Tryz.func61, Tryz.ntmps61
 go_upto_region 1 with (fail)
 generalize (w.alloc (.cells #[.int .i64 v.most, .int .i64 v.tgt, .slice (some ⟨G, 0, none⟩) 4 4, .int .i64 v.pl] 32)).alloc (.cells #[.int .i64 0, .int .i64 0, .slice none 0 0, .int .i64 0] 32) = w2 at *
 obtain ⟨x0, x1, x2, x3, -⟩ := h2.cells
 go_wp2_with fail
 refine (fh _ h2).mono ?_
 rintro e w3 ⟨rfl, h3⟩
 have h4 : Wo w G vs v G vs (.slice (some ⟨w3.heap.size, 0, none⟩) 0 0) [] (w3.alloc (.cells #[] 9)) := ⟨h3.onto ((Below.refl _ w3).alloc (Nat.le_refl _) (.cells #[] 9)), World.ownsRow_lit (size := 1) (e := 9) w3 #[] 0 (by have := h3.res.lt; omega) (by unfold maxLen; omega) rfl⟩
 clear x0 x1 x2 x3 h2 h3 fh hh
 obtain ⟨x0, x1, x2, x3, -⟩ := h4.all
 go_upto_region 6 with (fail)
 generalize w3.alloc (.cells #[] 9) = w4 at *
 go_wp2_with fail
 refine (fi _ _ _ h4).mono ?_
 rintro e w5 ⟨rfl, h5⟩
 clear x0 x1 x2 x3 h4 fi
 go_upto_region 8 with (fail)
 have hda := (h5.drewN 1).all
 go_region_held3 (fun W => W.cell? ⟨w.heap.size, 0, none⟩ = some (.int .i64 v.most) ∧ W.cell? ⟨w.heap.size, 1, none⟩ = some (.int .i64 v.tgt) ∧ W.cell? ⟨w.heap.size, 2, none⟩ = some (.slice (some ⟨G, 0, none⟩) 4 4) ∧ W.cell? ⟨w.heap.size, 3, none⟩ = some (.int .i64 v.pl) ∧ Wo w G vs v G vs (.slice (some ⟨w3.heap.size, 0, none⟩) 0 0) [] W)
  (first | assumption | exact hda | exact Wo.all (by assumption))
  (first | (go_at_call 63; (with_reducible refine Calls.mono (f2 _ _ _ (by assumption : _ ∧ _ ∧ _ ∧ _ ∧ _).2.2.2.2) ?_); rintro e wv ⟨rfl, hwv⟩) | (go_at_call 63; (with_reducible refine Calls.mono (f3 _ _ _ (by assumption : _ ∧ _ ∧ _ ∧ _ ∧ _).2.2.2.2) ?_); rintro e wv ⟨rfl, hwv⟩) | fail)
 have h6 := (by assumption : _ ∧ _ ∧ _ ∧ _ ∧ Wo w G vs v G vs _ _ _).2.2.2.2
 clear hda f2 f3 h5
 have hne : (v.len 3 : Int) ≠ 0 := by omega
 go_upto_if 41 with (fail)
 go_cut [11, 12] from 42 (fun _ _ wx => Wo w G vs v.down G vs (.slice (some ⟨w3.heap.size, 0, none⟩) 0 0) [] wx)
 case first =>
  obtain ⟨x0, x1, x2, x3, -⟩ := h6.all
  have y1 := h6.wr.box.free 1
  by_cases c1 : q < 1
  ·have dq : decide ((q : Int) < 1) = true := decide_eq_true (by omega)
   have u1 : IntKind.i64.wrap ((v.tgt : Int) - 1) = (v.tgt : Int) - 1 := by rw [IntKind.wrap_i64]; omega
   by_cases c2 : (v.tgt : Int) - 1 < 0
   ·have dm : decide ((v.tgt : Int) - 1 < 0) = true := decide_eq_true c2
    go_wp2_with fail
    go_meet
    exact HT2.out _ _ _ _ _ (by have := HU.out; omega) h6
   ·have dm : decide ((v.tgt : Int) - 1 < 0) = false := decide_eq_false c2
    go_wp2_with fail
    go_meet
    exact HT.out _ _ _ _ (by have := HU.out; omega) h6
  ·have dq : decide ((q : Int) < 1) = false := decide_eq_false (by omega)
   have u1 : IntKind.i64.wrap ((v.tgt : Int) - (q : Int)) = (v.tgt : Int) - (q : Int) := by rw [IntKind.wrap_i64]; omega
   by_cases c2 : (v.tgt : Int) - (q : Int) < 0
   ·have dm : decide ((v.tgt : Int) - (q : Int) < 0) = true := decide_eq_true c2
    go_wp2_with fail
    go_meet
    exact HT2.out _ _ _ _ _ (by have := HU.out; omega) h6
   ·have dm : decide ((v.tgt : Int) - (q : Int) < 0) = false := decide_eq_false c2
    go_wp2_with fail
    go_meet
    exact HT.out _ _ _ _ (by have := HU.out; omega) h6
 case rest =>
  have h7 := hcut
  clear hcut HT HT2 HU h6 hd hne
  generalize v.down = v1 at *
  have fk := fun W out L (h : Wo w G vs v1 G vs out L W) => wo_of (fun d => rkept_c hfu.ok W d) h
  obtain ⟨x0, x1, x2, x3, -⟩ := h7.all
  go_upto_region 22 with (fail)
  have hda := (h7.drewN 1).all
  go_region_held3 (fun W => W.cell? ⟨w.heap.size, 0, none⟩ = some (.int .i64 v1.most) ∧ W.cell? ⟨w.heap.size, 1, none⟩ = some (.int .i64 v1.tgt) ∧ W.cell? ⟨w.heap.size, 2, none⟩ = some (.slice (some ⟨G, 0, none⟩) 4 4) ∧ W.cell? ⟨w.heap.size, 3, none⟩ = some (.int .i64 v1.pl) ∧ Wo w G vs v1 G vs (.slice (some ⟨w3.heap.size, 0, none⟩) 0 0) [] W)
   (first | assumption | exact hda | exact Wo.all (by assumption))
   (first | (go_at_call 34; (with_reducible refine Calls.mono (fk _ _ _ (by assumption : _ ∧ _ ∧ _ ∧ _ ∧ _).2.2.2.2) ?_); rintro e wv ⟨rfl, hwv⟩) | fail)
  have h8 := (by assumption : _ ∧ _ ∧ _ ∧ _ ∧ Wo w G vs v1 G vs _ _ _).2.2.2.2
  clear hda fk h7 x0 x1 x2 x3
  go_upto_if 78 with (fail)
  go_cut [6] from 78 (fun out wx => ∃ G1 vs1, Wo w G vs (v1.room true) G1 vs1 out (v1.roomK true) wx)
  case first =>
   obtain ⟨x0, x1, x2, x3, -⟩ := h8.all
   by_cases hr : v1.kept < v1.most
   ·have d5 : decide ((v1.most : Int) ≤ (v1.kept : Int)) = false := decide_eq_false (by omega)
    have e1 : v1.room true = v1 := if_pos hr
    have e2 : v1.roomK true = [] := if_pos hr
    have HE1 := Lib.hid e1
    have HE2 := Lib.hid e2
    clear e1 e2
    go_wp2_with fail
    go_meet
    exact ⟨G, vs, by rw [HE1.out, HE2.out]; exact h8⟩
   ·have d5 : decide ((v1.most : Int) ≤ (v1.kept : Int)) = true := decide_eq_true (by omega)
    have HE1 := Lib.hid (show v1.room true = v1.repl true from if_neg hr)
    have HE2 := Lib.hid (show v1.roomK true = (v1.last (v1.src true)).toList from if_neg hr)
    have fr := fun W (h : Dat W v1 G vs) => rreplace_c true hfu W h
    go_wp2_with fail
    refine (fr _ h8.wr.go.rf).mono ?_
    rintro e w8 ⟨G1, vs1, val, rfl, hg, hrow⟩
    have hR := Lib.hid (h8.room hfu hg hrow)
    have h9 := h8.onto hg.below
    clear x0 x1 x2 x3 hrow hg fr
    obtain ⟨x0, x1, x2, x3, y0, y1, y2, y3⟩ := h9.wr.cells
    clear h8 h9
    go_wp2_with fail
    go_meet
    exact ⟨G1, vs1, by rw [HE1.out]; exact hR.out.1, by rw [HE2.out]; exact hR.out.2⟩
  case rest =>
   obtain ⟨G1, vs1, h9⟩ := hcut
   have hf2 := hfu.room true
   clear h8
   generalize v1.room true = v2 at *
   generalize v1.roomK true = LK at *
   have fc := fun W (h : Dat W v2 G1 vs1) => rfront_a (a := 1) (j := 1) rfl (by omega) hk hf2 hv W h
   obtain ⟨x0, x1, x2, x3, -⟩ := h9.all
   go_wp2_with fail
   refine (fc _ h9.wr.go.rf).mono ?_
   rintro e w9 ⟨G', vs', rfl, hg⟩
   have h10 := h9.onto hg.below
   have hR := h9.wr.fin (v' := v2.fr 1 k) hv hg
   have hrow := row_put (w := w) (m := v2.most) (t := v2.tgt) (G := G') (p := v2.pl) h10.row (Nat.le_refl _)
   unfold putA at hrow
   have HROW := Lib.hid hrow
   clear x0 x1 x2 x3 hrow hg fc h9
   obtain ⟨z0, z1, z2, z3, z4, z5, z6, z7⟩ := h10.wr.zero
   clear h10
   obtain ⟨hG, p0, p1, p2, p3⟩ := (show Goes w G vs (v2.fr 1 k) G' vs' (putA w w9 v2.most v2.tgt G' v2.pl) ∧ (putA w w9 v2.most v2.tgt G' v2.pl).cell? ⟨w.heap.size + 1, 0, none⟩ = some (.int .i64 v2.most) ∧ (putA w w9 v2.most v2.tgt G' v2.pl).cell? ⟨w.heap.size + 1, 1, none⟩ = some (.int .i64 v2.tgt) ∧ (putA w w9 v2.most v2.tgt G' v2.pl).cell? ⟨w.heap.size + 1, 2, none⟩ = some (.slice (some ⟨G', 0, none⟩) 4 4) ∧ (putA w w9 v2.most v2.tgt G' v2.pl).cell? ⟨w.heap.size + 1, 3, none⟩ = some (.int .i64 v2.pl) from hR)
   unfold putA at hG p0 p1 p2 p3
   have HG := Lib.hid hG
   have HP0 := Lib.hid p0
   have HP1 := Lib.hid p1
   have HP2 := Lib.hid p2
   have HP3 := Lib.hid p3
   clear hG p0 p1 p2 p3
   go_wp2_with fail
   have p0 := HP0.out
   have p1 := HP1.out
   have p2 := HP2.out
   have p3 := HP3.out
   have hG := HG.out
   clear HP0 HP1 HP2 HP3 HG
   generalize ((((w9.setCell ⟨w.heap.size + 1, 0, none⟩ (.int .i64 v2.most)).setCell ⟨w.heap.size + 1, 1, none⟩ (.int .i64 v2.tgt)).setCell ⟨w.heap.size + 1, 2, none⟩ (.slice (some ⟨G', 0, none⟩) 4 4)).setCell ⟨w.heap.size + 1, 3, none⟩ (.int .i64 v2.pl)) = w9 at *
   (try simp only [Exit.inBlock, Exit.then])
   refine bodyPost_ret (v := .tuple #[.agg #[.int .i64 v2.most, .int .i64 v2.tgt, .slice (some ⟨G', 0, none⟩) 4 4, .int .i64 v2.pl], u6]) (by simp [results, Tryz.results61, go_sem, p0, p1, p2, p3]) rfl ?_
   exact ⟨G', vs', _, rfl, hG, Ringy.own_mono HROW.out (by omega)⟩
end
end Go.Proofs.YtncgfnocokippaaGreat.Arcy
