/- A cache to which acts came, one by one: what holds of it. The only condition: the acts are as they may be handed in. The laws' own 'played': a cache to which acts came. The only condition: the acts are as they may be handed in. -/
import Derived.Test.YtkiabladmgagdabGreatDoorStoreRec
import Derived.Test.YtkiabladmgagdabGreatDoorSq
namespace Go.Proofs.YtkiabladmgagdabGreatDoor.Storey
open Go.ChangeShapes Go.WideShapes Go.ChangeAt Go.RowKit
open Wirey (Blk Row str str_size str_list str_cat Kp)
open Taby (En TabAt Tbl tp find ins drop size ended St)
open Policyy (Pv HeldP StepP Tell)
open Ringy (Key)
open Regy

section
variable {w0 w w' w'' : World} {B b T M C S : Nat} {H H' : Nat → Prop} {s t : Sv} {k : Key} {v : Value} {l : List Key} {o : Opn} {x : Rcd}
theorem At.from_ {w0 w1 w : World} {b T M C S : Nat} {H : Nat → Prop} {s : Sv} (h : At w1 w b T M C S H s) (hb : Below w0.heap.size w0 w1) : At w0 w b T M C S H s :=
 have hs := hb.size
 ⟨h.box, h.tab, h.pol.low hb, h.ses, Nat.le_trans hs h.lb, Nat.le_trans hs h.lT, Nat.le_trans hs h.lM, Nat.le_trans hs h.lS, h.bT, h.bM, h.bS, h.ST, h.SM, h.Hb, h.HT, h.HM, h.HS⟩
structure Sv.Turn (s t : Sv) (x : Rcd) : Prop where
 seq : t.seq ≤ s.seq + 1
 now : s.now ≤ t.now ∧ t.now ≤ max s.now x.now
 ss : ∀ y ∈ t.ss, y ∈ s.ss ∨ (y.id = x.ses ∧ y.num = x.num)
 cfg : t.kind = s.kind ∧ t.n = s.n ∧ t.bytes = s.bytes ∧ t.seed = s.seed
theorem Sv.Turn.refl (s : Sv) (x : Rcd) : s.Turn s x := ⟨by omega, by omega, fun _ h => .inl h, rfl, rfl, rfl, rfl⟩
theorem noted_ss (hO : s.Ok) (hc : x.op.chk = true) (h5 : x.op.kind ≠ 5) : ∀ y ∈ (s.noted x).1.ss, y ∈ s.ss ∨ (y.id = x.ses ∧ y.num = x.num) := fun y hy => by
 have ha := hO.act hc h5
 have hy' : y ∈ lay ⟨x.ses, x.num, (s.act x.op).2⟩ (s.act x.op).1.ss := hy
 rcases mem_lay hy' with rfl | hy'
 ·exact .inr ⟨rfl, rfl⟩
 ·rw [ha.ss] at hy'; exact .inl hy'
theorem once_ss (hO : s.Ok) (hc : x.op.chk = true) (h5 : x.op.kind ≠ 5) : ∀ y ∈ (s.once x).1.ss, y ∈ s.ss ∨ (y.id = x.ses ∧ y.num = x.num) := by
 unfold Sv.once
 cases e : seek x.ses s.ss with
 | none =>
  show ∀ y ∈ (if 64 ≤ s.ss.length then (s, Rep.of 3) else s.noted x).1.ss, _
  split
  ·exact fun _ h => .inl h
  ·exact noted_ss hO hc h5
 | some z =>
  show ∀ y ∈ (if x.num = z.num then (s, z.rep) else if x.num < z.num then (s, Rep.of 122) else s.noted x).1.ss, _
  split
  ·exact fun _ h => .inl h
  ·split
   ·exact fun _ h => .inl h
   ·exact noted_ss hO hc h5
theorem Sv.Ok.turn (hO : s.Ok) (hx : x.Ok) : s.Turn (s.apply x).1 x := by
 unfold Sv.apply
 split
 ·exact .refl s x
 ·rename_i hc
  have hc' : x.op.chk = true := by simpa using hc
  split
  ·exact .refl s x
  ·rename_i hq
   have hd := hO.done hx hc'
   refine ⟨?_, ?_, ?_, hd.2.2.2.2⟩
   ·show (s.done x).1.seq ≤ _; rw [hd.2.2.2.1]; omega
   ·show s.now ≤ (s.done x).1.now ∧ (s.done x).1.now ≤ _; rw [hd.2.2.1]; omega
   ·show ∀ y ∈ (s.done x).1.ss, _
    obtain ⟨h1, -, h3⟩ := (hO.place hx.seq).move hx.now
    have hss : ((s.place x.seq).moveTo x.now).ss = s.ss := h3.f.2.2.2.2.2.2.2.2.2
    unfold Sv.done
    split
    ·intro y hy
     have hy' : y ∈ ((s.place x.seq).moveTo x.now).ss := hy
     rw [hss] at hy'
     exact .inl hy'
    ·intro y hy
     have := once_ss h1 hc' (by assumption) y hy
     rwa [hss] at this
def pl (X : Nat → Ac) (s0 : Sv) : Nat → Sv × Nat
 | 0 => (s0, 0)
 | i + 1 => (((pl X s0 i).1.apply (recOf (pl X s0 i).1.seq (pl X s0 i).2 (X i))).1, nextOf (pl X s0 i).2 (X i))
structure Pld (s0 s : Sv) (now i : Nat) : Prop where
 ok : s.Ok
 seq : s.seq ≤ i
 at_ : now ≤ 100 * i
 tick : s.now ≤ now
 ss : ∀ y ∈ s.ss, y.id < 8 ∧ y.num < 32
 cfg : s.kind = s0.kind ∧ s.n = s0.n ∧ s.bytes = s0.bytes ∧ s.seed = s0.seed
theorem Pld.next {s0 s : Sv} {now i : Nat} {a : Ac} (h : Pld s0 s now i) (hi : i < 1000) (ha : a.Big) : Pld s0 (s.apply (recOf s.seq now a)).1 (nextOf now a) (i + 1) := by
 have h1 := h.seq
 have h2 := h.at_
 have hx : (recOf s.seq now a).Ok := recOf_ok (by omega) (by omega) ha
 have ht := h.ok.turn hx
 have hn := nextOf_le now a
 have h3 := h.tick
 have h4 : (recOf s.seq now a).now = nextOf now a := rfl
 refine ⟨(h.ok.apply hx).1, by have := ht.seq; omega, by omega, by have := ht.now; rw [h4] at this; omega, fun y hy => ?_, ht.cfg.1.trans h.cfg.1, ht.cfg.2.1.trans h.cfg.2.1, ht.cfg.2.2.1.trans h.cfg.2.2.1, ht.cfg.2.2.2.trans h.cfg.2.2.2⟩
 rcases ht.ss y hy with hy | ⟨e1, e2⟩
 ·exact h.ss y hy
 ·rw [e1, e2]; exact ⟨and7_lt _, and31_lt _⟩
structure Fresh (s0 : Sv) : Prop where
 ok : s0.Ok
 seq : s0.seq = 0
 now : s0.now = 0
 ss : s0.ss = []
theorem Fresh.start {s0 : Sv} (h : Fresh s0) : Pld s0 s0 0 0 := ⟨h.ok, by rw [h.seq]; omega, by omega, by rw [h.now]; omega, fun y hy => (by rw [h.ss] at hy; exact nomatch hy), rfl, rfl, rfl, rfl⟩
theorem pl_inv {X : Nat → Ac} {s0 : Sv} {n : Nat} (h0 : Fresh s0) (hX : ∀ i, i < n → (X i).Big) (hn : n ≤ 1000) : ∀ i, i ≤ n → Pld s0 (pl X s0 i).1 (pl X s0 i).2 i
 | 0, _ => h0.start
 | i + 1, hi => (pl_inv h0 hX hn i (by omega)).next (by omega) (hX i (by omega))
def and1 (z : Int) : Nat := (z % ((2 ^ 64 : Nat) : Int)).toNat % 2 ^ 1
def and15 (z : Int) : Nat := (z % ((2 ^ 64 : Nat) : Int)).toNat % 2 ^ 4
def and1023 (z : Int) : Nat := (z % ((2 ^ 64 : Nat) : Int)).toNat % 2 ^ 10
theorem and1_lt (z : Int) : and1 z < 2 := Nat.mod_lt _ (by decide)
theorem and15_lt (z : Int) : and15 z < 16 := Nat.mod_lt _ (by decide)
theorem and1023_lt (z : Int) : and1023 z < 1024 := Nat.mod_lt _ (by decide)
def cfgS (p n b : Int) (seed : Nat) : Sv := Sv.new (1 + and1 p) (1 + and15 n) (1 + and1023 b) seed
theorem cfg_fresh (p n b : Int) {seed : Nat} (hs : seed < 18446744073709551616) : Fresh (cfgS p n b seed) := by
 have h1 := and1_lt p
 have h2 := and15_lt n
 have h3 := and1023_lt b
 exact ⟨Sv.new_ok (by omega) (by omega) (by omega) (by omega) (by omega) hs, rfl, rfl, rfl⟩
set_option maxHeartbeats 4000000 in
set_option maxRecDepth 100000 in
theorem config_c (p n b : Int) (seed : Int) (w : World) : Calls Tryz.prog 14 #[.agg #[.int .i64 p, .int .i64 n, .int .i64 b, .int .u64 seed]] w fun e w' => e = .returned (.agg #[.int .i64 ((1 + and1 p : Nat) : Int), .int .i64 ((1 + and15 n : Nat) : Int), .int .i64 ((1 + and1023 b : Nat) : Int), .int .u64 seed]) ∧ Below w.heap.size w w' := by
 have b1 : bits .and .i64 p 1 = (and1 p : Int) := Bity.i64_and p 1 1 rfl (by omega)
 have b2 : bits .and .i64 n 15 = (and15 n : Int) := Bity.i64_and n 15 4 rfl (by omega)
 have b3 : bits .and .i64 b 1023 = (and1023 b : Int) := Bity.i64_and b 1023 10 rfl (by omega)
 have h1 := and1_lt p
 have h2 := and15_lt n
 have h3 := and1023_lt b
 generalize and1 p = q1 at *
 generalize and15 n = q2 at *
 generalize and1023 b = q3 at *
 have e1 : (w.alloc (.cells #[.int .i64 p, .int .i64 n, .int .i64 b, .int .u64 seed] 24)).heap.size = w.heap.size + 1 := by simp
 have hA := (Blk.new w 24 #[.int .i64 p, .int .i64 n, .int .i64 b, .int .u64 seed]).alloc (.cells #[.int .i64 0, .int .i64 0, .int .i64 0, .int .u64 0] 24)
 have hR := Blk.new (w.alloc (.cells #[.int .i64 p, .int .i64 n, .int .i64 b, .int .u64 seed] 24)) 24 #[.int .i64 0, .int .i64 0, .int .i64 0, .int .u64 0]
 rw [e1] at hR
 have hb := ((Below.refl _ w).alloc (Nat.le_refl _) (.cells #[.int .i64 p, .int .i64 n, .int .i64 b, .int .u64 seed] 24)).alloc (by simp) (.cells #[.int .i64 0, .int .i64 0, .int .i64 0, .int .u64 0] 24)
 go_enter Tryz.func14, Tryz.ntmps14
 go_upto_region 1 with (fail)
 generalize (w.alloc (.cells #[.int .i64 p, .int .i64 n, .int .i64 b, .int .u64 seed] 24)).alloc (.cells #[.int .i64 0, .int .i64 0, .int .i64 0, .int .u64 0] 24) = w1 at *
 have n1 : w.heap.size ≠ w.heap.size + 1 := by omega
 have g1 : w.heap.size ≤ w.heap.size + 1 := by omega
 generalize hp1 : w.heap.size + 1 = r at *
 generalize hp0 : w.heap.size = q at hA n1 ⊢
 have g0 : w.heap.size ≤ q := by omega
 clear e1
 have x0 : w1.cell? ⟨q, 0, none⟩ = some (.int .i64 p) := hA.cell 0
 have x1 : w1.cell? ⟨q, 1, none⟩ = some (.int .i64 n) := hA.cell 1
 have x2 : w1.cell? ⟨q, 2, none⟩ = some (.int .i64 b) := hA.cell 2
 have x3 : w1.cell? ⟨q, 3, none⟩ = some (.int .u64 seed) := hA.cell 3
 have f0 := hA.free 0
 have f1 := hA.free 1
 have f2 := hA.free 2
 have z0 : w1.cell? ⟨r, 0, none⟩ = some (.int .i64 0) := hR.cell 0
 have z1 : w1.cell? ⟨r, 1, none⟩ = some (.int .i64 0) := hR.cell 1
 have z2 : w1.cell? ⟨r, 2, none⟩ = some (.int .i64 0) := hR.cell 2
 have z3 : w1.cell? ⟨r, 3, none⟩ = some (.int .u64 0) := hR.cell 3
 have k0 := hR.free 0
 have k1 := hR.free 1
 have k2 := hR.free 2
 have k3 := hR.free 3
 have hR3 := ((hR.far (p := ⟨q, 0, none⟩) (fun e => n1 e.symm) (.int .i64 (1 + (q1 : Int)))).far (p := ⟨q, 1, none⟩) (fun e => n1 e.symm) (.int .i64 (1 + (q2 : Int)))).far (p := ⟨q, 2, none⟩) (fun e => n1 e.symm) (.int .i64 (1 + (q3 : Int)))
 have HF := Lib.hid ((((hR3.put 0 (.int .i64 (1 + (q1 : Int)))).put 1 (.int .i64 (1 + (q2 : Int)))).put 2 (.int .i64 (1 + (q3 : Int)))).put 3 (.int .u64 seed))
 have HB := Lib.hid (((((((hb.setCell (p := ⟨q, 0, none⟩) g0 (.int .i64 (1 + (q1 : Int)))).setCell (p := ⟨q, 1, none⟩) g0 (.int .i64 (1 + (q2 : Int)))).setCell (p := ⟨q, 2, none⟩) g0 (.int .i64 (1 + (q3 : Int)))).setCell (p := ⟨r, 0, none⟩) g1 (.int .i64 (1 + (q1 : Int)))).setCell (p := ⟨r, 1, none⟩) g1 (.int .i64 (1 + (q2 : Int)))).setCell (p := ⟨r, 2, none⟩) g1 (.int .i64 (1 + (q3 : Int)))).setCell (p := ⟨r, 3, none⟩) g1 (.int .u64 seed))
 clear hR hR3 hA hb
 go_wp2_with fail
 exact bodyPost_ret (results_cell_row rfl _ _ r 24 _ _ _ rfl HF.out Tryz.underlying24 rfl (by kernel_rfl)) rfl ⟨rfl, HB.out⟩
end
end Go.Proofs.YtkiabladmgagdabGreatDoor.Storey
namespace Go.Proofs.YtkiabladmgagdabGreatDoor.Storey
open Go.ChangeShapes Go.WideShapes Go.ChangeAt Go.RowKit
open Wirey (Blk Row str str_size str_list str_cat Kp)
open Taby (En TabAt Tbl tp find ins drop size ended St)
open Policyy (Pv HeldP StepP Tell)
open Ringy (Key)
open Regy

section
variable {w0 w w' w'' : World} {B b T M C S : Nat} {H H' : Nat → Prop} {s t : Sv} {k : Key} {v : Value} {l : List Key} {o : Opn} {x : Rcd}
set_option maxHeartbeats 4000000 in
set_option maxRecDepth 100000 in
theorem played_c (p n b : Int) {seed : Nat} (hsd : seed < 18446744073709551616) (ao : Option Addr) (len cap sb off : Nat) (X : Nat → Ac) (w : World) (hX : Acs w ao len sb off X) :
  Calls Tryz.prog 4 #[.agg #[.int .i64 p, .int .i64 n, .int .i64 b, .int .u64 seed], .slice ao len cap] w fun e w' => ∃ b_ T M C S H, e = .returned (.tuple #[tp b_, .int .u64 ((pl X (cfgS p n b seed) (min len 60)).2 : Int), .bool true]) ∧ At w w' b_ T M C S H (pl X (cfgS p n b seed) (min len 60)).1 := by
 have h1 := and1_lt p
 have h2 := and15_lt n
 have h3 := and1023_lt b
 have hfr := cfg_fresh p n b hsd
 have hinv := pl_inv (X := X) (n := min len 60) hfr (fun i hi => hX.big i (by omega)) (by omega)
 have hmost := hX.most
 unfold maxLen at hmost
 have hN := fun W => newS_c (kind := 1 + and1 p) (n := 1 + and15 n) (bytes := 1 + and1023 b) (seed := seed) (by omega) (by omega) (by omega) (by omega) (by omega) hsd W
 have hcf := fun W => config_c p n b (seed : Int) W
 have hs0 : Sv.new (1 + and1 p) (1 + and15 n) (1 + and1023 b) seed = cfgS p n b seed := rfl
 rw [hs0] at hN
 clear hs0
 generalize cfgS p n b seed = s0 at *
 generalize 1 + and1 p = q1 at *
 generalize 1 + and15 n = q2 at *
 generalize 1 + and1023 b = q3 at *
 have hb0 := (Below.refl _ w).alloc (Nat.le_refl _) (.cells #[.int .i64 p, .int .i64 n, .int .i64 b, .int .u64 seed] 24)
 have hA0 := Blk.new w 24 #[.int .i64 p, .int .i64 n, .int .i64 b, .int .u64 seed]
 clear h1 h2 h3
 go_enter Tryz.func4, Tryz.ntmps4
 go_wp2_with fail
 refine (hcf _).mono ?_
 rintro e w1 ⟨rfl, hb1⟩
 have hbA := hb0.trans (hb1.mono hb0.size)
 go_wp2_with fail
 refine (hN w1).mono ?_
 rintro e w3 ⟨bb, T, M, C, S, H, rfl, h3⟩
 replace h3 : At w w3 bb T M C S H s0 := h3.from_ hbA
 clear hN hcf hb0 hb1 hA0 hbA
 go_wp2_with fail
 go_loopw [9, 10] (fun v i wr => ∃ (j : Nat) (H' : Nat → Prop), j ≤ len ∧ j ≤ 60 ∧ i = .int .i64 j ∧ v = .int .u64 ((pl X s0 j).2 : Int) ∧ At w wr bb T M C S H' (pl X s0 j).1) (fun v i _ => len - (intOf i).toNat)
 case atStart => exact ⟨0, H, by omega, by omega, rfl, rfl, h3⟩
 case round =>
  clear h3
  obtain ⟨j, H1, hj, hj60, rfl, rfl, hA⟩ := hrel
  by_cases h3 : j < len ∧ j < 60
  ·have hlt : (j : Int) < (len : Int) := by omega
   have h60 : (j : Int) < 60 := by omega
   have d1 : decide ((j : Int) < (len : Int)) = true := decide_eq_true hlt
   have d2 : decide ((j : Int) < 60) = true := decide_eq_true h60
   obtain ⟨rfl, hsb⟩ := hX.is (by omega)
   have hP := hinv j (by omega)
   have haj := hX.big j h3.1
   have hat : ∀ {W : World}, Below w.heap.size w W → acAt W sb off j (X j) := fun hb => (hX.below hb).at_ h3.1
   have hnx1 : (pl X s0 (j + 1)).1 = ((pl X s0 j).1.apply (recOf (pl X s0 j).1.seq (pl X s0 j).2 (X j))).1 := rfl
   have hnx2 : (pl X s0 (j + 1)).2 = nextOf (pl X s0 j).2 (X j) := rfl
   have HX1 := Lib.hid hnx1
   have HX2 := Lib.hid hnx2
   clear hnx1 hnx2 hinv
   generalize (pl X s0 j).1 = s at *
   generalize (pl X s0 j).2 = nw at *
   generalize X j = aj at *
   have q1_ := hP.seq
   have q2_ := hP.at_
   have hyy := recOf_ok (seq := s.seq) (now := nw) (by omega) (by omega) haj
   have hrec := fun W => record_c (seq := s.seq) (now := nw) (a := aj) (by omega) (by omega) haj W
   generalize hy : recOf s.seq nw aj = yy at *
   generalize hn2 : nextOf nw aj = nw2 at *
   clear hy hn2
   have hap := fun {W : World} {H : Nat → Prop} (h : At w W bb T M C S H s) => apply1_a (x := yy) (t := (s.apply yy).1) (r := (s.apply yy).2.1) (n := (s.apply yy).2.2) hP.ok hyy rfl rfl h
   have hseq := fun (W : World) (hb : Below wr.heap.size wr W) => seq_s (hA.below hb)
   have hwl := hA.since
   have mk : ∀ W, Below wr.heap.size wr W → W.cell? ⟨sb, off + j * 9, none⟩ = some (.int .u64 aj.ticks) ∧ W.cell? ⟨sb, off + j * 9 + 1, none⟩ = some (.int .u64 aj.ses) ∧ W.cell? ⟨sb, off + j * 9 + 2, none⟩ = some (.int .u64 aj.num) ∧ W.cell? ⟨sb, off + j * 9 + 3, none⟩ = some (.int .i64 aj.op.kind) ∧ W.cell? ⟨sb, off + j * 9 + 4, none⟩ = some (.string (str aj.op.key)) ∧ W.cell? ⟨sb, off + j * 9 + 5, none⟩ = some (.string (str aj.op.val)) ∧ W.cell? ⟨sb, off + j * 9 + 6, none⟩ = some (.int .u64 aj.op.ttl) ∧ W.cell? ⟨sb, off + j * 9 + 7, none⟩ = some (.int .u64 aj.op.ver) ∧ W.cell? ⟨sb, off + j * 9 + 8, none⟩ = some (.int .i64 aj.skip) := fun W hb => hat (hwl.trans (hb.mono hwl.size))
   have hb2 : Below wr.heap.size wr wr.drew := ⟨rfl, rfl, rfl, Nat.le_refl _, fun _ _ => rfl⟩
   generalize hrr : (s.apply yy).2.1 = rr at *
   generalize hne : (s.apply yy).2.2 = ne at *
   clear hrr hne
   go_upto_region 6 with (fail)
   go_cut [11, 12] from 27 to 43 (fun v11 v12 wx => ∃ q, v11 = .pointer (some ⟨q, 0, none⟩) ∧ v12 = .int .u64 nw2 ∧ Below wr.heap.size wr wx ∧ Blk wx q 38 yy.cs)
   case first =>
    refine region_only 14 #[false, false, false, false, false, false, false, false, false, false, false, false, false, false] (S := fun W => W.cell? ⟨sb, off + j * 9, none⟩ = some (.int .u64 aj.ticks) ∧ W.cell? ⟨sb, off + j * 9 + 1, none⟩ = some (.int .u64 aj.ses) ∧ W.cell? ⟨sb, off + j * 9 + 2, none⟩ = some (.int .u64 aj.num) ∧ W.cell? ⟨sb, off + j * 9 + 3, none⟩ = some (.int .i64 aj.op.kind) ∧ W.cell? ⟨sb, off + j * 9 + 4, none⟩ = some (.string (str aj.op.key)) ∧ W.cell? ⟨sb, off + j * 9 + 5, none⟩ = some (.string (str aj.op.val)) ∧ W.cell? ⟨sb, off + j * 9 + 6, none⟩ = some (.int .u64 aj.op.ttl) ∧ W.cell? ⟨sb, off + j * 9 + 7, none⟩ = some (.int .u64 aj.op.ver) ∧ W.cell? ⟨sb, off + j * 9 + 8, none⟩ = some (.int .i64 aj.skip)) rfl rfl (by kernel_rfl) (mk _ hb2) (fun hSw => ?_)
    generalize wr.drew = w2 at *
    refine tkA 0 30 13 ?_ rfl rfl ?_ hSw ?_
    rotate_left
    ·intro wx hSx; (try dsimp only at hSx); go_split_ands; go_simp; (try with_reducible rfl)
    simp only [sA, List.set_cons_zero, sC]
    refine tkA 2 32 12 ?_ rfl rfl ?_ hSw ?_
    rotate_left
    ·intro wx hSx; (try dsimp only at hSx); go_split_ands; go_simp; (try with_reducible rfl)
    simp only [sA, List.set_cons_zero, sC]
    refine tkA 3 33 11 ?_ rfl rfl ?_ hSw ?_
    rotate_left
    ·intro wx hSx; (try dsimp only at hSx); go_split_ands; go_simp; (try with_reducible rfl)
    simp only [sA, List.set_cons_zero, sC]
    refine tkA 4 34 10 ?_ rfl rfl ?_ hSw ?_
    rotate_left
    ·intro wx hSx; (try dsimp only at hSx); go_split_ands; go_simp; (try with_reducible rfl)
    simp only [sA, List.set_cons_zero, sC]
    refine tkA 5 35 9 ?_ rfl rfl ?_ hSw ?_
    rotate_left
    ·intro wx hSx; (try dsimp only at hSx); go_split_ands; go_simp; (try with_reducible rfl)
    simp only [sA, List.set_cons_zero, sC]
    refine tkA 6 36 8 ?_ rfl rfl ?_ hSw ?_
    rotate_left
    ·intro wx hSx; (try dsimp only at hSx); go_split_ands; go_simp; (try with_reducible rfl)
    simp only [sA, List.set_cons_zero, sC]
    refine wpAnyH_ready (fuel := 7) (rs := [1, 11]) (by kernel_rfl) (by simp) (AllReadyH.cons rfl (fun K hK => ?_) (AllReadyH.cons rfl (fun K hK => ?_) AllReadyH.nil))
    ·go_simp
     refine (hseq _ hb2).mono ?_
     rintro e wq ⟨rfl, rfl⟩
     refine hK.out _ _ (mk _ hb2) (fun hSw => ?_)
     clear hK K
     simp only [sA, List.set_cons_zero, sC]
     refine wpAnyH_ready (fuel := 6) (rs := [7, 11]) (by kernel_rfl) (by simp) (AllReadyH.cons rfl (fun K hK => ?_) (AllReadyH.cons rfl (fun K hK => ?_) AllReadyH.nil))
     ·go_simp
      refine (hrec _).mono ?_
      rintro e wv ⟨rfl, hbv⟩
      have hbv2 := hb2.trans (hbv.mono hb2.size)
      refine hK.out _ _ (mk _ hbv2) (fun hSw => ?_)
      clear hK K
      simp only [sA, List.set_cons_zero, sC]
      refine tkA 8 29 5 ?_ rfl rfl ?_ hSw ?_
      rotate_left
      ·intro wx hSx; (try dsimp only at hSx); go_split_ands; go_simp; (try with_reducible rfl)
      simp only [sA, List.set_cons_zero, sC]
      refine tkA 9 38 4 ?_ rfl rfl ?_ hSw ?_
      rotate_left
      ·intro wx hSx; (try dsimp only at hSx); go_split_ands; go_simp; (try with_reducible rfl)
      simp only [sA, List.set_cons_zero, sC]
      refine tkA 10 39 3 ?_ rfl rfl ?_ hSw ?_
      rotate_left
      ·intro wx hSx; (try dsimp only at hSx); go_split_ands; go_simp; (try with_reducible rfl)
      simp only [sA, List.set_cons_zero, sC]
      refine rdA 2 11 rfl fun K hK => ?_
      go_simp
      have hp0 := Blk.new wv 38 #[.int .u64 0, .int .u64 0, .int .u64 0, .int .u64 0, .int .i64 0, .string ⟨#[]⟩, .string ⟨#[]⟩, .int .u64 0, .int .u64 0]
      have hba := hbv2.alloc hbv2.size (.cells #[.int .u64 0, .int .u64 0, .int .u64 0, .int .u64 0, .int .i64 0, .string ⟨#[]⟩, .string ⟨#[]⟩, .int .u64 0, .int .u64 0] 38)
      refine hK.out _ _ (mk _ hba) (fun hSw => ?_)
      clear hK K
      simp only [sA, List.set_cons_zero, sC]
      refine rdA 1 12 rfl fun K hK => ?_
      go_simp
      have hp3 := Blk.new wv 38 yy.cs
      have hb3 := hbv2.alloc hbv2.size (.cells yy.cs 38)
      refine hK.out _ _ (mk _ hb3) (fun hSw => ?_)
      clear hK K
      simp only [sA, List.set_cons_zero, sC]
      refine tkA 13 12 0 ?_ rfl rfl ?_ hSw ?_
      rotate_left
      ·intro wx hSx; (try dsimp only at hSx); go_split_ands; go_simp; (try with_reducible rfl)
      simp only [sA, List.set_cons_zero, sC]
      refine wpAnyH_done (by kernel_rfl) ⟨rfl, ?_⟩ 0
      go_wp2_with fail
      go_meet
      exact ⟨_, rfl, rfl, hb3, hp3⟩
     ·go_simp
      have hp0 := Blk.new w2 38 #[.int .u64 0, .int .u64 0, .int .u64 0, .int .u64 0, .int .i64 0, .string ⟨#[]⟩, .string ⟨#[]⟩, .int .u64 0, .int .u64 0]
      have hba := hb2.alloc hb2.size (.cells #[.int .u64 0, .int .u64 0, .int .u64 0, .int .u64 0, .int .i64 0, .string ⟨#[]⟩, .string ⟨#[]⟩, .int .u64 0, .int .u64 0] 38)
      refine hK.out _ _ (mk _ hba) (fun hSw => ?_)
      clear hK K
      simp only [sA, List.set_cons_zero, sC]
      refine rdA 5 7 rfl fun K hK => ?_
      go_simp
      refine (hrec _).mono ?_
      rintro e wv ⟨rfl, hbv⟩
      have hbv2 := hba.trans (hbv.mono hba.size)
      have hpv := hp0.below hbv hp0.lt
      refine hK.out _ _ (mk _ hbv2) (fun hSw => ?_)
      clear hK K
      simp only [sA, List.set_cons_zero, sC]
      refine tkA 8 29 4 ?_ rfl rfl ?_ hSw ?_
      rotate_left
      ·intro wx hSx; (try dsimp only at hSx); go_split_ands; go_simp; (try with_reducible rfl)
      simp only [sA, List.set_cons_zero, sC]
      refine tkA 9 38 3 ?_ rfl rfl ?_ hSw ?_
      rotate_left
      ·intro wx hSx; (try dsimp only at hSx); go_split_ands; go_simp; (try with_reducible rfl)
      simp only [sA, List.set_cons_zero, sC]
      refine tkA 10 39 2 ?_ rfl rfl ?_ hSw ?_
      rotate_left
      ·intro wx hSx; (try dsimp only at hSx); go_split_ands; go_simp; (try with_reducible rfl)
      simp only [sA, List.set_cons_zero, sC]
      refine rdA 1 12 rfl fun K hK => ?_
      go_simp
      have hle : wr.heap.size ≤ w2.heap.size := hb2.size
      have g0 := hpv.free 0
      have g1 := hpv.free 1
      have g2 := hpv.free 2
      have g3 := hpv.free 3
      have g4 := hpv.free 4
      have g5 := hpv.free 5
      have g6 := hpv.free 6
      have g7 := hpv.free 7
      have g8 := hpv.free 8
      have c0 : wv.cell? ⟨w2.heap.size, 0, none⟩ = some (.int .u64 0) := hpv.cell 0
      have c1 : wv.cell? ⟨w2.heap.size, 1, none⟩ = some (.int .u64 0) := hpv.cell 1
      have c2 : wv.cell? ⟨w2.heap.size, 2, none⟩ = some (.int .u64 0) := hpv.cell 2
      have c3 : wv.cell? ⟨w2.heap.size, 3, none⟩ = some (.int .u64 0) := hpv.cell 3
      have c4 : wv.cell? ⟨w2.heap.size, 4, none⟩ = some (.int .i64 0) := hpv.cell 4
      have c5 : wv.cell? ⟨w2.heap.size, 5, none⟩ = some (.string ⟨#[]⟩) := hpv.cell 5
      have c6 : wv.cell? ⟨w2.heap.size, 6, none⟩ = some (.string ⟨#[]⟩) := hpv.cell 6
      have c7 : wv.cell? ⟨w2.heap.size, 7, none⟩ = some (.int .u64 0) := hpv.cell 7
      have c8 : wv.cell? ⟨w2.heap.size, 8, none⟩ = some (.int .u64 0) := hpv.cell 8
      go_simp
      have hp3 := put9 hpv (.int .u64 yy.seq) (.int .u64 yy.now) (.int .u64 yy.ses) (.int .u64 yy.num) (.int .i64 yy.op.kind) (.string (str yy.op.key)) (.string (str yy.op.val)) (.int .u64 yy.op.ttl) (.int .u64 yy.op.ver)
      have hb3 := below9 hbv2 (g := w2.heap.size) hle (.int .u64 yy.seq) (.int .u64 yy.now) (.int .u64 yy.ses) (.int .u64 yy.num) (.int .i64 yy.op.kind) (.string (str yy.op.key)) (.string (str yy.op.val)) (.int .u64 yy.op.ttl) (.int .u64 yy.op.ver)
      refine hK.out _ _ (mk _ hb3) (fun hSw => ?_)
      clear hK K
      simp only [sA, List.set_cons_zero, sC]
      refine tkA 13 12 0 ?_ rfl rfl ?_ hSw ?_
      rotate_left
      ·intro wx hSx; (try dsimp only at hSx); go_split_ands; go_simp; (try with_reducible rfl)
      simp only [sA, List.set_cons_zero, sC]
      refine wpAnyH_done (by kernel_rfl) ⟨rfl, ?_⟩ 0
      go_wp2_with fail
      go_meet
      exact ⟨_, rfl, rfl, hb3, hp3⟩
    ·go_simp
     have hp0 := Blk.new w2 38 #[.int .u64 0, .int .u64 0, .int .u64 0, .int .u64 0, .int .i64 0, .string ⟨#[]⟩, .string ⟨#[]⟩, .int .u64 0, .int .u64 0]
     have hba := hb2.alloc hb2.size (.cells #[.int .u64 0, .int .u64 0, .int .u64 0, .int .u64 0, .int .i64 0, .string ⟨#[]⟩, .string ⟨#[]⟩, .int .u64 0, .int .u64 0] 38)
     refine hK.out _ _ (mk _ hba) (fun hSw => ?_)
     clear hK K
     simp only [sA, List.set_cons_zero, sC]
     refine rdA 6 1 rfl fun K hK => ?_
     go_simp
     refine (hseq _ hba).mono ?_
     rintro e wq ⟨rfl, rfl⟩
     refine hK.out _ _ (mk _ hba) (fun hSw => ?_)
     clear hK K
     simp only [sA, List.set_cons_zero, sC]
     refine rdA 5 7 rfl fun K hK => ?_
     go_simp
     refine (hrec _).mono ?_
     rintro e wv ⟨rfl, hbv⟩
     have hbv2 := hba.trans (hbv.mono hba.size)
     have hpv := hp0.below hbv hp0.lt
     refine hK.out _ _ (mk _ hbv2) (fun hSw => ?_)
     clear hK K
     simp only [sA, List.set_cons_zero, sC]
     refine tkA 8 29 4 ?_ rfl rfl ?_ hSw ?_
     rotate_left
     ·intro wx hSx; (try dsimp only at hSx); go_split_ands; go_simp; (try with_reducible rfl)
     simp only [sA, List.set_cons_zero, sC]
     refine tkA 9 38 3 ?_ rfl rfl ?_ hSw ?_
     rotate_left
     ·intro wx hSx; (try dsimp only at hSx); go_split_ands; go_simp; (try with_reducible rfl)
     simp only [sA, List.set_cons_zero, sC]
     refine tkA 10 39 2 ?_ rfl rfl ?_ hSw ?_
     rotate_left
     ·intro wx hSx; (try dsimp only at hSx); go_split_ands; go_simp; (try with_reducible rfl)
     simp only [sA, List.set_cons_zero, sC]
     refine rdA 1 12 rfl fun K hK => ?_
     go_simp
     have hle : wr.heap.size ≤ w2.heap.size := hb2.size
     have g0 := hpv.free 0
     have g1 := hpv.free 1
     have g2 := hpv.free 2
     have g3 := hpv.free 3
     have g4 := hpv.free 4
     have g5 := hpv.free 5
     have g6 := hpv.free 6
     have g7 := hpv.free 7
     have g8 := hpv.free 8
     have c0 : wv.cell? ⟨w2.heap.size, 0, none⟩ = some (.int .u64 0) := hpv.cell 0
     have c1 : wv.cell? ⟨w2.heap.size, 1, none⟩ = some (.int .u64 0) := hpv.cell 1
     have c2 : wv.cell? ⟨w2.heap.size, 2, none⟩ = some (.int .u64 0) := hpv.cell 2
     have c3 : wv.cell? ⟨w2.heap.size, 3, none⟩ = some (.int .u64 0) := hpv.cell 3
     have c4 : wv.cell? ⟨w2.heap.size, 4, none⟩ = some (.int .i64 0) := hpv.cell 4
     have c5 : wv.cell? ⟨w2.heap.size, 5, none⟩ = some (.string ⟨#[]⟩) := hpv.cell 5
     have c6 : wv.cell? ⟨w2.heap.size, 6, none⟩ = some (.string ⟨#[]⟩) := hpv.cell 6
     have c7 : wv.cell? ⟨w2.heap.size, 7, none⟩ = some (.int .u64 0) := hpv.cell 7
     have c8 : wv.cell? ⟨w2.heap.size, 8, none⟩ = some (.int .u64 0) := hpv.cell 8
     go_simp
     have hp3 := put9 hpv (.int .u64 yy.seq) (.int .u64 yy.now) (.int .u64 yy.ses) (.int .u64 yy.num) (.int .i64 yy.op.kind) (.string (str yy.op.key)) (.string (str yy.op.val)) (.int .u64 yy.op.ttl) (.int .u64 yy.op.ver)
     have hb3 := below9 hbv2 (g := w2.heap.size) hle (.int .u64 yy.seq) (.int .u64 yy.now) (.int .u64 yy.ses) (.int .u64 yy.num) (.int .i64 yy.op.kind) (.string (str yy.op.key)) (.string (str yy.op.val)) (.int .u64 yy.op.ttl) (.int .u64 yy.op.ver)
     refine hK.out _ _ (mk _ hb3) (fun hSw => ?_)
     clear hK K
     simp only [sA, List.set_cons_zero, sC]
     refine tkA 13 12 0 ?_ rfl rfl ?_ hSw ?_
     rotate_left
     ·intro wx hSx; (try dsimp only at hSx); go_split_ands; go_simp; (try with_reducible rfl)
     simp only [sA, List.set_cons_zero, sC]
     refine wpAnyH_done (by kernel_rfl) ⟨rfl, ?_⟩ 0
     go_wp2_with fail
     go_meet
     exact ⟨_, rfl, rfl, hb3, hp3⟩
   case rest =>
    obtain ⟨q, rfl, rfl, hbx, hpx⟩ := hcut
    have hAx := hA.below hbx
    clear hA mk hseq hrec hat hb2 hbx
    have y0 : wc.cell? ⟨q, 0, none⟩ = some (.int .u64 yy.seq) := hpx.cell 0
    have y1 : wc.cell? ⟨q, 1, none⟩ = some (.int .u64 yy.now) := hpx.cell 1
    have y2 : wc.cell? ⟨q, 2, none⟩ = some (.int .u64 yy.ses) := hpx.cell 2
    have y3 : wc.cell? ⟨q, 3, none⟩ = some (.int .u64 yy.num) := hpx.cell 3
    have y4 : wc.cell? ⟨q, 4, none⟩ = some (.int .i64 yy.op.kind) := hpx.cell 4
    have y5 : wc.cell? ⟨q, 5, none⟩ = some (.string (str yy.op.key)) := hpx.cell 5
    have y6 : wc.cell? ⟨q, 6, none⟩ = some (.string (str yy.op.val)) := hpx.cell 6
    have y7 : wc.cell? ⟨q, 7, none⟩ = some (.int .u64 yy.op.ttl) := hpx.cell 7
    have y8 : wc.cell? ⟨q, 8, none⟩ = some (.int .u64 yy.op.ver) := hpx.cell 8
    go_wp2_with fail
    refine (hap hAx).mono ?_
    rintro e w7 ⟨rfl, H7, h7, s7⟩
    rw [← HX1.out] at h7
    clear hap hAx hpx s7 y0 y1 y2 y3 y4 y5 y6 y7 y8
    have HX3 := HX2
    go_wp2_with fail
    go_roundw
    case rel => exact ⟨j + 1, H7, by omega, by omega, rfl, by rw [HX3.out], h7⟩
    case measure => simp [intOf]; omega
  ·obtain rfl : j = min len 60 := by omega
   clear hinv
   generalize hE1 : (pl X s0 (min len 60)).1 = s at *
   generalize hE2 : (pl X s0 (min len 60)).2 = nw at *
   have HE1 := Lib.hid hE1
   have HE2 := Lib.hid hE2
   have hcc : ¬ min len 60 < len ∨ (min len 60 < len ∧ ¬ min len 60 < 60) := by omega
   generalize hJ : min len 60 = j at *
   have HJ := Lib.hid hJ
   clear hE1 hE2 h3
   rcases hcc with hc1 | ⟨hc1, hc2⟩
   ·have d1 : decide ((j : Int) < (len : Int)) = false := decide_eq_false (by omega)
    have d2 : ¬ (j : Int) < (len : Int) := by omega
    clear hJ
    go_wp2_with fail
    go_ret3
    exact ⟨bb, by rw [HJ.out, HE2.out]; rfl, T, M, C, S, H1, by rw [HJ.out, HE1.out]; exact hA⟩
   ·have d1 : decide ((j : Int) < (len : Int)) = true := decide_eq_true (by omega)
    have d2 : (j : Int) < (len : Int) := by omega
    have d3 : decide ((j : Int) < 60) = false := decide_eq_false (by omega)
    have d4 : ¬ (j : Int) < 60 := by omega
    clear hJ
    go_wp2_with fail
    go_ret3
    exact ⟨bb, by rw [HJ.out, HE2.out]; rfl, T, M, C, S, H1, by rw [HJ.out, HE1.out]; exact hA⟩
end
end Go.Proofs.YtkiabladmgagdabGreatDoor.Storey
