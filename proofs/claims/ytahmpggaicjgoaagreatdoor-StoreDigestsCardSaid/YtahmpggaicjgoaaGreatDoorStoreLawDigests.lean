/- Layer 12 (store): for every input the call returns true and leaves what it was given as it was: the digest is the sum of the cache's bytes; caches of unlike bytes have unlike ones, unless both are in hand (StoreDigests). No condition. -/
import Derived.Test.YtahmpggaicjgoaaGreatDoorStoreRec
import Derived.Test.YtahmpggaicjgoaaGreatDoorSq
import Derived.Test.YtahmpggaicjgoaaGreatDoorKit
import Derived.Test.YtahmpggaicjgoaaGreatDoorTie
import Derived.Test.YtahmpggaicjgoaaGreatDoorCards
import Derived.Test.YtahmpggaicjgoaaGreatDoorBlakeSumPAll
import Derived.LaidMore
import Derived.Stop.Joined
import Derived.Lib.LaidU8
import Derived.Test.YtahmpggaicjgoaaGreatDoorSort64All
import Derived.Lib.SmallJoins
import Derived.Test.YtahmpggaicjgoaaGreatDoorStoreOutAll
namespace Go.Proofs.YtahmpggaicjgoaaGreatDoor.Storey
open Go.ChangeShapes Go.WideShapes Go.ChangeAt Go.RowKit
open Wirey (Blk Row str str_size str_list str_cat Kp)
open Taby (En TabAt Tbl tp find ins drop size ended St)
open Policyy (Pv HeldP StepP Tell)
open Ringy (Key)
open Regy

section
variable {w0 w w' w'' : World} {B b T M C S : Nat} {H H' : Nat → Prop} {s t : Sv} {k : Key} {v : Value} {l : List Key} {o : Opn} {x : Rcd}
theorem At.from_ {w0 w1 w : World} {b T M C S : Nat} {H : Nat → Prop} {s : Sv} (h : At w1 w b T M C S H s) (hb : Below w0.heap.size w0 w1) : At w0 w b T M C S H s :=
 have hs := hb.size
 ⟨h.box, h.tab, h.pol.low hb, h.ses, Nat.le_trans hs h.lb, Nat.le_trans hs h.lT, Nat.le_trans hs h.lM, Nat.le_trans hs h.lS, h.bT, h.bM, h.bS, h.ST, h.SM, h.Hb, h.HT, h.HM, h.HS⟩
structure Sv.Turn (s t : Sv) (x : Rcd) : Prop where
 seq : t.seq ≤ s.seq + 1
 now : s.now ≤ t.now ∧ t.now ≤ max s.now x.now
 ss : ∀ y ∈ t.ss, y ∈ s.ss ∨ (y.id = x.ses ∧ y.num = x.num)
 cfg : t.kind = s.kind ∧ t.n = s.n ∧ t.bytes = s.bytes ∧ t.seed = s.seed
theorem Sv.Turn.refl (s : Sv) (x : Rcd) : s.Turn s x := ⟨by omega, by omega, fun _ h => .inl h, rfl, rfl, rfl, rfl⟩
theorem noted_ss (hO : s.Ok) (hc : x.op.chk = true) (h5 : x.op.kind ≠ 5) : ∀ y ∈ (s.noted x).1.ss, y ∈ s.ss ∨ (y.id = x.ses ∧ y.num = x.num) := fun y hy => by
 have ha := hO.act hc h5
 have hy' : y ∈ lay ⟨x.ses, x.num, (s.act x.op).2⟩ (s.act x.op).1.ss := hy
 rcases mem_lay hy' with rfl | hy'
 ·exact .inr ⟨rfl, rfl⟩
 ·rw [ha.ss] at hy'; exact .inl hy'
theorem once_ss (hO : s.Ok) (hc : x.op.chk = true) (h5 : x.op.kind ≠ 5) : ∀ y ∈ (s.once x).1.ss, y ∈ s.ss ∨ (y.id = x.ses ∧ y.num = x.num) := by
 unfold Sv.once
 cases e : seek x.ses s.ss with
 | none =>
  show ∀ y ∈ (if 64 ≤ s.ss.length then (s, Rep.of 3) else s.noted x).1.ss, _
  split
  ·exact fun _ h => .inl h
  ·exact noted_ss hO hc h5
 | some z =>
  show ∀ y ∈ (if x.num = z.num then (s, z.rep) else if x.num < z.num then (s, Rep.of 122) else s.noted x).1.ss, _
  split
  ·exact fun _ h => .inl h
  ·split
   ·exact fun _ h => .inl h
   ·exact noted_ss hO hc h5
theorem Sv.Ok.turn (hO : s.Ok) (hx : x.Ok) : s.Turn (s.apply x).1 x := by
 unfold Sv.apply
 split
 ·exact .refl s x
 ·rename_i hc
  have hc' : x.op.chk = true := by simpa using hc
  split
  ·exact .refl s x
  ·rename_i hq
   have hd := hO.done hx hc'
   refine ⟨?_, ?_, ?_, hd.2.2.2.2⟩
   ·show (s.done x).1.seq ≤ _; rw [hd.2.2.2.1]; omega
   ·show s.now ≤ (s.done x).1.now ∧ (s.done x).1.now ≤ _; rw [hd.2.2.1]; omega
   ·show ∀ y ∈ (s.done x).1.ss, _
    obtain ⟨h1, -, h3⟩ := (hO.place hx.seq).move hx.now
    have hss : ((s.place x.seq).moveTo x.now).ss = s.ss := h3.f.2.2.2.2.2.2.2.2.2
    unfold Sv.done
    split
    ·intro y hy
     have hy' : y ∈ ((s.place x.seq).moveTo x.now).ss := hy
     rw [hss] at hy'
     exact .inl hy'
    ·intro y hy
     have := once_ss h1 hc' (by assumption) y hy
     rwa [hss] at this
def pl (X : Nat → Ac) (s0 : Sv) : Nat → Sv × Nat
 | 0 => (s0, 0)
 | i + 1 => (((pl X s0 i).1.apply (recOf (pl X s0 i).1.seq (pl X s0 i).2 (X i))).1, nextOf (pl X s0 i).2 (X i))
structure Pld (s0 s : Sv) (now i : Nat) : Prop where
 ok : s.Ok
 seq : s.seq ≤ i
 at_ : now ≤ 100 * i
 tick : s.now ≤ now
 ss : ∀ y ∈ s.ss, y.id < 8 ∧ y.num < 32
 cfg : s.kind = s0.kind ∧ s.n = s0.n ∧ s.bytes = s0.bytes ∧ s.seed = s0.seed
theorem Pld.next {s0 s : Sv} {now i : Nat} {a : Ac} (h : Pld s0 s now i) (hi : i < 1000) (ha : a.Big) : Pld s0 (s.apply (recOf s.seq now a)).1 (nextOf now a) (i + 1) := by
 have h1 := h.seq
 have h2 := h.at_
 have hx : (recOf s.seq now a).Ok := recOf_ok (by omega) (by omega) ha
 have ht := h.ok.turn hx
 have hn := nextOf_le now a
 have h3 := h.tick
 have h4 : (recOf s.seq now a).now = nextOf now a := rfl
 refine ⟨(h.ok.apply hx).1, by have := ht.seq; omega, by omega, by have := ht.now; rw [h4] at this; omega, fun y hy => ?_, ht.cfg.1.trans h.cfg.1, ht.cfg.2.1.trans h.cfg.2.1, ht.cfg.2.2.1.trans h.cfg.2.2.1, ht.cfg.2.2.2.trans h.cfg.2.2.2⟩
 rcases ht.ss y hy with hy | ⟨e1, e2⟩
 ·exact h.ss y hy
 ·rw [e1, e2]; exact ⟨and7_lt _, and31_lt _⟩
structure Fresh (s0 : Sv) : Prop where
 ok : s0.Ok
 seq : s0.seq = 0
 now : s0.now = 0
 ss : s0.ss = []
theorem Fresh.start {s0 : Sv} (h : Fresh s0) : Pld s0 s0 0 0 := ⟨h.ok, by rw [h.seq]; omega, by omega, by rw [h.now]; omega, fun y hy => (by rw [h.ss] at hy; exact nomatch hy), rfl, rfl, rfl, rfl⟩
theorem pl_inv {X : Nat → Ac} {s0 : Sv} {n : Nat} (h0 : Fresh s0) (hX : ∀ i, i < n → (X i).Big) (hn : n ≤ 1000) : ∀ i, i ≤ n → Pld s0 (pl X s0 i).1 (pl X s0 i).2 i
 | 0, _ => h0.start
 | i + 1, hi => (pl_inv h0 hX hn i (by omega)).next (by omega) (hX i (by omega))
def and1 (z : Int) : Nat := (z % ((2 ^ 64 : Nat) : Int)).toNat % 2 ^ 1
def and15 (z : Int) : Nat := (z % ((2 ^ 64 : Nat) : Int)).toNat % 2 ^ 4
def and1023 (z : Int) : Nat := (z % ((2 ^ 64 : Nat) : Int)).toNat % 2 ^ 10
theorem and1_lt (z : Int) : and1 z < 2 := Nat.mod_lt _ (by decide)
theorem and15_lt (z : Int) : and15 z < 16 := Nat.mod_lt _ (by decide)
theorem and1023_lt (z : Int) : and1023 z < 1024 := Nat.mod_lt _ (by decide)
def cfgS (p n b : Int) (seed : Nat) : Sv := Sv.new (1 + and1 p) (1 + and15 n) (1 + and1023 b) seed
theorem cfg_fresh (p n b : Int) {seed : Nat} (hs : seed < 18446744073709551616) : Fresh (cfgS p n b seed) := by
 have h1 := and1_lt p
 have h2 := and15_lt n
 have h3 := and1023_lt b
 exact ⟨Sv.new_ok (by omega) (by omega) (by omega) (by omega) (by omega) hs, rfl, rfl, rfl⟩
set_option maxHeartbeats 4000000 in
set_option maxRecDepth 100000 in
theorem config_c (p n b : Int) (seed : Int) (w : World) : Calls Tryz.prog 16 #[.agg #[.int .i64 p, .int .i64 n, .int .i64 b, .int .u64 seed]] w fun e w' => e = .returned (.agg #[.int .i64 ((1 + and1 p : Nat) : Int), .int .i64 ((1 + and15 n : Nat) : Int), .int .i64 ((1 + and1023 b : Nat) : Int), .int .u64 seed]) ∧ Below w.heap.size w w' := by
 have b1 : bits .and .i64 p 1 = (and1 p : Int) := Bity.i64_and p 1 1 rfl (by omega)
 have b2 : bits .and .i64 n 15 = (and15 n : Int) := Bity.i64_and n 15 4 rfl (by omega)
 have b3 : bits .and .i64 b 1023 = (and1023 b : Int) := Bity.i64_and b 1023 10 rfl (by omega)
 have h1 := and1_lt p
 have h2 := and15_lt n
 have h3 := and1023_lt b
 generalize and1 p = q1 at *
 generalize and15 n = q2 at *
 generalize and1023 b = q3 at *
 have e1 : (w.alloc (.cells #[.int .i64 p, .int .i64 n, .int .i64 b, .int .u64 seed] 24)).heap.size = w.heap.size + 1 := by simp
 have hA := (Blk.new w 24 #[.int .i64 p, .int .i64 n, .int .i64 b, .int .u64 seed]).alloc (.cells #[.int .i64 0, .int .i64 0, .int .i64 0, .int .u64 0] 24)
 have hR := Blk.new (w.alloc (.cells #[.int .i64 p, .int .i64 n, .int .i64 b, .int .u64 seed] 24)) 24 #[.int .i64 0, .int .i64 0, .int .i64 0, .int .u64 0]
 rw [e1] at hR
 have hb := ((Below.refl _ w).alloc (Nat.le_refl _) (.cells #[.int .i64 p, .int .i64 n, .int .i64 b, .int .u64 seed] 24)).alloc (by simp) (.cells #[.int .i64 0, .int .i64 0, .int .i64 0, .int .u64 0] 24)
 go_enter Tryz.func16, Tryz.ntmps16
 go_upto_region 1 with (fail)
 generalize (w.alloc (.cells #[.int .i64 p, .int .i64 n, .int .i64 b, .int .u64 seed] 24)).alloc (.cells #[.int .i64 0, .int .i64 0, .int .i64 0, .int .u64 0] 24) = w1 at *
 have n1 : w.heap.size ≠ w.heap.size + 1 := by omega
 have g1 : w.heap.size ≤ w.heap.size + 1 := by omega
 generalize hp1 : w.heap.size + 1 = r at *
 generalize hp0 : w.heap.size = q at hA n1 ⊢
 have g0 : w.heap.size ≤ q := by omega
 clear e1
 have x0 : w1.cell? ⟨q, 0, none⟩ = some (.int .i64 p) := hA.cell 0
 have x1 : w1.cell? ⟨q, 1, none⟩ = some (.int .i64 n) := hA.cell 1
 have x2 : w1.cell? ⟨q, 2, none⟩ = some (.int .i64 b) := hA.cell 2
 have x3 : w1.cell? ⟨q, 3, none⟩ = some (.int .u64 seed) := hA.cell 3
 have f0 := hA.free 0
 have f1 := hA.free 1
 have f2 := hA.free 2
 have z0 : w1.cell? ⟨r, 0, none⟩ = some (.int .i64 0) := hR.cell 0
 have z1 : w1.cell? ⟨r, 1, none⟩ = some (.int .i64 0) := hR.cell 1
 have z2 : w1.cell? ⟨r, 2, none⟩ = some (.int .i64 0) := hR.cell 2
 have z3 : w1.cell? ⟨r, 3, none⟩ = some (.int .u64 0) := hR.cell 3
 have k0 := hR.free 0
 have k1 := hR.free 1
 have k2 := hR.free 2
 have k3 := hR.free 3
 have hR3 := ((hR.far (p := ⟨q, 0, none⟩) (fun e => n1 e.symm) (.int .i64 (1 + (q1 : Int)))).far (p := ⟨q, 1, none⟩) (fun e => n1 e.symm) (.int .i64 (1 + (q2 : Int)))).far (p := ⟨q, 2, none⟩) (fun e => n1 e.symm) (.int .i64 (1 + (q3 : Int)))
 have HF := Lib.hid ((((hR3.put 0 (.int .i64 (1 + (q1 : Int)))).put 1 (.int .i64 (1 + (q2 : Int)))).put 2 (.int .i64 (1 + (q3 : Int)))).put 3 (.int .u64 seed))
 have HB := Lib.hid (((((((hb.setCell (p := ⟨q, 0, none⟩) g0 (.int .i64 (1 + (q1 : Int)))).setCell (p := ⟨q, 1, none⟩) g0 (.int .i64 (1 + (q2 : Int)))).setCell (p := ⟨q, 2, none⟩) g0 (.int .i64 (1 + (q3 : Int)))).setCell (p := ⟨r, 0, none⟩) g1 (.int .i64 (1 + (q1 : Int)))).setCell (p := ⟨r, 1, none⟩) g1 (.int .i64 (1 + (q2 : Int)))).setCell (p := ⟨r, 2, none⟩) g1 (.int .i64 (1 + (q3 : Int)))).setCell (p := ⟨r, 3, none⟩) g1 (.int .u64 seed))
 clear hR hR3 hA hb
 go_wp2_with fail
 exact bodyPost_ret (results_cell_row rfl _ _ r 24 _ _ _ rfl HF.out Tryz.underlying24 rfl (by kernel_rfl)) rfl ⟨rfl, HB.out⟩
end
end Go.Proofs.YtahmpggaicjgoaaGreatDoor.Storey
namespace Go.Proofs.YtahmpggaicjgoaaGreatDoor.Storey
open Go.ChangeShapes Go.WideShapes Go.ChangeAt Go.RowKit
open Wirey (Blk Row str str_size str_list str_cat Kp)
open Taby (En TabAt Tbl tp find ins drop size ended St)
open Policyy (Pv HeldP StepP Tell)
open Ringy (Key)
open Regy

section
variable {w0 w w' w'' : World} {B b T M C S : Nat} {H H' : Nat → Prop} {s t : Sv} {k : Key} {v : Value} {l : List Key} {o : Opn} {x : Rcd}
set_option maxHeartbeats 4000000 in
set_option maxRecDepth 100000 in
theorem played_c (p n b : Int) {seed : Nat} (hsd : seed < 18446744073709551616) (ao : Option Addr) (len cap sb off : Nat) (X : Nat → Ac) (w : World) (hX : Acs w ao len sb off X) :
  Calls Tryz.prog 5 #[.agg #[.int .i64 p, .int .i64 n, .int .i64 b, .int .u64 seed], .slice ao len cap] w fun e w' => ∃ b_ T M C S H, e = .returned (.tuple #[tp b_, .int .u64 ((pl X (cfgS p n b seed) (min len 60)).2 : Int), .bool true]) ∧ At w w' b_ T M C S H (pl X (cfgS p n b seed) (min len 60)).1 := by
 have h1 := and1_lt p
 have h2 := and15_lt n
 have h3 := and1023_lt b
 have hfr := cfg_fresh p n b hsd
 have hinv := pl_inv (X := X) (n := min len 60) hfr (fun i hi => hX.big i (by omega)) (by omega)
 have hmost := hX.most
 unfold maxLen at hmost
 have hN := fun W => newS_c (kind := 1 + and1 p) (n := 1 + and15 n) (bytes := 1 + and1023 b) (seed := seed) (by omega) (by omega) (by omega) (by omega) (by omega) hsd W
 have hcf := fun W => config_c p n b (seed : Int) W
 have hs0 : Sv.new (1 + and1 p) (1 + and15 n) (1 + and1023 b) seed = cfgS p n b seed := rfl
 rw [hs0] at hN
 clear hs0
 generalize cfgS p n b seed = s0 at *
 generalize 1 + and1 p = q1 at *
 generalize 1 + and15 n = q2 at *
 generalize 1 + and1023 b = q3 at *
 have hb0 := (Below.refl _ w).alloc (Nat.le_refl _) (.cells #[.int .i64 p, .int .i64 n, .int .i64 b, .int .u64 seed] 24)
 have hA0 := Blk.new w 24 #[.int .i64 p, .int .i64 n, .int .i64 b, .int .u64 seed]
 clear h1 h2 h3
 go_enter Tryz.func5, Tryz.ntmps5
 go_wp2_with fail
 refine (hcf _).mono ?_
 rintro e w1 ⟨rfl, hb1⟩
 have hbA := hb0.trans (hb1.mono hb0.size)
 go_wp2_with fail
 refine (hN w1).mono ?_
 rintro e w3 ⟨bb, T, M, C, S, H, rfl, h3⟩
 replace h3 : At w w3 bb T M C S H s0 := h3.from_ hbA
 clear hN hcf hb0 hb1 hA0 hbA
 go_wp2_with fail
 go_loopw [9, 10] (fun v i wr => ∃ (j : Nat) (H' : Nat → Prop), j ≤ len ∧ j ≤ 60 ∧ i = .int .i64 j ∧ v = .int .u64 ((pl X s0 j).2 : Int) ∧ At w wr bb T M C S H' (pl X s0 j).1) (fun v i _ => len - (intOf i).toNat)
 case atStart => exact ⟨0, H, by omega, by omega, rfl, rfl, h3⟩
 case round =>
  clear h3
  obtain ⟨j, H1, hj, hj60, rfl, rfl, hA⟩ := hrel
  by_cases h3 : j < len ∧ j < 60
  ·have hlt : (j : Int) < (len : Int) := by omega
   have h60 : (j : Int) < 60 := by omega
   have d1 : decide ((j : Int) < (len : Int)) = true := decide_eq_true hlt
   have d2 : decide ((j : Int) < 60) = true := decide_eq_true h60
   obtain ⟨rfl, hsb⟩ := hX.is (by omega)
   have hP := hinv j (by omega)
   have haj := hX.big j h3.1
   have hat : ∀ {W : World}, Below w.heap.size w W → acAt W sb off j (X j) := fun hb => (hX.below hb).at_ h3.1
   have hnx1 : (pl X s0 (j + 1)).1 = ((pl X s0 j).1.apply (recOf (pl X s0 j).1.seq (pl X s0 j).2 (X j))).1 := rfl
   have hnx2 : (pl X s0 (j + 1)).2 = nextOf (pl X s0 j).2 (X j) := rfl
   have HX1 := Lib.hid hnx1
   have HX2 := Lib.hid hnx2
   clear hnx1 hnx2 hinv
   generalize (pl X s0 j).1 = s at *
   generalize (pl X s0 j).2 = nw at *
   generalize X j = aj at *
   have q1_ := hP.seq
   have q2_ := hP.at_
   have hyy := recOf_ok (seq := s.seq) (now := nw) (by omega) (by omega) haj
   have hrec := fun W => record_c (seq := s.seq) (now := nw) (a := aj) (by omega) (by omega) haj W
   generalize hy : recOf s.seq nw aj = yy at *
   generalize hn2 : nextOf nw aj = nw2 at *
   clear hy hn2
   have hap := fun {W : World} {H : Nat → Prop} (h : At w W bb T M C S H s) => apply1_a (x := yy) (t := (s.apply yy).1) (r := (s.apply yy).2.1) (n := (s.apply yy).2.2) hP.ok hyy rfl rfl h
   have hseq := fun (W : World) (hb : Below wr.heap.size wr W) => seq_s (hA.below hb)
   have hwl := hA.since
   have mk : ∀ W, Below wr.heap.size wr W → W.cell? ⟨sb, off + j * 9, none⟩ = some (.int .u64 aj.ticks) ∧ W.cell? ⟨sb, off + j * 9 + 1, none⟩ = some (.int .u64 aj.ses) ∧ W.cell? ⟨sb, off + j * 9 + 2, none⟩ = some (.int .u64 aj.num) ∧ W.cell? ⟨sb, off + j * 9 + 3, none⟩ = some (.int .i64 aj.op.kind) ∧ W.cell? ⟨sb, off + j * 9 + 4, none⟩ = some (.string (str aj.op.key)) ∧ W.cell? ⟨sb, off + j * 9 + 5, none⟩ = some (.string (str aj.op.val)) ∧ W.cell? ⟨sb, off + j * 9 + 6, none⟩ = some (.int .u64 aj.op.ttl) ∧ W.cell? ⟨sb, off + j * 9 + 7, none⟩ = some (.int .u64 aj.op.ver) ∧ W.cell? ⟨sb, off + j * 9 + 8, none⟩ = some (.int .i64 aj.skip) := fun W hb => hat (hwl.trans (hb.mono hwl.size))
   have hb2 : Below wr.heap.size wr wr.drew := ⟨rfl, rfl, rfl, Nat.le_refl _, fun _ _ => rfl⟩
   generalize hrr : (s.apply yy).2.1 = rr at *
   generalize hne : (s.apply yy).2.2 = ne at *
   clear hrr hne
   go_upto_region 6 with (fail)
   go_cut [11, 12] from 27 to 43 (fun v11 v12 wx => ∃ q, v11 = .pointer (some ⟨q, 0, none⟩) ∧ v12 = .int .u64 nw2 ∧ Below wr.heap.size wr wx ∧ Blk wx q 38 yy.cs)
   case first =>
    refine region_only 14 #[false, false, false, false, false, false, false, false, false, false, false, false, false, false] (S := fun W => W.cell? ⟨sb, off + j * 9, none⟩ = some (.int .u64 aj.ticks) ∧ W.cell? ⟨sb, off + j * 9 + 1, none⟩ = some (.int .u64 aj.ses) ∧ W.cell? ⟨sb, off + j * 9 + 2, none⟩ = some (.int .u64 aj.num) ∧ W.cell? ⟨sb, off + j * 9 + 3, none⟩ = some (.int .i64 aj.op.kind) ∧ W.cell? ⟨sb, off + j * 9 + 4, none⟩ = some (.string (str aj.op.key)) ∧ W.cell? ⟨sb, off + j * 9 + 5, none⟩ = some (.string (str aj.op.val)) ∧ W.cell? ⟨sb, off + j * 9 + 6, none⟩ = some (.int .u64 aj.op.ttl) ∧ W.cell? ⟨sb, off + j * 9 + 7, none⟩ = some (.int .u64 aj.op.ver) ∧ W.cell? ⟨sb, off + j * 9 + 8, none⟩ = some (.int .i64 aj.skip)) rfl rfl (by kernel_rfl) (mk _ hb2) (fun hSw => ?_)
    generalize wr.drew = w2 at *
    refine tkA 0 30 13 ?_ rfl rfl ?_ hSw ?_
    rotate_left
    ·intro wx hSx; (try dsimp only at hSx); go_split_ands; go_simp; (try with_reducible rfl)
    simp only [sA, List.set_cons_zero, sC]
    refine tkA 2 32 12 ?_ rfl rfl ?_ hSw ?_
    rotate_left
    ·intro wx hSx; (try dsimp only at hSx); go_split_ands; go_simp; (try with_reducible rfl)
    simp only [sA, List.set_cons_zero, sC]
    refine tkA 3 33 11 ?_ rfl rfl ?_ hSw ?_
    rotate_left
    ·intro wx hSx; (try dsimp only at hSx); go_split_ands; go_simp; (try with_reducible rfl)
    simp only [sA, List.set_cons_zero, sC]
    refine tkA 4 34 10 ?_ rfl rfl ?_ hSw ?_
    rotate_left
    ·intro wx hSx; (try dsimp only at hSx); go_split_ands; go_simp; (try with_reducible rfl)
    simp only [sA, List.set_cons_zero, sC]
    refine tkA 5 35 9 ?_ rfl rfl ?_ hSw ?_
    rotate_left
    ·intro wx hSx; (try dsimp only at hSx); go_split_ands; go_simp; (try with_reducible rfl)
    simp only [sA, List.set_cons_zero, sC]
    refine tkA 6 36 8 ?_ rfl rfl ?_ hSw ?_
    rotate_left
    ·intro wx hSx; (try dsimp only at hSx); go_split_ands; go_simp; (try with_reducible rfl)
    simp only [sA, List.set_cons_zero, sC]
    refine wpAnyH_ready (fuel := 7) (rs := [1, 11]) (by kernel_rfl) (by simp) (AllReadyH.cons rfl (fun K hK => ?_) (AllReadyH.cons rfl (fun K hK => ?_) AllReadyH.nil))
    ·go_simp
     refine (hseq _ hb2).mono ?_
     rintro e wq ⟨rfl, rfl⟩
     refine hK.out _ _ (mk _ hb2) (fun hSw => ?_)
     clear hK K
     simp only [sA, List.set_cons_zero, sC]
     refine wpAnyH_ready (fuel := 6) (rs := [7, 11]) (by kernel_rfl) (by simp) (AllReadyH.cons rfl (fun K hK => ?_) (AllReadyH.cons rfl (fun K hK => ?_) AllReadyH.nil))
     ·go_simp
      refine (hrec _).mono ?_
      rintro e wv ⟨rfl, hbv⟩
      have hbv2 := hb2.trans (hbv.mono hb2.size)
      refine hK.out _ _ (mk _ hbv2) (fun hSw => ?_)
      clear hK K
      simp only [sA, List.set_cons_zero, sC]
      refine tkA 8 29 5 ?_ rfl rfl ?_ hSw ?_
      rotate_left
      ·intro wx hSx; (try dsimp only at hSx); go_split_ands; go_simp; (try with_reducible rfl)
      simp only [sA, List.set_cons_zero, sC]
      refine tkA 9 38 4 ?_ rfl rfl ?_ hSw ?_
      rotate_left
      ·intro wx hSx; (try dsimp only at hSx); go_split_ands; go_simp; (try with_reducible rfl)
      simp only [sA, List.set_cons_zero, sC]
      refine tkA 10 39 3 ?_ rfl rfl ?_ hSw ?_
      rotate_left
      ·intro wx hSx; (try dsimp only at hSx); go_split_ands; go_simp; (try with_reducible rfl)
      simp only [sA, List.set_cons_zero, sC]
      refine rdA 2 11 rfl fun K hK => ?_
      go_simp
      have hp0 := Blk.new wv 38 #[.int .u64 0, .int .u64 0, .int .u64 0, .int .u64 0, .int .i64 0, .string ⟨#[]⟩, .string ⟨#[]⟩, .int .u64 0, .int .u64 0]
      have hba := hbv2.alloc hbv2.size (.cells #[.int .u64 0, .int .u64 0, .int .u64 0, .int .u64 0, .int .i64 0, .string ⟨#[]⟩, .string ⟨#[]⟩, .int .u64 0, .int .u64 0] 38)
      refine hK.out _ _ (mk _ hba) (fun hSw => ?_)
      clear hK K
      simp only [sA, List.set_cons_zero, sC]
      refine rdA 1 12 rfl fun K hK => ?_
      go_simp
      have hp3 := Blk.new wv 38 yy.cs
      have hb3 := hbv2.alloc hbv2.size (.cells yy.cs 38)
      refine hK.out _ _ (mk _ hb3) (fun hSw => ?_)
      clear hK K
      simp only [sA, List.set_cons_zero, sC]
      refine tkA 13 12 0 ?_ rfl rfl ?_ hSw ?_
      rotate_left
      ·intro wx hSx; (try dsimp only at hSx); go_split_ands; go_simp; (try with_reducible rfl)
      simp only [sA, List.set_cons_zero, sC]
      refine wpAnyH_done (by kernel_rfl) ⟨rfl, ?_⟩ 0
      go_wp2_with fail
      go_meet
      exact ⟨_, rfl, rfl, hb3, hp3⟩
     ·go_simp
      have hp0 := Blk.new w2 38 #[.int .u64 0, .int .u64 0, .int .u64 0, .int .u64 0, .int .i64 0, .string ⟨#[]⟩, .string ⟨#[]⟩, .int .u64 0, .int .u64 0]
      have hba := hb2.alloc hb2.size (.cells #[.int .u64 0, .int .u64 0, .int .u64 0, .int .u64 0, .int .i64 0, .string ⟨#[]⟩, .string ⟨#[]⟩, .int .u64 0, .int .u64 0] 38)
      refine hK.out _ _ (mk _ hba) (fun hSw => ?_)
      clear hK K
      simp only [sA, List.set_cons_zero, sC]
      refine rdA 5 7 rfl fun K hK => ?_
      go_simp
      refine (hrec _).mono ?_
      rintro e wv ⟨rfl, hbv⟩
      have hbv2 := hba.trans (hbv.mono hba.size)
      have hpv := hp0.below hbv hp0.lt
      refine hK.out _ _ (mk _ hbv2) (fun hSw => ?_)
      clear hK K
      simp only [sA, List.set_cons_zero, sC]
      refine tkA 8 29 4 ?_ rfl rfl ?_ hSw ?_
      rotate_left
      ·intro wx hSx; (try dsimp only at hSx); go_split_ands; go_simp; (try with_reducible rfl)
      simp only [sA, List.set_cons_zero, sC]
      refine tkA 9 38 3 ?_ rfl rfl ?_ hSw ?_
      rotate_left
      ·intro wx hSx; (try dsimp only at hSx); go_split_ands; go_simp; (try with_reducible rfl)
      simp only [sA, List.set_cons_zero, sC]
      refine tkA 10 39 2 ?_ rfl rfl ?_ hSw ?_
      rotate_left
      ·intro wx hSx; (try dsimp only at hSx); go_split_ands; go_simp; (try with_reducible rfl)
      simp only [sA, List.set_cons_zero, sC]
      refine rdA 1 12 rfl fun K hK => ?_
      go_simp
      have hle : wr.heap.size ≤ w2.heap.size := hb2.size
      have g0 := hpv.free 0
      have g1 := hpv.free 1
      have g2 := hpv.free 2
      have g3 := hpv.free 3
      have g4 := hpv.free 4
      have g5 := hpv.free 5
      have g6 := hpv.free 6
      have g7 := hpv.free 7
      have g8 := hpv.free 8
      have c0 : wv.cell? ⟨w2.heap.size, 0, none⟩ = some (.int .u64 0) := hpv.cell 0
      have c1 : wv.cell? ⟨w2.heap.size, 1, none⟩ = some (.int .u64 0) := hpv.cell 1
      have c2 : wv.cell? ⟨w2.heap.size, 2, none⟩ = some (.int .u64 0) := hpv.cell 2
      have c3 : wv.cell? ⟨w2.heap.size, 3, none⟩ = some (.int .u64 0) := hpv.cell 3
      have c4 : wv.cell? ⟨w2.heap.size, 4, none⟩ = some (.int .i64 0) := hpv.cell 4
      have c5 : wv.cell? ⟨w2.heap.size, 5, none⟩ = some (.string ⟨#[]⟩) := hpv.cell 5
      have c6 : wv.cell? ⟨w2.heap.size, 6, none⟩ = some (.string ⟨#[]⟩) := hpv.cell 6
      have c7 : wv.cell? ⟨w2.heap.size, 7, none⟩ = some (.int .u64 0) := hpv.cell 7
      have c8 : wv.cell? ⟨w2.heap.size, 8, none⟩ = some (.int .u64 0) := hpv.cell 8
      go_simp
      have hp3 := put9 hpv (.int .u64 yy.seq) (.int .u64 yy.now) (.int .u64 yy.ses) (.int .u64 yy.num) (.int .i64 yy.op.kind) (.string (str yy.op.key)) (.string (str yy.op.val)) (.int .u64 yy.op.ttl) (.int .u64 yy.op.ver)
      have hb3 := below9 hbv2 (g := w2.heap.size) hle (.int .u64 yy.seq) (.int .u64 yy.now) (.int .u64 yy.ses) (.int .u64 yy.num) (.int .i64 yy.op.kind) (.string (str yy.op.key)) (.string (str yy.op.val)) (.int .u64 yy.op.ttl) (.int .u64 yy.op.ver)
      refine hK.out _ _ (mk _ hb3) (fun hSw => ?_)
      clear hK K
      simp only [sA, List.set_cons_zero, sC]
      refine tkA 13 12 0 ?_ rfl rfl ?_ hSw ?_
      rotate_left
      ·intro wx hSx; (try dsimp only at hSx); go_split_ands; go_simp; (try with_reducible rfl)
      simp only [sA, List.set_cons_zero, sC]
      refine wpAnyH_done (by kernel_rfl) ⟨rfl, ?_⟩ 0
      go_wp2_with fail
      go_meet
      exact ⟨_, rfl, rfl, hb3, hp3⟩
    ·go_simp
     have hp0 := Blk.new w2 38 #[.int .u64 0, .int .u64 0, .int .u64 0, .int .u64 0, .int .i64 0, .string ⟨#[]⟩, .string ⟨#[]⟩, .int .u64 0, .int .u64 0]
     have hba := hb2.alloc hb2.size (.cells #[.int .u64 0, .int .u64 0, .int .u64 0, .int .u64 0, .int .i64 0, .string ⟨#[]⟩, .string ⟨#[]⟩, .int .u64 0, .int .u64 0] 38)
     refine hK.out _ _ (mk _ hba) (fun hSw => ?_)
     clear hK K
     simp only [sA, List.set_cons_zero, sC]
     refine rdA 6 1 rfl fun K hK => ?_
     go_simp
     refine (hseq _ hba).mono ?_
     rintro e wq ⟨rfl, rfl⟩
     refine hK.out _ _ (mk _ hba) (fun hSw => ?_)
     clear hK K
     simp only [sA, List.set_cons_zero, sC]
     refine rdA 5 7 rfl fun K hK => ?_
     go_simp
     refine (hrec _).mono ?_
     rintro e wv ⟨rfl, hbv⟩
     have hbv2 := hba.trans (hbv.mono hba.size)
     have hpv := hp0.below hbv hp0.lt
     refine hK.out _ _ (mk _ hbv2) (fun hSw => ?_)
     clear hK K
     simp only [sA, List.set_cons_zero, sC]
     refine tkA 8 29 4 ?_ rfl rfl ?_ hSw ?_
     rotate_left
     ·intro wx hSx; (try dsimp only at hSx); go_split_ands; go_simp; (try with_reducible rfl)
     simp only [sA, List.set_cons_zero, sC]
     refine tkA 9 38 3 ?_ rfl rfl ?_ hSw ?_
     rotate_left
     ·intro wx hSx; (try dsimp only at hSx); go_split_ands; go_simp; (try with_reducible rfl)
     simp only [sA, List.set_cons_zero, sC]
     refine tkA 10 39 2 ?_ rfl rfl ?_ hSw ?_
     rotate_left
     ·intro wx hSx; (try dsimp only at hSx); go_split_ands; go_simp; (try with_reducible rfl)
     simp only [sA, List.set_cons_zero, sC]
     refine rdA 1 12 rfl fun K hK => ?_
     go_simp
     have hle : wr.heap.size ≤ w2.heap.size := hb2.size
     have g0 := hpv.free 0
     have g1 := hpv.free 1
     have g2 := hpv.free 2
     have g3 := hpv.free 3
     have g4 := hpv.free 4
     have g5 := hpv.free 5
     have g6 := hpv.free 6
     have g7 := hpv.free 7
     have g8 := hpv.free 8
     have c0 : wv.cell? ⟨w2.heap.size, 0, none⟩ = some (.int .u64 0) := hpv.cell 0
     have c1 : wv.cell? ⟨w2.heap.size, 1, none⟩ = some (.int .u64 0) := hpv.cell 1
     have c2 : wv.cell? ⟨w2.heap.size, 2, none⟩ = some (.int .u64 0) := hpv.cell 2
     have c3 : wv.cell? ⟨w2.heap.size, 3, none⟩ = some (.int .u64 0) := hpv.cell 3
     have c4 : wv.cell? ⟨w2.heap.size, 4, none⟩ = some (.int .i64 0) := hpv.cell 4
     have c5 : wv.cell? ⟨w2.heap.size, 5, none⟩ = some (.string ⟨#[]⟩) := hpv.cell 5
     have c6 : wv.cell? ⟨w2.heap.size, 6, none⟩ = some (.string ⟨#[]⟩) := hpv.cell 6
     have c7 : wv.cell? ⟨w2.heap.size, 7, none⟩ = some (.int .u64 0) := hpv.cell 7
     have c8 : wv.cell? ⟨w2.heap.size, 8, none⟩ = some (.int .u64 0) := hpv.cell 8
     go_simp
     have hp3 := put9 hpv (.int .u64 yy.seq) (.int .u64 yy.now) (.int .u64 yy.ses) (.int .u64 yy.num) (.int .i64 yy.op.kind) (.string (str yy.op.key)) (.string (str yy.op.val)) (.int .u64 yy.op.ttl) (.int .u64 yy.op.ver)
     have hb3 := below9 hbv2 (g := w2.heap.size) hle (.int .u64 yy.seq) (.int .u64 yy.now) (.int .u64 yy.ses) (.int .u64 yy.num) (.int .i64 yy.op.kind) (.string (str yy.op.key)) (.string (str yy.op.val)) (.int .u64 yy.op.ttl) (.int .u64 yy.op.ver)
     refine hK.out _ _ (mk _ hb3) (fun hSw => ?_)
     clear hK K
     simp only [sA, List.set_cons_zero, sC]
     refine tkA 13 12 0 ?_ rfl rfl ?_ hSw ?_
     rotate_left
     ·intro wx hSx; (try dsimp only at hSx); go_split_ands; go_simp; (try with_reducible rfl)
     simp only [sA, List.set_cons_zero, sC]
     refine wpAnyH_done (by kernel_rfl) ⟨rfl, ?_⟩ 0
     go_wp2_with fail
     go_meet
     exact ⟨_, rfl, rfl, hb3, hp3⟩
   case rest =>
    obtain ⟨q, rfl, rfl, hbx, hpx⟩ := hcut
    have hAx := hA.below hbx
    clear hA mk hseq hrec hat hb2 hbx
    have y0 : wc.cell? ⟨q, 0, none⟩ = some (.int .u64 yy.seq) := hpx.cell 0
    have y1 : wc.cell? ⟨q, 1, none⟩ = some (.int .u64 yy.now) := hpx.cell 1
    have y2 : wc.cell? ⟨q, 2, none⟩ = some (.int .u64 yy.ses) := hpx.cell 2
    have y3 : wc.cell? ⟨q, 3, none⟩ = some (.int .u64 yy.num) := hpx.cell 3
    have y4 : wc.cell? ⟨q, 4, none⟩ = some (.int .i64 yy.op.kind) := hpx.cell 4
    have y5 : wc.cell? ⟨q, 5, none⟩ = some (.string (str yy.op.key)) := hpx.cell 5
    have y6 : wc.cell? ⟨q, 6, none⟩ = some (.string (str yy.op.val)) := hpx.cell 6
    have y7 : wc.cell? ⟨q, 7, none⟩ = some (.int .u64 yy.op.ttl) := hpx.cell 7
    have y8 : wc.cell? ⟨q, 8, none⟩ = some (.int .u64 yy.op.ver) := hpx.cell 8
    go_wp2_with fail
    refine (hap hAx).mono ?_
    rintro e w7 ⟨rfl, H7, h7, s7⟩
    rw [← HX1.out] at h7
    clear hap hAx hpx s7 y0 y1 y2 y3 y4 y5 y6 y7 y8
    have HX3 := HX2
    go_wp2_with fail
    go_roundw
    case rel => exact ⟨j + 1, H7, by omega, by omega, rfl, by rw [HX3.out], h7⟩
    case measure => simp [intOf]; omega
  ·obtain rfl : j = min len 60 := by omega
   clear hinv
   generalize hE1 : (pl X s0 (min len 60)).1 = s at *
   generalize hE2 : (pl X s0 (min len 60)).2 = nw at *
   have HE1 := Lib.hid hE1
   have HE2 := Lib.hid hE2
   have hcc : ¬ min len 60 < len ∨ (min len 60 < len ∧ ¬ min len 60 < 60) := by omega
   generalize hJ : min len 60 = j at *
   have HJ := Lib.hid hJ
   clear hE1 hE2 h3
   rcases hcc with hc1 | ⟨hc1, hc2⟩
   ·have d1 : decide ((j : Int) < (len : Int)) = false := decide_eq_false (by omega)
    have d2 : ¬ (j : Int) < (len : Int) := by omega
    clear hJ
    go_wp2_with fail
    go_ret3
    exact ⟨bb, by rw [HJ.out, HE2.out]; rfl, T, M, C, S, H1, by rw [HJ.out, HE1.out]; exact hA⟩
   ·have d1 : decide ((j : Int) < (len : Int)) = true := decide_eq_true (by omega)
    have d2 : (j : Int) < (len : Int) := by omega
    have d3 : decide ((j : Int) < 60) = false := decide_eq_false (by omega)
    have d4 : ¬ (j : Int) < 60 := by omega
    clear hJ
    go_wp2_with fail
    go_ret3
    exact ⟨bb, by rw [HJ.out, HE2.out]; rfl, T, M, C, S, H1, by rw [HJ.out, HE1.out]; exact hA⟩
end
end Go.Proofs.YtahmpggaicjgoaaGreatDoor.Storey
namespace Go.Proofs.YtahmpggaicjgoaaGreatDoor.Wirey
open Go.ChangeShapes Go.WideShapes Go.ChangeAt Go.RowKit Go.ChangeMaps

abbrev laidAll : List (String × DataW Unit) := [("hawthorn/blake.first", Rows.laid_hawthorn_blake_first), ("hawthorn/blake.orders", Rows.laid_hawthorn_blake_orders), ("hawthorn/blake.columns", Rows.laid_hawthorn_blake_columns)]
theorem gFirst : Tryz.prog.globalNamed "hawthorn/blake.first" = some 0 := by kernel_rfl
theorem gOrders : Tryz.prog.globalNamed "hawthorn/blake.orders" = some 1 := by kernel_rfl
theorem gColumns : Tryz.prog.globalNamed "hawthorn/blake.columns" = some 2 := by kernel_rfl
theorem tFirst : (Tryz.prog.globals[0]?).map (·.type) = some 79 := by kernel_rfl
theorem tOrders : (Tryz.prog.globals[1]?).map (·.type) = some 139 := by kernel_rfl
theorem tColumns : (Tryz.prog.globals[2]?).map (·.type) = some 168 := by kernel_rfl
theorem cells8 : Tryz.prog.cellsOf 79 = 8 := by kernel_rfl
theorem cells10 : Tryz.prog.cellsOf 139 = 10 := by kernel_rfl
theorem cells4 : Tryz.prog.cellsOf 167 = 4 := by kernel_rfl
theorem cellsU32 : Tryz.prog.cellsOf 78 = 1 := by kernel_rfl
theorem cellsU64 : Tryz.prog.cellsOf 22 = 1 := by kernel_rfl
theorem cellsInt : Tryz.prog.cellsOf 3 = 1 := by kernel_rfl
theorem seen_of_var {W : World} {name : String} {g : Nat} {vs : List Value} (hg : Tryz.prog.globalNamed name = some g) (h : W.var? Tryz.prog name = some vs.toArray) (h0 : 0 < vs.length) : Seen W g vs := by
 have hc : ∀ i u, vs[i]? = some u → W.cell? ⟨g, i, none⟩ = some u := fun i u hu => by
  rw [World.var?_cell hg h i, ← hu]; simp
 exact ⟨block_lt_of_cell (hc 0 _ (List.getElem?_eq_getElem h0)), hc⟩
theorem seen_ints {W : World} {name : String} {g : Nat} {t e : TypeId} {n : Nat} {k : IntKind} {zs : List Int} (hg : Tryz.prog.globalNamed name = some g) (hty : (Tryz.prog.globals[g]?).map (·.type) = some t)
  (ht : Tryz.prog.underlying t = some (.array n e)) (he : Tryz.prog.underlying e = some (.int k)) (hce : Tryz.prog.cellsOf e = 1) (hct : Tryz.prog.cellsOf t = n) (h : Lib.VarReads Tryz.prog W name (Lib.tabData k zs)) (h0 : 0 < zs.length) : Seen W g (zs.map fun z => Value.int k z) := by
 obtain ⟨g', t', cs, fuel, p, hg', ht', hvar, hd⟩ := h
 obtain rfl := Option.some.inj (hg.symm.trans hg')
 obtain rfl := Option.some.inj (hty.symm.trans ht')
 have hcs := Lib.cells_of_tab ht he hce hct hd
 refine seen_of_var hg ?_ (by simpa using h0)
 rw [hvar, ← hcs]
def firstZ : List Int := [1779033703, 3144134277, 1013904242, 2773480762, 1359893119, 2600822924, 528734635, 1541459225]
def ordersZ : List Int := [81985529216486895, 16881918945140062035, 13312731748010193300, 8733003861693448440, 10400822202260547645, 3200383143768358425, 14204332651957162635, 15816291393287259690, 8064173457993569445, 11710614767857974480]
def colsZ : List (List Int) := [[0, 4, 8, 12], [1, 5, 9, 13], [2, 6, 10, 14], [3, 7, 11, 15], [0, 5, 10, 15], [1, 6, 11, 12], [2, 7, 8, 13], [3, 4, 9, 14]]
theorem glob_of {W : World} (h : laidMetH Tryz.prog laidAll W) : Glob W := by
 rw [MakeChecks.laidMetH_plain _ _ _ (by kernel_rfl)] at h
 have hL : laidMet Tryz.prog [("hawthorn/blake.first", Lib.tabData .u32 firstZ), ("hawthorn/blake.orders", Lib.tabData .u64 ordersZ), ("hawthorn/blake.columns", .agg (colsZ.map (Lib.tabData .i64)))] W := h
 have h1 := Lib.laidMet.reads hL (.head _)
 have h2 := Lib.laidMet.reads hL (.tail _ (.head _))
 have h3 := Lib.laidMet.reads hL (.tail _ (.tail _ (.head _)))
 refine ⟨?_, ?_, ?_⟩
 ·exact seen_ints gFirst tFirst under8 Tryz.underlying78 cellsU32 cells8 h1 (by decide)
 ·exact seen_ints gOrders tOrders Tryz.underlying139 Tryz.underlying22 cellsU64 cells10 h2 (by decide)
 ·obtain ⟨g', t', cs, fuel, p, hg', ht', hvar, hd⟩ := h3
  obtain rfl := Option.some.inj (gColumns.symm.trans hg')
  obtain rfl := Option.some.inj (tColumns.symm.trans ht')
  have hrow : ∀ i, i < 8 → (cs.toList.drop (i * 4)).take 4 = colV i := by
   intro i hi
   obtain ⟨f', d, q, hds, hdi⟩ := Lib.array_elem under51 hd i hi
   rw [cells4] at hdi
   have hd4 : d = Lib.tabData .i64 (colsZ.getD i []) := by
    rw [List.getElem?_map, List.getElem?_eq_getElem (show i < colsZ.length from hi)] at hds
    rw [List.getD_eq_getElem?_getD, List.getElem?_eq_getElem (show i < colsZ.length from hi)]
    exact (Option.some.inj hds).symm
   rw [hd4] at hdi
   rw [Lib.cells_of_tab Tryz.underlying167 Tryz.underlying3 cellsInt cells4 hdi]
   rcases (by omega : i = 0 ∨ i = 1 ∨ i = 2 ∨ i = 3 ∨ i = 4 ∨ i = 5 ∨ i = 6 ∨ i = 7) with rfl | rfl | rfl | rfl | rfl | rfl | rfl | rfl <;> rfl
  have hc : ∀ i u, colsL[i]? = some u → W.cell? ⟨2, i, none⟩ = some u := by
   intro i u hu
   have hi : i < 32 := by
    rcases Nat.lt_or_ge i 32 with h | h
    ·exact h
    ·rw [List.getElem?_eq_none (by show 32 ≤ i; exact h)] at hu; cases hu
   rw [World.var?_cell gColumns hvar i]
   have h4 := hrow (i / 4) (by omega)
   have h5 : ((cs.toList.drop (i / 4 * 4)).take 4)[i % 4]? = (colV (i / 4))[i % 4]? := by rw [h4]
   rw [List.getElem?_take, if_pos (by omega), List.getElem?_drop, show i / 4 * 4 + i % 4 = i by omega, colV_at (by omega) (by omega)] at h5
   have h6 : colsL[i]? = some (.int .i64 (col (i / 4) (i % 4) : Int)) := by
    unfold colsL
    rw [List.getElem?_map, List.getElem?_range hi]; rfl
   rw [← hu, h6, ← h5]
   simp
  exact ⟨block_lt_of_cell (hc 0 _ rfl), hc⟩
theorem door_met (os : Os) (args : Array Value) : laidMetH Tryz.prog laidAll ((World.doorLaid Tryz.prog 400 os).forCall (fun _ _ => 0) ⟨#[], args, []⟩).memory :=
 laidMetH_of_parts3 (fuel := 8) (laidMet_of_run' 8 (by kernel_rfl) (by kernel_rfl)) (by kernel_rfl) (by kernel_rfl)
end Go.Proofs.YtahmpggaicjgoaaGreatDoor.Wirey
namespace Go.Proofs.YtahmpggaicjgoaaGreatDoor.Storey
open Go.ChangeShapes Go.WideShapes Go.ChangeAt Go.RowKit
open Wirey (Blk Row str str_size str_list str_cat str_inj Kp Glob sumL sumP_c laidAll glob_of door_met)
open Taby (En TabAt Tbl tp find ins drop size ended St)
open Policyy (Pv HeldP StepP Tell)
open Ringy (Key)
open Regy

section
variable {w0 w w' w'' : World} {B b T M C S : Nat} {H H' : Nat → Prop} {s t : Sv} {k : Key} {v : Value} {l : List Key} {o : Opn} {x : Rcd}
theorem out_pl {X : Nat → Ac} {s0 : Sv} (h : s0.p.Out) : ∀ i, (pl X s0 i).1.p.Out
 | 0 => h
 | i + 1 => out_apply (out_pl h i)
set_option maxHeartbeats 4000000 in
set_option maxRecDepth 100000 in
theorem storeDigests_walk (p : Int) (_ : (Lit.int .i64 p).wf = true) (n : Int) (_ : (Lit.int .i64 n).wf = true) (bb : Int) (_ : (Lit.int .i64 bb).wf = true) (seed0 : Int) (wsd : (Lit.int .u64 seed0).wf = true) (ao : Option Addr) (len cap sb off : Nat) (X : Nat → Ac) (aa : Ac) (haa : aa.Big) (w : World) (hX : Acs w ao len sb off X) (hG : Glob w) :
  Calls Tryz.prog 4 #[.agg #[.int .i64 p, .int .i64 n, .int .i64 bb, .int .u64 seed0], .slice ao len cap, .agg aa.cs] w fun e w' => e = .returned (.bool true) ∧ Below w.heap.size w w' := by
 obtain ⟨seed, rfl, hsd⟩ := Arry.u64_nat wsd
 have hfr := cfg_fresh p n bb hsd
 have hmost := hX.most
 unfold maxLen at hmost
 have hpl := pl_inv (X := X) (n := min len 60) hfr (fun i hi => hX.big i (by omega)) (by omega) (min len 60) (Nat.le_refl _)
 have hpc := fun {W : World} (hb : Below w.heap.size w W) => played_c p n bb hsd ao len cap sb off X W (hX.below hb)
 have hPo : (pl X (cfgS p n bb seed) (min len 60)).1.p.Out := by
  have := and15_lt n
  exact out_pl (s0 := cfgS p n bb seed) (outP_new (1 + and1 p) (1 + and15 n) seed (by omega) (by omega) hsd) _
 have hpl2 := hpl.next (by omega) haa
 generalize (pl X (cfgS p n bb seed) (min len 60)).1 = s at *
 generalize (pl X (cfgS p n bb seed) (min len 60)).2 = nw at *
 have q1_ := hpl.seq
 have q2_ := hpl.at_
 have hO := hpl.ok
 have h12 : s.ss.length ≤ 12 := by have := up_len hO.up (n := 8) fun y hy => (hpl.ss y hy).1; omega
 have hrec := fun W => record_c (seq := s.seq) (now := nw) (a := aa) (by omega) (by omega) haa W
 have hyk := recOf_ok (seq := s.seq) (now := nw) (by omega) (by omega) haa
 generalize recOf s.seq nw aa = yy at *
 generalize nextOf nw aa = nw2 at *
 have hO2 := hpl2.ok
 have h122 : (s.apply yy).1.ss.length ≤ 12 := by have := up_len hO2.up (n := 8) fun y hy => (hpl2.ss y hy).1; omega
 have hPo2 : (s.apply yy).1.p.Out := out_apply hPo
 have hap := fun {W w0 : World} {b T M C S : Nat} {H : Nat → Prop} (h : At w0 W b T M C S H s) => apply_s hO hyk h
 clear hpl hpl2 hfr hX q1_ q2_
 generalize (s.apply yy).1 = t at *
 generalize (s.apply yy).2.1 = rr at *
 generalize (s.apply yy).2.2 = ne at *
 have hbc := (Below.refl _ w).alloc (Nat.le_refl _) (.cells #[.int .i64 p, .int .i64 n, .int .i64 bb, .int .u64 seed] 24)
 have hb0 := hbc.alloc hbc.size (.cells aa.cs 43)
 have hA0 : Blk ((w.alloc (.cells #[.int .i64 p, .int .i64 n, .int .i64 bb, .int .u64 seed] 24)).alloc (.cells aa.cs 43)) (w.heap.size + 1) 43 aa.cs := by
  have h := Blk.new (w.alloc (.cells #[.int .i64 p, .int .i64 n, .int .i64 bb, .int .u64 seed] 24)) 43 aa.cs
  rwa [show (w.alloc (.cells #[.int .i64 p, .int .i64 n, .int .i64 bb, .int .u64 seed] 24)).heap.size = w.heap.size + 1 by simp] at h
 go_enter Tryz.func4, Tryz.ntmps4
 go_wp2_with fail
 generalize (w.alloc (.cells #[.int .i64 p, .int .i64 n, .int .i64 bb, .int .u64 seed] 24)).alloc (.cells aa.cs 43) = w0' at *
 generalize w.heap.size + 1 = qa at *
 have hw0 := hb0
 refine (hpc hb0).mono ?_
 rintro e w1 ⟨b, T, M, C, S, H, rfl, h1⟩
 have hA1 := hA0.below h1.since hA0.lt
 replace h1 : At w w1 b T M C S H s := h1.from_ hb0
 clear hpc hb0 hbc hA0 hw0
 go_wp2_with fail
 refine (awake_c _).mono ?_
 rintro e w2 ⟨rfl, hb2⟩
 have h2 := h1.below hb2
 have hA2 := hA1.below hb2 hA1.lt
 clear h1 hA1 hb2
 go_wp2_with fail
 refine (digest_s h2 hO hPo h12 (hG.below h2.since)).mono ?_
 rintro e w3 ⟨rfl, hb3⟩
 have h3 := h2.below hb3
 have hA3 := hA2.below hb3 hA2.lt
 clear h2 hA2 hb3
 go_wp2_with fail
 refine (export_s h3 hO hPo h12).mono ?_
 rintro e w4 ⟨rfl, hb4⟩
 have h4 := h3.below hb4
 have hA4 := hA3.below hb4 hA3.lt
 clear h3 hA3 hb4
 have hl1 := all_len hO hPo
 have hl2 := all_len hO2 hPo2
 go_wp2_with fail
 refine (sumP_c s.all (by omega) w4 (hG.below h4.since)).mono ?_
 rintro e w5 ⟨rfl, hb5⟩
 have h5 := h4.below hb5
 have hA5 := hA4.below hb5 hA4.lt
 clear h4 hA4 hb5
 go_wp2_with fail
 refine (copy_s h5 hO hPo).mono ?_
 rintro e wr ⟨b2, T2, M2, C2, S2, H2, rfl, hB, hbr⟩
 have hA := h5.below hbr
 have hAr := hA5.below hbr hA5.lt
 have hlo := h5.low
 have hBlo := hB.low
 clear hA5 hbr
 go_upto_region 5 with (fail)
 have hseq := fun (W : World) (hb : Below wr.heap.size wr W) => seq_s (hA.below hb)
 have mk : ∀ W, Below wr.heap.size wr W → W.cell? ⟨qa, 0, none⟩ = some (.int .u64 aa.ticks) ∧ W.cell? ⟨qa, 1, none⟩ = some (.int .u64 aa.ses) ∧ W.cell? ⟨qa, 2, none⟩ = some (.int .u64 aa.num) ∧ W.cell? ⟨qa, 3, none⟩ = some (.int .i64 aa.op.kind) ∧ W.cell? ⟨qa, 4, none⟩ = some (.string (str aa.op.key)) ∧ W.cell? ⟨qa, 5, none⟩ = some (.string (str aa.op.val)) ∧ W.cell? ⟨qa, 6, none⟩ = some (.int .u64 aa.op.ttl) ∧ W.cell? ⟨qa, 7, none⟩ = some (.int .u64 aa.op.ver) ∧ W.cell? ⟨qa, 8, none⟩ = some (.int .i64 aa.skip) := fun W hb => by
  have h := hAr.below hb hAr.lt
  exact ⟨h.cell 0, h.cell 1, h.cell 2, h.cell 3, h.cell 4, h.cell 5, h.cell 6, h.cell 7, h.cell 8⟩
 have hb2 : Below wr.heap.size wr wr.drew := ⟨rfl, rfl, rfl, Nat.le_refl _, fun _ _ => rfl⟩
 go_cut [11, 12] from 36 (fun v11 v12 wx => ∃ q, v11 = .pointer (some ⟨q, 0, none⟩) ∧ v12 = .int .u64 nw2 ∧ Below wr.heap.size wr wx ∧ Blk wx q 38 yy.cs ∧ wr.heap.size ≤ q)
 case first =>
  refine region_only 11 #[false, false, false, false, false, false, false, false, false, false, false] (S := fun W => W.cell? ⟨qa, 0, none⟩ = some (.int .u64 aa.ticks) ∧ W.cell? ⟨qa, 1, none⟩ = some (.int .u64 aa.ses) ∧ W.cell? ⟨qa, 2, none⟩ = some (.int .u64 aa.num) ∧ W.cell? ⟨qa, 3, none⟩ = some (.int .i64 aa.op.kind) ∧ W.cell? ⟨qa, 4, none⟩ = some (.string (str aa.op.key)) ∧ W.cell? ⟨qa, 5, none⟩ = some (.string (str aa.op.val)) ∧ W.cell? ⟨qa, 6, none⟩ = some (.int .u64 aa.op.ttl) ∧ W.cell? ⟨qa, 7, none⟩ = some (.int .u64 aa.op.ver) ∧ W.cell? ⟨qa, 8, none⟩ = some (.int .i64 aa.skip)) rfl rfl (by kernel_rfl) (mk _ hb2) (fun hSw => ?_)
  generalize wr.drew = w2 at *
  refine tkA 0 37 10 ?_ rfl rfl ?_ hSw ?_
  rotate_left
  ·intro wx hSx; (try dsimp only at hSx); go_split_ands; go_simp; (try with_reducible rfl)
  simp only [sA, List.set_cons_zero, sC]
  refine tkA 2 39 9 ?_ rfl rfl ?_ hSw ?_
  rotate_left
  ·intro wx hSx; (try dsimp only at hSx); go_split_ands; go_simp; (try with_reducible rfl)
  simp only [sA, List.set_cons_zero, sC]
  refine tkA 3 40 8 ?_ rfl rfl ?_ hSw ?_
  rotate_left
  ·intro wx hSx; (try dsimp only at hSx); go_split_ands; go_simp; (try with_reducible rfl)
  simp only [sA, List.set_cons_zero, sC]
  refine wpAnyH_ready (fuel := 7) (rs := [1, 8]) (by kernel_rfl) (by simp) (AllReadyH.cons rfl (fun K hK => ?_) (AllReadyH.cons rfl (fun K hK => ?_) AllReadyH.nil))
  ·go_simp
   refine (hseq _ hb2).mono ?_
   rintro e wq ⟨rfl, rfl⟩
   refine hK.out _ _ (mk _ hb2) (fun hSw => ?_)
   clear hK K
   simp only [sA, List.set_cons_zero, sC]
   refine wpAnyH_ready (fuel := 6) (rs := [4, 8]) (by kernel_rfl) (by simp) (AllReadyH.cons rfl (fun K hK => ?_) (AllReadyH.cons rfl (fun K hK => ?_) AllReadyH.nil))
   ·go_simp
    refine (hrec _).mono ?_
    rintro e wv ⟨rfl, hbv⟩
    have hbv2 := hb2.trans (hbv.mono hb2.size)
    refine hK.out _ _ (mk _ hbv2) (fun hSw => ?_)
    clear hK K
    simp only [sA, List.set_cons_zero, sC]
    refine tkA 5 36 5 ?_ rfl rfl ?_ hSw ?_
    rotate_left
    ·intro wx hSx; (try dsimp only at hSx); go_split_ands; go_simp; (try with_reducible rfl)
    simp only [sA, List.set_cons_zero, sC]
    refine tkA 6 42 4 ?_ rfl rfl ?_ hSw ?_
    rotate_left
    ·intro wx hSx; (try dsimp only at hSx); go_split_ands; go_simp; (try with_reducible rfl)
    simp only [sA, List.set_cons_zero, sC]
    refine tkA 7 43 3 ?_ rfl rfl ?_ hSw ?_
    rotate_left
    ·intro wx hSx; (try dsimp only at hSx); go_split_ands; go_simp; (try with_reducible rfl)
    simp only [sA, List.set_cons_zero, sC]
    refine rdA 2 8 rfl fun K hK => ?_
    go_simp
    have hp0 := Blk.new wv 38 #[.int .u64 0, .int .u64 0, .int .u64 0, .int .u64 0, .int .i64 0, .string ⟨#[]⟩, .string ⟨#[]⟩, .int .u64 0, .int .u64 0]
    have hba := hbv2.alloc hbv2.size (.cells #[.int .u64 0, .int .u64 0, .int .u64 0, .int .u64 0, .int .i64 0, .string ⟨#[]⟩, .string ⟨#[]⟩, .int .u64 0, .int .u64 0] 38)
    refine hK.out _ _ (mk _ hba) (fun hSw => ?_)
    clear hK K
    simp only [sA, List.set_cons_zero, sC]
    refine rdA 1 9 rfl fun K hK => ?_
    go_simp
    have hp3 := Blk.new wv 38 yy.cs
    have hb3 := hbv2.alloc hbv2.size (.cells yy.cs 38)
    refine hK.out _ _ (mk _ hb3) (fun hSw => ?_)
    clear hK K
    simp only [sA, List.set_cons_zero, sC]
    refine tkA 10 12 0 ?_ rfl rfl ?_ hSw ?_
    rotate_left
    ·intro wx hSx; (try dsimp only at hSx); go_split_ands; go_simp; (try with_reducible rfl)
    simp only [sA, List.set_cons_zero, sC]
    refine wpAnyH_done (by kernel_rfl) ⟨rfl, ?_⟩ 0
    go_wp2_with fail
    go_meet
    exact ⟨_, rfl, rfl, hb3, hp3, by first | exact hb2.size | exact hbv2.size⟩
   ·go_simp
    have hp0 := Blk.new w2 38 #[.int .u64 0, .int .u64 0, .int .u64 0, .int .u64 0, .int .i64 0, .string ⟨#[]⟩, .string ⟨#[]⟩, .int .u64 0, .int .u64 0]
    have hba := hb2.alloc hb2.size (.cells #[.int .u64 0, .int .u64 0, .int .u64 0, .int .u64 0, .int .i64 0, .string ⟨#[]⟩, .string ⟨#[]⟩, .int .u64 0, .int .u64 0] 38)
    refine hK.out _ _ (mk _ hba) (fun hSw => ?_)
    clear hK K
    simp only [sA, List.set_cons_zero, sC]
    refine rdA 5 4 rfl fun K hK => ?_
    go_simp
    refine (hrec _).mono ?_
    rintro e wv ⟨rfl, hbv⟩
    have hbv2 := hba.trans (hbv.mono hba.size)
    have hpv := hp0.below hbv hp0.lt
    refine hK.out _ _ (mk _ hbv2) (fun hSw => ?_)
    clear hK K
    simp only [sA, List.set_cons_zero, sC]
    refine tkA 5 36 4 ?_ rfl rfl ?_ hSw ?_
    rotate_left
    ·intro wx hSx; (try dsimp only at hSx); go_split_ands; go_simp; (try with_reducible rfl)
    simp only [sA, List.set_cons_zero, sC]
    refine tkA 6 42 3 ?_ rfl rfl ?_ hSw ?_
    rotate_left
    ·intro wx hSx; (try dsimp only at hSx); go_split_ands; go_simp; (try with_reducible rfl)
    simp only [sA, List.set_cons_zero, sC]
    refine tkA 7 43 2 ?_ rfl rfl ?_ hSw ?_
    rotate_left
    ·intro wx hSx; (try dsimp only at hSx); go_split_ands; go_simp; (try with_reducible rfl)
    simp only [sA, List.set_cons_zero, sC]
    refine rdA 1 9 rfl fun K hK => ?_
    go_simp
    have hle : wr.heap.size ≤ w2.heap.size := hb2.size
    have g0 := hpv.free 0
    have g1 := hpv.free 1
    have g2 := hpv.free 2
    have g3 := hpv.free 3
    have g4 := hpv.free 4
    have g5 := hpv.free 5
    have g6 := hpv.free 6
    have g7 := hpv.free 7
    have g8 := hpv.free 8
    have c0 : wv.cell? ⟨w2.heap.size, 0, none⟩ = some (.int .u64 0) := hpv.cell 0
    have c1 : wv.cell? ⟨w2.heap.size, 1, none⟩ = some (.int .u64 0) := hpv.cell 1
    have c2 : wv.cell? ⟨w2.heap.size, 2, none⟩ = some (.int .u64 0) := hpv.cell 2
    have c3 : wv.cell? ⟨w2.heap.size, 3, none⟩ = some (.int .u64 0) := hpv.cell 3
    have c4 : wv.cell? ⟨w2.heap.size, 4, none⟩ = some (.int .i64 0) := hpv.cell 4
    have c5 : wv.cell? ⟨w2.heap.size, 5, none⟩ = some (.string ⟨#[]⟩) := hpv.cell 5
    have c6 : wv.cell? ⟨w2.heap.size, 6, none⟩ = some (.string ⟨#[]⟩) := hpv.cell 6
    have c7 : wv.cell? ⟨w2.heap.size, 7, none⟩ = some (.int .u64 0) := hpv.cell 7
    have c8 : wv.cell? ⟨w2.heap.size, 8, none⟩ = some (.int .u64 0) := hpv.cell 8
    go_simp
    have hp3 := put9 hpv (.int .u64 yy.seq) (.int .u64 yy.now) (.int .u64 yy.ses) (.int .u64 yy.num) (.int .i64 yy.op.kind) (.string (str yy.op.key)) (.string (str yy.op.val)) (.int .u64 yy.op.ttl) (.int .u64 yy.op.ver)
    have hb3 := below9 hbv2 (g := w2.heap.size) hle (.int .u64 yy.seq) (.int .u64 yy.now) (.int .u64 yy.ses) (.int .u64 yy.num) (.int .i64 yy.op.kind) (.string (str yy.op.key)) (.string (str yy.op.val)) (.int .u64 yy.op.ttl) (.int .u64 yy.op.ver)
    refine hK.out _ _ (mk _ hb3) (fun hSw => ?_)
    clear hK K
    simp only [sA, List.set_cons_zero, sC]
    refine tkA 10 12 0 ?_ rfl rfl ?_ hSw ?_
    rotate_left
    ·intro wx hSx; (try dsimp only at hSx); go_split_ands; go_simp; (try with_reducible rfl)
    simp only [sA, List.set_cons_zero, sC]
    refine wpAnyH_done (by kernel_rfl) ⟨rfl, ?_⟩ 0
    go_wp2_with fail
    go_meet
    exact ⟨_, rfl, rfl, hb3, hp3, by first | exact hb2.size | exact hbv2.size⟩
  ·go_simp
   have hp0 := Blk.new w2 38 #[.int .u64 0, .int .u64 0, .int .u64 0, .int .u64 0, .int .i64 0, .string ⟨#[]⟩, .string ⟨#[]⟩, .int .u64 0, .int .u64 0]
   have hba := hb2.alloc hb2.size (.cells #[.int .u64 0, .int .u64 0, .int .u64 0, .int .u64 0, .int .i64 0, .string ⟨#[]⟩, .string ⟨#[]⟩, .int .u64 0, .int .u64 0] 38)
   refine hK.out _ _ (mk _ hba) (fun hSw => ?_)
   clear hK K
   simp only [sA, List.set_cons_zero, sC]
   refine rdA 6 1 rfl fun K hK => ?_
   go_simp
   refine (hseq _ hba).mono ?_
   rintro e wq ⟨rfl, rfl⟩
   refine hK.out _ _ (mk _ hba) (fun hSw => ?_)
   clear hK K
   simp only [sA, List.set_cons_zero, sC]
   refine rdA 5 4 rfl fun K hK => ?_
   go_simp
   refine (hrec _).mono ?_
   rintro e wv ⟨rfl, hbv⟩
   have hbv2 := hba.trans (hbv.mono hba.size)
   have hpv := hp0.below hbv hp0.lt
   refine hK.out _ _ (mk _ hbv2) (fun hSw => ?_)
   clear hK K
   simp only [sA, List.set_cons_zero, sC]
   refine tkA 5 36 4 ?_ rfl rfl ?_ hSw ?_
   rotate_left
   ·intro wx hSx; (try dsimp only at hSx); go_split_ands; go_simp; (try with_reducible rfl)
   simp only [sA, List.set_cons_zero, sC]
   refine tkA 6 42 3 ?_ rfl rfl ?_ hSw ?_
   rotate_left
   ·intro wx hSx; (try dsimp only at hSx); go_split_ands; go_simp; (try with_reducible rfl)
   simp only [sA, List.set_cons_zero, sC]
   refine tkA 7 43 2 ?_ rfl rfl ?_ hSw ?_
   rotate_left
   ·intro wx hSx; (try dsimp only at hSx); go_split_ands; go_simp; (try with_reducible rfl)
   simp only [sA, List.set_cons_zero, sC]
   refine rdA 1 9 rfl fun K hK => ?_
   go_simp
   have hle : wr.heap.size ≤ w2.heap.size := hb2.size
   have g0 := hpv.free 0
   have g1 := hpv.free 1
   have g2 := hpv.free 2
   have g3 := hpv.free 3
   have g4 := hpv.free 4
   have g5 := hpv.free 5
   have g6 := hpv.free 6
   have g7 := hpv.free 7
   have g8 := hpv.free 8
   have c0 : wv.cell? ⟨w2.heap.size, 0, none⟩ = some (.int .u64 0) := hpv.cell 0
   have c1 : wv.cell? ⟨w2.heap.size, 1, none⟩ = some (.int .u64 0) := hpv.cell 1
   have c2 : wv.cell? ⟨w2.heap.size, 2, none⟩ = some (.int .u64 0) := hpv.cell 2
   have c3 : wv.cell? ⟨w2.heap.size, 3, none⟩ = some (.int .u64 0) := hpv.cell 3
   have c4 : wv.cell? ⟨w2.heap.size, 4, none⟩ = some (.int .i64 0) := hpv.cell 4
   have c5 : wv.cell? ⟨w2.heap.size, 5, none⟩ = some (.string ⟨#[]⟩) := hpv.cell 5
   have c6 : wv.cell? ⟨w2.heap.size, 6, none⟩ = some (.string ⟨#[]⟩) := hpv.cell 6
   have c7 : wv.cell? ⟨w2.heap.size, 7, none⟩ = some (.int .u64 0) := hpv.cell 7
   have c8 : wv.cell? ⟨w2.heap.size, 8, none⟩ = some (.int .u64 0) := hpv.cell 8
   go_simp
   have hp3 := put9 hpv (.int .u64 yy.seq) (.int .u64 yy.now) (.int .u64 yy.ses) (.int .u64 yy.num) (.int .i64 yy.op.kind) (.string (str yy.op.key)) (.string (str yy.op.val)) (.int .u64 yy.op.ttl) (.int .u64 yy.op.ver)
   have hb3 := below9 hbv2 (g := w2.heap.size) hle (.int .u64 yy.seq) (.int .u64 yy.now) (.int .u64 yy.ses) (.int .u64 yy.num) (.int .i64 yy.op.kind) (.string (str yy.op.key)) (.string (str yy.op.val)) (.int .u64 yy.op.ttl) (.int .u64 yy.op.ver)
   refine hK.out _ _ (mk _ hb3) (fun hSw => ?_)
   clear hK K
   simp only [sA, List.set_cons_zero, sC]
   refine tkA 10 12 0 ?_ rfl rfl ?_ hSw ?_
   rotate_left
   ·intro wx hSx; (try dsimp only at hSx); go_split_ands; go_simp; (try with_reducible rfl)
   simp only [sA, List.set_cons_zero, sC]
   refine wpAnyH_done (by kernel_rfl) ⟨rfl, ?_⟩ 0
   go_wp2_with fail
   go_meet
   exact ⟨_, rfl, rfl, hb3, hp3, by first | exact hb2.size | exact hbv2.size⟩
 case rest =>
 obtain ⟨q, rfl, rfl, hbx, hpx, hql⟩ := hcut
 have hBx := hB.below hbx
 clear hAr mk hseq hrec hb2 hB
 have y0 : wc.cell? ⟨q, 0, none⟩ = some (.int .u64 yy.seq) := hpx.cell 0
 have y1 : wc.cell? ⟨q, 1, none⟩ = some (.int .u64 yy.now) := hpx.cell 1
 have y2 : wc.cell? ⟨q, 2, none⟩ = some (.int .u64 yy.ses) := hpx.cell 2
 have y3 : wc.cell? ⟨q, 3, none⟩ = some (.int .u64 yy.num) := hpx.cell 3
 have y4 : wc.cell? ⟨q, 4, none⟩ = some (.int .i64 yy.op.kind) := hpx.cell 4
 have y5 : wc.cell? ⟨q, 5, none⟩ = some (.string (str yy.op.key)) := hpx.cell 5
 have y6 : wc.cell? ⟨q, 6, none⟩ = some (.string (str yy.op.val)) := hpx.cell 6
 have y7 : wc.cell? ⟨q, 7, none⟩ = some (.int .u64 yy.op.ttl) := hpx.cell 7
 have y8 : wc.cell? ⟨q, 8, none⟩ = some (.int .u64 yy.op.ver) := hpx.cell 8
 go_wp2_with fail
 refine (hap hBx).mono ?_
 rintro e w6 ⟨rfl, H6, hB6, hs6⟩
 have h6 : At w w6 b T M C S H s := (hA.below hbx).kp hs6.kp fun k hk => ⟨Nat.le_trans h5.since.size (hBx.low k hk).1, fun ho => by have := (hlo k ho).2; have := (hBx.low k hk).1; omega⟩
 clear hA hBx hbx hpx y0 y1 y2 y3 y4 y5 y6 y7 y8 hs6 hlo hBlo hap h5
 go_wp2_with fail
 refine (export_s h6 hO hPo h12).mono ?_
 rintro e w7 ⟨rfl, hb7⟩
 have h7 := h6.below hb7
 have hB7 := hB6.below hb7
 clear h6 hB6 hb7
 go_wp2_with fail
 refine (export_s hB7 hO2 hPo2 h122).mono ?_
 rintro e w8 ⟨rfl, hb8⟩
 have h8 := h7.below hb8
 have hB8 := hB7.below hb8
 clear h7 hB7 hb8
 go_wp2_with fail
 refine (digest_s h8 hO hPo h12 (hG.below h8.since)).mono ?_
 rintro e w9 ⟨rfl, hb9⟩
 have h9 := h8.below hb9
 have hB9 := hB8.below hb9
 clear h8 hB8 hb9
 go_wp2_with fail
 refine (digest_s hB9 hO2 hPo2 h122 (hG.below h9.since)).mono ?_
 rintro e wa ⟨rfl, hba⟩
 have ha := h9.below hba
 have hBa := hB9.below hba
 clear h9 hB9 hba
 have hE1 := fun (W : World) (h : At w W b T M C S H s) => export_s h hO hPo h12
 have hE2 := fun (W : World) (h : At w5 W b2 T2 M2 C2 S2 H6 t) => export_s h hO2 hPo2 h122
 have hfin := ha.since
 generalize s.all = x at *
 generalize t.all = y at *
 have htl : ∀ l : List UInt8, (str l).toList = l := fun l => ByteArray.toList_eq (str l)
 simp only [htl]
 by_cases c : x = y
 ·subst c
  have d1 : (x == x) = true := by simp
  have d2 : (sumL x == sumL x) = true := by simp
  simp only [d1]
  clear hE1 hE2 ha hBa
  go_wp2_with fail
  go_ret
  exact ⟨rfl, hfin⟩
 have d1 : (x == y) = false := beq_eq_false_iff_ne.2 c
 by_cases c2 : sumL x = sumL y
 rotate_left
 ·have d2 : (sumL x == sumL y) = false := beq_eq_false_iff_ne.2 c2
  simp only [d1]
  clear hE1 hE2 ha hBa
  go_wp2_with fail
  go_ret
  exact ⟨rfl, hfin⟩
 have d2 : (sumL x == sumL y) = true := by rw [c2]; simp
 simp only [d1]
 go_wp2_with fail
 refine (hE1 _ ha).mono ?_
 rintro e wb ⟨rfl, hbb⟩
 have hb_ := ha.below hbb
 have hBb := hBa.below hbb
 clear ha hBa hbb hfin hE1
 go_wp2_with fail
 refine (sumP_c x (by omega) wb (hG.below hb_.since)).mono ?_
 rintro e wd ⟨rfl, hbd⟩
 have hd_ := hb_.below hbd
 have hBd := hBb.below hbd
 clear hb_ hBb hbd
 go_wp2_with fail
 refine (hE2 _ hBd).mono ?_
 rintro e we ⟨rfl, hbe⟩
 have he_ := hd_.below hbe
 clear hd_ hBd hbe hE2
 go_wp2_with fail
 refine (sumP_c y (by omega) we (hG.below he_.since)).mono ?_
 rintro e wf ⟨rfl, hbf⟩
 have hf_ := (he_.below hbf).since
 clear he_ hbf
 go_wp2_with fail
 go_ret
 exact ⟨rfl, hf_⟩
set_option linter.unusedVariables false in
set_option maxRecDepth 100000 in
theorem storeDigests_lifted (os : Os) (started : os.Started) (H : Type) (enc : TypeId × Value → H) :
  ReturnsInHanded {} Tryz.checked os 4 .any (fun w args => (Rows.storeDigestsSpec.pre enc Tryz.prog Tryz.f4 [] false w args ∧ laidMetH Tryz.prog laidAll w) ∧ sizedMet enc Tryz.prog Tryz.f4 (OpenSpec.ofChange Rows.storeDigestsSpec) false w args) (Rows.storeDigestsSpec.post enc Tryz.prog Tryz.f4 false true false false) := by
 refine returnsInHanded_of_change_and (C := Tryz.checked) (X := fun w _ => laidMetH Tryz.prog laidAll w) (fun _ _ _ hh h => h.of_heap hh) Kit.own started (by kernel_rfl) Tryz.func4
  (ChangeSpec.witness_shaped (enc := enc) (C := Tryz.checked) (os := os) (X := fun w _ => laidMetH Tryz.prog laidAll w) false (World.doorLaid Tryz.prog 400 os) #[.agg #[.int .i64 0, .int .i64 0, .int .i64 0, .int .u64 0], .slice none 0 0, .agg #[.int .u64 0, .int .u64 0, .int .u64 0, .int .i64 0, .string ⟨#[]⟩, .string ⟨#[]⟩, .int .u64 0, .int .u64 0, .int .i64 0]] 8 rfl (World.shaped_of_RefB (by kernel_rfl) (by kernel_rfl)) (by kernel_rfl) (by kernel_rfl) (by kernel_rfl) (door_met os _)) ?_
 intro W base args ds gs before hval0 hW _ _ hL _
 have hval : ∀ (j : Nat) t v, Tryz.f4.params[j]? = some t → args[j]? = some v → Value.okWide Tryz.prog W .any base t v := hval0
 have hW' := hW
 obtain ⟨p, q, hA0, hV, rfl, hfz, hnd⟩ := hW
 have hA : DataW.TrodAll enc Tryz.prog W 0 (fun _ => true) true Tryz.f4.params.toList args.toList ds p := hA0
 rw [Tryz.params4] at hA hval
 obtain ⟨v0, vs0, d0, ds0, p0, q0, hargs, rfl, rfl, h0, r0⟩ := trodAll_cons hA
 obtain ⟨v1, vs1, d1, ds1, p1, q1, rfl, rfl, rfl, h1, r1⟩ := trodAll_cons r0
 obtain ⟨v2, vs2, d2, ds2, p2, q2, rfl, rfl, rfl, h2, r2⟩ := trodAll_cons r1
 obtain ⟨rfl, rfl, rfl⟩ := trodAll_nil r2
 obtain ⟨rfl, rfl⟩ := trodVars_none hV
 obtain rfl : args = #[v0, v1, v2] := by cases args; simp_all
 obtain ⟨c0_0, c0_1, c0_2, c0_3, y0_0, y0_1, y0_2, y0_3, m0, rfl, rfl, rfl, hy0_0, hy0_1, hy0_2, hy0_3⟩ := Joins.open_agg4 Tryz.underlying24 (by kernel_rfl) (by kernel_rfl) (hval 0 24 v0 rfl rfl) h0
 obtain ⟨a0_0, e0_0, rfl, w0_0⟩ := DataW.trod_int Tryz.underlying3 hy0_0
 obtain rfl := (List.cons.inj e0_0).1
 obtain ⟨a0_1, e0_1, rfl, w0_1⟩ := DataW.trod_int Tryz.underlying3 hy0_1
 obtain rfl := (List.cons.inj e0_1).1
 obtain ⟨a0_2, e0_2, rfl, w0_2⟩ := DataW.trod_int Tryz.underlying3 hy0_2
 obtain rfl := (List.cons.inj e0_2).1
 obtain ⟨a0_3, e0_3, rfl, w0_3⟩ := DataW.trod_int Tryz.underlying22 hy0_3
 obtain rfl := (List.cons.inj e0_3).1
 obtain ⟨b1, c1, e1, rfl⟩ := okWide_slice Tryz.underlying25 (hval 1 25 v1 rfl rfl)
 obtain ⟨fuel1, hf1⟩ := h1
 obtain ⟨ao1, len1, cap1, sb1, off1, tx1, hv1, ht1⟩ := open_acs (show DataW.trod enc Tryz.prog W 0 (fun _ => true) true fuel1 25 [.slice b1 c1 e1] = some _ from hf1)
 injection hv1 with hv1x hv1y hv1z
 subst hv1x hv1y hv1z
 obtain ⟨cs2, rfl, -⟩ := okWide_struct Tryz.underlying43 (hval 2 43 v2 rfl rfl)
 obtain ⟨fuel2, hf2⟩ := h2
 obtain ⟨a2, e2x, ha2, -⟩ := open_ac hf2
 obtain rfl : cs2 = a2.cs := by cases cs2; simpa [Value.cells, Ac.row] using e2x
 clear hA0 hval0
 refine (storeDigests_walk a0_0 w0_0 a0_1 w0_1 a0_2 w0_2 a0_3 w0_3 _ _ _ _ _ _ a2 ha2 W ht1 (glob_of hL)).mono fun e W' ⟨he, hg⟩ => ?_
 subst he
 exact ⟨_, rfl, Kit.law_post hW' rfl (by kernel_rfl) rfl (by kernel_rfl) hg⟩

theorem storeDigests_holds : Rows.StoreDigestsSaid :=
 OpenClaim.holds_of_wide 4 Tryz.f4 rfl rfl rfl rfl rfl rfl rfl ⟨rfl, rfl, rfl, rfl, rfl⟩ rfl rfl rfl rfl rfl (by kernel_rfl) Tryz.func4 (by kernel_rfl)
  (of_decide_eq_true (by kernel_rfl)) (by unfold Func.isWrapper; first | (rw [if_pos (by decide +kernel)]; kernel_rfl) | (rw [if_neg (by decide +kernel)]; exact ⟨rfl, rfl⟩))
  (fun os started H enc _ => storeDigests_lifted os started H enc)

theorem storeDigests_card : Rows.StoreDigestsCardSaid :=
 Claim7.holds_tied_plain_at .later [] Rows.storeDigestsCard.laidKinds true Rows.storeDigestsCard.stood.harness Rows.storeDigestsCard.stood.looks
  storeDigests_holds (fun _ h => by cases h) (by kernel_rfl) (fun _ h => by cases h) storeDigests_row_tie rfl ⟨rfl, rfl⟩ (by kernel_rfl) rfl
  (fun f fn hf hfn => by
    obtain rfl : f = 4 := Option.some.inj ((show Tryz.prog.funcNamed "hawthorn/hawthornlaw12.StoreDigests" = some 4 by kernel_rfl).symm.trans hf) |>.symm
    obtain rfl : fn = Tryz.f4 := (Option.some.inj (Tryz.func4.symm.trans hfn)).symm
    exact ⟨by kernel_rfl, fun j t ht => by
      rw [Tryz.params4] at ht
      have hm : t ∈ [24, 25, 43] := by simpa using Array.mem_of_getElem? ht
      have hall : ([24, 25, 43].all fun u => !Tryz.prog.wantsStandIn u) = true := by kernel_rfl
      exact (show Tryz.prog.wantsStandIn t = false by simpa using List.all_eq_true.1 hall t hm)⟩)
  (by kernel_rfl)

end
end Go.Proofs.YtahmpggaicjgoaaGreatDoor.Storey
