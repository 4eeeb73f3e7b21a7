/- A cache to which acts came, one by one: what holds of it. The only condition: the acts are as they may be handed in. -/
import Derived.Test.YtlnjnpchkdipdaaGreatStoreRec
namespace Go.Proofs.YtlnjnpchkdipdaaGreat.Storey
open Go.ChangeShapes Go.WideShapes Go.ChangeAt Go.RowKit
open Wirey (Blk Row str str_size str_list Kp)
open Taby (En TabAt Tbl tp find ins drop size ended St)
open Policyy (Pv HeldP StepP Tell)
open Ringy (Key)
open Regy

section
variable {w0 w w' w'' : World} {B b T M C S : Nat} {H H' : Nat → Prop} {s t : Sv} {k : Key} {v : Value} {l : List Key} {o : Opn} {x : Rcd}
theorem At.from_ {w0 w1 w : World} {b T M C S : Nat} {H : Nat → Prop} {s : Sv} (h : At w1 w b T M C S H s) (hb : Below w0.heap.size w0 w1) : At w0 w b T M C S H s :=
  have hs := hb.size
  ⟨h.box, h.tab, h.pol.low hb, h.ses, Nat.le_trans hs h.lb, Nat.le_trans hs h.lT, Nat.le_trans hs h.lM, Nat.le_trans hs h.lS, h.bT, h.bM, h.bS, h.ST, h.SM, h.Hb, h.HT, h.HM, h.HS⟩
/-- What a record turns of a cache. -/
structure Sv.Turn (s t : Sv) (x : Rcd) : Prop where
  seq : t.seq ≤ s.seq + 1
  now : s.now ≤ t.now ∧ t.now ≤ max s.now x.now
  ss : ∀ y ∈ t.ss, y ∈ s.ss ∨ (y.id = x.ses ∧ y.num = x.num)
  cfg : t.kind = s.kind ∧ t.n = s.n ∧ t.bytes = s.bytes ∧ t.seed = s.seed
theorem Sv.Turn.refl (s : Sv) (x : Rcd) : s.Turn s x := ⟨by omega, by omega, fun _ h => .inl h, rfl, rfl, rfl, rfl⟩
theorem noted_ss (hO : s.Ok) (hc : x.op.chk = true) (h5 : x.op.kind ≠ 5) : ∀ y ∈ (s.noted x).1.ss, y ∈ s.ss ∨ (y.id = x.ses ∧ y.num = x.num) := fun y hy => by
  have ha := hO.act hc h5
  have hy' : y ∈ lay ⟨x.ses, x.num, (s.act x.op).2⟩ (s.act x.op).1.ss := hy
  rcases mem_lay hy' with rfl | hy'
  · exact .inr ⟨rfl, rfl⟩
  · rw [ha.ss] at hy'; exact .inl hy'
theorem once_ss (hO : s.Ok) (hc : x.op.chk = true) (h5 : x.op.kind ≠ 5) : ∀ y ∈ (s.once x).1.ss, y ∈ s.ss ∨ (y.id = x.ses ∧ y.num = x.num) := by
  unfold Sv.once
  cases e : seek x.ses s.ss with
  | none =>
    show ∀ y ∈ (if 64 ≤ s.ss.length then (s, Rep.of 3) else s.noted x).1.ss, _
    split
    · exact fun _ h => .inl h
    · exact noted_ss hO hc h5
  | some z =>
    show ∀ y ∈ (if x.num = z.num then (s, z.rep) else if x.num < z.num then (s, Rep.of 122) else s.noted x).1.ss, _
    split
    · exact fun _ h => .inl h
    · split
      · exact fun _ h => .inl h
      · exact noted_ss hO hc h5
theorem Sv.Ok.turn (hO : s.Ok) (hx : x.Ok) : s.Turn (s.apply x).1 x := by
  unfold Sv.apply
  split
  · exact .refl s x
  · rename_i hc
    have hc' : x.op.chk = true := by simpa using hc
    split
    · exact .refl s x
    · rename_i hq
      have hd := hO.done hx hc'
      refine ⟨?_, ?_, ?_, hd.2.2.2.2⟩
      · show (s.done x).1.seq ≤ _; rw [hd.2.2.2.1]; omega
      · show s.now ≤ (s.done x).1.now ∧ (s.done x).1.now ≤ _; rw [hd.2.2.1]; omega
      · show ∀ y ∈ (s.done x).1.ss, _
        obtain ⟨h1, -, h3⟩ := (hO.place hx.seq).move hx.now
        have hss : ((s.place x.seq).moveTo x.now).ss = s.ss := h3.f.2.2.2.2.2.2.2.2.2
        unfold Sv.done
        split
        · intro y hy
          have hy' : y ∈ ((s.place x.seq).moveTo x.now).ss := hy
          rw [hss] at hy'
          exact .inl hy'
        · intro y hy
          have := once_ss h1 hc' (by assumption) y hy
          rwa [hss] at this
/-- The cache, and the tick, behind so many acts. -/
def pl (X : Nat → Ac) (s0 : Sv) : Nat → Sv × Nat
  | 0 => (s0, 0)
  | i + 1 => (((pl X s0 i).1.apply (recOf (pl X s0 i).1.seq (pl X s0 i).2 (X i))).1, nextOf (pl X s0 i).2 (X i))
structure Pld (s0 s : Sv) (now i : Nat) : Prop where
  ok : s.Ok
  seq : s.seq ≤ i
  at_ : now ≤ 100 * i
  tick : s.now ≤ now
  ss : ∀ y ∈ s.ss, y.id < 8 ∧ y.num < 32
  cfg : s.kind = s0.kind ∧ s.n = s0.n ∧ s.bytes = s0.bytes ∧ s.seed = s0.seed
theorem Pld.next {s0 s : Sv} {now i : Nat} {a : Ac} (h : Pld s0 s now i) (hi : i < 1000) (ha : a.Big) : Pld s0 (s.apply (recOf s.seq now a)).1 (nextOf now a) (i + 1) := by
  have h1 := h.seq
  have h2 := h.at_
  have hx : (recOf s.seq now a).Ok := recOf_ok (by omega) (by omega) ha
  have ht := h.ok.turn hx
  have hn := nextOf_le now a
  have h3 := h.tick
  have h4 : (recOf s.seq now a).now = nextOf now a := rfl
  refine ⟨(h.ok.apply hx).1, by have := ht.seq; omega, by omega, by have := ht.now; rw [h4] at this; omega, fun y hy => ?_, ht.cfg.1.trans h.cfg.1, ht.cfg.2.1.trans h.cfg.2.1, ht.cfg.2.2.1.trans h.cfg.2.2.1, ht.cfg.2.2.2.trans h.cfg.2.2.2⟩
  rcases ht.ss y hy with hy | ⟨e1, e2⟩
  · exact h.ss y hy
  · rw [e1, e2]; exact ⟨and7_lt _, and31_lt _⟩
/-- A new cache. -/
structure Fresh (s0 : Sv) : Prop where
  ok : s0.Ok
  seq : s0.seq = 0
  now : s0.now = 0
  ss : s0.ss = []
theorem Fresh.start {s0 : Sv} (h : Fresh s0) : Pld s0 s0 0 0 := ⟨h.ok, by rw [h.seq]; omega, by omega, by rw [h.now]; omega, fun y hy => (by rw [h.ss] at hy; exact nomatch hy), rfl, rfl, rfl, rfl⟩
theorem pl_inv {X : Nat → Ac} {s0 : Sv} {n : Nat} (h0 : Fresh s0) (hX : ∀ i, i < n → (X i).Big) (hn : n ≤ 1000) : ∀ i, i ≤ n → Pld s0 (pl X s0 i).1 (pl X s0 i).2 i
  | 0, _ => h0.start
  | i + 1, hi => (pl_inv h0 hX hn i (by omega)).next (by omega) (hX i (by omega))
/-! ### Which cache the laws take -/
def and1 (z : Int) : Nat := (z % ((2 ^ 64 : Nat) : Int)).toNat % 2 ^ 1
def and15 (z : Int) : Nat := (z % ((2 ^ 64 : Nat) : Int)).toNat % 2 ^ 4
def and1023 (z : Int) : Nat := (z % ((2 ^ 64 : Nat) : Int)).toNat % 2 ^ 10
theorem and1_lt (z : Int) : and1 z < 2 := Nat.mod_lt _ (by decide)
theorem and15_lt (z : Int) : and15 z < 16 := Nat.mod_lt _ (by decide)
theorem and1023_lt (z : Int) : and1023 z < 1024 := Nat.mod_lt _ (by decide)
/-- The cache that is taken. -/
def cfgS (p n b : Int) (seed : Nat) : Sv := Sv.new (1 + and1 p) (1 + and15 n) (1 + and1023 b) seed
theorem cfg_fresh (p n b : Int) {seed : Nat} (hs : seed < 18446744073709551616) : Fresh (cfgS p n b seed) := by
  have h1 := and1_lt p
  have h2 := and15_lt n
  have h3 := and1023_lt b
  exact ⟨Sv.new_ok (by omega) (by omega) (by omega) (by omega) (by omega) hs, rfl, rfl, rfl⟩
set_option maxHeartbeats 4000000 in
set_option maxRecDepth 100000 in
theorem config_c (p n b : Int) (seed : Int) (w : World) : Calls Tryz.prog 7 #[.agg #[.int .i64 p, .int .i64 n, .int .i64 b, .int .u64 seed]] w fun e w' => e = .returned (.agg #[.int .i64 ((1 + and1 p : Nat) : Int), .int .i64 ((1 + and15 n : Nat) : Int), .int .i64 ((1 + and1023 b : Nat) : Int), .int .u64 seed]) ∧ Below w.heap.size w w' := by
  have b1 : bits .and .i64 p 1 = (and1 p : Int) := Bity.i64_and p 1 1 rfl (by omega)
  have b2 : bits .and .i64 n 15 = (and15 n : Int) := Bity.i64_and n 15 4 rfl (by omega)
  have b3 : bits .and .i64 b 1023 = (and1023 b : Int) := Bity.i64_and b 1023 10 rfl (by omega)
  have h1 := and1_lt p
  have h2 := and15_lt n
  have h3 := and1023_lt b
  generalize and1 p = q1 at *
  generalize and15 n = q2 at *
  generalize and1023 b = q3 at *
  have e1 : (w.alloc (.cells #[.int .i64 p, .int .i64 n, .int .i64 b, .int .u64 seed] 24)).heap.size = w.heap.size + 1 := by simp
  have hA := (Blk.new w 24 #[.int .i64 p, .int .i64 n, .int .i64 b, .int .u64 seed]).alloc (.cells #[.int .i64 0, .int .i64 0, .int .i64 0, .int .u64 0] 24)
  have hR := Blk.new (w.alloc (.cells #[.int .i64 p, .int .i64 n, .int .i64 b, .int .u64 seed] 24)) 24 #[.int .i64 0, .int .i64 0, .int .i64 0, .int .u64 0]
  rw [e1] at hR
  have hb := ((Below.refl _ w).alloc (Nat.le_refl _) (.cells #[.int .i64 p, .int .i64 n, .int .i64 b, .int .u64 seed] 24)).alloc (by simp) (.cells #[.int .i64 0, .int .i64 0, .int .i64 0, .int .u64 0] 24)
  go_enter Tryz.func7, Tryz.ntmps7
  go_upto_region 1 with (fail)
  generalize (w.alloc (.cells #[.int .i64 p, .int .i64 n, .int .i64 b, .int .u64 seed] 24)).alloc (.cells #[.int .i64 0, .int .i64 0, .int .i64 0, .int .u64 0] 24) = w1 at *
  have n1 : w.heap.size ≠ w.heap.size + 1 := by omega
  have g1 : w.heap.size ≤ w.heap.size + 1 := by omega
  generalize hp1 : w.heap.size + 1 = r at *
  generalize hp0 : w.heap.size = q at hA n1 ⊢
  have g0 : w.heap.size ≤ q := by omega
  clear e1
  have x0 : w1.cell? ⟨q, 0, none⟩ = some (.int .i64 p) := hA.cell 0
  have x1 : w1.cell? ⟨q, 1, none⟩ = some (.int .i64 n) := hA.cell 1
  have x2 : w1.cell? ⟨q, 2, none⟩ = some (.int .i64 b) := hA.cell 2
  have x3 : w1.cell? ⟨q, 3, none⟩ = some (.int .u64 seed) := hA.cell 3
  have f0 := hA.free 0
  have f1 := hA.free 1
  have f2 := hA.free 2
  have z0 : w1.cell? ⟨r, 0, none⟩ = some (.int .i64 0) := hR.cell 0
  have z1 : w1.cell? ⟨r, 1, none⟩ = some (.int .i64 0) := hR.cell 1
  have z2 : w1.cell? ⟨r, 2, none⟩ = some (.int .i64 0) := hR.cell 2
  have z3 : w1.cell? ⟨r, 3, none⟩ = some (.int .u64 0) := hR.cell 3
  have k0 := hR.free 0
  have k1 := hR.free 1
  have k2 := hR.free 2
  have k3 := hR.free 3
  have hR3 := ((hR.far (p := ⟨q, 0, none⟩) (fun e => n1 e.symm) (.int .i64 (1 + (q1 : Int)))).far (p := ⟨q, 1, none⟩) (fun e => n1 e.symm) (.int .i64 (1 + (q2 : Int)))).far (p := ⟨q, 2, none⟩) (fun e => n1 e.symm) (.int .i64 (1 + (q3 : Int)))
  have HF := Lib.hid ((((hR3.put 0 (.int .i64 (1 + (q1 : Int)))).put 1 (.int .i64 (1 + (q2 : Int)))).put 2 (.int .i64 (1 + (q3 : Int)))).put 3 (.int .u64 seed))
  have HB := Lib.hid (((((((hb.setCell (p := ⟨q, 0, none⟩) g0 (.int .i64 (1 + (q1 : Int)))).setCell (p := ⟨q, 1, none⟩) g0 (.int .i64 (1 + (q2 : Int)))).setCell (p := ⟨q, 2, none⟩) g0 (.int .i64 (1 + (q3 : Int)))).setCell (p := ⟨r, 0, none⟩) g1 (.int .i64 (1 + (q1 : Int)))).setCell (p := ⟨r, 1, none⟩) g1 (.int .i64 (1 + (q2 : Int)))).setCell (p := ⟨r, 2, none⟩) g1 (.int .i64 (1 + (q3 : Int)))).setCell (p := ⟨r, 3, none⟩) g1 (.int .u64 seed))
  clear hR hR3 hA hb
  go_wp2_with fail
  exact bodyPost_ret (results_cell_row rfl _ _ r 24 _ _ _ rfl HF.out Tryz.underlying24 rfl (by kernel_rfl)) rfl ⟨rfl, HB.out⟩
end
end Go.Proofs.YtlnjnpchkdipdaaGreat.Storey
