/- A cache to which acts came, one by one: what holds of it. The only condition: the acts are as they may be handed in. A key that is kept is laid for none. It speaks of no program. -/
import Derived.Test.YtniniaokibnhfaaGreatStoreRec
namespace Go.Proofs.YtniniaokibnhfaaGreat.Storey
open Go.ChangeShapes Go.WideShapes Go.ChangeAt Go.RowKit
open Wirey (Blk Row str str_size str_list Kp)
open Taby (En TabAt Tbl tp find ins drop size ended St)
open Policyy (Pv HeldP StepP Tell)
open Ringy (Key)
open Regy

section
variable {w0 w w' w'' : World} {B b T M C S : Nat} {H H' : Nat → Prop} {s t : Sv} {k : Key} {v : Value} {l : List Key} {o : Opn} {x : Rcd}
theorem At.from_ {w0 w1 w : World} {b T M C S : Nat} {H : Nat → Prop} {s : Sv} (h : At w1 w b T M C S H s) (hb : Below w0.heap.size w0 w1) : At w0 w b T M C S H s :=
  have hs := hb.size
  ⟨h.box, h.tab, h.pol.low hb, h.ses, Nat.le_trans hs h.lb, Nat.le_trans hs h.lT, Nat.le_trans hs h.lM, Nat.le_trans hs h.lS, h.bT, h.bM, h.bS, h.ST, h.SM, h.Hb, h.HT, h.HM, h.HS⟩
/-- What a record turns of a cache. -/
structure Sv.Turn (s t : Sv) (x : Rcd) : Prop where
  seq : t.seq ≤ s.seq + 1
  now : s.now ≤ t.now ∧ t.now ≤ max s.now x.now
  ss : ∀ y ∈ t.ss, y ∈ s.ss ∨ (y.id = x.ses ∧ y.num = x.num)
  cfg : t.kind = s.kind ∧ t.n = s.n ∧ t.bytes = s.bytes ∧ t.seed = s.seed
theorem Sv.Turn.refl (s : Sv) (x : Rcd) : s.Turn s x := ⟨by omega, by omega, fun _ h => .inl h, rfl, rfl, rfl, rfl⟩
theorem noted_ss (hO : s.Ok) (hc : x.op.chk = true) (h5 : x.op.kind ≠ 5) : ∀ y ∈ (s.noted x).1.ss, y ∈ s.ss ∨ (y.id = x.ses ∧ y.num = x.num) := fun y hy => by
  have ha := hO.act hc h5
  have hy' : y ∈ lay ⟨x.ses, x.num, (s.act x.op).2⟩ (s.act x.op).1.ss := hy
  rcases mem_lay hy' with rfl | hy'
  · exact .inr ⟨rfl, rfl⟩
  · rw [ha.ss] at hy'; exact .inl hy'
theorem once_ss (hO : s.Ok) (hc : x.op.chk = true) (h5 : x.op.kind ≠ 5) : ∀ y ∈ (s.once x).1.ss, y ∈ s.ss ∨ (y.id = x.ses ∧ y.num = x.num) := by
  unfold Sv.once
  cases e : seek x.ses s.ss with
  | none =>
    show ∀ y ∈ (if 64 ≤ s.ss.length then (s, Rep.of 3) else s.noted x).1.ss, _
    split
    · exact fun _ h => .inl h
    · exact noted_ss hO hc h5
  | some z =>
    show ∀ y ∈ (if x.num = z.num then (s, z.rep) else if x.num < z.num then (s, Rep.of 122) else s.noted x).1.ss, _
    split
    · exact fun _ h => .inl h
    · split
      · exact fun _ h => .inl h
      · exact noted_ss hO hc h5
theorem Sv.Ok.turn (hO : s.Ok) (hx : x.Ok) : s.Turn (s.apply x).1 x := by
  unfold Sv.apply
  split
  · exact .refl s x
  · rename_i hc
    have hc' : x.op.chk = true := by simpa using hc
    split
    · exact .refl s x
    · rename_i hq
      have hd := hO.done hx hc'
      refine ⟨?_, ?_, ?_, hd.2.2.2.2⟩
      · show (s.done x).1.seq ≤ _; rw [hd.2.2.2.1]; omega
      · show s.now ≤ (s.done x).1.now ∧ (s.done x).1.now ≤ _; rw [hd.2.2.1]; omega
      · show ∀ y ∈ (s.done x).1.ss, _
        obtain ⟨h1, -, h3⟩ := (hO.place hx.seq).move hx.now
        have hss : ((s.place x.seq).moveTo x.now).ss = s.ss := h3.f.2.2.2.2.2.2.2.2.2
        unfold Sv.done
        split
        · intro y hy
          have hy' : y ∈ ((s.place x.seq).moveTo x.now).ss := hy
          rw [hss] at hy'
          exact .inl hy'
        · intro y hy
          have := once_ss h1 hc' (by assumption) y hy
          rwa [hss] at this
/-- The cache, and the tick, behind so many acts. -/
def pl (X : Nat → Ac) (s0 : Sv) : Nat → Sv × Nat
  | 0 => (s0, 0)
  | i + 1 => (((pl X s0 i).1.apply (recOf (pl X s0 i).1.seq (pl X s0 i).2 (X i))).1, nextOf (pl X s0 i).2 (X i))
structure Pld (s0 s : Sv) (now i : Nat) : Prop where
  ok : s.Ok
  seq : s.seq ≤ i
  at_ : now ≤ 100 * i
  tick : s.now ≤ now
  ss : ∀ y ∈ s.ss, y.id < 8 ∧ y.num < 32
  cfg : s.kind = s0.kind ∧ s.n = s0.n ∧ s.bytes = s0.bytes ∧ s.seed = s0.seed
theorem Pld.next {s0 s : Sv} {now i : Nat} {a : Ac} (h : Pld s0 s now i) (hi : i < 1000) (ha : a.Big) : Pld s0 (s.apply (recOf s.seq now a)).1 (nextOf now a) (i + 1) := by
  have h1 := h.seq
  have h2 := h.at_
  have hx : (recOf s.seq now a).Ok := recOf_ok (by omega) (by omega) ha
  have ht := h.ok.turn hx
  have hn := nextOf_le now a
  have h3 := h.tick
  have h4 : (recOf s.seq now a).now = nextOf now a := rfl
  refine ⟨(h.ok.apply hx).1, by have := ht.seq; omega, by omega, by have := ht.now; rw [h4] at this; omega, fun y hy => ?_, ht.cfg.1.trans h.cfg.1, ht.cfg.2.1.trans h.cfg.2.1, ht.cfg.2.2.1.trans h.cfg.2.2.1, ht.cfg.2.2.2.trans h.cfg.2.2.2⟩
  rcases ht.ss y hy with hy | ⟨e1, e2⟩
  · exact h.ss y hy
  · rw [e1, e2]; exact ⟨and7_lt _, and31_lt _⟩
/-- A new cache. -/
structure Fresh (s0 : Sv) : Prop where
  ok : s0.Ok
  seq : s0.seq = 0
  now : s0.now = 0
  ss : s0.ss = []
theorem Fresh.start {s0 : Sv} (h : Fresh s0) : Pld s0 s0 0 0 := ⟨h.ok, by rw [h.seq]; omega, by omega, by rw [h.now]; omega, fun y hy => (by rw [h.ss] at hy; exact nomatch hy), rfl, rfl, rfl, rfl⟩
/-! ### Which cache the laws take -/
end
end Go.Proofs.YtniniaokibnhfaaGreat.Storey
namespace Go.Proofs.YtniniaokibnhfaaGreat.Storey
open Go.ChangeShapes Go.WideShapes Go.ChangeAt Go.RowKit
open Wirey (Blk Row str str_size str_list Kp)
open Taby (En TabAt Tbl tp find ins drop size ended St)
open Policyy (Pv HeldP StepP Tell)
open Ringy (Key)
open Regy

section
variable {w0 w w' w'' : World} {B b T M C S : Nat} {H H' : Nat → Prop} {s t : Sv} {k : Key} {v : Value} {l : List Key} {o : Opn} {x : Rcd}
theorem known_no {p : Pv} {k : Key} (h : p.Fit) (hk : k.length ≤ 64) (hh : p.has k = true) : p.insertK k = [] := by
  cases p with
  | a v =>
    have h' : v.Ok := h
    have hh' : v.has k = true := hh
    show v.insertK k = []
    rw [show v.insertK k = v.insK k from if_neg (by omega)]
    rw [Arcy.Av.at_has h'] at hh'
    unfold Arcy.Av.insK
    cases e : v.at_ k with
    | none => rw [e] at hh'; cases hh'
    | some i =>
      rw [e] at hh'
      match i, hh' with
      | 0, _ => rfl
      | 1, _ => rfl
      | 2, hh' => cases hh'
      | 3, hh' => cases hh'
      | _ + 4, _ => rfl
  | t v =>
    have hh' : v.has k = true := hh
    show v.insertK k = []
    rw [show v.insertK k = v.insK k from if_neg (by omega)]
    unfold Tinyy.Tv.insK
    rw [if_pos hh']
end
end Go.Proofs.YtniniaokibnhfaaGreat.Storey
