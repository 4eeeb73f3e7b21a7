/- Chapter 12 over plain lists: a cache, record by record. It speaks of no program. -/
import Derived.Test.YtkiabladmgagdabGreatDoorTabMemAll
import Derived.Test.YtkiabladmgagdabGreatDoorTabKeysAll
import Derived.Test.YtkiabladmgagdabGreatDoorOpPutAll
import Derived.Test.YtkiabladmgagdabGreatDoorSq
namespace Go.Proofs.YtkiabladmgagdabGreatDoor.Storey
open Taby (En Rise find ins drop size ended less keysOf)
open Policyy (Pv)
open Ringy (Key)
open Opy (chk)

structure Rep where
 e : Nat
 val : List UInt8
 ver : Nat
def Rep.of (e : Nat) : Rep := ⟨e, [], 0⟩
structure Rep.Ok (r : Rep) : Prop where
 e : r.e < 65536
 val : r.val.length ≤ 4096
 ver : r.ver < 18446744073709551616
theorem Rep.mk_ok {n v : Nat} {l : List UInt8} (hn : n < 65536) (hl : l.length ≤ 4096) (hv : v < 18446744073709551616) : Rep.Ok ⟨n, l, v⟩ := ⟨hn, hl, hv⟩
theorem Rep.of_ok {n : Nat} (h : n < 65536) : (Rep.of n).Ok := Rep.mk_ok h (Nat.zero_le _) (by omega)
structure Ses where
 id : Nat
 num : Nat
 rep : Rep
structure Ses.Ok (x : Ses) : Prop where
 id : x.id < 18446744073709551616
 num : x.num < 18446744073709551616
 rep : x.rep.Ok
structure Opn where
 kind : Int
 key : List UInt8
 val : List UInt8
 ttl : Nat
 ver : Nat
structure Rcd where
 seq : Nat
 now : Nat
 ses : Nat
 num : Nat
 op : Opn
structure Rcd.Ok (x : Rcd) : Prop where
 seq : x.seq < 18446744073709551616
 now : x.now < 18446744073709551616
 ses : x.ses < 18446744073709551616
 num : x.num < 18446744073709551616
 key : x.op.key.length ≤ Go.maxLen
 val : x.op.val.length ≤ Go.maxLen
 ttl : x.op.ttl < 18446744073709551616
 ver : x.op.ver < 18446744073709551616
def Opn.chk (o : Opn) : Bool := Opy.chk o.kind o.key o.val o.ttl o.ver

def seek (i : Nat) : List Ses → Option Ses
 | [] => none
 | x :: l => if x.id = i then some x else seek i l
abbrev Up (l : List Ses) : Prop := l.Pairwise fun a b => a.id < b.id
def lay (x : Ses) : List Ses → List Ses
 | [] => [x]
 | y :: l => if y.id < x.id then y :: lay x l else if y.id = x.id then x :: l else x :: y :: l
theorem seek_mem {i : Nat} {x : Ses} : ∀ {l : List Ses}, seek i l = some x → x ∈ l ∧ x.id = i
 | y :: l, h => by
  rw [seek] at h
  split at h
  ·injection h with h; subst h; exact ⟨by simp, by assumption⟩
  ·have := seek_mem h; exact ⟨by simp [this.1], this.2⟩
theorem seek_of_mem {x : Ses} : ∀ {l : List Ses}, Up l → x ∈ l → seek x.id l = some x
 | y :: l, hu, h => by
  obtain ⟨h1, h2⟩ := List.pairwise_cons.1 hu
  rw [seek]
  rcases List.mem_cons.1 h with rfl | h
  ·rw [if_pos rfl]
  ·rw [if_neg (by have := h1 x h; omega)]
   exact seek_of_mem h2 h
theorem mem_lay {x z : Ses} : ∀ {l : List Ses}, z ∈ lay x l → z = x ∨ z ∈ l
 | [], h => by simp [lay] at h; exact .inl h
 | y :: l, h => by
  rw [lay] at h
  split at h
  ·rcases List.mem_cons.1 h with h | h
   ·exact .inr (by simp [h])
   ·rcases mem_lay h with h | h
    ·exact .inl h
    ·exact .inr (by simp [h])
  ·split at h
   ·rcases List.mem_cons.1 h with h | h
    ·exact .inl h
    ·exact .inr (by simp [h])
   ·rcases List.mem_cons.1 h with h | h
    ·exact .inl h
    ·exact .inr h
theorem lay_up {x : Ses} : ∀ {l : List Ses}, Up l → Up (lay x l)
 | [], _ => by simp [lay]
 | y :: l, hu => by
  obtain ⟨h1, h2⟩ := List.pairwise_cons.1 hu
  rw [lay]
  by_cases a : y.id < x.id
  ·rw [if_pos a]
   refine List.pairwise_cons.2 ⟨fun z hz => ?_, lay_up h2⟩
   rcases mem_lay hz with rfl | hz
   ·exact a
   ·exact h1 z hz
  ·rw [if_neg a]
   by_cases b : y.id = x.id
   ·rw [if_pos b]
    exact List.pairwise_cons.2 ⟨fun z hz => by have := h1 z hz; omega, h2⟩
   ·rw [if_neg b]
    refine List.pairwise_cons.2 ⟨fun z hz => ?_, hu⟩
    rcases List.mem_cons.1 hz with rfl | hz
    ·omega
    ·have := h1 z hz; omega
theorem seek_lay {x : Ses} {i : Nat} : ∀ {l : List Ses}, Up l → seek i (lay x l) = if x.id = i then some x else seek i l
 | [], _ => by simp [lay, seek]
 | y :: l, hu => by
  obtain ⟨h1, h2⟩ := List.pairwise_cons.1 hu
  rw [lay]
  by_cases a : y.id < x.id
  ·rw [if_pos a, seek, seek, seek_lay h2]
   by_cases c : y.id = i
   ·rw [if_pos c, if_pos c, if_neg (by omega)]
   ·rw [if_neg c, if_neg c]
  ·rw [if_neg a]
   by_cases b : y.id = x.id
   ·rw [if_pos b, seek, seek]
    by_cases c : x.id = i
    ·rw [if_pos c, if_pos c]
    ·rw [if_neg c, if_neg c, if_neg (by omega)]
   ·rw [if_neg b, seek]
theorem lay_new {x : Ses} : ∀ {l : List Ses}, seek x.id l = none → (lay x l).length = l.length + 1
 | [], _ => rfl
 | y :: l, h => by
  rw [seek] at h
  by_cases b : y.id = x.id
  ·rw [if_pos b] at h; cases h
  ·rw [if_neg b] at h
   rw [lay]
   by_cases a : y.id < x.id
   ·rw [if_pos a, List.length_cons, lay_new h]; rfl
   ·rw [if_neg a, if_neg b]; rfl
theorem lay_old {x : Ses} : ∀ {l : List Ses}, Up l → (seek x.id l).isSome = true → (lay x l).length = l.length
 | [], _, h => by cases h
 | y :: l, hu, h => by
  obtain ⟨h1, h2⟩ := List.pairwise_cons.1 hu
  rw [seek] at h
  rw [lay]
  by_cases b : y.id = x.id
  ·rw [if_neg (by omega), if_pos b]; rfl
  ·rw [if_neg b] at h
   by_cases a : y.id < x.id
   ·rw [if_pos a, List.length_cons, lay_old h2 h]; rfl
   ·exfalso
    cases e : seek x.id l with
    | none => rw [e] at h; cases h
    | some z =>
     obtain ⟨hz, he⟩ := seek_mem e
     have := h1 z hz
     omega
structure Sv where
 kind : Nat
 n : Nat
 bytes : Nat
 seed : Nat
 seq : Nat
 now : Nat
 ver : Nat
 asked : Nat
 hits : Nat
 m : List En
 p : Pv
 ss : List Ses
def Sv.new (kind n bytes seed : Nat) : Sv := ⟨kind, n, bytes, seed, 0, 0, 0, 0, 0, [], Pv.new kind n seed, []⟩
def one (n most : Nat) : Nat := if n < most then n + 1 else n
def endOf (now ttl : Nat) : Nat := if ttl = 0 ∨ now = 18446744073709551615 then 0 else now + min ttl (18446744073709551615 - now)
def Sv.away (s : Sv) (k : Key) : Sv := { s with m := drop k s.m, p := s.p.drop k }
def Sv.fall (s : Sv) (k : Key) : Sv := { s with m := drop k s.m }
def Sv.tick (s : Sv) (now : Nat) : Sv := { s with now := max s.now now }
def Sv.moveTo (s : Sv) (now : Nat) : Sv := (ended (max s.now now) s.m).foldl Sv.away (s.tick now)
def Sv.evict (s : Sv) (k : Key) : Sv := { s with m := drop k s.m, p := s.p.evict }
def Sv.fit : Nat → Sv → Sv
 | 0, s => s
 | f + 1, s => if size s.m ≤ s.bytes then s else match s.p.goes with
  | none => s
  | some k => Sv.fit f (s.evict k)
def Sv.laid (s : Sv) (o : Opn) : Sv := { s with ver := one s.ver 18446744073709551615, m := ins ⟨o.key, o.val, one s.ver 18446744073709551615, endOf s.now o.ttl⟩ s.m, p := s.p.insert o.key }
def Sv.come (s : Sv) (o : Opn) : Sv := (s.p.insertK o.key).foldl Sv.fall (s.laid o)
def Sv.put (s : Sv) (o : Opn) : Sv × Rep :=
 if s.bytes < o.key.length + o.val.length then (s, .of 120)
 else (Sv.fit (s.come o).m.length (s.come o), ⟨0, [], one s.ver 18446744073709551615⟩)
def Sv.ask (s : Sv) (k : Key) (x : Option En) : Sv := match x with
 | none => { s with asked := one s.asked 9223372036854775807, p := s.p.miss k }
 | some _ => { s with asked := one s.asked 9223372036854775807, hits := one s.hits 9223372036854775807, p := s.p.touch k }
def Sv.get (s : Sv) (k : Key) : Sv × Rep := match find k s.m with
 | none => (s.ask k none, .of 2)
 | some x => (s.ask k (some x), ⟨0, x.val, x.ver⟩)
def Sv.del (s : Sv) (k : Key) : Sv × Rep := match find k s.m with
 | none => (s, .of 2)
 | some x => (s.away k, ⟨0, [], x.ver⟩)
def Sv.cas (s : Sv) (o : Opn) : Sv × Rep := match find o.key s.m with
 | none => (s, .of 2)
 | some x => if x.ver = o.ver then s.put o else (s, ⟨121, [], x.ver⟩)
def Sv.act (s : Sv) (o : Opn) : Sv × Rep :=
 if o.kind = 1 then s.get o.key else if o.kind = 3 then s.del o.key else if o.kind = 4 then s.cas o else s.put o
def Sv.note (s : Sv) (x : Ses) : Sv := { s with ss := lay x s.ss }
def Sv.noted (s : Sv) (x : Rcd) : Sv × Rep := ((s.act x.op).1.note ⟨x.ses, x.num, (s.act x.op).2⟩, (s.act x.op).2)
def Sv.once (s : Sv) (x : Rcd) : Sv × Rep := match seek x.ses s.ss with
 | some y => if x.num = y.num then (s, y.rep) else if x.num < y.num then (s, .of 122) else s.noted x
 | none => if 64 ≤ s.ss.length then (s, .of 3) else s.noted x
def Sv.place (s : Sv) (q : Nat) : Sv := { s with seq := q }
def Sv.done (s : Sv) (x : Rcd) : Sv × Rep :=
 if x.op.kind = 5 then ((s.place x.seq).moveTo x.now, .of 0) else ((s.place x.seq).moveTo x.now).once x
def Sv.apply (s : Sv) (x : Rcd) : Sv × Rep × Nat :=
 if x.op.chk = false then (s, .of 0, 1)
 else if x.seq ≠ s.seq + 1 then (s, .of 0, 123)
 else ((s.done x).1, (s.done x).2, 0)

structure Sv.Base (s : Sv) : Prop where
 kind : s.kind = 1 ∨ s.kind = 2
 n1 : 1 ≤ s.n
 n2 : s.n ≤ 1000
 b1 : 1 ≤ s.bytes
 b2 : s.bytes ≤ 1048576
 seed : s.seed < 18446744073709551616
 seq : s.seq < 18446744073709551616
 now : s.now < 18446744073709551616
 ver : s.ver < 18446744073709551616
 asked : s.asked < 9223372036854775808
 hits : s.hits ≤ s.asked
 fit : s.p.Fit
 pk : s.p.kind = s.kind
 pm : s.p.most = s.n
 rise : Rise s.m
 eok : ∀ x ∈ s.m, x.Ok
 ent : ∀ x ∈ s.m, 0 < x.key.length ∧ 1 ≤ x.ver ∧ x.ver ≤ s.ver
 has : ∀ k, s.p.has k = (find k s.m).isSome
 up : Up s.ss
 sl : s.ss.length ≤ 64
 sok : ∀ x ∈ s.ss, x.Ok
structure Sv.Ok (s : Sv) : Prop extends s.Base where
 live : ∀ x ∈ s.m, x.fin = 0 ∨ s.now < x.fin
 size : size s.m ≤ s.bytes
section
variable {s t : Sv} {k : Key} {o : Opn} {x : Rcd}
theorem one_le {n most : Nat} (h : n ≤ most) : one n most ≤ most ∧ n ≤ one n most := by unfold one; split <;> omega
theorem one_pos {n most : Nat} (h : 0 < most) : 1 ≤ one n most := by unfold one; split <;> omega
theorem one_lt {n most : Nat} (h : n < most) : one n most = n + 1 := if_pos h
theorem endOf_lt {now ttl : Nat} (h : now < 18446744073709551616) : endOf now ttl < 18446744073709551616 := by unfold endOf; split <;> omega
theorem endOf_live {now ttl : Nat} (h : now < 18446744073709551616) : endOf now ttl = 0 ∨ now < endOf now ttl := by unfold endOf; split <;> omega
theorem keys_nodup {m : List En} (h : Rise m) : (keysOf m).Nodup := Taby.nodup_of_rise (Taby.keys_rise h)
theorem Sv.Base.len (h : s.Base) : s.p.kept = s.m.length ∧ s.m.length ≤ s.n := by
 have h1 := h.fit.count (keys_nodup h.rise) (fun x => by rw [Taby.mem_keys, h.has])
 rw [Taby.keysOf_len] at h1
 have := h.fit.kept
 rw [h.pm] at this
 exact ⟨h1, by omega⟩
theorem Sv.Base.away (h : s.Base) (k : Key) : (s.away k).Base := by
 have hd := h.fit.drop k
 refine ⟨h.kind, h.n1, h.n2, h.b1, h.b2, h.seed, h.seq, h.now, h.ver, h.asked, h.hits, hd.1.fit, hd.1.kind.trans h.pk, hd.1.most.trans h.pm, Taby.drop_rise h.rise, Taby.drop_ok h.eok, fun y hy => h.ent y (List.mem_filter.1 hy).1, fun k' => ?_, h.up, h.sl, h.sok⟩
 show (s.p.drop k).has k' = (find k' (drop k s.m)).isSome
 rw [hd.2, h.has, Taby.find_drop]
 by_cases e : k' = k
 ·simp [e]
 ·simp [e]
theorem Sv.Ok.away (h : s.Ok) (k : Key) : (s.away k).Ok := by
 refine ⟨h.toBase.away k, fun y hy => h.live y (List.mem_filter.1 hy).1, ?_⟩
 show Taby.size (drop k s.m) ≤ s.bytes
 cases e : find k s.m with
 | none => rw [Taby.drop_none e]; exact h.size
 | some y => have := (Taby.drop_one h.rise e).2; have := h.size; omega
structure Sv.Less (s t : Sv) (L : List Key) : Prop where
 base : t.Base
 f : t.kind = s.kind ∧ t.n = s.n ∧ t.bytes = s.bytes ∧ t.seed = s.seed ∧ t.seq = s.seq ∧ t.now = s.now ∧ t.ver = s.ver ∧ t.asked = s.asked ∧ t.hits = s.hits ∧ t.ss = s.ss
 find : ∀ k, Taby.find k t.m = if k ∈ L then none else Taby.find k s.m
theorem Sv.Base.aways : ∀ (L : List Key) {s : Sv}, s.Base → s.Less (L.foldl Sv.away s) L
 | [], s, h => ⟨h, ⟨rfl, rfl, rfl, rfl, rfl, rfl, rfl, rfl, rfl, rfl⟩, fun k => by simp⟩
 | a :: L, s, h => by
  have ih := Sv.Base.aways L (h.away a)
  refine ⟨ih.base, ih.f, fun k => ?_⟩
  rw [List.foldl_cons, ih.find]
  show (if k ∈ L then none else Taby.find k (drop a s.m)) = _
  rw [Taby.find_drop]
  by_cases e1 : k ∈ L <;> by_cases e2 : k = a <;> simp [e1, e2]
theorem Sv.Base.tick (h : s.Base) {now : Nat} (hn : now < 18446744073709551616) : (s.tick now).Base :=
 ⟨h.kind, h.n1, h.n2, h.b1, h.b2, h.seed, h.seq, by show max s.now now < _; have := h.now; omega, h.ver, h.asked, h.hits, h.fit, h.pk, h.pm, h.rise, h.eok, h.ent, h.has, h.up, h.sl, h.sok⟩
theorem Sv.Base.place (h : s.Base) {q : Nat} (hq : q < 18446744073709551616) : (s.place q).Base :=
 ⟨h.kind, h.n1, h.n2, h.b1, h.b2, h.seed, hq, h.now, h.ver, h.asked, h.hits, h.fit, h.pk, h.pm, h.rise, h.eok, h.ent, h.has, h.up, h.sl, h.sok⟩
theorem Sv.Ok.place (h : s.Ok) {q : Nat} (hq : q < 18446744073709551616) : (s.place q).Ok := ⟨h.toBase.place hq, h.live, h.size⟩
def lives (now : Nat) (x : En) : Bool := !(decide (0 < x.fin) && decide (x.fin ≤ now))
theorem size_filter {f : En → Bool} : ∀ {m : List En}, size (m.filter f) ≤ size m
 | [] => Nat.le_refl _
 | y :: m => by
  have := size_filter (f := f) (m := m)
  rw [List.filter_cons]
  split <;> simp only [size] <;> omega
theorem find_filter {f : En → Bool} {m : List En} (hr : Rise m) (k : Key) : find k (m.filter f) = match find k m with
  | none => none
  | some y => if f y = true then some y else none := by
 cases e : find k m with
 | none => exact Taby.find_none.2 fun y hy => Taby.find_none.1 e y (List.mem_filter.1 hy).1
 | some y =>
  obtain ⟨hy, hk⟩ := Taby.find_mem e
  show _ = if f y = true then some y else none
  split
  ·rename_i h
   rw [← hk]
   exact Taby.find_of_mem (List.Pairwise.filter _ hr) (List.mem_filter.2 ⟨hy, h⟩)
  ·rename_i h
   refine Taby.find_none.2 fun z hz hzk => h ?_
   obtain ⟨h1, h2⟩ := List.mem_filter.1 hz
   have := Taby.find_of_mem hr h1
   rw [hzk, e] at this
   injection this with this
   rw [this]; exact h2
theorem Sv.Ok.move (h : s.Ok) {now : Nat} (hn : now < 18446744073709551616) : (s.moveTo now).Ok ∧ (s.moveTo now).m = s.m.filter (lives (max s.now now)) ∧ (s.tick now).Less (s.moveTo now) (ended (max s.now now) s.m) := by
 have hl : (s.tick now).Less (s.moveTo now) (ended (max s.now now) s.m) := Sv.Base.aways (ended (max s.now now) s.m) (h.toBase.tick hn)
 have hm : (s.moveTo now).m = s.m.filter (lives (max s.now now)) := by
  refine Taby.rise_ext hl.base.rise (List.Pairwise.filter _ h.rise) fun k => ?_
  rw [hl.find, find_filter h.rise]
  show (if k ∈ ended (max s.now now) s.m then none else find k s.m) = _
  cases e : find k s.m with
  | none => simp
  | some y =>
   have hk := Taby.mem_ended (k := k) (now := max s.now now) h.rise
   rw [e] at hk
   by_cases a : 0 < y.fin ∧ y.fin ≤ max s.now now
   ·rw [if_pos (hk.2 ⟨y, rfl, a⟩)]
    have : lives (max s.now now) y = false := by unfold lives; rw [decide_eq_true a.1, decide_eq_true a.2]; rfl
    show none = if lives _ y = true then some y else none
    rw [this]; rfl
   ·rw [if_neg fun hm => a ?_]
    ·have : lives (max s.now now) y = true := by
      unfold lives
      rw [← Bool.decide_and, decide_eq_false a]; rfl
     show some y = if lives _ y = true then some y else none
     rw [this]; rfl
    ·obtain ⟨z, hz, hz2⟩ := hk.1 hm
     injection hz with hz
     rw [hz]; exact hz2
 refine ⟨⟨hl.base, fun y hy => ?_, ?_⟩, hm, hl⟩
 ·rw [hm] at hy
  have h2 := (List.mem_filter.1 hy).2
  have hnow : (s.moveTo now).now = max s.now now := hl.f.2.2.2.2.2.1
  rw [hnow]
  unfold lives at h2
  rw [Bool.not_eq_true', Bool.and_eq_false_iff, decide_eq_false_iff_not, decide_eq_false_iff_not] at h2
  omega
 ·have hb : (s.moveTo now).bytes = s.bytes := hl.f.2.2.1
  rw [hm, hb]
  exact Nat.le_trans size_filter h.size
theorem Sv.Base.evicts (h : s.Base) (hg : s.p.goes = some k) : (s.evict k).Base ∧ (s.evict k).m.length + 1 = s.m.length := by
 obtain ⟨h1, h2, h3⟩ := h.fit.goes_yes hg
 refine ⟨⟨h.kind, h.n1, h.n2, h.b1, h.b2, h.seed, h.seq, h.now, h.ver, h.asked, h.hits, h2.fit, h2.kind.trans h.pk, h2.most.trans h.pm, Taby.drop_rise h.rise, Taby.drop_ok h.eok, fun y hy => h.ent y (List.mem_filter.1 hy).1, fun k' => ?_, h.up, h.sl, h.sok⟩, ?_⟩
 ·show s.p.evict.has k' = (find k' (drop k s.m)).isSome
  rw [h3, h.has, Taby.find_drop]
  by_cases e : k' = k
  ·simp [e]
  ·simp [e]
 ·show (drop k s.m).length + 1 = _
  rw [h.has] at h1
  cases e : find k s.m with
  | none => rw [e] at h1; cases h1
  | some y => exact (Taby.drop_one h.rise e).1
structure Sv.Fits (s t : Sv) : Prop where
 base : t.Base
 f : t.kind = s.kind ∧ t.n = s.n ∧ t.bytes = s.bytes ∧ t.seed = s.seed ∧ t.seq = s.seq ∧ t.now = s.now ∧ t.ver = s.ver ∧ t.asked = s.asked ∧ t.hits = s.hits ∧ t.ss = s.ss
 sub : ∀ y ∈ t.m, y ∈ s.m
theorem Sv.Base.fits : ∀ (f : Nat) {s : Sv}, s.Base → s.m.length ≤ f → s.Fits (Sv.fit f s) ∧ size (Sv.fit f s).m ≤ s.bytes
 | 0, s, h, hl => ⟨⟨h, ⟨rfl, rfl, rfl, rfl, rfl, rfl, rfl, rfl, rfl, rfl⟩, fun _ h => h⟩, by
     show size s.m ≤ s.bytes
     rw [List.eq_nil_of_length_eq_zero (Nat.le_zero.1 hl)]
     exact Nat.zero_le _⟩
 | f + 1, s, h, hl => by
  rw [Sv.fit]
  by_cases a : size s.m ≤ s.bytes
  ·rw [if_pos a]; exact ⟨⟨h, ⟨rfl, rfl, rfl, rfl, rfl, rfl, rfl, rfl, rfl, rfl⟩, fun _ h => h⟩, a⟩
  ·rw [if_neg a]
   cases e : s.p.goes with
   | none =>
    refine ⟨⟨h, ⟨rfl, rfl, rfl, rfl, rfl, rfl, rfl, rfl, rfl, rfl⟩, fun _ h => h⟩, ?_⟩
    have h0 := h.fit.goes_no e
    rw [h.len.1] at h0
    show size s.m ≤ s.bytes
    rw [List.eq_nil_of_length_eq_zero h0]
    exact Nat.zero_le _
   | some k =>
    obtain ⟨h1, h2⟩ := h.evicts e
    obtain ⟨h3, h4⟩ := Sv.Base.fits f h1 (by omega)
    exact ⟨⟨h3.base, h3.f, fun y hy => (List.mem_filter.1 (h3.sub y hy)).1⟩, h4⟩
theorem falls_spec : ∀ (L : List Key) {s : Sv}, Rise s.m → (∀ y ∈ s.m, y.Ok) → Rise (L.foldl Sv.fall s).m ∧ (∀ k, find k (L.foldl Sv.fall s).m = if k ∈ L then none else find k s.m) ∧ (∀ y ∈ (L.foldl Sv.fall s).m, y ∈ s.m) ∧ (L.foldl Sv.fall s).m.length ≤ s.m.length ∧ L.foldl Sv.fall s = { s with m := (L.foldl Sv.fall s).m }
 | [], s, h, _ => ⟨h, fun k => by simp, fun _ h => h, Nat.le_refl _, rfl⟩
 | a :: L, s, h, ho => by
  obtain ⟨i1, i2, i3, i4, i5⟩ := falls_spec L (s := s.fall a) (Taby.drop_rise h) (Taby.drop_ok ho)
  rw [List.foldl_cons]
  refine ⟨i1, fun k => ?_, fun y hy => (List.mem_filter.1 (i3 y hy)).1, Nat.le_trans i4 Taby.drop_len, i5⟩
  rw [i2]
  show (if k ∈ L then none else Taby.find k (drop a s.m)) = _
  rw [Taby.find_drop]
  by_cases e1 : k ∈ L <;> by_cases e2 : k = a <;> simp [e1, e2]
def Sv.entry (s : Sv) (o : Opn) : En := ⟨o.key, o.val, one s.ver 18446744073709551615, endOf s.now o.ttl⟩
theorem Sv.Base.entry (h : s.Base) (hk : o.key.length ≤ 64) (hv : o.val.length ≤ 4096) : (s.entry o).Ok :=
 ⟨hk, hv, by show one s.ver 18446744073709551615 < _; have := one_le (n := s.ver) (most := 18446744073709551615) (by have := h.ver; omega); omega, endOf_lt h.now⟩
theorem Sv.Base.come (h : s.Base) (hk : o.key.length ≤ 64) (hk1 : 0 < o.key.length) (hv : o.val.length ≤ 4096) :
  (s.come o).Base ∧ (∀ y ∈ (s.come o).m, y = s.entry o ∨ y ∈ s.m) ∧ s.come o = { s.laid o with m := (s.come o).m } := by
 obtain ⟨h1, h2, h3⟩ := h.fit.insert hk
 have ho := h.entry hk hv
 have hr : Rise (s.laid o).m := Taby.ins_rise h.rise
 have hok : ∀ y ∈ (s.laid o).m, y.Ok := Taby.ins_ok ho h.eok
 obtain ⟨i1, i2, i3, i4, i5⟩ := falls_spec (s.p.insertK o.key) hr hok
 have hmem : ∀ y ∈ (s.come o).m, y = s.entry o ∨ y ∈ s.m := fun y hy => Taby.mem_ins (i3 y hy)
 refine ⟨?_, hmem, i5⟩
 have e0 : s.come o = { s.laid o with m := (s.come o).m } := i5
 have hov := one_le (n := s.ver) (most := 18446744073709551615) (by have := h.ver; omega)
 have ep : (s.come o).p = s.p.insert o.key := by rw [e0]; rfl
 have ev : (s.come o).ver = one s.ver 18446744073709551615 := by rw [e0]; rfl
 have es : (s.come o).ss = s.ss := by rw [e0]; rfl
 have ec : (s.come o).kind = s.kind ∧ (s.come o).n = s.n ∧ (s.come o).bytes = s.bytes ∧ (s.come o).seed = s.seed ∧ (s.come o).seq = s.seq ∧ (s.come o).now = s.now ∧ (s.come o).asked = s.asked ∧ (s.come o).hits = s.hits := by
  rw [e0]; exact ⟨rfl, rfl, rfl, rfl, rfl, rfl, rfl, rfl⟩
 obtain ⟨c1, c2, c3, c4, c5, c6, c7, c8⟩ := ec
 refine ⟨by rw [c1]; exact h.kind, by rw [c2]; exact h.n1, by rw [c2]; exact h.n2, by rw [c3]; exact h.b1, by rw [c3]; exact h.b2, by rw [c4]; exact h.seed, by rw [c5]; exact h.seq, by rw [c6]; exact h.now, by rw [ev]; omega, by rw [c7]; exact h.asked, by rw [c7, c8]; exact h.hits, by rw [ep]; exact h1.fit, by rw [ep, c1]; exact h1.kind.trans h.pk, by rw [ep, c2]; exact h1.most.trans h.pm, i1, fun y hy => hok y (i3 y hy), fun y hy => ?_, fun k => ?_, by rw [es]; exact h.up, by rw [es]; exact h.sl, by rw [es]; exact h.sok⟩
 ·rw [ev]
  rcases hmem y hy with rfl | hy
  ·exact ⟨hk1, one_pos (by omega), Nat.le_refl _⟩
  ·have := h.ent y hy
   exact ⟨this.1, this.2.1, by omega⟩
 ·rw [ep, h2]
  have : find k (s.come o).m = if k ∈ s.p.insertK o.key then none else find k (s.laid o).m := i2 k
  rw [this]
  show _ = (if k ∈ s.p.insertK o.key then none else find k (ins (s.entry o) s.m)).isSome
  rw [Taby.find_ins h.rise, h.has]
  by_cases e1 : k ∈ s.p.insertK o.key
  ·simp [e1]
  ·by_cases e2 : k = o.key
   ·subst e2
    rw [if_neg e1, if_pos (show (s.entry o).key = o.key from rfl)]
    simp [e1]
   ·rw [if_neg e1, show (s.entry o).key = o.key from rfl, if_neg (fun e : o.key = k => e2 e.symm)]
    simp [e1, e2]
theorem Sv.Ok.put (h : s.Ok) (hk : o.key.length ≤ 64) (hk1 : 0 < o.key.length) (hv : o.val.length ≤ 4096) : (s.put o).1.Ok ∧ (s.put o).2.Ok ∧ (s.put o).1.ss = s.ss ∧ (s.put o).1.now = s.now ∧ (s.put o).1.seq = s.seq ∧ (s.put o).1.asked = s.asked ∧ (s.put o).1.hits = s.hits := by
 unfold Sv.put
 by_cases a : s.bytes < o.key.length + o.val.length
 ·rw [if_pos a]
  exact ⟨h, Rep.of_ok (by omega), rfl, rfl, rfl, rfl, rfl⟩
 ·rw [if_neg a]
  obtain ⟨h1, h2, h3⟩ := h.toBase.come hk hk1 hv
  obtain ⟨h4, h5⟩ := h1.fits _ (Nat.le_refl _)
  have e0 : (s.come o).now = s.now ∧ (s.come o).bytes = s.bytes ∧ (s.come o).ss = s.ss ∧ (s.come o).seq = s.seq ∧ (s.come o).asked = s.asked ∧ (s.come o).hits = s.hits := by rw [h3]; exact ⟨rfl, rfl, rfl, rfl, rfl, rfl⟩
  obtain ⟨f1, f2, f3, f4, f5, f6, f7, f8, f9, f10⟩ := h4.f
  refine ⟨⟨h4.base, fun y hy => ?_, ?_⟩, Rep.mk_ok (by omega) (Nat.zero_le _) (h.toBase.entry hk hv).ver, f10.trans e0.2.2.1, f6.trans e0.1, f5.trans e0.2.2.2.1, f8.trans e0.2.2.2.2.1, f9.trans e0.2.2.2.2.2⟩
  ·show y.fin = 0 ∨ (Sv.fit (s.come o).m.length (s.come o)).now < y.fin
   rw [f6, e0.1]
   rcases h2 y (h4.sub y hy) with rfl | hy'
   ·exact endOf_live h.now
   ·exact h.live y hy'
  ·show Taby.size (Sv.fit (s.come o).m.length (s.come o)).m ≤ (Sv.fit (s.come o).m.length (s.come o)).bytes
   rw [f3]; exact h5
end
end Go.Proofs.YtkiabladmgagdabGreatDoor.Storey
