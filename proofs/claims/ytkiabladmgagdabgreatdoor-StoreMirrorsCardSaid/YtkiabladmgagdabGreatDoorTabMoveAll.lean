/- Chapter 12 over plain lists: every record leaves a cache that may be. It speaks of no program. What sessions were told, in memory: a map of structs; what look-up and store do to it. The only condition: numbers are of 64 bits. The program's table: Drop and Put. The only condition: an entry may be, and there are not too many. -/
import Derived.Test.YtkiabladmgagdabGreatDoorStoreMath
import Derived.Test.YtkiabladmgagdabGreatDoorTabKeysAll
import Derived.Test.YtkiabladmgagdabGreatDoorSort64InsAll
import Derived.WalkSpells
import Derived.Test.YtkiabladmgagdabGreatDoorSq
namespace Go.Proofs.YtkiabladmgagdabGreatDoor.Storey
open Taby (En Rise find ins drop size ended less keysOf)
open Policyy (Pv)
open Ringy (Key)
open Opy (chk)

section
variable {s t : Sv} {k : Key} {o : Opn} {x : Rcd}
structure Sv.Acts (s t : Sv) (r : Rep) : Prop where
 ok : t.Ok
 rep : r.Ok
 ss : t.ss = s.ss
 now : t.now = s.now
 seq : t.seq = s.seq
 cfg : t.kind = s.kind ∧ t.n = s.n ∧ t.bytes = s.bytes ∧ t.seed = s.seed
theorem Sv.Ok.acts (h : s.Ok) {r : Rep} (hr : r.Ok) : s.Acts s r := ⟨h, hr, rfl, rfl, rfl, rfl, rfl, rfl, rfl⟩
theorem find_ok {y : En} {m : List En} (h : ∀ x ∈ m, x.Ok) (hf : find k m = some y) : y.Ok := h y (Taby.find_mem hf).1
theorem Sv.Ok.ask (h : s.Ok) (k : Key) (z : Option En) : (s.ask k z).Ok ∧ (s.ask k z).ss = s.ss ∧ (s.ask k z).now = s.now ∧ (s.ask k z).seq = s.seq := by
 have h1 := one_le (n := s.asked) (most := 9223372036854775807) (by have := h.asked; omega)
 have h2 := one_le (n := s.hits) (most := 9223372036854775807) (by have := h.asked; have := h.hits; omega)
 have h3 := h.hits
 have h4 := h.asked
 cases z with
 | none =>
  have hm := h.fit.miss k
  refine ⟨⟨⟨h.kind, h.n1, h.n2, h.b1, h.b2, h.seed, h.seq, h.now, h.ver, ?_, ?_, hm.1.fit, hm.1.kind.trans h.pk, hm.1.most.trans h.pm, h.rise, h.eok, h.ent, fun k' => (hm.2 k').trans (h.has k'), h.up, h.sl, h.sok⟩, h.live, h.size⟩, rfl, rfl, rfl⟩
  ·show one s.asked 9223372036854775807 < _; omega
  ·show s.hits ≤ one s.asked 9223372036854775807; omega
 | some y =>
  have hm := h.fit.touch k
  refine ⟨⟨⟨h.kind, h.n1, h.n2, h.b1, h.b2, h.seed, h.seq, h.now, h.ver, ?_, ?_, hm.1.fit, hm.1.kind.trans h.pk, hm.1.most.trans h.pm, h.rise, h.eok, h.ent, fun k' => (hm.2 k').trans (h.has k'), h.up, h.sl, h.sok⟩, h.live, h.size⟩, rfl, rfl, rfl⟩
  ·show one s.asked 9223372036854775807 < _; omega
  ·show one s.hits 9223372036854775807 ≤ one s.asked 9223372036854775807
   unfold one
   split <;> split <;> omega
theorem Sv.Ok.get (h : s.Ok) (k : Key) : s.Acts (s.get k).1 (s.get k).2 := by
 unfold Sv.get
 cases e : find k s.m with
 | none =>
  obtain ⟨h1, h2, h3, h4⟩ := h.ask k none
  exact ⟨h1, Rep.of_ok (by omega), h2, h3, h4, rfl, rfl, rfl, rfl⟩
 | some y =>
  obtain ⟨h1, h2, h3, h4⟩ := h.ask k (some y)
  have hy := find_ok h.eok e
  exact ⟨h1, Rep.mk_ok (by omega) hy.val hy.ver, h2, h3, h4, rfl, rfl, rfl, rfl⟩
theorem Sv.Ok.del (h : s.Ok) (k : Key) : s.Acts (s.del k).1 (s.del k).2 := by
 unfold Sv.del
 cases e : find k s.m with
 | none => exact h.acts (Rep.of_ok (by omega))
 | some y =>
  have hy := find_ok h.eok e
  exact ⟨h.away k, (Rep.mk_ok (by omega) (Nat.zero_le _) hy.ver), rfl, rfl, rfl, rfl, rfl, rfl, rfl⟩
theorem fit_cfg : ∀ (f : Nat) {s : Sv}, (Sv.fit f s).kind = s.kind ∧ (Sv.fit f s).n = s.n ∧ (Sv.fit f s).bytes = s.bytes ∧ (Sv.fit f s).seed = s.seed
 | 0, _ => ⟨rfl, rfl, rfl, rfl⟩
 | f + 1, s => by
  rw [Sv.fit]
  split
  ·exact ⟨rfl, rfl, rfl, rfl⟩
  ·cases e : s.p.goes with
   | none => exact ⟨rfl, rfl, rfl, rfl⟩
   | some k => exact fit_cfg f (s := s.evict k)
theorem falls_cfg : ∀ (L : List Key) {s : Sv}, (L.foldl Sv.fall s).kind = s.kind ∧ (L.foldl Sv.fall s).n = s.n ∧ (L.foldl Sv.fall s).bytes = s.bytes ∧ (L.foldl Sv.fall s).seed = s.seed
 | [], _ => ⟨rfl, rfl, rfl, rfl⟩
 | a :: L, s => falls_cfg L (s := s.fall a)
theorem Sv.Ok.puts (h : s.Ok) (hk : o.key.length ≤ 64) (hk1 : 0 < o.key.length) (hv : o.val.length ≤ 4096) : s.Acts (s.put o).1 (s.put o).2 := by
 obtain ⟨h1, h2, h3, h4, h5, -, -⟩ := h.put hk hk1 hv
 refine ⟨h1, h2, h3, h4, h5, ?_⟩
 unfold Sv.put
 by_cases a : s.bytes < o.key.length + o.val.length
 ·rw [if_pos a]; exact ⟨rfl, rfl, rfl, rfl⟩
 ·rw [if_neg a]
  obtain ⟨a1, a2, a3, a4⟩ := fit_cfg (s.come o).m.length (s := s.come o)
  obtain ⟨b1, b2, b3, b4⟩ := falls_cfg (s.p.insertK o.key) (s := s.laid o)
  exact ⟨a1.trans b1, a2.trans b2, a3.trans b3, a4.trans b4⟩
theorem Sv.Ok.cas (h : s.Ok) (hk : o.key.length ≤ 64) (hk1 : 0 < o.key.length) (hv : o.val.length ≤ 4096) : s.Acts (s.cas o).1 (s.cas o).2 := by
 unfold Sv.cas
 cases e : find o.key s.m with
 | none => exact h.acts (Rep.of_ok (by omega))
 | some y =>
  have hy := find_ok h.eok e
  show s.Acts (if y.ver = o.ver then s.put o else (s, ⟨121, [], y.ver⟩)).1 (if y.ver = o.ver then s.put o else (s, ⟨121, [], y.ver⟩)).2
  split
  ·exact h.puts hk hk1 hv
  ·exact h.acts (Rep.mk_ok (by omega) (Nat.zero_le _) hy.ver)
theorem chk_bounds (h : o.chk = true) : o.key.length ≤ 64 ∧ o.val.length ≤ 4096 ∧ o.ttl ≤ 1073741824 ∧ 1 ≤ o.kind ∧ o.kind ≤ 5 ∧ (o.kind ≠ 5 → 0 < o.key.length) := by
 unfold Opn.chk Opy.chk at h
 have hpos : (!o.key.isEmpty) = true → 0 < o.key.length := fun hh => by
  cases e : o.key with
  | nil => rw [e] at hh; cases hh
  | cons a l => exact Nat.succ_pos _
 split at h
 ·cases h
 ·rename_i hn
  have h1 : o.key.length ≤ 64 := by omega
  have h2 : o.val.length ≤ 4096 := by omega
  have h3 : o.ttl ≤ 1073741824 := by omega
  refine ⟨h1, h2, h3, ?_⟩
  split at h
  ·simp only [Bool.and_eq_true] at h
   exact ⟨by omega, by omega, fun _ => hpos h.1.1⟩
  ·split at h
   ·simp only [Bool.and_eq_true] at h
    exact ⟨by omega, by omega, fun _ => hpos h.1⟩
   ·split at h
    ·simp only [Bool.and_eq_true] at h
     exact ⟨by omega, by omega, fun _ => hpos h.1⟩
    ·split at h
     ·exact ⟨by omega, by omega, fun h5 => absurd (by assumption) h5⟩
     ·cases h
theorem Sv.Ok.act (h : s.Ok) (hc : o.chk = true) (h5 : o.kind ≠ 5) : s.Acts (s.act o).1 (s.act o).2 := by
 obtain ⟨h1, h2, -, -, -, h6⟩ := chk_bounds hc
 unfold Sv.act
 split
 ·exact h.get _
 ·split
  ·exact h.del _
  ·split
   ·exact h.cas h1 (h6 h5) h2
   ·exact h.puts h1 (h6 h5) h2
theorem Sv.Ok.note (h : s.Ok) {y : Ses} (hy : y.Ok) (hn : (seek y.id s.ss).isSome = true ∨ s.ss.length < 64) : (s.note y).Ok := by
 refine ⟨⟨h.kind, h.n1, h.n2, h.b1, h.b2, h.seed, h.seq, h.now, h.ver, h.asked, h.hits, h.fit, h.pk, h.pm, h.rise, h.eok, h.ent, h.has, lay_up h.up, ?_, fun z hz => ?_⟩, h.live, h.size⟩
 ·show (lay y s.ss).length ≤ 64
  cases e : seek y.id s.ss with
  | none =>
   rw [e] at hn
   rw [lay_new e]
   rcases hn with hn | hn
   ·cases hn
   ·omega
  | some z => rw [lay_old h.up (by rw [e]; rfl)]; exact h.sl
 ·rcases mem_lay hz with rfl | hz
  ·exact hy
  ·exact h.sok z hz
structure Sv.Step (s t : Sv) (r : Rep) : Prop where
 ok : t.Ok
 rep : r.Ok
 now : t.now = s.now
 seq : t.seq = s.seq
 cfg : t.kind = s.kind ∧ t.n = s.n ∧ t.bytes = s.bytes ∧ t.seed = s.seed
theorem Sv.Ok.noted (h : s.Ok) (hx : x.Ok) (hc : x.op.chk = true) (h5 : x.op.kind ≠ 5) (hn : (seek x.ses s.ss).isSome = true ∨ s.ss.length < 64) : s.Step (s.noted x).1 (s.noted x).2 := by
 have ha := h.act hc h5
 refine ⟨ha.ok.note ⟨hx.ses, hx.num, ha.rep⟩ ?_, ha.rep, ha.now, ha.seq, ha.cfg⟩
 rw [ha.ss]
 exact hn
theorem Sv.Ok.once (h : s.Ok) (hx : x.Ok) (hc : x.op.chk = true) (h5 : x.op.kind ≠ 5) : s.Step (s.once x).1 (s.once x).2 := by
 unfold Sv.once
 cases e : seek x.ses s.ss with
 | none =>
  show s.Step (if 64 ≤ s.ss.length then (s, Rep.of 3) else s.noted x).1 (if 64 ≤ s.ss.length then (s, Rep.of 3) else s.noted x).2
  split
  ·exact ⟨h, Rep.of_ok (by omega), rfl, rfl, rfl, rfl, rfl, rfl⟩
  ·exact h.noted hx hc h5 (.inr (by omega))
 | some y =>
  show s.Step (if x.num = y.num then (s, y.rep) else if x.num < y.num then (s, Rep.of 122) else s.noted x).1 (if x.num = y.num then (s, y.rep) else if x.num < y.num then (s, Rep.of 122) else s.noted x).2
  split
  ·exact ⟨h, (h.sok y (seek_mem e).1).rep, rfl, rfl, rfl, rfl, rfl, rfl⟩
  ·split
   ·exact ⟨h, Rep.of_ok (by omega), rfl, rfl, rfl, rfl, rfl, rfl⟩
   ·exact h.noted hx hc h5 (.inl (by rw [e]; rfl))
theorem Sv.Ok.done (h : s.Ok) (hx : x.Ok) (hc : x.op.chk = true) : (s.done x).1.Ok ∧ (s.done x).2.Ok ∧ (s.done x).1.now = max s.now x.now ∧ (s.done x).1.seq = x.seq ∧ ((s.done x).1.kind = s.kind ∧ (s.done x).1.n = s.n ∧ (s.done x).1.bytes = s.bytes ∧ (s.done x).1.seed = s.seed) := by
 obtain ⟨h1, -, h3⟩ := (h.place hx.seq).move hx.now
 obtain ⟨f1, f2, f3, f4, f5, f6, f7, f8, f9, f10⟩ := h3.f
 unfold Sv.done
 split
 ·exact ⟨h1, Rep.of_ok (by omega), f6, f5, f1, f2, f3, f4⟩
 ·have h4 := h1.once hx hc (by assumption)
  exact ⟨h4.ok, h4.rep, h4.now.trans f6, h4.seq.trans f5, h4.cfg.1.trans f1, h4.cfg.2.1.trans f2, h4.cfg.2.2.1.trans f3, h4.cfg.2.2.2.trans f4⟩
theorem Sv.Ok.apply (h : s.Ok) (hx : x.Ok) : (s.apply x).1.Ok ∧ (s.apply x).2.1.Ok ∧ ((s.apply x).1.kind = s.kind ∧ (s.apply x).1.n = s.n ∧ (s.apply x).1.bytes = s.bytes ∧ (s.apply x).1.seed = s.seed) := by
 unfold Sv.apply
 split
 ·exact ⟨h, Rep.of_ok (by omega), rfl, rfl, rfl, rfl⟩
 ·rename_i hc
  split
  ·exact ⟨h, Rep.of_ok (by omega), rfl, rfl, rfl, rfl⟩
  ·have := h.done hx (by simpa using hc)
   exact ⟨this.1, this.2.1, this.2.2.2.2⟩
theorem Sv.new_ok {kind n bytes seed : Nat} (hk : kind = 1 ∨ kind = 2) (h1 : 1 ≤ n) (h2 : n ≤ 1000) (b1 : 1 ≤ bytes) (b2 : bytes ≤ 1048576) (h3 : seed < 18446744073709551616) : (Sv.new kind n bytes seed).Ok := by
 obtain ⟨p1, p2, p3, p4⟩ := Policyy.Pv.new_fit hk h1 h2 h3
 exact ⟨⟨hk, h1, h2, b1, b2, h3, by show (0 : Nat) < _; omega, by show (0 : Nat) < _; omega, by show (0 : Nat) < _; omega, by show (0 : Nat) < _; omega, Nat.le_refl _, p1, p3, p2, List.Pairwise.nil, fun _ h => (nomatch h), fun _ h => (nomatch h), p4, List.Pairwise.nil, Nat.zero_le _, fun _ h => (nomatch h)⟩, fun _ h => (nomatch h), Nat.zero_le _⟩
end
end Go.Proofs.YtkiabladmgagdabGreatDoor.Storey
namespace Go.Proofs.YtkiabladmgagdabGreatDoor.Storey
open Go.ChangeShapes Go.WideShapes Go.ChangeAt Go.RowKit Go.ChangeMaps Go.Maps
open Wirey (Blk Row str str_size str_list str_cat str_inj Kp)
open Taby (ownsMap_stay ownsMap_tight turned_size)

theorem ukey_law : Maps.Keyed Tryz.prog 22 := Maps.int_keyed Tryz.underlying22
def nk (i : Nat) : Lit := .int .u64 i
theorem nk_ne {a b : Nat} (h : a ≠ b) : nk a ≠ nk b := fun e => h (by unfold nk at e; injection e with _ e; omega)
theorem nk_wf {i : Nat} (h : i < 18446744073709551616) : (nk i).wf = true := by
 simp [nk, Lit.wf, IntKind.min, IntKind.max, IntKind.signed, IntKind.bits]
 omega
theorem nkey_of {i : Nat} (h : i < 18446744073709551616) : keyOf Tryz.prog 22 (.int .u64 i) = some (nk i) := Maps.keyOf_int_mk Tryz.underlying22 (nk_wf h)
theorem nkey_is (i : Nat) : WideAt.IsKeyLit (nk i) := trivial
abbrev Rep.cs (r : Rep) : Array Value := #[.int .i64 r.e, .string (str r.val), .int .u64 r.ver]
abbrev tcs (n : Nat) (r : Rep) : Array Value := #[.int .u64 n, .int .i64 r.e, .string (str r.val), .int .u64 r.ver]
def td (n : Nat) (r : Rep) : DataW Unit := .agg [.lit (.int .u64 n), .lit (.int .i64 r.e), .lit (.string r.val), .lit (.int .u64 r.ver)]
theorem td_inj {n n' : Nat} {r r' : Rep} (h : td n r = td n' r') : n = n' ∧ r = r' := by
 obtain ⟨a, b, c⟩ := r
 obtain ⟨a', b', c'⟩ := r'
 simp only [td, DataW.agg.injEq, List.cons.injEq, DataW.lit.injEq, Lit.string.injEq, Lit.int.injEq, true_and, and_true, Int.natCast_inj] at h
 obtain ⟨rfl, rfl, rfl, rfl⟩ := h
 exact ⟨rfl, rfl⟩
theorem tcs_inj {n n' : Nat} {r r' : Rep} (h : Value.agg (tcs n r) = Value.agg (tcs n' r')) : n = n' ∧ r = r' := by
 obtain ⟨a, b, c⟩ := r
 obtain ⟨a', b', c'⟩ := r'
 simp only [tcs, Value.agg.injEq, Array.mk.injEq, List.cons.injEq, Value.string.injEq, Value.int.injEq, true_and, and_true, Int.natCast_inj] at h
 obtain ⟨rfl, rfl, h1, rfl⟩ := h
 obtain rfl := str_inj h1
 exact ⟨rfl, rfl⟩
def Tok (x : Nat × Rep) : Prop := x.1 < 18446744073709551616 ∧ x.2.Ok
open Classical in
noncomputable def RT (v : Value) : Option (DataW Unit × List MemPlace) := if h : ∃ x : Nat × Rep, Tok x ∧ v = .agg (tcs x.1 x.2) then some (td h.choose.1 h.choose.2, []) else none
theorem RT_mk {n : Nat} {r : Rep} (hn : n < 18446744073709551616) (hr : r.Ok) : RT (.agg (tcs n r)) = some (td n r, []) := by
 have h : ∃ x : Nat × Rep, Tok x ∧ Value.agg (tcs n r) = .agg (tcs x.1 x.2) := ⟨(n, r), ⟨hn, hr⟩, rfl⟩
 unfold RT
 rw [dif_pos h]
 obtain ⟨e1, e2⟩ := tcs_inj h.choose_spec.2
 rw [← e1, ← e2]
theorem RT_inv {v : Value} {z : DataW Unit × List MemPlace} (h : RT v = some z) : ∃ n r, v = .agg (tcs n r) ∧ z = (td n r, []) := by
 unfold RT at h
 split at h
 ·rename_i hx
  injection h with h
  exact ⟨hx.choose.1, hx.choose.2, hx.choose_spec.2, h.symm⟩
 ·cases h
theorem zeroT (w : World) : (zeroValue 72).run Tryz.prog w = .ok (.agg #[.int .u64 0, .int .i64 0, .string ⟨#[]⟩, .int .u64 0]) w := by kernel_rfl
def numOf (i : Nat) (l : List Ses) : Nat := ((seek i l).map (·.num)).getD 0
def repOf (i : Nat) (l : List Ses) : Rep := ((seek i l).map (·.rep)).getD (.of 0)
structure SesAt (w : World) (S : Nat) (l : List Ses) (D : DataW Unit) : Prop where
 mp : w.ownsMap Tryz.prog 22 RT S l.length D
 has : ∀ i, Maps.has D (nk i) = (seek i l).isSome
 val : ∀ i x, seek i l = some x → ∀ z, D.atKey (nk i) z = td x.num x.rep
 size : Maps.size D = l.length
section
variable {w w' : World} {S : Nat} {l : List Ses} {D : DataW Unit} {i : Nat}
theorem SesAt.stay (h : SesAt w S l D) (hb : w'.heap[S]? = w.heap[S]?) : SesAt w' S l D := ⟨ownsMap_stay h.mp hb, h.has, h.val, h.size⟩
theorem SesAt.tidy (h : SesAt w S l D) : Tidy D := h.mp.tidy ukey_law
theorem SesAt.new (w : World) : SesAt (w.alloc (.map #[] 0)) w.heap.size [] (.map []) :=
 ⟨World.ownsMap_made w Tryz.prog 22 RT, fun _ => rfl, fun _ _ h => (nomatch h), rfl⟩
theorem SesAt.look (h : SesAt w S l D) (hi : i < 18446744073709551616) :
  (Instr.lookup 59 (.map (some S)) (.int .u64 i) true).run Tryz.prog w = .ok (.tuple #[.agg (tcs (numOf i l) (repOf i l)), .bool (seek i l).isSome]) w := by
 obtain ⟨es, clock, hb, F, _, hD⟩ := h.mp
 rcases Maps.fit_look true ukey_law Tryz.underlying59 (zeroT w) hb F (nkey_of hi) with ⟨hrun, _, hat⟩ | ⟨e0, y, _, _, hrun, hRv, hat, _⟩
 ·rw [← hD] at hat
  have e1 := Maps.has_false_of_atKey hat
  rw [h.has] at e1
  cases hf : seek i l with
  | some x => rw [hf] at e1; cases e1
  | none => rw [hrun]; unfold numOf repOf; rw [hf]; rfl
 ·rw [← hD] at hat
  have e1 := Maps.has_true_of_atKey hat
  rw [h.has] at e1
  cases hf : seek i l with
  | none => rw [hf] at e1; cases e1
  | some x =>
   obtain ⟨n', r', hv, hy⟩ := RT_inv hRv
   have e2 := (h.val i x hf (.agg [])).symm.trans (hat (.agg []))
   rw [hy] at e2
   obtain ⟨e3, e4⟩ := td_inj e2
   rw [hrun, hv]
   unfold numOf repOf
   rw [hf, ← e3, ← e4]
   rfl
theorem SesAt.len (h : SesAt w S l D) (ty : TypeId) : (Builtin.len_ #[59] ty #[.map (some S)]).run Tryz.prog w = .ok (.int .i64 l.length) w := by
 rw [← h.size]
 exact World.ownsMap.len h.mp Tryz.underlying59 ty
theorem SesAt.put {x : Ses} (h : SesAt w S l D) (hu : Up l) (hx : x.Ok) (hl : l.length < 1000000) :
  ∃ w' D', (Instr.mapUpdate 59 (.map (some S)) (.int .u64 x.id) (.agg (tcs x.num x.rep))).run Tryz.prog w = .ok () w' ∧ SesAt w' S (lay x l) D' ∧ w.grownBy w' (some S) ∧ w'.heap.size = w.heap.size := by
 obtain ⟨w', hrun, hown, ht⟩ := h.mp.store ukey_law Tryz.underlying59 (by unfold maxLen; omega) (nkey_of hx.id) (RT_mk hx.num hx.rep)
 have hsz : Maps.size (D.put (nk x.id) (td x.num x.rep)) = (lay x l).length := by
  have hs := size_put (k := nk x.id) h.tidy (td x.num x.rep)
  rw [h.has, h.size] at hs
  cases e : seek x.id l with
  | none => rw [e] at hs; rw [hs, lay_new e]; rfl
  | some y => rw [e] at hs; rw [hs, lay_old hu (by rw [e]; rfl)]; rfl
 refine ⟨w', D.put (nk x.id) (td x.num x.rep), hrun, ⟨?_, fun k' => ?_, fun k' y hf z => ?_, hsz⟩, ht.grown, ?_⟩
 ·rw [← hsz]; exact ownsMap_tight hown
 ·rw [seek_lay hu]
  by_cases e : x.id = k'
  ·subst e; rw [if_pos rfl]; exact has_put_same h.tidy.isMap (nkey_is _) _
  ·rw [if_neg e, has_put_other (nk_ne fun e' => e e'.symm)]; exact h.has k'
 ·rw [seek_lay hu] at hf
  by_cases e : x.id = k'
  ·subst e
   rw [if_pos rfl] at hf
   replace hf := Option.some.inj hf
   subst hf
   rw [atKey_put_same h.tidy.isMap (nkey_is x.id)]
  ·rw [if_neg e] at hf
   rw [atKey_put_other (nk_ne fun e' => e e'.symm)]; exact h.val k' y hf z
 ·exact turned_size ht
end
end Go.Proofs.YtkiabladmgagdabGreatDoor.Storey
namespace Go.Proofs.YtkiabladmgagdabGreatDoor.Taby
open Go.ChangeShapes Go.WideShapes Go.ChangeAt Go.RowKit Go.ChangeMaps Go.Maps
open Wirey (Blk Row str str_size str_list str_cat str_inj Kp)
open Regy
section
variable {w0 w : World} {P : Nat → Prop} {b M : Nat} {m : List En}
theorem wrap_is (z : Int) : IntKind.i64.wrap z = wrap64 z := by rw [IntKind.wrap_i64, wrap64]
abbrev Tbl (b M : Nat) : Nat → Prop := fun j => j = b ∨ j = M
theorem TabAt.kpBelow {w w' : World} (hb : Below w.heap.size w w') : Kp (Tbl b M) w w' := ⟨hb.os, hb.tape, hb.output, hb.size, fun k hk _ => hb.block k hk⟩
set_option maxHeartbeats 4000000 in
set_option maxRecDepth 100000 in
theorem drop_t (k : List UInt8) (hk : k.length ≤ 64) (hl : m.length ≤ 100000) (w : World) (h : TabAt w b M m) : Calls Tryz.prog 55 #[tp b, .string (str k)] w fun e w' => e = .returned (.bool (find k m).isSome) ∧ TabAt w' b M (drop k m) ∧ Kp (Tbl b M) w w' := by
 cases hf : find k m with
 | none =>
  have hget := get_t k hk w h
  rw [hf] at hget
  have hd := drop_none hf
  rw [hd]
  go_enter Tryz.func55, Tryz.ntmps55
  go_wp2_with fail
  refine hget.mono ?_
  rintro e w1 ⟨rfl, hb⟩
  have hb2 := hb.alloc hb.size (.cells #[.string ⟨#[]⟩, .string ⟨#[]⟩, .int .u64 0, .int .u64 0] 66)
  have hT := h.below hb2
  go_wp2_with fail
  go_ret
  exact ⟨rfl, hT, TabAt.kpBelow hb2⟩
 | some x =>
 have hx : x.Ok := h.ok x (find_mem hf).1
 have hget := get_t k hk w h
 rw [hf] at hget
 simp only [Option.getD_some, Option.isSome_some] at hget
 obtain ⟨hn1, hn2⟩ := drop_one h.rise hf
 have hsl := size_le h.ok
 go_enter Tryz.func55, Tryz.ntmps55
 go_wp2_with fail
 refine hget.mono ?_
 rintro e w1 ⟨rfl, hb⟩
 have hb2 := hb.alloc hb.size (.cells #[.string (str x.key), .string (str x.val), .int .u64 x.ver, .int .u64 x.fin] 66)
 have hT := h.below hb2
 have hX := Blk.new w1 66 #[.string (str x.key), .string (str x.val), .int .u64 x.ver, .int .u64 x.fin]
 have hw1 := hb.size
 go_upto_region 4 with (fail)
 generalize w1.alloc (.cells #[.string (str x.key), .string (str x.val), .int .u64 x.ver, .int .u64 x.fin] 66) = w2 at *
 generalize w1.heap.size = X at *
 obtain ⟨D, hD⟩ := hT.mp
 obtain ⟨wa, D', hrun, hD', hgr, hsz⟩ := hD.drop h.rise (k := k) (by unfold maxLen; omega) 0
 have c0 : w2.cell? ⟨b, 0, none⟩ = some (.map (some M)) := hT.hd.cell 0
 have hbX := hT.hd.lt
 have hMX := hT.ltM
 have hbw := h.hd.lt
 have hMw := h.ltM
 have hbk : Blk wa b 107 #[.map (some M), .int .i64 (size m : Int)] := hT.hd.grown hgr (fun e => h.ne (by injection e))
 have hxk : Blk wa X 66 #[.string (str x.key), .string (str x.val), .int .u64 x.ver, .int .u64 x.fin] := hX.grown hgr (fun e => absurd (Option.some.inj e) (by omega))
 have hXb : X ≠ b := by omega
 have hKp : Kp (Tbl b M) w wa := (TabAt.kpBelow hb2).trans ⟨hgr.os, hgr.tape, hgr.output, hgr.size, fun k hk hn => hgr.block k hk (fun e => hn (.inr (Option.some.inj e)))⟩
 go_upto_region 5 with (fail)
 clear hrun c0 hD hT hX hgr hb2 hb hget
 generalize hnm : size m = n at *
 have HN := Lib.hid hnm
 clear hnm
 have cs : ∀ {W : World}, Below wa.heap.size wa W → (fun W : World => W.cell? ⟨b, 1, none⟩ = some (.int .i64 n) ∧ W.cell? ⟨X, 0, none⟩ = some (.string (str x.key)) ∧ W.cell? ⟨X, 1, none⟩ = some (.string (str x.val)) ∧ W.cell? ⟨X, 2, none⟩ = some (.int .u64 x.ver) ∧ W.cell? ⟨X, 3, none⟩ = some (.int .u64 x.fin)) W := fun {W} hW => by
  have q0 := (hbk.below hW hbk.lt).cell 1
  have q1 := hxk.below hW hxk.lt
  exact ⟨q0, q1.cell 0, q1.cell 1, q1.cell 2, q1.cell 3⟩
 have hb0 : Below wa.heap.size wa wa.drew := (Below.refl _ _).drew
 refine regionK_only 10 #[false, false, false, false, false, false, false, false, false, false] 9 (V := (fun W : World => W.cell? ⟨b, 1, none⟩ = some (.int .i64 n) ∧ W.cell? ⟨X, 0, none⟩ = some (.string (str x.key)) ∧ W.cell? ⟨X, 1, none⟩ = some (.string (str x.val)) ∧ W.cell? ⟨X, 2, none⟩ = some (.int .u64 x.ver) ∧ W.cell? ⟨X, 3, none⟩ = some (.int .u64 x.fin))) rfl rfl (by kernel_rfl) (cs hb0) (fun hSw => ?_)
 generalize wa.drew = w20 at hb0 hSw ⊢
 have hb20 := hb0
 clear hb0
 refine early_at 9 0 20 (fuel := 9) ?_ rfl rfl (by kernel_rfl) (by kernel_rfl) (by kernel_rfl) (by decide) rfl (by kernel_rfl) (by kernel_rfl) (Or.inl ⟨by rfl, ?_⟩) hSw ?_
 rotate_left
 ·intro wx hSx
  (try dsimp only at hSx)
  go_split_ands
  go_simp
  (try with_reducible rfl)
 simp only [sA, List.set_cons_zero, sC]
 refine early_at 9 1 21 (fuel := 8) ?_ rfl rfl (by kernel_rfl) (by kernel_rfl) (by kernel_rfl) (by decide) rfl (by kernel_rfl) (by kernel_rfl) (Or.inl ⟨by rfl, ?_⟩) hSw ?_
 rotate_left
 ·intro wx hSx
  (try dsimp only at hSx)
  go_split_ands
  go_simp
  (try with_reducible rfl)
 simp only [sA, List.set_cons_zero, sC]
 refine early_at 9 2 22 (fuel := 7) ?_ rfl rfl (by kernel_rfl) (by kernel_rfl) (by kernel_rfl) (by decide) rfl (by kernel_rfl) (by kernel_rfl) (Or.inl ⟨by rfl, ?_⟩) hSw ?_
 rotate_left
 ·intro wx hSx
  (try dsimp only at hSx)
  go_split_ands
  go_simp
  (try with_reducible rfl)
 simp only [sA, List.set_cons_zero, sC]
 refine early_at 9 3 23 (fuel := 6) ?_ rfl rfl (by kernel_rfl) (by kernel_rfl) (by kernel_rfl) (by decide) rfl (by kernel_rfl) (by kernel_rfl) (Or.inl ⟨by rfl, ?_⟩) hSw ?_
 rotate_left
 ·intro wx hSx
  (try dsimp only at hSx)
  go_split_ands
  go_simp
  (try with_reducible rfl)
 simp only [sA, List.set_cons_zero, sC]
 refine early_at 9 4 24 (fuel := 5) ?_ rfl rfl (by kernel_rfl) (by kernel_rfl) (by kernel_rfl) (by decide) rfl (by kernel_rfl) (by kernel_rfl) (Or.inl ⟨by rfl, ?_⟩) hSw ?_
 rotate_left
 ·intro wx hSx
  (try dsimp only at hSx)
  go_split_ands
  go_simp
  (try with_reducible rfl)
 simp only [sA, List.set_cons_zero, sC]
 refine Wirey.wpAnyK_one 5 (by kernel_rfl) rfl (fun K hK => ?_)
 go_simp
 refine Calls.mono (size_c hx _) ?_
 rintro e wb ⟨rfl, hb1⟩
 have hb2 : Below wa.heap.size wa wb := hb20.trans (hb1.mono hb20.size)
 refine hK.out _ _ trivial (fun _ => cs hb2) ?_
 have hSw := cs hb2
 clear hK K
 simp only [sA, List.set_cons_zero, sC]
 refine early_at 9 6 26 (fuel := 3) ?_ rfl rfl (by kernel_rfl) (by kernel_rfl) (by kernel_rfl) (by decide) rfl (by kernel_rfl) (by kernel_rfl) (Or.inl ⟨by rfl, ?_⟩) hSw ?_
 rotate_left
 ·intro wx hSx
  (try dsimp only at hSx)
  go_split_ands
  go_simp
  (try with_reducible rfl)
 simp only [sA, List.set_cons_zero, sC]
 refine takeK_at 9 7 27 (fuel := 2) ?_ rfl rfl (by kernel_rfl) (by kernel_rfl) (by kernel_rfl) (by decide) (Or.inl ⟨by rfl, ?_⟩) hSw ?_
 rotate_left
 ·intro wx hSx
  (try dsimp only at hSx)
  go_split_ands
  go_simp
  (try with_reducible rfl)
 simp only [sA, List.set_cons_zero, sC]
 refine early_at 9 8 28 (fuel := 1) ?_ rfl rfl (by kernel_rfl) (by kernel_rfl) (by kernel_rfl) (by decide) rfl (by kernel_rfl) (by kernel_rfl) (Or.inl ⟨by rfl, ?_⟩) hSw ?_
 rotate_left
 ·intro wx hSx
  (try dsimp only at hSx)
  go_split_ands
  go_simp
  (try with_reducible rfl)
 simp only [sA, List.set_cons_zero, sC]
 refine Wirey.wpAnyK_one 9 (by kernel_rfl) rfl (fun K hK => ?_)
 have y1 := (hbk.below hb2 hbk.lt).cell 1
 have f1 := (hbk.below hb2 hbk.lt).free 1
 simp only [gA, gB, gC] at y1
 go_simp
 refine hK.out _ _ trivial (fun h9 => absurd h9 (by decide)) ?_
 clear hK K
 refine Wirey.wpAnyK_done (by kernel_rfl) ⟨rfl, ?_⟩
 have hw2 : wrap64 ((n : Int) - ((x.key.length + x.val.length : Nat) : Int)) = ((size (drop k m) : Nat) : Int) := by unfold wrap64; omega
 go_wp2_with fail
 go_ret
 refine ⟨rfl, ⟨?_, ⟨D', ?_⟩, h.ne, drop_rise h.rise, drop_ok h.ok⟩, ?_⟩
 ·have hp := (hbk.below hb2 hbk.lt).put 1 (.int .i64 (wrap64 ((n : Int) - ((x.key.length + x.val.length : Nat) : Int))))
  simp only [sA, List.set_cons_zero, sC] at hp
  rw [hw2] at hp
  rw [wrap_is, ← Int.natCast_add, hw2]
  exact hp
 ·refine hD'.stay ((Below.heap_setCell _ _ _ _ (by show M ≠ b; exact fun e => h.ne e.symm)).trans (hb2.block M hD'.mp.lt))
 ·exact hKp.trans ((TabAt.kpBelow hb2).trans ((Kp.refl _ _).set (p := ⟨b, 1, none⟩) (.inl rfl) _))
set_option maxHeartbeats 4000000 in
set_option maxRecDepth 100000 in
theorem put_t {x : En} (hx : x.Ok) (hl : m.length ≤ 100000) (w : World) (h : TabAt w b M m) : Calls Tryz.prog 25 #[tp b, .agg x.cs] w fun e w' => e = .returned (.tuple #[]) ∧ TabAt w' b M (ins x m) ∧ Kp (Tbl b M) w w' := by
 have hbB := (Below.refl _ w).alloc (Nat.le_refl _) (.cells #[.string (str x.key), .string (str x.val), .int .u64 x.ver, .int .u64 x.fin] 66)
 have hX0 := Blk.new w 66 #[.string (str x.key), .string (str x.val), .int .u64 x.ver, .int .u64 x.fin]
 have hT := h.below hbB
 have hbw := h.hd.lt
 have hMw := h.ltM
 have hne := h.ne
 have hrise := h.rise
 have hok := h.ok
 have hsl := size_le (drop_ok (k := x.key) hok)
 have hdl := drop_len (k := x.key) (l := m)
 have hfd : find x.key (drop x.key m) = Option.none := by rw [find_drop, if_pos rfl]
 have e1 := ins_drop x hrise
 have e2 := size_new hfd
 rw [e1] at e2
 have hx1 := hx.key
 have hx2 := hx.val
 have hnm : ∀ W : World, (binOp .eql 105 (.map (some M)) (.map none)).run Tryz.prog W = .ok (.bool false) W := fun W => run_eql_map_nil W 105 9 66 (some M) Tryz.underlying105
 go_enter Tryz.func25, Tryz.ntmps25
 go_upto_region 2 with (fail)
 generalize w.alloc (.cells #[.string (str x.key), .string (str x.val), .int .u64 x.ver, .int .u64 x.fin] 66) = w1 at *
 have x0 := hX0.cell 0
 simp only [List.getElem?_toArray, List.getElem?_cons_zero] at x0
 go_upto_region 3 with (go_at_call 55; refine (drop_t x.key hx.key hl w1 hT).mono ?_; rintro e w2 ⟨rfl, hT2, hk2⟩)
 have hltX := hX0.lt
 have hX2 : Blk w2 w.heap.size 66 #[.string (str x.key), .string (str x.val), .int .u64 x.ver, .int .u64 x.fin] := (hk2.block _ hltX (by rintro (e | e) <;> omega)).trans hX0
 have hKp := (TabAt.kpBelow (b := b) (M := M) hbB).trans hk2
 have c0 : w2.cell? ⟨b, 0, none⟩ = some (.map (some M)) := hT2.hd.cell 0
 generalize w.heap.size = X at *
 go_upto_region 5 with (fail)
 clear x0 hX0 hT hbB hk2
 have cs : ∀ {W : World}, Below w2.heap.size w2 W → (fun W : World => W.cell? ⟨b, 0, none⟩ = some (.map (some M)) ∧ W.cell? ⟨X, 0, none⟩ = some (.string (str x.key)) ∧ W.cell? ⟨X, 1, none⟩ = some (.string (str x.val)) ∧ W.cell? ⟨X, 2, none⟩ = some (.int .u64 x.ver) ∧ W.cell? ⟨X, 3, none⟩ = some (.int .u64 x.fin)) W := fun {W} hW => by
  have q0 := (hT2.hd.below hW hT2.hd.lt).cell 0
  have q1 := hX2.below hW hX2.lt
  exact ⟨q0, q1.cell 0, q1.cell 1, q1.cell 2, q1.cell 3⟩
 have hb0 : Below w2.heap.size w2 w2.drew := (Below.refl _ _).drew
 obtain ⟨D, hD⟩ := (hT2.below hb0).mp
 obtain ⟨wa, D', hrun, hD', hgr, hsz⟩ := hD.put (drop_rise hrise) hx hfd (by omega)
 rw [e1] at hD'
 refine regionK_only 8 #[false, false, false, false, false, false, false, false] 7 (V := (fun W : World => W.cell? ⟨b, 0, none⟩ = some (.map (some M)) ∧ W.cell? ⟨X, 0, none⟩ = some (.string (str x.key)) ∧ W.cell? ⟨X, 1, none⟩ = some (.string (str x.val)) ∧ W.cell? ⟨X, 2, none⟩ = some (.int .u64 x.ver) ∧ W.cell? ⟨X, 3, none⟩ = some (.int .u64 x.fin))) rfl rfl (by kernel_rfl) (cs hb0) (fun hSw => ?_)
 refine early_at 7 0 19 (fuel := 7) ?_ rfl rfl (by kernel_rfl) (by kernel_rfl) (by kernel_rfl) (by decide) rfl (by kernel_rfl) (by kernel_rfl) (Or.inl ⟨by rfl, ?_⟩) hSw ?_
 rotate_left
 ·intro wx hSx
  (try dsimp only at hSx)
  go_split_ands
  go_simp
  (try with_reducible rfl)
 simp only [sA, List.set_cons_zero, sC]
 refine early_at 7 1 20 (fuel := 6) ?_ rfl rfl (by kernel_rfl) (by kernel_rfl) (by kernel_rfl) (by decide) rfl (by kernel_rfl) (by kernel_rfl) (Or.inl ⟨by rfl, ?_⟩) hSw ?_
 rotate_left
 ·intro wx hSx
  (try dsimp only at hSx)
  go_split_ands
  go_simp
  (try with_reducible rfl)
 simp only [sA, List.set_cons_zero, sC]
 refine early_at 7 2 21 (fuel := 5) ?_ rfl rfl (by kernel_rfl) (by kernel_rfl) (by kernel_rfl) (by decide) rfl (by kernel_rfl) (by kernel_rfl) (Or.inl ⟨by rfl, ?_⟩) hSw ?_
 rotate_left
 ·intro wx hSx
  (try dsimp only at hSx)
  go_split_ands
  go_simp
  (try with_reducible rfl)
 simp only [sA, List.set_cons_zero, sC]
 refine early_at 7 3 22 (fuel := 4) ?_ rfl rfl (by kernel_rfl) (by kernel_rfl) (by kernel_rfl) (by decide) rfl (by kernel_rfl) (by kernel_rfl) (Or.inl ⟨by rfl, ?_⟩) hSw ?_
 rotate_left
 ·intro wx hSx
  (try dsimp only at hSx)
  go_split_ands
  go_simp
  (try with_reducible rfl)
 simp only [sA, List.set_cons_zero, sC]
 refine early_at 7 4 23 (fuel := 3) ?_ rfl rfl (by kernel_rfl) (by kernel_rfl) (by kernel_rfl) (by decide) rfl (by kernel_rfl) (by kernel_rfl) (Or.inl ⟨by rfl, ?_⟩) hSw ?_
 rotate_left
 ·intro wx hSx
  (try dsimp only at hSx)
  go_split_ands
  go_simp
  (try with_reducible rfl)
 simp only [sA, List.set_cons_zero, sC]
 refine early_at 7 5 24 (fuel := 2) ?_ rfl rfl (by kernel_rfl) (by kernel_rfl) (by kernel_rfl) (by decide) rfl (by kernel_rfl) (by kernel_rfl) (Or.inl ⟨by rfl, ?_⟩) hSw ?_
 rotate_left
 ·intro wx hSx
  (try dsimp only at hSx)
  go_split_ands
  go_simp
  (try with_reducible rfl)
 simp only [sA, List.set_cons_zero, sC]
 refine early_at 7 6 25 (fuel := 1) ?_ rfl rfl (by kernel_rfl) (by kernel_rfl) (by kernel_rfl) (by decide) rfl (by kernel_rfl) (by kernel_rfl) (Or.inl ⟨by rfl, ?_⟩) hSw ?_
 rotate_left
 ·intro wx hSx
  (try dsimp only at hSx)
  go_split_ands
  go_simp
  (try with_reducible rfl)
 simp only [sA, List.set_cons_zero, sC]
 refine Wirey.wpAnyK_one 7 (by kernel_rfl) rfl (fun K hK => ?_)
 go_simp
 refine hK.out _ _ trivial (fun h9 => absurd h9 (by decide)) ?_
 clear hK K
 refine Wirey.wpAnyK_done (by kernel_rfl) ⟨rfl, ?_⟩
 have hbk : Blk wa b 107 #[.map (some M), .int .i64 (size (drop x.key m) : Int)] := (hT2.below hb0).hd.grown hgr (fun e => hne (by injection e))
 have hxk : Blk wa X 66 #[.string (str x.key), .string (str x.val), .int .u64 x.ver, .int .u64 x.fin] := Blk.grown (w := w2.drew) hX2 hgr (fun e => absurd (Option.some.inj e) (by omega))
 replace hKp : Kp (Tbl b M) w wa := hKp.trans ((TabAt.kpBelow hb0).trans ⟨hgr.os, hgr.tape, hgr.output, hgr.size, fun k hk hn => hgr.block k hk (fun e => hn (.inr (Option.some.inj e)))⟩)
 clear hrun c0 hD hT2 hX2 hgr hb0 cs hSw
 generalize hnm : size (drop x.key m) = n at *
 have HN := Lib.hid hnm
 clear hnm
 go_upto_region 6 with (fail)
 have cs : ∀ {W : World}, Below wa.heap.size wa W → (fun W : World => W.cell? ⟨b, 1, none⟩ = some (.int .i64 n) ∧ W.cell? ⟨X, 0, none⟩ = some (.string (str x.key)) ∧ W.cell? ⟨X, 1, none⟩ = some (.string (str x.val)) ∧ W.cell? ⟨X, 2, none⟩ = some (.int .u64 x.ver) ∧ W.cell? ⟨X, 3, none⟩ = some (.int .u64 x.fin)) W := fun {W} hW => by
  have q0 := (hbk.below hW hbk.lt).cell 1
  have q1 := hxk.below hW hxk.lt
  exact ⟨q0, q1.cell 0, q1.cell 1, q1.cell 2, q1.cell 3⟩
 have hb0 : Below wa.heap.size wa wa.drew := (Below.refl _ _).drew
 refine regionK_only 10 #[false, false, false, false, false, false, false, false, false, false] 9 (V := (fun W : World => W.cell? ⟨b, 1, none⟩ = some (.int .i64 n) ∧ W.cell? ⟨X, 0, none⟩ = some (.string (str x.key)) ∧ W.cell? ⟨X, 1, none⟩ = some (.string (str x.val)) ∧ W.cell? ⟨X, 2, none⟩ = some (.int .u64 x.ver) ∧ W.cell? ⟨X, 3, none⟩ = some (.int .u64 x.fin))) rfl rfl (by kernel_rfl) (cs hb0) (fun hSw => ?_)
 generalize wa.drew = w20 at hb0 hSw ⊢
 have hb20 := hb0
 clear hb0
 refine early_at 9 0 26 (fuel := 9) ?_ rfl rfl (by kernel_rfl) (by kernel_rfl) (by kernel_rfl) (by decide) rfl (by kernel_rfl) (by kernel_rfl) (Or.inl ⟨by rfl, ?_⟩) hSw ?_
 rotate_left
 ·intro wx hSx
  (try dsimp only at hSx)
  go_split_ands
  go_simp
  (try with_reducible rfl)
 simp only [sA, List.set_cons_zero, sC]
 refine early_at 9 1 27 (fuel := 8) ?_ rfl rfl (by kernel_rfl) (by kernel_rfl) (by kernel_rfl) (by decide) rfl (by kernel_rfl) (by kernel_rfl) (Or.inl ⟨by rfl, ?_⟩) hSw ?_
 rotate_left
 ·intro wx hSx
  (try dsimp only at hSx)
  go_split_ands
  go_simp
  (try with_reducible rfl)
 simp only [sA, List.set_cons_zero, sC]
 refine early_at 9 2 28 (fuel := 7) ?_ rfl rfl (by kernel_rfl) (by kernel_rfl) (by kernel_rfl) (by decide) rfl (by kernel_rfl) (by kernel_rfl) (Or.inl ⟨by rfl, ?_⟩) hSw ?_
 rotate_left
 ·intro wx hSx
  (try dsimp only at hSx)
  go_split_ands
  go_simp
  (try with_reducible rfl)
 simp only [sA, List.set_cons_zero, sC]
 refine early_at 9 3 29 (fuel := 6) ?_ rfl rfl (by kernel_rfl) (by kernel_rfl) (by kernel_rfl) (by decide) rfl (by kernel_rfl) (by kernel_rfl) (Or.inl ⟨by rfl, ?_⟩) hSw ?_
 rotate_left
 ·intro wx hSx
  (try dsimp only at hSx)
  go_split_ands
  go_simp
  (try with_reducible rfl)
 simp only [sA, List.set_cons_zero, sC]
 refine early_at 9 4 30 (fuel := 5) ?_ rfl rfl (by kernel_rfl) (by kernel_rfl) (by kernel_rfl) (by decide) rfl (by kernel_rfl) (by kernel_rfl) (Or.inl ⟨by rfl, ?_⟩) hSw ?_
 rotate_left
 ·intro wx hSx
  (try dsimp only at hSx)
  go_split_ands
  go_simp
  (try with_reducible rfl)
 simp only [sA, List.set_cons_zero, sC]
 refine Wirey.wpAnyK_one 5 (by kernel_rfl) rfl (fun K hK => ?_)
 go_simp
 refine Calls.mono (size_c hx _) ?_
 rintro e wb ⟨rfl, hb1⟩
 have hb2 : Below wa.heap.size wa wb := hb20.trans (hb1.mono hb20.size)
 refine hK.out _ _ trivial (fun _ => cs hb2) ?_
 have hSw := cs hb2
 clear hK K
 simp only [sA, List.set_cons_zero, sC]
 refine early_at 9 6 32 (fuel := 3) ?_ rfl rfl (by kernel_rfl) (by kernel_rfl) (by kernel_rfl) (by decide) rfl (by kernel_rfl) (by kernel_rfl) (Or.inl ⟨by rfl, ?_⟩) hSw ?_
 rotate_left
 ·intro wx hSx
  (try dsimp only at hSx)
  go_split_ands
  go_simp
  (try with_reducible rfl)
 simp only [sA, List.set_cons_zero, sC]
 refine takeK_at 9 7 33 (fuel := 2) ?_ rfl rfl (by kernel_rfl) (by kernel_rfl) (by kernel_rfl) (by decide) (Or.inl ⟨by rfl, ?_⟩) hSw ?_
 rotate_left
 ·intro wx hSx
  (try dsimp only at hSx)
  go_split_ands
  go_simp
  (try with_reducible rfl)
 simp only [sA, List.set_cons_zero, sC]
 refine early_at 9 8 34 (fuel := 1) ?_ rfl rfl (by kernel_rfl) (by kernel_rfl) (by kernel_rfl) (by decide) rfl (by kernel_rfl) (by kernel_rfl) (Or.inl ⟨by rfl, ?_⟩) hSw ?_
 rotate_left
 ·intro wx hSx
  (try dsimp only at hSx)
  go_split_ands
  go_simp
  (try with_reducible rfl)
 simp only [sA, List.set_cons_zero, sC]
 refine Wirey.wpAnyK_one 9 (by kernel_rfl) rfl (fun K hK => ?_)
 have y1 := (hbk.below hb2 hbk.lt).cell 1
 have f1 := (hbk.below hb2 hbk.lt).free 1
 simp only [gA, gB, gC] at y1
 go_simp
 refine hK.out _ _ trivial (fun h9 => absurd h9 (by decide)) ?_
 clear hK K
 refine Wirey.wpAnyK_done (by kernel_rfl) ⟨rfl, ?_⟩
 have hw2 : wrap64 ((n : Int) + ((x.key.length + x.val.length : Nat) : Int)) = ((size (ins x m) : Nat) : Int) := by unfold wrap64; omega
 go_wp2_with fail
 refine bodyPost_end (v := .tuple #[]) (results_none rfl _ _ _) rfl ⟨rfl, ⟨?_, ⟨D', ?_⟩, hne, ins_rise hrise, ins_ok hx hok⟩, ?_⟩
 ·have hp := (hbk.below hb2 hbk.lt).put 1 (.int .i64 (wrap64 ((n : Int) + ((x.key.length + x.val.length : Nat) : Int))))
  simp only [sA, List.set_cons_zero, sC] at hp
  rw [hw2] at hp
  rw [wrap_is, ← Int.natCast_add, hw2]
  exact hp
 ·have hs2 := hD'.stay (hb2.block M hD'.mp.lt)
  exact hs2.stay (Below.heap_setCell _ _ _ _ (by show M ≠ b; exact fun e => hne e.symm))
 ·exact hKp.trans ((TabAt.kpBelow hb2).trans ((Kp.refl _ _).set (p := ⟨b, 1, none⟩) (.inl rfl) _))
end
end Go.Proofs.YtkiabladmgagdabGreatDoor.Taby
