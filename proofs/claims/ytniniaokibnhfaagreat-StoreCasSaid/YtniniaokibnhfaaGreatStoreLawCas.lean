/- Layer 12 (store): for every input the call returns true and leaves what it was given as it was: a compare-and-set lays its value just if the version that it names is there; versions rise, so that of two of one version one is told that another one is there (StoreCas). No condition. -/
import Derived.Test.YtniniaokibnhfaaGreatStoreKnownAll
namespace Go.Proofs.YtniniaokibnhfaaGreat.Storey
open Go.ChangeShapes Go.WideShapes Go.ChangeAt Go.RowKit
open Wirey (Blk Row str str_size str_list Kp)
open Taby (En TabAt Tbl tp find ins drop size ended St)
open Policyy (Pv HeldP StepP Tell)
open Ringy (Key)
open Regy

section
variable {w0 w w' w'' : World} {B b T M C S : Nat} {H H' : Nat → Prop} {s t : Sv} {k : Key} {v : Value} {l : List Key} {o : Opn} {x : Rcd}
def ca0 : Sv := Sv.new 1 4 1000 0
def caP (v : List UInt8) : Rcd := ⟨1, 0, 1, 1, ⟨2, [107], v, 0, 0⟩⟩
def caC (q : Nat) (v : List UInt8) (n : Nat) : Rcd := ⟨q, 0, 1, q, ⟨4, [107], v, 0, n⟩⟩
def caG : Rcd := ⟨4, 0, 1, 4, ⟨1, [107], [], 0, 0⟩⟩
/-- Behind some of them: the value, its version, the place, what was told. -/
structure Cas (s : Sv) (q : Nat) (v : List UInt8) (ver : Nat) : Prop where
  ok : s.Ok
  seq : s.seq = q
  now : s.now = 0
  vr : s.ver = ver
  bytes : s.bytes = 1000
  m : s.m = [⟨[107], v, ver, 0⟩]
  ss : ∃ r, s.ss = [⟨1, q, r⟩]
  vl : v.length ≤ 100
theorem rec_ok {q n : Nat} {k : Int} {v : List UInt8} (hq : q < 100) (hv : v.length ≤ 100) (hn : n < 100) : Rcd.Ok ⟨q, 0, 1, q, ⟨k, [107], v, 0, n⟩⟩ :=
  ⟨(by show q < _; omega), (by show (0 : Nat) < _; omega), (by show (1 : Nat) < _; omega), (by show q < _; omega), (by show (1 : Nat) ≤ maxLen; decide), (by show v.length ≤ maxLen; unfold maxLen; omega), (by show (0 : Nat) < _; omega), (by show n < _; omega)⟩
/-- The cache that does the next record of the one session: its tick has not moved, and nothing ended. -/
theorem cas_step {s : Sv} {q ver : Nat} {v : List UInt8} (h : Cas s q v ver) (hq : q < 90) {x : Rcd} (_hx : x.Ok) (hc : x.op.chk = true) (h5 : x.op.kind ≠ 5) (hs : x.seq = q + 1) (hn : x.now = 0) (hse : x.ses = 1) (hnu : x.num = q + 1) :
    ∃ t : Sv, t.Ok ∧ t.seq = q + 1 ∧ t.now = 0 ∧ t.ver = ver ∧ t.bytes = 1000 ∧ t.m = s.m ∧ t.ss = s.ss ∧ s.apply x = ((t.noted x).1, (t.noted x).2, 0) := by
  obtain ⟨hmo, hmm, hle⟩ := (h.ok.place (q := q + 1) (by omega)).move (now := 0) (by omega)
  obtain ⟨f1, f2, f3, f4, f5, f6, f7, f8, f9, f10⟩ := hle.f
  have hon : ((s.place (q + 1)).moveTo 0).once x = ((s.place (q + 1)).moveTo 0).noted x := by
    obtain ⟨r, hr⟩ := h.ss
    unfold Sv.once
    rw [f10, show (s.place (q + 1)).tick 0 = (s.place (q + 1)).tick 0 from rfl]
    show (match seek x.ses s.ss with | some y => _ | none => _) = _
    rw [hr, hse]
    show (if x.num = q then _ else if x.num < q then _ else _) = _
    rw [if_neg (by omega), if_neg (by omega)]
  refine ⟨(s.place (q + 1)).moveTo 0, hmo, f5, by rw [f6]; show max s.now 0 = 0; rw [h.now]; rfl, f7.trans h.vr, f3.trans h.bytes, ?_, f10, ?_⟩
  · rw [hmm]
    show s.m.filter _ = s.m
    refine List.filter_eq_self.2 fun y hy => ?_
    rw [h.m] at hy
    rcases List.mem_singleton.1 hy with rfl
    rfl
  · unfold Sv.apply
    rw [if_neg (by rw [hc]; decide), if_neg (by rw [h.seq, hs]; exact fun e => e rfl)]
    unfold Sv.done
    rw [if_neg h5, hs, hn, hon]
theorem put_one {t : Sv} {o : Opn} {ver : Nat} (hO : t.Ok) (hk : o.key.length ≤ 64) (hk1 : 0 < o.key.length) (hv : o.val.length ≤ 900) (ht : o.ttl = 0) (hver : t.ver = ver) (hv2 : ver < 1000) (hb : t.bytes = 1000) (hm : t.m = [] ∨ ∃ v0 e0 f0, t.m = [⟨o.key, v0, e0, f0⟩]) (hK : t.p.insertK o.key = []) :
    ∃ u : Sv, t.put o = (u, ⟨0, [], ver + 1⟩) ∧ u.Ok ∧ u.seq = t.seq ∧ u.now = t.now ∧ u.ver = ver + 1 ∧ u.bytes = 1000 ∧ u.m = [⟨o.key, o.val, ver + 1, 0⟩] ∧ u.ss = t.ss := by
  have hv1 : one t.ver 18446744073709551615 = ver + 1 := by rw [hver, one_lt (by omega)]
  have hcm : (t.come o).m = [⟨o.key, o.val, ver + 1, 0⟩] := by
    show ((t.p.insertK o.key).foldl Sv.fall _).m = _
    rw [hK]
    show ins ⟨o.key, o.val, one t.ver 18446744073709551615, endOf t.now o.ttl⟩ t.m = _
    rw [hv1, ht, show endOf t.now 0 = 0 from if_pos (.inl rfl)]
    rcases hm with hm | ⟨v0, e0, f0, hm⟩
    · rw [hm]; rfl
    · rw [hm]; simp [Taby.ins, Taby.less_irr]
  have hcs := (hO.toBase.come (o := o) hk hk1 (by omega)).2.2
  have hfit : Sv.fit (t.come o).m.length (t.come o) = t.come o := by
    refine fit_done ?_
    rw [hcm]
    show o.key.length + o.val.length + 0 ≤ (t.come o).bytes
    rw [hcs]
    show _ ≤ t.bytes
    omega
  have hpp : t.put o = (t.come o, ⟨0, [], ver + 1⟩) := by
    unfold Sv.put
    rw [if_neg (by rw [hb]; omega), hfit, hv1]
  have hok := (hO.put (o := o) hk hk1 (by omega)).1
  rw [hpp] at hok
  refine ⟨t.come o, hpp, hok, by rw [hcs]; rfl, by rw [hcs]; rfl, by rw [hcs]; exact hv1, by rw [hcs]; exact hb, hcm, by rw [hcs]; rfl⟩
theorem Cas.known {s t : Sv} {q ver : Nat} {v : List UInt8} (_h : Cas s q v ver) (ht : t.Ok) (hm : t.m = [⟨[107], v, ver, 0⟩]) : t.p.insertK [107] = [] := by
  refine known_no ht.fit (by decide) ?_
  rw [ht.has, hm]
  simp [Taby.find]
theorem cas_note {t : Sv} (q : Nat) (r : Rep) (hO : (t.note ⟨1, q, r⟩).Ok) (v : List UInt8) (ver : Nat) {q0 : Nat} {r0 : Rep} (hss : t.ss = [] ∨ t.ss = [⟨1, q0, r0⟩]) (hs : t.seq = q) (hn : t.now = 0) (hv : t.ver = ver) (hb : t.bytes = 1000) (hm : t.m = [⟨[107], v, ver, 0⟩]) (hl : v.length ≤ 100) : Cas (t.note ⟨1, q, r⟩) q v ver :=
  ⟨hO, hs, hn, hv, hb, hm, ⟨r, by
    show lay _ t.ss = _
    rcases hss with e | e <;> rw [e] <;> simp [lay]⟩, hl⟩
theorem ca_chk4 {v : List UInt8} {n : Nat} (hv : v.length ≤ 100) (hn : 0 < n) (q : Nat) : (caC q v n).op.chk = true := by
  show Opy.chk 4 [107] v 0 n = true
  unfold Opy.chk
  rw [if_neg (by simp; omega), if_neg (by decide), if_neg (by decide), if_pos rfl, decide_eq_true hn]
  rfl
theorem ca_first {v : List UInt8} (hv : v.length ≤ 100) : (ca0.apply (caP v)).2 = (⟨0, [], 1⟩, 0) ∧ Cas (ca0.apply (caP v)).1 1 v 1 := by
  have hO : ca0.Ok := Sv.new_ok (.inl rfl) (by decide) (by decide) (by decide) (by decide) (by decide)
  have hx : (caP v).Ok := rec_ok (by omega) hv (by omega)
  have hok := (hO.apply hx).1
  have hc : (caP v).op.chk = true := by
    show Opy.chk 2 [107] v 0 0 = true
    unfold Opy.chk
    rw [if_neg (by simp; omega), if_neg (by decide), if_pos rfl]
    rfl
  have hmo := ((hO.place (q := 1) (by omega)).move (now := 0) (by omega)).1
  have hap : ca0.apply (caP v) = ((((ca0.place 1).moveTo 0).noted (caP v)).1, (((ca0.place 1).moveTo 0).noted (caP v)).2, 0) := by
    unfold Sv.apply
    rw [if_neg (by rw [hc]; decide), if_neg (by show ¬ (1 : Nat) ≠ 0 + 1; omega)]
    rfl
  obtain ⟨u, hu, huo, h1, h2, h3, h4, h5, h6⟩ := put_one (t := (ca0.place 1).moveTo 0) (o := ⟨2, [107], v, 0, 0⟩) (ver := 0) hmo (by show (1 : Nat) ≤ 64; omega) (by show 0 < 1; omega) (by show v.length ≤ 900; omega) rfl rfl (by omega) rfl (.inl rfl) (by kernel_rfl)
  have hno : ((ca0.place 1).moveTo 0).noted (caP v) = (u.note ⟨1, 1, ⟨0, [], 1⟩⟩, ⟨0, [], 1⟩) := by
    unfold Sv.noted
    rw [show ((ca0.place 1).moveTo 0).act (caP v).op = ((ca0.place 1).moveTo 0).put ⟨2, [107], v, 0, 0⟩ from rfl, hu]
    rfl
  rw [hap, hno] at hok ⊢
  exact ⟨rfl, cas_note 1 _ hok v 1 (q0 := 0) (r0 := .of 0) (.inl h6) h1 h2 h3 h4 h5 hv⟩
theorem ca_cas {s : Sv} {q ver : Nat} {v w : List UInt8} {n : Nat} (h : Cas s q v ver) (hq : q < 90) (_hver : ver < 90) (hw : w.length ≤ 100) (hn : 0 < n) (hn2 : n < 90) :
    (n = ver → (s.apply (caC (q + 1) w n)).2 = (⟨0, [], ver + 1⟩, 0) ∧ Cas (s.apply (caC (q + 1) w n)).1 (q + 1) w (ver + 1)) ∧
    (n ≠ ver → (s.apply (caC (q + 1) w n)).2 = (⟨121, [], ver⟩, 0) ∧ Cas (s.apply (caC (q + 1) w n)).1 (q + 1) v ver) := by
  have hx : (caC (q + 1) w n).Ok := rec_ok (by omega) hw (by omega)
  have hok := (h.ok.apply hx).1
  obtain ⟨t, t1, t2, t3, t4, t5, t6, t7, hA⟩ := cas_step h hq hx (ca_chk4 hw hn (q + 1)) (by show (4 : Int) ≠ 5; decide) rfl rfl rfl rfl
  rw [h.m] at t6
  obtain ⟨r0, hr0⟩ := h.ss
  have hcas : t.act (caC (q + 1) w n).op = if ver = n then t.put ⟨4, [107], w, 0, n⟩ else (t, ⟨121, [], ver⟩) := by
    show t.cas ⟨4, [107], w, 0, n⟩ = _
    unfold Sv.cas
    rw [t6]
    rfl
  rw [hA] at hok ⊢
  constructor
  · intro e
    obtain ⟨u, hu, huo, h1, h2, h3, h4, h5, h6⟩ := put_one (t := t) (o := ⟨4, [107], w, 0, n⟩) (ver := ver) t1 (by show (1 : Nat) ≤ 64; omega) (by show 0 < 1; omega) (by show w.length ≤ 900; omega) rfl t4 (by omega) t5 (.inr ⟨v, ver, 0, t6⟩) (h.known t1 t6)
    have hno : t.noted (caC (q + 1) w n) = (u.note ⟨1, q + 1, ⟨0, [], ver + 1⟩⟩, ⟨0, [], ver + 1⟩) := by
      unfold Sv.noted
      rw [hcas, if_pos e.symm, hu]
      rfl
    rw [hno] at hok ⊢
    exact ⟨rfl, cas_note (q + 1) _ hok w (ver + 1) (q0 := q) (r0 := r0) (.inr (by rw [h6, t7, hr0])) (h1.trans t2) (h2.trans t3) h3 h4 h5 hw⟩
  · intro e
    have hno : t.noted (caC (q + 1) w n) = (t.note ⟨1, q + 1, ⟨121, [], ver⟩⟩, ⟨121, [], ver⟩) := by
      unfold Sv.noted
      rw [hcas, if_neg (fun e' => e e'.symm)]
      rfl
    rw [hno] at hok ⊢
    exact ⟨rfl, cas_note (q + 1) _ hok v ver (q0 := q) (r0 := r0) (.inr (by rw [t7, hr0])) t2 t3 t4 t5 t6 h.vl⟩
theorem ca_get {s : Sv} {ver : Nat} {v : List UInt8} (h : Cas s 3 v ver) : (s.apply caG).2 = (⟨0, v, ver⟩, 0) := by
  have hx : caG.Ok := rec_ok (by omega) (by show (0 : Nat) ≤ 100; omega) (by omega)
  obtain ⟨t, t1, t2, t3, t4, t5, t6, t7, hA⟩ := cas_step h (by omega) hx rfl (by show (1 : Int) ≠ 5; decide) rfl rfl rfl rfl
  rw [h.m] at t6
  rw [hA]
  show ((t.act caG.op).2, 0) = _
  rw [show t.act caG.op = t.get [107] from rfl]
  unfold Sv.get
  rw [t6]
  rfl
set_option maxHeartbeats 4000000 in
set_option maxRecDepth 100000 in
theorem clos_c {s t : Sv} {r : Rep} {q p : Nat} {o : Opn} (_hq : q < 100) (hO : s.Ok) (hx : Rcd.Ok ⟨q, 0, 1, q, o⟩) (ht : (s.apply ⟨q, 0, 1, q, o⟩).1 = t) (hr : (s.apply ⟨q, 0, 1, q, o⟩).2 = (r, 0)) (h : At w0 w b T M C S H s) (hp : Loc p 27 #[tp b] b T M S H w) :
    Calls Tryz.prog 29 #[.int .u64 (q : Int), .agg o.cs, .pointer (some ⟨p, 0, none⟩)] w fun e w' => e = .returned (.tuple #[.agg r.cs, .int .i64 0]) ∧ ∃ H', At w0 w' b T M C S H' t ∧ Stp b T M S w H w' H' := by
  have h1 := (h.alloc (.cells o.cs 52)).alloc (.cells rep0 61)
  have hp1 := (hp.alloc (.cells o.cs 52)).alloc (.cells rep0 61)
  have hq1 : Loc w.heap.size 52 o.cs b T M S H ((w.alloc (.cells o.cs 52)).alloc (.cells rep0 61)) := (Loc.new h _ _).alloc _
  have hr1 : Loc (w.heap.size + 1) 61 rep0 b T M S H ((w.alloc (.cells o.cs 52)).alloc (.cells rep0 61)) := by
    have := Loc.new (h.alloc (.cells o.cs 52)) 61 rep0
    rwa [show (w.alloc (.cells o.cs 52)).heap.size = w.heap.size + 1 by simp] at this
  have s1 : Stp b T M S w H ((w.alloc (.cells o.cs 52)).alloc (.cells rep0 61)) H := .of_below (((Below.refl _ w).alloc (Nat.le_refl _) _).alloc (by simp) _) (Nat.le_refl _)
  go_enter Tryz.func29, Tryz.ntmps29
  go_upto_region 1 with (fail)
  generalize (w.alloc (.cells o.cs 52)).alloc (.cells rep0 61) = w1 at *
  have hrq : w.heap.size ≤ w.heap.size + 1 := by omega
  generalize hrr : w.heap.size + 1 = rr at *
  generalize hqq : w.heap.size = qq at hq1 ⊢
  have hap := apply1_a (x := ⟨q, 0, 1, q, o⟩) (t := t) (r := r) (n := 0) hO hx ht hr h1
  have c0 : w1.cell? ⟨p, 0, none⟩ = some (tp b) := hp1.c rfl
  have y0 : w1.cell? ⟨qq, 0, none⟩ = some (.int .i64 o.kind) := hq1.c rfl
  have y1 : w1.cell? ⟨qq, 1, none⟩ = some (.string (str o.key)) := hq1.c rfl
  have y2 : w1.cell? ⟨qq, 2, none⟩ = some (.string (str o.val)) := hq1.c rfl
  have y3 : w1.cell? ⟨qq, 3, none⟩ = some (.int .u64 (o.ttl : Int)) := hq1.c rfl
  have y4 : w1.cell? ⟨qq, 4, none⟩ = some (.int .u64 (o.ver : Int)) := hq1.c rfl
  clear hx
  go_wp2_with fail
  refine hap.mono ?_
  rintro e w2 ⟨rfl, H2, h2, s2⟩
  have hr2 := hr1.step s2
  replace s2 := s1.trans s2
  have z0 := hr2.f 0
  have z1 := hr2.f 1
  have z2 := hr2.f 2
  have z3 : w2.cell? ⟨rr, 0, none⟩ = some (.int .i64 0) := hr2.c rfl
  have z4 : w2.cell? ⟨rr, 1, none⟩ = some (.string ⟨#[]⟩) := hr2.c rfl
  have z5 : w2.cell? ⟨rr, 2, none⟩ = some (.int .u64 0) := hr2.c rfl
  go_wp2_with fail
  obtain ⟨zB, zA, zS⟩ := rep3 h h2 s2 hr2 (by omega) (.int .i64 (r.e : Int)) (.string (str r.val)) (.int .u64 (r.ver : Int))
  exact bodyPost_ret (Taby.results_row_tmp rfl _ _ rr rfl (run_loadVar_row _ _ _ _ _ _ _ zB Tryz.underlying61 rfl (by kernel_rfl))) rfl ⟨rfl, H2, zA, zS⟩
set_option maxHeartbeats 4000000 in
set_option maxRecDepth 100000 in
theorem storeCas_walk (a0 : ByteArray) (w0_ : a0.size ≤ maxLen) (a1 : ByteArray) (w1_ : a1.size ≤ maxLen) (a2 : Int) (_ : (Lit.int .u64 a2).wf = true) (w : World) :
    Calls Tryz.prog 6 #[.string a0, .string a1, .int .u64 a2] w fun e w' => e = .returned (.bool true) ∧ Below w.heap.size w w' := by
  obtain ⟨lv, rfl⟩ : ∃ l, a0 = str l := ⟨a0.data.toList, Wirey.str_of a0⟩
  obtain ⟨lw, rfl⟩ : ∃ l, a1 = str l := ⟨a1.data.toList, Wirey.str_of a1⟩
  rw [str_size] at w0_ w1_
  unfold maxLen at w0_ w1_
  have hsz := str_size
  have htl := Wirey.toList_str
  by_cases b1 : 100 < lv.length
  · have d1 : decide ((100 : Int) < (lv.length : Int)) = true := decide_eq_true (by omega)
    have d2 : (100 : Int) < (lv.length : Int) := by omega
    go_enter Tryz.func6, Tryz.ntmps6
    go_wp2_with fail
    refine (awake_c _).mono ?_
    rintro e w1 ⟨rfl, hb1⟩
    go_wp2_with fail
    go_ret
    exact ⟨rfl, hb1⟩
  have d1 : decide ((100 : Int) < (lv.length : Int)) = false := decide_eq_false (by omega)
  have d2 : ¬ (100 : Int) < (lv.length : Int) := by omega
  by_cases b2 : 100 < lw.length
  · have d3 : decide ((100 : Int) < (lw.length : Int)) = true := decide_eq_true (by omega)
    have d4 : (100 : Int) < (lw.length : Int) := by omega
    go_enter Tryz.func6, Tryz.ntmps6
    go_wp2_with fail
    refine (awake_c _).mono ?_
    rintro e w1 ⟨rfl, hb1⟩
    go_wp2_with fail
    go_ret
    exact ⟨rfl, hb1⟩
  have d3 : decide ((100 : Int) < (lw.length : Int)) = false := decide_eq_false (by omega)
  have d4 : ¬ (100 : Int) < (lw.length : Int) := by omega
  have hlv : lv.length ≤ 100 := by omega
  have hlw : lw.length ≤ 100 := by omega
  have hand : bits .and .u64 a2 3 = (and3 a2 : Int) := Bity.u64_and a2 3 2 rfl (by omega)
  have hl3 := and3_lt a2
  generalize and3 a2 = n at *
  have hN : ∀ W, Calls Tryz.prog 13 #[.agg #[.int .i64 1, .int .i64 4, .int .i64 1000, .int .u64 0]] W fun e w' => ∃ b T M C S H, e = .returned (.tuple #[tp b, .int .i64 0]) ∧ At W w' b T M C S H ca0 := fun W => newS_c (kind := 1) (n := 4) (bytes := 1000) (seed := 0) (.inl rfl) (by omega) (by omega) (by omega) (by omega) (by omega) W
  obtain ⟨r1, h1⟩ := ca_first hlv
  have k1 : Rcd.Ok ⟨1, 0, 1, 1, ⟨2, [107], lv, 0, 0⟩⟩ := rec_ok (by omega) hlv (by omega)
  have ok0 : ca0.Ok := Sv.new_ok (.inl rfl) (by decide) (by decide) (by decide) (by decide) (by decide)
  have f1 : ∀ {w0 w : World} {b T M C S p : Nat} {H : Nat → Prop}, At w0 w b T M C S H ca0 → Loc p 27 #[tp b] b T M S H w → Calls Tryz.prog 29 #[.int .u64 1, .agg #[.int .i64 2, .string ⟨#[107]⟩, .string (str lv), .int .u64 0, .int .u64 0], .pointer (some ⟨p, 0, none⟩)] w fun e w' => e = .returned (.tuple #[.agg #[.int .i64 0, .string ⟨#[]⟩, .int .u64 1], .int .i64 0]) ∧ ∃ H', At w0 w' b T M C S H' (ca0.apply (caP lv)).1 ∧ Stp b T M S w H w' H' := fun h hp => clos_c (q := 1) (o := ⟨2, [107], lv, 0, 0⟩) (r := ⟨0, [], 1⟩) (by omega) ok0 k1 rfl r1 h hp
  generalize (ca0.apply (caP lv)).1 = s1 at *
  generalize ca0 = s0 at *
  clear r1 k1 ok0
  go_enter Tryz.func6, Tryz.ntmps6
  go_wp2_with fail
  refine (hN _).mono ?_
  rintro e w1 ⟨b, T, M, C, S, H, rfl, hAt⟩
  have hcell := Loc.new hAt 27 #[tp b]
  replace hAt := hAt.alloc (.cells #[tp b] 27)
  clear hN
  go_upto_region 5 with (fail)
  generalize w1.alloc (.cells #[tp b] 27) = w2 at *
  generalize w1.heap.size = p at *
  go_wp2_with fail
  refine (f1 hAt hcell).mono ?_
  rintro e wa1 ⟨rfl, H1, hA1, hS1⟩
  replace hcell := (hcell.step hS1).alloc (.cells #[.int .i64 0, .string ⟨#[]⟩, .int .u64 1] 61)
  have hl1 := Loc.new hA1 61 #[.int .i64 0, .string ⟨#[]⟩, .int .u64 1]
  replace hAt := hA1.alloc (.cells #[.int .i64 0, .string ⟨#[]⟩, .int .u64 1] 61)
  clear hA1 hS1
  go_upto_region 6 with (fail)
  generalize wa1.alloc (.cells #[.int .i64 0, .string ⟨#[]⟩, .int .u64 1] 61) = wb1 at *
  generalize wa1.heap.size = p1 at *
  clear f1
  by_cases hn0 : n = 0
  · subst hn0
    have hand0 : bits .and .u64 a2 3 = 0 := hand
    clear hand
    obtain ⟨q2, h2⟩ : (s1.apply (caC 2 lw 1)).2 = (⟨0, [], 2⟩, 0) ∧ Cas (s1.apply (caC 2 lw 1)).1 2 lw 2 := (ca_cas h1 (by omega) (by omega) hlw (by omega) (by omega)).1 (by omega)
    have k2 := rec_ok (q := 2) (n := 1) (k := 4) (by omega) hlw (by omega)
    generalize hs2 : (s1.apply (caC 2 lw 1)).1 = s2 at *
    obtain ⟨q3, h3⟩ : (s2.apply (caC 3 lv 1)).2 = (⟨121, [], 2⟩, 0) ∧ Cas (s2.apply (caC 3 lv 1)).1 3 lw 2 := (ca_cas h2 (by omega) (by omega) hlv (by omega) (by omega)).2 (by omega)
    have k3 := rec_ok (q := 3) (n := 1) (k := 4) (by omega) hlv (by omega)
    generalize hs3 : (s2.apply (caC 3 lv 1)).1 = s3 at *
    have q4 := ca_get h3
    have k4 := rec_ok (q := 4) (n := 0) (k := 1) (v := []) (by omega) (by show (0 : Nat) ≤ 100; omega) (by omega)
    have f2 : ∀ {w0 w : World} {b T M C S p : Nat} {H : Nat → Prop}, At w0 w b T M C S H s1 → Loc p 27 #[tp b] b T M S H w → Calls Tryz.prog 29 #[.int .u64 2, .agg #[.int .i64 4, .string ⟨#[107]⟩, .string (str lw), .int .u64 0, .int .u64 1], .pointer (some ⟨p, 0, none⟩)] w fun e w' => e = .returned (.tuple #[.agg #[.int .i64 0, .string ⟨#[]⟩, .int .u64 2], .int .i64 0]) ∧ ∃ H', At w0 w' b T M C S H' s2 ∧ Stp b T M S w H w' H' := fun h hp => clos_c (q := 2) (o := ⟨4, [107], lw, 0, 1⟩) (r := ⟨0, [], 2⟩) (by omega) h1.ok k2 hs2 q2 h hp
    have f3 : ∀ {w0 w : World} {b T M C S p : Nat} {H : Nat → Prop}, At w0 w b T M C S H s2 → Loc p 27 #[tp b] b T M S H w → Calls Tryz.prog 29 #[.int .u64 3, .agg #[.int .i64 4, .string ⟨#[107]⟩, .string (str lv), .int .u64 0, .int .u64 1], .pointer (some ⟨p, 0, none⟩)] w fun e w' => e = .returned (.tuple #[.agg #[.int .i64 121, .string ⟨#[]⟩, .int .u64 2], .int .i64 0]) ∧ ∃ H', At w0 w' b T M C S H' s3 ∧ Stp b T M S w H w' H' := fun h hp => clos_c (q := 3) (o := ⟨4, [107], lv, 0, 1⟩) (r := ⟨121, [], 2⟩) (by omega) h2.ok k3 hs3 q3 h hp
    have f4 : ∀ {w0 w : World} {b T M C S p : Nat} {H : Nat → Prop}, At w0 w b T M C S H s3 → Loc p 27 #[tp b] b T M S H w → Calls Tryz.prog 29 #[.int .u64 4, .agg #[.int .i64 1, .string ⟨#[107]⟩, .string ⟨#[]⟩, .int .u64 0, .int .u64 0], .pointer (some ⟨p, 0, none⟩)] w fun e w' => e = .returned (.tuple #[.agg #[.int .i64 0, .string (str lw), .int .u64 2], .int .i64 0]) ∧ ∃ H', At w0 w' b T M C S H' (s3.apply caG).1 ∧ Stp b T M S w H w' H' := fun h hp => clos_c (q := 4) (o := ⟨1, [107], [], 0, 0⟩) (r := ⟨0, lw, 2⟩) (by omega) h3.ok k4 rfl q4 h hp
    generalize (s3.apply caG).1 = s4 at *
    clear q2 q3 q4 k2 k3 k4 hs2 hs3 h1 h2 h3
    go_wp2_with fail
    refine (f2 hAt hcell).mono ?_
    rintro e wa2 ⟨rfl, H2, hA2, hS2⟩
    replace hcell := (hcell.step hS2).alloc (.cells #[.int .i64 0, .string ⟨#[]⟩, .int .u64 2] 61)
    replace hl1 := (hl1.step hS2).alloc (.cells #[.int .i64 0, .string ⟨#[]⟩, .int .u64 2] 61)
    have hl2 := Loc.new hA2 61 #[.int .i64 0, .string ⟨#[]⟩, .int .u64 2]
    replace hAt := hA2.alloc (.cells #[.int .i64 0, .string ⟨#[]⟩, .int .u64 2] 61)
    clear hA2 hS2
    go_upto_region 8 with (fail)
    generalize wa2.alloc (.cells #[.int .i64 0, .string ⟨#[]⟩, .int .u64 2] 61) = wb2 at *
    generalize wa2.heap.size = p2 at *
    clear f2
    go_wp2_with fail
    refine (f3 hAt hcell).mono ?_
    rintro e wa3 ⟨rfl, H3, hA3, hS3⟩
    replace hcell := (hcell.step hS3).alloc (.cells #[.int .i64 121, .string ⟨#[]⟩, .int .u64 2] 61)
    replace hl1 := (hl1.step hS3).alloc (.cells #[.int .i64 121, .string ⟨#[]⟩, .int .u64 2] 61)
    replace hl2 := (hl2.step hS3).alloc (.cells #[.int .i64 121, .string ⟨#[]⟩, .int .u64 2] 61)
    have hl3 := Loc.new hA3 61 #[.int .i64 121, .string ⟨#[]⟩, .int .u64 2]
    replace hAt := hA3.alloc (.cells #[.int .i64 121, .string ⟨#[]⟩, .int .u64 2] 61)
    clear hA3 hS3
    go_upto_region 9 with (fail)
    generalize wa3.alloc (.cells #[.int .i64 121, .string ⟨#[]⟩, .int .u64 2] 61) = wb3 at *
    generalize wa3.heap.size = p3 at *
    clear f3
    go_wp2_with fail
    refine (f4 hAt hcell).mono ?_
    rintro e wa4 ⟨rfl, H4, hA4, hS4⟩
    replace hcell := (hcell.step hS4).alloc (.cells #[.int .i64 0, .string (str lw), .int .u64 2] 61)
    replace hl1 := (hl1.step hS4).alloc (.cells #[.int .i64 0, .string (str lw), .int .u64 2] 61)
    replace hl2 := (hl2.step hS4).alloc (.cells #[.int .i64 0, .string (str lw), .int .u64 2] 61)
    replace hl3 := (hl3.step hS4).alloc (.cells #[.int .i64 0, .string (str lw), .int .u64 2] 61)
    have hl4 := Loc.new hA4 61 #[.int .i64 0, .string (str lw), .int .u64 2]
    replace hAt := hA4.alloc (.cells #[.int .i64 0, .string (str lw), .int .u64 2] 61)
    clear hA4 hS4
    go_upto_region 10 with (fail)
    generalize wa4.alloc (.cells #[.int .i64 0, .string (str lw), .int .u64 2] 61) = wb4 at *
    generalize wa4.heap.size = p4 at *
    clear f4
    go_wp2_with fail
    refine (awake_c _).mono ?_
    rintro e w9 ⟨rfl, hb9⟩
    have hbel := hAt.since.trans (hb9.mono hAt.since.size)
    have x_p1_0 : w9.cell? ⟨p1, 0, none⟩ = some (.int .i64 0) := (hl1.below hb9).c rfl
    have x_p1_1 : w9.cell? ⟨p1, 1, none⟩ = some (.string ⟨#[]⟩) := (hl1.below hb9).c rfl
    have x_p1_2 : w9.cell? ⟨p1, 2, none⟩ = some (.int .u64 1) := (hl1.below hb9).c rfl
    have x_p2_0 : w9.cell? ⟨p2, 0, none⟩ = some (.int .i64 0) := (hl2.below hb9).c rfl
    have x_p2_1 : w9.cell? ⟨p2, 1, none⟩ = some (.string ⟨#[]⟩) := (hl2.below hb9).c rfl
    have x_p2_2 : w9.cell? ⟨p2, 2, none⟩ = some (.int .u64 2) := (hl2.below hb9).c rfl
    have x_p3_0 : w9.cell? ⟨p3, 0, none⟩ = some (.int .i64 121) := (hl3.below hb9).c rfl
    have x_p3_1 : w9.cell? ⟨p3, 1, none⟩ = some (.string ⟨#[]⟩) := (hl3.below hb9).c rfl
    have x_p3_2 : w9.cell? ⟨p3, 2, none⟩ = some (.int .u64 2) := (hl3.below hb9).c rfl
    have x_p4_0 : w9.cell? ⟨p4, 0, none⟩ = some (.int .i64 0) := (hl4.below hb9).c rfl
    have x_p4_1 : w9.cell? ⟨p4, 1, none⟩ = some (.string (str lw)) := (hl4.below hb9).c rfl
    have x_p4_2 : w9.cell? ⟨p4, 2, none⟩ = some (.int .u64 2) := (hl4.below hb9).c rfl
    clear hAt hcell hl1 hl2 hl3 hl4 hb9
    go_wp2_with fail
    go_ret
    exact ⟨rfl, hbel⟩
  have dn : ((1 + (n : Int)) == 1) = false := beq_eq_false_iff_ne.2 (by omega)
  have dn2 : ¬ (1 + (n : Int)) = 1 := by omega
  obtain ⟨q2, h2⟩ : (s1.apply (caC 2 lw (1 + n))).2 = (⟨121, [], 1⟩, 0) ∧ Cas (s1.apply (caC 2 lw (1 + n))).1 2 lv 1 := (ca_cas h1 (by omega) (by omega) hlw (by omega) (by omega)).2 (by omega)
  have k2 := rec_ok (q := 2) (n := 1 + n) (k := 4) (by omega) hlw (by omega)
  generalize hs2 : (s1.apply (caC 2 lw (1 + n))).1 = s2 at *
  obtain ⟨q3, h3⟩ : (s2.apply (caC 3 lv 1)).2 = (⟨0, [], 2⟩, 0) ∧ Cas (s2.apply (caC 3 lv 1)).1 3 lv 2 := (ca_cas h2 (by omega) (by omega) hlv (by omega) (by omega)).1 (by omega)
  have k3 := rec_ok (q := 3) (n := 1) (k := 4) (by omega) hlv (by omega)
  generalize hs3 : (s2.apply (caC 3 lv 1)).1 = s3 at *
  have q4 := ca_get h3
  have k4 := rec_ok (q := 4) (n := 0) (k := 1) (v := []) (by omega) (by show (0 : Nat) ≤ 100; omega) (by omega)
  have f2 : ∀ {w0 w : World} {b T M C S p : Nat} {H : Nat → Prop}, At w0 w b T M C S H s1 → Loc p 27 #[tp b] b T M S H w → Calls Tryz.prog 29 #[.int .u64 2, .agg #[.int .i64 4, .string ⟨#[107]⟩, .string (str lw), .int .u64 0, .int .u64 (1 + (n : Int))], .pointer (some ⟨p, 0, none⟩)] w fun e w' => e = .returned (.tuple #[.agg #[.int .i64 121, .string ⟨#[]⟩, .int .u64 1], .int .i64 0]) ∧ ∃ H', At w0 w' b T M C S H' s2 ∧ Stp b T M S w H w' H' := fun h hp => clos_c (q := 2) (o := ⟨4, [107], lw, 0, 1 + n⟩) (r := ⟨121, [], 1⟩) (by omega) h1.ok k2 hs2 q2 h hp
  have f3 : ∀ {w0 w : World} {b T M C S p : Nat} {H : Nat → Prop}, At w0 w b T M C S H s2 → Loc p 27 #[tp b] b T M S H w → Calls Tryz.prog 29 #[.int .u64 3, .agg #[.int .i64 4, .string ⟨#[107]⟩, .string (str lv), .int .u64 0, .int .u64 1], .pointer (some ⟨p, 0, none⟩)] w fun e w' => e = .returned (.tuple #[.agg #[.int .i64 0, .string ⟨#[]⟩, .int .u64 2], .int .i64 0]) ∧ ∃ H', At w0 w' b T M C S H' s3 ∧ Stp b T M S w H w' H' := fun h hp => clos_c (q := 3) (o := ⟨4, [107], lv, 0, 1⟩) (r := ⟨0, [], 2⟩) (by omega) h2.ok k3 hs3 q3 h hp
  have f4 : ∀ {w0 w : World} {b T M C S p : Nat} {H : Nat → Prop}, At w0 w b T M C S H s3 → Loc p 27 #[tp b] b T M S H w → Calls Tryz.prog 29 #[.int .u64 4, .agg #[.int .i64 1, .string ⟨#[107]⟩, .string ⟨#[]⟩, .int .u64 0, .int .u64 0], .pointer (some ⟨p, 0, none⟩)] w fun e w' => e = .returned (.tuple #[.agg #[.int .i64 0, .string (str lv), .int .u64 2], .int .i64 0]) ∧ ∃ H', At w0 w' b T M C S H' (s3.apply caG).1 ∧ Stp b T M S w H w' H' := fun h hp => clos_c (q := 4) (o := ⟨1, [107], [], 0, 0⟩) (r := ⟨0, lv, 2⟩) (by omega) h3.ok k4 rfl q4 h hp
  generalize (s3.apply caG).1 = s4 at *
  clear q2 q3 q4 k2 k3 k4 hs2 hs3 h1 h2 h3
  go_wp2_with fail
  refine (f2 hAt hcell).mono ?_
  rintro e wa2 ⟨rfl, H2, hA2, hS2⟩
  replace hcell := (hcell.step hS2).alloc (.cells #[.int .i64 121, .string ⟨#[]⟩, .int .u64 1] 61)
  replace hl1 := (hl1.step hS2).alloc (.cells #[.int .i64 121, .string ⟨#[]⟩, .int .u64 1] 61)
  have hl2 := Loc.new hA2 61 #[.int .i64 121, .string ⟨#[]⟩, .int .u64 1]
  replace hAt := hA2.alloc (.cells #[.int .i64 121, .string ⟨#[]⟩, .int .u64 1] 61)
  clear hA2 hS2
  go_upto_region 8 with (fail)
  generalize wa2.alloc (.cells #[.int .i64 121, .string ⟨#[]⟩, .int .u64 1] 61) = wb2 at *
  generalize wa2.heap.size = p2 at *
  clear f2
  go_wp2_with fail
  refine (f3 hAt hcell).mono ?_
  rintro e wa3 ⟨rfl, H3, hA3, hS3⟩
  replace hcell := (hcell.step hS3).alloc (.cells #[.int .i64 0, .string ⟨#[]⟩, .int .u64 2] 61)
  replace hl1 := (hl1.step hS3).alloc (.cells #[.int .i64 0, .string ⟨#[]⟩, .int .u64 2] 61)
  replace hl2 := (hl2.step hS3).alloc (.cells #[.int .i64 0, .string ⟨#[]⟩, .int .u64 2] 61)
  have hl3 := Loc.new hA3 61 #[.int .i64 0, .string ⟨#[]⟩, .int .u64 2]
  replace hAt := hA3.alloc (.cells #[.int .i64 0, .string ⟨#[]⟩, .int .u64 2] 61)
  clear hA3 hS3
  go_upto_region 9 with (fail)
  generalize wa3.alloc (.cells #[.int .i64 0, .string ⟨#[]⟩, .int .u64 2] 61) = wb3 at *
  generalize wa3.heap.size = p3 at *
  clear f3
  go_wp2_with fail
  refine (f4 hAt hcell).mono ?_
  rintro e wa4 ⟨rfl, H4, hA4, hS4⟩
  replace hcell := (hcell.step hS4).alloc (.cells #[.int .i64 0, .string (str lv), .int .u64 2] 61)
  replace hl1 := (hl1.step hS4).alloc (.cells #[.int .i64 0, .string (str lv), .int .u64 2] 61)
  replace hl2 := (hl2.step hS4).alloc (.cells #[.int .i64 0, .string (str lv), .int .u64 2] 61)
  replace hl3 := (hl3.step hS4).alloc (.cells #[.int .i64 0, .string (str lv), .int .u64 2] 61)
  have hl4 := Loc.new hA4 61 #[.int .i64 0, .string (str lv), .int .u64 2]
  replace hAt := hA4.alloc (.cells #[.int .i64 0, .string (str lv), .int .u64 2] 61)
  clear hA4 hS4
  go_upto_region 10 with (fail)
  generalize wa4.alloc (.cells #[.int .i64 0, .string (str lv), .int .u64 2] 61) = wb4 at *
  generalize wa4.heap.size = p4 at *
  clear f4
  go_wp2_with fail
  refine (awake_c _).mono ?_
  rintro e w9 ⟨rfl, hb9⟩
  have hbel := hAt.since.trans (hb9.mono hAt.since.size)
  have x_p1_0 : w9.cell? ⟨p1, 0, none⟩ = some (.int .i64 0) := (hl1.below hb9).c rfl
  have x_p1_1 : w9.cell? ⟨p1, 1, none⟩ = some (.string ⟨#[]⟩) := (hl1.below hb9).c rfl
  have x_p1_2 : w9.cell? ⟨p1, 2, none⟩ = some (.int .u64 1) := (hl1.below hb9).c rfl
  have x_p2_0 : w9.cell? ⟨p2, 0, none⟩ = some (.int .i64 121) := (hl2.below hb9).c rfl
  have x_p2_1 : w9.cell? ⟨p2, 1, none⟩ = some (.string ⟨#[]⟩) := (hl2.below hb9).c rfl
  have x_p2_2 : w9.cell? ⟨p2, 2, none⟩ = some (.int .u64 1) := (hl2.below hb9).c rfl
  have x_p3_0 : w9.cell? ⟨p3, 0, none⟩ = some (.int .i64 0) := (hl3.below hb9).c rfl
  have x_p3_1 : w9.cell? ⟨p3, 1, none⟩ = some (.string ⟨#[]⟩) := (hl3.below hb9).c rfl
  have x_p3_2 : w9.cell? ⟨p3, 2, none⟩ = some (.int .u64 2) := (hl3.below hb9).c rfl
  have x_p4_0 : w9.cell? ⟨p4, 0, none⟩ = some (.int .i64 0) := (hl4.below hb9).c rfl
  have x_p4_1 : w9.cell? ⟨p4, 1, none⟩ = some (.string (str lv)) := (hl4.below hb9).c rfl
  have x_p4_2 : w9.cell? ⟨p4, 2, none⟩ = some (.int .u64 2) := (hl4.below hb9).c rfl
  clear hAt hcell hl1 hl2 hl3 hl4 hb9
  go_wp2_with fail
  go_ret
  exact ⟨rfl, hbel⟩
set_option linter.unusedVariables false in
set_option maxRecDepth 100000 in
theorem storeCas_lifted (os : Os) (started : os.Started) (H : Type) (enc : TypeId × Value → H) :
    ReturnsInHanded {} Tryz.checked os 6 .any (Rows.storeCasSpec.pre6 enc Tryz.prog Tryz.f6 Rows.storeCasRow.domain false) (Rows.storeCasSpec.post enc Tryz.prog Tryz.f6 false true false false) := by
  refine returnsInHanded_of_change (C := Tryz.checked) Kit.own started (by kernel_rfl) Tryz.func6
    (ChangeSpec.witness6 (enc := enc) (C := Tryz.checked) false ⟨#[], #[.string ⟨#[]⟩, .string ⟨#[]⟩, .int .u64 0], []⟩ 8 (by kernel_rfl) (by kernel_rfl) (by kernel_rfl) (by kernel_rfl)) ?_
  intro W base args ds gs before hval0 hW hcnd _
  have hval : ∀ (j : Nat) t v, Tryz.f6.params[j]? = some t → args[j]? = some v → Value.okWide Tryz.prog W .any base t v := hval0
  have hW' := hW
  obtain ⟨p, q, hA0, hV, rfl, hfz, hnd⟩ := hW
  have hA : DataW.TrodAll enc Tryz.prog W 0 (fun _ => true) true Tryz.f6.params.toList args.toList ds p := hA0
  rw [Tryz.params6] at hA hval
  obtain ⟨v0, vs0, d0, ds0, p0, q0, hargs, rfl, rfl, h0, r0⟩ := trodAll_cons hA
  obtain ⟨v1, vs1, d1, ds1, p1, q1, rfl, rfl, rfl, h1, r1⟩ := trodAll_cons r0
  obtain ⟨v2, vs2, d2, ds2, p2, q2, rfl, rfl, rfl, h2, r2⟩ := trodAll_cons r1
  obtain ⟨rfl, rfl, rfl⟩ := trodAll_nil r2
  obtain ⟨rfl, rfl⟩ := trodVars_none hV
  obtain rfl : args = #[v0, v1, v2] := by cases args; simp_all
  obtain ⟨a0, rfl, rfl, rfl, w0⟩ := Go.ChangeMaps.open_string Tryz.underlying9 (hval 0 9 v0 rfl rfl) h0
  obtain ⟨a1, rfl, rfl, rfl, w1⟩ := Go.ChangeMaps.open_string Tryz.underlying9 (hval 1 9 v1 rfl rfl) h1
  obtain ⟨a2, rfl, rfl, rfl, w2⟩ := open_int Tryz.underlying22 (hval 2 22 v2 rfl rfl) h2
  clear hA0 hval0
  refine (storeCas_walk a0 w0 a1 w1 a2 w2 W).mono fun e W' ⟨he, hg⟩ => ?_
  subst he
  exact ⟨_, rfl, Kit.law_post hW' rfl (by kernel_rfl) rfl (by kernel_rfl) hg⟩

theorem storeCas_over : Rows.storeCasRow.holds Tryz.pinned (OpenSpec.ofChange Rows.storeCasSpec) :=
  OpenClaim.holds_of_wide 6 Tryz.f6 rfl rfl rfl rfl rfl rfl rfl ⟨rfl, rfl, rfl, rfl, rfl⟩ rfl rfl rfl rfl rfl (by kernel_rfl) Tryz.func6 (by kernel_rfl)
    (of_decide_eq_true (by kernel_rfl)) (by unfold Func.isWrapper; first | (rw [if_pos (by decide +kernel)]; kernel_rfl) | (rw [if_neg (by decide +kernel)]; exact ⟨rfl, rfl⟩))
    (fun os started H enc _ => storeCas_lifted os started H enc)

theorem storeCas_holds : Rows.StoreCasSaid :=
  storeCas_over

end
end Go.Proofs.YtniniaokibnhfaaGreat.Storey
