/- The program's table in memory: a block of two cells, and a map of entries; what look-up, store and delete do to it. The only condition: keys are no longer than a text may be. The program's table: New, Get, Len, Bytes, size, and what no table tells. The only condition: keys are not too long. -/
import Derived.Test.YtlnjnpchkdipdaaGreatTabMemAll
import Derived.Test.YtlnjnpchkdipdaaGreatWireFlyAll
import Derived.Maps.OwnSet
import Derived.Maps.Range
import Derived.Sort.KeysCollected
import Derived.Deep.RegionHeld3
import Derived.BigQuiet
import Derived.Lib.Hide
namespace Go.Proofs.YtlnjnpchkdipdaaGreat.Taby
open Go.ChangeShapes Go.WideShapes Go.ChangeAt Go.RowKit Go.ChangeMaps Go.Maps
open Wirey (Blk Row str str_size str_list str_inj Kp)

/-! ### Keys and entries, as the map reads them -/
theorem key_law : Maps.Keyed Tryz.prog 9 := Maps.string_keyed Tryz.underlying9
def kl (l : List UInt8) : Lit := .string l
theorem kl_ne {a b : List UInt8} (h : a ≠ b) : kl a ≠ kl b := fun e => h (by injection e)
theorem key_of {l : List UInt8} (hl : l.length ≤ maxLen) : keyOf Tryz.prog 9 (.string (str l)) = some (kl l) := Go.WideMaps.keyOf_string_mk Tryz.underlying9 (by rw [str_size]; exact hl)
theorem key_is (l : List UInt8) : WideAt.IsKeyLit (kl l) := trivial
def ed (x : En) : DataW Unit := .agg [.lit (.string x.key), .lit (.string x.val), .lit (.int .u64 x.ver), .lit (.int .u64 x.fin)]
theorem ed_inj {x y : En} (h : ed x = ed y) : x = y := by
  obtain ⟨a, b, c, d⟩ := x
  obtain ⟨a', b', c', d'⟩ := y
  simp only [ed, DataW.agg.injEq, List.cons.injEq, DataW.lit.injEq, Lit.string.injEq, Lit.int.injEq, true_and, and_true, Int.natCast_inj] at h
  obtain ⟨rfl, rfl, rfl, rfl⟩ := h
  rfl
theorem cs_inj {x y : En} (h : Value.agg x.cs = Value.agg y.cs) : x = y := by
  obtain ⟨a, b, c, d⟩ := x
  obtain ⟨a', b', c', d'⟩ := y
  simp only [En.cs, Value.agg.injEq, Array.mk.injEq, List.cons.injEq, Value.string.injEq, Value.int.injEq, true_and, and_true, Int.natCast_inj] at h
  obtain ⟨h1, h2, rfl, rfl⟩ := h
  obtain rfl := str_inj h1
  obtain rfl := str_inj h2
  rfl
open Classical in
noncomputable def RE (v : Value) : Option (DataW Unit × List MemPlace) := if h : ∃ x : En, x.Ok ∧ v = .agg x.cs then some (ed h.choose, []) else none
theorem RE_mk {x : En} (hx : x.Ok) : RE (.agg x.cs) = some (ed x, []) := by
  have h : ∃ y : En, y.Ok ∧ Value.agg x.cs = .agg y.cs := ⟨x, hx, rfl⟩
  unfold RE
  rw [dif_pos h, ← cs_inj h.choose_spec.2]
theorem RE_inv {v : Value} {z : DataW Unit × List MemPlace} (h : RE v = some z) : ∃ x : En, x.Ok ∧ v = .agg x.cs ∧ z = (ed x, []) := by
  unfold RE at h
  split at h
  · rename_i hx
    injection h with h
    exact ⟨hx.choose, hx.choose_spec.1, hx.choose_spec.2, h.symm⟩
  · cases h
theorem zeroE (w : World) : (zeroValue 81).run Tryz.prog w = .ok (.agg #[.string ⟨#[]⟩, .string ⟨#[]⟩, .int .u64 0, .int .u64 0]) w := by kernel_rfl

/-! ### Lists -/
theorem find_drop {k k' : List UInt8} : ∀ {m : List En}, find k' (drop k m) = if k' = k then Option.none else find k' m
  | [] => by simp [drop, find]
  | x :: m => by
    have ih := find_drop (k := k) (k' := k') (m := m)
    unfold drop at ih ⊢
    rw [List.filter_cons]
    by_cases h : x.key = k
    · rw [if_neg (by simp [h]), ih, find]
      by_cases hk : k' = k
      · rw [if_pos hk, if_pos hk]
      · rw [if_neg hk, if_neg hk, if_neg (fun e => hk (e.symm.trans h))]
    · rw [if_pos (by simp [h]), find, find, ih]
      by_cases hk : x.key = k'
      · rw [if_pos hk, if_neg (fun e => h (hk.trans e)), if_pos hk]
      · rw [if_neg hk, if_neg hk]
theorem drop_one {k : List UInt8} : ∀ {m : List En}, Rise m → ∀ {x : En}, find k m = some x → (drop k m).length + 1 = m.length ∧ size (drop k m) + (x.key.length + x.val.length) = size m
  | y :: m, hr, x, h => by
    obtain ⟨h1, h2⟩ := List.pairwise_cons.1 hr
    rw [find] at h
    unfold drop
    rw [List.filter_cons]
    by_cases hk : y.key = k
    · rw [if_pos hk] at h
      injection h with h
      subst h
      subst hk
      have e : m.filter (fun x => !(x.key == y.key)) = m := List.filter_eq_self.2 fun z hz => by simp [(less_ne (h1 z hz)).symm]
      rw [if_neg (by simp), e]
      exact ⟨rfl, by rw [size]; omega⟩
    · rw [if_neg hk] at h
      obtain ⟨i1, i2⟩ := drop_one h2 h
      unfold drop at i1 i2
      rw [if_pos (by simp [hk])]
      exact ⟨by simp only [List.length_cons]; omega, by rw [size, size]; omega⟩
theorem drop_none {k : List UInt8} {m : List En} (h : find k m = Option.none) : drop k m = m :=
  List.filter_eq_self.2 fun z hz => by simp [find_none.1 h z hz]
theorem ins_drop (x : En) {m : List En} (hr : Rise m) : ins x (drop x.key m) = ins x m :=
  rise_ext (ins_rise (drop_rise hr)) (ins_rise hr) fun k => by
    rw [find_ins (drop_rise hr), find_ins hr]
    by_cases h : x.key = k
    · rw [if_pos h, if_pos h]
    · rw [if_neg h, if_neg h, find_drop, if_neg (fun e => h e.symm)]
theorem size_new {x : En} : ∀ {m : List En}, find x.key m = Option.none → size (ins x m) = size m + (x.key.length + x.val.length)
  | [], _ => by simp [ins, size]
  | y :: m, h => by
    rw [find_none] at h
    have hy := h y List.mem_cons_self
    have ih := size_new (x := x) (m := m) (find_none.2 fun z hz => h z (List.mem_cons_of_mem _ hz))
    rw [ins]
    split
    · rw [size, size, ih]; omega
    · (try rw [if_neg hy]); rw [size]; omega

/-! ### The map -/
structure MapAt (w : World) (M : Nat) (m : List En) (D : DataW Unit) : Prop where
  mp : w.ownsMap Tryz.prog 9 RE M m.length D
  has : ∀ k, Maps.has D (kl k) = (find k m).isSome
  val : ∀ k x, find k m = some x → ∀ z, D.atKey (kl k) z = ed x
  size : Maps.size D = m.length
theorem ownsMap_stay {H : Type} {P : Program} {k : TypeId} {R : Value → Option (DataW H × List MemPlace)} {b n : Nat} {D : DataW H} {w w' : World} (h : w.ownsMap P k R b n D) (hb : w'.heap[b]? = w.heap[b]?) : w'.ownsMap P k R b n D := by
  obtain ⟨es, clock, h1, h2⟩ := h
  exact ⟨es, clock, hb.trans h1, h2⟩
theorem ownsMap_tight {H : Type} {P : Program} {k : TypeId} {R : Value → Option (DataW H × List MemPlace)} {b n : Nat} {D : DataW H} {w : World} (h : w.ownsMap P k R b n D) : w.ownsMap P k R b (Maps.size D) D := by
  obtain ⟨es, clock, h1, h2, _, rfl⟩ := h
  exact ⟨es, clock, h1, h2, by simp [Maps.size, length_sorted], rfl⟩
section
variable {w w' : World} {M : Nat} {m : List En} {D : DataW Unit} {k : List UInt8}
theorem MapAt.stay (h : MapAt w M m D) (hb : w'.heap[M]? = w.heap[M]?) : MapAt w' M m D := ⟨ownsMap_stay h.mp hb, h.has, h.val, h.size⟩
theorem turned_size (h : w.mapTurned w' M) : w'.heap.size = w.heap.size := by
  obtain ⟨es, clock, es', clock', _, rfl⟩ := h
  simp [setBlock]
theorem MapAt.tidy (h : MapAt w M m D) : Tidy D := h.mp.tidy key_law
theorem MapAt.new (w : World) : MapAt (w.alloc (.map #[] 0)) w.heap.size [] (.map []) :=
  ⟨World.ownsMap_made w Tryz.prog 9 RE, fun k => rfl, fun k x h => by simp [find] at h, rfl⟩
theorem MapAt.look (h : MapAt w M m D) (hk : k.length ≤ maxLen) (c : Bool) :
    (Instr.lookup 123 (.map (some M)) (.string (str k)) c).run Tryz.prog w = .ok (if c then .tuple #[.agg ((find k m).getD En.none).cs, .bool (find k m).isSome] else .agg ((find k m).getD En.none).cs) w := by
  obtain ⟨es, clock, hb, F, _, hD⟩ := h.mp
  rcases Maps.fit_look c key_law Tryz.underlying123 (zeroE w) hb F (key_of hk) with ⟨hrun, _, hat⟩ | ⟨e0, y, _, _, hrun, hRv, hat, _⟩
  · rw [← hD] at hat
    have e1 := Maps.has_false_of_atKey hat
    rw [h.has] at e1
    cases hf : find k m with
    | some x => rw [hf] at e1; cases e1
    | none => rw [hrun]; cases c <;> rfl
  · rw [← hD] at hat
    have e1 := Maps.has_true_of_atKey hat
    rw [h.has] at e1
    cases hf : find k m with
    | none => rw [hf] at e1; cases e1
    | some x =>
      obtain ⟨x', hx', hv, hy⟩ := RE_inv hRv
      have e2 := (h.val k x hf (.agg [])).symm.trans (hat (.agg []))
      rw [hy] at e2
      obtain rfl := ed_inj e2
      rw [hrun, hv]
      cases c <;> rfl
theorem MapAt.len (h : MapAt w M m D) (ty : TypeId) : (Builtin.len_ #[123] ty #[.map (some M)]).run Tryz.prog w = .ok (.int .i64 (m.length : Int)) w := by
  rw [← h.size]
  exact World.ownsMap.len h.mp Tryz.underlying123 ty
theorem MapAt.drop (h : MapAt w M m D) (hr : Rise m) (hk : k.length ≤ maxLen) (ty : TypeId) :
    ∃ w' D', (Builtin.delete_ #[123, 9] ty #[.map (some M), .string (str k)]).run Tryz.prog w = .ok (.tuple #[]) w' ∧ MapAt w' M (drop k m) D' ∧ w.grownBy w' (some M) ∧ w'.heap.size = w.heap.size := by
  obtain ⟨w', hrun, hown, ht⟩ := h.mp.drop key_law Tryz.underlying123 (key_of hk) ty
  have hsz : Maps.size (D.del (kl k)) = (Taby.drop k m).length := by
    have hs := size_del (k := kl k) h.tidy
    rw [h.has, h.size] at hs
    cases hf : find k m with
    | none => rw [hf] at hs; simp at hs; rw [drop_none hf]; exact hs
    | some x => rw [hf] at hs; simp at hs; have := (drop_one hr hf).1; omega
  refine ⟨w', D.del (kl k), hrun, ⟨?_, fun k' => ?_, fun k' x hf z => ?_, hsz⟩, ht.grown, ?_⟩
  · rw [← hsz]; exact ownsMap_tight hown
  · rw [find_drop]
    by_cases e : k' = k
    · subst e; rw [if_pos rfl]; exact has_del_same
    · rw [if_neg e, has_del_other (kl_ne e)]; exact h.has k'
  · rw [find_drop] at hf
    by_cases e : k' = k
    · rw [if_pos e] at hf; cases hf
    · rw [if_neg e] at hf
      rw [atKey_del_other (kl_ne e)]; exact h.val k' x hf z
  · exact turned_size ht
theorem MapAt.put {x : En} (h : MapAt w M m D) (hr : Rise m) (hx : x.Ok) (hn : find x.key m = Option.none) (hl : m.length < 1000000) :
    ∃ w' D', (Instr.mapUpdate 123 (.map (some M)) (.string (str x.key)) (.agg x.cs)).run Tryz.prog w = .ok () w' ∧ MapAt w' M (ins x m) D' ∧ w.grownBy w' (some M) ∧ w'.heap.size = w.heap.size := by
  have hk : x.key.length ≤ maxLen := by have := hx.key; unfold maxLen; omega
  obtain ⟨w', hrun, hown, ht⟩ := h.mp.store key_law Tryz.underlying123 (by unfold maxLen; omega) (key_of hk) (RE_mk hx)
  have hsz : Maps.size (D.put (kl x.key) (ed x)) = (ins x m).length := by
    have hs := size_put (k := kl x.key) h.tidy (ed x)
    rw [h.has, h.size, hn] at hs
    rw [hs, ins_new hn]
    rfl
  refine ⟨w', D.put (kl x.key) (ed x), hrun, ⟨?_, fun k' => ?_, fun k' y hf z => ?_, hsz⟩, ht.grown, ?_⟩
  · rw [← hsz]; exact ownsMap_tight hown
  · rw [find_ins hr]
    by_cases e : x.key = k'
    · subst e; rw [if_pos rfl]; exact has_put_same h.tidy.isMap (key_is _) _
    · rw [if_neg e, has_put_other (kl_ne fun e' => e e'.symm)]; exact h.has k'
  · rw [find_ins hr] at hf
    by_cases e : x.key = k'
    · subst e
      rw [if_pos rfl] at hf
      replace hf := Option.some.inj hf
      subst hf
      rw [atKey_put_same h.tidy.isMap (key_is x.key)]
    · rw [if_neg e] at hf
      rw [atKey_put_other (kl_ne fun e' => e e'.symm)]; exact h.val k' y hf z
  · exact turned_size ht
end

/-! ### The table -/
abbrev tp (b : Nat) : Value := .pointer (some ⟨b, 0, none⟩)
/-- Block b, and map M. -/
structure TabAt (w : World) (b M : Nat) (m : List En) : Prop where
  hd : Blk w b 125 #[.map (some M), .int .i64 (size m : Int)]
  mp : ∃ D, MapAt w M m D
  ne : b ≠ M
  rise : Rise m
  ok : ∀ x ∈ m, x.Ok
def HeldT (w0 w : World) (P : Nat → Prop) (b : Nat) (m : List En) : Prop := ∃ M, TabAt w b M m ∧ (∀ k, P k ↔ k = b ∨ k = M) ∧ w0.heap.size ≤ b ∧ w0.heap.size ≤ M
section
variable {w0 w w' : World} {P S : Nat → Prop} {b M : Nat} {m : List En}
theorem TabAt.stay (h : TabAt w b M m) (h1 : w'.heap[b]? = w.heap[b]?) (h2 : w'.heap[M]? = w.heap[M]?) : TabAt w' b M m :=
  ⟨h1.trans h.hd, h.mp.imp fun _ hD => hD.stay h2, h.ne, h.rise, h.ok⟩
theorem TabAt.ltM (h : TabAt w b M m) : M < w.heap.size := let ⟨_, hD⟩ := h.mp; hD.mp.lt
theorem TabAt.below (h : TabAt w b M m) (hb : Below w.heap.size w w') : TabAt w' b M m := h.stay (hb.block b h.hd.lt) (hb.block M h.ltM)
theorem HeldT.low (h : HeldT w0 w P b m) : ∀ k, P k → w0.heap.size ≤ k ∧ k < w.heap.size := fun k hk => by
  obtain ⟨M, hT, hP, h1, h2⟩ := h
  rcases (hP k).1 hk with rfl | rfl
  · exact ⟨h1, hT.hd.lt⟩
  · exact ⟨h2, hT.ltM⟩
theorem HeldT.kp (h : HeldT w0 w P b m) (hk : Kp S w w') (hs : ∀ k, P k → ¬ S k) : HeldT w0 w' P b m := by
  have hlow := h.low
  obtain ⟨M, hT, hP, h1, h2⟩ := h
  have hb : ∀ k, P k → w'.heap[k]? = w.heap[k]? := fun k hp => hk.block k (hlow k hp).2 (hs k hp)
  exact ⟨M, hT.stay (hb b ((hP b).2 (.inl rfl))) (hb M ((hP M).2 (.inr rfl))), hP, h1, h2⟩
theorem HeldT.rise (h : HeldT w0 w P b m) : Rise m := let ⟨_, hT, _⟩ := h; hT.rise
theorem HeldT.ok (h : HeldT w0 w P b m) : ∀ x ∈ m, x.Ok := let ⟨_, hT, _⟩ := h; hT.ok
theorem HeldT.base (h : HeldT w0 w P b m) {w1 : World} (hs : w1.heap.size ≤ w0.heap.size) : HeldT w1 w P b m := by
  obtain ⟨M, hT, hP, h1, h2⟩ := h
  exact ⟨M, hT, hP, Nat.le_trans hs h1, Nat.le_trans hs h2⟩
theorem HeldT.below (h : HeldT w0 w P b m) (hb : Below w.heap.size w w') : HeldT w0 w' P b m :=
  h.kp (S := fun _ => False) ⟨hb.os, hb.tape, hb.output, hb.size, fun k hk _ => hb.block k hk⟩ (fun _ _ h => h)
end
/-- What was the table's may turn, and new blocks may be the table's; nothing else turns. -/
structure Mv (P P' : Nat → Prop) (w w' : World) : Prop where
  kp : Kp P w w'
  new : ∀ k, P' k → P k ∨ w.heap.size ≤ k
end Go.Proofs.YtlnjnpchkdipdaaGreat.Taby
namespace Go.Proofs.YtlnjnpchkdipdaaGreat.Taby
open Go.ChangeShapes Go.WideShapes Go.ChangeAt Go.RowKit Go.ChangeMaps Go.Maps
open Wirey (Blk Row str str_size str_list str_inj Kp)

theorem new_c (w : World) : Calls Tryz.prog 26 #[] w fun e w' => ∃ P b, e = .returned (tp b) ∧ HeldT w w' P b [] ∧ Below w.heap.size w w' := by
  have hm := MapAt.new w
  have hm2 := hm.stay (Below.heap_alloc (w.alloc (.map #[] 0)) (.cells #[.map (some w.heap.size), .int .i64 0] 125) w.heap.size hm.mp.lt)
  have hb := ((Below.refl _ w).alloc (Nat.le_refl _) (.map #[] 0)).alloc (by simp) (.cells #[.map (some w.heap.size), .int .i64 0] 125)
  have hz := Blk.new (w.alloc (.map #[] 0)) 125 #[.map (some w.heap.size), .int .i64 0]
  have hsz : (w.alloc (.map #[] 0)).heap.size = w.heap.size + 1 := by simp
  have hmm := @run_makeMap Tryz.prog
  go_enter Tryz.func26, Tryz.ntmps26
  go_wp2_with fail
  go_ret
  rw [hsz] at hz
  refine ⟨fun k => k = w.heap.size + 1 ∨ k = w.heap.size, _, rfl, ⟨w.heap.size, ⟨hz, ⟨_, hm2⟩, by omega, List.Pairwise.nil, fun x h => by cases h⟩, fun k => Iff.rfl, by omega, Nat.le_refl _⟩, hb⟩
section
variable {w0 w : World} {P : Nat → Prop} {b M : Nat} {m : List En}
set_option maxHeartbeats 2000000 in
set_option maxRecDepth 100000 in
theorem get_t (k : List UInt8) (hk : k.length ≤ 64) (w : World) (h : TabAt w b M m) : Calls Tryz.prog 47 #[tp b, .string (str k)] w fun e w' => e = .returned (.tuple #[.agg ((find k m).getD En.none).cs, .bool (find k m).isSome]) ∧ Below w.heap.size w w' := by
  have c0 : w.cell? ⟨b, 0, none⟩ = some (.map (some M)) := h.hd.cell 0
  have hb0 := h.hd.lt
  have hM := h.ltM
  obtain ⟨D, hD⟩ := h.mp
  have hb := (Below.refl _ w).alloc (Nat.le_refl _) (.cells #[.string ⟨#[]⟩, .string ⟨#[]⟩, .int .u64 0, .int .u64 0] 81)
  have hlook := (hD.stay (Below.heap_alloc w (.cells #[.string ⟨#[]⟩, .string ⟨#[]⟩, .int .u64 0, .int .u64 0] 81) M hM)).look (k := k) (by unfold maxLen; omega) true
  rw [if_pos rfl] at hlook
  generalize (find k m).getD En.none = x at *
  generalize (find k m).isSome = f at *
  have hz := Blk.new w 81 #[.string ⟨#[]⟩, .string ⟨#[]⟩, .int .u64 0, .int .u64 0]
  have hc0 := ((Blk.alloc h.hd (.cells #[.string ⟨#[]⟩, .string ⟨#[]⟩, .int .u64 0, .int .u64 0] 81))).cell 0
  clear hD c0
  go_enter Tryz.func47, Tryz.ntmps47
  go_upto_region 3 with (fail)
  generalize w.alloc (.cells #[.string ⟨#[]⟩, .string ⟨#[]⟩, .int .u64 0, .int .u64 0] 81) = w1 at *
  have hb2 := hb.alloc hb.size (.cells #[.string (str x.key), .string (str x.val), .int .u64 (x.ver : Int), .int .u64 (x.fin : Int)] 81)
  have hz2 := hz.alloc (.cells #[.string (str x.key), .string (str x.val), .int .u64 (x.ver : Int), .int .u64 (x.fin : Int)] 81)
  have hx2 := Blk.new w1 81 #[.string (str x.key), .string (str x.val), .int .u64 (x.ver : Int), .int .u64 (x.fin : Int)]
  have hlt := hz.lt
  have hc0 : w1.cell? ⟨b, 0, none⟩ = some (.map (some M)) := hc0
  go_upto_region 4 with (fail)
  generalize w1.alloc (.cells #[.string (str x.key), .string (str x.val), .int .u64 (x.ver : Int), .int .u64 (x.fin : Int)] 81) = w2 at *
  have x0 := hx2.cell 0
  have x1 := hx2.cell 1
  have x2 := hx2.cell 2
  have x3 := hx2.cell 3
  have y0 := hz2.cell 0
  have y1 := hz2.cell 1
  have y2 := hz2.cell 2
  have y3 := hz2.cell 3
  simp only [List.getElem?_toArray, List.getElem?_cons_zero, List.getElem?_cons_succ] at x0 x1 x2 x3 y0 y1 y2 y3
  have z0 := hz2.free 0
  have z1 := hz2.free 1
  have z2 := hz2.free 2
  have z3 := hz2.free 3
  have hT := ((((hz2.put 0 (.string (str x.key))).put 1 (.string (str x.val))).put 2 (.int .u64 (x.ver : Int))).put 3 (.int .u64 (x.fin : Int)))
  simp only [List.setIfInBounds_toArray, List.set_cons_zero, List.set_cons_succ] at hT
  have hB2 := (((hb2.setCell (p := ⟨w.heap.size, 0, none⟩) (Nat.le_refl _) (.string (str x.key))).setCell (p := ⟨w.heap.size, 1, none⟩) (Nat.le_refl _) (.string (str x.val))).setCell (p := ⟨w.heap.size, 2, none⟩) (Nat.le_refl _) (.int .u64 (x.ver : Int))).setCell (p := ⟨w.heap.size, 3, none⟩) (Nat.le_refl _) (.int .u64 (x.fin : Int))
  have HT := Lib.hid hT
  have HB := Lib.hid hB2
  clear hT hB2 hb2 hz2 hx2 hz hb hlook h
  go_wp2_with fail
  refine bodyPost_ret (results_row_tmp rfl _ _ w.heap.size rfl (run_loadVar_row _ _ _ _ _ _ _ HT.out Tryz.underlying81 rfl (by kernel_rfl))) rfl ⟨rfl, HB.out⟩
set_option maxHeartbeats 1000000 in
theorem len_c (_ : m.length ≤ 100000) (h : HeldT w0 w P b m) : Calls Tryz.prog 45 #[tp b] w fun e w' => e = .returned (.int .i64 (m.length : Int)) ∧ Below w.heap.size w w' := by
  obtain ⟨M, h, -⟩ := h
  have c0 : w.cell? ⟨b, 0, none⟩ = some (.map (some M)) := h.hd.cell 0
  obtain ⟨D, hD⟩ := h.mp
  have hlen := hD.len
  clear hD h
  go_enter Tryz.func45, Tryz.ntmps45
  go_wp2_with fail
  go_ret
  exact ⟨rfl, Below.refl _ w⟩
set_option maxHeartbeats 1000000 in
theorem bytes_c (_ : m.length ≤ 100000) (h : HeldT w0 w P b m) : Calls Tryz.prog 156 #[tp b] w fun e w' => e = .returned (.int .i64 (size m : Int)) ∧ Below w.heap.size w w' := by
  obtain ⟨M, h, -⟩ := h
  have c0 : w.cell? ⟨b, 1, none⟩ = some (.int .i64 (size m : Int)) := h.hd.cell 1
  generalize size m = n at *
  go_enter Tryz.func156, Tryz.ntmps156
  go_wp2_with fail
  go_ret
  exact ⟨rfl, Below.refl _ w⟩
end
set_option maxHeartbeats 1000000 in
theorem size_c {x : En} (hx : x.Ok) (w : World) : Calls Tryz.prog 116 #[.agg x.cs] w fun e w' => e = .returned (.int .i64 ((x.key.length + x.val.length : Nat) : Int)) ∧ Below w.heap.size w w' := by
  have h1 := hx.key
  have h2 := hx.val
  have s1 := str_size x.key
  have s2 := str_size x.val
  have hb := (Below.refl _ w).alloc (Nat.le_refl _) (.cells #[.string (str x.key), .string (str x.val), .int .u64 (x.ver : Int), .int .u64 (x.fin : Int)] 81)
  have hx2 := Blk.new w 81 #[.string (str x.key), .string (str x.val), .int .u64 (x.ver : Int), .int .u64 (x.fin : Int)]
  obtain ⟨xk, xv, xr, xf⟩ := x
  dsimp only at h1 h2 s1 s2 hb hx2
  go_enter Tryz.func116, Tryz.ntmps116
  go_wp2_with fail
  go_ret
  refine ⟨?_, hb⟩
  simp
/-! ### No table -/
/-- A slice of texts. -/
def strsV (l : List (List UInt8)) : List Value := l.map fun s => .string (str s)
def St (w : World) (B : Nat) (v : Value) (l : List (List UInt8)) : Prop := w.ownsRow B 9 1 v l.length (strsV l)
section
variable {w w' : World} {B : Nat} {v : Value} {l : List (List UInt8)} {a : Option Addr} {n c : Nat}
theorem St.form (h : St w B v l) : ∃ a c, v = .slice a l.length c := by
  rcases h.2 with ⟨rfl, h0⟩ | ⟨g, cap, cur, hv, _⟩
  · exact ⟨none, 0, by rw [h0]⟩
  · exact ⟨_, _, hv⟩
theorem St.stay (h : St w B v l) (hs : ∀ g, v.ownBlock = some g → w'.heap[g]? = w.heap[g]?) : St w' B v l :=
  ⟨h.1, h.2.elim Or.inl fun ⟨g, cap, cur, hv, hg, hb, r⟩ => Or.inr ⟨g, cap, cur, hv, hg, (hs g (by rw [hv]; rfl)).trans hb, r⟩⟩
theorem St.lt (h : St w B v l) : ∀ g, v.ownBlock = some g → B ≤ g ∧ g < w.heap.size := World.ownsRow.lt h
theorem St.below (h : St w B v l) (hb : Below w.heap.size w w') : St w' B v l := h.stay fun g hg => hb.block g (h.lt g hg).2
theorem St.alloc (h : St w B v l) (o : Obj) : St (w.alloc o) B v l := h.stay fun g hg => Below.heap_alloc w o g (h.lt g hg).2
theorem St.low (h : St w B v l) {B' : Nat} (hb : B' ≤ B) : St w B' v l := ⟨h.1, h.2.elim Or.inl fun ⟨g, cap, cur, hv, hg, r⟩ => Or.inr ⟨g, cap, cur, hv, Nat.le_trans hb hg, r⟩⟩
theorem St.at_ (h : St w B (.slice a n c) l) {i : Nat} {x : List UInt8} (hx : l[i]? = some x) : ∃ g, a = some ⟨g, 0, none⟩ ∧ B ≤ g ∧ g < w.heap.size ∧ (∀ W : World, W.heap[g]? = w.heap[g]? → W.cell? ⟨g, i, none⟩ = some (.string (str x))) := by
  have hi : i < l.length := (List.getElem?_eq_some_iff.1 hx).1
  obtain ⟨g, cap, hv, hg, hlt⟩ := World.ownsRow.form h (by omega)
  injection hv with e1 e2 e3
  subst e1 e2 e3
  refine ⟨g, rfl, hg, hlt, fun W hW => ?_⟩
  rw [World.cell?_of_block (a := ⟨g, i, none⟩) hW, World.ownsRow.cellAt h i (by omega)]
  simp [strsV, hx]
theorem St.snoc {g cap : Nat} {x : List UInt8} (h : w.ownsRow B 9 1 (.slice (some ⟨g, 0, none⟩) (l.length + 1) cap) (l.length + 1) (strsV l ++ [.string (str x)])) : St w B (.slice (some ⟨g, 0, none⟩) (l.length + 1) cap) (l ++ [x]) := by
  unfold St
  rw [List.length_append]
  simpa [strsV] using h
theorem St.empty (w : World) (B : Nat) (hB : B ≤ w.heap.size) : St (w.alloc (.cells #[] 9)) B (.slice (some ⟨w.heap.size, 0, none⟩) 0 0) [] :=
  ⟨rfl, .inr ⟨w.heap.size, 0, #[], rfl, hB, heap_alloc_new w _, Nat.le_refl _, Nat.zero_le _, rfl, rfl⟩⟩
end
theorem str_info : (Tryz.prog.info? 9).map (fun i => (i.zero, i.size, i.bytes)) = some (some (.string ⟨#[]⟩), 1, 16) := by kernel_rfl
end Go.Proofs.YtlnjnpchkdipdaaGreat.Taby
