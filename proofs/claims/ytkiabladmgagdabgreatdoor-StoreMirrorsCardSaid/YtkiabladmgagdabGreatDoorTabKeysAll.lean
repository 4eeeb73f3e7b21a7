/- The program's table in memory: a block of two cells, and a map of entries; what look-up, store and delete do to it. The only condition: keys are no longer than a text may be. The program's table: New, Get, Len, Bytes, size, and what no table tells. The only condition: keys are not too long. The program's table: Keys and Ended: keys sorted by the library. The only condition: there are not too many. -/
import Derived.Test.YtkiabladmgagdabGreatDoorTabMemAll
import Derived.Test.YtkiabladmgagdabGreatDoorWireFlyAll
import Derived.Maps.OwnSet
import Derived.Maps.Range
import Derived.Sort.KeysCollected
import Derived.Deep.RegionHeld3
import Derived.BigQuiet
import Derived.Lib.Hide
import Derived.Test.YtkiabladmgagdabGreatDoorLays
import Derived.Test.YtkiabladmgagdabGreatDoorWireReadAll
import Derived.Laws.Cover1
import Derived.Sort.OwnSorted
import Derived.Maps.RangeWalk
import Derived.Test.YtkiabladmgagdabGreatDoorSq
namespace Go.Proofs.YtkiabladmgagdabGreatDoor.Taby
open Go.ChangeShapes Go.WideShapes Go.ChangeAt Go.RowKit Go.ChangeMaps Go.Maps
open Wirey (Blk Row str str_size str_list str_cat str_inj Kp)

theorem key_law : Maps.Keyed Tryz.prog 9 := Maps.string_keyed Tryz.underlying9
def kl (l : List UInt8) : Lit := .string l
theorem kl_ne {a b : List UInt8} (h : a ≠ b) : kl a ≠ kl b := fun e => h (by injection e)
theorem key_of {l : List UInt8} (hl : l.length ≤ maxLen) : keyOf Tryz.prog 9 (.string (str l)) = some (kl l) := Go.WideMaps.keyOf_string_mk Tryz.underlying9 (by rw [str_size]; exact hl)
theorem key_is (l : List UInt8) : WideAt.IsKeyLit (kl l) := trivial
def ed (x : En) : DataW Unit := .agg [.lit (.string x.key), .lit (.string x.val), .lit (.int .u64 x.ver), .lit (.int .u64 x.fin)]
theorem ed_inj {x y : En} (h : ed x = ed y) : x = y := by
 obtain ⟨a, b, c, d⟩ := x
 obtain ⟨a', b', c', d'⟩ := y
 simp only [ed, DataW.agg.injEq, List.cons.injEq, DataW.lit.injEq, Lit.string.injEq, Lit.int.injEq, true_and, and_true, Int.natCast_inj] at h
 obtain ⟨rfl, rfl, rfl, rfl⟩ := h
 rfl
theorem cs_inj {x y : En} (h : Value.agg x.cs = Value.agg y.cs) : x = y := by
 obtain ⟨a, b, c, d⟩ := x
 obtain ⟨a', b', c', d'⟩ := y
 simp only [En.cs, Value.agg.injEq, Array.mk.injEq, List.cons.injEq, Value.string.injEq, Value.int.injEq, true_and, and_true, Int.natCast_inj] at h
 obtain ⟨h1, h2, rfl, rfl⟩ := h
 obtain rfl := str_inj h1
 obtain rfl := str_inj h2
 rfl
open Classical in
noncomputable def RE (v : Value) : Option (DataW Unit × List MemPlace) := if h : ∃ x : En, x.Ok ∧ v = .agg x.cs then some (ed h.choose, []) else none
theorem RE_mk {x : En} (hx : x.Ok) : RE (.agg x.cs) = some (ed x, []) := by
 have h : ∃ y : En, y.Ok ∧ Value.agg x.cs = .agg y.cs := ⟨x, hx, rfl⟩
 unfold RE
 rw [dif_pos h, ← cs_inj h.choose_spec.2]
theorem RE_inv {v : Value} {z : DataW Unit × List MemPlace} (h : RE v = some z) : ∃ x : En, x.Ok ∧ v = .agg x.cs ∧ z = (ed x, []) := by
 unfold RE at h
 split at h
 ·rename_i hx
  injection h with h
  exact ⟨hx.choose, hx.choose_spec.1, hx.choose_spec.2, h.symm⟩
 ·cases h
theorem zeroE (w : World) : (zeroValue 66).run Tryz.prog w = .ok (.agg #[.string ⟨#[]⟩, .string ⟨#[]⟩, .int .u64 0, .int .u64 0]) w := by kernel_rfl

theorem find_drop {k k' : List UInt8} : ∀ {m : List En}, find k' (drop k m) = if k' = k then Option.none else find k' m
 | [] => by simp [drop, find]
 | x :: m => by
  have ih := find_drop (k := k) (k' := k') (m := m)
  unfold drop at ih ⊢
  rw [List.filter_cons]
  by_cases h : x.key = k
  ·rw [if_neg (by simp [h]), ih, find]
   by_cases hk : k' = k
   ·rw [if_pos hk, if_pos hk]
   ·rw [if_neg hk, if_neg hk, if_neg (fun e => hk (e.symm.trans h))]
  ·rw [if_pos (by simp [h]), find, find, ih]
   by_cases hk : x.key = k'
   ·rw [if_pos hk, if_neg (fun e => h (hk.trans e)), if_pos hk]
   ·rw [if_neg hk, if_neg hk]
theorem drop_one {k : List UInt8} : ∀ {m : List En}, Rise m → ∀ {x : En}, find k m = some x → (drop k m).length + 1 = m.length ∧ size (drop k m) + (x.key.length + x.val.length) = size m
 | y :: m, hr, x, h => by
  obtain ⟨h1, h2⟩ := List.pairwise_cons.1 hr
  rw [find] at h
  unfold drop
  rw [List.filter_cons]
  by_cases hk : y.key = k
  ·rw [if_pos hk] at h
   injection h with h
   subst h
   subst hk
   have e : m.filter (fun x => !(x.key == y.key)) = m := List.filter_eq_self.2 fun z hz => by simp [(less_ne (h1 z hz)).symm]
   rw [if_neg (by simp), e]
   exact ⟨rfl, by rw [size]; omega⟩
  ·rw [if_neg hk] at h
   obtain ⟨i1, i2⟩ := drop_one h2 h
   unfold drop at i1 i2
   rw [if_pos (by simp [hk])]
   exact ⟨by simp only [List.length_cons]; omega, by rw [size, size]; omega⟩
theorem drop_none {k : List UInt8} {m : List En} (h : find k m = Option.none) : drop k m = m :=
 List.filter_eq_self.2 fun z hz => by simp [find_none.1 h z hz]
theorem ins_drop (x : En) {m : List En} (hr : Rise m) : ins x (drop x.key m) = ins x m :=
 rise_ext (ins_rise (drop_rise hr)) (ins_rise hr) fun k => by
  rw [find_ins (drop_rise hr), find_ins hr]
  by_cases h : x.key = k
  ·rw [if_pos h, if_pos h]
  ·rw [if_neg h, if_neg h, find_drop, if_neg (fun e => h e.symm)]
theorem size_new {x : En} : ∀ {m : List En}, find x.key m = Option.none → size (ins x m) = size m + (x.key.length + x.val.length)
 | [], _ => by simp [ins, size]
 | y :: m, h => by
  rw [find_none] at h
  have hy := h y List.mem_cons_self
  have ih := size_new (x := x) (m := m) (find_none.2 fun z hz => h z (List.mem_cons_of_mem _ hz))
  rw [ins]
  split
  ·rw [size, size, ih]; omega
  ·(try rw [if_neg hy]); rw [size]; omega

structure MapAt (w : World) (M : Nat) (m : List En) (D : DataW Unit) : Prop where
 mp : w.ownsMap Tryz.prog 9 RE M m.length D
 has : ∀ k, Maps.has D (kl k) = (find k m).isSome
 val : ∀ k x, find k m = some x → ∀ z, D.atKey (kl k) z = ed x
 size : Maps.size D = m.length
theorem ownsMap_stay {H : Type} {P : Program} {k : TypeId} {R : Value → Option (DataW H × List MemPlace)} {b n : Nat} {D : DataW H} {w w' : World} (h : w.ownsMap P k R b n D) (hb : w'.heap[b]? = w.heap[b]?) : w'.ownsMap P k R b n D := by
 obtain ⟨es, clock, h1, h2⟩ := h
 exact ⟨es, clock, hb.trans h1, h2⟩
theorem ownsMap_tight {H : Type} {P : Program} {k : TypeId} {R : Value → Option (DataW H × List MemPlace)} {b n : Nat} {D : DataW H} {w : World} (h : w.ownsMap P k R b n D) : w.ownsMap P k R b (Maps.size D) D := by
 obtain ⟨es, clock, h1, h2, _, rfl⟩ := h
 exact ⟨es, clock, h1, h2, by simp [Maps.size, length_sorted], rfl⟩
section
variable {w w' : World} {M : Nat} {m : List En} {D : DataW Unit} {k : List UInt8}
theorem MapAt.stay (h : MapAt w M m D) (hb : w'.heap[M]? = w.heap[M]?) : MapAt w' M m D := ⟨ownsMap_stay h.mp hb, h.has, h.val, h.size⟩
theorem turned_size (h : w.mapTurned w' M) : w'.heap.size = w.heap.size := by
 obtain ⟨es, clock, es', clock', _, rfl⟩ := h
 simp [setBlock]
theorem MapAt.tidy (h : MapAt w M m D) : Tidy D := h.mp.tidy key_law
theorem MapAt.new (w : World) : MapAt (w.alloc (.map #[] 0)) w.heap.size [] (.map []) :=
 ⟨World.ownsMap_made w Tryz.prog 9 RE, fun k => rfl, fun k x h => by simp [find] at h, rfl⟩
theorem MapAt.look (h : MapAt w M m D) (hk : k.length ≤ maxLen) (c : Bool) :
  (Instr.lookup 105 (.map (some M)) (.string (str k)) c).run Tryz.prog w = .ok (if c then .tuple #[.agg ((find k m).getD En.none).cs, .bool (find k m).isSome] else .agg ((find k m).getD En.none).cs) w := by
 obtain ⟨es, clock, hb, F, _, hD⟩ := h.mp
 rcases Maps.fit_look c key_law Tryz.underlying105 (zeroE w) hb F (key_of hk) with ⟨hrun, _, hat⟩ | ⟨e0, y, _, _, hrun, hRv, hat, _⟩
 ·rw [← hD] at hat
  have e1 := Maps.has_false_of_atKey hat
  rw [h.has] at e1
  cases hf : find k m with
  | some x => rw [hf] at e1; cases e1
  | none => rw [hrun]; cases c <;> rfl
 ·rw [← hD] at hat
  have e1 := Maps.has_true_of_atKey hat
  rw [h.has] at e1
  cases hf : find k m with
  | none => rw [hf] at e1; cases e1
  | some x =>
   obtain ⟨x', hx', hv, hy⟩ := RE_inv hRv
   have e2 := (h.val k x hf (.agg [])).symm.trans (hat (.agg []))
   rw [hy] at e2
   obtain rfl := ed_inj e2
   rw [hrun, hv]
   cases c <;> rfl
theorem MapAt.len (h : MapAt w M m D) (ty : TypeId) : (Builtin.len_ #[105] ty #[.map (some M)]).run Tryz.prog w = .ok (.int .i64 m.length) w := by
 rw [← h.size]
 exact World.ownsMap.len h.mp Tryz.underlying105 ty
theorem MapAt.drop (h : MapAt w M m D) (hr : Rise m) (hk : k.length ≤ maxLen) (ty : TypeId) :
  ∃ w' D', (Builtin.delete_ #[105, 9] ty #[.map (some M), .string (str k)]).run Tryz.prog w = .ok (.tuple #[]) w' ∧ MapAt w' M (drop k m) D' ∧ w.grownBy w' (some M) ∧ w'.heap.size = w.heap.size := by
 obtain ⟨w', hrun, hown, ht⟩ := h.mp.drop key_law Tryz.underlying105 (key_of hk) ty
 have hsz : Maps.size (D.del (kl k)) = (Taby.drop k m).length := by
  have hs := size_del (k := kl k) h.tidy
  rw [h.has, h.size] at hs
  cases hf : find k m with
  | none => rw [hf] at hs; simp at hs; rw [drop_none hf]; exact hs
  | some x => rw [hf] at hs; simp at hs; have := (drop_one hr hf).1; omega
 refine ⟨w', D.del (kl k), hrun, ⟨?_, fun k' => ?_, fun k' x hf z => ?_, hsz⟩, ht.grown, ?_⟩
 ·rw [← hsz]; exact ownsMap_tight hown
 ·rw [find_drop]
  by_cases e : k' = k
  ·subst e; rw [if_pos rfl]; exact has_del_same
  ·rw [if_neg e, has_del_other (kl_ne e)]; exact h.has k'
 ·rw [find_drop] at hf
  by_cases e : k' = k
  ·rw [if_pos e] at hf; cases hf
  ·rw [if_neg e] at hf
   rw [atKey_del_other (kl_ne e)]; exact h.val k' x hf z
 ·exact turned_size ht
theorem MapAt.put {x : En} (h : MapAt w M m D) (hr : Rise m) (hx : x.Ok) (hn : find x.key m = Option.none) (hl : m.length < 1000000) :
  ∃ w' D', (Instr.mapUpdate 105 (.map (some M)) (.string (str x.key)) (.agg x.cs)).run Tryz.prog w = .ok () w' ∧ MapAt w' M (ins x m) D' ∧ w.grownBy w' (some M) ∧ w'.heap.size = w.heap.size := by
 have hk : x.key.length ≤ maxLen := by have := hx.key; unfold maxLen; omega
 obtain ⟨w', hrun, hown, ht⟩ := h.mp.store key_law Tryz.underlying105 (by unfold maxLen; omega) (key_of hk) (RE_mk hx)
 have hsz : Maps.size (D.put (kl x.key) (ed x)) = (ins x m).length := by
  have hs := size_put (k := kl x.key) h.tidy (ed x)
  rw [h.has, h.size, hn] at hs
  rw [hs, ins_new hn]
  rfl
 refine ⟨w', D.put (kl x.key) (ed x), hrun, ⟨?_, fun k' => ?_, fun k' y hf z => ?_, hsz⟩, ht.grown, ?_⟩
 ·rw [← hsz]; exact ownsMap_tight hown
 ·rw [find_ins hr]
  by_cases e : x.key = k'
  ·subst e; rw [if_pos rfl]; exact has_put_same h.tidy.isMap (key_is _) _
  ·rw [if_neg e, has_put_other (kl_ne fun e' => e e'.symm)]; exact h.has k'
 ·rw [find_ins hr] at hf
  by_cases e : x.key = k'
  ·subst e
   rw [if_pos rfl] at hf
   replace hf := Option.some.inj hf
   subst hf
   rw [atKey_put_same h.tidy.isMap (key_is x.key)]
  ·rw [if_neg e] at hf
   rw [atKey_put_other (kl_ne fun e' => e e'.symm)]; exact h.val k' y hf z
 ·exact turned_size ht
end

abbrev tp (b : Nat) : Value := .pointer (some ⟨b, 0, none⟩)
structure TabAt (w : World) (b M : Nat) (m : List En) : Prop where
 hd : Blk w b 107 #[.map (some M), .int .i64 (size m : Int)]
 mp : ∃ D, MapAt w M m D
 ne : b ≠ M
 rise : Rise m
 ok : ∀ x ∈ m, x.Ok
def HeldT (w0 w : World) (P : Nat → Prop) (b : Nat) (m : List En) : Prop := ∃ M, TabAt w b M m ∧ (∀ k, P k ↔ k = b ∨ k = M) ∧ w0.heap.size ≤ b ∧ w0.heap.size ≤ M
section
variable {w0 w w' : World} {P S : Nat → Prop} {b M : Nat} {m : List En}
theorem TabAt.stay (h : TabAt w b M m) (h1 : w'.heap[b]? = w.heap[b]?) (h2 : w'.heap[M]? = w.heap[M]?) : TabAt w' b M m :=
 ⟨h1.trans h.hd, h.mp.imp fun _ hD => hD.stay h2, h.ne, h.rise, h.ok⟩
theorem TabAt.ltM (h : TabAt w b M m) : M < w.heap.size := let ⟨_, hD⟩ := h.mp; hD.mp.lt
theorem TabAt.below (h : TabAt w b M m) (hb : Below w.heap.size w w') : TabAt w' b M m := h.stay (hb.block b h.hd.lt) (hb.block M h.ltM)
end
end Go.Proofs.YtkiabladmgagdabGreatDoor.Taby
namespace Go.Proofs.YtkiabladmgagdabGreatDoor.Taby
open Go.ChangeShapes Go.WideShapes Go.ChangeAt Go.RowKit Go.ChangeMaps Go.Maps
open Wirey (Blk Row str str_size str_list str_cat str_inj Kp)

theorem new_c (w : World) : Calls Tryz.prog 23 #[] w fun e w' => ∃ P b, e = .returned (tp b) ∧ HeldT w w' P b [] ∧ Below w.heap.size w w' := by
 have hm := MapAt.new w
 have hm2 := hm.stay (Below.heap_alloc (w.alloc (.map #[] 0)) (.cells #[.map (some w.heap.size), .int .i64 0] 107) w.heap.size hm.mp.lt)
 have hb := ((Below.refl _ w).alloc (Nat.le_refl _) (.map #[] 0)).alloc (by simp) (.cells #[.map (some w.heap.size), .int .i64 0] 107)
 have hz := Blk.new (w.alloc (.map #[] 0)) 107 #[.map (some w.heap.size), .int .i64 0]
 have hsz : (w.alloc (.map #[] 0)).heap.size = w.heap.size + 1 := by simp
 have hmm := @run_makeMap Tryz.prog
 go_enter Tryz.func23, Tryz.ntmps23
 go_wp2_with fail
 go_ret
 rw [hsz] at hz
 refine ⟨fun k => k = w.heap.size + 1 ∨ k = w.heap.size, _, rfl, ⟨w.heap.size, ⟨hz, ⟨_, hm2⟩, by omega, List.Pairwise.nil, fun x h => by cases h⟩, fun k => Iff.rfl, by omega, Nat.le_refl _⟩, hb⟩
section
variable {w0 w : World} {P : Nat → Prop} {b M : Nat} {m : List En}
set_option maxHeartbeats 2000000 in
set_option maxRecDepth 100000 in
theorem get_t (k : List UInt8) (hk : k.length ≤ 64) (w : World) (h : TabAt w b M m) : Calls Tryz.prog 54 #[tp b, .string (str k)] w fun e w' => e = .returned (.tuple #[.agg ((find k m).getD En.none).cs, .bool (find k m).isSome]) ∧ Below w.heap.size w w' := by
 have c0 : w.cell? ⟨b, 0, none⟩ = some (.map (some M)) := h.hd.cell 0
 have hb0 := h.hd.lt
 have hM := h.ltM
 obtain ⟨D, hD⟩ := h.mp
 have hb := (Below.refl _ w).alloc (Nat.le_refl _) (.cells #[.string ⟨#[]⟩, .string ⟨#[]⟩, .int .u64 0, .int .u64 0] 66)
 have hlook := (hD.stay (Below.heap_alloc w (.cells #[.string ⟨#[]⟩, .string ⟨#[]⟩, .int .u64 0, .int .u64 0] 66) M hM)).look (k := k) (by unfold maxLen; omega) true
 rw [if_pos rfl] at hlook
 generalize (find k m).getD En.none = x at *
 generalize (find k m).isSome = f at *
 have hz := Blk.new w 66 #[.string ⟨#[]⟩, .string ⟨#[]⟩, .int .u64 0, .int .u64 0]
 have hc0 := ((Blk.alloc h.hd (.cells #[.string ⟨#[]⟩, .string ⟨#[]⟩, .int .u64 0, .int .u64 0] 66))).cell 0
 clear hD c0
 go_enter Tryz.func54, Tryz.ntmps54
 go_upto_region 3 with (fail)
 generalize w.alloc (.cells #[.string ⟨#[]⟩, .string ⟨#[]⟩, .int .u64 0, .int .u64 0] 66) = w1 at *
 have hb2 := hb.alloc hb.size (.cells #[.string (str x.key), .string (str x.val), .int .u64 x.ver, .int .u64 x.fin] 66)
 have hz2 := hz.alloc (.cells #[.string (str x.key), .string (str x.val), .int .u64 x.ver, .int .u64 x.fin] 66)
 have hx2 := Blk.new w1 66 #[.string (str x.key), .string (str x.val), .int .u64 x.ver, .int .u64 x.fin]
 have hlt := hz.lt
 have hc0 : w1.cell? ⟨b, 0, none⟩ = some (.map (some M)) := hc0
 go_upto_region 4 with (fail)
 generalize w1.alloc (.cells #[.string (str x.key), .string (str x.val), .int .u64 x.ver, .int .u64 x.fin] 66) = w2 at *
 have x0 := hx2.cell 0
 have x1 := hx2.cell 1
 have x2 := hx2.cell 2
 have x3 := hx2.cell 3
 have y0 := hz2.cell 0
 have y1 := hz2.cell 1
 have y2 := hz2.cell 2
 have y3 := hz2.cell 3
 simp only [gA, gB, gC] at x0 x1 x2 x3 y0 y1 y2 y3
 have z0 := hz2.free 0
 have z1 := hz2.free 1
 have z2 := hz2.free 2
 have z3 := hz2.free 3
 have hT := ((((hz2.put 0 (.string (str x.key))).put 1 (.string (str x.val))).put 2 (.int .u64 x.ver)).put 3 (.int .u64 x.fin))
 simp only [sA, List.set_cons_zero, sC] at hT
 have hB2 := (((hb2.setCell (p := ⟨w.heap.size, 0, none⟩) (Nat.le_refl _) (.string (str x.key))).setCell (p := ⟨w.heap.size, 1, none⟩) (Nat.le_refl _) (.string (str x.val))).setCell (p := ⟨w.heap.size, 2, none⟩) (Nat.le_refl _) (.int .u64 x.ver)).setCell (p := ⟨w.heap.size, 3, none⟩) (Nat.le_refl _) (.int .u64 x.fin)
 have HT := Lib.hid hT
 have HB := Lib.hid hB2
 clear hT hB2 hb2 hz2 hx2 hz hb hlook h
 go_wp2_with fail
 refine bodyPost_ret (results_row_tmp rfl _ _ w.heap.size rfl (run_loadVar_row _ _ _ _ _ _ _ HT.out Tryz.underlying66 rfl (by kernel_rfl))) rfl ⟨rfl, HB.out⟩
set_option maxHeartbeats 1000000 in
theorem bytes_c (_ : m.length ≤ 100000) (h : HeldT w0 w P b m) : Calls Tryz.prog 75 #[tp b] w fun e w' => e = .returned (.int .i64 (size m : Int)) ∧ Below w.heap.size w w' := by
 obtain ⟨M, h, -⟩ := h
 have c0 : w.cell? ⟨b, 1, none⟩ = some (.int .i64 (size m : Int)) := h.hd.cell 1
 generalize size m = n at *
 go_enter Tryz.func75, Tryz.ntmps75
 go_wp2_with fail
 go_ret
 exact ⟨rfl, Below.refl _ w⟩
end
set_option maxHeartbeats 1000000 in
theorem size_c {x : En} (hx : x.Ok) (w : World) : Calls Tryz.prog 56 #[.agg x.cs] w fun e w' => e = .returned (.int .i64 ((x.key.length + x.val.length : Nat) : Int)) ∧ Below w.heap.size w w' := by
 have h1 := hx.key
 have h2 := hx.val
 have s1 := str_size x.key
 have s2 := str_size x.val
 have hb := (Below.refl _ w).alloc (Nat.le_refl _) (.cells #[.string (str x.key), .string (str x.val), .int .u64 x.ver, .int .u64 x.fin] 66)
 have hx2 := Blk.new w 66 #[.string (str x.key), .string (str x.val), .int .u64 x.ver, .int .u64 x.fin]
 obtain ⟨xk, xv, xr, xf⟩ := x
 dsimp only at h1 h2 s1 s2 hb hx2
 go_enter Tryz.func56, Tryz.ntmps56
 go_wp2_with fail
 go_ret
 refine ⟨?_, hb⟩
 simp
def strsV (l : List (List UInt8)) : List Value := l.map fun s => .string (str s)
def St (w : World) (B : Nat) (v : Value) (l : List (List UInt8)) : Prop := w.ownsRow B 9 1 v l.length (strsV l)
section
variable {w w' : World} {B : Nat} {v : Value} {l : List (List UInt8)} {a : Option Addr} {n c : Nat}
theorem St.form (h : St w B v l) : ∃ a c, v = .slice a l.length c := by
 rcases h.2 with ⟨rfl, h0⟩ | ⟨g, cap, cur, hv, _⟩
 ·exact ⟨none, 0, by rw [h0]⟩
 ·exact ⟨_, _, hv⟩
theorem St.stay (h : St w B v l) (hs : ∀ g, v.ownBlock = some g → w'.heap[g]? = w.heap[g]?) : St w' B v l :=
 ⟨h.1, h.2.elim Or.inl fun ⟨g, cap, cur, hv, hg, hb, r⟩ => Or.inr ⟨g, cap, cur, hv, hg, (hs g (by rw [hv]; rfl)).trans hb, r⟩⟩
theorem St.lt (h : St w B v l) : ∀ g, v.ownBlock = some g → B ≤ g ∧ g < w.heap.size := World.ownsRow.lt h
theorem St.below (h : St w B v l) (hb : Below w.heap.size w w') : St w' B v l := h.stay fun g hg => hb.block g (h.lt g hg).2
theorem St.alloc (h : St w B v l) (o : Obj) : St (w.alloc o) B v l := h.stay fun g hg => Below.heap_alloc w o g (h.lt g hg).2
theorem St.low (h : St w B v l) {B' : Nat} (hb : B' ≤ B) : St w B' v l := ⟨h.1, h.2.elim Or.inl fun ⟨g, cap, cur, hv, hg, r⟩ => Or.inr ⟨g, cap, cur, hv, Nat.le_trans hb hg, r⟩⟩
theorem St.at_ (h : St w B (.slice a n c) l) {i : Nat} {x : List UInt8} (hx : l[i]? = some x) : ∃ g, a = some ⟨g, 0, none⟩ ∧ B ≤ g ∧ g < w.heap.size ∧ (∀ W : World, W.heap[g]? = w.heap[g]? → W.cell? ⟨g, i, none⟩ = some (.string (str x))) := by
 have hi : i < l.length := (List.getElem?_eq_some_iff.1 hx).1
 obtain ⟨g, cap, hv, hg, hlt⟩ := World.ownsRow.form h (by omega)
 injection hv with e1 e2 e3
 subst e1 e2 e3
 refine ⟨g, rfl, hg, hlt, fun W hW => ?_⟩
 rw [World.cell?_of_block (a := ⟨g, i, none⟩) hW, World.ownsRow.cellAt h i (by omega)]
 simp [strsV, hx]
theorem St.snoc {g cap : Nat} {x : List UInt8} (h : w.ownsRow B 9 1 (.slice (some ⟨g, 0, none⟩) (l.length + 1) cap) (l.length + 1) (strsV l ++ [.string (str x)])) : St w B (.slice (some ⟨g, 0, none⟩) (l.length + 1) cap) (l ++ [x]) := by
 unfold St
 rw [List.length_append]
 simpa [strsV] using h
end
theorem str_info : (Tryz.prog.info? 9).map (fun i => (i.zero, i.size, i.bytes)) = some (some (.string ⟨#[]⟩), 1, 16) := by kernel_rfl
end Go.Proofs.YtkiabladmgagdabGreatDoor.Taby
namespace Go.Proofs.YtkiabladmgagdabGreatDoor.Taby
open Go.ChangeShapes Go.WideShapes Go.ChangeAt Go.RowKit Go.ChangeMaps Go.Maps Go.Sort Go.Shelf
open Wirey (Blk Row str str_size str_list str_cat str_inj Kp)
theorem sortsZ (m : Nat) : AnyZ.SortsIn Tryz.prog Tryz.sorted81_ren Fence.wide m :=
 ⟨fun blk off cap ss W hH hblk hsz => callsIn_wide.2 (AnyM.slices_Sort_string Tryz.sort86 blk off cap ss W hH hblk hsz),
  fun p cap W => callsIn_wide.2 (AnyM.slices_Sort_string_none Tryz.sort86 p cap W)⟩
theorem mapsKeys (mb : Option Nat) (W : World) : CallsIn Fence.wide 5 Tryz.prog 82 #[.map mb] W fun e w' => e = .returned (.func (.func 111) #[] #[.pointer (some ⟨W.heap.size, 0, none⟩)]) ∧ w' = W.alloc (.cells #[.map mb] 105) :=
 AnyZ.keys_in Tryz.keys82 Fence.wide 5 trivial rfl mb W
set_option maxHeartbeats 1000000 in
theorem sortedKeys {H : Type} (b nn : Nat) (D0 : DataW H) (R : Value → Option (DataW H × List MemPlace)) (w : World) (hown : w.ownsMap Tryz.prog 9 R b nn D0) (hmax : Maps.size D0 ≤ maxLen) (hbytes : Maps.size D0 * 16 ≤ 140737488355328) :
  CallsIn Fence.wide 5 Tryz.prog 81 #[.func (.func 111) #[] #[.pointer (some ⟨w.heap.size, 0, none⟩)]] (w.alloc (.cells #[.map (some b)] 105)) fun e w' => ∃ (v : Value) (ss : List (List UInt8)), e = .returned v ∧ ss.Perm (strKeys D0) ∧
   w'.ownsRow (w.alloc (.cells #[.map (some b)] 105)).heap.size 9 1 v ss.length ((ss.mergeSort (fun x y => decide (x ≤ y))).map encStr) ∧ (v = .slice none 0 0 ↔ ss = []) ∧ Below (w.alloc (.cells #[.map (some b)] 105)).heap.size (w.alloc (.cells #[.map (some b)] 105)) w' := by
 have hbl := hown.lt
 have hseq : SeqGives Fence.wide 2 Tryz.prog 111 #[.pointer (some ⟨w.heap.size, 0, none⟩)] encStr (fun ss => ss.Perm (strKeys D0)) (Maps.size D0) (w.alloc (.cells #[.map (some b)] 105)) :=
  AnyZ.keys_gives (ρ := Tryz.keys82_ren) { Tryz.keys82 with } Fence.wide _ trivial rfl (by omega) w.heap.size b nn D0 _ (by simp) (by simp) (by
    obtain ⟨es, clock, hb, Ft, hs, hD⟩ := hown
    exact ⟨es, clock, (Below.heap_alloc _ _ b hbl).trans hb, Ft, hs, hD⟩)
 exact AnyZ.sorted_in Tryz.sorted81 Fence.wide 5 trivial trivial trivial trivial rfl (by omega) (sortsZ _) (enters_of Tryz.func86 (by kernel_rfl) rfl) 111 #[.pointer (some ⟨w.heap.size, 0, none⟩)] trivial (enters_of Tryz.func111 (by kernel_rfl) rfl) _ _ hmax hbytes _ hseq

def keysOf (l : List En) : List (List UInt8) := l.map (·.key)
def ended (now : Nat) (l : List En) : List (List UInt8) := (l.filter fun x => decide (0 < x.fin) && decide (x.fin ≤ now)).map (·.key)
theorem less_lt {a b : List UInt8} : less a b = true ↔ a < b := by
 show Op.bytesLess a b = true ↔ _
 rw [bytesLess_eq, decide_eq_true_eq]
theorem sort_of {l s : List (List UInt8)} (hp : s.Perm l) (hr : l.Pairwise fun a b => less a b = true) : s.mergeSort (fun x y => decide (x ≤ y)) = l := by
 rw [show s.mergeSort (fun x y => decide (x ≤ y)) = l.mergeSort (fun x y => decide (x ≤ y)) from mergeSort_of_perm hp]
 exact List.mergeSort_of_pairwise (hr.imp fun h => decide_eq_true (List.le_of_lt (less_lt.1 h)))
theorem keys_rise {m : List En} (h : Rise m) : (keysOf m).Pairwise fun a b => less a b = true := List.pairwise_map.2 h
theorem ended_rise {m : List En} (now : Nat) (h : Rise m) : (ended now m).Pairwise fun a b => less a b = true := List.pairwise_map.2 (List.Pairwise.filter _ h)
theorem nodup_of_rise {l : List (List UInt8)} (h : l.Pairwise fun a b => less a b = true) : l.Nodup := h.imp fun h => less_ne h
theorem mem_keys {m : List En} {k : List UInt8} : k ∈ keysOf m ↔ (find k m).isSome = true := by
 unfold keysOf
 rw [List.mem_map]
 constructor
 ·rintro ⟨x, hx, rfl⟩
  cases hf : find x.key m with
  | none => exact absurd rfl (find_none.1 hf x hx)
  | some y => rfl
 ·intro h
  cases hf : find k m with
  | none => rw [hf] at h; cases h
  | some x => exact ⟨x, (find_mem hf).1, (find_mem hf).2⟩
theorem mem_ended {m : List En} {now : Nat} {k : List UInt8} (hr : Rise m) : k ∈ ended now m ↔ ∃ x, find k m = some x ∧ 0 < x.fin ∧ x.fin ≤ now := by
 unfold ended
 rw [List.mem_map]
 constructor
 ·rintro ⟨x, hx, rfl⟩
  obtain ⟨h1, h2⟩ := List.mem_filter.1 hx
  rw [Bool.and_eq_true, decide_eq_true_eq, decide_eq_true_eq] at h2
  exact ⟨x, find_of_mem hr h1, h2⟩
 ·rintro ⟨x, hf, h1, h2⟩
  exact ⟨x, List.mem_filter.2 ⟨(find_mem hf).1, by rw [Bool.and_eq_true, decide_eq_true_eq, decide_eq_true_eq]; exact ⟨h1, h2⟩⟩, (find_mem hf).2⟩
theorem keysOf_len (m : List En) : (keysOf m).length = m.length := List.length_map _
section
variable {w0 w : World} {P : Nat → Prop} {b M : Nat} {m : List En}
theorem MapAt.perm {D : DataW Unit} (h : MapAt w M m D) (hr : Rise m) : (keysOf m).Perm (strKeys D) :=
 Collected.perm (left := fun _ => false) ⟨nodup_of_rise (keys_rise hr), fun x => by rw [mem_keys, show Lit.string x = kl x from rfl, h.has]; simp⟩ h.mp key_law Tryz.underlying9 (fun _ => rfl)
set_option maxHeartbeats 1000000 in
theorem keys_t (hl : m.length ≤ 100000) (w : World) (h : TabAt w b M m) : Calls Tryz.prog 47 #[tp b] w fun e w' => ∃ v, e = .returned v ∧ St w' w.heap.size v (keysOf m) ∧ Below w.heap.size w w' := by
 have c0 : w.cell? ⟨b, 0, none⟩ = some (.map (some M)) := h.hd.cell 0
 obtain ⟨D, hD⟩ := h.mp
 have hperm := hD.perm h.rise
 have hsz := hD.size
 have hS := callsIn_wide.1 (sortedKeys M m.length D RE w hD.mp (by unfold maxLen; omega) (by omega))
 have hK := callsIn_wide.1 (mapsKeys (some M) w)
 have hrise := keys_rise h.rise
 have hb := (Below.refl _ w).alloc (Nat.le_refl _) (.cells #[.map (some M)] 105)
 have hbs := hb.size
 clear hD h hsz
 go_enter Tryz.func47, Tryz.ntmps47
 go_wp2_with fail
 refine hK.mono ?_
 rintro e w1 ⟨rfl, rfl⟩
 go_wp2_with fail
 refine hS.mono ?_
 rintro e w1 ⟨v, ss, rfl, hp, hrow, -, hb1⟩
 go_wp2_with fail
 go_ret
 refine ⟨v, rfl, ?_, hb.trans (hb1.mono hbs)⟩
 rw [sort_of (hp.trans hperm.symm) hrise, (hp.trans hperm.symm).length_eq] at hrow
 exact St.low (B := _) hrow hbs
theorem sort_c {B : Nat} {v : Value} {out l : List (List UInt8)} (w : World) (h : St w B v out) (hn : out.length < 1000000) (hp : out.Perm l) (hr : l.Pairwise fun a b => less a b = true) :
  Calls Tryz.prog 86 #[v] w fun e w' => e = .returned (.tuple #[]) ∧ St w' B v l ∧ Below B w w' := by
 have hs := sort_of hp hr
 rcases h.2 with ⟨rfl, h0⟩ | ⟨g, cap, cur, rfl, hB, hb, h1, h2, h3, h4⟩
 ·have e0 : out = [] := List.length_eq_zero_iff.1 h0
  subst e0
  obtain rfl : l = [] := List.Perm.eq_nil hp.symm
  refine (AnyM.slices_Sort_string_none Tryz.sort86 none 0 w).mono ?_
  rintro e w' ⟨rfl, rfl⟩
  exact ⟨rfl, h, Below.refl _ _⟩
 ·have hlt := (h.lt g rfl).2
  refine (AnyM.slices_Sort_string Tryz.sort86 g 0 cap out w (holds_of_block hb (by rw [Nat.mul_one] at h4; exact h4)) hlt (by omega)).mono ?_
  rintro e w' ⟨rfl, n, os, rfl⟩
  rw [hs]
  refine ⟨rfl, ?_, ?_⟩
  ·have hO := ownsRow_sorted (n := n) (os := os) (ts := l) hp.length_eq.symm hB hb h1 h2 h3
   unfold St
   rw [← hp.length_eq]
   exact hO
  ·have hg := grownBy_sorted (w := w) (g := g) (n := n) (os := os) l.toArray
   exact ⟨hg.os, hg.tape, hg.output, hg.size, fun k hk => hg.block k (by omega) (fun e => by have := Option.some.inj e; omega)⟩

structure Coll (now : Nat) (m : List En) (left : Lit → Bool) (out : List (List UInt8)) : Prop where
 nd : out.Nodup
 mem : ∀ k, k ∈ out ↔ (∃ x, find k m = some x ∧ 0 < x.fin ∧ x.fin ≤ now) ∧ left (kl k) = false
 sub : ∀ k ∈ out, k ∈ keysOf m
theorem Coll.len {now : Nat} {left : Lit → Bool} {out : List (List UInt8)} (h : Coll now m left out) (hr : Rise m) : out.length ≤ m.length := by
 have hp : out.Perm ((keysOf m).filter fun k => decide (k ∈ out)) := (List.perm_ext_iff_of_nodup h.nd ((nodup_of_rise (keys_rise hr)).filter _)).2 fun k => by
  rw [List.mem_filter, decide_eq_true_eq]
  exact ⟨fun hk => ⟨h.sub k hk, hk⟩, fun hk => hk.2⟩
 rw [hp.length_eq, ← keysOf_len m]
 exact List.length_filter_le _ _
theorem Coll.start (now : Nat) {D : DataW Unit} (hD : ∀ k, Maps.has D (kl k) = (find k m).isSome) : Coll now m (Maps.has D) [] :=
 ⟨List.nodup_nil, fun k => ⟨fun h => (by cases h), fun ⟨⟨x, hf, _⟩, hl⟩ => (by rw [hD, hf] at hl; cases hl)⟩, fun k h => (by cases h)⟩
theorem Coll.yes {now : Nat} {left : Lit → Bool} {out : List (List UInt8)} {x : En} (h : Coll now m left out) (hf : find x.key m = some x) (hl : left (kl x.key) = true) (h1 : 0 < x.fin ∧ x.fin ≤ now) :
  Coll now m (fun z => left z && !z.sameKey (kl x.key)) (out ++ [x.key]) := by
 have hnew : x.key ∉ out := fun hk => by have := ((h.mem _).1 hk).2; rw [hl] at this; cases this
 refine ⟨List.nodup_append.2 ⟨h.nd, by simp, fun a ha b hb => by simp at hb; subst hb; exact fun e => hnew (e ▸ ha)⟩, fun k => ?_, fun k hk => ?_⟩
 ·by_cases e : k = x.key
  ·subst e
   simp only [List.mem_append, List.mem_singleton, or_true, true_iff]
   exact ⟨⟨x, hf, h1⟩, by simp [kl, Lit.sameKey]⟩
  ·have e2 : (kl k).sameKey (kl x.key) = false := by simp [kl, Lit.sameKey, e]
   rw [List.mem_append, List.mem_singleton, h.mem k, e2]
   simp [e]
 ·rcases List.mem_append.1 hk with hk | hk
  ·exact h.sub k hk
  ·rw [List.mem_singleton] at hk
   subst hk
   rw [mem_keys, hf]; rfl
theorem Coll.no {now : Nat} {left : Lit → Bool} {out : List (List UInt8)} {x : En} (h : Coll now m left out) (hf : find x.key m = some x) (hl : left (kl x.key) = true) (h1 : ¬ (0 < x.fin ∧ x.fin ≤ now)) :
  Coll now m (fun z => left z && !z.sameKey (kl x.key)) out := by
 refine ⟨h.nd, fun k => ?_, h.sub⟩
 by_cases e : k = x.key
 ·subst e
  rw [h.mem]
  constructor
  ·rintro ⟨_, h2⟩; rw [hl] at h2; cases h2
  ·rintro ⟨⟨y, hy, h2⟩, _⟩
   rw [hf] at hy
   have e3 := Option.some.inj hy
   subst e3
   exact absurd h2 h1
 ·have e2 : (kl k).sameKey (kl x.key) = false := by simp [kl, Lit.sameKey, e]
  rw [h.mem k, e2]
  simp
theorem Coll.done {now : Nat} {left : Lit → Bool} {out : List (List UInt8)} (h : Coll now m left out) (hr : Rise m) (hl : ∀ z, left z = false) : out.Perm (ended now m) :=
 (List.perm_ext_iff_of_nodup h.nd (nodup_of_rise (ended_rise now hr))).2 fun k => by rw [h.mem, mem_ended hr, hl]; simp
theorem inv_key (key : Value) (z : Lit) (h : keyOf Tryz.prog 9 key = some z) : ∃ k : List UInt8, key = .string (str k) := by
 obtain ⟨k, e, _⟩ := Maps.keyOf_str Tryz.underlying9 h
 exact ⟨k, e⟩
theorem inv_val (v : Value) (y : DataW Unit × List MemPlace) (h : RE v = some y) : ∃ x : En, v = .agg x.cs := by
 obtain ⟨x, _, e, _⟩ := RE_inv h
 exact ⟨x, e⟩
theorem MapAt.entry {D : DataW Unit} {w0 : World} (h : MapAt w0 M m D) {k : List UInt8} {x : En} {z : Lit} {y : DataW Unit × List MemPlace} (h1 : keyOf Tryz.prog 9 (.string (str k)) = some z) (h2 : RE (.agg x.cs) = some y) (h3 : ∀ zd, D.atKey z zd = y.1) :
  z = kl k ∧ x.key = k ∧ find x.key m = some x ∧ x.Ok := by
 obtain ⟨k', e1, rfl, hk'⟩ := Maps.keyOf_str Tryz.underlying9 h1
 obtain rfl : k = k' := str_inj (Value.string.inj e1)
 obtain ⟨x', hx', e2, rfl⟩ := RE_inv h2
 obtain rfl := cs_inj e2
 have h4 := Maps.has_true_of_atKey h3
 rw [show Lit.string k = kl k from rfl, h.has] at h4
 cases hf : find k m with
 | none => rw [hf] at h4; cases h4
 | some x0 =>
  have e3 : x0 = x := ed_inj ((h.val k x0 hf (.agg [])).symm.trans (h3 (.agg [])))
  subst e3
  obtain rfl := (find_mem hf).2
  exact ⟨rfl, rfl, hf, hx'⟩
set_option maxHeartbeats 4000000 in
set_option maxRecDepth 100000 in
theorem ended_t (now : Nat) (_ : now < 18446744073709551616) (hl : m.length ≤ 100000) (w : World) (h : TabAt w b M m) : Calls Tryz.prog 59 #[tp b, .int .u64 now] w fun e w' => ∃ v, e = .returned v ∧ St w' w.heap.size v (ended now m) ∧ Below w.heap.size w w' := by
 have c0 : w.cell? ⟨b, 0, none⟩ = some (.map (some M)) := h.hd.cell 0
 obtain ⟨D, hD⟩ := h.mp
 have hown := hD.mp
 have hrise := h.rise
 have hMw := h.ltM
 have hcol := Coll.start (m := m) now hD.has
 obtain ⟨i0, hi0, hz0, hz1, hz2⟩ := info_parts str_info
 have HD := Lib.hid hD
 have HT := Lib.hid h
 clear hD h
 go_enter Tryz.func59, Tryz.ntmps59
 go_wp2_with (first | (at_range; refine wpList_range_own _ rfl _ 105 rfl 9 66 key_law Tryz.underlying105 RE M m.length D rfl hown ?_; intro w1 hrg0 hg0 hs0))
 have hB0 : Below w.heap.size w w1 := ⟨hg0.os, hg0.tape, hg0.output, hg0.size, fun k hk => hg0.block k hk (by simp)⟩
 go_frame
 go_loopw [5] (fun v5 wr => ∃ left cnt out, wr.ranges Tryz.prog 9 RE M w.heap.size m.length D left cnt ∧ Coll now m left out ∧ St wr w.heap.size v5 out ∧ Below w.heap.size w wr) (fun _ wr => wr.rangeLeft M w.heap.size)
 case atStart => exact ⟨_, _, [], hrg0, hcol, ⟨rfl, .inl ⟨rfl, rfl⟩⟩, hB0⟩
 case round =>
  clear hrg0 hcol hB0 hg0 hs0 hown c0
  obtain ⟨left, cnt, out, hrg, hC, hS, hB⟩ := hrel
  have hlen := hC.len hrise
  have hws := hB.size
  have hitn := row_ne_iter hS hrg
  obtain ⟨oa, oc, rfl⟩ := hS.form
  go_wp2_with (first | (at_next; refine wpList_next_ranges _ rfl _ rfl 9 key_law RE (fun k : List UInt8 => .string (str k)) (fun x : En => .agg x.cs) inv_key inv_val M w.heap.size m.length D left cnt rfl hrg ?_ ?_))
  ·intro hc0 hl0
   have hsort := sort_c wr hS (by omega) (hC.done hrise hl0) (ended_rise now hrise)
   clear hrg
   go_wp2_with fail
   refine hsort.mono ?_
   rintro e w3 ⟨rfl, hS3, hB3⟩
   go_wp2_with fail
   (try simp only [Exit.inBlock, Exit.then])
   go_ret
   exact ⟨_, rfl, hS3, hB.trans hB3⟩
  ·intro k x z y ps w2 cnt2 h1 h2 h3 h4 hrg2 hlt2 hgr2 hsz2 hen2
   obtain ⟨rfl, rfl, hf, hx⟩ := HD.out.entry h1 h3 h4
   have hB2 : Below w.heap.size w w2 := hB.trans ⟨hgr2.os, hgr2.tape, hgr2.output, hgr2.size, fun k hk => hgr2.block k (by omega) (fun e => by have := Option.some.inj e; omega)⟩
   have hS2 : St w2 w.heap.size _ out := hS.stay (fun g hg => hgr2.block g (hS.lt g hg).2 (fun e => hitn (e.symm.trans hg.symm)))
   have hle := hrg.left_eq
   have hMn := row_ne_low hS2 hMw
   have hX := Blk.new w2 66 #[.string (str x.key), .string (str x.val), .int .u64 x.ver, .int .u64 x.fin]
   have hS3 := hS2.alloc (.cells #[.string (str x.key), .string (str x.val), .int .u64 x.ver, .int .u64 x.fin] 66)
   have hB3 := hB2.alloc hB2.size (.cells #[.string (str x.key), .string (str x.val), .int .u64 x.ver, .int .u64 x.fin] 66)
   have hrg3 := hrg2.alloc (.cells #[.string (str x.key), .string (str x.val), .int .u64 x.ver, .int .u64 x.fin] 66)
   have h12 := hx.fin
   clear h1 h3 h4 hrg hgr2 hB hS hS2 hB2 hsz2
   go_upto_region 7 with (fail)
   generalize w2.alloc (.cells #[.string (str x.key), .string (str x.val), .int .u64 x.ver, .int .u64 x.fin] 66) = w3 at *
   have x3 := hX.cell 3
   simp only [gA, gB, gC] at x3
   have h3s := hB3.size
   by_cases hc : 0 < x.fin ∧ x.fin ≤ now
   ·have e1 : decide ((0 : Int) < (x.fin : Int)) = true := decide_eq_true (by omega)
    have e2 : decide ((x.fin : Int) ≤ (now : Int)) = true := decide_eq_true (by omega)
    have hC2 := Lib.hid (hC.yes hf h2 hc)
    have HR := Lib.hid hrg3
    have HL := Lib.hid hle
    clear hC hrg3 hle hX hen2
    go_wp2_with (first | (refine wpList_append_lies _ (by rfl) _ _ _ (by rfl) w.heap.size 9 i0 _ 1 16 Tryz.underlying103 hi0 hz0 hz1 hz2 rfl (by omega) (.slice oa out.length oc) out.length (strsV out) (by rfl) (hS3.alloc _) ⟨w3.heap.size, 0, none⟩ 1 1 [.string (str x.key)] (by rfl) (by rfl) (World.news_of_block (cs := #[.string (str x.key)]) (t := 9) (fr := (0, 0)) (heap_alloc_new w3 _)) (by simp [Value.oneCell']) (by omega) (by simp [maxLen]; omega) (by omega) (by simp; omega) (w3.heap.size + 1) (by simp) ?_; intro gg cp w30 hown3 hgrow hat hlt3))
    have hrg30 := Lib.hid ((HR.out.alloc (.cells #[.string (str x.key)] 9)).kept hgrow hMn hitn)
    go_roundw
    case rel =>
     have hrow := hS3.lt
     exact ⟨_, cnt2, _, hrg30.out, hC2.out, St.snoc hown3, (hB3.alloc h3s _).trans ⟨hgrow.os, hgrow.tape, hgrow.output, hgrow.size, fun k hk => hgrow.block k (by simp; omega) (fun e => by have := (hrow k e.symm).1; omega)⟩⟩
    case measure =>
     rw [hrg30.out.left_eq, HL.out]
     exact hlt2
   ·have hC2 := Lib.hid (hC.no hf h2 hc)
    have HR := Lib.hid hrg3
    have HL := Lib.hid hle
    have HB3 := Lib.hid hB3
    have HS3 := Lib.hid hS3
    clear hC hrg3 hle hX hen2 hB3 hS3
    by_cases hc1 : 0 < x.fin
    ·have e1 : decide ((0 : Int) < (x.fin : Int)) = true := decide_eq_true (by omega)
     have e2 : decide ((x.fin : Int) ≤ (now : Int)) = false := decide_eq_false (by omega)
     go_wp2_with fail
     go_roundw
     case rel => exact ⟨_, cnt2, _, HR.out, hC2.out, HS3.out, HB3.out⟩
     case measure => rw [HR.out.left_eq, HL.out]; exact hlt2
    ·have e1 : decide ((0 : Int) < (x.fin : Int)) = false := decide_eq_false (by omega)
     go_wp2_with fail
     go_roundw
     case rel => exact ⟨_, cnt2, _, HR.out, hC2.out, HS3.out, HB3.out⟩
     case measure => rw [HR.out.left_eq, HL.out]; exact hlt2
end
end Go.Proofs.YtkiabladmgagdabGreatDoor.Taby
