/- The program's table: New, Get, Len, Bytes, size, and what no table tells. The only condition: keys are not too long. -/
import Derived.Test.YtdjfdpmfpnbpjaaTabRow
import Derived.Deep.RegionHeld3
import Derived.BigQuiet
import Derived.Lib.Hide
namespace Go.Proofs.Ytdjfdpmfpnbpjaa.Taby
open Go.ChangeShapes Go.WideShapes Go.ChangeAt Go.RowKit Go.ChangeMaps Go.Maps
open Wirey (Blk Row str str_size str_list str_cat str_inj Kp)

theorem new_c (w : World) : Calls Try.prog 11 #[] w fun e w' => ∃ P b, e = .returned (tp b) ∧ HeldT w w' P b [] ∧ Below w.heap.size w w' := by
  have hm := MapAt.new w
  have hm2 := hm.stay (Below.heap_alloc (w.alloc (.map #[] 0)) (.cells #[.map (some w.heap.size), .int .i64 0] 59) w.heap.size hm.mp.lt)
  have hb := ((Below.refl _ w).alloc (Nat.le_refl _) (.map #[] 0)).alloc (by simp) (.cells #[.map (some w.heap.size), .int .i64 0] 59)
  have hz := Blk.new (w.alloc (.map #[] 0)) 59 #[.map (some w.heap.size), .int .i64 0]
  have hsz : (w.alloc (.map #[] 0)).heap.size = w.heap.size + 1 := by simp
  have hmm := @run_makeMap Try.prog
  go_enter Try.func11, Try.ntmps11
  go_wp2_with fail
  go_ret
  rw [hsz] at hz
  refine ⟨fun k => k = w.heap.size + 1 ∨ k = w.heap.size, _, rfl, ⟨w.heap.size, ⟨hz, ⟨_, hm2⟩, by omega, List.Pairwise.nil, fun x h => by cases h⟩, fun k => Iff.rfl, by omega, Nat.le_refl _⟩, hb⟩
section
variable {w0 w : World} {P : Nat → Prop} {b M : Nat} {m : List En}
set_option maxHeartbeats 2000000 in
set_option maxRecDepth 100000 in
theorem get_t (k : List UInt8) (hk : k.length ≤ 64) (w : World) (h : TabAt w b M m) : Calls Try.prog 22 #[tp b, .string (str k)] w fun e w' => e = .returned (.tuple #[.agg ((find k m).getD En.none).cs, .bool (find k m).isSome]) ∧ Below w.heap.size w w' := by
  have c0 : w.cell? ⟨b, 0, none⟩ = some (.map (some M)) := h.hd.cell 0
  have hb0 := h.hd.lt
  have hM := h.ltM
  obtain ⟨D, hD⟩ := h.mp
  have hb := (Below.refl _ w).alloc (Nat.le_refl _) (.cells #[.string ⟨#[]⟩, .string ⟨#[]⟩, .int .u64 0, .int .u64 0] 32)
  have hlook := (hD.stay (Below.heap_alloc w (.cells #[.string ⟨#[]⟩, .string ⟨#[]⟩, .int .u64 0, .int .u64 0] 32) M hM)).look (k := k) (by unfold maxLen; omega) true
  rw [if_pos rfl] at hlook
  generalize (find k m).getD En.none = x at *
  generalize (find k m).isSome = f at *
  have hz := Blk.new w 32 #[.string ⟨#[]⟩, .string ⟨#[]⟩, .int .u64 0, .int .u64 0]
  have hc0 := ((Blk.alloc h.hd (.cells #[.string ⟨#[]⟩, .string ⟨#[]⟩, .int .u64 0, .int .u64 0] 32))).cell 0
  clear hD c0
  go_enter Try.func22, Try.ntmps22
  go_upto_region 3 with (fail)
  generalize w.alloc (.cells #[.string ⟨#[]⟩, .string ⟨#[]⟩, .int .u64 0, .int .u64 0] 32) = w1 at *
  have hb2 := hb.alloc hb.size (.cells #[.string (str x.key), .string (str x.val), .int .u64 (x.ver : Int), .int .u64 (x.fin : Int)] 32)
  have hz2 := hz.alloc (.cells #[.string (str x.key), .string (str x.val), .int .u64 (x.ver : Int), .int .u64 (x.fin : Int)] 32)
  have hx2 := Blk.new w1 32 #[.string (str x.key), .string (str x.val), .int .u64 (x.ver : Int), .int .u64 (x.fin : Int)]
  have hlt := hz.lt
  have hc0 : w1.cell? ⟨b, 0, none⟩ = some (.map (some M)) := hc0
  go_upto_region 4 with (fail)
  generalize w1.alloc (.cells #[.string (str x.key), .string (str x.val), .int .u64 (x.ver : Int), .int .u64 (x.fin : Int)] 32) = w2 at *
  have x0 := hx2.cell 0
  have x1 := hx2.cell 1
  have x2 := hx2.cell 2
  have x3 := hx2.cell 3
  have y0 := hz2.cell 0
  have y1 := hz2.cell 1
  have y2 := hz2.cell 2
  have y3 := hz2.cell 3
  simp only [List.getElem?_toArray, List.getElem?_cons_zero, List.getElem?_cons_succ] at x0 x1 x2 x3 y0 y1 y2 y3
  have z0 := hz2.free 0
  have z1 := hz2.free 1
  have z2 := hz2.free 2
  have z3 := hz2.free 3
  have hT := ((((hz2.put 0 (.string (str x.key))).put 1 (.string (str x.val))).put 2 (.int .u64 (x.ver : Int))).put 3 (.int .u64 (x.fin : Int)))
  simp only [List.setIfInBounds_toArray, List.set_cons_zero, List.set_cons_succ] at hT
  have hB2 := (((hb2.setCell (p := ⟨w.heap.size, 0, none⟩) (Nat.le_refl _) (.string (str x.key))).setCell (p := ⟨w.heap.size, 1, none⟩) (Nat.le_refl _) (.string (str x.val))).setCell (p := ⟨w.heap.size, 2, none⟩) (Nat.le_refl _) (.int .u64 (x.ver : Int))).setCell (p := ⟨w.heap.size, 3, none⟩) (Nat.le_refl _) (.int .u64 (x.fin : Int))
  have HT := Lib.hid hT
  have HB := Lib.hid hB2
  clear hT hB2 hb2 hz2 hx2 hz hb hlook h
  go_wp2_with fail
  refine bodyPost_ret (results_row_tmp rfl _ _ w.heap.size rfl (run_loadVar_row _ _ _ _ _ _ _ HT.out Try.underlying32 rfl (by kernel_rfl))) rfl ⟨rfl, HB.out⟩
theorem get_c (k : List UInt8) (hk : k.length ≤ 64) (_ : m.length ≤ 100000) (h : HeldT w0 w P b m) : Calls Try.prog 22 #[tp b, .string (str k)] w fun e w' => e = .returned (.tuple #[.agg ((find k m).getD En.none).cs, .bool (find k m).isSome]) ∧ Below w.heap.size w w' :=
  let ⟨_, hT, _⟩ := h; get_t k hk w hT
set_option maxHeartbeats 1000000 in
theorem len_c (_ : m.length ≤ 100000) (h : HeldT w0 w P b m) : Calls Try.prog 25 #[tp b] w fun e w' => e = .returned (.int .i64 (m.length : Int)) ∧ Below w.heap.size w w' := by
  obtain ⟨M, h, -⟩ := h
  have c0 : w.cell? ⟨b, 0, none⟩ = some (.map (some M)) := h.hd.cell 0
  obtain ⟨D, hD⟩ := h.mp
  have hlen := hD.len
  clear hD h
  go_enter Try.func25, Try.ntmps25
  go_wp2_with fail
  go_ret
  exact ⟨rfl, Below.refl _ w⟩
set_option maxHeartbeats 1000000 in
theorem bytes_c (_ : m.length ≤ 100000) (h : HeldT w0 w P b m) : Calls Try.prog 26 #[tp b] w fun e w' => e = .returned (.int .i64 (size m : Int)) ∧ Below w.heap.size w w' := by
  obtain ⟨M, h, -⟩ := h
  have c0 : w.cell? ⟨b, 1, none⟩ = some (.int .i64 (size m : Int)) := h.hd.cell 1
  generalize size m = n at *
  go_enter Try.func26, Try.ntmps26
  go_wp2_with fail
  go_ret
  exact ⟨rfl, Below.refl _ w⟩
end
set_option maxHeartbeats 1000000 in
theorem size_c {x : En} (hx : x.Ok) (w : World) : Calls Try.prog 33 #[.agg x.cs] w fun e w' => e = .returned (.int .i64 ((x.key.length + x.val.length : Nat) : Int)) ∧ Below w.heap.size w w' := by
  have h1 := hx.key
  have h2 := hx.val
  have s1 := str_size x.key
  have s2 := str_size x.val
  have hb := (Below.refl _ w).alloc (Nat.le_refl _) (.cells #[.string (str x.key), .string (str x.val), .int .u64 (x.ver : Int), .int .u64 (x.fin : Int)] 32)
  have hx2 := Blk.new w 32 #[.string (str x.key), .string (str x.val), .int .u64 (x.ver : Int), .int .u64 (x.fin : Int)]
  obtain ⟨xk, xv, xr, xf⟩ := x
  dsimp only at h1 h2 s1 s2 hb hx2
  go_enter Try.func33, Try.ntmps33
  go_wp2_with fail
  go_ret
  refine ⟨?_, hb⟩
  simp
/-! ### No table -/
abbrev nilT : Value := .pointer none
theorem len_nil (w : World) : Calls Try.prog 25 #[nilT] w fun e w' => e = .returned (.int .i64 0) ∧ Below w.heap.size w w' := by
  go_enter Try.func25, Try.ntmps25
  go_wp2_with fail
  go_ret
  exact ⟨rfl, Below.refl _ w⟩
theorem bytes_nil (w : World) : Calls Try.prog 26 #[nilT] w fun e w' => e = .returned (.int .i64 0) ∧ Below w.heap.size w w' := by
  go_enter Try.func26, Try.ntmps26
  go_wp2_with fail
  go_ret
  exact ⟨rfl, Below.refl _ w⟩
theorem export_nil (w : World) : Calls Try.prog 18 #[nilT] w fun e w' => e = .returned (.string ⟨#[]⟩) ∧ Below w.heap.size w w' := by
  go_enter Try.func18, Try.ntmps18
  go_wp2_with fail
  go_ret
  exact ⟨rfl, Below.refl _ w⟩
/-- A slice of texts. -/
def strsV (l : List (List UInt8)) : List Value := l.map fun s => .string (str s)
def St (w : World) (B : Nat) (v : Value) (l : List (List UInt8)) : Prop := w.ownsRow B 9 1 v l.length (strsV l)
theorem keys_nil (w : World) : Calls Try.prog 27 #[nilT] w fun e w' => ∃ v, e = .returned v ∧ St w' w.heap.size v [] ∧ Below w.heap.size w w' := by
  go_enter Try.func27, Try.ntmps27
  go_wp2_with fail
  go_ret
  exact ⟨_, rfl, ⟨rfl, .inl ⟨rfl, rfl⟩⟩, Below.refl _ w⟩
theorem ended_nil (now : Nat) (w : World) : Calls Try.prog 24 #[nilT, .int .u64 (now : Int)] w fun e w' => ∃ v, e = .returned v ∧ St w' w.heap.size v [] ∧ Below w.heap.size w w' := by
  go_enter Try.func24, Try.ntmps24
  go_wp2_with fail
  go_ret
  exact ⟨_, rfl, ⟨rfl, .inl ⟨rfl, rfl⟩⟩, Below.refl _ w⟩
set_option maxHeartbeats 1000000 in
theorem put_nil (x : En) (w : World) : Calls Try.prog 21 #[nilT, .agg x.cs] w fun e w' => e = .returned (.tuple #[]) ∧ Below w.heap.size w w' := by
  have hb := (Below.refl _ w).alloc (Nat.le_refl _) (.cells #[.string (str x.key), .string (str x.val), .int .u64 (x.ver : Int), .int .u64 (x.fin : Int)] 32)
  go_enter Try.func21, Try.ntmps21
  go_wp2_with fail
  refine bodyPost_ret (v := .tuple #[]) (results_none rfl _ _ _) rfl ⟨rfl, hb⟩
set_option maxHeartbeats 1000000 in
set_option maxRecDepth 100000 in
theorem get_nil (k : List UInt8) (w : World) : Calls Try.prog 22 #[nilT, .string (str k)] w fun e w' => e = .returned (.tuple #[.agg En.none.cs, .bool false]) ∧ Below w.heap.size w w' := by
  have hb := (Below.refl _ w).alloc (Nat.le_refl _) (.cells #[.string ⟨#[]⟩, .string ⟨#[]⟩, .int .u64 0, .int .u64 0] 32)
  have hz2 := Blk.new w 32 #[.string ⟨#[]⟩, .string ⟨#[]⟩, .int .u64 0, .int .u64 0]
  go_enter Try.func22, Try.ntmps22
  go_upto_region 2 with (fail)
  generalize w.alloc (.cells #[.string ⟨#[]⟩, .string ⟨#[]⟩, .int .u64 0, .int .u64 0] 32) = w2 at *
  have y0 := hz2.cell 0
  have y1 := hz2.cell 1
  have y2 := hz2.cell 2
  have y3 := hz2.cell 3
  simp only [List.getElem?_toArray, List.getElem?_cons_zero, List.getElem?_cons_succ] at y0 y1 y2 y3
  have z0 := hz2.free 0
  have z1 := hz2.free 1
  have z2 := hz2.free 2
  have z3 := hz2.free 3
  have hT := ((((hz2.put 0 (.string ⟨#[]⟩)).put 1 (.string ⟨#[]⟩)).put 2 (.int .u64 0)).put 3 (.int .u64 0))
  simp only [List.setIfInBounds_toArray, List.set_cons_zero, List.set_cons_succ] at hT
  have hB2 := (((hb.setCell (p := ⟨w.heap.size, 0, none⟩) (Nat.le_refl _) (.string ⟨#[]⟩)).setCell (p := ⟨w.heap.size, 1, none⟩) (Nat.le_refl _) (.string ⟨#[]⟩)).setCell (p := ⟨w.heap.size, 2, none⟩) (Nat.le_refl _) (.int .u64 0)).setCell (p := ⟨w.heap.size, 3, none⟩) (Nat.le_refl _) (.int .u64 0)
  have HT := Lib.hid hT
  have HB := Lib.hid hB2
  clear hT hB2 hz2 hb
  go_wp2_with fail
  refine bodyPost_ret (results_row_tmp rfl _ _ w.heap.size rfl (run_loadVar_row _ _ _ _ _ _ _ HT.out Try.underlying32 rfl (by kernel_rfl))) rfl ⟨rfl, HB.out⟩
theorem drop_nil (k : List UInt8) (w : World) : Calls Try.prog 16 #[nilT, .string (str k)] w fun e w' => e = .returned (.bool false) ∧ Below w.heap.size w w' := by
  go_enter Try.func16, Try.ntmps16
  go_wp2_with fail
  refine (get_nil k w).mono ?_
  rintro e w1 ⟨rfl, hb⟩
  have hb2 := hb.alloc hb.size (.cells #[.string ⟨#[]⟩, .string ⟨#[]⟩, .int .u64 0, .int .u64 0] 32)
  go_wp2_with fail
  go_ret
  exact ⟨rfl, hb2⟩
section
variable {w w' : World} {B : Nat} {v : Value} {l : List (List UInt8)} {a : Option Addr} {n c : Nat}
theorem St.form (h : St w B v l) : ∃ a c, v = .slice a l.length c := by
  rcases h.2 with ⟨rfl, h0⟩ | ⟨g, cap, cur, hv, _⟩
  · exact ⟨none, 0, by rw [h0]⟩
  · exact ⟨_, _, hv⟩
theorem St.stay (h : St w B v l) (hs : ∀ g, v.ownBlock = some g → w'.heap[g]? = w.heap[g]?) : St w' B v l :=
  ⟨h.1, h.2.elim Or.inl fun ⟨g, cap, cur, hv, hg, hb, r⟩ => Or.inr ⟨g, cap, cur, hv, hg, (hs g (by rw [hv]; rfl)).trans hb, r⟩⟩
theorem St.lt (h : St w B v l) : ∀ g, v.ownBlock = some g → B ≤ g ∧ g < w.heap.size := World.ownsRow.lt h
theorem St.below (h : St w B v l) (hb : Below w.heap.size w w') : St w' B v l := h.stay fun g hg => hb.block g (h.lt g hg).2
theorem St.alloc (h : St w B v l) (o : Obj) : St (w.alloc o) B v l := h.stay fun g hg => Below.heap_alloc w o g (h.lt g hg).2
theorem St.low (h : St w B v l) {B' : Nat} (hb : B' ≤ B) : St w B' v l := ⟨h.1, h.2.elim Or.inl fun ⟨g, cap, cur, hv, hg, r⟩ => Or.inr ⟨g, cap, cur, hv, Nat.le_trans hb hg, r⟩⟩
theorem St.at_ (h : St w B (.slice a n c) l) {i : Nat} {x : List UInt8} (hx : l[i]? = some x) : ∃ g, a = some ⟨g, 0, none⟩ ∧ B ≤ g ∧ g < w.heap.size ∧ (∀ W : World, W.heap[g]? = w.heap[g]? → W.cell? ⟨g, i, none⟩ = some (.string (str x))) := by
  have hi : i < l.length := (List.getElem?_eq_some_iff.1 hx).1
  obtain ⟨g, cap, hv, hg, hlt⟩ := World.ownsRow.form h (by omega)
  injection hv with e1 e2 e3
  subst e1 e2 e3
  refine ⟨g, rfl, hg, hlt, fun W hW => ?_⟩
  rw [World.cell?_of_block (a := ⟨g, i, none⟩) hW, World.ownsRow.cellAt h i (by omega)]
  simp [strsV, hx]
theorem St.snoc {g cap : Nat} {x : List UInt8} (h : w.ownsRow B 9 1 (.slice (some ⟨g, 0, none⟩) (l.length + 1) cap) (l.length + 1) (strsV l ++ [.string (str x)])) : St w B (.slice (some ⟨g, 0, none⟩) (l.length + 1) cap) (l ++ [x]) := by
  unfold St
  rw [List.length_append]
  simpa [strsV] using h
theorem St.empty (w : World) (B : Nat) (hB : B ≤ w.heap.size) : St (w.alloc (.cells #[] 9)) B (.slice (some ⟨w.heap.size, 0, none⟩) 0 0) [] :=
  ⟨rfl, .inr ⟨w.heap.size, 0, #[], rfl, hB, heap_alloc_new w _, Nat.le_refl _, Nat.zero_le _, rfl, rfl⟩⟩
end
theorem str_info : (Try.prog.info? 9).map (fun i => (i.zero, i.size, i.bytes)) = some (some (.string ⟨#[]⟩), 1, 16) := by kernel_rfl
end Go.Proofs.Ytdjfdpmfpnbpjaa.Taby
