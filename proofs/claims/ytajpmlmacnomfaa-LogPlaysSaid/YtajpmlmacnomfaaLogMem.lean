/- The program's log in memory: what it is made of, cells that are written one behind the other, records that go. No condition. -/
import Derived.Test.YtajpmlmacnomfaaLogMath
import Derived.Test.YtajpmlmacnomfaaWireFly
import Derived.Lib.SliceRun
import Derived.Laws.IdiomCopy
namespace Go.Proofs.Ytajpmlmacnomfaa.Logy
open Go.ChangeShapes Go.WideShapes Go.ChangeAt Go.RowKit
open Wirey (Blk Row str Kp)
open Slsy
abbrev RT : TypeId := 43
abbrev LT : TypeId := 53
abbrev lp (b : Nat) : Value := .pointer (some ⟨b, 0, none⟩)
abbrev nilL : Value := .pointer none
/-- Cells written over others, from a place on. -/
def over (cs : Array Value) : Nat → List Value → Array Value
  | _, [] => cs
  | o, v :: r => over (cs.setIfInBounds o v) (o + 1) r
theorem over_size : ∀ (vs : List Value) (o : Nat) (cs : Array Value), (over cs o vs).size = cs.size
  | [], _, _ => rfl
  | v :: r, o, cs => by rw [over, over_size r]; simp
theorem over_get : ∀ (vs : List Value) (o : Nat) (cs : Array Value) (j : Nat), j < cs.size → (over cs o vs)[j]? = if o ≤ j ∧ j < o + vs.length then vs[j - o]? else cs[j]?
  | [], o, cs, j, _ => by
    have h1 : ¬ (o ≤ j ∧ j < o + ([] : List Value).length) := by simp only [List.length_nil]; omega
    rw [over, if_neg h1]
  | v :: r, o, cs, j, hj => by
    rw [over, over_get r (o + 1) _ j (by simpa using hj), List.length_cons]
    by_cases e : j = o
    · subst e
      have h1 : ¬ (j + 1 ≤ j ∧ j < j + 1 + r.length) := by omega
      have h2 : j ≤ j ∧ j < j + (r.length + 1) := by omega
      rw [if_neg h1, if_pos h2, Nat.sub_self, List.getElem?_cons_zero]
      simp [hj]
    · have h0 : (cs.setIfInBounds o v)[j]? = cs[j]? := by
        rw [Array.getElem?_setIfInBounds]
        rw [if_neg (fun h => e h.symm)]
      rw [h0]
      by_cases h1 : o + 1 ≤ j ∧ j < o + 1 + r.length
      · have h2 : o ≤ j ∧ j < o + (r.length + 1) := by omega
        rw [if_pos h1, if_pos h2, show j - o = (j - (o + 1)) + 1 by omega, List.getElem?_cons_succ]
      · have h2 : ¬ (o ≤ j ∧ j < o + (r.length + 1)) := by omega
        rw [if_neg h1, if_neg h2]
theorem blk_setCells {g : Nat} {t : TypeId} : ∀ (vs : List Value) (o : Nat) (w : World) (cs : Array Value), Blk w g t cs → Blk (w.setCells g o vs) g t (over cs o vs)
  | [], _, _, _, h => h
  | v :: r, o, w, cs, h => by rw [over]; exact blk_setCells r (o + 1) _ _ (h.put o v)
theorem kp_setCells {S : Nat → Prop} {g : Nat} (hg : S g) : ∀ (vs : List Value) (o : Nat) (w : World), Kp S w (w.setCells g o vs)
  | [], _, w => Kp.refl S w
  | v :: r, o, w => ((Kp.refl S w).set (p := ⟨g, o, none⟩) hg v).trans (kp_setCells hg r (o + 1) _)
theorem run_clear_rows {P : Program} {n : Nat} (w : World) (t e ty : TypeId) (z : Value) (size : Nat) (ht : P.underlying t = some (.slice e)) (hv : ∀ w, (zeroValue e).run P w = .ok z w) (hz : z.cells.size = size) (h1 : ∀ u ∈ (Builtin.zeroCells z.cells n).toList, u.oneCell' = true) (b o c : Nat) (hn : 0 < n)
    (hc : ∀ j, j < n * size → (w.cell? ⟨b, o + j, none⟩).isSome = true) (hf : ∀ j, j < n * size → w.frozen? ⟨b, o + j, none⟩ = false) :
    (Builtin.clear_ #[t] ty #[.slice (some ⟨b, o, none⟩) n c]).run P w = .ok (.tuple #[]) (w.setCells b o (Builtin.zeroCells z.cells n).toList) := by
  have hlen : (Builtin.zeroCells z.cells n).toList.length = n * size := by rw [← hz]; simp [Builtin.zeroCells]
  have hst := run_storeCells_cells (P := P) b o (Builtin.zeroCells z.cells n).toList 0 w (by rw [hlen]; simpa using hc) (by rw [hlen]; simpa using hf) h1
  simp only [Nat.add_zero] at hst
  obtain ⟨m, rfl⟩ : ∃ m, n = m + 1 := ⟨n - 1, by omega⟩
  simp [Builtin.clear_, run_underlying ht, hv, hst]
theorem rec_info : (Try.prog.info? 43).map (fun i => (i.zero, i.size, i.bytes)) = some (some (.agg #[.int .u64 0, .int .u64 0, .int .u64 0, .int .u64 0, .int .i64 0, .string ⟨#[]⟩, .string ⟨#[]⟩, .int .u64 0, .int .u64 0]), 9, 88) := by kernel_rfl
abbrev zRec : Value := .agg #[.int .u64 0, .int .u64 0, .int .u64 0, .int .u64 0, .int .i64 0, .string ⟨#[]⟩, .string ⟨#[]⟩, .int .u64 0, .int .u64 0]
theorem rec_parts : ∃ i0, Try.prog.info? 43 = some i0 ∧ i0.zero = some zRec ∧ i0.size = 9 ∧ i0.bytes = 88 := info_parts rec_info
theorem rec_zero (w : World) : (zeroValue 43).run Try.prog w = .ok zRec w := by kernel_rfl
theorem zeros_one (n : Nat) : ∀ u ∈ (Builtin.zeroCells zRec.cells n).toList, u.oneCell' = true := by
  intro u hu
  simp only [Builtin.zeroCells, Array.toList_map, List.mem_map] at hu
  obtain ⟨i, -, rfl⟩ := hu
  have hsz : zRec.cells.size = 9 := by rfl
  rw [hsz]
  have h9 : i % 9 < 9 := Nat.mod_lt _ (by omega)
  generalize i % 9 = j at h9
  match j, h9 with
  | 0, _ => rfl
  | 1, _ => rfl
  | 2, _ => rfl
  | 3, _ => rfl
  | 4, _ => rfl
  | 5, _ => rfl
  | 6, _ => rfl
  | 7, _ => rfl
  | 8, _ => rfl
theorem rws_drop {α : Type} {enc : α → List Value} {N : Nat} (hN : ∀ x, (enc x).length = N) : ∀ (k : Nat) (l : List α), rws enc (l.drop k) = (rws enc l).drop (k * N)
  | 0, l => by simp
  | k + 1, [] => by simp [rws]
  | k + 1, x :: l => by
    rw [List.drop_succ_cons, rws_drop hN k l, rws, Nat.add_mul, Nat.one_mul, Nat.add_comm (k * N) N, ← hN x, ← List.drop_drop, List.drop_left]
theorem rws_take {α : Type} {enc : α → List Value} {N : Nat} (hN : ∀ x, (enc x).length = N) : ∀ (k : Nat) (l : List α), rws enc (l.take k) = (rws enc l).take (k * N)
  | 0, l => by simp [rws]
  | k + 1, [] => by simp [rws]
  | k + 1, x :: l => by
    rw [List.take_succ_cons, rws, rws_take hN k l, rws, Nat.add_mul, Nat.one_mul, Nat.add_comm (k * N) N, ← hN x, List.take_length_add_append]
/-- Records of which the first ones went, in the same block. -/
theorem gone {W : World} {B g cap : Nat} {cur zs : Array Value} {l : List Rc} {k n : Nat} (hB : B ≤ g) (hb : Blk W g RT (over (over cur 0 (rws Rc.enc (l.drop k))) (n * 9) zs.toList)) (hn : n = l.length - k) (hk : k ≤ l.length) (hc : l.length ≤ cap) (hm : cap ≤ maxLen) (hs : cur.size = cap * 9) :
    Ow W B RT Rc.enc 9 (.slice (some ⟨g, 0, none⟩) n cap) (l.drop k) := by
  have hl : (rws Rc.enc (l.drop k)).length = n * 9 := by rw [rws_length Rc.len, List.length_drop, hn]
  have hn2 : (l.drop k).length = n := by rw [List.length_drop, hn]
  refine ⟨by rw [rws_length Rc.len], .inr ⟨g, cap, _, by rw [hn2], hB, hb, by omega, hm, by rw [over_size, over_size, hs], ?_⟩⟩
  rw [hn2]
  apply List.ext_getElem?
  intro j
  rw [List.getElem?_take]
  by_cases hj : j < n * 9
  · rw [if_pos hj, Array.getElem?_toList]
    have hjs : j < cur.size := by rw [hs]; omega
    rw [over_get _ _ _ _ (by rw [over_size]; exact hjs), if_neg (by omega), over_get _ _ _ _ hjs, hl, if_pos (by omega), Nat.sub_zero]
  · rw [if_neg hj, List.getElem?_eq_none (by rw [hl]; omega)]
/-- The program's log: its box b, its records in a block of their own, if there are any. -/
def HeldL (w0 w : World) (P : Nat → Prop) (b base most : Nat) (l : List Rc) : Prop :=
  ∃ v, w0.heap.size ≤ b ∧ Blk w b LT #[.int .u64 (base : Int), .int .i64 (most : Int), v] ∧ Ow w w0.heap.size RT Rc.enc 9 v l ∧ l.length ≤ most ∧ (1 ≤ most ∧ most ≤ 256) ∧ (∀ k, P k ↔ k = b ∨ v.ownBlock = some k)
/-- What was the log's may turn, and new blocks may be the log's; nothing else turns. -/
structure Mv (P P' : Nat → Prop) (w w' : World) : Prop where
  kp : Kp P w w'
  new : ∀ k, P' k → P k ∨ w.heap.size ≤ k
theorem Mv.then_ {P P' P'' : Nat → Prop} {w w' w'' : World} (h1 : Mv P P' w w') (h2 : Mv P' P'' w' w'') : Mv P P'' w w'' :=
  ⟨⟨h2.kp.os.trans h1.kp.os, h2.kp.tape.trans h1.kp.tape, h2.kp.output.trans h1.kp.output, Nat.le_trans h1.kp.size h2.kp.size, fun k hk hS => (h2.kp.block k (Nat.lt_of_lt_of_le hk h1.kp.size) fun hp => (h1.new k hp).elim hS fun h => by omega).trans (h1.kp.block k hk hS)⟩,
    fun k hk => (h2.new k hk).elim (h1.new k) fun h => .inr (Nat.le_trans h1.kp.size h)⟩
theorem Mv.old {P P' : Nat → Prop} {w w1 w' : World} (hb : Below w.heap.size w w1) (h : Mv P P' w1 w') : Mv P P' w w' :=
  ⟨(Kp.of_below hb).trans h.kp, fun k hk => (h.new k hk).imp id fun h1 => Nat.le_trans hb.size h1⟩
theorem Mv.stay {P : Nat → Prop} {w w1 : World} (hb : Below w.heap.size w w1) : Mv P P w w1 := ⟨Kp.of_below hb, fun _ h => .inl h⟩
section
variable {w0 w w' : World} {P S : Nat → Prop} {b base most : Nat} {l : List Rc}
theorem HeldL.low (h : HeldL w0 w P b base most l) : ∀ k, P k → w0.heap.size ≤ k ∧ k < w.heap.size := by
  obtain ⟨v, hb, hd, ho, -, -, hP⟩ := h
  intro k hk
  rcases (hP k).1 hk with rfl | hk
  · exact ⟨hb, hd.lt⟩
  · exact ho.lt k hk
theorem HeldL.kp (h : HeldL w0 w P b base most l) (hk : Kp S w w') (hs : ∀ k, P k → ¬ S k) : HeldL w0 w' P b base most l := by
  obtain ⟨v, hb, hd, ho, hl, hm, hP⟩ := h
  exact ⟨v, hb, hk.blk hd (hs b ((hP b).2 (.inl rfl))), ho.stay fun g hg => hk.block g (ho.lt g hg).2 (hs g ((hP g).2 (.inr hg))), hl, hm, hP⟩
theorem HeldL.since (h : HeldL w0 w P b base most l) {w1 : World} (hs : w1.heap.size ≤ w0.heap.size) : HeldL w1 w P b base most l := by
  obtain ⟨v, hb, hd, ho, hl, hm, hP⟩ := h
  exact ⟨v, Nat.le_trans hs hb, hd, ho.low hs, hl, hm, hP⟩
theorem HeldL.le (h : HeldL w0 w P b base most l) : l.length ≤ most ∧ 1 ≤ most ∧ most ≤ 256 := by
  obtain ⟨v, hb, hd, ho, hl, hm, hP⟩ := h
  exact ⟨hl, hm⟩
theorem HeldL.below (h : HeldL w0 w P b base most l) (hb : Below w.heap.size w w') : HeldL w0 w' P b base most l :=
  h.kp (S := fun _ => False) ⟨hb.os, hb.tape, hb.output, hb.size, fun k hk _ => hb.block k hk⟩ (fun _ _ h => h)
/-- From one world of the law to the next: what was there when it began stands. -/
theorem Mv.below {P P' : Nat → Prop} {w0 w w' : World} (h : Mv P P' w w') (hb : Below w0.heap.size w0 w) (hl : ∀ k, P k → w0.heap.size ≤ k) : Below w0.heap.size w0 w' :=
  ⟨h.kp.os.trans hb.os, h.kp.tape.trans hb.tape, h.kp.output.trans hb.output, Nat.le_trans hb.size h.kp.size, fun k hk => (h.kp.block k (Nat.lt_of_lt_of_le hk hb.size) (fun hp => by have := hl k hp; omega)).trans (hb.block k hk)⟩
end
end Go.Proofs.Ytajpmlmacnomfaa.Logy
