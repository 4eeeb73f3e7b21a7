/- Layer 15: one of an array of builders: a text is written to a fresh one, the string is taken of one that was written or never was. No condition but that the text has fewer than 2^40 bytes, at least one. -/
import Derived.Test.YteopkdmlcjndcaaDoorBuckOf
import Derived.Test.YteopkdmlcjndcaaDoorBuild
import Derived.Test.YteopkdmlcjndcaaDoorKp
namespace Go.Proofs.YteopkdmlcjndcaaDoor.Bucky
open Go.ChangeShapes Go.WideShapes Go.ChangeAt Go.RowKit
open Wirey Regy
open Snapy (Ks)

abbrev BT : TypeId := 40
theorem lies5 : liesAt Tryd.prog Tryd.prog.depth BT (32 / Tryd.prog.cellsOf BT) 10 39 1 = true := by kernel_rfl
theorem freeze_far (u : World) (q n k : Nat) (h : k ≠ q) : (u.freeze ⟨q, 0, none⟩ n).heap[k]? = u.heap[k]? := by
  unfold World.freeze
  split
  · rfl
  · simp [Array.getElem?_modify, Ne.symm h]
section
variable {w : World} {g : Nat} {cs : Array Value}
set_option maxHeartbeats 1000000 in
set_option maxRecDepth 100000 in
theorem check5 (h0 : w.cell? ⟨g, 10, none⟩ = some (.pointer none)) (hsh : w.shape? g = some (BT, 32)) (hfz : w.frozen? ⟨g, 10, none⟩ = false) :
    Calls Tryd.prog 27 #[.pointer (some ⟨g, 10, none⟩)] w fun e w' => e = .returned (.tuple #[]) ∧ w' = w.setCell ⟨g, 10, none⟩ (.pointer (some ⟨g, 10, none⟩)) := by
  obtain ⟨j, hj, hjs⟩ := Option.map_eq_some_iff.1 bld_size
  go_enter Tryd.func27, Tryd.ntmps27
  go_wp2
  rw [Lib.run_to_unsafe w ⟨g, 10, none⟩ Tryd.underlying36 Tryd.underlying67 hj (by rw [hjs]; decide) hsh (show 10 < 32 by decide)]
  simp only [Result.andThen]
  rw [Oper.upon_value]
  go_wp2
  rw [run_callFunc_extern Tryd.func38 (by kernel_rfl) (by kernel_rfl) (by kernel_rfl) (e := Extern.AbiNoEscape.same) (by kernel_rfl)]
  rw [Lib.run_noEscape]
  simp only [Result.andThen]
  rw [Oper.upon_value]
  go_wp2
  rw [Lib.run_from_unsafe w ⟨g, 10, none⟩ Tryd.underlying67 Tryd.underlying36 hj hsh lies5]
  simp only [Result.andThen]
  rw [Oper.upon_value]
  go_wp2
  go_end0
  exact ⟨rfl, rfl⟩
set_option maxHeartbeats 2000000 in
set_option maxRecDepth 100000 in
theorem write5 (s : Bs) (hs : s.length < 1099511627776) (hX : Blk w g BT cs) (hl : cs.size = 32) (hc0 : cs[10]? = some (.pointer none)) (hc1 : cs[11]? = some (.slice none 0 0)) :
    Calls Tryd.prog 15 #[.pointer (some ⟨g, 10, none⟩), .string (str s)] w fun e w' => e = .returned (.tuple #[.int .i64 (s.length : Int), .nilIface]) ∧ (∃ v, Blk w' g BT ((cs.setIfInBounds 10 (.pointer (some ⟨g, 10, none⟩))).setIfInBounds 11 v) ∧ w'.ownsRow w.heap.size 5 1 v s.length (Lib.byteCells s)) ∧ Ks (fun k => k = g) w w' := by
  obtain ⟨i0, hi, hz0, hz1, hz2⟩ := info_parts bld_byte
  have hsz := str_size s
  have hlt0 := hX.lt
  have hch := check5 (w := w) (g := g) ((hX.cell 10).trans hc0) (by unfold Blk at hX; simp [World.shape?, hX, hl]) (hX.free 10)
  have hX1 := hX.put 10 (.pointer (some ⟨g, 10, none⟩))
  have hk1 : Ks (fun k => k = g) w (w.setCell ⟨g, 10, none⟩ (.pointer (some ⟨g, 10, none⟩))) := (Ks.refl _ w).set1 10 _
  have hs1 : (w.setCell ⟨g, 10, none⟩ (.pointer (some ⟨g, 10, none⟩))).heap.size = w.heap.size := by simp [World.setCell]
  have d1 := hX1.cell 11
  rw [Array.getElem?_setIfInBounds_ne (by decide), hc1] at d1
  have hown : (w.setCell ⟨g, 10, none⟩ (.pointer (some ⟨g, 10, none⟩))).ownsRow w.heap.size 5 1 (.slice none 0 0) (Lib.byteCells []).length (Lib.byteCells []) := World.ownsRow_nil _ _ _ _
  clear hX hc0 hc1
  go_enter Tryd.func15, Tryd.ntmps15
  go_wp2_with (go_at_call 27; refine hch.mono ?_)
  rintro e w1 ⟨rfl, rfl⟩
  clear hch
  generalize w.setCell ⟨g, 10, none⟩ (.pointer (some ⟨g, 10, none⟩)) = w1 at *
  go_wp2_with (at_builtin; refine Lib.wpList_append_own_string _ rfl _ _ 37 9 rfl w.heap.size 5 i0 Tryd.underlying37 Tryd.underlying9 hi hz0 hz1 hz2 _ _ _ rfl hown (str s) rfl ?c3 ?c4 ?c5 ?_)
  case c3 => rw [hsz]; simp [Lib.byteCells]; unfold maxLen; omega
  case c4 => rw [hsz]; simp [Lib.byteCells]; omega
  case c5 => omega
  intro v' w2 hown' hgrow _
  have hX2 : Blk w2 g BT _ := hX1.grown hgrow (by simp [Value.ownBlock])
  have d1' := (hX2.cell 11)
  have f1 := hX2.free 11
  rw [Array.getElem?_setIfInBounds_ne (by decide)] at d1'
  have d1'' : w2.cell? ⟨g, 11, none⟩ = some (.slice none 0 0) := by
    rw [hX2.cell 11, ← hX1.cell 11]; exact d1
  clear d1'
  obtain ⟨ao, n', cap, rfl⟩ : ∃ ao n' cap, v' = .slice ao n' cap := by
    rcases hown'.2 with ⟨hv, _⟩ | ⟨g, cap, cur, hv, _⟩
    · exact ⟨_, _, _, hv⟩
    · exact ⟨_, _, _, hv⟩
  go_wp2
  go_ret2
  have hfar : ∀ q, (Value.slice ao n' cap).ownBlock = some q → q ≠ g := fun q hq e => by have := (hown'.lt q hq).1; omega
  refine ⟨rfl, ⟨_, hX2.put 11 _, ?_⟩, ?_⟩
  · have := hown'.kept (w' := w2.setCell ⟨g, 11, none⟩ (.slice ao n' cap)) (row := some g) ⟨rfl, rfl, rfl, by simp [World.setCell], fun k _ hk => Below.heap_setCell _ _ _ _ (fun e => hk (by simp [e]))⟩ (by
      rcases hq : (Value.slice ao n' cap).ownBlock with _ | q
      · exact Or.inl rfl
      · exact Or.inr (fun e => hfar q hq (Option.some.inj e)))
    simpa [Lib.byteCells, Lib.strCells_eq, str] using this
  · exact (hk1.trans ⟨hgrow.os, hgrow.tape, hgrow.output, hgrow.size, fun k hk _ => hgrow.block k hk (by simp [Value.ownBlock])⟩).set1 11 _
set_option maxHeartbeats 2000000 in
set_option maxRecDepth 100000 in
theorem take5 (s : Bs) (h0 : s ≠ []) (o : Nat) (B : Nat) (v : Value) (hc : w.cell? ⟨g, o + 1, none⟩ = some v) (hown : w.ownsRow B 5 1 v s.length (Lib.byteCells s)) :
    Calls Tryd.prog 18 #[.pointer (some ⟨g, o, none⟩)] w fun e w' => e = .returned (.string (str s)) ∧ Below B w w' ∧ w.heap.size ≤ w'.heap.size ∧ (∀ k, some k ≠ v.ownBlock → w'.heap[k]? = w.heap[k]?) := by
  have hl0 : s.length ≠ 0 := by simpa using h0
  obtain ⟨q, cap, cur, rfl, hbg, hg, hnc, hcm, hcs, htake⟩ : ∃ q cap cur, v = .slice (some ⟨q, 0, none⟩) s.length cap ∧ B ≤ q ∧ w.heap[q]? = some (.cells cur 5 (0, 0)) ∧ s.length ≤ cap ∧ cap ≤ maxLen ∧ cur.size = cap * 1 ∧ cur.toList.take (s.length * 1) = Lib.byteCells s := by
    rcases hown.2 with ⟨_, hz⟩ | ⟨q, cap, cur, hv, r⟩
    · exact absurd hz hl0
    · exact ⟨q, cap, cur, hv, r⟩
  have c1 : w.drew.cell? ⟨g, o + 1, none⟩ = some (.slice (some ⟨q, 0, none⟩) s.length cap) := hc
  have hSD : (Builtin.unsafeSliceData_ #[37] 63 #[.slice (some ⟨q, 0, none⟩) s.length cap]).run Tryd.prog w.drew = .ok (.pointer (some ⟨q, 0, none⟩)) w.drew :=
    Lib.run_unsafeSliceData_row _ _ _ _ _ _ (by omega)
  have hUS : (Builtin.unsafeString_ #[63, 3] 9 #[.pointer (some ⟨q, 0, none⟩), .int .i64 s.length]).run Tryd.prog w.drew = .ok (.string (str s)) (w.drew.freeze ⟨q, 0, none⟩ s.length) := by
    refine Lib.run_unsafeString_row w.drew 63 3 9 5 Tryd.underlying63 bld_cells q cur.size (by have hg' : w.drew.heap[q]? = some (.cells cur 5 (0, 0)) := hg; simp [World.shape?, hg']) s h0 (by omega) (by unfold maxLen at hcm; omega) ?_
    intro j x hx
    exact hown.cells (g := q) rfl j (.int .u8 x.toNat) (by simp [Lib.byteCells, hx])
  have hcm2 : s.length ≤ 9223372036854775807 := by unfold maxLen at hcm; omega
  clear hcs htake hcm hc
  have hend : Below B w (w.drew.freeze ⟨q, 0, none⟩ s.length) ∧ w.heap.size ≤ (w.drew.freeze ⟨q, 0, none⟩ s.length).heap.size ∧ (∀ k, some k ≠ (Value.slice (some ⟨q, 0, none⟩) s.length cap).ownBlock → (w.drew.freeze ⟨q, 0, none⟩ s.length).heap[k]? = w.heap[k]?) :=
    ⟨Lib.below_freeze (Below.drew (Below.refl B w)) (p := ⟨q, 0, none⟩) hbg _, (Lib.below_freeze (Below.drew (Below.refl B w)) (p := ⟨q, 0, none⟩) hbg _).size, fun k hk => by
      have hkq : k ≠ q := fun e => hk (by subst e; rfl)
      exact freeze_far w.drew q _ k hkq⟩
  have HE := Lib.hid hend
  clear hend
  go_enter Tryd.func18, Tryd.ntmps18
  go_wp2
  go_region
  all_goals (go_wp2; go_ret; exact ⟨rfl, HE.out⟩)
set_option maxHeartbeats 2000000 in
set_option maxRecDepth 100000 in
theorem take0 (o : Nat) (hc : w.cell? ⟨g, o + 1, none⟩ = some (.slice none 0 0)) :
    Calls Tryd.prog 18 #[.pointer (some ⟨g, o, none⟩)] w fun e w' => e = .returned (.string (str [])) ∧ Below w.heap.size w w' := by
  have c1 : w.drew.cell? ⟨g, o + 1, none⟩ = some (.slice none 0 0) := hc
  have hSD : (Builtin.unsafeSliceData_ #[37] 63 #[.slice none 0 0]).run Tryd.prog w.drew = .ok (.pointer none) w.drew := Lib.run_unsafeSliceData_nil _ _ _ _ _
  have hUS : (Builtin.unsafeString_ #[63, 3] 9 #[.pointer none, .int .i64 0]).run Tryd.prog w.drew = .ok (.string (str [])) w.drew := Lib.run_unsafeString_none _ _ _ _ _
  clear hc
  go_enter Tryd.func18, Tryd.ntmps18
  go_wp2
  go_region
  all_goals (go_wp2; go_ret; exact ⟨rfl, Below.drew (Below.refl _ w)⟩)
end
end Go.Proofs.YteopkdmlcjndcaaDoor.Bucky
