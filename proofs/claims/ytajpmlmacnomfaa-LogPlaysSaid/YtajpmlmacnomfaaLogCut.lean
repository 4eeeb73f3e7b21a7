/- The program's log: records go, and are told. The only condition: places are not near the end of the numbers. -/
import Derived.Test.YtajpmlmacnomfaaLogAdd
import Derived.Lib.SliceRun
namespace Go.Proofs.Ytajpmlmacnomfaa.Logy
open Go.ChangeShapes Go.WideShapes Go.ChangeAt Go.RowKit
open Wirey (Blk Row str str_size str_list str_cat Kp)
open Regy Slsy
section
variable {w0 w w' : World} {P S : Nat → Prop} {b base most : Nat} {l : List Rc}
/-- slices.Clone of records that are seen. -/
theorem clone_c (p : Addr) (n c : Nat) (m : List Rc) (hn : m.length = n) (hN : n ≤ 1000) (hp : p.block < w.heap.size) (hnews : ∀ j u, (rws Rc.enc m)[j]? = some u → w.cell? (p.add j) = some u) :
    Calls Try.prog 21 #[.slice (some p) n c] w fun e w' => ∃ v, e = .returned v ∧ Ow w' w.heap.size RT Rc.enc 9 v m ∧ Below w.heap.size w w' := by
  obtain ⟨i0, hi0, hz0, hz1, hz2⟩ := rec_parts
  have q : ∀ (w : World) (a : Option Addr) (n c n' c' : Nat), (binOp .eql 28 (.slice a n c) (.slice none n' c')).run Try.prog w = .ok (.bool a.isNone) w := fun w a n c n' c' => Lib.run_eql_slice_nil w _ _ a n c n' c' Try.underlying28
  have A := Lib.hid hnews
  clear hnews
  go_enter Try.func21, Try.ntmps21
  go_wp2_with (at_builtin; refine wpList_append_own _ rfl _ _ 28 rfl w.heap.size 43 i0 zRec 9 88 Try.underlying28 hi0 hz0 hz1 hz2 rfl (by decide) _ _ _ rfl (World.ownsRow_made w #[] 0 (Nat.le_refl _) (Nat.zero_le _) rfl) p n c (rws Rc.enc m) rfl ?qc1 ?qc2 ?qc3 ?qc4 ?qc5 ?qc6 ?_)
  case qc1 => rw [rws_length Rc.len, hn]
  case qc2 =>
    intro j u hj
    have h := A.out j u hj
    rw [← h]
    have e : (p.add j).block = p.block := by unfold Addr.add; split <;> rfl
    exact World.cell?_of_block (Below.heap_alloc w _ _ (by rw [e]; exact hp))
  case qc3 => exact rws_one Rc.one m
  case qc4 => unfold maxLen; omega
  case qc5 => omega
  case qc6 => simp
  intro v' w1 hown hgrow hnil
  go_wp2
  go_ret
  refine ⟨v', rfl, ?_, ?_⟩
  · unfold Ow; rw [hn]; simpa using hown
  · exact ((Below.refl _ w).alloc (Nat.le_refl _) _).grown hgrow (by simp) (by intro k hk; simp [Value.ownBlock] at hk; omega)
theorem clone_nil (n c : Nat) (w : World) : Calls Try.prog 21 #[.slice none n c] w fun e w' => e = .returned (.slice none 0 0) ∧ w = w' := by
  have q : ∀ (w : World) (a : Option Addr) (n c n' c' : Nat), (binOp .eql 28 (.slice a n c) (.slice none n' c')).run Try.prog w = .ok (.bool a.isNone) w := fun w a n c n' c' => Lib.run_eql_slice_nil w _ _ a n c n' c' Try.underlying28
  go_enter Try.func21, Try.ntmps21
  go_wp2
  go_ret
  exact ⟨rfl, rfl⟩
/-- slices.Delete of the first records, at least one. -/
theorem delete_c {B g cap k : Nat} (hk : 1 ≤ k ∧ k ≤ l.length) (hN : l.length ≤ 256) (ho : Ow w B RT Rc.enc 9 (.slice (some ⟨g, 0, none⟩) l.length cap) l) :
    Calls Try.prog 22 #[.slice (some ⟨g, 0, none⟩) l.length cap, .int .i64 0, .int .i64 (k : Int)] w fun e w' => e = .returned (.slice (some ⟨g, 0, none⟩) (l.length - k) cap) ∧ Ow w' B RT Rc.enc 9 (.slice (some ⟨g, 0, none⟩) (l.length - k) cap) (l.drop k) ∧ Kp (fun j => j = g) w w' := by
  obtain ⟨i0, hi0, hz0, hz1, hz2⟩ := rec_parts
  obtain ⟨g', cap', cur, hv, hB, hb, hc, hm, hs, ht⟩ := ho.2.resolve_left (fun h => by cases h.1)
  injection hv with hv1 hv2 hv3
  injection hv1 with hv1
  injection hv1 with hv1
  subst hv1 hv3
  clear hv2
  obtain ⟨news, hnews⟩ : ∃ news, news = rws Rc.enc (l.drop k) := ⟨_, rfl⟩
  have hlen : news.length = (l.length - k) * 9 := by rw [hnews, rws_length Rc.len, List.length_drop]
  obtain ⟨A, hA, hsrc⟩ : ∃ A : Addr, (if cap = k then some (⟨g, 0, none⟩ : Addr) else some ⟨g, k * 9, none⟩) = some A ∧ Hid (∀ t u, news[t]? = some u → w.drew.cell? (A.add t) = some u) := by
    by_cases h : cap = k
    · refine ⟨⟨g, 0, none⟩, by rw [if_pos h], Lib.hid fun t u hu => ?_⟩
      have h0 : news.length = 0 := by rw [hlen]; omega
      rw [List.length_eq_zero_iff.1 h0] at hu
      simp at hu
    · refine ⟨⟨g, k * 9, none⟩, by rw [if_neg h], Lib.hid fun t u hu => ?_⟩
      rw [Addr.add_lit]
      show w.cell? _ = _
      rw [cell_of_row w g _ cur RT (0, 0) hb]
      rw [hnews, rws_drop Rc.len, ← ht, List.getElem?_drop, List.getElem?_take] at hu
      split at hu
      · rw [← hu, Array.getElem?_toList]
      · cases hu
  have s1 := Lib.hid hlen
  have s2 : Hid (∀ u ∈ news, u.oneCell' = true) := Lib.hid (by rw [hnews]; exact rws_one Rc.one _)
  have hcell : ∀ j, j < cap * 9 → (w.cell? ⟨g, j, none⟩).isSome = true ∧ w.frozen? ⟨g, j, none⟩ = false := fun j hj => by
    rw [cell_of_row w g _ cur RT (0, 0) hb]
    exact ⟨by rw [← hs] at hj; simp [hj], Blk.free hb j⟩
  have s3 : Hid (∀ t, t < news.length → (w.drew.cell? ⟨g, 0 + 0 * 9 + t, none⟩).isSome = true ∧ w.drew.frozen? ⟨g, 0 + 0 * 9 + t, none⟩ = false) := Lib.hid fun t h => by
    have := hcell (0 + 0 * 9 + t) (by omega)
    exact this
  obtain ⟨W1, hW1⟩ : ∃ W1, W1 = w.drew.setCells g (0 + 0 * 9) news := ⟨_, rfl⟩
  have hb1 : Blk W1 g RT (over cur 0 news) := by rw [hW1]; exact blk_setCells news _ _ _ hb
  have hk1 : Kp (fun j => j = g) w W1 := by rw [hW1]; exact Kp.trans (b := w.drew) ⟨rfl, rfl, rfl, Nat.le_refl _, fun _ _ _ => rfl⟩ (kp_setCells (S := fun j => j = g) rfl _ _ _)
  have hcl : ∀ ty, (Builtin.clear_ #[28] ty #[.slice (some ⟨g, (l.length - k) * 9, none⟩) (l.length - (l.length - k)) (cap - (l.length - k))]).run Try.prog W1 = .ok (.tuple #[]) (W1.setCells g ((l.length - k) * 9) (Builtin.zeroCells zRec.cells (l.length - (l.length - k))).toList) := fun ty =>
    run_clear_rows W1 _ 43 ty zRec 9 Try.underlying28 rec_zero rfl (zeros_one _) g ((l.length - k) * 9) _ (by omega)
      (fun j hj => by rw [hb1.cell, over_get _ _ _ _ (by rw [hs]; omega)]; split <;> simp_all <;> omega) (fun j hj => hb1.free _)
  have HW := Lib.hid hW1
  have HN := Lib.hid hnews
  have hb2 := blk_setCells (Builtin.zeroCells zRec.cells (l.length - (l.length - k))).toList ((l.length - k) * 9) _ _ hb1
  have hk2 := hk1.trans (kp_setCells (S := fun j => j = g) rfl (Builtin.zeroCells zRec.cells (l.length - (l.length - k))).toList ((l.length - k) * 9) W1)
  clear hW1 hnews hlen hcell ho hb ht hb1 hk1
  go_enter Try.func22, Try.ntmps22
  go_wp2_with fail
  go_region_law (refine step_append_room rfl (.tmp 22) (.tmp 25) 28 rfl 43 i0 9 Try.underlying28 hi0 hz1 g 0 0 cap (by simp [Act.eval, Act.put]) A (l.length - k) (cap - k) news (by simp [Act.eval, Act.put]) s1.out hsrc.out s2.out (by omega) s3.out ?_; rw [← HW.out])
  go_wp2_with fail
  go_ret
  rw [HN.out] at hb2
  exact ⟨rfl, gone hB hb2 rfl hk.2 hc hm hs, hk2⟩
end
end Go.Proofs.Ytajpmlmacnomfaa.Logy
