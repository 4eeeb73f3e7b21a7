/- A slice of texts in a box beside lists, which stays as it is while they turn; keys held against it. No condition. -/
import Derived.Test.YtncgfnocokippaaRingHeld
namespace Go.Proofs.Ytncgfnocokippaa.Ringy
open Go.ChangeShapes Go.WideShapes Go.ChangeAt Go.RowKit
open Wirey (Blk Row str str_size str_list Kp)
open Go.ChangeMaps Go.Maps

theorem own_mono {w : World} {base base' : Nat} {e : TypeId} {size : Nat} {v : Value} {n : Nat} {xs : List Value} (h : w.ownsRow base e size v n xs) (hb : base' ≤ base) : w.ownsRow base' e size v n xs := by
  rcases h with ⟨h1, h2 | ⟨g, cap, cur, hv, hg, h3⟩⟩
  · exact ⟨h1, .inl h2⟩
  · exact ⟨h1, .inr ⟨g, cap, cur, hv, Nat.le_trans hb hg, h3⟩⟩
structure Aside (w : World) (m : Rm) (n₀ B : Nat) (v : Value) (l : List Key) : Prop where
  lo : n₀ ≤ B
  box : Blk w B 34 #[v]
  row : w.ownsRow n₀ 9 1 v l.length (strsV l)
  noB : ¬ m.own B
  noR : ∀ g, v.ownBlock = some g → ¬ m.own g
section
variable {w w' : World} {m m' : Rm} {n₀ B : Nat} {v : Value} {l : List Key}
theorem Aside.step (h : Aside w m n₀ B v l) (hS : Step w m w' m') : Aside w' m' n₀ B v l :=
  ⟨h.lo, (hS.kp.block B h.box.lt h.noB).trans h.box, ownsRow_stay h.row fun b hb => hS.kp.block b (h.row.lt b hb).2 (h.noR b hb),
    fun ho => by rcases hS.own B ho with h1 | h1; exact h.noB h1; have := h.box.lt; omega,
    fun g hg ho => by rcases hS.own g ho with h1 | h1; exact h.noR g hg h1; have := (h.row.lt g hg).2; omega⟩
theorem Aside.later (h : Aside w m n₀ B v l) {C : Nat} (hb : Below C w w') (hC : w.heap.size ≤ C) : Aside w' m n₀ B v l :=
  ⟨h.lo, h.box.below hb (Nat.lt_of_lt_of_le h.box.lt hC), ownsRow_stay h.row fun b hb2 => hb.block b (Nat.lt_of_lt_of_le (h.row.lt b hb2).2 hC), h.noB, h.noR⟩
theorem Aside.kp (h : Aside w m n₀ B v l) {O : Nat → Prop} (hk : Kp O w w') (hB : ¬ O B) (hR : ∀ g, v.ownBlock = some g → ¬ O g) : Aside w' m n₀ B v l :=
  ⟨h.lo, hk.blk h.box hB, ownsRow_stay h.row fun b hb => hk.block b (h.row.lt b hb).2 (hR b hb), h.noB, h.noR⟩
theorem Aside.at_ (h : Aside w m n₀ B v l) {i : Nat} (hi : i < l.length) : ∃ g c, v = .slice (some ⟨g, 0, none⟩) l.length c ∧ w.cell? ⟨g, i, none⟩ = some (.string (str (l[i]?.getD []))) := by
  obtain ⟨g, c, hv, -, -⟩ := h.row.form (by omega)
  have hr := h.row
  rw [hv] at hr
  refine ⟨g, c, hv, ?_⟩
  rw [hr.cellAt i (by omega)]
  exact strsV_at hi
end

/-! Keys held against a list, one behind the other -/
def okF (l pre : List Key) : Bool := decide (pre = l.take pre.length)
theorem okF_nil (l : List Key) : okF l [] = true := by simp [okF]
theorem okF_all (l : List Key) : okF l l = true := by simp [okF]
theorem okF_snoc {l pre : List Key} (h : pre.length < l.length) (x : Key) : okF l (pre ++ [x]) = (okF l pre && decide (l[pre.length]?.getD [] = x)) := by
  unfold okF
  rw [List.length_append, List.length_singleton, take_snoc h]
  by_cases e : pre = l.take pre.length
  · rw [decide_eq_true e, Bool.true_and]
    by_cases e2 : l[pre.length]?.getD [] = x
    · rw [decide_eq_true e2, decide_eq_true (by rw [← e, e2])]
    · rw [decide_eq_false e2]
      refine decide_eq_false fun h2 => e2 ?_
      have := List.append_inj_right h2 (by rw [List.length_take]; omega)
      simpa using this.symm
  · rw [decide_eq_false e, Bool.false_and]
    exact decide_eq_false fun h2 => e (List.append_inj_left h2 (by rw [List.length_take]; omega))
/-- A round's end: both boxes turned. -/
theorem two_put {w5 W : World} {n₀ N iB : Nat} {l pre : List Key} {x : Key} {v : Value} {b : Bool} (hv : ∀ g, v.ownBlock = some g → n₀ ≤ g) (hn : iB + 1 < n₀)
    (hbi : Blk W iB 3 #[.int .i64 (pre.length : Int)]) (hbo : Blk W (iB + 1) 4 #[.bool (okF l pre)]) (hkp : Kp (fun b => b = iB ∨ b = iB + 1) w5 W) (hs : okF l (pre ++ [x]) = b) :
    KeepsFrom N W ((W.setCell ⟨iB + 1, 0, none⟩ (.bool b)).setCell ⟨iB, 0, none⟩ (.int .i64 ((pre.length : Int) + 1))) ∧ RowK v W ((W.setCell ⟨iB + 1, 0, none⟩ (.bool b)).setCell ⟨iB, 0, none⟩ (.int .i64 ((pre.length : Int) + 1))) ∧
    Blk ((W.setCell ⟨iB + 1, 0, none⟩ (.bool b)).setCell ⟨iB, 0, none⟩ (.int .i64 ((pre.length : Int) + 1))) iB 3 #[.int .i64 ((pre ++ [x]).length : Int)] ∧
    Blk ((W.setCell ⟨iB + 1, 0, none⟩ (.bool b)).setCell ⟨iB, 0, none⟩ (.int .i64 ((pre.length : Int) + 1))) (iB + 1) 4 #[.bool (okF l (pre ++ [x]))] ∧
    Kp (fun b => b = iB ∨ b = iB + 1) w5 ((W.setCell ⟨iB + 1, 0, none⟩ (.bool b)).setCell ⟨iB, 0, none⟩ (.int .i64 ((pre.length : Int) + 1))) := by
  refine ⟨((KeepsOthers.setCell _ _ _).from _).trans ((KeepsOthers.setCell _ _ _).from _), rowK_t (rowK_set (fun g hg => by have := hv g hg; show g ≠ iB + 1; omega) _) (rowK_set (fun g hg => by have := hv g hg; show g ≠ iB; omega) _), ?_, ?_, ?_⟩
  · have h1 : iB ≠ iB + 1 := by omega
    have := blk_put1 (v := .int .i64 ((pre.length : Int) + 1)) (hbi.far (p := ⟨iB + 1, 0, none⟩) h1 (.bool b))
    simpa using this
  · have h1 : iB + 1 ≠ iB := by omega
    rw [hs]
    exact (blk_put1 (v := .bool b) hbo).far (p := ⟨iB, 0, none⟩) h1 _
  · exact (hkp.set (p := ⟨iB + 1, 0, none⟩) (.inr rfl) _).set (p := ⟨iB, 0, none⟩) (.inl rfl) _
theorem strike_snoc (k x : Key) (l : List Key) : strike k (l ++ [x]) = if x = k then strike k l else strike k l ++ [x] := by
  unfold strike
  rw [List.filter_append]
  by_cases e : x = k
  · rw [if_pos e]; simp [e]
  · rw [if_neg e]; simp [e]
theorem strike_le (k : Key) (l : List Key) : (strike k l).length ≤ l.length := List.length_filter_le _ _
end Go.Proofs.Ytncgfnocokippaa.Ringy
