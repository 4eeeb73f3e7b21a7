/- Layer 15: which buckets differ. No condition. -/
import Derived.Test.YteopkdmlcjndcaaDoorBuckSums
import Derived.Test.YteopkdmlcjndcaaDoorTexts
import Derived.Test.YteopkdmlcjndcaaDoorRegion
import Derived.Deep.AppendLies
import Derived.Lib.Hide
import Derived.BigQuiet
namespace Go.Proofs.YteopkdmlcjndcaaDoor.Bucky
open Go.ChangeShapes Go.WideShapes Go.ChangeAt Go.RowKit
open Wirey Regy

/-- Whether bucket i is told. -/
def apart (na nb : Nat) (TA TB : Nat → Bs) (i : Nat) : Bool := decide (¬ (na = 16 ∧ nb = 16) ∨ TA i ≠ TB i)
/-- Those that are told of the first k. -/
def told (p : Nat → Bool) (k : Nat) : List Nat := (List.range k).filter p
theorem told_yes {p : Nat → Bool} {k : Nat} (h : p k = true) : told p (k + 1) = told p k ++ [k] := by simp [told, List.range_succ, h]
theorem told_no {p : Nat → Bool} {k : Nat} (h : p k = false) : told p (k + 1) = told p k := by simp [told, List.range_succ, h]
theorem told_len (p : Nat → Bool) (k : Nat) : (told p k).length ≤ k := by
  have := List.length_filter_le p (List.range k)
  simpa [told] using this
def ints (l : List Nat) : List Value := l.map fun (i : Nat) => .int .i64 (i : Int)
theorem ints_len (l : List Nat) : (ints l).length = l.length := List.length_map ..
/-- An owned list of buckets. -/
def Own (w : World) (B : Nat) (v : Value) (l : List Nat) : Prop := w.ownsRow B 3 1 v l.length (ints l)
theorem Own.form {w : World} {B : Nat} {v : Value} {l : List Nat} (h : Own w B v l) : ∃ a c, v = .slice a l.length c := by
  rcases h.2 with ⟨hv, hn⟩ | ⟨g, cap, cur, hv, _⟩
  · exact ⟨none, 0, by rw [hv, hn]⟩
  · exact ⟨_, cap, hv⟩
theorem Own.lt {w : World} {B : Nat} {v : Value} {l : List Nat} (h : Own w B v l) : ∀ k, v.ownBlock = some k → B ≤ k ∧ k < w.heap.size := World.ownsRow.lt h
theorem Own.below {w w' : World} {B : Nat} {v : Value} {l : List Nat} (h : Own w B v l) (hb : Below w.heap.size w w') : Own w' B v l :=
  World.ownsRow.kept (row := none) h ⟨hb.os, hb.tape, hb.output, hb.size, fun k hk _ => hb.block k hk⟩ (by cases v.ownBlock <;> simp)
theorem Own.at_ {w : World} {B : Nat} {a : Option Addr} {n c : Nat} {l : List Nat} (h : Own w B (.slice a n c) l) {i x : Nat} (hx : l[i]? = some x) : ∃ g, a = some ⟨g, 0, none⟩ ∧ w.cell? ⟨g, i, none⟩ = some (.int .i64 (x : Int)) := by
  have hi : i < l.length := (List.getElem?_eq_some_iff.1 hx).1
  rcases h.2 with ⟨hv, hn⟩ | ⟨g, cap, cur, hv, hB, hb, hc, hm, hs, ht⟩
  · omega
  · have hv' := hv
    injection hv' with h1 h2 h3
    refine ⟨g, h1, ?_⟩
    have hlt : i < (l.length * 1) := by omega
    have : (ints l)[i]? = some (.int .i64 (x : Int)) := by simp [ints, hx]
    rw [← ht, List.getElem?_take_of_lt hlt, Array.getElem?_toList] at this
    rw [cell_of_row w g i cur 3 (0, 0) hb]
    exact this
theorem own_nil (w : World) (P : Nat → Bool) : Own w w.heap.size (.slice none 0 0) (told P 0) := World.ownsRow_nil _ _ _ _
theorem int_info : (Tryd.prog.info? 3).map (fun i => (i.zero, i.size, i.bytes)) = some (some (.int .i64 0), 1, 8) := by kernel_rfl
theorem Own.snoc {w : World} {B g cap : Nat} {l : List Nat} {k : Nat} (h : w.ownsRow B 3 1 (.slice (some ⟨g, 0, none⟩) (l.length + 1) cap) (l.length + 1) (ints l ++ [.int .i64 (k : Int)])) : Own w B (.slice (some ⟨g, 0, none⟩) (l.length + 1) cap) (l ++ [k]) := by
  unfold Own
  have e : ints (l ++ [k]) = ints l ++ [.int .i64 (k : Int)] := by simp [ints]
  rw [e, List.length_append, List.length_singleton]
  exact h
set_option maxHeartbeats 4000000 in
set_option maxRecDepth 100000 in
theorem differ_c {w : World} {ao bo : Option Addr} {na nb sa sb oa ob : Nat} {TA TB : Nat → Bs} (ca cb : Nat) (hA : Texts w ao na sa oa TA) (hB : Texts w bo nb sb ob TB) :
    Calls Tryd.prog 8 #[.slice ao na ca, .slice bo nb cb] w fun e w' => ∃ v, e = .returned v ∧ Own w' w.heap.size v (told (apart na nb TA TB) 16) ∧ Below w.heap.size w w' := by
  obtain ⟨i0, hi0, hz0, hz1, hz2⟩ := info_parts int_info
  have htl := Wirey.toList_str
  obtain ⟨P, hP⟩ : ∃ P, P = apart na nb TA TB := ⟨_, rfl⟩
  rw [← hP]
  have hpk : ∀ k, P k = decide (¬ (na = 16 ∧ nb = 16) ∨ TA k ≠ TB k) := fun k => by rw [hP]; rfl
  have HPK := Lib.hid hpk
  clear hP hpk
  by_cases hs : na = 16 ∧ nb = 16
  · obtain ⟨rfl, rfl⟩ := hs
    obtain rfl : ao = some ⟨sa, oa, none⟩ := hA.ao (by decide)
    obtain rfl : bo = some ⟨sb, ob, none⟩ := hB.ao (by decide)
    have HA := Lib.hid hA
    have HB := Lib.hid hB
    clear hA hB
    go_enter Tryd.func8, Tryd.ntmps8
    go_wp2_with fail
    go_loopw [6, 16] (fun l s wr => ∃ (k : Nat) (v : Value), k ≤ 16 ∧ s = .int .i64 k ∧ (l = v ∧ Own wr w.heap.size v (told P k)) ∧ Below w.heap.size w wr) (fun _ s _ => 16 - (intOf s).toNat)
    case atStart => exact ⟨0, _, by omega, rfl, ⟨rfl, own_nil w P⟩, Below.refl _ _⟩
    case round =>
      obtain ⟨k, v, hk, rfl, ⟨rfl, hO⟩, hb⟩ := hrel
      obtain ⟨va, vc, rfl⟩ := hO.form
      have hkl := told_len P k
      by_cases h : k < 16
      · have hlt : (k : Int) < 16 := by omega
        have xa : wr.drew.cell? ⟨sa, oa + k, none⟩ = some (.string (str (TA k))) := (HA.out.below hb (fun _ => HA.out.lt (by decide))).cell k h
        have xb : wr.drew.cell? ⟨sb, ob + k, none⟩ = some (.string (str (TB k))) := (HB.out.below hb (fun _ => HB.out.lt (by decide))).cell k h
        have hO := hO.below (Below.drew (Below.refl _ wr))
        have HBB := hb.drew
        go_upto_region 6 with (fail)
        by_cases e : TA k = TB k
        · have f1 : (TA k == TB k) = true := by simpa using e
          have HP := Lib.hid (show P k = false by rw [HPK.out, decide_eq_false (by simp [e])])
          clear e
          refine region_only 13 #[false, false, false, false, false, false, false, false, false, false, false, false, false] (S := (fun W => W.cell? ⟨sa, oa + k, none⟩ = some (.string (str (TA k))) ∧ W.cell? ⟨sb, ob + k, none⟩ = some (.string (str (TB k))))) rfl rfl (by kernel_rfl) ⟨xa, xb⟩ (fun hSw => ?_)
          refine take_at 0 19 (fuel := 12) ?_ rfl rfl (by kernel_rfl) (by kernel_rfl) (by kernel_rfl) (Or.inl ⟨by rfl, ?_⟩) hSw ?_
          rotate_left
          · intro wx hSx
            (try dsimp only at hSx)
            go_split_ands
            go_simp
            (try with_reducible rfl)
          simp only [List.setIfInBounds_toArray, List.set_cons_zero, List.set_cons_succ]
          refine take_at 1 20 (fuel := 11) ?_ rfl rfl (by kernel_rfl) (by kernel_rfl) (by kernel_rfl) (Or.inl ⟨by rfl, ?_⟩) hSw ?_
          rotate_left
          · intro wx hSx
            (try dsimp only at hSx)
            go_split_ands
            go_simp
            (try with_reducible rfl)
          simp only [List.setIfInBounds_toArray, List.set_cons_zero, List.set_cons_succ]
          refine take_at 2 21 (fuel := 10) ?_ rfl rfl (by kernel_rfl) (by kernel_rfl) (by kernel_rfl) (Or.inl ⟨by rfl, ?_⟩) hSw ?_
          rotate_left
          · intro wx hSx
            (try dsimp only at hSx)
            go_split_ands
            go_simp
            (try with_reducible rfl)
          simp only [List.setIfInBounds_toArray, List.set_cons_zero, List.set_cons_succ]
          refine take_at 3 22 (fuel := 9) ?_ rfl rfl (by kernel_rfl) (by kernel_rfl) (by kernel_rfl) (Or.inl ⟨by rfl, ?_⟩) hSw ?_
          rotate_left
          · intro wx hSx
            (try dsimp only at hSx)
            go_split_ands
            go_simp
            (try with_reducible rfl)
          simp only [List.setIfInBounds_toArray, List.set_cons_zero, List.set_cons_succ]
          refine take_at 4 23 (fuel := 8) ?_ rfl rfl (by kernel_rfl) (by kernel_rfl) (by kernel_rfl) (Or.inl ⟨by rfl, ?_⟩) hSw ?_
          rotate_left
          · intro wx hSx
            (try dsimp only at hSx)
            go_split_ands
            go_simp
            (try with_reducible rfl)
          simp only [List.setIfInBounds_toArray, List.set_cons_zero, List.set_cons_succ]
          refine take_at 5 24 (fuel := 7) ?_ rfl rfl (by kernel_rfl) (by kernel_rfl) (by kernel_rfl) (Or.inl ⟨by rfl, ?_⟩) hSw ?_
          rotate_left
          · intro wx hSx
            (try dsimp only at hSx)
            go_split_ands
            go_simp
            (try with_reducible rfl)
          simp only [List.setIfInBounds_toArray, List.set_cons_zero, List.set_cons_succ]
          refine take_at 6 25 (fuel := 6) ?_ rfl rfl (by kernel_rfl) (by kernel_rfl) (by kernel_rfl) (Or.inl ⟨by rfl, ?_⟩) hSw ?_
          rotate_left
          · intro wx hSx
            (try dsimp only at hSx)
            go_split_ands
            go_simp
            (try with_reducible rfl)
          simp only [List.setIfInBounds_toArray, List.set_cons_zero, List.set_cons_succ]
          refine take_at 7 26 (fuel := 5) ?_ rfl rfl (by kernel_rfl) (by kernel_rfl) (by kernel_rfl) (Or.inl ⟨by rfl, ?_⟩) hSw ?_
          rotate_left
          · intro wx hSx
            (try dsimp only at hSx)
            go_split_ands
            go_simp
            (try with_reducible rfl)
          simp only [List.setIfInBounds_toArray, List.set_cons_zero, List.set_cons_succ]
          refine take_at 8 27 (fuel := 4) ?_ rfl rfl (by kernel_rfl) (by kernel_rfl) (by kernel_rfl) (Or.inl ⟨by rfl, ?_⟩) hSw ?_
          rotate_left
          · intro wx hSx
            (try dsimp only at hSx)
            go_split_ands
            go_simp
            (try with_reducible rfl)
          simp only [List.setIfInBounds_toArray, List.set_cons_zero, List.set_cons_succ]
          refine take_at 9 28 (fuel := 3) ?_ rfl rfl (by kernel_rfl) (by kernel_rfl) (by kernel_rfl) (Or.inl ⟨by rfl, ?_⟩) hSw ?_
          rotate_left
          · intro wx hSx
            (try dsimp only at hSx)
            go_split_ands
            go_simp
            (try with_reducible rfl)
          simp only [List.setIfInBounds_toArray, List.set_cons_zero, List.set_cons_succ]
          refine take_at 10 29 (fuel := 2) ?_ rfl rfl (by kernel_rfl) (by kernel_rfl) (by kernel_rfl) (Or.inl ⟨by rfl, ?_⟩) hSw ?_
          rotate_left
          · intro wx hSx
            (try dsimp only at hSx)
            go_split_ands
            go_simp
            (try with_reducible rfl)
          simp only [List.setIfInBounds_toArray, List.set_cons_zero, List.set_cons_succ]
          refine take_at 11 30 (fuel := 1) ?_ rfl rfl (by kernel_rfl) (by kernel_rfl) (by kernel_rfl) (Or.inl ⟨by rfl, ?_⟩) hSw ?_
          rotate_left
          · intro wx hSx
            (try dsimp only at hSx)
            go_split_ands
            go_simp
            (try with_reducible rfl)
          simp only [List.setIfInBounds_toArray, List.set_cons_zero, List.set_cons_succ]
          refine take_at 12 31 (fuel := 0) ?_ rfl rfl (by kernel_rfl) (by kernel_rfl) (by kernel_rfl) (Or.inl ⟨by rfl, ?_⟩) hSw ?_
          rotate_left
          · intro wx hSx
            (try dsimp only at hSx)
            go_split_ands
            go_simp
            (try with_reducible rfl)
          simp only [List.setIfInBounds_toArray, List.set_cons_zero, List.set_cons_succ]
          refine wpAnyH_done (by kernel_rfl) ⟨rfl, ?_⟩ 0
          clear hSw xa xb
          go_wp2_with fail
          have hO2 : Own wr.drew w.heap.size (.slice va (told P k).length vc) (told P (k + 1)) := by rw [told_no (p := P) HP.out]; exact hO
          go_roundw
          case rel => exact ⟨k + 1, _, by omega, rfl, ⟨rfl, hO2⟩, HBB⟩
          case measure => simp [intOf]; omega
        · have f1 : (TA k == TB k) = false := by simpa using e
          have HP := Lib.hid (show P k = true by rw [HPK.out, decide_eq_true (Or.inr e)])
          clear e
          refine region_only 13 #[false, false, false, false, false, false, false, false, false, false, false, false, false] (S := (fun W => W.cell? ⟨sa, oa + k, none⟩ = some (.string (str (TA k))) ∧ W.cell? ⟨sb, ob + k, none⟩ = some (.string (str (TB k))))) rfl rfl (by kernel_rfl) ⟨xa, xb⟩ (fun hSw => ?_)
          refine take_at 0 19 (fuel := 12) ?_ rfl rfl (by kernel_rfl) (by kernel_rfl) (by kernel_rfl) (Or.inl ⟨by rfl, ?_⟩) hSw ?_
          rotate_left
          · intro wx hSx
            (try dsimp only at hSx)
            go_split_ands
            go_simp
            (try with_reducible rfl)
          simp only [List.setIfInBounds_toArray, List.set_cons_zero, List.set_cons_succ]
          refine take_at 1 20 (fuel := 11) ?_ rfl rfl (by kernel_rfl) (by kernel_rfl) (by kernel_rfl) (Or.inl ⟨by rfl, ?_⟩) hSw ?_
          rotate_left
          · intro wx hSx
            (try dsimp only at hSx)
            go_split_ands
            go_simp
            (try with_reducible rfl)
          simp only [List.setIfInBounds_toArray, List.set_cons_zero, List.set_cons_succ]
          refine take_at 2 21 (fuel := 10) ?_ rfl rfl (by kernel_rfl) (by kernel_rfl) (by kernel_rfl) (Or.inl ⟨by rfl, ?_⟩) hSw ?_
          rotate_left
          · intro wx hSx
            (try dsimp only at hSx)
            go_split_ands
            go_simp
            (try with_reducible rfl)
          simp only [List.setIfInBounds_toArray, List.set_cons_zero, List.set_cons_succ]
          refine take_at 3 22 (fuel := 9) ?_ rfl rfl (by kernel_rfl) (by kernel_rfl) (by kernel_rfl) (Or.inl ⟨by rfl, ?_⟩) hSw ?_
          rotate_left
          · intro wx hSx
            (try dsimp only at hSx)
            go_split_ands
            go_simp
            (try with_reducible rfl)
          simp only [List.setIfInBounds_toArray, List.set_cons_zero, List.set_cons_succ]
          refine take_at 4 23 (fuel := 8) ?_ rfl rfl (by kernel_rfl) (by kernel_rfl) (by kernel_rfl) (Or.inl ⟨by rfl, ?_⟩) hSw ?_
          rotate_left
          · intro wx hSx
            (try dsimp only at hSx)
            go_split_ands
            go_simp
            (try with_reducible rfl)
          simp only [List.setIfInBounds_toArray, List.set_cons_zero, List.set_cons_succ]
          refine take_at 5 24 (fuel := 7) ?_ rfl rfl (by kernel_rfl) (by kernel_rfl) (by kernel_rfl) (Or.inl ⟨by rfl, ?_⟩) hSw ?_
          rotate_left
          · intro wx hSx
            (try dsimp only at hSx)
            go_split_ands
            go_simp
            (try with_reducible rfl)
          simp only [List.setIfInBounds_toArray, List.set_cons_zero, List.set_cons_succ]
          refine take_at 6 25 (fuel := 6) ?_ rfl rfl (by kernel_rfl) (by kernel_rfl) (by kernel_rfl) (Or.inl ⟨by rfl, ?_⟩) hSw ?_
          rotate_left
          · intro wx hSx
            (try dsimp only at hSx)
            go_split_ands
            go_simp
            (try with_reducible rfl)
          simp only [List.setIfInBounds_toArray, List.set_cons_zero, List.set_cons_succ]
          refine take_at 7 26 (fuel := 5) ?_ rfl rfl (by kernel_rfl) (by kernel_rfl) (by kernel_rfl) (Or.inl ⟨by rfl, ?_⟩) hSw ?_
          rotate_left
          · intro wx hSx
            (try dsimp only at hSx)
            go_split_ands
            go_simp
            (try with_reducible rfl)
          simp only [List.setIfInBounds_toArray, List.set_cons_zero, List.set_cons_succ]
          refine take_at 8 27 (fuel := 4) ?_ rfl rfl (by kernel_rfl) (by kernel_rfl) (by kernel_rfl) (Or.inl ⟨by rfl, ?_⟩) hSw ?_
          rotate_left
          · intro wx hSx
            (try dsimp only at hSx)
            go_split_ands
            go_simp
            (try with_reducible rfl)
          simp only [List.setIfInBounds_toArray, List.set_cons_zero, List.set_cons_succ]
          refine take_at 9 28 (fuel := 3) ?_ rfl rfl (by kernel_rfl) (by kernel_rfl) (by kernel_rfl) (Or.inl ⟨by rfl, ?_⟩) hSw ?_
          rotate_left
          · intro wx hSx
            (try dsimp only at hSx)
            go_split_ands
            go_simp
            (try with_reducible rfl)
          simp only [List.setIfInBounds_toArray, List.set_cons_zero, List.set_cons_succ]
          refine take_at 10 29 (fuel := 2) ?_ rfl rfl (by kernel_rfl) (by kernel_rfl) (by kernel_rfl) (Or.inl ⟨by rfl, ?_⟩) hSw ?_
          rotate_left
          · intro wx hSx
            (try dsimp only at hSx)
            go_split_ands
            go_simp
            (try with_reducible rfl)
          simp only [List.setIfInBounds_toArray, List.set_cons_zero, List.set_cons_succ]
          refine take_at 11 30 (fuel := 1) ?_ rfl rfl (by kernel_rfl) (by kernel_rfl) (by kernel_rfl) (Or.inl ⟨by rfl, ?_⟩) hSw ?_
          rotate_left
          · intro wx hSx
            (try dsimp only at hSx)
            go_split_ands
            go_simp
            (try with_reducible rfl)
          simp only [List.setIfInBounds_toArray, List.set_cons_zero, List.set_cons_succ]
          refine take_at 12 31 (fuel := 0) ?_ rfl rfl (by kernel_rfl) (by kernel_rfl) (by kernel_rfl) (Or.inl ⟨by rfl, ?_⟩) hSw ?_
          rotate_left
          · intro wx hSx
            (try dsimp only at hSx)
            go_split_ands
            go_simp
            (try with_reducible rfl)
          simp only [List.setIfInBounds_toArray, List.set_cons_zero, List.set_cons_succ]
          refine wpAnyH_done (by kernel_rfl) ⟨rfl, ?_⟩ 0
          clear hSw xa xb
          generalize wr.drew = wq at *
          have hbs := HBB.size
          go_wp2_with (first | (refine wpList_append_lies _ (by rfl) _ _ _ (by rfl) w.heap.size 3 i0 _ 1 8 Tryd.underlying26 hi0 hz0 hz1 hz2 rfl (by omega) (.slice va (told P k).length vc) (told P k).length (ints (told P k)) (by rfl) (World.ownsRow.alloc hO _) ⟨wq.heap.size, 0, none⟩ 1 1 [.int .i64 (k : Int)] (by rfl) (by rfl) (World.news_of_block (cs := #[.int .i64 (k : Int)]) (t := 3) (fr := (0, 0)) (heap_alloc_new wq _)) (by simp [Value.oneCell']) (by omega) (by simp [maxLen]; omega) (by omega) (by simp; omega) (wq.heap.size + 1) (by simp) ?_; intro gg cp w30 hown3 hgrow hat hlt3))
          have hO3 := Own.snoc hown3
          have hB3 : Below w.heap.size w w30 := (HBB.alloc HBB.size (.cells #[.int .i64 (k : Int)] 3)).trans ⟨hgrow.os, hgrow.tape, hgrow.output, hgrow.size, fun i hi => hgrow.block i (by have := HBB.size; simp; omega) (fun e => by have := (Own.lt hO i e.symm).1; omega)⟩
          have hT1 := told_yes (p := P) HP.out
          rw [← hT1] at hO3
          go_roundw
          case rel => exact ⟨k + 1, _, by omega, rfl, ⟨rfl, hO3⟩, hB3⟩
          case measure => simp [intOf]; omega
      · obtain rfl : k = 16 := by omega
        have hlt : ¬ ((16 : Int) < 16) := by omega
        go_wp2_with fail
        go_ret
        exact ⟨_, rfl, hO, hb⟩
  · have HPT := Lib.hid (show ∀ k, P k = true from fun k => by rw [HPK.out, decide_eq_true (Or.inl hs)])
    clear HPK hA hB
    by_cases ha : na = 16
    · subst ha
      have hb' : ((nb : Int) == 16) = false := by rw [beq_eq_false_iff_ne]; omega
      go_enter Tryd.func8, Tryd.ntmps8
      go_wp2_with fail
      go_loopw [6, 16] (fun l s wr => ∃ (k : Nat) (v : Value), k ≤ 16 ∧ s = .int .i64 k ∧ (l = v ∧ Own wr w.heap.size v (told P k)) ∧ Below w.heap.size w wr) (fun _ s _ => 16 - (intOf s).toNat)
      case atStart => exact ⟨0, _, by omega, rfl, ⟨rfl, own_nil w P⟩, Below.refl _ _⟩
      case round =>
        obtain ⟨k, v, hk, rfl, ⟨rfl, hO⟩, hb⟩ := hrel
        obtain ⟨va, vc, rfl⟩ := hO.form
        have hkl := told_len P k
        by_cases h : k < 16
        · have hlt : (k : Int) < 16 := by omega
          have hO := hO.below (Below.drew (Below.refl _ wr))
          have HBB := hb.drew
          have HP := Lib.hid (HPT.out k)
          go_upto_region 6 with (fail)
          refine region_only 13 #[false, false, false, false, false, false, false, false, false, false, false, false, false] (S := (fun _ => True)) rfl rfl (by kernel_rfl) trivial (fun hSw => ?_)
          refine take_at 0 19 (fuel := 12) ?_ rfl rfl (by kernel_rfl) (by kernel_rfl) (by kernel_rfl) (Or.inl ⟨by rfl, ?_⟩) hSw ?_
          rotate_left
          · intro wx hSx
            (try dsimp only at hSx)
            go_split_ands
            go_simp
            (try with_reducible rfl)
          simp only [List.setIfInBounds_toArray, List.set_cons_zero, List.set_cons_succ]
          refine take_at 1 20 (fuel := 11) ?_ rfl rfl (by kernel_rfl) (by kernel_rfl) (by kernel_rfl) (Or.inl ⟨by rfl, ?_⟩) hSw ?_
          rotate_left
          · intro wx hSx
            (try dsimp only at hSx)
            go_split_ands
            go_simp
            (try with_reducible rfl)
          simp only [List.setIfInBounds_toArray, List.set_cons_zero, List.set_cons_succ]
          refine take_at 2 21 (fuel := 10) ?_ rfl rfl (by kernel_rfl) (by kernel_rfl) (by kernel_rfl) (Or.inl ⟨by rfl, ?_⟩) hSw ?_
          rotate_left
          · intro wx hSx
            (try dsimp only at hSx)
            go_split_ands
            go_simp
            (try with_reducible rfl)
          simp only [List.setIfInBounds_toArray, List.set_cons_zero, List.set_cons_succ]
          refine take_at 3 22 undef (fuel := 9) rfl rfl (by kernel_rfl) (by kernel_rfl) (by kernel_rfl) (Or.inr ⟨by rfl, rfl⟩) hSw ?_
          simp only [List.setIfInBounds_toArray, List.set_cons_zero, List.set_cons_succ]
          refine take_at 4 23 undef (fuel := 8) rfl rfl (by kernel_rfl) (by kernel_rfl) (by kernel_rfl) (Or.inr ⟨by rfl, rfl⟩) hSw ?_
          simp only [List.setIfInBounds_toArray, List.set_cons_zero, List.set_cons_succ]
          refine take_at 5 24 undef (fuel := 7) rfl rfl (by kernel_rfl) (by kernel_rfl) (by kernel_rfl) (Or.inr ⟨by rfl, rfl⟩) hSw ?_
          simp only [List.setIfInBounds_toArray, List.set_cons_zero, List.set_cons_succ]
          refine take_at 6 25 undef (fuel := 6) rfl rfl (by kernel_rfl) (by kernel_rfl) (by kernel_rfl) (Or.inr ⟨by rfl, rfl⟩) hSw ?_
          simp only [List.setIfInBounds_toArray, List.set_cons_zero, List.set_cons_succ]
          refine take_at 7 26 undef (fuel := 5) rfl rfl (by kernel_rfl) (by kernel_rfl) (by kernel_rfl) (Or.inr ⟨by rfl, rfl⟩) hSw ?_
          simp only [List.setIfInBounds_toArray, List.set_cons_zero, List.set_cons_succ]
          refine take_at 8 27 undef (fuel := 4) rfl rfl (by kernel_rfl) (by kernel_rfl) (by kernel_rfl) (Or.inr ⟨by rfl, rfl⟩) hSw ?_
          simp only [List.setIfInBounds_toArray, List.set_cons_zero, List.set_cons_succ]
          refine take_at 9 28 undef (fuel := 3) rfl rfl (by kernel_rfl) (by kernel_rfl) (by kernel_rfl) (Or.inr ⟨by rfl, rfl⟩) hSw ?_
          simp only [List.setIfInBounds_toArray, List.set_cons_zero, List.set_cons_succ]
          refine take_at 10 29 undef (fuel := 2) rfl rfl (by kernel_rfl) (by kernel_rfl) (by kernel_rfl) (Or.inr ⟨by rfl, rfl⟩) hSw ?_
          simp only [List.setIfInBounds_toArray, List.set_cons_zero, List.set_cons_succ]
          refine take_at 11 30 undef (fuel := 1) rfl rfl (by kernel_rfl) (by kernel_rfl) (by kernel_rfl) (Or.inr ⟨by rfl, rfl⟩) hSw ?_
          simp only [List.setIfInBounds_toArray, List.set_cons_zero, List.set_cons_succ]
          refine take_at 12 31 (fuel := 0) ?_ rfl rfl (by kernel_rfl) (by kernel_rfl) (by kernel_rfl) (Or.inl ⟨by rfl, ?_⟩) hSw ?_
          rotate_left
          · intro wx hSx
            (try dsimp only at hSx)
            go_split_ands
            go_simp
            (try with_reducible rfl)
          simp only [List.setIfInBounds_toArray, List.set_cons_zero, List.set_cons_succ]
          refine wpAnyH_done (by kernel_rfl) ⟨rfl, ?_⟩ 0
          clear hSw
          generalize wr.drew = wq at *
          have hbs := HBB.size
          go_wp2_with (first | (refine wpList_append_lies _ (by rfl) _ _ _ (by rfl) w.heap.size 3 i0 _ 1 8 Tryd.underlying26 hi0 hz0 hz1 hz2 rfl (by omega) (.slice va (told P k).length vc) (told P k).length (ints (told P k)) (by rfl) (World.ownsRow.alloc hO _) ⟨wq.heap.size, 0, none⟩ 1 1 [.int .i64 (k : Int)] (by rfl) (by rfl) (World.news_of_block (cs := #[.int .i64 (k : Int)]) (t := 3) (fr := (0, 0)) (heap_alloc_new wq _)) (by simp [Value.oneCell']) (by omega) (by simp [maxLen]; omega) (by omega) (by simp; omega) (wq.heap.size + 1) (by simp) ?_; intro gg cp w30 hown3 hgrow hat hlt3))
          have hO3 := Own.snoc hown3
          have hB3 : Below w.heap.size w w30 := (HBB.alloc HBB.size (.cells #[.int .i64 (k : Int)] 3)).trans ⟨hgrow.os, hgrow.tape, hgrow.output, hgrow.size, fun i hi => hgrow.block i (by have := HBB.size; simp; omega) (fun e => by have := (Own.lt hO i e.symm).1; omega)⟩
          have hT1 := told_yes (p := P) HP.out
          rw [← hT1] at hO3
          go_roundw
          case rel => exact ⟨k + 1, _, by omega, rfl, ⟨rfl, hO3⟩, hB3⟩
          case measure => simp [intOf]; omega
        · obtain rfl : k = 16 := by omega
          have hlt : ¬ ((16 : Int) < 16) := by omega
          go_wp2_with fail
          go_ret
          exact ⟨_, rfl, hO, hb⟩
    · have ha' : ((na : Int) == 16) = false := by rw [beq_eq_false_iff_ne]; omega
      go_enter Tryd.func8, Tryd.ntmps8
      go_wp2_with fail
      go_loopw [6, 16] (fun l s wr => ∃ (k : Nat) (v : Value), k ≤ 16 ∧ s = .int .i64 k ∧ (l = v ∧ Own wr w.heap.size v (told P k)) ∧ Below w.heap.size w wr) (fun _ s _ => 16 - (intOf s).toNat)
      case atStart => exact ⟨0, _, by omega, rfl, ⟨rfl, own_nil w P⟩, Below.refl _ _⟩
      case round =>
        obtain ⟨k, v, hk, rfl, ⟨rfl, hO⟩, hb⟩ := hrel
        obtain ⟨va, vc, rfl⟩ := hO.form
        have hkl := told_len P k
        by_cases h : k < 16
        · have hlt : (k : Int) < 16 := by omega
          have hO := hO.below (Below.drew (Below.refl _ wr))
          have HBB := hb.drew
          have HP := Lib.hid (HPT.out k)
          go_upto_region 6 with (fail)
          refine region_only 13 #[false, false, false, false, false, false, false, false, false, false, false, false, false] (S := (fun _ => True)) rfl rfl (by kernel_rfl) trivial (fun hSw => ?_)
          refine take_at 0 19 (fuel := 12) ?_ rfl rfl (by kernel_rfl) (by kernel_rfl) (by kernel_rfl) (Or.inl ⟨by rfl, ?_⟩) hSw ?_
          rotate_left
          · intro wx hSx
            (try dsimp only at hSx)
            go_split_ands
            go_simp
            (try with_reducible rfl)
          simp only [List.setIfInBounds_toArray, List.set_cons_zero, List.set_cons_succ]
          refine take_at 1 20 (fuel := 11) ?_ rfl rfl (by kernel_rfl) (by kernel_rfl) (by kernel_rfl) (Or.inl ⟨by rfl, ?_⟩) hSw ?_
          rotate_left
          · intro wx hSx
            (try dsimp only at hSx)
            go_split_ands
            go_simp
            (try with_reducible rfl)
          simp only [List.setIfInBounds_toArray, List.set_cons_zero, List.set_cons_succ]
          refine take_at 2 21 (fuel := 10) ?_ rfl rfl (by kernel_rfl) (by kernel_rfl) (by kernel_rfl) (Or.inl ⟨by rfl, ?_⟩) hSw ?_
          rotate_left
          · intro wx hSx
            (try dsimp only at hSx)
            go_split_ands
            go_simp
            (try with_reducible rfl)
          simp only [List.setIfInBounds_toArray, List.set_cons_zero, List.set_cons_succ]
          refine take_at 3 22 undef (fuel := 9) rfl rfl (by kernel_rfl) (by kernel_rfl) (by kernel_rfl) (Or.inr ⟨by rfl, rfl⟩) hSw ?_
          simp only [List.setIfInBounds_toArray, List.set_cons_zero, List.set_cons_succ]
          refine take_at 4 23 undef (fuel := 8) rfl rfl (by kernel_rfl) (by kernel_rfl) (by kernel_rfl) (Or.inr ⟨by rfl, rfl⟩) hSw ?_
          simp only [List.setIfInBounds_toArray, List.set_cons_zero, List.set_cons_succ]
          refine take_at 5 24 undef (fuel := 7) rfl rfl (by kernel_rfl) (by kernel_rfl) (by kernel_rfl) (Or.inr ⟨by rfl, rfl⟩) hSw ?_
          simp only [List.setIfInBounds_toArray, List.set_cons_zero, List.set_cons_succ]
          refine take_at 6 25 undef (fuel := 6) rfl rfl (by kernel_rfl) (by kernel_rfl) (by kernel_rfl) (Or.inr ⟨by rfl, rfl⟩) hSw ?_
          simp only [List.setIfInBounds_toArray, List.set_cons_zero, List.set_cons_succ]
          refine take_at 7 26 undef (fuel := 5) rfl rfl (by kernel_rfl) (by kernel_rfl) (by kernel_rfl) (Or.inr ⟨by rfl, rfl⟩) hSw ?_
          simp only [List.setIfInBounds_toArray, List.set_cons_zero, List.set_cons_succ]
          refine take_at 8 27 undef (fuel := 4) rfl rfl (by kernel_rfl) (by kernel_rfl) (by kernel_rfl) (Or.inr ⟨by rfl, rfl⟩) hSw ?_
          simp only [List.setIfInBounds_toArray, List.set_cons_zero, List.set_cons_succ]
          refine take_at 9 28 undef (fuel := 3) rfl rfl (by kernel_rfl) (by kernel_rfl) (by kernel_rfl) (Or.inr ⟨by rfl, rfl⟩) hSw ?_
          simp only [List.setIfInBounds_toArray, List.set_cons_zero, List.set_cons_succ]
          refine take_at 10 29 undef (fuel := 2) rfl rfl (by kernel_rfl) (by kernel_rfl) (by kernel_rfl) (Or.inr ⟨by rfl, rfl⟩) hSw ?_
          simp only [List.setIfInBounds_toArray, List.set_cons_zero, List.set_cons_succ]
          refine take_at 11 30 undef (fuel := 1) rfl rfl (by kernel_rfl) (by kernel_rfl) (by kernel_rfl) (Or.inr ⟨by rfl, rfl⟩) hSw ?_
          simp only [List.setIfInBounds_toArray, List.set_cons_zero, List.set_cons_succ]
          refine take_at 12 31 (fuel := 0) ?_ rfl rfl (by kernel_rfl) (by kernel_rfl) (by kernel_rfl) (Or.inl ⟨by rfl, ?_⟩) hSw ?_
          rotate_left
          · intro wx hSx
            (try dsimp only at hSx)
            go_split_ands
            go_simp
            (try with_reducible rfl)
          simp only [List.setIfInBounds_toArray, List.set_cons_zero, List.set_cons_succ]
          refine wpAnyH_done (by kernel_rfl) ⟨rfl, ?_⟩ 0
          clear hSw
          generalize wr.drew = wq at *
          have hbs := HBB.size
          go_wp2_with (first | (refine wpList_append_lies _ (by rfl) _ _ _ (by rfl) w.heap.size 3 i0 _ 1 8 Tryd.underlying26 hi0 hz0 hz1 hz2 rfl (by omega) (.slice va (told P k).length vc) (told P k).length (ints (told P k)) (by rfl) (World.ownsRow.alloc hO _) ⟨wq.heap.size, 0, none⟩ 1 1 [.int .i64 (k : Int)] (by rfl) (by rfl) (World.news_of_block (cs := #[.int .i64 (k : Int)]) (t := 3) (fr := (0, 0)) (heap_alloc_new wq _)) (by simp [Value.oneCell']) (by omega) (by simp [maxLen]; omega) (by omega) (by simp; omega) (wq.heap.size + 1) (by simp) ?_; intro gg cp w30 hown3 hgrow hat hlt3))
          have hO3 := Own.snoc hown3
          have hB3 : Below w.heap.size w w30 := (HBB.alloc HBB.size (.cells #[.int .i64 (k : Int)] 3)).trans ⟨hgrow.os, hgrow.tape, hgrow.output, hgrow.size, fun i hi => hgrow.block i (by have := HBB.size; simp; omega) (fun e => by have := (Own.lt hO i e.symm).1; omega)⟩
          have hT1 := told_yes (p := P) HP.out
          rw [← hT1] at hO3
          go_roundw
          case rel => exact ⟨k + 1, _, by omega, rfl, ⟨rfl, hO3⟩, hB3⟩
          case measure => simp [intOf]; omega
        · obtain rfl : k = 16 := by omega
          have hlt : ¬ ((16 : Int) < 16) := by omega
          go_wp2_with fail
          go_ret
          exact ⟨_, rfl, hO, hb⟩
end Go.Proofs.YteopkdmlcjndcaaDoor.Bucky
