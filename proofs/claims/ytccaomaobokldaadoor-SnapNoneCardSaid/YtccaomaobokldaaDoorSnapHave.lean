/- Layer 14: pieces of one text, taken one by one. Condition: the variables of layer 4 hold what the program's text lays. -/
import Derived.Test.YtccaomaobokldaaDoorSnapAdd
import Derived.Test.YtccaomaobokldaaDoorSnapWhole
import Derived.Test.YtccaomaobokldaaDoorSnapNew
import Derived.Test.YtccaomaobokldaaDoorSnapCut
import Derived.Test.YtccaomaobokldaaDoorSnapText
namespace Go.Proofs.YtccaomaobokldaaDoor.Snapy
open Go.ChangeShapes Go.WideShapes Go.ChangeAt Go.RowKit
open Wirey Slsy

/-- The bytes that are there. -/
def dataF (t : Bs) (F : List Bool) : List Bs := (List.range F.length).map fun i => if F.getD i false = true then chunk t i else []
theorem dataF_len (t : Bs) (F : List Bool) : (dataF t F).length = F.length := by simp [dataF]
theorem dataF_set (t : Bs) (F : List Bool) (k : Nat) (hk : k < F.length) : (dataF t F).set k (chunk t k) = dataF t (F.set k true) := by
  apply List.ext_getElem?
  intro i
  rw [List.getElem?_set, dataF_len]
  unfold dataF
  rw [List.length_set, List.getElem?_map, List.getElem?_map]
  by_cases hi : i < F.length
  · rw [List.getElem?_range hi]
    by_cases e : k = i
    · subst e
      rw [if_pos rfl, if_pos hk]
      simp [List.getD_eq_getElem?_getD, hk]
    · rw [if_neg e]
      simp [List.getD_eq_getElem?_getD, List.getElem?_set, e]
  · rw [List.getElem?_eq_none (by simpa using hi)]
    by_cases e : k = i
    · omega
    · rw [if_neg e]; rfl
theorem dataF_none (t : Bs) (n : Nat) : dataF t (List.replicate n false) = List.replicate n [] := by
  apply List.ext_getElem?
  intro i
  unfold dataF
  rw [List.length_replicate, List.getElem?_map, List.getElem?_replicate]
  by_cases hi : i < n
  · rw [List.getElem?_range hi, if_pos hi]
    simp [List.getD_eq_getElem?_getD, hi]
  · rw [List.getElem?_eq_none (by simpa using hi), if_neg hi]; rfl
theorem lk_all : ∀ {F : List Bool}, lk F = none → ∀ i, i < F.length → F.getD i false = true
  | [], _, i, hi => by simp at hi
  | false :: l, h, _, _ => by cases h
  | true :: l, h, 0, _ => rfl
  | true :: l, h, i + 1, hi => by
    have h1 : lk l = none := by
      rw [lk] at h
      cases e : lk l with
      | none => rfl
      | some j => rw [e] at h; cases h
    have := lk_all h1 i (by rw [List.length_cons] at hi; omega)
    rw [List.getD_eq_getElem?_getD, List.getElem?_cons_succ, ← List.getD_eq_getElem?_getD]; exact this
theorem dataF_all {t : Bs} {F : List Bool} (hl : F.length = many t) (h : lk F = none) : (dataF t F).flatten = t := by
  have e : dataF t F = (List.range (many t)).map (chunk t) := by
    unfold dataF
    rw [hl]
    apply List.map_congr_left
    intro i hi
    rw [if_pos (lk_all h i (by rw [hl]; exact List.mem_range.1 hi))]
  rw [e]; exact chunks_all t
theorem mayB_at {t : Bs} {k : Nat} (hk : k < many t) : mayB (sumL t) (many t) (pcAt t k) = true := by
  have hl := chunk_len hk
  unfold mayB pcAt
  simp only [Bool.and_eq_true, Bool.or_eq_true, decide_eq_true_eq]
  refine ⟨⟨⟨⟨trivial, trivial⟩, by omega⟩, by omega⟩, ?_⟩
  by_cases e : k + 1 < many t
  · rw [if_pos e] at hl; exact .inl hl
  · rw [if_neg e] at hl
    have := chunk_le t k
    by_cases e2 : (chunk t k).length = 1024
    · exact .inl e2
    · exact .inr ⟨by omega, by omega⟩
theorem getD_get {F : List Bool} {k : Nat} {x : Bool} (h : F[k]? = some x) : k < F.length := (List.getElem?_eq_some_iff.1 h).1
section
variable {w w' : World} {b gd gt q : Nat} {t : Bs} {F : List Bool}
theorem addT_old {k : Nat} (hk : F[k]? = some true) (hl : F.length = many t) (hG : Glob w) (h : HeldG w b gd gt (sumL t) (dataF t F) F) :
    Calls Tryd.prog 11 #[gp b, .agg (pcAt t k).cs] w fun e w' => e = .returned (.tuple #[.bool false, .int .i64 0]) ∧ Below w.heap.size w w' := by
  have hkl := getD_get hk
  exact add_old (pcAt t k) (by rw [dataF_len, hl]; exact mayB_at (by omega)) rfl (by show F[((k : Int)).toNat]? = _; rw [Int.toNat_natCast]; exact hk) hG h
theorem addT_new {k : Nat} (hk : F[k]? = some false) (hl : F.length = many t) (hG : Glob w) (h : HeldG w b gd gt (sumL t) (dataF t F) F) :
    Calls Tryd.prog 11 #[gp b, .agg (pcAt t k).cs] w fun e w' => e = .returned (.tuple #[.bool true, .int .i64 0]) ∧ HeldG w' b gd gt (sumL t) (dataF t (F.set k true)) (F.set k true) ∧ Ks (fun x => x = gd ∨ x = gt) w w' := by
  have hkl := getD_get hk
  refine (add_new (pcAt t k) (by rw [dataF_len, hl]; exact mayB_at (by omega)) rfl k rfl hk hG h).mono ?_
  rintro e w' ⟨rfl, hh, hks⟩
  refine ⟨rfl, ?_, hks⟩
  rw [← dataF_set t F k hkl]
  exact hh
theorem wholeT (hk : lk F = none) (hl : F.length = many t) (hG : Glob w) (h : HeldG w b gd gt (sumL t) (dataF t F) F) :
    Calls Tryd.prog 13 #[gp b] w fun e w' => e = .returned (.tuple #[.string (str t), .int .i64 0]) ∧ Below w.heap.size w w' := by
  have e := dataF_all hl hk
  refine (whole_ok hk (by rw [e]) hG h).mono ?_
  rintro e1 w' ⟨rfl, hb⟩
  rw [e]
  exact ⟨rfl, hb⟩
/-- A piece's five cells. -/
theorem pc_cells (h : Blk w q PT (rws Pc.enc (cutL t)).toArray) {k : Nat} (hk : k < many t) :
    w.cell? ⟨q, k * 5, none⟩ = some (.int .i64 (k : Int)) ∧ w.cell? ⟨q, k * 5 + 1, none⟩ = some (.int .i64 (many t : Int)) ∧ w.cell? ⟨q, k * 5 + 2, none⟩ = some (.string (str (chunk t k))) ∧
      w.cell? ⟨q, k * 5 + 3, none⟩ = some (.string (str (sumL (chunk t k)))) ∧ w.cell? ⟨q, k * 5 + 4, none⟩ = some (.string (str (sumL t))) := by
  have cc : ∀ c, c < 5 → w.cell? ⟨q, k * 5 + c, none⟩ = ((pcAt t k).enc)[c]? := fun c hc => by
    rw [h.cell, List.getElem?_toArray]; exact rws_at Pc.len _ k c _ (cutL_at hk) hc
  exact ⟨cc 0 (by omega), cc 1 (by omega), cc 2 (by omega), cc 3 (by omega), cc 4 (by omega)⟩
end
end Go.Proofs.YtccaomaobokldaaDoor.Snapy
