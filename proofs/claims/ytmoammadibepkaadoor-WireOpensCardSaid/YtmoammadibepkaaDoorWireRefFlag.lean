/- The contract of the document's own reading of yes or no (layer 3). Nothing that was there turns. -/
import Derived.Test.YtmoammadibepkaaDoorWireRefMore
namespace Go.Proofs.YtmoammadibepkaaDoor.Wirey
open Go.ChangeShapes Go.WideShapes Go.ChangeAt Go.RowKit

theorem below_four {w v : World} (h : Below w.heap.size w v) (b c : Value) (o : Obj) : Below w.heap.size w (((v.setCell ⟨w.heap.size + 1, 0, none⟩ b).setCell ⟨w.heap.size + 1, 1, none⟩ c).alloc o).drew :=
  ((below_two h b c).alloc (by simpa [World.setCell] using h.size) o).drew
set_option maxHeartbeats 4000000 in
set_option maxRecDepth 100000 in
theorem aflag_ok {l : List UInt8} {c : UInt8} (hc : c.toNat ≤ 1) (w : World) :
    Calls Tryd.prog 21 #[atV (c :: l) 0] w fun e w' => e = .returned (.tuple #[atV l 0, .bool ((c.toNat : Int) == 1)]) ∧ Below w.heap.size w w' := by
  have hsz := str_size
  have hv : ∀ hh, (str [c])[0]'hh = c := fun _ => rfl
  unfold atV
  go_enter Tryd.func21, Tryd.ntmps21
  go_wp2_with fail
  obtain ⟨s1, sA, sR, sz⟩ := two_start w 28 28 #[.string (str (c :: l)), .int .i64 0] #[.string ⟨#[]⟩, .int .i64 0]
  generalize (w.alloc (.cells #[.string (str (c :: l)), .int .i64 0] 28)).alloc (.cells #[.string ⟨#[]⟩, .int .i64 0] 28) = v at s1 sA sR sz ⊢
  refine (abytes_ok (l := c :: l) 1 (by simp) _).mono ?_
  rintro e w1 ⟨rfl, hb⟩
  rw [List.drop_succ_cons, List.drop_zero, List.take_succ_cons, List.take_zero]
  have cR := sR.below hb sR.lt
  have r0 := cR.cell 0
  have r1 := cR.cell 1
  have g0 := cR.free 0
  have g1 := cR.free 1
  have sR1 := cR.lt
  have hB := below_four (s1.trans (hb.mono s1.size)) (.string (str l)) (.int .i64 0) (.cells #[.string (str l), .int .i64 0] 28)
  simp only [List.getElem?_toArray, List.getElem?_cons_zero, List.getElem?_cons_succ] at r0 r1
  unfold atV
  go_wp2_with fail
  go_region
  go_wp2_with fail
  refine bodyPost_ret (v := .tuple #[.agg #[.string (str l), .int .i64 0], .bool ((c.toNat : Int) == 1)]) (by simp [results, Tryd.results21, go_sem, r0, r1, sR1]) rfl ⟨rfl, hB⟩
set_option maxHeartbeats 4000000 in
set_option maxRecDepth 100000 in
theorem aflag_bad {l : List UInt8} {c : UInt8} (hc : 1 < c.toNat) (w : World) :
    Calls Tryd.prog 21 #[atV (c :: l) 0] w fun e w' => e = .returned (.tuple #[atV l 6, .bool false]) ∧ Below w.heap.size w w' := by
  have hsz := str_size
  have hv : ∀ hh, (str [c])[0]'hh = c := fun _ => rfl
  unfold atV
  go_enter Tryd.func21, Tryd.ntmps21
  go_wp2_with fail
  obtain ⟨s1, sA, sR, sz⟩ := two_start w 28 28 #[.string (str (c :: l)), .int .i64 0] #[.string ⟨#[]⟩, .int .i64 0]
  generalize (w.alloc (.cells #[.string (str (c :: l)), .int .i64 0] 28)).alloc (.cells #[.string ⟨#[]⟩, .int .i64 0] 28) = v at s1 sA sR sz ⊢
  refine (abytes_ok (l := c :: l) 1 (by simp) _).mono ?_
  rintro e w1 ⟨rfl, hb⟩
  rw [List.drop_succ_cons, List.drop_zero, List.take_succ_cons, List.take_zero]
  have cR := sR.below hb sR.lt
  have r0 := cR.cell 0
  have r1 := cR.cell 1
  have g0 := cR.free 0
  have g1 := cR.free 1
  have sR1 := cR.lt
  have hB := below_four (s1.trans (hb.mono s1.size)) (.string (str l)) (.int .i64 6) (.cells #[.string (str l), .int .i64 6] 28)
  simp only [List.getElem?_toArray, List.getElem?_cons_zero, List.getElem?_cons_succ] at r0 r1
  unfold atV
  go_wp2_with fail
  go_region
  go_wp2_with fail
  refine bodyPost_ret (v := .tuple #[.agg #[.string (str l), .int .i64 6], .bool false]) (by simp [results, Tryd.results21, go_sem, r0, r1, sR1]) rfl ⟨rfl, hB⟩
set_option maxHeartbeats 4000000 in
set_option maxRecDepth 100000 in
theorem aflag_none (w : World) :
    Calls Tryd.prog 21 #[atV [] 0] w fun e w' => e = .returned (.tuple #[atV [] 4, .bool false]) ∧ Below w.heap.size w w' := by
  have hsz := str_size
  unfold atV
  go_enter Tryd.func21, Tryd.ntmps21
  go_wp2_with fail
  obtain ⟨s1, sA, sR, sz⟩ := two_start w 28 28 #[.string (str []), .int .i64 0] #[.string ⟨#[]⟩, .int .i64 0]
  generalize (w.alloc (.cells #[.string (str []), .int .i64 0] 28)).alloc (.cells #[.string ⟨#[]⟩, .int .i64 0] 28) = v at s1 sA sR sz ⊢
  refine (abytes_short (l := []) 1 (.inr (by simp)) _).mono ?_
  rintro e w1 ⟨rfl, hb⟩
  have cR := sR.below hb sR.lt
  have r0 := cR.cell 0
  have r1 := cR.cell 1
  have g0 := cR.free 0
  have g1 := cR.free 1
  have sR1 := cR.lt
  have hB := below_four (s1.trans (hb.mono s1.size)) (.string (str [])) (.int .i64 4) (.cells #[.string (str []), .int .i64 4] 28)
  simp only [List.getElem?_toArray, List.getElem?_cons_zero, List.getElem?_cons_succ] at r0 r1
  unfold atV
  go_wp2_with fail
  go_region
  go_wp2_with fail
  refine bodyPost_ret (v := .tuple #[.agg #[.string (str []), .int .i64 4], .bool false]) (by simp [results, Tryd.results21, go_sem, r0, r1, sR1]) rfl ⟨rfl, hB⟩
set_option maxHeartbeats 4000000 in
set_option maxRecDepth 100000 in
theorem aflag_err {l : List UInt8} (e0 : Nat) (he : e0 ≠ 0) (w : World) :
    Calls Tryd.prog 21 #[atV l e0] w fun e w' => e = .returned (.tuple #[atV l e0, .bool false]) ∧ Below w.heap.size w w' := by
  have hsz := str_size
  have hn2 : ((e0 : Int) == 0) = false := by rw [beq_eq_false_iff_ne]; omega
  have HE := Lib.hid he
  clear he
  unfold atV
  go_enter Tryd.func21, Tryd.ntmps21
  go_wp2_with fail
  obtain ⟨s1, sA, sR, sz⟩ := two_start w 28 28 #[.string (str l), .int .i64 (e0 : Int)] #[.string ⟨#[]⟩, .int .i64 0]
  generalize (w.alloc (.cells #[.string (str l), .int .i64 (e0 : Int)] 28)).alloc (.cells #[.string ⟨#[]⟩, .int .i64 0] 28) = v at s1 sA sR sz ⊢
  refine (abytes_err 1 e0 HE.out _).mono ?_
  rintro e w1 ⟨rfl, hb⟩
  have cR := sR.below hb sR.lt
  have r0 := cR.cell 0
  have r1 := cR.cell 1
  have g0 := cR.free 0
  have g1 := cR.free 1
  have sR1 := cR.lt
  have hB := below_four (s1.trans (hb.mono s1.size)) (.string (str l)) (.int .i64 (e0 : Int)) (.cells #[.string (str l), .int .i64 (e0 : Int)] 28)
  simp only [List.getElem?_toArray, List.getElem?_cons_zero, List.getElem?_cons_succ] at r0 r1
  unfold atV
  go_wp2_with fail
  go_region
  go_wp2_with fail
  refine bodyPost_ret (v := .tuple #[.agg #[.string (str l), .int .i64 (e0 : Int)], .bool false]) (by simp [results, Tryd.results21, go_sem, r0, r1, sR1]) rfl ⟨rfl, hB⟩
end Go.Proofs.YtmoammadibepkaaDoor.Wirey
