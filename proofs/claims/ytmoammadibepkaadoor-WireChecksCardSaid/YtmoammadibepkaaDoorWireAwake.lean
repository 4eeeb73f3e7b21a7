/- What the laws of layer 3 begin with: a frame there and back, a number there and back; a text that is not too long. Condition: the table of halves holds what the program's text lays. -/
import Derived.Test.YtmoammadibepkaaDoorWireOpen
namespace Go.Proofs.YtmoammadibepkaaDoor.Wirey
open Go.ChangeShapes Go.WideShapes Go.ChangeAt Go.RowKit

theorem four_len (n : Nat) : (four n).length = 4 := rfl
theorem frm_eq (l : List UInt8) : frm l = 49 :: (enc l.length ++ (l ++ four (chk (49 :: txt l)))) := by
  unfold frm txt; simp
/-- A frame is opened. -/
theorem openR_frm (l : List UInt8) (hl : l.length ≤ 65536) : openR (frm l) = (l, 0) := by
  obtain ⟨c, hc⟩ : ∃ c, c = four (chk (49 :: txt l)) := ⟨_, rfl⟩
  have h4 : c.length = 4 := by rw [hc]; rfl
  rw [frm_eq, ← hc]
  have hR := numR_enc (n := l.length) (by omega) (l ++ c)
  obtain ⟨en, hen⟩ : ∃ en, en = enc l.length := ⟨_, rfl⟩
  have ht : 49 :: txt l = 49 :: (en ++ l) := by unfold txt; rw [hen]
  rw [ht] at hc
  rw [← hen] at hR ⊢
  have hd : (en ++ (l ++ c)).drop (en.length + l.length) = c := by
    rw [← List.append_assoc, List.drop_append_of_le_length (by simp), List.drop_of_length_le (by simp)]; rfl
  have hd2 : (en ++ (l ++ c)).drop en.length = l ++ c := by simp
  have ht2 : (49 :: (en ++ (l ++ c))).take ((en ++ (l ++ c)).length + 1 - 4) = 49 :: (en ++ l) := by
    have e : 49 :: (en ++ (l ++ c)) = (49 :: (en ++ l)) ++ c := by simp
    rw [e, List.take_append_of_le_length (by simp; omega), List.take_of_length_le (by simp; omega)]
  unfold openR
  dsimp only
  rw [hR]
  dsimp only
  rw [if_neg (by decide), if_neg (by decide), if_neg (by omega), if_neg (by simp), hd, if_neg (by omega), h4, ht2, ← hc, if_neg (by rw [List.take_of_length_le (by omega)]; simp), if_neg (by rw [List.drop_of_length_le (by omega)]; simp), hd2]
  simp

set_option maxHeartbeats 4000000 in
theorem awake_c (w : World) (hT : Halves w) :
    Calls Tryd.prog 15 #[] w fun e w' => e = .returned (.bool true) ∧ Below w.heap.size w w' := by
  have htx : ByteArray.mk #[116, 101, 120, 116] = str [116, 101, 120, 116] := rfl
  have hsz := str_size
  have htl := toList_str
  have HT := Lib.hid hT
  have hO := openR_frm [116, 101, 120, 116] (by simp)
  have HO := Lib.hid hO
  clear hT hO
  go_enter Tryd.func15, Tryd.ntmps15
  go_wp2_with fail
  refine (frame_c _ (by simp) _ HT.out).mono ?_
  rintro e w1 ⟨rfl, hb1⟩
  have HT1 : Hid (Halves w1) := HT.out.below hb1 HT.out.lt
  have hfl : (frm [116, 101, 120, 116]).length < 549755813888 := by rw [frm_eq]; simp [enc, four_len]
  go_wp2_with fail
  refine (open_c _ hfl _ HT1.out).mono ?_
  rintro e w2 ⟨rfl, hb2⟩
  rw [HO.out]
  go_wp2_with fail
  refine (num_c 300 (by omega) _).mono ?_
  rintro e w3 ⟨rfl, hb3⟩
  have hR := numR_enc (n := 300) (by omega) []
  rw [List.append_nil] at hR
  have HR := Lib.hid hR
  clear hR
  go_wp2_with fail
  refine (fnum_ok 1000 HR.out (by omega) (by have := (enc_len (n := 300) (by omega)).2; omega) _).mono ?_
  rintro e w4 ⟨rfl, hb4⟩
  have hd : endE (List.drop (enc 300).length (enc 300)) = 0 := by rw [List.drop_of_length_le (Nat.le_refl _)]; rfl
  rw [hd]
  go_wp2_with fail
  go_ret
  exact ⟨rfl, ((hb1.trans (hb2.mono hb1.size)).trans (hb3.mono (by have := hb1.size; have := hb2.size; omega))).trans (hb4.mono (by have := hb1.size; have := hb2.size; have := hb3.size; omega))⟩

/-- At most 300 bytes. -/
def fewL (l : List UInt8) : List UInt8 := l.take 300
theorem fewL_le (l : List UInt8) : (fewL l).length ≤ 300 := by unfold fewL; rw [List.length_take]; omega
set_option maxHeartbeats 2000000 in
theorem few_c (l : List UInt8) (hl : l.length ≤ maxLen) (w : World) :
    Calls Tryd.prog 12 #[.string (str l)] w fun e w' => e = .returned (.string (str (fewL l))) ∧ w = w' := by
  unfold maxLen at hl
  have hsz := str_size
  by_cases h : 300 < l.length
  · have hx := str_take l 300
    go_enter Tryd.func12, Tryd.ntmps12
    go_wp2_with fail
    go_ret
    exact ⟨rfl, rfl⟩
  · go_enter Tryd.func12, Tryd.ntmps12
    go_wp2_with fail
    go_ret
    exact ⟨by unfold fewL; rw [List.take_of_length_le (by omega)]; rfl, rfl⟩
end Go.Proofs.YtmoammadibepkaaDoor.Wirey
