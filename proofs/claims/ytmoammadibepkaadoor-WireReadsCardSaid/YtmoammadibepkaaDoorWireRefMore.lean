/- Contracts of the document's own reader (layer 3), further: a number behind an error, a text, yes or no. Nothing that was there turns. -/
import Derived.Test.YtmoammadibepkaaDoorWireRefNum
import Derived.RegionTactic
namespace Go.Proofs.YtmoammadibepkaaDoor.Wirey
open Go.ChangeShapes Go.WideShapes Go.ChangeAt Go.RowKit

set_option maxHeartbeats 4000000 in
set_option maxRecDepth 100000 in
theorem anum_err {l : List UInt8} (top : Nat) (e0 : Nat) (he : e0 ≠ 0) (w : World) :
    Calls Tryd.prog 13 #[atV l e0, .int .u64 (top : Int)] w fun e w' => e = .returned (.tuple #[atV l e0, .int .u64 0]) ∧ Below w.heap.size w w' := by
  have hsz := str_size
  have hn1 : ((e0 : Int) != 0) = true := by rw [bne_iff_ne]; omega
  have hn2 : ((e0 : Int) == 0) = false := by rw [beq_eq_false_iff_ne]; omega
  have HE := Lib.hid he
  clear he
  go_enter Tryd.func13, Tryd.ntmps13
  unfold atV
  go_wp2_with fail
  go_loopw [6, 7, 8, 9, 10, 11] (fun _ _ i _ _ _ wr => i = .int .i64 0 ∧
    Blk wr w.heap.size 28 #[.string (str l), .int .i64 (e0 : Int)] ∧ Blk wr (w.heap.size + 1) 28 #[.string ⟨#[]⟩, .int .i64 0] ∧ Below w.heap.size w wr) (fun _ _ i _ _ _ _ => 10 - (intOf i).toNat)
  case atStart =>
    obtain ⟨h1, b0, b1, hs⟩ := two_start w 28 28 #[.string (str l), .int .i64 (e0 : Int)] #[.string ⟨#[]⟩, .int .i64 0]
    exact ⟨rfl, b0, b1, h1⟩
  case round =>
    obtain ⟨rfl, bA, bR, hW⟩ := hrel
    have e0' := bA.cell 0
    have e1 := bA.cell 1
    have f0 := bA.free 0
    have f1 := bA.free 1
    simp only [List.getElem?_toArray, List.getElem?_cons_zero, List.getElem?_cons_succ] at e0' e1
    go_wp2_with fail
    refine (abytes_err 1 e0 HE.out _).mono ?_
    rintro e w1 ⟨rfl, hb⟩
    have cA := bA.below hb bA.lt
    have cR := bR.below hb bR.lt
    have sR := cR.lt
    have sA := cA.lt
    have e0' := cA.cell 0
    have e1 := cA.cell 1
    have f0 := cA.free 0
    have f1 := cA.free 1
    have r0 := cR.cell 0
    have r1 := cR.cell 1
    have g0 := cR.free 0
    have g1 := cR.free 1
    simp only [List.getElem?_toArray, List.getElem?_cons_zero, List.getElem?_cons_succ] at e0' e1 r0 r1
    unfold atV
    go_wp2_with fail
    have hB := below_five (hW.trans (hb.mono hW.size)) (.string (str l)) (.int .i64 (e0 : Int)) (.string (str l)) (.int .i64 (e0 : Int)) (.cells #[.string (str l), .int .i64 (e0 : Int)] 28)
    refine bodyPost_ret (v := .tuple #[.agg #[.string (str l), .int .i64 (e0 : Int)], .int .u64 0]) (by simp [results, Tryd.results13, go_sem, r0, r1, sR]) rfl ⟨rfl, hB⟩

/-- A text's limit, as a number's. -/
def topN (top : Int) : Nat := if top < 0 then 0 else top.toNat
theorem anum_ok {l : List UInt8} {n k : Nat} (top : Nat) (hR : numF l = (n, k, 0)) (ht : n ≤ top) (hl : l.length < 1099511627776) (w : World) :
    Calls Tryd.prog 13 #[atV l 0, .int .u64 (top : Int)] w fun e w' => e = .returned (.tuple #[atV (l.drop k) 0, .int .u64 (n : Int)]) ∧ Below w.heap.size w w' := by
  have h1 : nErr l top = 0 := by unfold nErr; rw [hR, if_neg (by simp), if_neg (by omega)]
  have h2 : nVal l top = n := by unfold nVal; rw [h1, if_pos rfl, hR]
  refine (anum_c top hl w).mono ?_
  rintro e w' ⟨hb, m, rfl, hm⟩
  rw [h1, h2, hm h1, hR]
  exact ⟨rfl, hb⟩
set_option maxHeartbeats 4000000 in
set_option maxRecDepth 100000 in
theorem atext_bad {l : List UInt8} (top : Int) (htop : top ≤ 9223372036854775807) (hl : l.length < 1099511627776) (he : nErr l (topN top) ≠ 0) (w : World) :
    Calls Tryd.prog 20 #[atV l 0, .int .i64 top] w fun e w' => Below w.heap.size w w' ∧ ∃ m, e = .returned (.tuple #[atV m (nErr l (topN top)), .string (str [])]) := by
  have hsz := str_size
  by_cases h0 : top < 0
  · have h1 : topN top = 0 := if_pos h0
    rw [h1] at he ⊢
    have HE := Lib.hid he
    clear he
    go_enter Tryd.func20, Tryd.ntmps20
    unfold atV
    go_wp2_with fail
    obtain ⟨s1, sA, sR, sz⟩ := two_start w 28 28 #[.string (str l), .int .i64 0] #[.string ⟨#[]⟩, .int .i64 0]
    generalize (w.alloc (.cells #[.string (str l), .int .i64 0] 28)).alloc (.cells #[.string ⟨#[]⟩, .int .i64 0] 28) = v at s1 sA sR sz ⊢
    refine (anum_c (l := l) 0 hl _).mono ?_
    rintro e w1 ⟨hb, m, rfl, _⟩
    unfold atV
    go_wp2_with fail
    refine (abytes_err _ _ HE.out _).mono ?_
    rintro e v3 ⟨rfl, hb2⟩
    have cR := ((sR.below hb sR.lt).alloc (.cells #[.string (str m), .int .i64 (nErr l 0 : Int)] 28)).below hb2 (by rw [World.size_alloc]; have := (sR.below hb sR.lt).lt; omega)
    have r0 := cR.cell 0
    have r1 := cR.cell 1
    have g0 := cR.free 0
    have g1 := cR.free 1
    simp only [List.getElem?_toArray, List.getElem?_cons_zero, List.getElem?_cons_succ] at r0 r1
    have hB : Below w.heap.size w v3 := ((s1.trans (hb.mono s1.size)).alloc (Nat.le_trans s1.size hb.size) _).trans (hb2.mono (by rw [World.size_alloc]; have := s1.size; have := hb.size; omega))
    unfold atV
    go_wp2_with fail
    refine bodyPost_ret (v := .tuple #[.agg #[.string (str (m)), .int .i64 (nErr l 0 : Int)], .string (str ([]))]) (by simp [results, Tryd.results20, go_sem, r0, r1]) rfl ⟨below_two hB _ _, _, rfl⟩
  · have h1 : (topN top : Int) = top := by unfold topN; rw [if_neg h0]; omega
    obtain ⟨T, hT⟩ : ∃ T, T = topN top := ⟨_, rfl⟩
    rw [← hT] at h1 he ⊢
    have HE := Lib.hid he
    clear he
    subst h1
    clear hT
    go_enter Tryd.func20, Tryd.ntmps20
    unfold atV
    go_wp2_with fail
    obtain ⟨s1, sA, sR, sz⟩ := two_start w 28 28 #[.string (str l), .int .i64 0] #[.string ⟨#[]⟩, .int .i64 0]
    generalize (w.alloc (.cells #[.string (str l), .int .i64 0] 28)).alloc (.cells #[.string ⟨#[]⟩, .int .i64 0] 28) = v at s1 sA sR sz ⊢
    refine (anum_c (l := l) T hl _).mono ?_
    rintro e w1 ⟨hb, m, rfl, _⟩
    unfold atV
    go_wp2_with fail
    refine (abytes_err _ _ HE.out _).mono ?_
    rintro e v3 ⟨rfl, hb2⟩
    have cR := ((sR.below hb sR.lt).alloc (.cells #[.string (str m), .int .i64 (nErr l T : Int)] 28)).below hb2 (by rw [World.size_alloc]; have := (sR.below hb sR.lt).lt; omega)
    have r0 := cR.cell 0
    have r1 := cR.cell 1
    have g0 := cR.free 0
    have g1 := cR.free 1
    simp only [List.getElem?_toArray, List.getElem?_cons_zero, List.getElem?_cons_succ] at r0 r1
    have hB : Below w.heap.size w v3 := ((s1.trans (hb.mono s1.size)).alloc (Nat.le_trans s1.size hb.size) _).trans (hb2.mono (by rw [World.size_alloc]; have := s1.size; have := hb.size; omega))
    unfold atV
    go_wp2_with fail
    refine bodyPost_ret (v := .tuple #[.agg #[.string (str (m)), .int .i64 (nErr l T : Int)], .string (str ([]))]) (by simp [results, Tryd.results20, go_sem, r0, r1]) rfl ⟨below_two hB _ _, _, rfl⟩
set_option maxHeartbeats 4000000 in
set_option maxRecDepth 100000 in
theorem atext_ok {l : List UInt8} {n k : Nat} (top : Int) (htop : top ≤ 9223372036854775807) (hl : l.length < 1099511627776) (hR : numF l = (n, k, 0)) (ht : n ≤ topN top) (hn : k + n ≤ l.length) (w : World) :
    Calls Tryd.prog 20 #[atV l 0, .int .i64 top] w fun e w' => e = .returned (.tuple #[atV (l.drop (k + n)) 0, .string (str ((l.drop k).take n))]) ∧ Below w.heap.size w w' := by
  have hsz := str_size
  have HR := Lib.hid hR
  clear hR
  by_cases h0 : top < 0
  · have h1 : topN top = 0 := if_pos h0
    rw [h1] at ht
    go_enter Tryd.func20, Tryd.ntmps20
    unfold atV
    go_wp2_with fail
    obtain ⟨s1, sA, sR, sz⟩ := two_start w 28 28 #[.string (str l), .int .i64 0] #[.string ⟨#[]⟩, .int .i64 0]
    generalize (w.alloc (.cells #[.string (str l), .int .i64 0] 28)).alloc (.cells #[.string ⟨#[]⟩, .int .i64 0] 28) = v at s1 sA sR sz ⊢
    refine (anum_ok 0 HR.out ht hl _).mono ?_
    rintro e w1 ⟨rfl, hb⟩
    unfold atV
    go_wp2_with fail
    refine (abytes_ok n (by rw [List.length_drop]; omega) _).mono ?_
    rintro e v3 ⟨rfl, hb2⟩
    rw [List.drop_drop]
    have cR := ((sR.below hb sR.lt).alloc (.cells #[.string (str (l.drop k)), .int .i64 0] 28)).below hb2 (by rw [World.size_alloc]; have := (sR.below hb sR.lt).lt; omega)
    have r0 := cR.cell 0
    have r1 := cR.cell 1
    have g0 := cR.free 0
    have g1 := cR.free 1
    simp only [List.getElem?_toArray, List.getElem?_cons_zero, List.getElem?_cons_succ] at r0 r1
    have hB : Below w.heap.size w v3 := ((s1.trans (hb.mono s1.size)).alloc (Nat.le_trans s1.size hb.size) _).trans (hb2.mono (by rw [World.size_alloc]; have := s1.size; have := hb.size; omega))
    unfold atV
    go_wp2_with fail
    refine bodyPost_ret (v := .tuple #[.agg #[.string (str (l.drop (k + n))), .int .i64 0], .string (str ((l.drop k).take n))]) (by simp [results, Tryd.results20, go_sem, r0, r1]) rfl ⟨rfl, below_two hB _ _⟩
  · have h1 : (topN top : Int) = top := by unfold topN; rw [if_neg h0]; omega
    obtain ⟨T, hT⟩ : ∃ T, T = topN top := ⟨_, rfl⟩
    rw [← hT] at h1 ht
    subst h1
    clear hT
    go_enter Tryd.func20, Tryd.ntmps20
    unfold atV
    go_wp2_with fail
    obtain ⟨s1, sA, sR, sz⟩ := two_start w 28 28 #[.string (str l), .int .i64 0] #[.string ⟨#[]⟩, .int .i64 0]
    generalize (w.alloc (.cells #[.string (str l), .int .i64 0] 28)).alloc (.cells #[.string ⟨#[]⟩, .int .i64 0] 28) = v at s1 sA sR sz ⊢
    refine (anum_ok T HR.out ht hl _).mono ?_
    rintro e w1 ⟨rfl, hb⟩
    unfold atV
    go_wp2_with fail
    refine (abytes_ok n (by rw [List.length_drop]; omega) _).mono ?_
    rintro e v3 ⟨rfl, hb2⟩
    rw [List.drop_drop]
    have cR := ((sR.below hb sR.lt).alloc (.cells #[.string (str (l.drop k)), .int .i64 0] 28)).below hb2 (by rw [World.size_alloc]; have := (sR.below hb sR.lt).lt; omega)
    have r0 := cR.cell 0
    have r1 := cR.cell 1
    have g0 := cR.free 0
    have g1 := cR.free 1
    simp only [List.getElem?_toArray, List.getElem?_cons_zero, List.getElem?_cons_succ] at r0 r1
    have hB : Below w.heap.size w v3 := ((s1.trans (hb.mono s1.size)).alloc (Nat.le_trans s1.size hb.size) _).trans (hb2.mono (by rw [World.size_alloc]; have := s1.size; have := hb.size; omega))
    unfold atV
    go_wp2_with fail
    refine bodyPost_ret (v := .tuple #[.agg #[.string (str (l.drop (k + n))), .int .i64 0], .string (str ((l.drop k).take n))]) (by simp [results, Tryd.results20, go_sem, r0, r1]) rfl ⟨rfl, below_two hB _ _⟩
set_option maxHeartbeats 4000000 in
set_option maxRecDepth 100000 in
theorem atext_short {l : List UInt8} {n k : Nat} (top : Int) (htop : top ≤ 9223372036854775807) (hl : l.length < 1099511627776) (hR : numF l = (n, k, 0)) (ht : n ≤ topN top) (hn : l.length < k + n) (w : World) :
    Calls Tryd.prog 20 #[atV l 0, .int .i64 top] w fun e w' => e = .returned (.tuple #[atV (l.drop k) 4, .string (str [])]) ∧ Below w.heap.size w w' := by
  have hsz := str_size
  have HR := Lib.hid hR
  clear hR
  have hkl := numF_le HR.out
  by_cases h0 : top < 0
  · have h1 : topN top = 0 := if_pos h0
    rw [h1] at ht
    omega
  · have h1 : (topN top : Int) = top := by unfold topN; rw [if_neg h0]; omega
    obtain ⟨T, hT⟩ : ∃ T, T = topN top := ⟨_, rfl⟩
    rw [← hT] at h1 ht
    subst h1
    clear hT
    go_enter Tryd.func20, Tryd.ntmps20
    unfold atV
    go_wp2_with fail
    obtain ⟨s1, sA, sR, sz⟩ := two_start w 28 28 #[.string (str l), .int .i64 0] #[.string ⟨#[]⟩, .int .i64 0]
    generalize (w.alloc (.cells #[.string (str l), .int .i64 0] 28)).alloc (.cells #[.string ⟨#[]⟩, .int .i64 0] 28) = v at s1 sA sR sz ⊢
    refine (anum_ok T HR.out ht hl _).mono ?_
    rintro e w1 ⟨rfl, hb⟩
    unfold atV
    go_wp2_with fail
    refine (abytes_short (n : Int) (.inr (by rw [List.length_drop]; omega)) _).mono ?_
    rintro e v3 ⟨rfl, hb2⟩
    have cR := ((sR.below hb sR.lt).alloc (.cells #[.string (str (l.drop k)), .int .i64 0] 28)).below hb2 (by rw [World.size_alloc]; have := (sR.below hb sR.lt).lt; omega)
    have r0 := cR.cell 0
    have r1 := cR.cell 1
    have g0 := cR.free 0
    have g1 := cR.free 1
    simp only [List.getElem?_toArray, List.getElem?_cons_zero, List.getElem?_cons_succ] at r0 r1
    have hB : Below w.heap.size w v3 := ((s1.trans (hb.mono s1.size)).alloc (Nat.le_trans s1.size hb.size) _).trans (hb2.mono (by rw [World.size_alloc]; have := s1.size; have := hb.size; omega))
    unfold atV
    go_wp2_with fail
    refine bodyPost_ret (v := .tuple #[.agg #[.string (str (l.drop k)), .int .i64 4], .string (str ([]))]) (by simp [results, Tryd.results20, go_sem, r0, r1]) rfl ⟨rfl, below_two hB _ _⟩
set_option maxHeartbeats 4000000 in
set_option maxRecDepth 100000 in
theorem atext_err {l : List UInt8} (top : Int) (htop : top ≤ 9223372036854775807) (e0 : Nat) (he : e0 ≠ 0) (w : World) :
    Calls Tryd.prog 20 #[atV l e0, .int .i64 top] w fun e w' => e = .returned (.tuple #[atV l e0, .string (str [])]) ∧ Below w.heap.size w w' := by
  have hsz := str_size
  have HE := Lib.hid he
  clear he
  by_cases h0 : top < 0
  · have h1 : topN top = 0 := if_pos h0
    go_enter Tryd.func20, Tryd.ntmps20
    unfold atV
    go_wp2_with fail
    obtain ⟨s1, sA, sR, sz⟩ := two_start w 28 28 #[.string (str l), .int .i64 (e0 : Int)] #[.string ⟨#[]⟩, .int .i64 0]
    generalize (w.alloc (.cells #[.string (str l), .int .i64 (e0 : Int)] 28)).alloc (.cells #[.string ⟨#[]⟩, .int .i64 0] 28) = v at s1 sA sR sz ⊢
    refine (anum_err 0 e0 HE.out _).mono ?_
    rintro e w1 ⟨rfl, hb⟩
    unfold atV
    go_wp2_with fail
    refine (abytes_err _ e0 HE.out _).mono ?_
    rintro e v3 ⟨rfl, hb2⟩
    have cR := ((sR.below hb sR.lt).alloc (.cells #[.string (str (l)), .int .i64 (e0 : Int)] 28)).below hb2 (by rw [World.size_alloc]; have := (sR.below hb sR.lt).lt; omega)
    have r0 := cR.cell 0
    have r1 := cR.cell 1
    have g0 := cR.free 0
    have g1 := cR.free 1
    simp only [List.getElem?_toArray, List.getElem?_cons_zero, List.getElem?_cons_succ] at r0 r1
    have hB : Below w.heap.size w v3 := ((s1.trans (hb.mono s1.size)).alloc (Nat.le_trans s1.size hb.size) _).trans (hb2.mono (by rw [World.size_alloc]; have := s1.size; have := hb.size; omega))
    unfold atV
    go_wp2_with fail
    refine bodyPost_ret (v := .tuple #[.agg #[.string (str (l)), .int .i64 (e0 : Int)], .string (str ([]))]) (by simp [results, Tryd.results20, go_sem, r0, r1]) rfl ⟨rfl, below_two hB _ _⟩
  · have h1 : (topN top : Int) = top := by unfold topN; rw [if_neg h0]; omega
    obtain ⟨T, hT⟩ : ∃ T, T = topN top := ⟨_, rfl⟩
    rw [← hT] at h1
    subst h1
    clear hT
    go_enter Tryd.func20, Tryd.ntmps20
    unfold atV
    go_wp2_with fail
    obtain ⟨s1, sA, sR, sz⟩ := two_start w 28 28 #[.string (str l), .int .i64 (e0 : Int)] #[.string ⟨#[]⟩, .int .i64 0]
    generalize (w.alloc (.cells #[.string (str l), .int .i64 (e0 : Int)] 28)).alloc (.cells #[.string ⟨#[]⟩, .int .i64 0] 28) = v at s1 sA sR sz ⊢
    refine (anum_err T e0 HE.out _).mono ?_
    rintro e w1 ⟨rfl, hb⟩
    unfold atV
    go_wp2_with fail
    refine (abytes_err _ e0 HE.out _).mono ?_
    rintro e v3 ⟨rfl, hb2⟩
    have cR := ((sR.below hb sR.lt).alloc (.cells #[.string (str (l)), .int .i64 (e0 : Int)] 28)).below hb2 (by rw [World.size_alloc]; have := (sR.below hb sR.lt).lt; omega)
    have r0 := cR.cell 0
    have r1 := cR.cell 1
    have g0 := cR.free 0
    have g1 := cR.free 1
    simp only [List.getElem?_toArray, List.getElem?_cons_zero, List.getElem?_cons_succ] at r0 r1
    have hB : Below w.heap.size w v3 := ((s1.trans (hb.mono s1.size)).alloc (Nat.le_trans s1.size hb.size) _).trans (hb2.mono (by rw [World.size_alloc]; have := s1.size; have := hb.size; omega))
    unfold atV
    go_wp2_with fail
    refine bodyPost_ret (v := .tuple #[.agg #[.string (str (l)), .int .i64 (e0 : Int)], .string (str ([]))]) (by simp [results, Tryd.results20, go_sem, r0, r1]) rfl ⟨rfl, below_two hB _ _⟩
end Go.Proofs.YtmoammadibepkaaDoor.Wirey
