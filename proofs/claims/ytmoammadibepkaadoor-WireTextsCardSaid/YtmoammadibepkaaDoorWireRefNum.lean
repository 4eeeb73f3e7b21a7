/- The contract of the document's own reading of a number (layer 3): whatever bytes, whatever limit. Nothing that was there turns. -/
import Derived.Test.YtmoammadibepkaaDoorWireRef
import Derived.Test.YtmoammadibepkaaDoorWireNumF
import Derived.Test.YtmoammadibepkaaDoorWireNumb
namespace Go.Proofs.YtmoammadibepkaaDoor.Wirey
open Go.ChangeShapes Go.WideShapes Go.ChangeAt Go.RowKit

/-- Why it is no number of at most so much. -/
def nErr (l : List UInt8) (top : Nat) : Nat := if (numF l).2.2 ≠ 0 then (numF l).2.2 else if top < (numF l).1 then 3 else 0
def nVal (l : List UInt8) (top : Nat) : Nat := if nErr l top = 0 then (numF l).1 else 0
/-- What a number taken comes to. -/
def NumEnd (l : List UInt8) (top : Nat) (w : World) (e : Ending) (w' : World) : Prop :=
  Below w.heap.size w w' ∧ ∃ m, e = .returned (.tuple #[atV m (nErr l top), .int .u64 (nVal l top : Int)]) ∧ (nErr l top = 0 → m = l.drop (numF l).2.1)
theorem nEnd_bad {l : List UInt8} {n k e0 : Nat} {top : Nat} {w w' : World} {e : Ending} (h : numF l = (n, k, e0)) (he : e0 ≠ 0) (m : List UInt8) (hb : Below w.heap.size w w') (hr : e = .returned (.tuple #[atV m e0, .int .u64 0])) : NumEnd l top w e w' := by
  have h1 : nErr l top = e0 := by unfold nErr; rw [h, if_pos he]
  have h2 : nVal l top = 0 := by unfold nVal; rw [h1, if_neg he]
  exact ⟨hb, m, by rw [h1, h2]; exact hr, fun h => absurd (h1.symm.trans h) he⟩
theorem nEnd_over {l : List UInt8} {n k : Nat} {top : Nat} {w w' : World} {e : Ending} (h : numF l = (n, k, 0)) (ht : top < n) (m : List UInt8) (hb : Below w.heap.size w w') (hr : e = .returned (.tuple #[atV m 3, .int .u64 0])) : NumEnd l top w e w' := by
  have h1 : nErr l top = 3 := by unfold nErr; rw [h, if_neg (by simp), if_pos ht]
  have h2 : nVal l top = 0 := by unfold nVal; rw [h1]; rfl
  exact ⟨hb, m, by rw [h1, h2]; exact hr, fun h => by rw [h1] at h; simp at h⟩
theorem nEnd_ok {l : List UInt8} {n k : Nat} {top : Nat} {w w' : World} {e : Ending} (h : numF l = (n, k, 0)) (ht : ¬ top < n) (hb : Below w.heap.size w w') (hr : e = .returned (.tuple #[atV (l.drop k) 0, .int .u64 (n : Int)])) : NumEnd l top w e w' := by
  have h1 : nErr l top = 0 := by unfold nErr; rw [h, if_neg (by simp), if_neg ht]
  have h2 : nVal l top = n := by unfold nVal; rw [h1, if_pos rfl, h]
  exact ⟨hb, l.drop k, by rw [h1, h2]; exact hr, fun _ => by rw [h]⟩
theorem unt_succ (k : Nat) : unt (k + 1) = unt k * 128 := by unfold unt; exact Nat.pow_succ ..
theorem below_five {w w1 : World} (h : Below w.heap.size w w1) (a b c d : Value) (o : Obj) :
    Below w.heap.size w (((((w1.setCell ⟨w.heap.size, 0, none⟩ a).setCell ⟨w.heap.size, 1, none⟩ b).setCell ⟨w.heap.size + 1, 0, none⟩ c).setCell ⟨w.heap.size + 1, 1, none⟩ d).alloc o) :=
  ((((h.setCell (p := ⟨w.heap.size, 0, none⟩) (Nat.le_refl _) a).setCell (p := ⟨w.heap.size, 1, none⟩) (Nat.le_refl _) b).setCell (p := ⟨w.heap.size + 1, 0, none⟩) (Nat.le_succ _) c).setCell (p := ⟨w.heap.size + 1, 1, none⟩) (Nat.le_succ _) d).alloc (by simpa [World.setCell] using h.size) o

theorem step_blk {w w1 : World} {t : TypeId} {ys : Array Value} {x0 x1 : Value} (h : Below w.heap.size w w1) (hA : Blk w1 w.heap.size t #[x0, x1]) (hR : Blk w1 (w.heap.size + 1) t ys) (a b : Value) (o : Obj) :
    Blk (((w1.setCell ⟨w.heap.size, 0, none⟩ a).setCell ⟨w.heap.size, 1, none⟩ b).alloc o) w.heap.size t #[a, b] ∧ Blk (((w1.setCell ⟨w.heap.size, 0, none⟩ a).setCell ⟨w.heap.size, 1, none⟩ b).alloc o) (w.heap.size + 1) t ys ∧
    Below w.heap.size w (((w1.setCell ⟨w.heap.size, 0, none⟩ a).setCell ⟨w.heap.size, 1, none⟩ b).alloc o) :=
  ⟨((hA.put 0 a).put 1 b).alloc o, ((hR.far (p := ⟨w.heap.size, 0, none⟩) (by show w.heap.size + 1 ≠ w.heap.size; omega) a).far (p := ⟨w.heap.size, 1, none⟩) (by show w.heap.size + 1 ≠ w.heap.size; omega) b).alloc o,
    ((h.setCell (p := ⟨w.heap.size, 0, none⟩) (Nat.le_refl _) a).setCell (p := ⟨w.heap.size, 1, none⟩) (Nat.le_refl _) b).alloc (by simpa [World.setCell] using h.size) o⟩
theorem below_three {w v : World} (h : Below w.heap.size w v) (a b c : Value) : Below w.heap.size w (((v.setCell ⟨w.heap.size, 1, none⟩ a).setCell ⟨w.heap.size + 1, 0, none⟩ b).setCell ⟨w.heap.size + 1, 1, none⟩ c) :=
  ((h.setCell (p := ⟨w.heap.size, 1, none⟩) (Nat.le_refl _) a).setCell (p := ⟨w.heap.size + 1, 0, none⟩) (Nat.le_succ _) b).setCell (p := ⟨w.heap.size + 1, 1, none⟩) (Nat.le_succ _) c
theorem below_two {w v : World} (h : Below w.heap.size w v) (b c : Value) : Below w.heap.size w ((v.setCell ⟨w.heap.size + 1, 0, none⟩ b).setCell ⟨w.heap.size + 1, 1, none⟩ c) :=
  (h.setCell (p := ⟨w.heap.size + 1, 0, none⟩) (Nat.le_succ _) b).setCell (p := ⟨w.heap.size + 1, 1, none⟩) (Nat.le_succ _) c

set_option maxHeartbeats 8000000 in
set_option maxRecDepth 100000 in
theorem anum_c {l : List UInt8} (top : Nat) (hl : l.length < 1099511627776) (w : World) :
    Calls Tryd.prog 13 #[atV l 0, .int .u64 (top : Int)] w (NumEnd l top w) := by
  have hsz := str_size
  go_enter Tryd.func13, Tryd.ntmps13
  unfold atV
  go_wp2_with fail
  go_loopw [6, 7, 8, 9, 10, 11] (fun n u i _ _ _ wr => ∃ k : Nat, k ≤ 9 ∧ k ≤ l.length ∧ i = .int .i64 k ∧ u = .int .u64 (unt k : Int) ∧ n = .int .u64 (val (l.take k) : Int) ∧ Go1 (l.take k) ∧
    Blk wr w.heap.size 28 #[.string (str (l.drop k)), .int .i64 0] ∧ Blk wr (w.heap.size + 1) 28 #[.string ⟨#[]⟩, .int .i64 0] ∧ Below w.heap.size w wr) (fun _ _ i _ _ _ _ => 10 - (intOf i).toNat)
  case atStart =>
    obtain ⟨h1, b0, b1, hs⟩ := two_start w 28 28 #[.string (str l), .int .i64 0] #[.string ⟨#[]⟩, .int .i64 0]
    exact ⟨0, by omega, by omega, rfl, rfl, rfl, fun _ h => absurd h (by simp), b0, b1, h1⟩
  case round =>
    obtain ⟨k, hk9, hkl, rfl, rfl, rfl, hg, bA, bR, hW⟩ := hrel
    have e0 := bA.cell 0
    have e1 := bA.cell 1
    have f0 := bA.free 0
    have f1 := bA.free 1
    have r0 := bR.cell 0
    have r1 := bR.cell 1
    have g0 := bR.free 0
    have g1 := bR.free 1
    simp only [List.getElem?_toArray, List.getElem?_cons_zero, List.getElem?_cons_succ] at e0 e1 r0 r1
    have HG := Lib.hid hg
    clear hg
    by_cases hlt : k < l.length
    · obtain ⟨c, hc⟩ : ∃ c, c = l[k] := ⟨_, rfl⟩
      have hd : l.drop k = c :: l.drop (k + 1) := by rw [hc]; exact List.drop_eq_getElem_cons hlt
      have HD := Lib.hid hd
      have ht : l.take (k + 1) = l.take k ++ [c] := by rw [hc]; exact List.take_succ_eq_append_getElem hlt
      have HT := Lib.hid ht
      have hkt : (l.take k).length = k := by rw [List.length_take]; omega
      have hcl := c.toNat_lt
      have hv : ∀ hh, (str [c])[0]'hh = c := fun _ => rfl
      clear hc hd ht
      go_wp2_with fail
      refine (abytes_ok (l := l.drop k) 1 (by rw [List.length_drop]; omega) _).mono ?_
      rintro e w1 ⟨rfl, hb⟩
      have cA := bA.below hb bA.lt
      have cR := bR.below hb bR.lt
      rw [HD.out] at cA
      have sA := cA.lt
      have e0 := cA.cell 0
      have e1 := cA.cell 1
      have f0 := cA.free 0
      have f1 := cA.free 1
      simp only [List.getElem?_toArray, List.getElem?_cons_zero, List.getElem?_cons_succ] at e0 e1
      rw [HD.out, List.drop_succ_cons, List.drop_zero, List.take_succ_cons, List.take_zero]
      unfold atV
      go_upto_region 7 with fail
      obtain ⟨vA, vR, hV⟩ := step_blk (hW.trans (hb.mono hW.size)) cA cR (.string (str (l.drop (k + 1)))) (.int .i64 0) (.cells #[.string (str (l.drop (k + 1))), .int .i64 0] 28)
      generalize (((w1.setCell ⟨w.heap.size, 0, none⟩ (.string (str (l.drop (k + 1))))).setCell ⟨w.heap.size, 1, none⟩ (.int .i64 0)).alloc (.cells #[.string (str (l.drop (k + 1))), .int .i64 0] 28)) = v at vA vR hV ⊢
      clear cA cR sA e0 e1 f0 f1 hb hW bA bR
      have e0 := vA.cell 0
      have e1 := vA.cell 1
      have f0 := vA.free 0
      have f1 := vA.free 1
      have r0 := vR.cell 0
      have r1 := vR.cell 1
      have g0 := vR.free 0
      have g1 := vR.free 1
      simp only [List.getElem?_toArray, List.getElem?_cons_zero, List.getElem?_cons_succ] at e0 e1 r0 r1
      have hB3 := below_three hV
      have hB2 := below_two hV
      by_cases hA : k = 9 ∧ 1 < c.toNat
      · have hF : numF l = (0, 0, 6) := by
          by_cases h128 : 128 ≤ c.toNat
          · refine numF_long (go1_lastOf (k := 10) (by omega) ?_)
            have := go1_snoc HG.out h128
            rw [← HT.out, hA.1] at this; exact this
          · have := numF_split (rest := l.drop (k + 1)) HG.out (show c.toNat < 128 by omega)
            rw [← HD.out, List.take_append_drop, hkt] at this
            rw [this, if_pos]
            unfold bad; simp [hA.1, hA.2]
        have HF := Lib.hid hF
        obtain ⟨h9, hA⟩ := hA
        have h9' : ((k : Int) == 9) = true := by rw [beq_iff_eq]; omega
        clear hF h9
        go_wp2_with fail
        refine bodyPost_ret (v := .tuple #[.agg #[.string (str (l.drop (k + 1))), .int .i64 6], .int .u64 0]) (by simp [results, Tryd.results13, go_sem, r0, r1]) rfl ?_
        exact nEnd_bad HF.out (by decide) _ (hB3 _ _ _) rfl
      · by_cases hZ : 0 < k ∧ c.toNat = 0
        · have hF : numF l = (0, 0, 6) := by
            have := numF_split (rest := l.drop (k + 1)) HG.out (show c.toNat < 128 by omega)
            rw [← HD.out, List.take_append_drop, hkt] at this
            rw [this, if_pos]
            unfold bad; simp [hZ.1, hZ.2]
          have HF := Lib.hid hF
          obtain ⟨h0, hZ⟩ := hZ
          have hz1 : ((c.toNat : Int) == 0) = true := by rw [beq_iff_eq]; omega
          have hz2 : ¬ 1 < c.toNat := by omega
          clear hF hZ hA
          by_cases h9 : k = 9
          · have h9' : ((k : Int) == 9) = true := by rw [beq_iff_eq]; omega
            clear h9
            go_wp2_with fail
            refine bodyPost_ret (v := .tuple #[.agg #[.string (str (l.drop (k + 1))), .int .i64 6], .int .u64 0]) (by simp [results, Tryd.results13, go_sem, r0, r1]) rfl ?_
            exact nEnd_bad HF.out (by decide) _ (hB3 _ _ _) rfl
          · have h9' : ((k : Int) == 9) = false := by rw [beq_eq_false_iff_ne]; omega
            clear h9
            go_wp2_with fail
            refine bodyPost_ret (v := .tuple #[.agg #[.string (str (l.drop (k + 1))), .int .i64 6], .int .u64 0]) (by simp [results, Tryd.results13, go_sem, r0, r1]) rfl ?_
            exact nEnd_bad HF.out (by decide) _ (hB3 _ _ _) rfl
        · have hbad : ¬ bad k c = true := by
            unfold bad
            simp only [Bool.or_eq_true, Bool.and_eq_true, decide_eq_true_eq]
            omega
          have hVs := val_snoc (l.take k) c
          rw [← HT.out, hkt] at hVs
          have hvl := val_lt (l.take k)
          rw [hkt] at hvl
          have hun : 128 ^ k = unt k := rfl
          rw [hun] at hVs hvl
          have hule := unt_le hk9
          have hprod : c.toNat % 128 * unt k ≤ 9223372036854775808 := by
            by_cases h9 : k = 9
            · have : c.toNat % 128 * unt k ≤ 1 * unt k := Nat.mul_le_mul_right _ (by omega)
              omega
            · have h8 : unt k ≤ 72057594037927936 := Nat.pow_le_pow_right (n := 128) (by omega) (show k ≤ 8 by omega)
              have : c.toNat % 128 * unt k ≤ 128 * 72057594037927936 := Nat.mul_le_mul (by omega) h8
              omega
          obtain ⟨V, hV0⟩ : ∃ V, V = val (l.take (k + 1)) := ⟨_, rfl⟩
          rw [← hV0] at hVs
          have HV := Lib.hid hV0
          have hVl : V < 18446744073709551616 := by omega
          have p0 : 0 ≤ (c.toNat : Int) % 128 * (unt k : Int) := by
            have : (c.toNat : Int) % 128 * (unt k : Int) = ((c.toNat % 128 * unt k : Nat) : Int) := by simp
            omega
          have p1 : (c.toNat : Int) % 128 * (unt k : Int) ≤ 9223372036854775808 := by
            have : (c.toNat : Int) % 128 * (unt k : Int) = ((c.toNat % 128 * unt k : Nat) : Int) := by simp
            omega
          have hsum : ((val (l.take k) : Nat) : Int) + (c.toNat : Int) % 128 * (unt k : Int) = (V : Int) := by
            rw [hVs]; simp
          clear hVs hV0 hprod hun
          have hz1 : 0 < k → ((c.toNat : Int) == 0) = false := fun h => by rw [beq_eq_false_iff_ne]; omega
          by_cases h9 : k = 9
          · have h9' : ((k : Int) == 9) = true := by rw [beq_iff_eq]; omega
            have hz := hz1 (by omega)
            have hc1 : c.toNat ≤ 1 := by omega
            have hk0 : 0 < k := by omega
            have hF : numF l = (V, k + 1, 0) := by
              have := numF_split (rest := l.drop (k + 1)) HG.out (show c.toNat < 128 by omega)
              rw [← HD.out, List.take_append_drop, hkt] at this
              rw [this, if_neg, ← HT.out, HV.out]
              exact hbad
            have HF := Lib.hid hF
            clear hF hz1 hA hZ hbad h9
            by_cases ht : top < V
            · go_wp2_with fail
              refine bodyPost_ret (v := .tuple #[.agg #[.string (str (l.drop (k + 1))), .int .i64 3], .int .u64 0]) (by simp [results, Tryd.results13, go_sem, r0, r1]) rfl ?_
              exact nEnd_over HF.out ht _ (hB3 _ _ _) rfl
            · go_wp2_with fail
              refine bodyPost_ret (v := .tuple #[.agg #[.string (str (l.drop (k + 1))), .int .i64 0], .int .u64 (V : Int)]) (by simp [results, Tryd.results13, go_sem, r0, r1]) rfl ?_
              exact nEnd_ok HF.out ht (hB2 _ _) rfl
          · have h9' : ((k : Int) == 9) = false := by rw [beq_eq_false_iff_ne]; omega
            by_cases h0 : 0 < k
            · have hz := hz1 h0
              clear hz1 hA hZ
              by_cases h128 : 128 ≤ c.toNat
              · have hg2 : Hid (Go1 (l.take (k + 1))) := by have := go1_snoc HG.out h128; rw [← HT.out] at this; exact this
                have hu8 : unt k ≤ 72057594037927936 := Nat.pow_le_pow_right (n := 128) (by omega) (show k ≤ 8 by omega)
                have hus := Lib.hid (unt_succ k)
                go_wp2_with fail
                go_roundw
                case rel => (repeat apply Exists.intro); exact ⟨⟨k + 1, by omega, by omega, by go_num, by rw [hus.out]; go_num, by rw [HV.out], hg2.out, vA, vR, hV⟩, rfl⟩
                case measure => simp [intOf]; omega
              · have hF : numF l = (V, k + 1, 0) := by
                  have := numF_split (rest := l.drop (k + 1)) HG.out (show c.toNat < 128 by omega)
                  rw [← HD.out, List.take_append_drop, hkt] at this
                  rw [this, if_neg, ← HT.out, HV.out]
                  exact hbad
                have HF := Lib.hid hF
                clear hF
                by_cases ht : top < V
                · go_wp2_with fail
                  refine bodyPost_ret (v := .tuple #[.agg #[.string (str (l.drop (k + 1))), .int .i64 3], .int .u64 0]) (by simp [results, Tryd.results13, go_sem, r0, r1]) rfl ?_
                  exact nEnd_over HF.out ht _ (hB3 _ _ _) rfl
                · go_wp2_with fail
                  refine bodyPost_ret (v := .tuple #[.agg #[.string (str (l.drop (k + 1))), .int .i64 0], .int .u64 (V : Int)]) (by simp [results, Tryd.results13, go_sem, r0, r1]) rfl ?_
                  exact nEnd_ok HF.out ht (hB2 _ _) rfl
            · clear hz1 hA hZ
              by_cases h128 : 128 ≤ c.toNat
              · have hg2 : Hid (Go1 (l.take (k + 1))) := by have := go1_snoc HG.out h128; rw [← HT.out] at this; exact this
                have hu8 : unt k ≤ 72057594037927936 := Nat.pow_le_pow_right (n := 128) (by omega) (show k ≤ 8 by omega)
                have hus := Lib.hid (unt_succ k)
                go_wp2_with fail
                go_roundw
                case rel => (repeat apply Exists.intro); exact ⟨⟨k + 1, by omega, by omega, by go_num, by rw [hus.out]; go_num, by rw [HV.out], hg2.out, vA, vR, hV⟩, rfl⟩
                case measure => simp [intOf]; omega
              · have hF : numF l = (V, k + 1, 0) := by
                  have := numF_split (rest := l.drop (k + 1)) HG.out (show c.toNat < 128 by omega)
                  rw [← HD.out, List.take_append_drop, hkt] at this
                  rw [this, if_neg, ← HT.out, HV.out]
                  exact hbad
                have HF := Lib.hid hF
                clear hF
                by_cases ht : top < V
                · go_wp2_with fail
                  refine bodyPost_ret (v := .tuple #[.agg #[.string (str (l.drop (k + 1))), .int .i64 3], .int .u64 0]) (by simp [results, Tryd.results13, go_sem, r0, r1]) rfl ?_
                  exact nEnd_over HF.out ht _ (hB3 _ _ _) rfl
                · go_wp2_with fail
                  refine bodyPost_ret (v := .tuple #[.agg #[.string (str (l.drop (k + 1))), .int .i64 0], .int .u64 (V : Int)]) (by simp [results, Tryd.results13, go_sem, r0, r1]) rfl ?_
                  exact nEnd_ok HF.out ht (hB2 _ _) rfl
    · go_wp2_with fail
      refine (abytes_short (l := l.drop k) 1 (.inr (by rw [List.length_drop]; omega)) _).mono ?_
      rintro e w1 ⟨rfl, hb⟩
      have cA := bA.below hb bA.lt
      have cR := bR.below hb bR.lt
      have sR := cR.lt
      have sA := cA.lt
      have e0 := cA.cell 0
      have e1 := cA.cell 1
      have f0 := cA.free 0
      have f1 := cA.free 1
      have r0 := cR.cell 0
      have r1 := cR.cell 1
      have g0 := cR.free 0
      have g1 := cR.free 1
      simp only [List.getElem?_toArray, List.getElem?_cons_zero, List.getElem?_cons_succ] at e0 e1 r0 r1
      unfold atV
      go_wp2_with fail
      have hB := below_five (hW.trans (hb.mono hW.size)) (.string (str (List.drop k l))) (.int .i64 4) (.string (str (List.drop k l))) (.int .i64 4) (.cells #[.string (str (List.drop k l)), .int .i64 4] 28)
      refine bodyPost_ret (v := .tuple #[.agg #[.string (str (List.drop k l)), .int .i64 4], .int .u64 0]) (by simp [results, Tryd.results13, go_sem, r0, r1, sR]) rfl ?_
      have hk : k = l.length := by omega
      exact nEnd_bad (numF_all (by have := HG.out; rw [List.take_of_length_le (by omega)] at this; exact this) (by omega)) (by decide) _ hB rfl
end Go.Proofs.YtmoammadibepkaaDoor.Wirey
