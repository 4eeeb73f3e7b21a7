/- Layer 13: what its laws begin with. No condition. -/
import Derived.Test.YtajpmlmacnomfaaLogCalls
import Derived.Test.YtajpmlmacnomfaaBits
import Derived.Test.YtajpmlmacnomfaaRegion
import Derived.Lib.Hide
import Derived.BigQuiet
namespace Go.Proofs.Ytajpmlmacnomfaa.Logy
open Go.ChangeShapes Go.WideShapes Go.ChangeAt Go.RowKit
open Wirey (Blk Row str str_size str_list str_cat Kp)
open Regy Slsy

theorem HeldL.mv {w0 w w' : World} {P P' : Nat → Prop} (hM : Mv P P' w w') (hb : Below w0.heap.size w0 w) {b base most : Nat} {l : List Rc} (h : HeldL w0 w P b base most l) : Below w0.heap.size w0 w' := hM.below hb fun k hk => (h.low k hk).1
theorem add_next {base most : Nat} {l : List Rc} {x : Rc} (hx : x.seq = base + l.length + 1) (hm : l.length < most) : addE base most l x = 0 ∧ addL base most l x = l ++ [x] := by
  unfold addE addL
  rw [if_neg (by omega), if_neg (by omega), if_neg (by omega), if_neg (by omega)]; exact ⟨rfl, rfl⟩
theorem add_wrong {base most : Nat} {l : List Rc} {x : Rc} (hx : x.seq ≠ base + l.length + 1) : addE base most l x = 123 ∧ addL base most l x = l := by
  unfold addE addL
  rw [if_pos hx, if_pos hx]; exact ⟨rfl, rfl⟩
/-- n records that follow one another. -/
def rowOf (base n : Nat) : List Rc := (List.range n).map fun i => Rc.of (base + i + 1) 0
theorem rowOf_len {base n : Nat} : (rowOf base n).length = n := by simp [rowOf]
theorem rowOf_succ {base n : Nat} : rowOf base (n + 1) = rowOf base n ++ [Rc.of (base + n + 1) 0] := by simp [rowOf, List.range_succ]
theorem rowOf_at {base n i : Nat} (h : i < n) : (rowOf base n)[i]? = some (Rc.of (base + i + 1) 0) := by simp [rowOf, h]
set_option maxHeartbeats 2000000 in
set_option maxRecDepth 100000 in
theorem awake_c (w : World) : Calls Try.prog 9 #[] w fun e w' => e = .returned (.bool true) ∧ Below w.heap.size w w' := by
  go_enter Try.func9, Try.ntmps9
  go_wp2_with fail
  refine (new_ok 5 4 (by omega) (by omega) _).mono ?_
  rintro e w1 ⟨P, b, rfl, hH, hb⟩
  go_wp2_with fail
  refine (add_c (Rc.of 6 0) (by show 6 < _; omega) (by omega) hH).mono ?_
  rintro e v1 ⟨rfl, P1, hH1, hM⟩
  obtain ⟨e1, e2⟩ : addE 5 4 [] (Rc.of 6 0) = 0 ∧ addL 5 4 [] (Rc.of 6 0) = [Rc.of 6 0] := add_next rfl (by decide)
  rw [e1]
  rw [e2] at hH1
  have hb1 := HeldL.mv hM hb hH
  clear hH hM hb e1 e2
  have hH := hH1
  have hb := hb1
  clear hH1 hb1
  go_wp2_with fail
  refine (add_c (Rc.of 7 0) (by show 7 < _; omega) (by omega) hH).mono ?_
  rintro e v2 ⟨rfl, P2, hH2, hM⟩
  obtain ⟨e1, e2⟩ : addE 5 4 [Rc.of 6 0] (Rc.of 7 0) = 0 ∧ addL 5 4 [Rc.of 6 0] (Rc.of 7 0) = [Rc.of 6 0, Rc.of 7 0] := add_next rfl (by decide)
  rw [e1]
  rw [e2] at hH2
  have hb2 := HeldL.mv hM hb hH
  clear hH hM hb e1 e2
  have hH := hH2
  have hb := hb2
  clear hH2 hb2
  go_wp2_with fail
  refine (add_c (Rc.of 9 0) (by show 9 < _; omega) (by omega) hH).mono ?_
  rintro e v3 ⟨rfl, P3, hH3, hM⟩
  obtain ⟨e1, e2⟩ : addE 5 4 [Rc.of 6 0, Rc.of 7 0] (Rc.of 9 0) = 123 ∧ addL 5 4 [Rc.of 6 0, Rc.of 7 0] (Rc.of 9 0) = [Rc.of 6 0, Rc.of 7 0] := add_wrong (by decide)
  rw [e1]
  rw [e2] at hH3
  have hb3 := HeldL.mv hM hb hH
  clear hH hM hb e1 e2
  have hH := hH3
  have hb := hb3
  clear hH3 hb3
  go_wp2_with fail
  refine (from_c 6 (by omega) 10 (by omega) (by omega) hH).mono ?_
  rintro e w5 ⟨v, rfl, hO, hbn⟩
  have hf : fromL 5 [Rc.of 6 0, Rc.of 7 0] 6 10 = [Rc.of 7 0] := rfl
  have hi : inL 5 [Rc.of 6 0, Rc.of 7 0] 6 = true := by decide
  rw [hf] at hO
  rw [hi]
  obtain ⟨a, c, rfl⟩ := hO.form
  obtain ⟨g, rfl, -, hg, hcell⟩ := hO.at_ Rc.len (i := 0) (x := Rc.of 7 0) rfl
  have c0 : w5.cell? ⟨g, 0, none⟩ = some (.int .u64 7) := hcell w5 rfl 0 (by omega)
  have hH2 := hH.below hbn
  have hb2 := hb.trans (hbn.mono hb.size)
  clear hH hb hbn hcell hO hf hi
  simp only [List.length_cons, List.length_nil]
  go_wp2_with fail
  refine (base_c hH2).mono ?_
  rintro e w6 ⟨rfl, hbn⟩
  have hH3 := hH2.below hbn
  have hb3 := hb2.trans (hbn.mono hb2.size)
  clear hH2 hb2 hbn c0
  go_wp2_with fail
  refine (last_c (by omega) hH3).mono ?_
  rintro e w7 ⟨rfl, hbn⟩
  have hb4 := hb3.trans (hbn.mono hb3.size)
  go_wp2_with fail
  go_ret
  exact ⟨rfl, hb4⟩
end Go.Proofs.Ytajpmlmacnomfaa.Logy
