/- What the laws that hold two sketches beside each other ask of both, text by text (layer 5). -/
import Derived.Test.YtlimoelknmbcgaaSketchPair
namespace Go.Proofs.Ytlimoelknmbcgaa.Sketchy
open Go.ChangeShapes Go.WideShapes Go.ChangeAt Go.RowKit
open Wirey (Blk Row str str_size str_list str_cat Kp)

section
variable {wide seed : Nat} {T : Nat → List UInt8}
theorem rseen_run (h1 : 1 ≤ wide) (h2 : wide ≤ 4096) (h3 : seed < 18446744073709551616) {R cap D : Nat} {G : Nat → Nat} (i : Nat) (key : List UInt8) (w : World) (hR : Ref w R D G (runs wide seed T i)) :
    Calls Try.prog 12 #[refV R cap D (runs wide seed T i), .string (str (fewL key))] w fun e w' => e = .returned (.int .i64 ((runs wide seed T i).seen (keyOf seed wide key) : Int)) ∧ Below w.heap.size w w' := by
  have h := rseen_c (runs_wf (T := T) h1 h2 h3 i).pre (cap := cap) (fewL key) (by have := fewL_le key; omega) w hR
  have hf := runs_fix (wide := wide) (seed := seed) (T := T) i
  rw [hf.1, hf.2] at h
  exact h
theorem radd_run (h1 : 1 ≤ wide) (h2 : wide ≤ 4096) (h3 : seed < 18446744073709551616) {R cap D : Nat} {G : Nat → Nat} (i : Nat) (w : World) (hR : Ref w R D G (runs wide seed T i)) :
    Calls Try.prog 14 #[refV R cap D (runs wide seed T i), .string (str (fewL (T i)))] w fun e w' => ∃ R' cap' D' G', e = .returned (refV R' cap' D' (runs wide seed T (i + 1))) ∧ Ref w' R' D' G' (runs wide seed T (i + 1)) ∧ Apart w.heap.size R' D' G' ∧ Below w.heap.size w w' := by
  have h := radd_c (runs_wf (T := T) h1 h2 h3 i) (cap := cap) (fewL (T i)) (by have := fewL_le (T i); omega) w hR
  have hf := runs_fix (wide := wide) (seed := seed) (T := T) i
  rw [hf.1, hf.2] at h
  exact h
end
section
variable {w x y : World} {B M R cap D : Nat} {G : Nat → Nat} {s t : Sk} {u0 u1 u2 u3 u4 : Value}
theorem keepP (hS : x.cell? ⟨M, 0, none⟩ = some u0 ∧ x.cell? ⟨M, 1, none⟩ = some u1 ∧ x.cell? ⟨M, 2, none⟩ = some u2 ∧ x.cell? ⟨M, 3, none⟩ = some u3 ∧ x.cell? ⟨M, 4, none⟩ = some u4 ∧ Pair w B M R cap D G s t x) (hb : Below x.heap.size x y) :
    y.cell? ⟨M, 0, none⟩ = some u0 ∧ y.cell? ⟨M, 1, none⟩ = some u1 ∧ y.cell? ⟨M, 2, none⟩ = some u2 ∧ y.cell? ⟨M, 3, none⟩ = some u3 ∧ y.cell? ⟨M, 4, none⟩ = some u4 ∧ Pair w B M R cap D G s t y :=
  ⟨keep_c hS.1 hb, keep_c hS.2.1 hb, keep_c hS.2.2.1 hb, keep_c hS.2.2.2.1 hb, keep_c hS.2.2.2.2.1 hb, hS.2.2.2.2.2.onto hb⟩
theorem keepPd (hS : x.cell? ⟨M, 0, none⟩ = some u0 ∧ x.cell? ⟨M, 1, none⟩ = some u1 ∧ x.cell? ⟨M, 2, none⟩ = some u2 ∧ x.cell? ⟨M, 3, none⟩ = some u3 ∧ x.cell? ⟨M, 4, none⟩ = some u4 ∧ Pair w B M R cap D G s t x) :
    x.drew.cell? ⟨M, 0, none⟩ = some u0 ∧ x.drew.cell? ⟨M, 1, none⟩ = some u1 ∧ x.drew.cell? ⟨M, 2, none⟩ = some u2 ∧ x.drew.cell? ⟨M, 3, none⟩ = some u3 ∧ x.drew.cell? ⟨M, 4, none⟩ = some u4 ∧ Pair w B M R cap D G s t x.drew :=
  ⟨hS.1, hS.2.1, hS.2.2.1, hS.2.2.2.1, hS.2.2.2.2.1, hS.2.2.2.2.2.drew⟩
theorem keepPn (m : Nat) (hS : x.cell? ⟨M, 0, none⟩ = some u0 ∧ x.cell? ⟨M, 1, none⟩ = some u1 ∧ x.cell? ⟨M, 2, none⟩ = some u2 ∧ x.cell? ⟨M, 3, none⟩ = some u3 ∧ x.cell? ⟨M, 4, none⟩ = some u4 ∧ Pair w B M R cap D G s t x) :
    (x.drewN m).cell? ⟨M, 0, none⟩ = some u0 ∧ (x.drewN m).cell? ⟨M, 1, none⟩ = some u1 ∧ (x.drewN m).cell? ⟨M, 2, none⟩ = some u2 ∧ (x.drewN m).cell? ⟨M, 3, none⟩ = some u3 ∧ (x.drewN m).cell? ⟨M, 4, none⟩ = some u4 ∧ Pair w B M R cap D G s t (x.drewN m) :=
  ⟨hS.1, hS.2.1, hS.2.2.1, hS.2.2.2.1, hS.2.2.2.2.1, hS.2.2.2.2.2.drewN m⟩
theorem sP (hS : x.cell? ⟨M, 0, none⟩ = some u0 ∧ x.cell? ⟨M, 1, none⟩ = some u1 ∧ x.cell? ⟨M, 2, none⟩ = some u2 ∧ x.cell? ⟨M, 3, none⟩ = some u3 ∧ x.cell? ⟨M, 4, none⟩ = some u4 ∧ Pair w B M R cap D G s t x) : Pair w B M R cap D G s t x := hS.2.2.2.2.2
end
end Go.Proofs.Ytlimoelknmbcgaa.Sketchy
