/- One addition behind the other, over a list of texts; until it ages, no key is said to be seen less often than it was, up to sixteen times. -/
import Derived.Test.YtlimoelknmbcgaaSketchAwake
namespace Go.Proofs.Ytlimoelknmbcgaa.Sketchy
open Go.ChangeShapes Go.WideShapes Go.ChangeAt Go.RowKit
open Wirey (str str_size)

def keyOf (seed wide : Nat) (l : List UInt8) : Nat → Nat := ksOf (Mixy.text seed (fewL l)) wide
def runs (wide seed : Nat) (T : Nat → List UInt8) : Nat → Sk
  | 0 => Sk.new wide seed
  | i + 1 => (runs wide seed T i).add (keyOf seed wide (T i))
section
variable {wide seed : Nat} {T : Nat → List UInt8}
theorem runs_wf (h1 : 1 ≤ wide) (h2 : wide ≤ 4096) (h3 : seed < 18446744073709551616) : ∀ i, (runs wide seed T i).Wf
  | 0 => Sk.new_wf h1 h2 h3
  | i + 1 => (runs_wf h1 h2 h3 i).add
theorem runs_fix : ∀ i, (runs wide seed T i).wide = wide ∧ (runs wide seed T i).seed = seed
  | 0 => ⟨rfl, rfl⟩
  | i + 1 => by
    have h := Sk.add_fix (s := runs wide seed T i) (ks := keyOf seed wide (T i))
    have ih := runs_fix i
    exact ⟨h.1.trans ih.1, h.2.trans ih.2⟩
theorem runs_young : ∀ i, i < 10 * wide → (runs wide seed T i).added = i
  | 0, _ => rfl
  | i + 1, h => by
    have ih := runs_young i (by omega)
    have hf := runs_fix (wide := wide) (seed := seed) (T := T) i
    show ((runs wide seed T i).add _).added = _
    rw [Sk.add, if_neg (by rw [hf.1, ih]; omega)]
    show ((runs wide seed T i).note _).added + 1 = _
    rw [Sk.note_fix.2.1, ih]
theorem runs_next {i : Nat} (h : i + 1 < 10 * wide) : runs wide seed T (i + 1) = ((runs wide seed T i).note (keyOf seed wide (T i))).count := by
  have hf := runs_fix (wide := wide) (seed := seed) (T := T) i
  show (runs wide seed T i).add _ = _
  rw [Sk.add, if_neg (by rw [hf.1, runs_young i (by omega)]; omega)]
/-- How many of the first i are the key. -/
def times (T : Nat → List UInt8) (key : List UInt8) : Nat → Nat
  | 0 => 0
  | i + 1 => times T key i + (if fewL (T i) = fewL key then 1 else 0)
theorem times_le (key : List UInt8) : ∀ i, times T key i ≤ i
  | 0 => Nat.le_refl _
  | i + 1 => by
    have := times_le key i
    unfold times
    split <;> omega
theorem runs_tells (h1 : 1 ≤ wide) (h2 : wide ≤ 4096) (h3 : seed < 18446744073709551616) (key : List UInt8) : ∀ i, i < 10 * wide → (runs wide seed T i).tells (keyOf seed wide key) (times T key i)
  | 0, _ => .inl rfl
  | i + 1, h => by
    have ih := runs_tells h1 h2 h3 key i (by omega)
    have hp := (runs_wf (T := T) h1 h2 h3 i).pre
    have hf := runs_fix (wide := wide) (seed := seed) (T := T) i
    rw [runs_next h]
    show ((runs wide seed T i).note (keyOf seed wide (T i))).tells (keyOf seed wide key) (times T key (i + 1))
    have hk : ∀ j, keyOf seed wide (T i) j < (runs wide seed T i).wide := fun j => by rw [hf.1]; exact ksOf_lt h1 j
    unfold times
    by_cases e : fewL (T i) = fewL key
    · rw [if_pos e]
      have e2 : keyOf seed wide (T i) = keyOf seed wide key := by unfold keyOf; rw [e]
      rw [e2] at hk ⊢
      exact ih.same hp fun j _ => hk j
    · rw [if_neg e]
      exact ih.other hp fun j _ => hk j
theorem runs_seen (h1 : 1 ≤ wide) (h2 : wide ≤ 4096) (h3 : seed < 18446744073709551616) (key : List UInt8) {i : Nat} (hi : i < 10 * wide) : min (times T key i) 16 ≤ (runs wide seed T i).seen (keyOf seed wide key) :=
  (runs_tells h1 h2 h3 key i hi).seen
/-- An addition of the next text. -/
theorem add_run {B : Nat} (h1 : 1 ≤ wide) (h2 : wide ≤ 4096) (h3 : seed < 18446744073709551616) (i : Nat) (w : World) (hA : At w B (runs wide seed T i)) :
    Calls Try.prog 13 #[.pointer (some ⟨B + 1, 0, none⟩), .string (str (fewL (T i)))] w fun e w' => e = .returned (.tuple #[]) ∧ At w' B (runs wide seed T (i + 1)) ∧ Wirey.Kp (Six B) w w' := by
  have h := add_c (fewL (T i)) (by have := fewL_le (T i); omega) w hA (runs_wf h1 h2 h3 i)
  have hf := runs_fix (wide := wide) (seed := seed) (T := T) i
  rw [hf.1, hf.2] at h
  exact h
theorem seen_run {B : Nat} (h1 : 1 ≤ wide) (h2 : wide ≤ 4096) (h3 : seed < 18446744073709551616) (i : Nat) (key : List UInt8) (w : World) (hA : At w B (runs wide seed T i)) :
    Calls Try.prog 11 #[.pointer (some ⟨B + 1, 0, none⟩), .string (str (fewL key))] w fun e w' => e = .returned (.int .i64 ((runs wide seed T i).seen (keyOf seed wide key) : Int)) ∧ ∃ m, w' = w.drewN m := by
  have h := seen_c (fewL key) (by have := fewL_le key; omega) w hA (runs_wf h1 h2 h3 i).pre
  have hf := runs_fix (wide := wide) (seed := seed) (T := T) i
  rw [hf.1, hf.2] at h
  exact h
end
end Go.Proofs.Ytlimoelknmbcgaa.Sketchy
