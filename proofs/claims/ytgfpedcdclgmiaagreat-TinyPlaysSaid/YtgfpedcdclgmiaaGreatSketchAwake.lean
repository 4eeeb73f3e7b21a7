/- What the laws of layer 5 begin with: a key that was added three times; a text that is not too long. No condition. -/
import Derived.Test.YtgfpedcdclgmiaaGreatSketchAdd
namespace Go.Proofs.YtgfpedcdclgmiaaGreat.Sketchy
open Go.ChangeShapes Go.WideShapes Go.ChangeAt Go.RowKit
open Wirey (Blk Row str str_size str_list str_take Kp)

/-- At most 80 bytes of a text. -/
def fewL (l : List UInt8) : List UInt8 := if 80 < l.length then l.take 80 else l
theorem fewL_le (l : List UInt8) : (fewL l).length ≤ 80 := by
  unfold fewL
  split
  · rw [List.length_take]; omega
  · omega
/-! The key, added three times -/
def keyK : Nat → Nat := ksOf (Mixy.text 1 [107, 101, 121]) 64
def nthK : Nat → Sk
  | 0 => Sk.new 64 1
  | n + 1 => (nthK n).add keyK
theorem nthK_wf : ∀ n, (nthK n).Wf
  | 0 => Sk.new_wf (by omega) (by omega) (by omega)
  | n + 1 => (nthK_wf n).add
theorem nthK_wide : ∀ n, (nthK n).wide = 64 ∧ (nthK n).seed = 1
  | 0 => ⟨rfl, rfl⟩
  | n + 1 => by
    have h := Sk.add_fix (s := nthK n) (ks := keyK)
    have ih := nthK_wide n
    exact ⟨h.1.trans ih.1, h.2.trans ih.2⟩
theorem nthK_3 : (nthK 3).seen keyK = 3 ∧ (nthK 3).added = 3 := by decide +kernel
theorem six_below {B : Nat} {w w' : World} {C : Nat} (h : Kp (Six B) w w') (hC : C ≤ B) (hs : C ≤ w.heap.size) : Below C w w' :=
  ⟨h.os, h.tape, h.output, h.size, fun k hk => h.block k (by omega) (fun e => by have := e.1; omega)⟩

end Go.Proofs.YtgfpedcdclgmiaaGreat.Sketchy
