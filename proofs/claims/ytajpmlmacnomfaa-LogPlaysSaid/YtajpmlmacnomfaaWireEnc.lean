/- Contracts of layer 3's writers: a number's bytes, a text's, a check's, a frame's; the document's own answers for them. Nothing that was there turns. Condition: the table of halves holds what the program's text lays (the check), texts of at most 2^40 bytes. -/
import Derived.Test.YtajpmlmacnomfaaWireChk
import Derived.Test.YtajpmlmacnomfaaMem
import Derived.Test.YtajpmlmacnomfaaWireNums
import Derived.Recover
import Derived.RegionTactic
import Derived.Deep.RegionWith
import Derived.Deep.DeepCutAuto
namespace Go.Proofs.Ytajpmlmacnomfaa.Wirey
open Go.ChangeShapes Go.WideShapes Go.ChangeAt Go.RowKit

/-- Ten cells that begin with bytes. -/
def tens (l : List UInt8) : Array Value := ((l.map fun c => Value.int .u8 c.toNat) ++ List.replicate (10 - l.length) (Value.int .u8 0)).toArray
theorem tens_put (l : List UInt8) (c : UInt8) (h : l.length < 10) : (tens l).setIfInBounds l.length (.int .u8 c.toNat) = tens (l ++ [c]) := by
  unfold tens
  obtain ⟨k, hk⟩ : ∃ k, 10 - l.length = k + 1 := ⟨9 - l.length, by omega⟩
  have hk2 : 10 - (l ++ [c]).length = k := by simp; omega
  rw [hk, hk2, List.setIfInBounds_toArray, List.set_append]
  simp [List.replicate_succ]
theorem tens_at (l : List UInt8) (h : l.length < 10) : (tens l)[l.length]? = some (.int .u8 0) := by
  unfold tens
  obtain ⟨k, hk⟩ : ∃ k, 10 - l.length = k + 1 := ⟨9 - l.length, by omega⟩
  rw [hk]; simp [List.replicate_succ]
theorem or128 (m : Nat) : bits .or .u8 ((m : Int) % 256) 128 = ((128 + m % 128 : Nat) : Int) := by
  have h : ∀ x : Fin 256, (x.val ||| 128) = 128 + x.val % 128 := by decide +kernel
  have h1 := h ⟨m % 256, by omega⟩
  have h2 := u8_or_nat (m % 256) 128 (by omega) (by omega)
  rw [show ((128 : Nat) : Int) = 128 from rfl, show ((m % 256 : Nat) : Int) = (m : Int) % 256 by omega, h1] at h2
  rw [h2]
  show ((128 + m % 256 % 128 : Nat) : Int) = _
  omega

/-- A text with its length ahead. -/
def txt (l : List UInt8) : List UInt8 := enc l.length ++ l
/-- A check's bytes, the lowest first. -/
def four (n : Nat) : List UInt8 := [UInt8.ofNat (n % 256), UInt8.ofNat (n / 256 % 256), UInt8.ofNat (n / 65536 % 256), UInt8.ofNat (n / 16777216)]
/-- A frame of bytes: the version, the text, the check of all that. -/
def frm (l : List UInt8) : List UInt8 := (49 :: txt l) ++ four (chk (49 :: txt l))
theorem txt_len (l : List UInt8) (hl : l.length < 1099511627776) : (txt l).length ≤ l.length + 10 := by
  unfold txt; rw [List.length_append]; have := (enc_len (n := l.length) (by omega)).2; omega
theorem cons_one (c : UInt8) (l : List UInt8) : [c] ++ l = c :: l := rfl

theorem below_a {w w' : World} {o : Obj} (hb : Below (w.alloc o).drew.heap.size (w.alloc o).drew w') : Below w.heap.size w w' :=
  (((Below.refl _ w).alloc (Nat.le_refl _) o).drew).trans (hb.mono (by show w.heap.size ≤ (w.heap.push o).size; simp))
theorem below_b {w w' : World} {o : Obj} (hb : Below w.drew.heap.size w.drew w') : Below w.heap.size w (w'.alloc o) :=
  ((Below.refl _ w).drew.trans hb).alloc hb.size o

end Go.Proofs.Ytajpmlmacnomfaa.Wirey
