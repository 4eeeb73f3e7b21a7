/- Contracts of layer 3's writers: a number's bytes, a text's, a check's, a frame's; the document's own answers for them. Nothing that was there turns. Condition: the table of halves holds what the program's text lays (the check), texts of at most 2^40 bytes. -/
import Derived.Test.YtigkocdjllfhnaaWireChk
import Derived.Test.YtigkocdjllfhnaaMem
import Derived.Test.YtigkocdjllfhnaaWireNums
import Derived.Recover
import Derived.RegionTactic
import Derived.Deep.RegionWith
import Derived.Deep.DeepCutAuto
namespace Go.Proofs.Ytigkocdjllfhnaa.Wirey
open Go.ChangeShapes Go.WideShapes Go.ChangeAt Go.RowKit

/-- Ten cells that begin with bytes. -/
def tens (l : List UInt8) : Array Value := ((l.map fun c => Value.int .u8 c.toNat) ++ List.replicate (10 - l.length) (Value.int .u8 0)).toArray
theorem tens_put (l : List UInt8) (c : UInt8) (h : l.length < 10) : (tens l).setIfInBounds l.length (.int .u8 c.toNat) = tens (l ++ [c]) := by
  unfold tens
  obtain ⟨k, hk⟩ : ∃ k, 10 - l.length = k + 1 := ⟨9 - l.length, by omega⟩
  have hk2 : 10 - (l ++ [c]).length = k := by simp; omega
  rw [hk, hk2, List.setIfInBounds_toArray, List.set_append]
  simp [List.replicate_succ]
theorem tens_at (l : List UInt8) (h : l.length < 10) : (tens l)[l.length]? = some (.int .u8 0) := by
  unfold tens
  obtain ⟨k, hk⟩ : ∃ k, 10 - l.length = k + 1 := ⟨9 - l.length, by omega⟩
  rw [hk]; simp [List.replicate_succ]
theorem or128 (m : Nat) : bits .or .u8 ((m : Int) % 256) 128 = ((128 + m % 128 : Nat) : Int) := by
  have h : ∀ x : Fin 256, (x.val ||| 128) = 128 + x.val % 128 := by decide +kernel
  have h1 := h ⟨m % 256, by omega⟩
  have h2 := u8_or_nat (m % 256) 128 (by omega) (by omega)
  rw [show ((128 : Nat) : Int) = 128 from rfl, show ((m % 256 : Nat) : Int) = (m : Int) % 256 by omega, h1] at h2
  rw [h2]
  show ((128 + m % 256 % 128 : Nat) : Int) = _
  omega

theorem ten_under : Try.prog.underlying 61 = some (.array (Try.prog.arrayLen 61) (Try.prog.elem 61)) := by kernel_rfl
theorem ten_len : Try.prog.arrayLen 61 = 10 := by kernel_rfl
theorem ten_size (w : World) : (sizeOf (Try.prog.elem 61)).run Try.prog w = .ok 1 w := by kernel_rfl
theorem slice10 (b h : Nat) (hh : h ≤ 10) (w : World) : (Instr.sliceAt 61 (.pointer (some ⟨b, 0, none⟩)) none (some (.int .i64 (h : Int))) none).run Try.prog w = .ok (.slice (some ⟨b, 0, none⟩) h 10) w := by
  rw [run_sliceAt_array_h (P := Try.prog) w 61 ⟨b, 0, none⟩ ten_under .i64 (h : Int) (by omega) (by rw [ten_len]; omega), ten_size, ten_len]
  simp [Result.andThen, slicedAt, Addr.add]
theorem tens_str (w : World) (b : Nat) (l : List UInt8) (hB : Blk w b 61 (tens l)) (cap : Nat) :
    (convert 63 9 (.slice (some ⟨b, 0, none⟩) l.length cap)).run Try.prog w = .ok (.string (str l)) w := by
  refine run_convert_bytes_back w 63 9 5 ⟨b, 0, none⟩ cap l Try.underlying63 Try.underlying5 Try.underlying9 ?_
  intro j hj
  have e : (⟨b, 0, none⟩ : Addr).add j = ⟨b, j, none⟩ := by unfold Addr.add; by_cases h : j = 0 <;> simp [h]
  rw [e, hB.cell j]
  unfold tens
  rw [List.getElem?_toArray, List.getElem?_append_left (by simpa using hj)]
  simp [hj]

set_option maxHeartbeats 1000000 in
set_option maxRecDepth 100000 in
theorem num_c (n : Nat) (hn : n < 18446744073709551616) (w : World) :
    Calls Try.prog 28 #[.int .u64 (n : Int)] w fun e w' => e = .returned (.string (str (enc n))) ∧ Below w.heap.size w w' := by
  go_enter Try.func28, Try.ntmps28
  go_wp2
  go_loopw [0, 4] (fun t i wr => ∃ (m : Nat) (l : List UInt8), i = .int .i64 l.length ∧ t = .int .u64 m ∧ enc n = l ++ enc m ∧ m < 18446744073709551616 ∧ Blk wr w.heap.size 61 (tens l) ∧ Below w.heap.size w wr) (fun t _ _ => (intOf t).toNat)
  case atStart => exact ⟨n, [], rfl, rfl, rfl, hn, Blk.new _ _ _, (Below.refl _ _).alloc (Nat.le_refl _) _⟩
  case round =>
    obtain ⟨m, l, rfl, rfl, he, hm, hB, hW⟩ := hrel
    have hlen := (enc_len hn).2
    have hl2 := (enc_len hm).1
    have hl3 : l.length + (enc m).length ≤ 10 := by rw [he, List.length_append] at hlen; exact hlen
    have hcell := hB.cell l.length
    rw [tens_at l (by omega)] at hcell
    have hfree := hB.free l.length
    have HE := Lib.hid he
    clear he hlen
    by_cases hlt : m < 128
    · have hb := hB.put l.length (.int .u8 (m : Int))
      have hc : ((UInt8.ofNat m).toNat : Int) = (m : Int) := by rw [toNat_of (by omega)]
      rw [← hc, tens_put l _ (by omega), hc] at hb
      have hsl := fun W => slice10 w.heap.size (l.length + 1) (by omega) W
      have hst := fun cap => tens_str _ w.heap.size (l ++ [UInt8.ofNat m]) hb cap
      rw [List.length_append, show l.length + [UInt8.ofNat m].length = l.length + 1 from rfl] at hst
      have e : ((l.length + 1 : Nat) : Int) = (l.length : Int) + 1 := by omega
      rw [e] at hsl
      have hW2 : Below w.heap.size w (wr.setCell ⟨w.heap.size, l.length, none⟩ (.int .u8 (m : Int))) := hW.setCell (Nat.le_refl _) _
      have HW2 := Lib.hid hW2
      clear hW2 hb hc e
      go_wp2
      go_ret
      exact ⟨by rw [HE.out, enc_small hlt]; rfl, HW2.out⟩
    · have ho := or128 m
      have hd : ((m : Int) / 128) = ((m / 128 : Nat) : Int) := by omega
      have hb := hB.put l.length (.int .u8 (((128 + m % 128 : Nat) : Int)))
      have hc : ((UInt8.ofNat (128 + m % 128)).toNat : Int) = ((128 + m % 128 : Nat) : Int) := by rw [toNat_of (by omega)]
      rw [← hc, tens_put l _ (by omega), hc] at hb
      have HD := Lib.hid hd
      have HB := Lib.hid hb
      clear hd hb hc
      have hW2 : Below w.heap.size w (wr.setCell ⟨w.heap.size, l.length, none⟩ (.int .u8 ((128 + m % 128 : Nat) : Int))) := hW.setCell (Nat.le_refl _) _
      have HW2 := Lib.hid hW2
      clear hW2
      go_wp2
      go_roundw
      case rel => exact ⟨m / 128, l ++ [UInt8.ofNat (128 + m % 128)], by rw [List.length_append]; rfl, by rw [HD.out], by rw [HE.out, enc_big hlt, List.append_assoc]; rfl, by omega, HB.out, HW2.out⟩
      case measure => simp [intOf]; omega

theorem row_str (W : World) (l : List UInt8) (cs : Array Value) (hcs : cs = (l.map fun c => Value.int .u8 c.toNat).toArray) (cap : Nat) :
    (convert 63 9 (.slice (some ⟨W.heap.size, 0, none⟩) l.length cap)).run Try.prog (W.alloc (.cells cs 5)) = .ok (.string (str l)) (W.alloc (.cells cs 5)) := by
  refine run_convert_bytes_back _ 63 9 5 ⟨W.heap.size, 0, none⟩ cap l Try.underlying63 Try.underlying5 Try.underlying9 ?_
  intro j hj
  have e : (⟨W.heap.size, 0, none⟩ : Addr).add j = ⟨W.heap.size, j, none⟩ := by unfold Addr.add; by_cases h : j = 0 <;> simp [h]
  rw [e, (Blk.new W 5 cs).cell j, hcs]
  simp [hj]
theorem one_str_at (v : Int) (h0 : 0 ≤ v) (h1 : v < 256) {w W : World} (hb : Below (w.alloc (.cells #[.int .u8 v] 5)).drew.heap.size (w.alloc (.cells #[.int .u8 v] 5)).drew W) :
    (convert 63 9 (.slice (some ⟨w.heap.size, 0, none⟩) 1 1)).run Try.prog W = .ok (.string (str [UInt8.ofNat v.toNat])) W := by
  have hB : Blk W w.heap.size 5 #[.int .u8 v] := (hb.block w.heap.size (Blk.new w _ _).lt).trans (Blk.new w _ _)
  refine run_convert_bytes_back _ 63 9 5 ⟨w.heap.size, 0, none⟩ 1 [UInt8.ofNat v.toNat] Try.underlying63 Try.underlying5 Try.underlying9 ?_
  intro j hj
  obtain rfl : j = 0 := by simpa using hj
  have e : (⟨w.heap.size, 0, none⟩ : Addr).add 0 = ⟨w.heap.size, 0, none⟩ := rfl
  rw [e, hB.cell 0]
  simp only [List.getElem_cons_zero]
  rw [toNat_of (by omega), Int.toNat_of_nonneg h0]
  rfl
theorem one_str_drew (v : Int) (h0 : 0 ≤ v) (h1 : v < 256) (W : World) :
    (convert 63 9 (.slice (some ⟨W.heap.size, 0, none⟩) 1 1)).run Try.prog (W.alloc (.cells #[.int .u8 v] 5)).drew = .ok (.string (str [UInt8.ofNat v.toNat])) (W.alloc (.cells #[.int .u8 v] 5)).drew :=
  row_str W.drew [UInt8.ofNat v.toNat] #[.int .u8 v] (by simp only [List.map_cons, List.map_nil]; rw [toNat_of (by omega), Int.toNat_of_nonneg h0]) 1
theorem one_str (v : Int) (h0 : 0 ≤ v) (h1 : v < 256) (W : World) :
    (convert 63 9 (.slice (some ⟨W.heap.size, 0, none⟩) 1 1)).run Try.prog (W.alloc (.cells #[.int .u8 v] 5)) = .ok (.string (str [UInt8.ofNat v.toNat])) (W.alloc (.cells #[.int .u8 v] 5)) :=
  row_str W [UInt8.ofNat v.toNat] #[.int .u8 v] (by simp only [List.map_cons, List.map_nil]; rw [toNat_of (by omega), Int.toNat_of_nonneg h0]) 1
theorem four_str (a b c d : Int) (ha : 0 ≤ a ∧ a < 256) (hb : 0 ≤ b ∧ b < 256) (hc : 0 ≤ c ∧ c < 256) (hd : 0 ≤ d ∧ d < 256) (W : World) :
    (convert 63 9 (.slice (some ⟨W.heap.size, 0, none⟩) 4 4)).run Try.prog (W.alloc (.cells #[.int .u8 a, .int .u8 b, .int .u8 c, .int .u8 d] 5)) =
      .ok (.string (str [UInt8.ofNat a.toNat, UInt8.ofNat b.toNat, UInt8.ofNat c.toNat, UInt8.ofNat d.toNat])) (W.alloc (.cells #[.int .u8 a, .int .u8 b, .int .u8 c, .int .u8 d] 5)) :=
  row_str W [UInt8.ofNat a.toNat, UInt8.ofNat b.toNat, UInt8.ofNat c.toNat, UInt8.ofNat d.toNat] _ (by
    simp only [List.map_cons, List.map_nil]
    rw [toNat_of (by omega), toNat_of (by omega), toNat_of (by omega), toNat_of (by omega), Int.toNat_of_nonneg ha.1, Int.toNat_of_nonneg hb.1, Int.toNat_of_nonneg hc.1, Int.toNat_of_nonneg hd.1]) 4

set_option maxHeartbeats 1000000 in
set_option maxRecDepth 100000 in
theorem refnum_c (n : Nat) (hn : n < 18446744073709551616) (w : World) :
    Calls Try.prog 31 #[.int .u64 (n : Int)] w fun e w' => e = .returned (.string (str (enc n))) ∧ Below w.heap.size w w' := by
  have hcat := str_cat
  have hsz := str_size
  go_enter Try.func31, Try.ntmps31
  go_wp2
  go_loopw [0, 3] (fun t s wr => ∃ (m : Nat) (l : List UInt8), s = .string (str l) ∧ t = .int .u64 m ∧ enc n = l ++ enc m ∧ m < 18446744073709551616 ∧ Below w.heap.size w wr) (fun t _ _ => (intOf t).toNat)
  case atStart => exact ⟨n, [], rfl, rfl, rfl, hn, Below.refl _ _⟩
  case round =>
    obtain ⟨m, l, rfl, rfl, he, hm, hW⟩ := hrel
    have hlen : l.length ≤ 10 := by have := (enc_len hn).2; rw [he, List.length_append] at this; omega
    have HE := Lib.hid he
    clear he
    by_cases hlt : m < 128
    · have h1 := one_str (m : Int) (by omega) (by omega)
      go_wp2
      go_ret
      exact ⟨by rw [HE.out, enc_small hlt]; rfl, hW.alloc hW.size _⟩
    · have h1 := one_str (128 + (m : Int) % 128) (by omega) (by omega)
      have hd : ((m : Int) / 128) = ((m / 128 : Nat) : Int) := by omega
      have HD := Lib.hid hd
      clear hd
      go_wp2
      go_roundw
      case rel => exact ⟨m / 128, l ++ [UInt8.ofNat (128 + m % 128)], by simp, by rw [HD.out], by rw [HE.out, enc_big hlt, List.append_assoc]; rfl, by omega, hW.alloc hW.size _⟩
      case measure => simp [intOf]; omega

/-- A text with its length ahead. -/
def txt (l : List UInt8) : List UInt8 := enc l.length ++ l
/-- A check's bytes, the lowest first. -/
def four (n : Nat) : List UInt8 := [UInt8.ofNat (n % 256), UInt8.ofNat (n / 256 % 256), UInt8.ofNat (n / 65536 % 256), UInt8.ofNat (n / 16777216)]
/-- A frame of bytes: the version, the text, the check of all that. -/
def frm (l : List UInt8) : List UInt8 := (49 :: txt l) ++ four (chk (49 :: txt l))
theorem txt_len (l : List UInt8) (hl : l.length < 1099511627776) : (txt l).length ≤ l.length + 10 := by
  unfold txt; rw [List.length_append]; have := (enc_len (n := l.length) (by omega)).2; omega
theorem cons_one (c : UInt8) (l : List UInt8) : [c] ++ l = c :: l := rfl

theorem below_a {w w' : World} {o : Obj} (hb : Below (w.alloc o).drew.heap.size (w.alloc o).drew w') : Below w.heap.size w w' :=
  (((Below.refl _ w).alloc (Nat.le_refl _) o).drew).trans (hb.mono (by show w.heap.size ≤ (w.heap.push o).size; simp))
theorem below_b {w w' : World} {o : Obj} (hb : Below w.drew.heap.size w.drew w') : Below w.heap.size w (w'.alloc o) :=
  ((Below.refl _ w).drew.trans hb).alloc hb.size o

end Go.Proofs.Ytigkocdjllfhnaa.Wirey
