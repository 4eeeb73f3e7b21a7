/- What the laws of layer 6 begin with: two keys of a list; a text that is not too long. No condition. -/
import Derived.Test.YtfhlnidjneaieaaRingMake
namespace Go.Proofs.Ytfhlnidjneaieaa.Ringy
open Go.ChangeShapes Go.WideShapes Go.ChangeAt Go.RowKit
open Wirey (Blk Row str str_size str_list str_take Kp)
open Go.ChangeMaps Go.Maps

/-- At most 80 bytes of a text. -/
def fewL (l : List UInt8) : List UInt8 := if 80 < l.length then l.take 80 else l
theorem fewL_le (l : List UInt8) : (fewL l).length ≤ 80 := by
  unfold fewL
  split
  · rw [List.length_take]; omega
  · omega
theorem fewL_max (l : List UInt8) : (fewL l).length ≤ maxLen := by have := fewL_le l; unfold maxLen; omega
set_option maxHeartbeats 1000000 in
theorem few_c (l : List UInt8) (hl : l.length ≤ maxLen) (w : World) :
    Calls Try.prog 17 #[.string (str l)] w fun e w' => e = .returned (.string (str (fewL l))) ∧ w = w' := by
  have hsz := str_size
  have ht := str_take l 80
  unfold maxLen at hl
  by_cases h : 80 < l.length
  · have hf : fewL l = l.take 80 := if_pos h
    rw [hf]
    clear hf
    go_enter Try.func17, Try.ntmps17
    go_wp2_with fail
    go_ret
    exact ⟨rfl, rfl⟩
  · have hf : fewL l = l := if_neg h
    rw [hf]
    clear hf
    go_enter Try.func17, Try.ntmps17
    go_wp2_with fail
    go_ret
    exact ⟨rfl, rfl⟩

/-- Of lists whose blocks are all new: whatever they turn, nothing that was there turns. -/
theorem Step.below {w w' : World} {m m' : Rm} {B : Nat} (h : Step w m w' m') (hO : ∀ b, m.own b → B ≤ b) (hB : B ≤ w.heap.size) : Below B w w' ∧ ∀ b, m'.own b → B ≤ b :=
  ⟨⟨h.kp.os, h.kp.tape, h.kp.output, h.kp.size, fun k hk => h.kp.block k (by omega) (fun ho => by have := hO k ho; omega)⟩, fun b hb => by
    rcases h.own b hb with h1 | h1
    · exact hO b h1
    · omega⟩

def aw1 : Rg := ((Rg.new 2 3).drop [97]).push 1 [97]
def aw2 : Rg := (aw1.drop [98]).push 1 [98]
theorem aw2_l : aw2.l 1 = [[98]] ++ [[97]] := by decide
theorem aw2_n : aw2.n = 2 ∧ aw2.places = 3 ∧ aw2.many = 2 ∧ aw1.many = 1 := by decide
set_option maxHeartbeats 4000000 in
set_option maxRecDepth 100000 in
theorem awake_c (w : World) :
    Calls Try.prog 16 #[] w fun e w' => e = .returned (.bool true) ∧ Below w.heap.size w w' := by
  have hnew := new_c (n := 2) (places := 3) (by omega) (by omega) (by omega) w
  have hf1 := fun (W : World) (m : Rm) (hR : m.R = w.heap.size + 2) (hA : At W m (Rg.new 2 3)) => hR ▸ front_yes (m := m) (r := Rg.new 2 3) (j := 1) (l := [97]) (by decide) (by decide) W hA (.inr (by decide))
  have hf2 := fun (W : World) (m : Rm) (hR : m.R = w.heap.size + 2) (hA : At W m aw1) => hR ▸ front_yes (m := m) (r := aw1) (j := 1) (l := [98]) (by decide) (by decide) W hA (.inr (by decide))
  have hbk := fun (W : World) (m : Rm) (hR : m.R = w.heap.size + 2) (hA : At W m aw2) => hR ▸ back_yes (m := m) (r := aw2) (j := 1) W hA (by decide) aw2_l
  have hln := fun (W : World) (m : Rm) (hR : m.R = w.heap.size + 2) (hA : At W m aw2) => hR ▸ len_c' (m := m) (r := aw2) (i := 1) W hA (by decide)
  have hfr := fun (W : World) (m : Rm) (hR : m.R = w.heap.size + 2) (hA : At W m aw2) => hR ▸ free_c' (m := m) (r := aw2) W hA
  have hli := fun (W : World) (m : Rm) (hR : m.R = w.heap.size + 2) (hA : At W m aw2) => hR ▸ lists_c' (m := m) (r := aw2) W hA
  simp only [aw2_l, aw2_n.1, aw2_n.2.1, aw2_n.2.2.1, List.length_append, List.length_singleton, Nat.reduceAdd] at hln hfr hli
  have k97 : str [97] = ⟨#[97]⟩ := rfl
  have k98 : str [98] = ⟨#[98]⟩ := rfl
  rw [k97] at hf1 hbk
  rw [k98] at hf2
  clear k97 k98
  go_enter Try.func16, Try.ntmps16
  go_wp2_with fail
  refine Calls.mono hnew ?_
  rintro e w1 ⟨rfl, m, hR, hA, hb, hO⟩
  have HR := Lib.hid hR
  clear hR
  clear hnew
  go_wp2_with fail
  have HW := Lib.hid (⟨hb, hO⟩ : Below w.heap.size w w1 ∧ ∀ b, m.own b → w.heap.size ≤ b)
  have hsz := hb.size
  clear hb hO
  refine (hf1 _ m HR.out hA).mono ?_
  rintro e w2 ⟨rfl, m2, hA2, hS2⟩
  have HR2 := Lib.hid (hS2.R.trans HR.out)
  have hq2 := hS2.below HW.out.2 hsz
  have HW2 := Lib.hid (⟨HW.out.1.trans hq2.1, hq2.2⟩ : Below w.heap.size w w2 ∧ ∀ b, m2.own b → w.heap.size ≤ b)
  have hsz2 := HW2.out.1.size
  clear hS2 hq2 HW hsz hf1 hA
  go_wp2_with fail
  have hA2 : At w2 m2 aw1 := hA2
  refine (hf2 _ m2 HR2.out hA2).mono ?_
  rintro e w3 ⟨rfl, m3, hA3, hS3⟩
  have hA3 : At w3 m3 aw2 := hA3
  have HR3 := Lib.hid (hS3.R.trans HR2.out)
  have hq3 := hS3.below HW2.out.2 hsz2
  have HW3 := Lib.hid (⟨HW2.out.1.trans hq3.1, hq3.2⟩ : Below w.heap.size w w3 ∧ ∀ b, m3.own b → w.heap.size ≤ b)
  clear hS3 hq3 HW2 hsz2 hf2 hA2
  go_wp2_with fail
  refine (hbk _ m3 HR3.out hA3).mono ?_
  rintro e w4 ⟨rfl, rfl⟩
  go_wp2_with fail
  refine (hln _ m3 HR3.out hA3).mono ?_
  rintro e w4 ⟨rfl, rfl⟩
  go_wp2_with fail
  refine (hfr _ m3 HR3.out hA3).mono ?_
  rintro e w4 ⟨rfl, n, rfl⟩
  go_wp2_with fail
  refine (hli _ m3 HR3.out (hA3.drewN n)).mono ?_
  rintro e w4 ⟨rfl, rfl⟩
  go_wp2_with fail
  go_ret
  exact ⟨rfl, HW3.out.1.os, HW3.out.1.tape, HW3.out.1.output, HW3.out.1.size, HW3.out.1.block⟩
end Go.Proofs.Ytfhlnidjneaieaa.Ringy
