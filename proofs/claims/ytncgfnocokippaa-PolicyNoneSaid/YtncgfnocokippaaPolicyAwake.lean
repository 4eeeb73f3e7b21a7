/- Two policies beside each other; what the laws of layer 9 begin with. No condition. -/
import Derived.Test.YtncgfnocokippaaPolicyProg
namespace Go.Proofs.Ytncgfnocokippaa.Policyy
open Go.ChangeShapes Go.WideShapes Go.ChangeAt Go.RowKit
open Wirey (Blk Row str str_size str_list str_take Kp)
open Ringy hiding fewL fewL_le
open Arcy (Av)
open Tinyy (Tv fewL fewL_le)

theorem fewP_c (l : List UInt8) (hl : l.length ≤ maxLen) (w : World) :
    Calls Try.prog 5 #[.string (str l)] w fun e w' => e = .returned (.string (str (fewL l))) ∧ w = w' := by
  have hsz := str_size
  have ht := str_take l 80
  unfold maxLen at hl
  by_cases h : 80 < l.length
  · have hf : fewL l = l.take 80 := if_pos h
    rw [hf]
    clear hf
    go_enter Try.func5, Try.ntmps5
    go_wp2_with fail
    go_ret
    exact ⟨rfl, rfl⟩
  · have hf : fewL l = l := if_neg h
    rw [hf]
    clear hf
    go_enter Try.func5, Try.ntmps5
    go_wp2_with fail
    go_ret
    exact ⟨rfl, rfl⟩
theorem fewP_le (l : List UInt8) : (fewL l).length ≤ maxLen := by have := fewL_le l; unfold maxLen; omega
/-- Two policies, no memory shared. -/
structure Duo (w0 : World) (C D : Nat) (w : World) (p q : Pv) (H I : Nat → Prop) : Prop where
  a : HeldP w0 C w p H
  b : HeldP w0 D w q I
  no : ∀ x, H x → ¬ I x
section
variable {w0 w w' : World} {C D : Nat} {p p' q q' : Pv} {H H' I I' : Nat → Prop}
theorem Duo.symm (h : Duo w0 C D w p q H I) : Duo w0 D C w q p I H := ⟨h.b, h.a, fun x hi hh => h.no x hh hi⟩
theorem Duo.stepA (h : Duo w0 C D w p q H I) (hH : HeldP w0 C w' p' H') (hS : StepP w H w' H') : Duo w0 C D w' p' q H' I :=
  ⟨hH, h.b.kp hS.kp (fun x hx => ⟨(h.a.own x hx).1, h.no x hx⟩), fun x hx hi => (hS.own x hx).elim (fun y => h.no x y hi) fun y => by have := (h.b.own x hi).2; omega⟩
theorem Duo.stepB (h : Duo w0 C D w p q H I) (hI : HeldP w0 D w' q' I') (hS : StepP w I w' I') : Duo w0 C D w' p q' H I' := (h.symm.stepA hI hS).symm
theorem Duo.later {B : Nat} (h : Duo w0 C D w p q H I) (hb : Below B w w') (hB : w.heap.size ≤ B) : Duo w0 C D w' p q H I := ⟨h.a.later hb hB, h.b.later hb hB, h.no⟩
theorem Duo.new (h : HeldP w0 C w p H) (h' : HeldP w D w' q I) : Duo w0 C D w' p q H I :=
  ⟨h.later h'.below (Nat.le_refl _), h'.low h.below, fun x hx hi => by have := (h.own x hx).2; have := (h'.own x hi).1; omega⟩
end
theorem wa_a : ((Av.new 2).insert [120]).has [120] = true ∧ ((Av.new 2).insert [120]).kept = 1 := by
  constructor <;> decide +kernel
theorem wa_t : ((Tv.new 2 1).insert [120]).has [120] = true := by
  have h := (Tinyy.ins_first (k := [120]) (Tinyy.lie_new 1) (by decide)).2
  unfold Tv.has
  rw [h.at_]
  rfl
set_option maxHeartbeats 1000000 in
set_option maxRecDepth 100000 in
theorem awakeP_c (w : World) :
    Calls Try.prog 8 #[] w fun e w' => e = .returned (.bool true) ∧ Below w.heap.size w w' := by
  have hNa := newA_pol (n := 2) (by omega) (by omega) 1 w
  have hNb := fun W => newT_pol (n := 2) (seed := 1) (by omega) (by omega) (by omega) W
  have ha := wa_a
  have hb := wa_t
  have x1 : ([120] : List UInt8).length ≤ maxLen := by unfold maxLen; decide
  go_enter Try.func8, Try.ntmps8
  go_wp2_with fail
  refine hNa.mono ?_
  rintro e w1 ⟨C, H, rfl, h1⟩
  go_wp2_with fail
  refine (hNb _).mono ?_
  rintro e w2 ⟨D, I, rfl, h2⟩
  have h3 := Duo.new h1 h2
  clear hNa hNb h1 h2
  go_wp2_with fail
  refine (insertP_c (k := [120]) x1 h3.a).mono ?_
  rintro e w3 ⟨val, H3, rfl, hH, hS, hT⟩
  have h4 := h3.stepA hH hS
  clear hH hS hT h3
  go_wp2_with fail
  refine (insertP_c (k := [120]) x1 h4.b).mono ?_
  rintro e w4 ⟨val, I4, rfl, hH, hS, hT⟩
  have h5 := h4.stepB hH hS
  clear hH hS hT h4
  have ea : (Pv.insert (.a (Av.new 2)) [120]).has [120] = true := ha.1
  have el : (Pv.insert (.a (Av.new 2)) [120]).kept = 1 := ha.2
  have eb : (Pv.insert (.t (Tv.new 2 1)) [120]).has [120] = true := hb
  have f1 := hasP_c (k := [120]) x1 h5.a
  have f2 := hasP_c (k := [120]) x1 h5.b
  have f3 := kindP_c h5.a
  have f4 := kindP_c h5.b
  have f5 := lenP_c h5.a
  rw [ea] at f1
  rw [eb] at f2
  rw [el] at f5
  clear ha hb ea el
  go_wp2_with fail
  refine f1.mono ?_
  rintro e w' ⟨rfl, rfl⟩
  go_wp2_with fail
  refine f2.mono ?_
  rintro e w' ⟨rfl, rfl⟩
  go_wp2_with fail
  refine f3.mono ?_
  rintro e w' ⟨rfl, rfl⟩
  go_wp2_with fail
  refine f4.mono ?_
  rintro e w' ⟨rfl, rfl⟩
  go_wp2_with fail
  refine f5.mono ?_
  rintro e w5 ⟨rfl, hb5⟩
  have h6 := h5.later hb5 (Nat.le_refl _)
  have f6 := touchP_c (k := [120]) x1 h6.b
  rw [eb] at f6
  clear h5 f1 f2 f3 f4 f5 hb5
  go_wp2_with fail
  refine f6.mono ?_
  rintro e w6 ⟨rfl, I6, h7, -⟩
  go_wp2_with fail
  go_ret
  exact ⟨rfl, h7.below⟩
end Go.Proofs.Ytncgfnocokippaa.Policyy
