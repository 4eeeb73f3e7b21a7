/- The document's own bytes of lists. The only condition: they are few, and short. -/
import Derived.Test.YtfhlnidjneaieaaRingBytes
namespace Go.Proofs.Ytfhlnidjneaieaa.Ringy
open Go.ChangeShapes Go.WideShapes Go.ChangeAt Go.RowKit
open Wirey (Blk Row str str_size str_list str_cat Kp enc txt)
open Go.ChangeMaps Go.Maps

section
variable {O : Nat → Prop} {G : Nat} {vs : Nat → Value} {r : Rg}
/-- What stands while the bytes are put. -/
structure Puts (w : World) (O : Nat → Prop) (G : Nat) (vs : Nat → Value) (r : Rg) (x : World) : Prop where
  ref : RefAt x O G vs r
  box : Blk x w.heap.size 29 #[.slice (some ⟨G, 0, none⟩) r.n r.n, .int .i64 (r.places : Int)]
  below : Below w.heap.size w x
theorem Puts.later {w x y : World} (h : Puts w O G vs r x) (hb : Below x.heap.size x y) : Puts w O G vs r y := ⟨h.ref.below hb (Nat.le_refl _), h.box.below hb h.box.lt, h.below.trans (hb.mono h.below.size)⟩
theorem Puts.drewN {w x : World} (h : Puts w O G vs r x) (n : Nat) : Puts w O G vs r (x.drewN n) := ⟨h.ref.drewN n, h.box, ⟨h.below.os, h.below.tape, h.below.output, h.below.size, h.below.block⟩⟩
theorem putsP {w x y : World} {u0 u1 : Value} (hS : x.cell? ⟨w.heap.size, 0, none⟩ = some u0 ∧ x.cell? ⟨w.heap.size, 1, none⟩ = some u1 ∧ Puts w O G vs r x) (hb : Below x.heap.size x y) :
    y.cell? ⟨w.heap.size, 0, none⟩ = some u0 ∧ y.cell? ⟨w.heap.size, 1, none⟩ = some u1 ∧ Puts w O G vs r y :=
  ⟨(World.cell?_of_block (a := ⟨w.heap.size, 0, none⟩) (hb.block _ hS.2.2.box.lt)).trans hS.1, (World.cell?_of_block (a := ⟨w.heap.size, 1, none⟩) (hb.block _ hS.2.2.box.lt)).trans hS.2.1, hS.2.2.later hb⟩
theorem putsPd {w x : World} {u0 u1 : Value} (hS : x.cell? ⟨w.heap.size, 0, none⟩ = some u0 ∧ x.cell? ⟨w.heap.size, 1, none⟩ = some u1 ∧ Puts w O G vs r x) :
    x.drew.cell? ⟨w.heap.size, 0, none⟩ = some u0 ∧ x.drew.cell? ⟨w.heap.size, 1, none⟩ = some u1 ∧ Puts w O G vs r x.drew := ⟨hS.1, hS.2.1, hS.2.2.drewN 1⟩
theorem putsPn {w x : World} {u0 u1 : Value} (m : Nat) (hS : x.cell? ⟨w.heap.size, 0, none⟩ = some u0 ∧ x.cell? ⟨w.heap.size, 1, none⟩ = some u1 ∧ Puts w O G vs r x) :
    (x.drewN m).cell? ⟨w.heap.size, 0, none⟩ = some u0 ∧ (x.drewN m).cell? ⟨w.heap.size, 1, none⟩ = some u1 ∧ Puts w O G vs r (x.drewN m) := ⟨hS.1, hS.2.1, hS.2.2.drewN m⟩
theorem putsA {w x : World} {u0 u1 : Value} (hS : x.cell? ⟨w.heap.size, 0, none⟩ = some u0 ∧ x.cell? ⟨w.heap.size, 1, none⟩ = some u1 ∧ Puts w O G vs r x) : Puts w O G vs r x := hS.2.2

theorem refnumW {n : Nat} (hn : n < 1000000000) (W : World) : Calls Try.prog 58 #[.int .u64 (IntKind.u64.wrap (n : Int))] W fun e w' => e = .returned (.string (str (enc n))) ∧ Below W.heap.size W w' := by
  have e : IntKind.u64.wrap (n : Int) = (n : Int) := by rw [IntKind.wrap_u64]; omega
  rw [e]
  exact Wirey.refnum_c n (by omega) W
set_option maxHeartbeats 4000000 in
set_option maxRecDepth 100000 in
theorem rput_c (hs : r.Small) (w : World) (h : RefAt w O G vs r) :
    Calls Try.prog 23 #[refV G r] w fun e w' => e = .returned (.string (str r.put)) ∧ Below w.heap.size w w' := by
  have hn := hs.n
  have hpl := hs.pl
  have hlen := hs.putTo
  have hsz := str_size
  unfold refV
  have hX := Blk.new w 29 #[.slice (some ⟨G, 0, none⟩) r.n r.n, .int .i64 (r.places : Int)]
  have hP0 : Puts w O G vs r (w.alloc (.cells #[.slice (some ⟨G, 0, none⟩) r.n r.n, .int .i64 (r.places : Int)] 29)) := ⟨h.alloc _, hX, (Below.refl _ w).alloc (Nat.le_refl _) _⟩
  have e0 : enc r.n ++ enc r.places = r.putTo 0 := r.putTo_zero.symm
  have l0 := hlen 0 (Nat.zero_le _)
  have l1 := enc_ten (n := r.n) (by omega)
  have l2 := enc_ten (n := r.places) (by omega)
  have x0 := hX.cell 0
  have x1 := hX.cell 1
  simp only [List.getElem?_toArray, List.getElem?_cons_zero, List.getElem?_cons_succ] at x0 x1
  go_enter Try.func23, Try.ntmps23
  go_upto_region 1 with (fail)
  generalize w.alloc (.cells #[.slice (some ⟨G, 0, none⟩) r.n r.n, .int .i64 (r.places : Int)] 29) = w1 at *
  have hcat := str_cat
  have hov : ¬ (9223372036854775807 < (enc r.n).length + (enc r.places).length) := by omega
  go_region_held3 (fun w' => w'.cell? ⟨w.heap.size, 0, none⟩ = some (.slice (some ⟨G, 0, none⟩) r.n r.n) ∧ w'.cell? ⟨w.heap.size, 1, none⟩ = some (.int .i64 (r.places : Int)) ∧ Puts w O G vs r w')
    (first | exact ⟨x0, x1, hP0⟩ | exact putsP (by assumption) (by assumption) | exact putsPd (by assumption) | exact putsPd ⟨x0, x1, hP0⟩ | exact putsPn _ ⟨x0, x1, hP0⟩ | exact putsPn _ (by assumption) | go_keep)
    (first | (go_at_call 58; refine (refnumW (by omega) _).mono ?_; rintro e v ⟨rfl, hv⟩))
  have hPv : Puts w O G vs r v := putsA (by assumption)
  clear x0 x1 hP0 e0 l0 l1 l2 hov
  have HLEN := Lib.hid hlen
  clear hlen
  go_wp2_with fail
  go_loopw [3, 4] (fun o i wr => ∃ j : Nat, j ≤ r.n ∧ i = .int .i64 j ∧ o = .string (str (r.putTo j)) ∧ Puts w O G vs r wr) (fun _ i _ => r.n - (intOf i).toNat)
  case atStart => exact ⟨0, Nat.zero_le _, rfl, rfl, hPv⟩
  case round =>
    obtain ⟨j, hj, rfl, rfl, hP⟩ := hrel
    clear hPv
    have x0 := hP.box.cell 0
    simp only [List.getElem?_toArray, List.getElem?_cons_zero] at x0
    by_cases hlt : j < r.n
    · obtain ⟨c1, a1, cc, hv1⟩ := hP.ref.at_ hlt
      rw [hv1] at c1
      clear hv1
      have hll := hs.len j hlt
      have hkk := hs.key j hlt
      have hl1 := HLEN.out j hj
      have hst := r.putTo_succ j
      have hl3 := enc_ten (n := (r.l j).length) (by omega)
      have hl4 := keysB_len hkk
      have hov : ¬ (9223372036854775807 < (r.putTo j).length + (enc (r.l j).length).length) := by omega
      have HST := Lib.hid hst
      have hnumj := fun W => Wirey.refnum_c (r.l j).length (by omega) W
      have hltd : decide ((j : Int) < (r.n : Int)) = true := decide_eq_true (by omega)
      have HL1 := Lib.hid hl1
      have HL3 := Lib.hid hl3
      have HKK := Lib.hid hkk
      clear hst hl1 hl3 hl4 hkk
      go_wp2_with fail
      refine (hnumj _).mono ?_
      rintro e w5 ⟨rfl, hb5⟩
      have hP5 := hP.later hb5
      clear hP x0 c1 hnumj
      go_wp2_with fail
      go_loopw [3, 5] (fun o i wr => ∃ p : Nat, p ≤ (r.l j).length ∧ i = .int .i64 p ∧ o = .string (str (r.putTo j ++ enc (r.l j).length ++ keysB ((r.l j).take p))) ∧ Puts w O G vs r wr) (fun _ i _ => (r.l j).length - (intOf i).toNat)
      case atStart => exact ⟨0, Nat.zero_le _, rfl, by simp [keysB], hP5⟩
      case round =>
        obtain ⟨p, hp, rfl, rfl, hP⟩ := hrel
        clear hP5 hov
        have x0 := hP.box.cell 0
        simp only [List.getElem?_toArray, List.getElem?_cons_zero] at x0
        have c1 := (hP.ref.at_ hlt).1
        by_cases hpl2 : p < (r.l j).length
        · obtain ⟨g, c2, hv2, hc2⟩ := hP.ref.text hlt hpl2
          rw [hv2] at c1
          clear hv2
          have HTK := Lib.hid (keysB_take hpl2)
          have hx64 := HKK.out _ (mem_pos_of hpl2)
          have hl5 := keysB_len (l := (r.l j).take p) (fun x hx => HKK.out x (List.mem_of_mem_take hx))
          rw [List.length_take] at hl5
          have hl1 := HL1.out
          have hl3 := HL3.out
          generalize (r.l j)[p]?.getD [] = x at *
          have hov : ¬ (9223372036854775807 < (r.putTo j ++ enc (r.l j).length ++ keysB ((r.l j).take p)).length + (txt x).length) := by
            have h6 : (txt x).length ≤ 74 := by
              have := enc_ten (n := x.length) (by omega)
              simp only [txt, List.length_append]
              omega
            simp only [List.length_append]
            omega
          clear hl1 hl3 hl5
          generalize keysB ((r.l j).take p) = kb at *
          generalize hA : r.putTo j ++ enc (r.l j).length ++ kb = A at *
          have HA := Lib.hid hA
          clear hA
          have htx := fun W => Wirey.reftext_c x (by omega) W
          go_wp2_with fail
          refine (htx _).mono ?_
          rintro e w6 ⟨rfl, hb6⟩
          have hP6 := hP.later hb6
          go_wp2_with fail
          go_roundw
          case rel => exact ⟨p + 1, by omega, rfl, by rw [HTK.out, ← List.append_assoc, HA.out], hP6⟩
          case measure => simp [intOf]; omega
        · obtain rfl : p = (r.l j).length := by omega
          obtain ⟨av, ac, hav⟩ := (hP.ref.at_ hlt).2
          rw [hav] at c1
          clear hav
          rw [List.take_length, ← HST.out]
          go_wp2_with fail
          go_roundw
          case rel => exact ⟨j + 1, by omega, rfl, rfl, hP⟩
          case measure => simp [intOf]; omega
    · obtain rfl : j = r.n := by omega
      go_wp2_with fail
      go_ret
      exact ⟨rfl, hP.below⟩
end
end Go.Proofs.Ytfhlnidjneaieaa.Ringy
