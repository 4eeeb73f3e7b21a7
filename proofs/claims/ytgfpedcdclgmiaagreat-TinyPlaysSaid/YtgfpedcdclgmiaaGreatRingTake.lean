/- Take and Import of the bytes of lists. Nothing that was there turns but the Reader. -/
import Derived.Test.YtgfpedcdclgmiaaGreatRingFills
namespace Go.Proofs.YtgfpedcdclgmiaaGreat.Ringy
open Go.ChangeShapes Go.WideShapes Go.ChangeAt Go.RowKit Go.Shelf
open Wirey (Blk Row str str_size str_list Kp Kept RS enc txt numR_enc num_ok must_ok)
open Go.ChangeMaps Go.Maps

def tail (s : Rg) (j : Nat) : List UInt8 := ((List.range s.n).drop j).flatMap fun t => listB (s.l t)
section
variable {s r r' : Rg} {j : Nat}
theorem put_eq (s : Rg) : s.put = enc s.n ++ (enc s.places ++ tail s 0) := by simp [Rg.put, Rg.putTo, tail]
theorem tail_succ (hj : j < s.n) : tail s j = listB (s.l j) ++ tail s (j + 1) := by
  unfold tail
  rw [List.drop_eq_getElem_cons (by simpa using hj), List.getElem_range]
  rfl
theorem tail_end : tail s s.n = [] := by unfold tail; rw [List.drop_eq_nil_of_le (by simp)]; rfl
theorem tail_len (hs : s.Small) (j : Nat) : (tail s j).length ≤ 40000100 := by
  have h0 := hs.putTo s.n (Nat.le_refl _)
  have h1 : (tail s 0).length ≤ (s.putTo s.n).length := by
    have := put_eq s
    unfold Rg.put at this
    rw [this]
    simp only [List.length_append]
    omega
  have h2 : (tail s j).length ≤ (tail s 0).length := by
    unfold tail
    conv => rhs; rw [← List.take_append_drop j (List.drop 0 (List.range s.n)), List.flatMap_append, List.length_append]
    rw [List.drop_zero]
    omega
  have := hs.n
  omega
theorem sumTo_up_to {f : Nat → Nat} {a : Nat} : ∀ b, a ≤ b → sumTo f a ≤ sumTo f b
  | 0, h => by rw [Nat.le_zero.1 h]; exact Nat.le_refl _
  | b + 1, h => by
    rcases Nat.lt_or_ge a (b + 1) with h1 | h1
    · exact Nat.le_trans (sumTo_up_to b (by omega)) (Nat.le_add_right _ _)
    · rw [show a = b + 1 by omega]; exact Nat.le_refl _
/-- The lists when j of them are filled. -/
structure Tk (s : Rg) (j : Nat) (r : Rg) : Prop where
  n : r.n = s.n
  pl : r.places = s.places
  many : r.many = sumTo (fun t => (s.l t).length) j
  has : ∀ k, r.has k ↔ ∃ t, t < j ∧ k ∈ s.l t
  lo : ∀ t, t < j → r.l t = s.l t
  hi : ∀ t, j ≤ t → t < s.n → r.l t = []
theorem sumTo_nil : ∀ n, sumTo (fun _ => ([] : List Key).length) n = 0
  | 0 => rfl
  | n + 1 => by show sumTo _ n + 0 = 0; rw [sumTo_nil n]
theorem Tk.new (s : Rg) : Tk s 0 (Rg.new s.n s.places) := ⟨rfl, rfl, sumTo_nil _, fun k => ⟨fun ⟨t, _, h⟩ => absurd h List.not_mem_nil, fun ⟨t, h, _⟩ => by omega⟩, fun t h => by omega, fun _ _ _ => rfl⟩
theorem Tk.fresh (hw : s.Wf) (h : Tk s j r) (hj : j < s.n) : Fresh r j (s.l j) :=
  ⟨by rw [h.n]; exact hj, hw.nd j hj, fun k hk e => by obtain ⟨t, ht, hm⟩ := (h.has k).1 e; have := hw.dj t j k (by omega) hj hm hk; omega, by
    rw [h.many, h.pl]
    exact Nat.le_trans (sumTo_up_to (f := fun t => (s.l t).length) (a := j + 1) s.n (by omega)) hw.many, fun k hk => hw.len j k hj hk⟩
theorem Tk.next (h : Tk s j r) (hl : Laid r j (s.l j) r') (hj : j < s.n) : Tk s (j + 1) r' :=
  ⟨hl.n.trans h.n, hl.pl.trans h.pl, by rw [hl.many, h.many]; rfl, fun k => by
    rw [hl.has, h.has]
    constructor
    · rintro (h1 | ⟨t, h1, h2⟩)
      · exact ⟨j, by omega, h1⟩
      · exact ⟨t, by omega, h2⟩
    · rintro ⟨t, h1, h2⟩
      rcases Nat.lt_or_ge t j with h3 | h3
      · exact .inr ⟨t, h3, h2⟩
      · rw [show t = j by omega] at h2; exact .inl h2, fun t ht => by
    rcases Nat.lt_or_ge t j with h3 | h3
    · rw [hl.lo t (by rw [h.n]; omega) (by omega), h.lo t h3]
    · rw [show t = j by omega, hl.li, h.hi j (Nat.le_refl _) hj, List.append_nil], fun t h1 h2 => by rw [hl.lo t (by rw [h.n]; exact h2) (by omega), h.hi t (by omega) h2]⟩
theorem Rg.Wf.small (hw : s.Wf) : s.Small := ⟨hw.n2, hw.pl, fun i hi => by have := sumTo_le (f := fun t => (s.l t).length) s.n hi; have h2 := hw.many; have h3 := hw.pl; unfold Rg.many at h2; omega, fun i hi k hk => hw.len i k hi hk⟩

/-- What Take holds: lists made by the call, what is left, and what stays. -/
structure Taking (w : World) (R O P : Nat) (s : Rg) (j : Nat) (l : List UInt8) (W : World) : Prop where
  ex : ∃ m r, m.R = P ∧ At W m r ∧ Tk s j r ∧ ∀ b, m.own b → w.heap.size ≤ b
  rs : RS W R O l
  kp : Kp (fun k => k = R ∨ k = O) w W
set_option maxHeartbeats 4000000 in
set_option maxRecDepth 100000 in
theorem take_c (hw : s.Wf) (hn8 : s.n ≤ 8) {R O : Nat} (w : World) (h : RS w R O s.put) :
    Calls Tryz.prog 103 #[.pointer (some ⟨R, 0, none⟩)] w fun e w' => ∃ m, e = .returned (.pointer (some ⟨m.R, 0, none⟩)) ∧ At w' m s ∧ (∀ b, m.own b → w.heap.size ≤ b) ∧ RS w' R O [] ∧ Kp (fun k => k = R ∨ k = O) w w' := by
  have hs := hw.small
  have hRl := h.rd.lt
  have hOl := h.of.lt
  have hpl := hw.pl
  have hn1 := hw.n1
  have htl := tail_len hs 0
  have l1 := enc_ten (n := s.n) (by omega)
  have l2 := enc_ten (n := s.places) (by omega)
  rw [put_eq] at h
  have hm1 := num_ok 8 (numR_enc (n := s.n) (by omega) (enc s.places ++ tail s 0)) hn8 (by simp only [List.length_append]; omega) w h
  rw [List.drop_left] at hm1
  have hm2 := fun (W : World) (h : RS W R O (enc s.places ++ tail s 0)) => num_ok 4096 (numR_enc (n := s.places) (by omega) (tail s 0)) hpl (by simp only [List.length_append]; omega) W h
  rw [List.drop_left] at hm2
  have e4 : ((8 : Nat) : Int) = 8 := by omega
  have e5 : ((4096 : Nat) : Int) = 4096 := by omega
  rw [e4] at hm1
  rw [e5] at hm2
  have HM1 := Lib.hid hm1
  have HM2 := Lib.hid hm2
  have HW := Lib.hid hw
  have HS := Lib.hid hs
  have hwp : decide ((0 : Int) < (s.n : Int)) = true := decide_eq_true (by omega)
  have hwn : decide (0 < s.n) = true := decide_eq_true (by omega)
  have hwn2 : 0 < s.n := by omega
  have hw0 : ((s.n : Int) == 0) = false := by rw [beq_eq_false_iff_ne]; omega
  clear hm1 hm2 e4 e5 l1 l2 htl hs hw h
  go_enter Tryz.func103, Tryz.ntmps103
  go_wp2_with fail
  refine HM1.out.mono ?_
  rintro e v1 ⟨rfl, hk1, hr1⟩
  go_wp2_with fail
  refine (HM2.out _ hr1).mono ?_
  rintro e v2 ⟨rfl, hk2, hr2⟩
  go_wp2_with fail
  refine (must_ok _).mono ?_
  rintro e w' ⟨rfl, rfl⟩
  go_wp2_with fail
  refine (empty_c hn1 HW.out.n2 hpl _).mono ?_
  rintro e v3 ⟨rfl, m, hmR, hA, hb, hO⟩
  have hk12 := hk1.trans hk2
  have hz2 := hk12.size
  obtain ⟨P, hP⟩ : ∃ P, P = v2.heap.size + 2 := ⟨_, rfl⟩
  rw [← hP] at hmR ⊢
  have hT : Taking w R O P s 0 (tail s 0) v3 := ⟨⟨m, _, hmR, hA, Tk.new s, fun b hb => Nat.le_trans hz2 (hO b hb)⟩, hr2.below hb, (Kp.of_kept hk12 (.inl rfl) (.inr rfl)).trans (Kp.of_below hb)⟩
  clear hk1 hk2 hk12 hz2 hr1 hr2 hmR hA hb hO hP
  go_wp2_with fail
  go_loopw [24] (fun i wr => ∃ j : Nat, j ≤ s.n ∧ i = .int .i64 j ∧ Taking w R O P s j (tail s j) wr) (fun i _ => s.n - (intOf i).toNat)
  case atStart => exact ⟨0, Nat.zero_le _, rfl, hT⟩
  case round =>
    obtain ⟨j, hj, rfl, hT⟩ := hrel
    by_cases hlt : j < s.n
    · obtain ⟨⟨m, r, hmR, hA, hTk, hO⟩, hR, hK⟩ := hT
      rw [tail_succ hlt] at hR
      have hsm := HS.out.len j hlt
      have hle : (s.l j).length ≤ s.places := Nat.le_trans (sumTo_le (f := fun t => (s.l t).length) s.n hlt) HW.out.many
      have HTK := Lib.hid (takeKeys_c (most := s.places) hpl hle (HS.out.key j hlt) (by have := tail_len HS.out (j + 1); omega) wr hR)
      have HSM := Lib.hid hsm
      have HK := Lib.hid hK
      have HTk := Lib.hid hTk
      clear hsm hle hR hTk
      go_wp2_with fail
      refine HTK.out.mono ?_
      rintro e v4 ⟨v, rfl, hrow, hr4, hk4⟩
      have hA4 : At v4 m r := hA.kp hk4 (fun b hb e => by have := hO b hb; omega)
      have hsep : ∀ g, v.ownBlock = some g → ¬ m.own g := fun g hg e => by have := (hrow.lt g hg).1; have := hA.lt g e; omega
      have HL := Lib.hid (lay_c v4 hA4 (HTk.out.fresh HW.out hlt) hrow hsep (by have := HSM.out; omega))
      rw [hmR] at HL
      have hk4' := HK.out.trans hk4
      clear hA hrow hk4 hK hsep HTK
      go_wp2_with fail
      refine HL.out.mono ?_
      rintro e v5 ⟨rfl, m5, r5, hA5, hL5, hS5⟩
      have hwz := hk4'.size
      have hT5 : Taking w R O P s (j + 1) (tail s (j + 1)) v5 := ⟨⟨m5, r5, hS5.R.trans hmR, hA5, HTk.out.next hL5 hlt, fun b hb => by rcases hS5.own b hb with h | h; exact hO b h; omega⟩,
        ⟨(hS5.kp.block R hr4.rd.lt (fun e => by have := hO R e; omega)).trans hr4.rd, (hS5.kp.block O hr4.of.lt (fun e => by have := hO O e; omega)).trans hr4.of⟩,
        ⟨hS5.kp.os.trans hk4'.os, hS5.kp.tape.trans hk4'.tape, hS5.kp.output.trans hk4'.output, Nat.le_trans hwz hS5.kp.size, fun k hk hn => (hS5.kp.block k (by omega) (fun e => by have := hO k e; omega)).trans (hk4'.block k hk hn)⟩⟩
      clear hA4 hr4 hk4' hA5 hL5 hS5 hO HL hwz
      go_wp2_with fail
      refine (must_ok _).mono ?_
      rintro e w' ⟨rfl, rfl⟩
      go_wp2_with fail
      go_roundw
      case rel => exact ⟨j + 1, by omega, rfl, hT5⟩
      case measure => simp [intOf]; omega
    · obtain rfl : j = s.n := by omega
      obtain ⟨⟨m, r, rfl, hA, hTk, hO⟩, hR, hK⟩ := hT
      rw [tail_end] at hR
      go_wp2_with fail
      go_ret
      exact ⟨m, rfl, hA.alike hTk.n.symm hTk.pl.symm (fun i hi => (hTk.lo i (by rw [← hTk.n]; exact hi)).symm), hO, hR, hK⟩
end
end Go.Proofs.YtgfpedcdclgmiaaGreat.Ringy
