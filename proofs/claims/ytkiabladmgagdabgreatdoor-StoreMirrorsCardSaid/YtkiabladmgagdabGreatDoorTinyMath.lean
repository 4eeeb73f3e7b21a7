/- Chapter 8 over plain lists: who is kept, in which list, with the sketch; what inserting, touching, missing, removing and evicting make of them. It speaks of no program. -/
import Derived.Test.YtkiabladmgagdabGreatDoorRingRoundAll
import Derived.Test.YtkiabladmgagdabGreatDoorSketchRefAddAll
import Derived.Test.YtkiabladmgagdabGreatDoorSq
namespace Go.Proofs.YtkiabladmgagdabGreatDoor.Tinyy
open Ringy
open Sketchy (Sk ksOf)

structure Tv where
 most : Nat
 sk : Sk
 rg : Rg
def wMost (c : Nat) : Nat := max 1 (c / 8)
def sMost (c : Nat) : Nat := (c - wMost c) * 4 / 5
def wideOf (c : Nat) : Nat := min (8 * c) 4096
def Tv.len (v : Tv) (i : Nat) : Nat := (v.rg.l i).length
def Tv.kept (v : Tv) : Nat := v.len 0 + v.len 1 + v.len 2
def Tv.new (most seed : Nat) : Tv := ⟨most, Sk.new (wideOf most) seed, Rg.new 3 (most + 1)⟩
def Tv.fr (v : Tv) (j : Nat) (k : Key) : Tv := { v with rg := (v.rg.drop k).push j k }
def Tv.dr (v : Tv) (k : Key) : Tv := { v with rg := v.rg.drop k }
def Tv.ks (v : Tv) (k : Key) : Nat → Nat := ksOf (Mixy.text v.sk.seed k) v.sk.wide
def Tv.note (v : Tv) (k : Key) : Tv := { v with sk := v.sk.add (v.ks k) }
def Tv.seen (v : Tv) (k : Key) : Nat := v.sk.seen (v.ks k)
def Tv.last (v : Tv) (i : Nat) : Option Key := (v.rg.l i).getLast?
def Tv.at_ (v : Tv) (k : Key) : Option Nat := if k ∈ v.rg.l 0 then some 0 else if k ∈ v.rg.l 1 then some 1 else if k ∈ v.rg.l 2 then some 2 else none
def Tv.has (v : Tv) (k : Key) : Bool := (v.at_ k).isSome
def Tv.first (v : Tv) : List Nat → Option Key
 | [] => none
 | i :: l => match v.last i with
  | some k => some k
  | none => v.first l
def Tv.safe (v : Tv) (k : Key) : Tv := if sMost v.most < (v.fr 2 k).len 2 then (v.fr 2 k).fr 1 (((v.fr 2 k).last 2).getD []) else v.fr 2 k
def Tv.touch (v : Tv) (k : Key) : Tv := match v.at_ k with
 | none => v
 | some 0 => (v.note k).fr 0 k
 | some _ => (v.note k).safe k
def Tv.stays (v : Tv) (one : Key) : Option Key := match v.first [1, 2] with
 | none => none
 | some o => if v.seen one ≤ v.seen o then none else some o
def Tv.leaveOf (v : Tv) (one : Key) : Tv := if v.kept ≤ v.most then v.fr 1 one else match v.stays one with
 | none => v.dr one
 | some o => (v.dr o).fr 1 one
def Tv.leaveOfK (v : Tv) (one : Key) : List Key := if v.kept ≤ v.most then [] else match v.stays one with
 | none => [one]
 | some o => [o]
def Tv.leave (v : Tv) : Tv := v.leaveOf ((v.last 0).getD [])
def Tv.leaveK (v : Tv) : List Key := v.leaveOfK ((v.last 0).getD [])
def Tv.came (v : Tv) (k : Key) : Tv := (v.note k).fr 0 k
def Tv.fresh (v : Tv) (k : Key) : Tv := if (v.came k).len 0 ≤ wMost v.most then v.came k else (v.came k).leave
def Tv.freshK (v : Tv) (k : Key) : List Key := if (v.came k).len 0 ≤ wMost v.most then [] else (v.came k).leaveK
def Tv.ins (v : Tv) (k : Key) : Tv := if v.has k = true then v.touch k else v.fresh k
def Tv.insK (v : Tv) (k : Key) : List Key := if v.has k = true then [] else v.freshK k
def Tv.insert (v : Tv) (k : Key) : Tv := if 64 < k.length then v else v.ins k
def Tv.insertK (v : Tv) (k : Key) : List Key := if 64 < k.length then [] else v.insK k
def Tv.miss (v : Tv) (k : Key) : Tv := if 64 < k.length then v else v.note k
def Tv.goes (v : Tv) : Option Key := v.first [1, 0, 2]
def Tv.evict (v : Tv) : Tv := match v.goes with
 | none => v
 | some k => v.dr k

structure Tv.Fit (v : Tv) : Prop where
 wf : v.rg.Wf
 sw : v.sk.Wf
 n : v.rg.n = 3
 pl : v.rg.places = v.most + 1
 m1 : 1 ≤ v.most
 m2 : v.most ≤ 1000
 wd : v.sk.wide = wideOf v.most
structure Tv.Ok (v : Tv) : Prop where
 fit : v.Fit
 win : v.len 0 ≤ wMost v.most
 bk : v.len 1 + v.len 2 + wMost v.most ≤ v.most
 sf : v.len 2 ≤ sMost v.most

theorem wMost_pos (c : Nat) : 1 ≤ wMost c := Nat.le_max_left _ _
theorem wMost_le {c : Nat} (h : 1 ≤ c) : wMost c ≤ c := by unfold wMost; omega
section
variable {v : Tv} {k x : Key} {i j t : Nat}
theorem Tv.many3 (h : v.rg.n = 3) : v.rg.many = v.kept := by
 unfold Rg.many
 rw [h]
 simp [sumTo, Tv.kept, Tv.len]
theorem Tv.Fit.kept (h : v.Fit) : v.kept ≤ v.most + 1 := by
 have := h.wf.many
 rw [Tv.many3 h.n, h.pl] at this
 exact this
theorem Tv.Ok.kept (h : v.Ok) : v.kept ≤ v.most := by
 have := h.win
 have := h.bk
 unfold Tv.kept
 omega
theorem Tv.Fit.nd (h : v.Fit) (hi : i < 3) : (v.rg.l i).Nodup := h.wf.nd i (by rw [h.n]; exact hi)
theorem Tv.Fit.dj (h : v.Fit) (hi : i < 3) (hj : j < 3) (h1 : k ∈ v.rg.l i) (h2 : k ∈ v.rg.l j) : i = j := h.wf.dj i j k (by rw [h.n]; exact hi) (by rw [h.n]; exact hj) h1 h2
theorem Tv.Fit.klen (h : v.Fit) (hi : i < 3) (h1 : k ∈ v.rg.l i) : k.length ≤ 64 := h.wf.len i k (by rw [h.n]; exact hi) h1
theorem Tv.Fit.len_le (h : v.Fit) (hi : i < 3) : v.len i ≤ 1001 := by
 have h1 := h.kept
 have h2 := h.m2
 unfold Tv.kept at h1
 rcases (by omega : i = 0 ∨ i = 1 ∨ i = 2) with rfl | rfl | rfl <;> omega
theorem Tv.mem_dr : x ∈ (v.dr k).rg.l t ↔ x ∈ v.rg.l t ∧ x ≠ k := strike_mem
theorem Tv.mem_fr : x ∈ (v.fr j k).rg.l t ↔ (x ∈ v.rg.l t ∧ x ≠ k) ∨ (t = j ∧ x = k) := by
 show x ∈ (if t = j then k :: strike k (v.rg.l t) else strike k (v.rg.l t)) ↔ _
 by_cases e : t = j
 ·rw [if_pos e, List.mem_cons, strike_mem]
  constructor
  ·rintro (h | h)
   ·exact .inr ⟨e, h⟩
   ·exact .inl h
  ·rintro (h | h)
   ·exact .inr h
   ·exact .inl h.2
 ·rw [if_neg e, strike_mem]
  constructor
  ·exact .inl
  ·rintro (h | h)
   ·exact h
   ·exact absurd h.1 e
theorem Tv.dr_le : (v.dr k).len t ≤ v.len t := List.length_filter_le _ _
theorem Tv.dr_len (h : v.Fit) (hi : i < 3) (hk : k ∈ v.rg.l i) (ht : t < 3) : (v.dr k).len t + (if t = i then 1 else 0) = v.len t := by
 by_cases e : t = i
 ·subst e
  rw [if_pos rfl]
  exact strike_length (h.nd hi) hk
 ·rw [if_neg e]
  show (strike k (v.rg.l t)).length + 0 = (v.rg.l t).length
  rw [strike_of_not (fun hm => e (h.dj ht hi hm hk)), Nat.add_zero]
theorem Tv.dr_no (hk : ∀ t, t < 3 → k ∉ v.rg.l t) (ht : t < 3) : (v.dr k).len t = v.len t := by
 show (strike k (v.rg.l t)).length = (v.rg.l t).length
 rw [strike_of_not (hk t ht)]
theorem Tv.fr_len : (v.fr j k).len t = (v.dr k).len t + (if t = j then 1 else 0) := by
 show (if t = j then k :: strike k (v.rg.l t) else strike k (v.rg.l t)).length = (strike k (v.rg.l t)).length + _
 by_cases e : t = j
 ·rw [if_pos e, if_pos e]; rfl
 ·rw [if_neg e, if_neg e]; rfl
theorem Tv.move_len (h : v.Fit) (hi : i < 3) (hk : k ∈ v.rg.l i) (ht : t < 3) : (v.fr j k).len t + (if t = i then 1 else 0) = v.len t + (if t = j then 1 else 0) := by
 have h1 := Tv.dr_len h hi hk ht
 rw [Tv.fr_len]
 omega
theorem Tv.new_len (hk : ∀ t, t < 3 → k ∉ v.rg.l t) (ht : t < 3) : (v.fr j k).len t = v.len t + (if t = j then 1 else 0) := by
 rw [Tv.fr_len, Tv.dr_no hk ht]
theorem Tv.Fit.dr (h : v.Fit) (k : Key) : (v.dr k).Fit := ⟨h.wf.drop k, h.sw, h.n, h.pl, h.m1, h.m2, h.wd⟩
theorem Tv.Ok.dr (h : v.Ok) (k : Key) : (v.dr k).Ok := by
 have h0 := Tv.dr_le (v := v) (k := k) (t := 0)
 have h1 := Tv.dr_le (v := v) (k := k) (t := 1)
 have h2 := Tv.dr_le (v := v) (k := k) (t := 2)
 have a := h.win
 have b := h.bk
 have c := h.sf
 refine ⟨h.fit.dr k, ?_, ?_, ?_⟩
 ·show (v.dr k).len 0 ≤ wMost v.most; omega
 ·show (v.dr k).len 1 + (v.dr k).len 2 + wMost v.most ≤ v.most; omega
 ·show (v.dr k).len 2 ≤ sMost v.most; omega
def Tv.can (v : Tv) (k : Key) : Prop := v.rg.has k ∨ v.rg.many < v.rg.places
theorem Tv.Fit.in_ (_ : v.Fit) (hn : v.rg.n = 3) (hi : i < 3) (hk : k ∈ v.rg.l i) : v.can k := .inl ⟨i, by rw [hn]; exact hi, hk⟩
theorem Tv.Fit.room (h : v.Fit) (hk : v.kept ≤ v.most) : v.can k := .inr (by rw [Tv.many3 h.n, h.pl]; omega)
theorem Tv.Fit.place (h : v.Fit) (hc : v.can k) : (v.rg.drop k).many < v.rg.places := by
 rcases hc with ⟨i, hi, hk⟩ | hc
 ·have := Rg.many_drop h.wf hi hk
  have := h.wf.many
  omega
 ·by_cases hin : ∃ i, i < v.rg.n ∧ k ∈ v.rg.l i
  ·obtain ⟨i, hi, hk⟩ := hin
   have := Rg.many_drop h.wf hi hk
   omega
  ·have : (v.rg.drop k).many = v.rg.many := sumTo_congr _ fun t ht => by
    show ((v.rg.drop k).l t).length = _
    rw [Rg.drop_not (fun i hi hk => hin ⟨i, hi, hk⟩) t ht]
   omega
theorem Tv.Fit.fr (h : v.Fit) (hj : j < 3) (hk : k.length ≤ 64) (hc : v.can k) : (v.fr j k).Fit :=
 ⟨(h.wf.drop k).push (by show j < v.rg.n; rw [h.n]; exact hj) (fun i _ hx => (strike_mem.1 hx).2 rfl) hk (h.place hc), h.sw, h.n, h.pl, h.m1, h.m2, h.wd⟩
theorem Tv.Fit.note (h : v.Fit) (k : Key) : (v.note k).Fit :=
 ⟨h.wf, h.sw.add, h.n, h.pl, h.m1, h.m2, (Sketchy.Sk.add_fix (s := v.sk) (ks := v.ks k)).1.trans h.wd⟩
theorem Tv.Ok.note (h : v.Ok) (k : Key) : (v.note k).Ok := ⟨h.fit.note k, h.win, h.bk, h.sf⟩
theorem Tv.last_some (h : v.last i = some k) : ∃ s, v.rg.l i = s ++ [k] := List.getLast?_eq_some_iff.1 h
theorem Tv.last_none (h : v.last i = none) : v.rg.l i = [] := List.getLast?_eq_none_iff.1 h
theorem Tv.last_mem (h : v.last i = some k) : k ∈ v.rg.l i := by obtain ⟨s, e⟩ := Tv.last_some h; rw [e]; simp
theorem Tv.last_of (h : 0 < v.len i) : ∃ k, v.last i = some k := by
 cases e : v.last i with
 | none => have := Tv.last_none e; unfold Tv.len at h; rw [this] at h; cases h
 | some k => exact ⟨k, rfl⟩
theorem Tv.at_none (h : v.at_ k = none) : ∀ t, t < 3 → k ∉ v.rg.l t := by
 unfold Tv.at_ at h
 intro t ht
 split at h
 ·cases h
 ·split at h
  ·cases h
  ·split at h
   ·cases h
   ·rcases (by omega : t = 0 ∨ t = 1 ∨ t = 2) with rfl | rfl | rfl <;> assumption
theorem Tv.at_some (h : v.at_ k = some i) : i < 3 ∧ k ∈ v.rg.l i := by
 unfold Tv.at_ at h
 split at h
 ·cases h; exact ⟨by omega, by assumption⟩
 ·split at h
  ·cases h; exact ⟨by omega, by assumption⟩
  ·split at h
   ·cases h; exact ⟨by omega, by assumption⟩
   ·cases h
theorem Tv.has_iff : v.has k = true ↔ ∃ i, i < 3 ∧ k ∈ v.rg.l i := by
 unfold Tv.has
 cases e : v.at_ k with
 | none =>
  constructor
  ·intro h; cases h
  ·rintro ⟨i, hi, h⟩; exact absurd h (Tv.at_none e i hi)
 | some i =>
  constructor
  ·intro _; exact ⟨i, Tv.at_some e⟩
  ·intro _; rfl
theorem Tv.has_of {v : Tv} {x : Key} {b : Bool} (h : (∃ i, i < 3 ∧ x ∈ v.rg.l i) ↔ b = true) : v.has x = b := by
 rw [Bool.eq_iff_iff, Tv.has_iff]
 exact h
theorem Tv.has_no (h : v.has k = false) : ∀ t, t < 3 → k ∉ v.rg.l t := fun t ht hm => by
 have := Tv.has_iff.2 ⟨t, ht, hm⟩
 rw [h] at this
 cases this
theorem Tv.hasB_eq (h : v.rg.n = 3) : v.rg.hasB k = v.has k := by
 rw [Bool.eq_iff_iff, Rg.hasB_iff, Tv.has_iff]
 unfold Rg.has
 rw [h]
theorem Tv.has_dr : (v.dr k).has x = (v.has x && decide (x ≠ k)) := by
 refine Tv.has_of ?_
 rw [Bool.and_eq_true, decide_eq_true_eq, Tv.has_iff]
 constructor
 ·rintro ⟨i, hi, h⟩
  exact ⟨⟨i, hi, (Tv.mem_dr.1 h).1⟩, (Tv.mem_dr.1 h).2⟩
 ·rintro ⟨⟨i, hi, h⟩, h2⟩
  exact ⟨i, hi, Tv.mem_dr.2 ⟨h, h2⟩⟩
theorem Tv.has_fr (hj : j < 3) : (v.fr j k).has x = (decide (x = k) || v.has x) := by
 refine Tv.has_of ?_
 rw [Bool.or_eq_true, decide_eq_true_eq, Tv.has_iff]
 constructor
 ·rintro ⟨i, hi, h⟩
  rcases Tv.mem_fr.1 h with h | h
  ·exact .inr ⟨i, hi, h.1⟩
  ·exact .inl h.2
 ·intro h
  by_cases e : x = k
  ·exact ⟨j, hj, Tv.mem_fr.2 (.inr ⟨rfl, e⟩)⟩
  ·rcases h with h | ⟨i, hi, h⟩
   ·exact absurd h e
   ·exact ⟨i, hi, Tv.mem_fr.2 (.inl ⟨h, e⟩)⟩
theorem Tv.has_note : (v.note k).has x = v.has x := rfl
theorem Tv.first_cons {l : List Nat} : v.first (i :: l) = match v.last i with | some k => some k | none => v.first l := rfl
theorem Tv.first_mem : ∀ {l : List Nat}, (∀ i ∈ l, i < 3) → v.first l = some k → ∃ i, i < 3 ∧ k ∈ v.rg.l i ∧ i ∈ l
 | [], _, h => by cases h
 | i :: l, hl, h => by
  rw [Tv.first_cons] at h
  cases e : v.last i with
  | some y =>
   rw [e] at h
   cases h
   exact ⟨i, hl i (by simp), Tv.last_mem e, by simp⟩
  | none =>
   rw [e] at h
   obtain ⟨t, ht, hm, hi⟩ := Tv.first_mem (fun i hi => hl i (by simp [hi])) h
   exact ⟨t, ht, hm, by simp [hi]⟩

theorem Tv.safe_spec (h : v.Ok) (hi : i = 1 ∨ i = 2) (hk : k ∈ v.rg.l i) : (v.safe k).Ok ∧ (v.safe k).most = v.most ∧ (∀ x, (v.safe k).has x = v.has x) ∧ (sMost v.most < (v.fr 2 k).len 2 → ∃ y, (v.fr 2 k).last 2 = some y ∧ y ∈ (v.fr 2 k).rg.l 2) := by
 have hi3 : i < 3 := by omega
 have hf := h.fit.fr (j := 2) (by omega) (h.fit.klen hi3 hk) (h.fit.in_ h.fit.n hi3 hk)
 have l0 := Tv.move_len h.fit (j := 2) hi3 hk (t := 0) (by omega)
 have l1 := Tv.move_len h.fit (j := 2) hi3 hk (t := 1) (by omega)
 have l2 := Tv.move_len h.fit (j := 2) hi3 hk (t := 2) (by omega)
 have a := h.win
 have b := h.bk
 have c := h.sf
 have hm : (v.fr 2 k).most = v.most := rfl
 have e0 : (v.fr 2 k).len 0 = v.len 0 := by
  rcases hi with rfl | rfl <;> simp at l0 <;> exact l0
 have e1 : (v.fr 2 k).len 1 + (v.fr 2 k).len 2 = v.len 1 + v.len 2 := by
  rcases hi with rfl | rfl <;> simp at l1 l2 <;> omega
 have e2 : (v.fr 2 k).len 2 ≤ v.len 2 + 1 := by
  rcases hi with rfl | rfl <;> simp at l2 <;> omega
 have hh : ∀ x, (v.fr 2 k).has x = v.has x := fun x => by
  rw [Tv.has_fr (by omega)]
  by_cases e : x = k
  ·subst e
   rw [Tv.has_iff.2 ⟨i, hi3, hk⟩]
   simp
  ·simp [e]
 unfold Tv.safe
 by_cases e : sMost v.most < (v.fr 2 k).len 2
 ·rw [if_pos e]
  obtain ⟨y, hy⟩ := Tv.last_of (v := v.fr 2 k) (i := 2) (by omega)
  have hym := Tv.last_mem hy
  rw [hy]
  show ((v.fr 2 k).fr 1 y).Ok ∧ _ ∧ _ ∧ _
  have m0 := Tv.move_len hf (j := 1) (by omega) hym (t := 0) (by omega)
  have m1 := Tv.move_len hf (j := 1) (by omega) hym (t := 1) (by omega)
  have m2 := Tv.move_len hf (j := 1) (by omega) hym (t := 2) (by omega)
  simp at m0 m1 m2
  refine ⟨⟨hf.fr (by omega) (hf.klen (by omega) hym) (hf.in_ hf.n (by omega) hym), ?_, ?_, ?_⟩, rfl, fun x => ?_, fun _ => ⟨y, rfl, hym⟩⟩
  ·show ((v.fr 2 k).fr 1 y).len 0 ≤ wMost v.most; omega
  ·show ((v.fr 2 k).fr 1 y).len 1 + ((v.fr 2 k).fr 1 y).len 2 + wMost v.most ≤ v.most; omega
  ·show ((v.fr 2 k).fr 1 y).len 2 ≤ sMost v.most; omega
  ·show ((v.fr 2 k).fr 1 y).has x = _
   rw [Tv.has_fr (by omega), hh]
   by_cases e : x = y
   ·subst e
    rw [← hh, Tv.has_iff.2 ⟨2, by omega, hym⟩]
    simp
   ·simp [e]
 ·rw [if_neg e]
  refine ⟨⟨hf, ?_, ?_, ?_⟩, rfl, hh, fun h => absurd h e⟩
  ·show (v.fr 2 k).len 0 ≤ wMost v.most; omega
  ·show (v.fr 2 k).len 1 + (v.fr 2 k).len 2 + wMost v.most ≤ v.most; omega
  ·show (v.fr 2 k).len 2 ≤ sMost v.most; omega
theorem Tv.window_spec (h : v.Ok) (hk : k ∈ v.rg.l 0) : (v.fr 0 k).Ok ∧ (∀ x, (v.fr 0 k).has x = v.has x) := by
 have hf := h.fit.fr (j := 0) (by omega) (h.fit.klen (by omega) hk) (h.fit.in_ h.fit.n (by omega) hk)
 have l0 := Tv.move_len h.fit (j := 0) (by omega) hk (t := 0) (by omega)
 have l1 := Tv.move_len h.fit (j := 0) (by omega) hk (t := 1) (by omega)
 have l2 := Tv.move_len h.fit (j := 0) (by omega) hk (t := 2) (by omega)
 simp at l0 l1 l2
 have a := h.win
 have b := h.bk
 have c := h.sf
 refine ⟨⟨hf, ?_, ?_, ?_⟩, fun x => ?_⟩
 ·show (v.fr 0 k).len 0 ≤ wMost v.most; omega
 ·show (v.fr 0 k).len 1 + (v.fr 0 k).len 2 + wMost v.most ≤ v.most; omega
 ·show (v.fr 0 k).len 2 ≤ sMost v.most; omega
 ·rw [Tv.has_fr (by omega)]
  by_cases e : x = k
  ·subst e
   rw [Tv.has_iff.2 ⟨0, by omega, hk⟩]
   simp
  ·simp [e]
theorem Tv.touch_spec (h : v.Ok) (k : Key) : (v.touch k).Ok ∧ (v.touch k).most = v.most ∧ ∀ x, (v.touch k).has x = v.has x := by
 unfold Tv.touch
 cases e : v.at_ k with
 | none => exact ⟨h, rfl, fun _ => rfl⟩
 | some i =>
  obtain ⟨hi, hm⟩ := Tv.at_some e
  rcases (by omega : i = 0 ∨ i = 1 ∨ i = 2) with rfl | rfl | rfl
  ·have := Tv.window_spec (h.note k) hm
   exact ⟨this.1, rfl, this.2⟩
  ·have := Tv.safe_spec (h.note k) (.inl rfl) hm
   exact ⟨this.1, this.2.1, this.2.2.1⟩
  ·have := Tv.safe_spec (h.note k) (.inr rfl) hm
   exact ⟨this.1, this.2.1, this.2.2.1⟩

structure Tv.Ins (v v' : Tv) (g : List Key) (k : Key) : Prop where
 ok : v'.Ok
 most : v'.most = v.most
 has : ∀ x, v'.has x = ((decide (x = k) || v.has x) && decide (x ∉ g))
 glen : g.length ≤ 1
 gsub : ∀ x, x ∈ g → v.has x = true
theorem Tv.came_fit (h : v.Ok) (hk : k.length ≤ 64) : (v.came k).Fit := (h.note k).fit.fr (by omega) hk ((h.note k).fit.room (h.note k).kept)
structure Tv.Full (v : Tv) (k : Key) (u : Tv) (one : Key) : Prop where
 fit : u.Fit
 most : u.most = v.most
 mem : one ∈ u.rg.l 0
 last : u.last 0 = some one
 old : v.has one = true
 l0 : u.len 0 = wMost u.most + 1
 bk : u.len 1 + u.len 2 + wMost u.most ≤ u.most
 sf : u.len 2 ≤ sMost u.most
 has : ∀ x, u.has x = (decide (x = k) || v.has x)
 new : k ∈ u.rg.l 0
theorem Tv.full_of (h : v.Ok) (hk : k.length ≤ 64) (hno : v.has k = false) (hw : ¬ (v.came k).len 0 ≤ wMost v.most) : ∃ one, v.Full k (v.came k) one := by
 have hn := Tv.has_no hno
 have hf := Tv.came_fit h hk
 have l0 : (v.came k).len 0 = v.len 0 + 1 := Tv.new_len (v := v.note k) (j := 0) hn (t := 0) (by omega)
 have l1 : (v.came k).len 1 = v.len 1 := Tv.new_len (v := v.note k) (j := 0) hn (t := 1) (by omega)
 have l2 : (v.came k).len 2 = v.len 2 := Tv.new_len (v := v.note k) (j := 0) hn (t := 2) (by omega)
 have a := h.win
 have b := h.bk
 have c := h.sf
 have wp := wMost_pos v.most
 have hl : (v.came k).rg.l 0 = k :: v.rg.l 0 := by
  show (if 0 = 0 then k :: strike k (v.rg.l 0) else strike k (v.rg.l 0)) = _
  rw [if_pos rfl, strike_of_not (hn 0 (by omega))]
 have hpos : 0 < v.len 0 := by omega
 obtain ⟨y, hy⟩ := Tv.last_of hpos
 have hy2 : (v.came k).last 0 = some y := by
  obtain ⟨s, hs⟩ := Tv.last_some hy
  unfold Tv.last
  rw [hl, hs, ← List.cons_append, List.getLast?_append]
  rfl
 refine ⟨y, hf, rfl, Tv.last_mem hy2, hy2, Tv.has_iff.2 ⟨0, by omega, Tv.last_mem hy⟩, ?_, ?_, ?_, fun x => ?_, by rw [hl]; simp⟩
 ·show (v.came k).len 0 = wMost v.most + 1; omega
 ·show (v.came k).len 1 + (v.came k).len 2 + wMost v.most ≤ v.most; omega
 ·show (v.came k).len 2 ≤ sMost v.most; omega
 ·exact Tv.has_fr (v := v.note k) (by omega)
theorem Tv.stays_mem {one o : Key} (h : v.stays one = some o) : v.first [1, 2] = some o := by
 unfold Tv.stays at h
 cases e : v.first [1, 2] with
 | none => rw [e] at h; cases h
 | some y =>
  rw [e] at h
  simp only at h
  split at h
  ·cases h
  ·exact h
theorem Tv.Full.leave {u : Tv} {one : Key} (h : v.Full k u one) : v.Ins u.leave u.leaveK k := by
 unfold Tv.leave Tv.leaveK
 rw [h.last]
 show v.Ins (u.leaveOf one) (u.leaveOfK one) k
 unfold Tv.leaveOf Tv.leaveOfK
 have a := h.l0
 have b := h.bk
 have c := h.sf
 have hm := h.most
 have hkl := h.fit.klen (by omega) h.mem
 by_cases e1 : u.kept ≤ u.most
 ·rw [if_pos e1, if_pos e1]
  have l0 := Tv.move_len h.fit (j := 1) (by omega) h.mem (t := 0) (by omega)
  have l1 := Tv.move_len h.fit (j := 1) (by omega) h.mem (t := 1) (by omega)
  have l2 := Tv.move_len h.fit (j := 1) (by omega) h.mem (t := 2) (by omega)
  simp at l0 l1 l2
  unfold Tv.kept at e1
  refine ⟨⟨h.fit.fr (by omega) hkl (h.fit.in_ h.fit.n (by omega) h.mem), ?_, ?_, ?_⟩, hm, fun x => ?_, by simp, fun x hx => by cases hx⟩
  ·show (u.fr 1 one).len 0 ≤ wMost u.most; omega
  ·show (u.fr 1 one).len 1 + (u.fr 1 one).len 2 + wMost u.most ≤ u.most; omega
  ·show (u.fr 1 one).len 2 ≤ sMost u.most; omega
  ·rw [Tv.has_fr (by omega), h.has]
   by_cases e : x = one
   ·subst e; rw [h.old]; simp
   ·simp [e]
 ·rw [if_neg e1, if_neg e1]
  cases e2 : u.stays one with
  | none =>
   show v.Ins (u.dr one) [one] k
   have l0 := Tv.dr_len h.fit (by omega) h.mem (t := 0) (by omega)
   have l1 := Tv.dr_len h.fit (by omega) h.mem (t := 1) (by omega)
   have l2 := Tv.dr_len h.fit (by omega) h.mem (t := 2) (by omega)
   simp at l0 l1 l2
   refine ⟨⟨h.fit.dr one, ?_, ?_, ?_⟩, hm, fun x => ?_, by simp, fun x hx => by rw [List.mem_singleton.1 hx]; exact h.old⟩
   ·show (u.dr one).len 0 ≤ wMost u.most; omega
   ·show (u.dr one).len 1 + (u.dr one).len 2 + wMost u.most ≤ u.most; omega
   ·show (u.dr one).len 2 ≤ sMost u.most; omega
   ·rw [Tv.has_dr, h.has]
    simp only [List.mem_singleton]
  | some o =>
   show v.Ins ((u.dr o).fr 1 one) [o] k
   obtain ⟨i, hi, hmo, hil⟩ := Tv.first_mem (by simp) (Tv.stays_mem e2)
   have hi12 : i = 1 ∨ i = 2 := by simpa using hil
   have hoo : one ≠ o := fun e => by subst e; have := h.fit.dj hi (by omega) hmo h.mem; omega
   have hok : o ≠ k ∧ v.has o = true := by
    have hu := Tv.has_iff.2 ⟨i, hi, hmo⟩
    rw [h.has] at hu
    have hko : o ≠ k := fun e => by
     subst e
     have := h.fit.dj hi (by omega) hmo h.new
     omega
    refine ⟨hko, by simpa [hko] using hu⟩
   have hmem2 : one ∈ (u.dr o).rg.l 0 := Tv.mem_dr.2 ⟨h.mem, hoo⟩
   have d0 := Tv.dr_len h.fit hi hmo (t := 0) (by omega)
   have d1 := Tv.dr_len h.fit hi hmo (t := 1) (by omega)
   have d2 := Tv.dr_len h.fit hi hmo (t := 2) (by omega)
   have hf2 := h.fit.dr o
   have l0 := Tv.move_len hf2 (j := 1) (by omega) hmem2 (t := 0) (by omega)
   have l1 := Tv.move_len hf2 (j := 1) (by omega) hmem2 (t := 1) (by omega)
   have l2 := Tv.move_len hf2 (j := 1) (by omega) hmem2 (t := 2) (by omega)
   simp at l0 l1 l2
   refine ⟨⟨hf2.fr (by omega) hkl (hf2.in_ hf2.n (by omega) hmem2), ?_, ?_, ?_⟩, hm, fun x => ?_, by simp, fun x hx => by rw [List.mem_singleton.1 hx]; exact hok.2⟩
   ·show ((u.dr o).fr 1 one).len 0 ≤ wMost u.most
    rcases hi12 with rfl | rfl <;> simp at d0 d1 d2 <;> omega
   ·show ((u.dr o).fr 1 one).len 1 + ((u.dr o).fr 1 one).len 2 + wMost u.most ≤ u.most
    rcases hi12 with rfl | rfl <;> simp at d0 d1 d2 <;> omega
   ·show ((u.dr o).fr 1 one).len 2 ≤ sMost u.most
    rcases hi12 with rfl | rfl <;> simp at d0 d1 d2 <;> omega
   ·rw [Tv.has_fr (by omega), Tv.has_dr, h.has]
    simp only [List.mem_singleton]
    by_cases e : x = one
    ·subst e; rw [h.old]; simp [hoo]
    ·simp [e]
theorem Tv.ins_spec (h : v.Ok) (hk : k.length ≤ 64) : v.Ins (v.ins k) (v.insK k) k := by
 unfold Tv.ins Tv.insK
 by_cases e : v.has k = true
 ·rw [if_pos e, if_pos e]
  have := Tv.touch_spec h k
  refine ⟨this.1, this.2.1, fun x => ?_, by simp, fun x hx => by cases hx⟩
  rw [this.2.2]
  by_cases e2 : x = k
  ·subst e2; rw [e]; simp
  ·simp [e2]
 ·rw [if_neg e, if_neg e]
  rw [Bool.not_eq_true] at e
  have hn := Tv.has_no e
  have hf := Tv.came_fit h hk
  have l0 : (v.came k).len 0 = v.len 0 + 1 := Tv.new_len (v := v.note k) (j := 0) hn (t := 0) (by omega)
  have l1 : (v.came k).len 1 = v.len 1 := Tv.new_len (v := v.note k) (j := 0) hn (t := 1) (by omega)
  have l2 : (v.came k).len 2 = v.len 2 := Tv.new_len (v := v.note k) (j := 0) hn (t := 2) (by omega)
  unfold Tv.fresh Tv.freshK
  by_cases hw : (v.came k).len 0 ≤ wMost v.most
  ·rw [if_pos hw, if_pos hw]
   have b := h.bk
   have c := h.sf
   refine ⟨⟨hf, hw, ?_, ?_⟩, rfl, fun x => ?_, by simp, fun x hx => by cases hx⟩
   ·show (v.came k).len 1 + (v.came k).len 2 + wMost v.most ≤ v.most; omega
   ·show (v.came k).len 2 ≤ sMost v.most; omega
   ·rw [show (v.came k).has x = _ from Tv.has_fr (v := v.note k) (by omega)]
    simp [Tv.has_note]
  ·rw [if_neg hw, if_neg hw]
   obtain ⟨one, hF⟩ := Tv.full_of h hk e hw
   exact hF.leave
theorem Tv.insert_ok (h : v.Ok) (k : Key) : (v.insert k).Ok ∧ (v.insert k).most = v.most := by
 unfold Tv.insert
 split
 ·exact ⟨h, rfl⟩
 ·have := Tv.ins_spec h (k := k) (by omega)
  exact ⟨this.ok, this.most⟩
theorem Tv.miss_ok (h : v.Ok) (k : Key) : (v.miss k).Ok ∧ (v.miss k).most = v.most := by
 unfold Tv.miss
 split
 ·exact ⟨h, rfl⟩
 ·exact ⟨h.note k, rfl⟩
theorem Tv.goes_mem (h : v.goes = some k) : ∃ i, i < 3 ∧ k ∈ v.rg.l i := by
 obtain ⟨i, hi, hm, -⟩ := Tv.first_mem (by simp) h
 exact ⟨i, hi, hm⟩
theorem Tv.evict_ok (h : v.Ok) : v.evict.Ok ∧ v.evict.most = v.most := by
 unfold Tv.evict
 split
 ·exact ⟨h, rfl⟩
 ·exact ⟨h.dr _, rfl⟩
theorem wideOf_le {c : Nat} (h : 1 ≤ c) : 1 ≤ wideOf c ∧ wideOf c ≤ 4096 := by unfold wideOf; omega
theorem Tv.new_ok {n seed : Nat} (h1 : 1 ≤ n) (h2 : n ≤ 1000) (h3 : seed < 18446744073709551616) : (Tv.new n seed).Ok := by
 have hw := wideOf_le h1
 have hm := wMost_le h1
 refine ⟨⟨Rg.new_wf (by omega) (by omega) (by omega), Sketchy.Sk.new_wf hw.1 hw.2 h3, rfl, rfl, h1, h2, rfl⟩, Nat.zero_le _, ?_, Nat.zero_le _⟩
 show 0 + 0 + wMost n ≤ n
 omega
theorem len_sub : ∀ {a b : List Key}, a.Nodup → b.Nodup → (∀ x, x ∈ a → x ∈ b) → a.length ≤ b.length
 | [], _, _, _, _ => Nat.zero_le _
 | x :: a, b, ha, hb, h => by
  have hx := h x (by simp)
  have h1 := strike_length hb hx
  have h2 := len_sub (b := strike x b) (List.nodup_cons.1 ha).2 (strike_nodup hb) (fun y hy => strike_mem.2 ⟨h y (by simp [hy]), fun e => (List.nodup_cons.1 ha).1 (e ▸ hy)⟩)
  simp only [List.length_cons]
  omega
theorem Tv.kept_of (h : v.Fit) {l : List Key} (hl : l.Nodup) (hm : ∀ x, x ∈ l ↔ v.has x = true) : v.kept = l.length := by
 have hnd : (v.rg.l 0 ++ (v.rg.l 1 ++ v.rg.l 2)).Nodup := by
  refine List.nodup_append.2 ⟨h.nd (by omega), List.nodup_append.2 ⟨h.nd (by omega), h.nd (by omega), fun a ha b hb e => by have := h.dj (by omega) (by omega) ha (e ▸ hb); omega⟩, fun a ha b hb e => ?_⟩
  rcases List.mem_append.1 hb with hb | hb
  ·have := h.dj (by omega) (by omega) ha (e ▸ hb); omega
  ·have := h.dj (by omega) (by omega) ha (e ▸ hb); omega
 have hk : v.kept = (v.rg.l 0 ++ (v.rg.l 1 ++ v.rg.l 2)).length := by rw [List.length_append, List.length_append]; unfold Tv.kept Tv.len; omega
 have hmem : ∀ x, x ∈ v.rg.l 0 ++ (v.rg.l 1 ++ v.rg.l 2) ↔ v.has x = true := fun x => by
  rw [List.mem_append, List.mem_append, Tv.has_iff]
  constructor
  ·rintro (h | h | h)
   ·exact ⟨0, by omega, h⟩
   ·exact ⟨1, by omega, h⟩
   ·exact ⟨2, by omega, h⟩
  ·rintro ⟨i, hi, h⟩
   rcases (by omega : i = 0 ∨ i = 1 ∨ i = 2) with rfl | rfl | rfl
   ·exact .inl h
   ·exact .inr (.inl h)
   ·exact .inr (.inr h)
 rw [hk]
 exact Nat.le_antisymm (len_sub hnd hl fun x hx => (hm x).2 ((hmem x).1 hx)) (len_sub hl hnd fun x hx => (hmem x).2 ((hm x).1 hx))
end
end Go.Proofs.YtkiabladmgagdabGreatDoor.Tinyy
