/- Chapter 7 over plain lists: who is kept, who went, the target; what inserting, touching, removing and evicting make of them. It speaks of no program. The program's Arc in memory: its three cells and its rings; the contracts of its small functions. The only condition: a key is no longer than a text may be. Contracts of the program's Arc: who goes when room is made, and what inserting comes to. The only condition: a key is no longer than a text may be. -/
import Derived.Test.YtkiabladmgagdabGreatDoorRingRoundAll
import Derived.Deep.RegionHeld3
import Derived.Test.YtkiabladmgagdabGreatDoorSq
namespace Go.Proofs.YtkiabladmgagdabGreatDoor.Arcy
open Ringy

structure Av where
 most : Nat
 tgt : Nat
 rg : Rg
def Av.len (v : Av) (i : Nat) : Nat := (v.rg.l i).length
def Av.kept (v : Av) : Nat := v.len 0 + v.len 1
def Av.one (v : Av) : Nat := v.len 0 + v.len 2
def Av.all (v : Av) : Nat := v.len 0 + v.len 1 + v.len 2 + v.len 3
def Av.new (most : Nat) : Av := ⟨most, 0, Rg.new 4 (2 * most + 1)⟩
def Av.fr (v : Av) (j : Nat) (k : Key) : Av := { v with rg := (v.rg.drop k).push j k }
def Av.dr (v : Av) (k : Key) : Av := { v with rg := v.rg.drop k }
def Av.once (v : Av) (b : Bool) : Bool := decide (0 < v.len 0) && ((decide (v.tgt < v.len 0) || (decide (v.len 0 = v.tgt) && b)) || decide (v.len 1 = 0))
def Av.src (v : Av) (b : Bool) : Nat := if v.once b = true then 0 else 1
def Av.last (v : Av) (i : Nat) : Option Key := (v.rg.l i).getLast?
def Av.repl (v : Av) (b : Bool) : Av := match v.last (v.src b) with
 | none => v
 | some k => v.fr (v.src b + 2) k
def Av.forget (v : Av) (i : Nat) : Av := match v.last i with
 | none => v
 | some k => v.dr k
def Av.room (v : Av) (b : Bool) : Av := if v.kept < v.most then v else v.repl b
def Av.roomK (v : Av) (b : Bool) : List Key := if v.kept < v.most then [] else (v.last (v.src b)).toList
def Av.shut (v : Av) : Av := if v.most ≤ v.one then v.forget 2 else if 2 * v.most ≤ v.all then v.forget 3 else v
def Av.fresh (v : Av) : Av := if v.most ≤ v.len 0 then v.forget 0 else v.shut.room false
def Av.freshK (v : Av) : List Key := if v.most ≤ v.len 0 then (v.last 0).toList else v.shut.roomK false
def Av.up (v : Av) : Av := { v with tgt := min (v.tgt + max 1 (v.len 3 / v.len 2)) v.most }
def Av.down (v : Av) : Av := { v with tgt := v.tgt - max 1 (v.len 2 / v.len 3) }
def Av.at_ (v : Av) (k : Key) : Option Nat := if k ∈ v.rg.l 0 then some 0 else if k ∈ v.rg.l 1 then some 1 else if k ∈ v.rg.l 2 then some 2 else if k ∈ v.rg.l 3 then some 3 else none
def Av.has (v : Av) (k : Key) : Bool := decide (k ∈ v.rg.l 0) || decide (k ∈ v.rg.l 1)
def Av.ins (v : Av) (k : Key) : Av := match v.at_ k with
 | none => v.fresh.fr 0 k
 | some 2 => (v.up.room false).fr 1 k
 | some 3 => (v.down.room true).fr 1 k
 | some _ => v.fr 1 k
def Av.insK (v : Av) (k : Key) : List Key := match v.at_ k with
 | none => v.freshK
 | some 2 => v.up.roomK false
 | some 3 => v.down.roomK true
 | some _ => []
def Av.insert (v : Av) (k : Key) : Av := if 64 < k.length then v else v.ins k
def Av.insertK (v : Av) (k : Key) : List Key := if 64 < k.length then [] else v.insK k
def Av.touch (v : Av) (k : Key) : Av := if v.has k = true then v.fr 1 k else v
def Av.remove (v : Av) (k : Key) : Av := v.dr k

structure Av.Ok (v : Av) : Prop where
 wf : v.rg.Wf
 n : v.rg.n = 4
 pl : v.rg.places = 2 * v.most + 1
 m1 : 1 ≤ v.most
 m2 : v.most ≤ 1000
 t : v.tgt ≤ v.most
 kept : v.kept ≤ v.most
 one : v.one ≤ v.most
 all : v.all ≤ 2 * v.most

section
variable {v : Av} {k x : Key} {i j t : Nat}
theorem Av.many4 (h : v.rg.n = 4) : v.rg.many = v.all := by
 unfold Rg.many
 rw [h]
 simp [sumTo, Av.all, Av.len]
theorem Av.Ok.nd (h : v.Ok) (hi : i < 4) : (v.rg.l i).Nodup := h.wf.nd i (by rw [h.n]; exact hi)
theorem Av.Ok.dj (h : v.Ok) (hi : i < 4) (hj : j < 4) (h1 : k ∈ v.rg.l i) (h2 : k ∈ v.rg.l j) : i = j := h.wf.dj i j k (by rw [h.n]; exact hi) (by rw [h.n]; exact hj) h1 h2
theorem Av.Ok.klen (h : v.Ok) (hi : i < 4) (h1 : k ∈ v.rg.l i) : k.length ≤ 64 := h.wf.len i k (by rw [h.n]; exact hi) h1
theorem Av.mem_dr : x ∈ (v.dr k).rg.l t ↔ x ∈ v.rg.l t ∧ x ≠ k := strike_mem
theorem Av.mem_fr : x ∈ (v.fr j k).rg.l t ↔ (x ∈ v.rg.l t ∧ x ≠ k) ∨ (t = j ∧ x = k) := by
 show x ∈ (if t = j then k :: strike k (v.rg.l t) else strike k (v.rg.l t)) ↔ _
 by_cases e : t = j
 ·rw [if_pos e, List.mem_cons, strike_mem]
  constructor
  ·rintro (h | h)
   ·exact .inr ⟨e, h⟩
   ·exact .inl h
  ·rintro (h | h)
   ·exact .inr h
   ·exact .inl h.2
 ·rw [if_neg e, strike_mem]
  constructor
  ·exact .inl
  ·rintro (h | h)
   ·exact h
   ·exact absurd h.1 e
theorem Av.dr_le : (v.dr k).len t ≤ v.len t := List.length_filter_le _ _
theorem Av.dr_len (h : v.Ok) (hi : i < 4) (hk : k ∈ v.rg.l i) (ht : t < 4) : (v.dr k).len t + (if t = i then 1 else 0) = v.len t := by
 by_cases e : t = i
 ·subst e
  rw [if_pos rfl]
  exact strike_length (h.nd hi) hk
 ·rw [if_neg e]
  show (strike k (v.rg.l t)).length + 0 = (v.rg.l t).length
  rw [strike_of_not (fun hm => e (h.dj ht hi hm hk)), Nat.add_zero]
theorem Av.dr_no (hk : ∀ t, t < 4 → k ∉ v.rg.l t) (ht : t < 4) : (v.dr k).len t = v.len t := by
 show (strike k (v.rg.l t)).length = (v.rg.l t).length
 rw [strike_of_not (hk t ht)]
theorem Av.fr_len : (v.fr j k).len t = (v.dr k).len t + (if t = j then 1 else 0) := by
 show (if t = j then k :: strike k (v.rg.l t) else strike k (v.rg.l t)).length = (strike k (v.rg.l t)).length + _
 by_cases e : t = j
 ·rw [if_pos e, if_pos e]; rfl
 ·rw [if_neg e, if_neg e]; rfl
theorem Av.move_len (h : v.Ok) (hi : i < 4) (hk : k ∈ v.rg.l i) (ht : t < 4) : (v.fr j k).len t + (if t = i then 1 else 0) = v.len t + (if t = j then 1 else 0) := by
 have h1 := Av.dr_len h hi hk ht
 rw [Av.fr_len]
 omega
theorem Av.new_len (hk : ∀ t, t < 4 → k ∉ v.rg.l t) (ht : t < 4) : (v.fr j k).len t = v.len t + (if t = j then 1 else 0) := by
 rw [Av.fr_len, Av.dr_no hk ht]
theorem Av.Ok.dr (h : v.Ok) (k : Key) : (v.dr k).Ok := by
 have h0 := Av.dr_le (v := v) (k := k) (t := 0)
 have h1 := Av.dr_le (v := v) (k := k) (t := 1)
 have h2 := Av.dr_le (v := v) (k := k) (t := 2)
 have h3 := Av.dr_le (v := v) (k := k) (t := 3)
 have a := h.kept
 have b := h.one
 have c := h.all
 unfold Av.kept at a
 unfold Av.one at b
 unfold Av.all at c
 refine ⟨h.wf.drop k, h.n, h.pl, h.m1, h.m2, h.t, ?_, ?_, ?_⟩
 ·show (v.dr k).len 0 + (v.dr k).len 1 ≤ v.most; omega
 ·show (v.dr k).len 0 + (v.dr k).len 2 ≤ v.most; omega
 ·show (v.dr k).len 0 + (v.dr k).len 1 + (v.dr k).len 2 + (v.dr k).len 3 ≤ 2 * v.most; omega
theorem Av.Ok.place (h : v.Ok) (k : Key) : (v.rg.drop k).many < v.rg.places := by
 have := Av.many4 (v := v.dr k) h.n
 have h2 := (h.dr k).all
 have h3 := h.pl
 have : (v.rg.drop k).many = (v.dr k).all := this
 have h2 : (v.dr k).all ≤ 2 * v.most := h2
 omega
theorem Av.Ok.can (h : v.Ok) (k : Key) : v.rg.has k ∨ v.rg.many < v.rg.places := by
 right
 rw [Av.many4 h.n, h.pl]
 have := h.all
 omega
theorem Av.Ok.fr (h : v.Ok) (hj : j < 4) (hk : k.length ≤ 64) (h1 : (v.fr j k).kept ≤ v.most) (h2 : (v.fr j k).one ≤ v.most) (h3 : (v.fr j k).all ≤ 2 * v.most) : (v.fr j k).Ok :=
 ⟨(h.wf.drop k).push (by show j < v.rg.n; rw [h.n]; exact hj) (fun i _ hx => (strike_mem.1 hx).2 rfl) hk (h.place k), h.n, h.pl, h.m1, h.m2, h.t, h1, h2, h3⟩
theorem Av.last_some (h : v.last i = some k) : ∃ s, v.rg.l i = s ++ [k] := List.getLast?_eq_some_iff.1 h
theorem Av.last_none (h : v.last i = none) : v.rg.l i = [] := List.getLast?_eq_none_iff.1 h
theorem Av.last_mem (h : v.last i = some k) : k ∈ v.rg.l i := by obtain ⟨s, e⟩ := Av.last_some h; rw [e]; simp
theorem Av.last_of (h : 0 < v.len i) : ∃ k, v.last i = some k := by
 cases e : v.last i with
 | none => have := Av.last_none e; unfold Av.len at h; rw [this] at h; cases h
 | some k => exact ⟨k, rfl⟩
theorem Av.src_cases (v : Av) (b : Bool) : v.src b = 0 ∨ v.src b = 1 := by unfold Av.src; split; exact .inl rfl; exact .inr rfl
theorem Av.src_len {b : Bool} (h : 0 < v.kept) : 0 < v.len (v.src b) := by
 unfold Av.kept at h
 unfold Av.src
 by_cases e : v.once b = true
 ·rw [if_pos e]
  unfold Av.once at e
  rw [Bool.and_eq_true, decide_eq_true_eq] at e
  exact e.1
 ·rw [if_neg e]
  unfold Av.once at e
  rw [Bool.not_eq_true, Bool.and_eq_false_iff, decide_eq_false_iff_not, Bool.or_eq_false_iff, decide_eq_false_iff_not] at e
  rcases e with e | e
  ·omega
  ·exact Nat.pos_of_ne_zero e.2
structure Av.Went (v v' : Av) (k : Key) : Prop where
 mem : k ∈ v.rg.l 0 ∨ k ∈ v.rg.l 1
 ok : v'.Ok
 most : v'.most = v.most
 tgt : v'.tgt = v.tgt
 kept : v'.kept + 1 = v.kept
 one : v'.one = v.one
 all : v'.all = v.all
 has : ∀ x, v'.has x = (v.has x && decide (x ≠ k))
 old : ∀ t x, 2 ≤ t → t < 4 → x ∈ v.rg.l t → x ∈ v'.rg.l t
 new : ∀ t x, t < 4 → x ∈ v'.rg.l t → ∃ u, u < 4 ∧ x ∈ v.rg.l u
theorem Av.has_iff : v.has k = true ↔ k ∈ v.rg.l 0 ∨ k ∈ v.rg.l 1 := by unfold Av.has; simp
theorem Av.has_of {v : Av} {x : Key} {b : Bool} (h : (x ∈ v.rg.l 0 ∨ x ∈ v.rg.l 1) ↔ b = true) : v.has x = b := by
 rw [Bool.eq_iff_iff, Av.has_iff]
 exact h
theorem Av.move_went (h : v.Ok) (hi : i < 2) (hk : k ∈ v.rg.l i) : v.Went (v.fr (i + 2) k) k := by
 have l0 := Av.move_len h (j := i + 2) (by omega) hk (t := 0) (by omega)
 have l1 := Av.move_len h (j := i + 2) (by omega) hk (t := 1) (by omega)
 have l2 := Av.move_len h (j := i + 2) (by omega) hk (t := 2) (by omega)
 have l3 := Av.move_len h (j := i + 2) (by omega) hk (t := 3) (by omega)
 have hkl := h.klen (by omega) hk
 have a := h.kept
 have b := h.one
 have c := h.all
 have e1 : (v.fr (i + 2) k).kept + 1 = v.kept := by
  unfold Av.kept
  rcases (by omega : i = 0 ∨ i = 1) with rfl | rfl <;> simp at l0 l1 l2 l3 ⊢ <;> omega
 have e2 : (v.fr (i + 2) k).one = v.one := by
  unfold Av.one
  rcases (by omega : i = 0 ∨ i = 1) with rfl | rfl <;> simp at l0 l1 l2 l3 ⊢ <;> omega
 have e3 : (v.fr (i + 2) k).all = v.all := by
  unfold Av.all
  rcases (by omega : i = 0 ∨ i = 1) with rfl | rfl <;> simp at l0 l1 l2 l3 ⊢ <;> omega
 refine ⟨?_, h.fr (by omega) hkl (by omega) (by omega) (by omega), rfl, rfl, e1, e2, e3, fun x => ?_, fun t x ht h4 hx => ?_, fun t x ht hx => ?_⟩
 ·rcases (by omega : i = 0 ∨ i = 1) with rfl | rfl
  ·exact .inl hk
  ·exact .inr hk
 ·refine Av.has_of ?_
  rw [Av.mem_fr, Av.mem_fr, Bool.and_eq_true, decide_eq_true_eq, Av.has_iff]
  constructor
  ·rintro ((h1 | h1) | (h1 | h1))
   ·exact ⟨.inl h1.1, h1.2⟩
   ·omega
   ·exact ⟨.inr h1.1, h1.2⟩
   ·omega
  ·rintro ⟨h1 | h1, h2⟩
   ·exact .inl (.inl ⟨h1, h2⟩)
   ·exact .inr (.inl ⟨h1, h2⟩)
 ·refine Av.mem_fr.2 (.inl ⟨hx, ?_⟩)
  rintro rfl
  have := h.dj h4 (by omega) hx hk
  omega
 ·rcases Av.mem_fr.1 hx with h1 | h1
  ·exact ⟨t, ht, h1.1⟩
  ·exact ⟨i, by omega, by rw [h1.2]; exact hk⟩
theorem Av.repl_went (h : v.Ok) (b : Bool) (hk : 0 < v.kept) : ∃ k, v.last (v.src b) = some k ∧ v.Went (v.repl b) k := by
 obtain ⟨k, e⟩ := Av.last_of (Av.src_len (b := b) hk)
 refine ⟨k, e, ?_⟩
 have : v.repl b = v.fr (v.src b + 2) k := by unfold Av.repl; rw [e]
 rw [this]
 exact Av.move_went h (by rcases Av.src_cases v b with h | h <;> omega) (Av.last_mem e)
structure Av.Gone (v v' : Av) (g : List Key) : Prop where
 ok : v'.Ok
 most : v'.most = v.most
 tgt : v'.tgt = v.tgt
 one : v'.one ≤ v.one
 all : v'.all ≤ v.all
 cnt : v'.kept + g.length = v.kept
 sub : ∀ t x, t < 4 → x ∈ v'.rg.l t → ∃ u, u < 4 ∧ x ∈ v.rg.l u
 has : ∀ x, v'.has x = (v.has x && decide (x ∉ g))
 glen : g.length ≤ 1
theorem Av.Gone.refl (h : v.Ok) : v.Gone v [] := ⟨h, rfl, rfl, Nat.le_refl _, Nat.le_refl _, rfl, fun t x ht hx => ⟨t, ht, hx⟩, fun x => by simp, by simp⟩
theorem Av.Gone.then {v v' v'' : Av} {g : List Key} (h : v.Gone v' []) (h' : v'.Gone v'' g) : v.Gone v'' g :=
 ⟨h'.ok, h'.most.trans h.most, h'.tgt.trans h.tgt, Nat.le_trans h'.one h.one, Nat.le_trans h'.all h.all, h'.cnt.trans h.cnt, fun t x ht hx => by
   obtain ⟨u, hu, hx2⟩ := h'.sub t x ht hx
   exact h.sub u x hu hx2, fun x => by rw [h'.has, h.has]; simp, h'.glen⟩
theorem Av.room_spec (h : v.Ok) (b : Bool) : v.Gone (v.room b) (v.roomK b) ∧ (v.room b).kept < v.most ∧ (∀ t x, 2 ≤ t → t < 4 → x ∈ v.rg.l t → x ∈ (v.room b).rg.l t) := by
 unfold Av.room Av.roomK
 by_cases e : v.kept < v.most
 ·rw [if_pos e, if_pos e]
  exact ⟨Av.Gone.refl h, e, fun t x _ _ hx => hx⟩
 ·rw [if_neg e, if_neg e]
  have hm := h.m1
  have hkp := h.kept
  obtain ⟨k, hk, hw⟩ := Av.repl_went h b (by omega)
  rw [hk]
  have hc := hw.kept
  exact ⟨⟨hw.ok, hw.most, hw.tgt, by rw [hw.one]; exact Nat.le_refl _, by rw [hw.all]; exact Nat.le_refl _, hw.kept, hw.new, fun x => by rw [hw.has]; simp, by simp⟩, by omega, hw.old⟩
theorem Av.forget_old (h : v.Ok) (hi : i = 2 ∨ i = 3) (hl : 0 < v.len i) : v.Gone (v.forget i) [] ∧ (v.forget i).one + (if i = 2 then 1 else 0) = v.one ∧ (v.forget i).all + 1 = v.all := by
 obtain ⟨k, e⟩ := Av.last_of hl
 have hm := Av.last_mem e
 have he : v.forget i = v.dr k := by unfold Av.forget; rw [e]
 rw [he]
 have hi4 : i < 4 := by omega
 have l0 := Av.dr_len h hi4 hm (t := 0) (by omega)
 have l1 := Av.dr_len h hi4 hm (t := 1) (by omega)
 have l2 := Av.dr_len h hi4 hm (t := 2) (by omega)
 have l3 := Av.dr_len h hi4 hm (t := 3) (by omega)
 have e1 : (v.dr k).one + (if i = 2 then 1 else 0) = v.one := by
  unfold Av.one
  rcases hi with rfl | rfl <;> simp at l0 l1 l2 l3 ⊢ <;> omega
 have e2 : (v.dr k).all + 1 = v.all := by
  unfold Av.all
  rcases hi with rfl | rfl <;> simp at l0 l1 l2 l3 ⊢ <;> omega
 have e3 : (v.dr k).kept = v.kept := by
  unfold Av.kept
  rcases hi with rfl | rfl <;> simp at l0 l1 l2 l3 ⊢ <;> omega
 refine ⟨⟨h.dr k, rfl, rfl, by omega, by omega, by simpa using e3, fun t x ht hx => ⟨t, ht, (Av.mem_dr.1 hx).1⟩, fun x => ?_, by simp⟩, e1, e2⟩
 refine Av.has_of ?_
 rw [Av.mem_dr, Av.mem_dr]
 simp only [List.not_mem_nil, not_false_eq_true, decide_true, Bool.and_true, Av.has_iff]
 constructor
 ·rintro (h1 | h1)
  ·exact .inl h1.1
  ·exact .inr h1.1
 ·rintro (h1 | h1)
  ·exact .inl ⟨h1, fun hx => by have := h.dj (by omega) hi4 h1 (hx ▸ hm); omega⟩
  ·exact .inr ⟨h1, fun hx => by have := h.dj (by omega) hi4 h1 (hx ▸ hm); omega⟩
theorem Av.shut_spec (h : v.Ok) (h0 : v.len 0 < v.most) : v.Gone v.shut [] ∧ v.shut.one < v.most ∧ v.shut.all < 2 * v.most := by
 have a := h.kept
 have b := h.one
 have c := h.all
 have a' : v.len 0 + v.len 1 = v.kept := rfl
 have b' : v.len 0 + v.len 2 = v.one := rfl
 have c' : v.len 0 + v.len 1 + v.len 2 + v.len 3 = v.all := rfl
 unfold Av.shut
 by_cases e1 : v.most ≤ v.one
 ·rw [if_pos e1]
  obtain ⟨g, g1, g2⟩ := Av.forget_old h (i := 2) (.inl rfl) (by omega)
  simp at g1
  exact ⟨g, by omega, by omega⟩
 ·rw [if_neg e1]
  by_cases e2 : 2 * v.most ≤ v.all
  ·rw [if_pos e2]
   obtain ⟨g, g1, g2⟩ := Av.forget_old h (i := 3) (.inr rfl) (by omega)
   simp at g1
   exact ⟨g, by omega, by omega⟩
  ·rw [if_neg e2]
   exact ⟨Av.Gone.refl h, by omega, by omega⟩
theorem Av.fresh_spec (h : v.Ok) : v.Gone v.fresh v.freshK ∧ v.fresh.kept < v.most ∧ v.fresh.one < v.most ∧ v.fresh.all < 2 * v.most := by
 unfold Av.fresh Av.freshK
 have a := h.kept
 have b := h.one
 have c := h.all
 have m1 := h.m1
 have a' : v.len 0 + v.len 1 = v.kept := rfl
 have b' : v.len 0 + v.len 2 = v.one := rfl
 have c' : v.len 0 + v.len 1 + v.len 2 + v.len 3 = v.all := rfl
 by_cases e : v.most ≤ v.len 0
 ·rw [if_pos e, if_pos e]
  obtain ⟨k, e2⟩ := Av.last_of (v := v) (i := 0) (by omega)
  have hm := Av.last_mem e2
  have he : v.forget 0 = v.dr k := by unfold Av.forget; rw [e2]
  rw [he, e2]
  have l0 := Av.dr_len h (by omega) hm (t := 0) (by omega)
  have l1 := Av.dr_len h (by omega) hm (t := 1) (by omega)
  have l2 := Av.dr_len h (by omega) hm (t := 2) (by omega)
  have l3 := Av.dr_len h (by omega) hm (t := 3) (by omega)
  simp at l0 l1 l2 l3
  have d1 : (v.dr k).kept = (v.dr k).len 0 + (v.dr k).len 1 := rfl
  have d2 : (v.dr k).one = (v.dr k).len 0 + (v.dr k).len 2 := rfl
  have d3 : (v.dr k).all = (v.dr k).len 0 + (v.dr k).len 1 + (v.dr k).len 2 + (v.dr k).len 3 := rfl
  refine ⟨⟨h.dr k, rfl, rfl, by omega, by omega, by simp; omega, fun t x ht hx => ⟨t, ht, (Av.mem_dr.1 hx).1⟩, fun x => ?_, by simp⟩, by omega, by omega, by omega⟩
  refine Av.has_of ?_
  rw [Av.mem_dr, Av.mem_dr, Bool.and_eq_true, decide_eq_true_eq, Av.has_iff]
  simp only [Option.toList_some, List.mem_singleton]
  exact ⟨fun h1 => h1.elim (fun h1 => ⟨.inl h1.1, h1.2⟩) (fun h1 => ⟨.inr h1.1, h1.2⟩), fun h1 => h1.1.elim (fun h2 => .inl ⟨h2, h1.2⟩) (fun h2 => .inr ⟨h2, h1.2⟩)⟩
 ·rw [if_neg e, if_neg e]
  obtain ⟨g, g1, g2⟩ := Av.shut_spec h (by omega)
  obtain ⟨r, r1, -⟩ := Av.room_spec g.ok false
  have := g.most
  have := r.one
  have := r.all
  exact ⟨g.then r, by omega, by omega, by omega⟩
theorem Av.Ok.up (h : v.Ok) : v.up.Ok := ⟨h.wf, h.n, h.pl, h.m1, h.m2, Nat.min_le_right _ _, h.kept, h.one, h.all⟩
theorem Av.Ok.down (h : v.Ok) : v.down.Ok := ⟨h.wf, h.n, h.pl, h.m1, h.m2, by have := h.t; show v.tgt - _ ≤ v.most; omega, h.kept, h.one, h.all⟩
theorem Av.at_none (h : v.at_ k = none) : ∀ t, t < 4 → k ∉ v.rg.l t := by
 unfold Av.at_ at h
 intro t ht
 split at h
 ·cases h
 ·split at h
  ·cases h
  ·split at h
   ·cases h
   ·split at h
    ·cases h
    ·rcases (by omega : t = 0 ∨ t = 1 ∨ t = 2 ∨ t = 3) with rfl | rfl | rfl | rfl <;> assumption
theorem Av.at_some (h : v.at_ k = some i) : i < 4 ∧ k ∈ v.rg.l i := by
 unfold Av.at_ at h
 split at h
 ·cases h; exact ⟨by omega, by assumption⟩
 ·split at h
  ·cases h; exact ⟨by omega, by assumption⟩
  ·split at h
   ·cases h; exact ⟨by omega, by assumption⟩
   ·split at h
    ·cases h; exact ⟨by omega, by assumption⟩
    ·cases h
theorem Av.at_has (h : v.Ok) : v.has k = (v.at_ k == some 0 || v.at_ k == some 1) := by
 refine Av.has_of ?_
 cases e : v.at_ k with
 | none => have := Av.at_none e; simp [this 0 (by omega), this 1 (by omega)]
 | some i =>
  obtain ⟨hi, hm⟩ := Av.at_some e
  constructor
  ·rintro (h1 | h1)
   ·obtain rfl := h.dj hi (by omega) hm h1; rfl
   ·obtain rfl := h.dj hi (by omega) hm h1; rfl
  ·intro h1
   rcases (by omega : i = 0 ∨ i = 1 ∨ i = 2 ∨ i = 3) with rfl | rfl | rfl | rfl
   ·exact .inl hm
   ·exact .inr hm
   ·cases h1
   ·cases h1
structure Av.Ins (v v' : Av) (g : List Key) (k : Key) : Prop where
 ok : v'.Ok
 most : v'.most = v.most
 has : ∀ x, v'.has x = (decide (x = k) || (v.has x && decide (x ∉ g)))
 glen : g.length ≤ 1
theorem Av.has_fr (hj : j < 2) : (v.fr j k).has x = (decide (x = k) || v.has x) := by
 refine Av.has_of ?_
 rw [Av.mem_fr, Av.mem_fr, Bool.or_eq_true, decide_eq_true_eq, Av.has_iff]
 by_cases e : x = k
 ·subst e
  refine ⟨fun _ => .inl rfl, fun _ => ?_⟩
  rcases (by omega : j = 0 ∨ j = 1) with rfl | rfl
  ·exact .inl (.inr ⟨rfl, rfl⟩)
  ·exact .inr (.inr ⟨rfl, rfl⟩)
 ·simp [e]
theorem Av.again_ins (h : v.Ok) (b : Bool) (hi : i = 2 ∨ i = 3) (hm : k ∈ v.rg.l i) : v.Ins ((v.room b).fr 1 k) (v.roomK b) k := by
 obtain ⟨g, g1, g2⟩ := Av.room_spec h b
 have hi4 : i < 4 := by omega
 have hm2 := g2 i k (by omega) hi4 hm
 have l0 := Av.move_len g.ok (j := 1) hi4 hm2 (t := 0) (by omega)
 have l1 := Av.move_len g.ok (j := 1) hi4 hm2 (t := 1) (by omega)
 have l2 := Av.move_len g.ok (j := 1) hi4 hm2 (t := 2) (by omega)
 have l3 := Av.move_len g.ok (j := 1) hi4 hm2 (t := 3) (by omega)
 have hko := g.ok.kept
 have hoo := g.ok.one
 have hao := g.ok.all
 have hmo := g.most
 unfold Av.kept at g1 hko
 unfold Av.one at hoo
 unfold Av.all at hao
 refine ⟨g.ok.fr (by omega) (h.klen hi4 hm) ?_ ?_ ?_, g.most, fun x => by rw [Av.has_fr (by omega), g.has], g.glen⟩
 ·unfold Av.kept
  rcases hi with rfl | rfl <;> simp at l0 l1 l2 l3 <;> omega
 ·unfold Av.one
  rcases hi with rfl | rfl <;> simp at l0 l1 l2 l3 <;> omega
 ·unfold Av.all
  rcases hi with rfl | rfl <;> simp at l0 l1 l2 l3 <;> omega
theorem Av.known_ok (h : v.Ok) (hi : i < 2) (hm : k ∈ v.rg.l i) : (v.fr 1 k).Ok := by
 have l0 := Av.move_len h (j := 1) (by omega) hm (t := 0) (by omega)
 have l1 := Av.move_len h (j := 1) (by omega) hm (t := 1) (by omega)
 have l2 := Av.move_len h (j := 1) (by omega) hm (t := 2) (by omega)
 have l3 := Av.move_len h (j := 1) (by omega) hm (t := 3) (by omega)
 have hko := h.kept
 have hoo := h.one
 have hao := h.all
 unfold Av.kept at hko
 unfold Av.one at hoo
 unfold Av.all at hao
 refine h.fr (by omega) (h.klen (by omega) hm) ?_ ?_ ?_
 ·unfold Av.kept
  rcases (by omega : i = 0 ∨ i = 1) with rfl | rfl <;> simp at l0 l1 l2 l3 <;> omega
 ·unfold Av.one
  rcases (by omega : i = 0 ∨ i = 1) with rfl | rfl <;> simp at l0 l1 l2 l3 <;> omega
 ·unfold Av.all
  rcases (by omega : i = 0 ∨ i = 1) with rfl | rfl <;> simp at l0 l1 l2 l3 <;> omega
theorem Av.fresh_no (h : v.Ok) (hno : ∀ t, t < 4 → k ∉ v.rg.l t) : ∀ t, t < 4 → k ∉ v.fresh.rg.l t := fun t ht hx => by
 obtain ⟨u, hu, hx2⟩ := (Av.fresh_spec h).1.sub t k ht hx
 exact hno u hu hx2
theorem Av.ins_spec (h : v.Ok) (hk : k.length ≤ 64) : v.Ins (v.ins k) (v.insK k) k := by
 unfold Av.ins Av.insK
 cases e : v.at_ k with
 | none =>
  have hno := Av.at_none e
  obtain ⟨g, g1, g2, g3⟩ := Av.fresh_spec h
  have hno2 := Av.fresh_no h hno
  have l0 := Av.new_len (j := 0) hno2 (t := 0) (by omega)
  have l1 := Av.new_len (j := 0) hno2 (t := 1) (by omega)
  have l2 := Av.new_len (j := 0) hno2 (t := 2) (by omega)
  have l3 := Av.new_len (j := 0) hno2 (t := 3) (by omega)
  simp at l0 l1 l2 l3
  have hmo := g.most
  unfold Av.kept at g1
  unfold Av.one at g2
  unfold Av.all at g3
  refine ⟨g.ok.fr (by omega) hk ?_ ?_ ?_, g.most, fun x => by rw [Av.has_fr (by omega), g.has], g.glen⟩
  ·unfold Av.kept; omega
  ·unfold Av.one; omega
  ·unfold Av.all; omega
 | some i =>
  obtain ⟨hi, hm⟩ := Av.at_some e
  rcases (by omega : i = 0 ∨ i = 1 ∨ i = 2 ∨ i = 3) with rfl | rfl | rfl | rfl
  ·exact ⟨Av.known_ok h (by omega) hm, rfl, fun x => by show (v.fr 1 k).has x = (decide (x = k) || (v.has x && decide (x ∉ []))); rw [Av.has_fr (by omega)]; simp, by simp⟩
  ·exact ⟨Av.known_ok h (by omega) hm, rfl, fun x => by show (v.fr 1 k).has x = (decide (x = k) || (v.has x && decide (x ∉ []))); rw [Av.has_fr (by omega)]; simp, by simp⟩
  ·have := Av.again_ins h.up false (.inl rfl) (k := k) hm
   exact ⟨this.ok, this.most, this.has, this.glen⟩
  ·have := Av.again_ins h.down true (.inr rfl) (k := k) hm
   exact ⟨this.ok, this.most, this.has, this.glen⟩
theorem Av.insert_ok (h : v.Ok) (k : Key) : (v.insert k).Ok ∧ (v.insert k).most = v.most := by
 unfold Av.insert
 split
 ·exact ⟨h, rfl⟩
 ·have := Av.ins_spec h (k := k) (by omega)
  exact ⟨this.ok, this.most⟩
theorem Av.touch_ok (h : v.Ok) (k : Key) : (v.touch k).Ok ∧ (v.touch k).most = v.most := by
 unfold Av.touch
 split
 ·rename_i e
  refine ⟨?_, rfl⟩
  rcases Av.has_iff.1 e with h1 | h1
  ·exact Av.known_ok h (by omega) h1
  ·exact Av.known_ok h (by omega) h1
 ·exact ⟨h, rfl⟩
theorem Av.new_ok {n : Nat} (h1 : 1 ≤ n) (h2 : n ≤ 1000) : (Av.new n).Ok := by
 refine ⟨Rg.new_wf (by omega) (by omega) (by omega), rfl, rfl, h1, h2, Nat.zero_le _, Nat.zero_le _, Nat.zero_le _, Nat.zero_le _⟩
theorem len_sub : ∀ {a b : List Key}, a.Nodup → b.Nodup → (∀ x, x ∈ a → x ∈ b) → a.length ≤ b.length
 | [], _, _, _, _ => Nat.zero_le _
 | x :: a, b, ha, hb, h => by
  have hx := h x (by simp)
  have h1 := strike_length hb hx
  have h2 := len_sub (b := strike x b) (List.nodup_cons.1 ha).2 (strike_nodup hb) (fun y hy => strike_mem.2 ⟨h y (by simp [hy]), fun e => (List.nodup_cons.1 ha).1 (e ▸ hy)⟩)
  simp only [List.length_cons]
  omega
theorem Av.kept_of (h : v.Ok) {l : List Key} (hl : l.Nodup) (hm : ∀ x, x ∈ l ↔ v.has x = true) : v.kept = l.length := by
 have hnd : (v.rg.l 0 ++ v.rg.l 1).Nodup := List.nodup_append.2 ⟨h.nd (by omega), h.nd (by omega), fun a ha b hb e => by have := h.dj (by omega) (by omega) ha (e ▸ hb); omega⟩
 have hk : v.kept = (v.rg.l 0 ++ v.rg.l 1).length := by rw [List.length_append]; rfl
 rw [hk]
 refine Nat.le_antisymm (len_sub hnd hl fun x hx => (hm x).2 (Av.has_iff.2 (List.mem_append.1 hx))) (len_sub hl hnd fun x hx => List.mem_append.2 (Av.has_iff.1 ((hm x).1 hx)))
end
end Go.Proofs.YtkiabladmgagdabGreatDoor.Arcy
namespace Go.Proofs.YtkiabladmgagdabGreatDoor.Arcy
open Go.ChangeShapes Go.WideShapes Go.ChangeAt Go.RowKit
open Wirey (Blk Row str str_size str_list Kp)
open Ringy

structure StepA (A : Nat) (w : World) (m : Rm) (w' : World) (m' : Rm) : Prop where
 kp : Kp (fun b => m.own b ∨ b = A) w w'
 own : ∀ b, m'.own b → m.own b ∨ w.heap.size ≤ b
structure HeldA (w0 : World) (A P : Nat) (w : World) (m : Rm) (v : Av) : Prop where
 h : Held w0 P w m v.rg
 box : Blk w A 171 #[.int .i64 v.most, .int .i64 v.tgt, .pointer (some ⟨P, 0, none⟩)]
 lo : w0.heap.size ≤ A
 no : ¬ m.own A
 ok : v.Ok
section
variable {w0 w w' w'' : World} {A P : Nat} {m m' m'' : Rm} {v : Av} {k : Key}
theorem StepA.refl (A : Nat) (w : World) (m : Rm) : StepA A w m w m := ⟨Kp.refl _ _, fun _ h => .inl h⟩
theorem StepA.trans (h : StepA A w m w' m') (h' : StepA A w' m' w'' m'') : StepA A w m w'' m'' := by
 refine ⟨⟨h'.kp.os.trans h.kp.os, h'.kp.tape.trans h.kp.tape, h'.kp.output.trans h.kp.output, Nat.le_trans h.kp.size h'.kp.size, fun k hk hn => ?_⟩, fun b hb => ?_⟩
 ·refine (h'.kp.block k (Nat.lt_of_lt_of_le hk h.kp.size) (fun ho => ?_)).trans (h.kp.block k hk hn)
  rcases ho with ho | ho
  ·rcases h.own k ho with h1 | h1
   ·exact hn (.inl h1)
   ·omega
  ·exact hn (.inr ho)
 ·rcases h'.own b hb with h1 | h1
  ·exact h.own b h1
  ·exact .inr (Nat.le_trans h.kp.size h1)
theorem StepA.of (h : Step w m w' m') : StepA A w m w' m' := ⟨⟨h.kp.os, h.kp.tape, h.kp.output, h.kp.size, fun k hk hn => h.kp.block k hk (fun ho => hn (.inl ho))⟩, h.own⟩
theorem StepA.later {C : Nat} (h : StepA A w m w' m') (hb : Below C w' w'') (hC : w'.heap.size ≤ C) : StepA A w m w'' m' :=
 ⟨⟨hb.os.trans h.kp.os, hb.tape.trans h.kp.tape, hb.output.trans h.kp.output, Nat.le_trans h.kp.size hb.size, fun k hk hn => (hb.block k (by have := h.kp.size; omega)).trans (h.kp.block k hk hn)⟩, h.own⟩
theorem StepA.alloc (h : StepA A w m w' m') (o : Obj) : StepA A w m (w'.alloc o) m' := h.later ((Below.refl _ w').alloc (Nat.le_refl _) o) (Nat.le_refl _)
theorem StepA.drewN (h : StepA A w m w' m') (n : Nat) : StepA A w m (w'.drewN n) m' := ⟨⟨h.kp.os, h.kp.tape, h.kp.output, h.kp.size, h.kp.block⟩, h.own⟩
theorem StepA.drew (h : StepA A w m w' m') : StepA A w m w'.drew m' := h.drewN 1
theorem HeldA.lt (h : HeldA w0 A P w m v) : A < w.heap.size := h.box.lt
theorem HeldA.later {C : Nat} (h : HeldA w0 A P w m v) (hb : Below C w w') (hC : w.heap.size ≤ C) : HeldA w0 A P w' m v :=
 ⟨h.h.later hb hC, h.box.below hb (Nat.lt_of_lt_of_le h.lt hC), h.lo, h.no, h.ok⟩
theorem HeldA.alloc (h : HeldA w0 A P w m v) (o : Obj) : HeldA w0 A P (w.alloc o) m v := h.later ((Below.refl _ w).alloc (Nat.le_refl _) o) (Nat.le_refl _)
theorem HeldA.drewN (h : HeldA w0 A P w m v) (n : Nat) : HeldA w0 A P (w.drewN n) m v := ⟨h.h.drewN n, h.box, h.lo, h.no, h.ok⟩
theorem HeldA.drew (h : HeldA w0 A P w m v) : HeldA w0 A P w.drew m v := h.drewN 1
theorem HeldA.below (h : HeldA w0 A P w m v) : Below w0.heap.size w0 w := h.h.below
theorem HeldA.kp {O : Nat → Prop} (h : HeldA w0 A P w m v) (hk : Kp O w w') (hO : ∀ b, O b → w0.heap.size ≤ b ∧ ¬ m.own b ∧ b ≠ A) : HeldA w0 A P w' m v :=
 ⟨h.h.kp hk (fun b hb => ⟨(hO b hb).1, (hO b hb).2.1⟩), (hk.block A h.lt (fun ho => (hO A ho).2.2 rfl)).trans h.box, h.lo, h.no, h.ok⟩
theorem HeldA.step {r' : Rg} (h : HeldA w0 A P w m v) (hH : Held w0 P w' m' r') (hS : Step w m w' m') (hok : Av.Ok { v with rg := r' }) : HeldA w0 A P w' m' { v with rg := r' } :=
 ⟨hH, (hS.kp.block A h.lt h.no).trans h.box, h.lo, fun ho => by
   rcases hS.own A ho with h1 | h1
   · exact h.no h1
   · have := h.lt; omega, hok⟩
theorem HeldA.tgt (h : HeldA w0 A P w m v) {t : Nat} (ht : t ≤ v.most) : HeldA w0 A P (w.setCell ⟨A, 1, none⟩ (.int .i64 t)) m { v with tgt := t } ∧ StepA A w m (w.setCell ⟨A, 1, none⟩ (.int .i64 t)) m := by
 have hk : Kp (fun b => b = A) w (w.setCell ⟨A, 1, none⟩ (.int .i64 t)) := (Kp.refl (fun b => b = A) w).set (p := ⟨A, 1, none⟩) rfl _
 refine ⟨⟨h.h.kp hk (fun b hb => by subst hb; exact ⟨h.lo, h.no⟩), ?_, h.lo, h.no, ⟨h.ok.wf, h.ok.n, h.ok.pl, h.ok.m1, h.ok.m2, ht, h.ok.kept, h.ok.one, h.ok.all⟩⟩, ⟨⟨hk.os, hk.tape, hk.output, hk.size, fun k hk1 hn => hk.block k hk1 (fun e => hn (.inr e))⟩, fun b hb => .inl hb⟩⟩
 have := h.box.put 1 (.int .i64 t)
 simpa using this
theorem HeldA.cells (h : HeldA w0 A P w m v) : w.cell? ⟨A, 0, none⟩ = some (.int .i64 v.most) ∧ w.cell? ⟨A, 1, none⟩ = some (.int .i64 v.tgt) ∧ w.cell? ⟨A, 2, none⟩ = some (.pointer (some ⟨P, 0, none⟩)) :=
 ⟨by rw [h.box.cell 0]; rfl, by rw [h.box.cell 1]; rfl, by rw [h.box.cell 2]; rfl⟩
theorem Av.Ok.len_le (h : v.Ok) {i : Nat} (hi : i < 4) : v.len i ≤ 2000 := by
 have h1 := h.all
 have h2 := h.m2
 unfold Av.all at h1
 rcases (by omega : i = 0 ∨ i = 1 ∨ i = 2 ∨ i = 3) with rfl | rfl | rfl | rfl <;> omega
theorem len_a {i : Nat} (hi : i < 4) (h : HeldA w0 A P w m v) :
  Calls Tryz.prog 140 #[.pointer (some ⟨P, 0, none⟩), .int .i64 i] w fun e w' => e = .returned (.int .i64 (v.len i : Int)) ∧ w = w' := len_h i (by rw [h.ok.n]; exact hi) h.h
theorem in_some {i : Nat} (hk : k.length ≤ maxLen) (e : v.at_ k = some i) (h : HeldA w0 A P w m v) :
  Calls Tryz.prog 167 #[.pointer (some ⟨P, 0, none⟩), .string (str k)] w fun e w' => e = .returned (.tuple #[.int .i64 i, .bool true]) ∧ w = w' := by
 obtain ⟨hi, hm⟩ := Av.at_some e
 have hR := h.h.R
 subst hR
 exact flip (in_yes' hk w h.h.at_ (by rw [h.ok.n]; exact hi) hm)
theorem in_none (hk : k.length ≤ maxLen) (e : v.at_ k = none) (h : HeldA w0 A P w m v) :
  Calls Tryz.prog 167 #[.pointer (some ⟨P, 0, none⟩), .string (str k)] w fun e w' => e = .returned (.tuple #[.int .i64 0, .bool false]) ∧ w = w' := by
 have hR := h.h.R
 subst hR
 refine flip (in_no' hk w h.h.at_ ?_)
 rintro ⟨i, hi, hm⟩
 rw [h.ok.n] at hi
 exact Av.at_none e i hi hm
theorem front_a {j : Nat} (hj : j < 4) (hk : k.length ≤ 64) (h : HeldA w0 A P w m v) (hok : (v.fr j k).Ok) :
  Calls Tryz.prog 168 #[.pointer (some ⟨P, 0, none⟩), .int .i64 j, .string (str k)] w fun e w' => e = .returned (.bool true) ∧ ∃ m', HeldA w0 A P w' m' (v.fr j k) ∧ StepA A w m w' m' := by
 have hR := h.h.R
 subst hR
 refine (front_yes (by rw [h.ok.n]; exact hj) hk w h.h.at_ (h.ok.can k)).mono ?_
 rintro e w' ⟨rfl, m', hA, hS⟩
 exact ⟨rfl, m', h.step (h.h.step hA hS) hS hok, StepA.of hS⟩
theorem drop_a (hk : k.length ≤ maxLen) (h : HeldA w0 A P w m v) :
  Calls Tryz.prog 232 #[.pointer (some ⟨P, 0, none⟩), .string (str k)] w fun e w' => (∃ b, e = .returned (.bool b)) ∧ ∃ m', HeldA w0 A P w' m' (v.dr k) ∧ StepA A w m w' m' := by
 refine (drop_h hk h.h).mono ?_
 rintro e w' ⟨rfl, m', hA, hS⟩
 exact ⟨⟨_, rfl⟩, m', h.step hA hS (h.ok.dr k), StepA.of hS⟩
theorem back_some {i : Nat} (hi : i < 4) (e : v.last i = some k) (h : HeldA w0 A P w m v) :
  Calls Tryz.prog 234 #[.pointer (some ⟨P, 0, none⟩), .int .i64 i] w fun e w' => e = .returned (.tuple #[.string (str k), .bool true]) ∧ w = w' := by
 obtain ⟨s, hs⟩ := Av.last_some e
 have hR := h.h.R
 subst hR
 exact flip (back_yes w h.h.at_ (by rw [h.ok.n]; exact hi) hs)
theorem back_empty {i : Nat} (hi : i < 4) (e : v.last i = none) (h : HeldA w0 A P w m v) :
  Calls Tryz.prog 234 #[.pointer (some ⟨P, 0, none⟩), .int .i64 i] w fun e w' => e = .returned (.tuple #[.string ⟨#[]⟩, .bool false]) ∧ w = w' := by
 have hR := h.h.R
 subst hR
 exact flip (back_none w h.h.at_ (by rw [h.ok.n]; exact hi) (Av.last_none e))

theorem made_c (h : HeldA w0 A P w m v) :
  Calls Tryz.prog 169 #[.pointer (some ⟨A, 0, none⟩)] w fun e w' => e = .returned (.bool true) ∧ w = w' := by
 obtain ⟨c0, c1, c2⟩ := h.cells
 clear h
 go_enter Tryz.func169, Tryz.ntmps169
 go_wp2_with fail
 go_ret
 exact ⟨rfl, rfl⟩
theorem has_c (hk : k.length ≤ maxLen) (h : HeldA w0 A P w m v) :
  Calls Tryz.prog 223 #[.pointer (some ⟨A, 0, none⟩), .string (str k)] w fun e w' => e = .returned (.bool (v.has k)) ∧ w = w' := by
 have hm := made_c h
 obtain ⟨c0, c1, c2⟩ := h.cells
 have ha := Av.at_has (k := k) h.ok
 cases e : v.at_ k with
 | none =>
  have hi := in_none hk e h
  rw [e] at ha
  have ha : v.has k = false := ha
  rw [ha]
  clear h ha e
  go_enter Tryz.func223, Tryz.ntmps223
  go_wp2_with fail
  refine hm.mono ?_
  rintro e w' ⟨rfl, rfl⟩
  go_wp2_with fail
  refine hi.mono ?_
  rintro e w' ⟨rfl, rfl⟩
  go_wp2_with fail
  go_ret
  exact ⟨rfl, rfl⟩
 | some i =>
  have hi := in_some hk e h
  obtain ⟨hi4, -⟩ := Av.at_some e
  rw [e] at ha
  rcases (by omega : i = 0 ∨ i = 1 ∨ i = 2 ∨ i = 3) with rfl | rfl | rfl | rfl
  ·have ha : v.has k = true := ha
   rw [ha]
   clear h ha e
   go_enter Tryz.func223, Tryz.ntmps223
   go_wp2_with fail
   refine hm.mono ?_
   rintro e w' ⟨rfl, rfl⟩
   go_wp2_with fail
   refine hi.mono ?_
   rintro e w' ⟨rfl, rfl⟩
   go_wp2_with fail
   go_ret
   exact ⟨rfl, rfl⟩
  ·have ha : v.has k = true := ha
   rw [ha]
   clear h ha e
   go_enter Tryz.func223, Tryz.ntmps223
   go_wp2_with fail
   refine hm.mono ?_
   rintro e w' ⟨rfl, rfl⟩
   go_wp2_with fail
   refine hi.mono ?_
   rintro e w' ⟨rfl, rfl⟩
   go_wp2_with fail
   go_ret
   exact ⟨rfl, rfl⟩
  ·have ha : v.has k = false := ha
   rw [ha]
   clear h ha e
   go_enter Tryz.func223, Tryz.ntmps223
   go_wp2_with fail
   refine hm.mono ?_
   rintro e w' ⟨rfl, rfl⟩
   go_wp2_with fail
   refine hi.mono ?_
   rintro e w' ⟨rfl, rfl⟩
   go_wp2_with fail
   go_ret
   exact ⟨rfl, rfl⟩
  ·have ha : v.has k = false := ha
   rw [ha]
   clear h ha e
   go_enter Tryz.func223, Tryz.ntmps223
   go_wp2_with fail
   refine hm.mono ?_
   rintro e w' ⟨rfl, rfl⟩
   go_wp2_with fail
   refine hi.mono ?_
   rintro e w' ⟨rfl, rfl⟩
   go_wp2_with fail
   go_ret
   exact ⟨rfl, rfl⟩
theorem sum4_le {L : Nat → Nat} (h : v.Ok) : ∀ n, (∀ i, i < n → L i < 4) → sumTo (fun i => v.len (L i)) n ≤ n * 2000
 | 0, _ => Nat.le_refl _
 | n + 1, hL => by
  have h1 := sum4_le h n (fun i hi => hL i (by omega))
  have h2 := h.len_le (hL n (by omega))
  show sumTo _ n + v.len (L n) ≤ _
  omega
set_option maxHeartbeats 1000000 in
theorem count_c {g n : Nat} {L : Nat → Nat} (hn : n ≤ 4) (hL : ∀ i, i < n → L i < 4) (hc : ∀ i, i < n → w.cell? ⟨g, i, none⟩ = some (.int .i64 (L i : Int))) (h : HeldA w0 A P w m v) :
  Calls Tryz.prog 131 #[.pointer (some ⟨A, 0, none⟩), .slice (some ⟨g, 0, none⟩) n n] w fun e w' => e = .returned (.int .i64 (sumTo (fun i => v.len (L i)) n : Int)) ∧ w = w' := by
 obtain ⟨c0, c1, c2⟩ := h.cells
 have hlen := fun i hi => len_a (i := L i) (hL i hi) h
 have hsum := fun j (hj : j ≤ n) => sum4_le (L := L) h.ok j (fun i hi => hL i (by omega))
 have hle := fun i hi => h.ok.len_le (hL i hi)
 clear h
 go_enter Tryz.func131, Tryz.ntmps131
 go_wp2_with fail
 go_loopw [5, 10] (fun s i wr => ∃ j : Nat, j ≤ n ∧ i = .int .i64 j ∧ s = .int .i64 (sumTo (fun i => v.len (L i)) j : Int) ∧ wr = w) (fun _ i _ => n - (intOf i).toNat)
 case atStart => exact ⟨0, Nat.zero_le _, rfl, rfl, rfl⟩
 case round =>
  obtain ⟨j, hj, rfl, rfl, rfl⟩ := hrel
  by_cases hlt : j < n
  ·have hcj := hc j hlt
   have hsj := hsum j hj
   have hlj := hle j hlt
   have hl := hlen j hlt
   have hs1 : sumTo (fun i => v.len (L i)) (j + 1) = sumTo (fun i => v.len (L i)) j + v.len (L j) := rfl
   have HS := Lib.hid hs1
   clear hs1
   generalize sumTo (fun i => v.len (L i)) j = s at *
   clear hsum hle hlen hc
   go_wp2_with fail
   refine hl.mono ?_
   rintro e w' ⟨rfl, rfl⟩
   go_wp2_with fail
   go_roundw
   case rel => exact ⟨j + 1, by omega, by simp, by rw [HS.out]; simp, by first | rfl | trivial⟩
   case measure => simp [intOf]; omega
  ·obtain rfl : j = n := by omega
   go_wp2_with fail
   go_ret
   exact ⟨rfl, rfl⟩
end
end Go.Proofs.YtkiabladmgagdabGreatDoor.Arcy
namespace Go.Proofs.YtkiabladmgagdabGreatDoor.Arcy
open Go.ChangeShapes Go.WideShapes Go.ChangeAt Go.RowKit
open Wirey (Blk Row str str_size str_list Kp)
open Ringy

section
variable {w0 w w' w'' : World} {A P : Nat} {m m' m'' : Rm} {v : Av} {k : Key}
theorem beq0 (y : Nat) : ((y : Int) == 0) = decide (y = 0) := by
 rw [Bool.eq_iff_iff, beq_iff_eq, decide_eq_true_eq]
 omega
theorem count1 {i : Nat} {a : Int} {g : Nat} (ha : a = (i : Int)) (hi : i < 4) (hb : Blk w g 3 #[.int .i64 a]) (h : HeldA w0 A P w m v) :
  Calls Tryz.prog 131 #[.pointer (some ⟨A, 0, none⟩), .slice (some ⟨g, 0, none⟩) 1 1] w fun e w' => e = .returned (.int .i64 (v.len i : Int)) ∧ w = w' := by
 subst ha
 refine (count_c (L := fun _ => i) (n := 1) (by omega) (fun _ _ => hi) (fun t ht => ?_) h).mono ?_
 ·obtain rfl : t = 0 := by omega
  exact hb.cell 0
 ·rintro e w' ⟨rfl, rfl⟩
  exact ⟨by simp [sumTo], rfl⟩
theorem count2 {a b : Nat} {x y : Int} {g : Nat} (hx : x = (a : Int)) (hy : y = (b : Int)) (ha : a < 4) (hb : b < 4) (hg : Blk w g 3 #[.int .i64 x, .int .i64 y]) (h : HeldA w0 A P w m v) :
  Calls Tryz.prog 131 #[.pointer (some ⟨A, 0, none⟩), .slice (some ⟨g, 0, none⟩) 2 2] w fun e w' => e = .returned (.int .i64 ((v.len a + v.len b : Nat) : Int)) ∧ w = w' := by
 subst hx hy
 refine (count_c (L := fun i => if i = 0 then a else b) (n := 2) (by omega) (fun i _ => by split <;> assumption) (fun t ht => ?_) h).mono ?_
 ·rcases (by omega : t = 0 ∨ t = 1) with rfl | rfl
  ·exact hg.cell 0
  ·exact hg.cell 1
 ·rintro e w' ⟨rfl, rfl⟩
  exact ⟨by simp [sumTo], rfl⟩
theorem count4 {g : Nat} (hg : Blk w g 3 #[.int .i64 0, .int .i64 1, .int .i64 2, .int .i64 3]) (h : HeldA w0 A P w m v) :
  Calls Tryz.prog 131 #[.pointer (some ⟨A, 0, none⟩), .slice (some ⟨g, 0, none⟩) 4 4] w fun e w' => e = .returned (.int .i64 v.all) ∧ w = w' := by
 refine (count_c (L := fun i => i) (n := 4) (by omega) (fun i hi => hi) (fun t ht => ?_) h).mono ?_
 ·rcases (by omega : t = 0 ∨ t = 1 ∨ t = 2 ∨ t = 3) with rfl | rfl | rfl | rfl
  ·exact hg.cell 0
  ·exact hg.cell 1
  ·exact hg.cell 2
  ·exact hg.cell 3
 ·rintro e w' ⟨rfl, rfl⟩
  exact ⟨by simp [sumTo, Av.all], rfl⟩
theorem lenA_c (h : HeldA w0 A P w m v) :
  Calls Tryz.prog 133 #[.pointer (some ⟨A, 0, none⟩)] w fun e w' => e = .returned (.int .i64 v.kept) ∧ ∃ o, w' = w.alloc o := by
 have hm := made_c h
 have hc := count2 (a := 0) (b := 1) (x := 0) (y := 1) rfl rfl (by omega) (by omega) (Blk.new w 3 #[.int .i64 0, .int .i64 1]) (h.alloc _)
 clear h
 go_enter Tryz.func133, Tryz.ntmps133
 go_wp2_with fail
 refine hm.mono ?_
 rintro e w' ⟨rfl, rfl⟩
 go_wp2_with fail
 refine hc.mono ?_
 rintro e w' ⟨rfl, rfl⟩
 go_wp2_with fail
 go_ret
 exact ⟨rfl, _, rfl⟩
theorem touch_c (hk : k.length ≤ maxLen) (h : HeldA w0 A P w m v) :
  Calls Tryz.prog 226 #[.pointer (some ⟨A, 0, none⟩), .string (str k)] w fun e w' => e = .returned (.bool (v.has k)) ∧ ∃ m', HeldA w0 A P w' m' (v.touch k) ∧ StepA A w m w' m' := by
 have hh := has_c hk h
 obtain ⟨c0, c1, c2⟩ := h.cells
 have HH := Lib.hid h
 by_cases e : v.has k = true
 ·have ht : v.touch k = v.fr 1 k := by unfold Av.touch; rw [if_pos e]
  have hok := (Av.touch_ok h.ok k).1
  rw [ht] at hok
  have hkl : k.length ≤ 64 := by
   rcases Av.has_iff.1 e with h1 | h1
   ·exact h.ok.klen (by omega) h1
   ·exact h.ok.klen (by omega) h1
  have hf := front_a (j := 1) (by omega) hkl h hok
  rw [e] at hh ⊢
  rw [ht]
  clear h e ht hok
  go_enter Tryz.func226, Tryz.ntmps226
  go_wp2_with fail
  refine hh.mono ?_
  rintro e w' ⟨rfl, rfl⟩
  go_wp2_with fail
  refine hf.mono ?_
  rintro e w' ⟨rfl, hp⟩
  go_wp2_with fail
  go_ret
  exact ⟨rfl, hp⟩
 ·have ht : v.touch k = v := by unfold Av.touch; rw [if_neg e]
  rw [Bool.not_eq_true] at e
  rw [e] at hh ⊢
  rw [ht]
  clear h e ht
  go_enter Tryz.func226, Tryz.ntmps226
  go_wp2_with fail
  refine hh.mono ?_
  rintro e w' ⟨rfl, rfl⟩
  go_wp2_with fail
  go_ret
  exact ⟨rfl, m, HH.out, StepA.refl _ _ _⟩
set_option maxHeartbeats 1000000 in
theorem once_c (b : Bool) (h : HeldA w0 A P w m v) :
  Calls Tryz.prog 233 #[.pointer (some ⟨A, 0, none⟩), .bool b] w fun e w' => e = .returned (.bool (v.once b)) ∧ HeldA w0 A P w' m v ∧ StepA A w m w' m := by
 have h1 := h.alloc (.cells #[.int .i64 0] 3)
 have hs1 := (StepA.refl A w m).alloc (.cells #[.int .i64 0] 3)
 have hc0 := count1 (i := 0) (a := 0) rfl (by omega) (Blk.new w 3 #[.int .i64 0]) h1
 have hb1 := Blk.new (w.alloc (.cells #[.int .i64 0] 3)) 3 #[.int .i64 1]
 rw [show (w.alloc (.cells #[.int .i64 0] 3)).heap.size = w.heap.size + 1 by simp] at hb1
 have hc1 := count1 (i := 1) (a := 1) rfl (by omega) hb1 (h1.alloc _)
 clear hb1
 obtain ⟨c0, c1, c2⟩ := h1.cells
 have H1 := Lib.hid h1
 have HS1 := Lib.hid hs1
 have hl := h.ok.len_le (i := 0) (by omega)
 have hl1 := h.ok.len_le (i := 1) (by omega)
 unfold Av.once
 clear h h1 hs1
 generalize v.len 0 = x at *
 generalize v.len 1 = y at *
 generalize v.tgt = t at *
 by_cases e0 : x = 0
 ·subst e0
  go_enter Tryz.func233, Tryz.ntmps233
  go_wp2_with fail
  refine hc0.mono ?_
  rintro e w' ⟨rfl, rfl⟩
  go_wp2_with fail
  go_ret
  exact ⟨rfl, H1.out, HS1.out⟩
 ·have d0 : ((x : Int) == 0) = false := by rw [beq_eq_false_iff_ne]; omega
  have e0' : decide (0 < x) = true := decide_eq_true (by omega)
  rw [e0', Bool.true_and]
  by_cases e1 : t < x
  ·have e1' : decide (t < x) = true := decide_eq_true e1
   rw [e1']
   go_enter Tryz.func233, Tryz.ntmps233
   go_wp2_with fail
   refine hc0.mono ?_
   rintro e w' ⟨rfl, rfl⟩
   go_wp2_with fail
   go_ret
   exact ⟨rfl, H1.out, HS1.out⟩
  ·have e1' : decide (t < x) = false := decide_eq_false e1
   rw [e1', Bool.false_or]
   have hg : decide ((t : Int) < (x : Int)) = false := decide_eq_false (by omega)
   by_cases e2 : x = t ∧ b = true
   ·obtain ⟨rfl, rfl⟩ := e2
    have e2' : (decide (x = x) && true) = true := by simp
    rw [e2', Bool.true_or]
    go_enter Tryz.func233, Tryz.ntmps233
    go_wp2_with fail
    refine hc0.mono ?_
    rintro e w' ⟨rfl, rfl⟩
    go_wp2_with fail
    go_ret
    exact ⟨rfl, H1.out, HS1.out⟩
   ·have e2' : (decide (x = t) && b) = false := by
     rw [Bool.and_eq_false_iff, decide_eq_false_iff_not]
     by_cases h : x = t
     ·right; cases b; rfl; exact absurd ⟨h, rfl⟩ e2
     ·exact .inl h
    rw [e2', Bool.false_or]
    by_cases e3 : x = t
    ·subst e3
     obtain rfl : b = false := by cases b; rfl; exact absurd ⟨rfl, rfl⟩ e2
     go_enter Tryz.func233, Tryz.ntmps233
     go_wp2_with fail
     refine hc0.mono ?_
     rintro e w' ⟨rfl, rfl⟩
     go_wp2_with fail
     refine hc1.mono ?_
     rintro e w' ⟨rfl, rfl⟩
     go_wp2_with fail
     go_ret
     exact ⟨congrArg Ending.returned (congrArg Value.bool (beq0 y)), H1.out.alloc _, HS1.out.alloc _⟩
    ·have d3 : ((x : Int) == (t : Int)) = false := by rw [beq_eq_false_iff_ne]; omega
     go_enter Tryz.func233, Tryz.ntmps233
     go_wp2_with fail
     refine hc0.mono ?_
     rintro e w' ⟨rfl, rfl⟩
     go_wp2_with fail
     refine hc1.mono ?_
     rintro e w' ⟨rfl, rfl⟩
     go_wp2_with fail
     go_ret
     exact ⟨congrArg Ending.returned (congrArg Value.bool (beq0 y)), H1.out.alloc _, HS1.out.alloc _⟩
structure Tell (B A : Nat) (m : Rm) (val : Value) (l : List Key) (w : World) : Prop where
 row : w.ownsRow B 9 1 val l.length (strsV l)
 no : ∀ b, val.ownBlock = some b → ¬ m.own b ∧ b ≠ A
theorem Tell.step {B : Nat} {val : Value} {l : List Key} (h : Tell B A m val l w) (hS : StepA A w m w' m') : Tell B A m' val l w' :=
 ⟨ownsRow_stay h.row fun b hb => hS.kp.block b (h.row.lt b hb).2 (fun ho => ho.elim (h.no b hb).1 (h.no b hb).2), fun b hb => ⟨fun ho => by
   rcases hS.own b ho with h1 | h1
   · exact (h.no b hb).1 h1
   · have := (h.row.lt b hb).2; omega, (h.no b hb).2⟩⟩
theorem Tell.nil (B A : Nat) (m : Rm) (w : World) : Tell B A m (.slice none 0 0) [] w := ⟨World.ownsRow_nil _ _ _ _, fun b hb => by cases hb⟩
theorem Tell.lit {B : Nat} (h : HeldA w0 A P w m v) (hB : B ≤ w.heap.size) (k : Key) : Tell B A m (.slice (some ⟨w.heap.size, 0, none⟩) 1 1) [k] (w.alloc (.cells #[.string (str k)] 9)) := by
 have hr := World.ownsRow_lit (size := 1) (e := 9) (base := B) w #[.string (str k)] 1 hB (by unfold maxLen; omega) rfl
 refine ⟨hr, fun b hb => ?_⟩
 obtain rfl : w.heap.size = b := by injection hb
 exact ⟨fun ho => by have := h.h.lt _ ho; omega, fun e => by have := h.lt; omega⟩
set_option maxHeartbeats 1000000 in
theorem replace_c (b : Bool) (h : HeldA w0 A P w m v) :
  Calls Tryz.prog 227 #[.pointer (some ⟨A, 0, none⟩), .bool b] w fun e w' => e = .returned (.tuple #[.string (str ((v.last (v.src b)).getD [])), .bool (v.last (v.src b)).isSome]) ∧ ∃ m', HeldA w0 A P w' m' (v.repl b) ∧ StepA A w m w' m' := by
 have ho := once_c b h
 have hsrc : v.src b = if v.once b = true then 0 else 1 := rfl
 have hok := h.ok
 have hrp : v.repl b = match v.last (v.src b) with | none => v | some k => v.fr (v.src b + 2) k := rfl
 rw [hrp]
 clear hrp
 cases e1 : v.once b with
 | true =>
  rw [e1, if_pos rfl] at hsrc
  rw [hsrc]
  rw [e1] at ho
  cases e2 : v.last 0 with
  | none =>
   clear h
   go_enter Tryz.func227, Tryz.ntmps227
   go_wp2_with fail
   refine ho.mono ?_
   rintro e w1 ⟨rfl, h1, hS1⟩
   obtain ⟨c0, c1, c2⟩ := h1.cells
   go_wp2_with fail
   refine (back_empty (i := 0) (by omega) e2 h1).mono ?_
   rintro e w' ⟨rfl, rfl⟩
   go_wp2_with fail
   go_ret2
   exact ⟨rfl, m, h1, hS1⟩
  | some k =>
   have hw := Av.move_went hok (i := 0) (by omega) (Av.last_mem e2)
   have hkl := hok.klen (by omega) (Av.last_mem e2)
   clear h
   go_enter Tryz.func227, Tryz.ntmps227
   go_wp2_with fail
   refine ho.mono ?_
   rintro e w1 ⟨rfl, h1, hS1⟩
   obtain ⟨c0, c1, c2⟩ := h1.cells
   go_wp2_with fail
   refine (back_some (i := 0) (by omega) e2 h1).mono ?_
   rintro e w' ⟨rfl, rfl⟩
   go_wp2_with fail
   refine (front_a (j := 2) (by omega) hkl h1 hw.ok).mono ?_
   rintro e w2 ⟨rfl, m2, h2, hS2⟩
   go_wp2_with fail
   go_ret2
   exact ⟨rfl, m2, h2, hS1.trans hS2⟩
 | false =>
  rw [e1, if_neg (by decide)] at hsrc
  rw [hsrc]
  rw [e1] at ho
  cases e2 : v.last 1 with
  | none =>
   clear h
   go_enter Tryz.func227, Tryz.ntmps227
   go_wp2_with fail
   refine ho.mono ?_
   rintro e w1 ⟨rfl, h1, hS1⟩
   obtain ⟨c0, c1, c2⟩ := h1.cells
   go_wp2_with fail
   refine (back_empty (i := 1) (by omega) e2 h1).mono ?_
   rintro e w' ⟨rfl, rfl⟩
   go_wp2_with fail
   go_ret2
   exact ⟨rfl, m, h1, hS1⟩
  | some k =>
   have hw := Av.move_went hok (i := 1) (by omega) (Av.last_mem e2)
   have hkl := hok.klen (by omega) (Av.last_mem e2)
   clear h
   go_enter Tryz.func227, Tryz.ntmps227
   go_wp2_with fail
   refine ho.mono ?_
   rintro e w1 ⟨rfl, h1, hS1⟩
   obtain ⟨c0, c1, c2⟩ := h1.cells
   go_wp2_with fail
   refine (back_some (i := 1) (by omega) e2 h1).mono ?_
   rintro e w' ⟨rfl, rfl⟩
   go_wp2_with fail
   refine (front_a (j := 3) (by omega) hkl h1 hw.ok).mono ?_
   rintro e w2 ⟨rfl, m2, h2, hS2⟩
   go_wp2_with fail
   go_ret2
   exact ⟨rfl, m2, h2, hS1.trans hS2⟩
theorem forget_c {i : Nat} (hi : i < 4) (e : v.last i = some k) (h : HeldA w0 A P w m v) :
  Calls Tryz.prog 239 #[.pointer (some ⟨A, 0, none⟩), .int .i64 i] w fun e w' => e = .returned (.string (str k)) ∧ ∃ m', HeldA w0 A P w' m' (v.forget i) ∧ StepA A w m w' m' := by
 have hf : v.forget i = v.dr k := by unfold Av.forget; rw [e]
 rw [hf]
 have hb := back_some hi e h
 have hkl := h.ok.klen hi (Av.last_mem e)
 have hd := drop_a (k := k) (by unfold maxLen; omega) h
 obtain ⟨c0, c1, c2⟩ := h.cells
 clear h e hf hkl
 go_enter Tryz.func239, Tryz.ntmps239
 go_wp2_with fail
 refine hb.mono ?_
 rintro e w' ⟨rfl, rfl⟩
 go_wp2_with fail
 refine hd.mono ?_
 rintro e w' ⟨⟨b, rfl⟩, hp⟩
 go_wp2_with fail
 go_ret
 exact ⟨rfl, hp⟩
end
end Go.Proofs.YtkiabladmgagdabGreatDoor.Arcy
