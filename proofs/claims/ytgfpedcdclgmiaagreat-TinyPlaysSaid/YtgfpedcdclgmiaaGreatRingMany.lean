/- How many keys there are, and which, when one goes to a front. It speaks of no program's memory. -/
import Derived.Test.YtgfpedcdclgmiaaGreatRingAside
namespace Go.Proofs.YtgfpedcdclgmiaaGreat.Ringy

section
variable {r : Rg} {a : Int} {k x : Key}
theorem Rg.ok_in (h : r.ok a k = true) : 0 ≤ a ∧ a.toNat < r.n ∧ k.length ≤ 64 ∧ (r.has k ∨ r.many < r.places) := by
  unfold Rg.ok at h
  simp only [Bool.and_eq_true, Bool.or_eq_true, decide_eq_true_eq] at h
  obtain ⟨⟨⟨h1, h2⟩, h3⟩, h4⟩ := h
  exact ⟨h1, by omega, h3, h4.imp Rg.hasB_iff.1 id⟩
theorem Rg.ok_of (h1 : 0 ≤ a) (h2 : a < (r.n : Int)) (h3 : k.length ≤ 64) (h4 : r.has k ∨ r.many < r.places) : r.ok a k = true := by
  unfold Rg.ok
  simp only [Bool.and_eq_true, Bool.or_eq_true, decide_eq_true_eq]
  exact ⟨⟨⟨h1, h2⟩, h3⟩, h4.imp Rg.hasB_iff.2 id⟩
theorem Rg.ok_not (h : ¬ r.has k) (h2 : r.places ≤ r.many) : r.ok a k = false := by
  rw [Bool.eq_false_iff]
  intro e
  rcases (Rg.ok_in e).2.2.2 with e | e
  · exact h e
  · omega
theorem Rg.fr_ok (h : r.ok a k = true) : r.fr a k = (r.drop k).push a.toNat k := by unfold Rg.fr; rw [if_pos h]
theorem Rg.fr_no (h : r.ok a k = false) : r.fr a k = r := by unfold Rg.fr; rw [h, if_neg (by decide)]
theorem Rg.has_fr (h : r.ok a k = true) : (r.fr a k).has x ↔ x = k ∨ r.has x := by
  rw [Rg.fr_ok h, Rg.has_push (r := r.drop k) (Rg.ok_in h).2.1, Rg.has_drop]
  constructor
  · rintro (e | e)
    · exact .inl e
    · exact .inr e.1
  · intro e
    by_cases e2 : x = k
    · exact .inl e2
    · exact .inr ⟨e.resolve_left e2, e2⟩
theorem Rg.many_same (h : ¬ r.has k) : (r.drop k).many = r.many := sumTo_congr _ fun t ht => by
  show ((r.drop k).l t).length = _
  rw [Rg.drop_not (fun i hi hk => h ⟨i, hi, hk⟩) t ht]
theorem Rg.many_fr_new (h : r.ok a k = true) (hn : ¬ r.has k) : (r.fr a k).many = r.many + 1 := by
  rw [Rg.fr_ok h, Rg.many_push (r := r.drop k) (Rg.ok_in h).2.1, Rg.many_same hn]
theorem Rg.many_fr_old (hw : r.Wf) (h : r.ok a k = true) (hh : r.has k) : (r.fr a k).many = r.many := by
  obtain ⟨i, hi, hk⟩ := hh
  rw [Rg.fr_ok h, Rg.many_push (r := r.drop k) (Rg.ok_in h).2.1, Rg.many_drop hw hi hk]
theorem Rg.l_fr (h : r.ok a k = true) (t : Nat) : (r.fr a k).l t = if t = a.toNat then k :: strike k (r.l t) else strike k (r.l t) := by rw [Rg.fr_ok h]; rfl
end

/-! The keys of RingShares -/
def sKey (j : Nat) : Key := [UInt8.ofNat (97 + j)]
theorem sKey_ne {a b : Nat} (ha : a < 16) (hb : b < 16) (h : sKey a = sKey b) : a = b := by
  unfold sKey at h
  have h1 : UInt8.ofNat (97 + a) = UInt8.ofNat (97 + b) := by simpa using h
  have h2 := congrArg UInt8.toNat h1
  rw [UInt8.toNat_ofNat', UInt8.toNat_ofNat'] at h2
  omega
structure Sh1 (q j : Nat) (r : Rg) : Prop where
  n : r.n = 3
  pl : r.places = q
  many : r.many = j
  has : ∀ k, r.has k ↔ ∃ t, t < j ∧ k = sKey t
theorem Sh1.new (q : Nat) : Sh1 q 0 (Rg.new 3 q) := ⟨rfl, rfl, many_new _ _, fun k => ⟨fun h => by obtain ⟨_, _, h⟩ := h; exact absurd h List.not_mem_nil, fun h => by obtain ⟨t, h, _⟩ := h; omega⟩⟩
theorem Sh1.next {q j : Nat} {r : Rg} (h : Sh1 q j r) (hj : j < q) (hq : q < 16) {a : Int} (h1 : 0 ≤ a) (h2 : a < 3) : r.ok a (sKey j) = true ∧ Sh1 q (j + 1) (r.fr a (sKey j)) := by
  have hno : ¬ r.has (sKey j) := fun e => by obtain ⟨t, ht, e⟩ := (h.has _).1 e; have := sKey_ne (by omega) (by omega) e; omega
  have hok := Rg.ok_of (r := r) (a := a) (k := sKey j) h1 (by rw [h.n]; exact h2) (by show 1 ≤ 64; omega) (.inr (by rw [h.many, h.pl]; exact hj))
  refine ⟨hok, ⟨(Rg.fr_n r a _).1.trans h.n, (Rg.fr_n r a _).2.trans h.pl, by rw [Rg.many_fr_new hok hno, h.many], fun k => ?_⟩⟩
  rw [Rg.has_fr hok, h.has]
  constructor
  · rintro (e | ⟨t, ht, e⟩)
    · exact ⟨j, by omega, e⟩
    · exact ⟨t, by omega, e⟩
  · rintro ⟨t, ht, e⟩
    by_cases e2 : t = j
    · exact .inl (e2 ▸ e)
    · exact .inr ⟨t, by omega, e⟩
structure Sh2 (q j : Nat) (r : Rg) : Prop where
  n : r.n = 3
  pl : r.places = q
  many : r.many = q
  has : ∀ k, r.has k ↔ ∃ t, t < q ∧ k = sKey t
  low : ∀ i, i < 2 → ∀ k ∈ r.l i, ∃ t, j ≤ t ∧ t < q ∧ k = sKey t
theorem Sh1.to {q : Nat} {r : Rg} (h : Sh1 q q r) : Sh2 q 0 r := ⟨h.n, h.pl, h.many, h.has, fun i hi k hk => by
  obtain ⟨t, ht, e⟩ := (h.has k).1 ⟨i, by rw [h.n]; omega, hk⟩
  exact ⟨t, by omega, ht, e⟩⟩
theorem Sh2.next {q j : Nat} {r : Rg} (h : Sh2 q j r) (hw : r.Wf) (hj : j < q) : r.ok 2 (sKey j) = true ∧ Sh2 q (j + 1) (r.fr 2 (sKey j)) := by
  have hh : r.has (sKey j) := (h.has _).2 ⟨j, hj, rfl⟩
  have hok := Rg.ok_of (r := r) (a := 2) (k := sKey j) (by omega) (by rw [h.n]; omega) (by show 1 ≤ 64; omega) (.inl hh)
  refine ⟨hok, ⟨(Rg.fr_n r 2 _).1.trans h.n, (Rg.fr_n r 2 _).2.trans h.pl, by rw [Rg.many_fr_old hw hok hh, h.many], fun k => ?_, fun i hi k hk => ?_⟩⟩
  · rw [Rg.has_fr hok, h.has]
    constructor
    · rintro (e | e)
      · exact ⟨j, hj, e⟩
      · exact e
    · exact .inr
  · rw [Rg.l_fr hok, if_neg (by show ¬ i = 2; omega)] at hk
    obtain ⟨hk1, hk2⟩ := strike_mem.1 hk
    obtain ⟨t, t1, t2, e⟩ := h.low i hi k hk1
    exact ⟨t, by rcases Nat.lt_or_ge j t with h1 | h1; exact h1; exact absurd (e.trans (by rw [show t = j from by omega])) hk2, t2, e⟩
theorem Sh2.ends {q : Nat} {r : Rg} (h : Sh2 q q r) : r.l 0 = [] ∧ r.l 1 = [] ∧ (r.l 2).length = q := by
  have h0 : r.l 0 = [] := List.eq_nil_iff_forall_not_mem.2 fun k hk => by obtain ⟨t, t1, t2, _⟩ := h.low 0 (by omega) k hk; omega
  have h1 : r.l 1 = [] := List.eq_nil_iff_forall_not_mem.2 fun k hk => by obtain ⟨t, t1, t2, _⟩ := h.low 1 (by omega) k hk; omega
  refine ⟨h0, h1, ?_⟩
  have hm := h.many
  unfold Rg.many at hm
  rw [h.n] at hm
  have hm : 0 + (r.l 0).length + (r.l 1).length + (r.l 2).length = q := hm
  rw [h0, h1] at hm
  simpa using hm
/-- A key of more than one byte is none of them. -/
theorem Sh2.not {q j : Nat} {r : Rg} (h : Sh2 q j r) {k : Key} (hk : k.length ≠ 1) : ¬ r.has k := fun e => by
  obtain ⟨t, _, e⟩ := (h.has k).1 e
  exact hk (by rw [e]; rfl)
/-- One goes, another one comes; then there is no place. -/
def nKey : Key := [110, 101, 119, 32, 107, 101, 121]
theorem Sh2.turn {q : Nat} {r : Rg} (h : Sh2 q q r) (hw : r.Wf) (hq : 1 ≤ q) (hq2 : q < 16) {y : Key} :
    r.hasB (sKey 0) = true ∧ (r.drop (sKey 0)).ok 1 nKey = true ∧ ((r.drop (sKey 0)).fr 1 nKey).ok 1 (y ++ [33]) = false := by
  have hh : r.has (sKey 0) := (h.has _).2 ⟨0, by omega, rfl⟩
  obtain ⟨i, hi, hk⟩ := hh
  have hm := Rg.many_drop hw hi hk
  have hnn : ¬ (r.drop (sKey 0)).has nKey := fun e => h.not (k := nKey) (by decide) (Rg.has_drop.1 e).1
  have hok := Rg.ok_of (r := r.drop (sKey 0)) (a := 1) (k := nKey) (by omega) (by show (1 : Int) < (r.n : Int); rw [h.n]; omega) (by decide) (.inr (by show (r.drop (sKey 0)).many < r.places; rw [h.pl]; have := h.many; omega))
  refine ⟨Rg.hasB_iff.2 ⟨i, hi, hk⟩, hok, Rg.ok_not ?_ ?_⟩
  · rw [Rg.has_fr hok]
    rintro (e | e)
    · have := congrArg List.getLast? e
      simp [nKey] at this
    · obtain ⟨t, ht, e2⟩ := (h.has _).1 (Rg.has_drop.1 e).1
      have h1 := congrArg List.getLast? e2
      have h2 : (33 : UInt8) = UInt8.ofNat (97 + t) := by simpa [sKey] using h1
      have h3 := congrArg UInt8.toNat h2
      rw [UInt8.toNat_ofNat'] at h3
      have h4 : (33 : UInt8).toNat = 33 := rfl
      omega
  · rw [Rg.many_fr_new hok hnn, (Rg.fr_n _ _ _).2]
    show r.places ≤ _
    rw [h.pl]
    have := h.many
    omega
end Go.Proofs.YtgfpedcdclgmiaaGreat.Ringy
