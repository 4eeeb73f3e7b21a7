/- Keys that are laid from the last on: what the lists are between. It speaks of no program. -/
import Derived.Test.YtgfpedcdclgmiaaGreatRingMany
import Derived.Test.YtgfpedcdclgmiaaGreatRingBack
namespace Go.Proofs.YtgfpedcdclgmiaaGreat.Ringy

def lays (r : Rg) (i : Nat) (pre : List (Nat × Key)) : Rg := pre.foldl (fun r x => r.fr i (cut x.2)) r
theorem lays_snoc (r : Rg) (i : Nat) (pre : List (Nat × Key)) (x : Nat × Key) : lays r i (pre ++ [x]) = (lays r i pre).fr i (cut x.2) := by simp [lays]
/-- Keys that are not there, no one twice, and there is room. -/
structure Fresh (r : Rg) (i : Nat) (ks : List Key) : Prop where
  hi : i < r.n
  nd : ks.Nodup
  no : ∀ k ∈ ks, ¬ r.has k
  room : r.many + ks.length ≤ r.places
  key : ∀ k ∈ ks, k.length ≤ 64
structure Laid (r : Rg) (i : Nat) (ks : List Key) (s : Rg) : Prop where
  n : s.n = r.n
  pl : s.places = r.places
  many : s.many = r.many + ks.length
  has : ∀ k, s.has k ↔ k ∈ ks ∨ r.has k
  li : s.l i = ks ++ r.l i
  lo : ∀ t, t < r.n → t ≠ i → s.l t = r.l t
variable {r s : Rg} {i : Nat} {ks : List Key}
theorem Laid.more {k : Key} (h : Laid r i ks s) (hi : i < r.n) (hk : k ∉ ks) (hr : ¬ r.has k) (hl : k.length ≤ 64) (hm : r.many + ks.length < r.places) : s.hasB k = false ∧ s.ok i k = true ∧ Laid r i (k :: ks) (s.fr i k) := by
  have hno : ¬ s.has k := fun e => by rcases (h.has k).1 e with e | e; exact hk e; exact hr e
  have hok : s.ok i k = true := Rg.ok_of (by omega) (by rw [h.n]; omega) hl (.inr (by rw [h.many, h.pl]; exact hm))
  have hst : ∀ t, t < r.n → strike k (s.l t) = s.l t := fun t ht => strike_of_not fun e => hno ⟨t, by rw [h.n]; exact ht, e⟩
  refine ⟨by rw [Bool.eq_false_iff]; exact fun e => hno (Rg.hasB_iff.1 e), hok, (Rg.fr_n s i k).1.trans h.n, (Rg.fr_n s i k).2.trans h.pl, ?_, fun x => ?_, ?_, fun t ht hti => ?_⟩
  · rw [Rg.many_fr_new hok hno, h.many, List.length_cons]; omega
  · rw [Rg.has_fr hok, h.has, List.mem_cons, or_assoc]
  · rw [Rg.l_fr hok, if_pos (by simp), hst i hi, h.li]; rfl
  · rw [Rg.l_fr hok, if_neg (by simpa using hti), hst t ht, h.lo t ht hti]
theorem lays_at (h : Fresh r i ks) : ∀ d, d ≤ ks.length → Laid r i (ks.drop (ks.length - d)) (lays r i ((bw ks).take d)) ∧
    (d < ks.length → (lays r i ((bw ks).take d)).hasB (ks[ks.length - (d + 1)]?.getD []) = false ∧ (lays r i ((bw ks).take d)).ok i (ks[ks.length - (d + 1)]?.getD []) = true) := by
  have step : ∀ d, d < ks.length → Laid r i (ks.drop (ks.length - d)) (lays r i ((bw ks).take d)) → (lays r i ((bw ks).take d)).hasB (ks[ks.length - (d + 1)]?.getD []) = false ∧ (lays r i ((bw ks).take d)).ok i (ks[ks.length - (d + 1)]?.getD []) = true ∧
      Laid r i (ks.drop (ks.length - (d + 1))) (lays r i ((bw ks).take (d + 1))) := by
    intro d hd hL
    obtain ⟨q, hq⟩ : ∃ q, q = ks.length - (d + 1) := ⟨_, rfl⟩
    have hq1 : q < ks.length := by omega
    have e1 : ks.length - d = q + 1 := by omega
    have e2 : d = ks.length - (q + 1) := by omega
    have e3 : d + 1 = ks.length - q := by omega
    have hm : ks[q]?.getD [] ∈ ks := by rw [List.getElem?_eq_getElem hq1]; exact List.getElem_mem _
    have hdrop : ks.drop q = (ks[q]?.getD []) :: ks.drop (q + 1) := by rw [List.drop_eq_getElem_cons hq1, List.getElem?_eq_getElem hq1]; rfl
    have hnm : ks[q]?.getD [] ∉ ks.drop (q + 1) := by
      have h1 : (ks.drop q).Nodup := h.nd.sublist (List.drop_sublist _ _)
      rw [hdrop] at h1
      exact (List.nodup_cons.1 h1).1
    rw [e1] at hL
    obtain ⟨a, b, c⟩ := hL.more h.hi hnm (h.no _ hm) (h.key _ hm) (by rw [List.length_drop]; have := h.room; omega)
    rw [← hq]
    refine ⟨a, b, ?_⟩
    rw [e3, bw_snoc hq1, ← e2, lays_snoc, cut_of (h.key _ hm), hdrop]
    exact c
  have base : ∀ d, d ≤ ks.length → Laid r i (ks.drop (ks.length - d)) (lays r i ((bw ks).take d)) := by
    intro d
    induction d with
    | zero =>
      intro _
      rw [Nat.sub_zero, List.drop_length, List.take_zero]
      exact ⟨rfl, rfl, rfl, fun k => by simp [lays], rfl, fun _ _ _ => rfl⟩
    | succ d ih => exact fun hd => (step d (by omega) (ih (by omega))).2.2
  exact fun d hd => ⟨base d hd, fun hlt => ⟨(step d hlt (base d hd)).1, (step d hlt (base d hd)).2.1⟩⟩
theorem lays_all (h : Fresh r i ks) : Laid r i ks (lays r i (bw ks)) := by
  have := (lays_at h ks.length (Nat.le_refl _)).1
  rw [Nat.sub_self, List.drop_zero, ← bw_len, List.take_length] at this
  exact this
/-- No prefix meets a key that is there, or no place. -/
theorem lays_pre (h : Fresh r i ks) {p : List (Nat × Key)} {x : Nat × Key} (hp : p ++ [x] <+: bw ks) : (lays r i p).hasB (cut x.2) = false ∧ (lays r i p).ok i (cut x.2) = true := by
  have hl := hp.length_le
  rw [List.length_append, bw_len] at hl
  simp only [List.length_cons, List.length_nil] at hl
  have e1 : p ++ [x] = (bw ks).take (p.length + 1) := by
    have := List.prefix_iff_eq_take.1 hp
    simpa using this
  have hb := bw_snoc (xs := ks) (q := ks.length - (p.length + 1)) (by omega)
  rw [show ks.length - (ks.length - (p.length + 1)) = p.length + 1 by omega, show ks.length - (ks.length - (p.length + 1) + 1) = p.length by omega, ← e1] at hb
  obtain ⟨h1, h2⟩ := List.append_inj' hb rfl
  cases h2
  have hm : ks[ks.length - (p.length + 1)]?.getD [] ∈ ks := by rw [List.getElem?_eq_getElem (by omega)]; exact List.getElem_mem _
  show (lays r i p).hasB (cut (ks[ks.length - (p.length + 1)]?.getD [])) = false ∧ (lays r i p).ok i (cut (ks[ks.length - (p.length + 1)]?.getD [])) = true
  rw [cut_of (h.key _ hm)]
  have hf := (lays_at h p.length (by omega)).2 (by omega)
  rw [← h1] at hf
  exact hf
end Go.Proofs.YtgfpedcdclgmiaaGreat.Ringy
