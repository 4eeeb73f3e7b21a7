/- Which keys a policy keeps, behind each of its calls, of whichever kind it is: chapters 7 to 9 over plain lists. It speaks of no program. -/
import Derived.Test.YtlnjnpchkdipdaaGreatPolicyMath
namespace Go.Proofs.YtlnjnpchkdipdaaGreat.Policyy
open Ringy
open Arcy (Av)
open Tinyy (Tv)

def Pv.Fit : Pv → Prop
  | .a v => v.Ok
  | .t v => v.Ok
def Pv.most : Pv → Nat
  | .a v => v.most
  | .t v => v.most
/-- The same kind, as many, and it is as it may be. -/
structure Pv.Same (p q : Pv) : Prop where
  fit : q.Fit
  most : q.most = p.most
  kind : q.kind = p.kind
section
variable {p q r : Pv} {k : Key}
theorem Pv.Same.trans (h : p.Same q) (h' : q.Same r) : p.Same r := ⟨h'.fit, h'.most.trans h.most, h'.kind.trans h.kind⟩
theorem Pv.Fit.refl (h : p.Fit) : p.Same p := ⟨h, rfl, rfl⟩
theorem Pv.Out.fit (h : p.Out) : p.Fit := by
  cases p with
  | a v => exact h.1
  | t v => exact h.1
theorem Pv.Fit.touch (h : p.Fit) (k : Key) : p.Same (p.touch k) ∧ ∀ x, (p.touch k).has x = p.has x := by
  cases p with
  | a v =>
    have h' : v.Ok := h
    refine ⟨⟨(Av.touch_ok h' k).1, (Av.touch_ok h' k).2, rfl⟩, fun x => ?_⟩
    show (v.touch k).has x = v.has x
    unfold Av.touch
    split
    · rename_i e
      rw [Av.has_fr (by omega)]
      by_cases hx : x = k
      · subst hx; rw [e]; simp
      · simp [hx]
    · rfl
  | t v =>
    have h' : v.Ok := h
    have := Tinyy.Tv.touch_spec h' k
    exact ⟨⟨this.1, this.2.1, rfl⟩, this.2.2⟩
theorem Pv.Fit.miss (h : p.Fit) (k : Key) : p.Same (p.miss k) ∧ ∀ x, (p.miss k).has x = p.has x := by
  cases p with
  | a v => exact ⟨h.refl, fun _ => rfl⟩
  | t v =>
    have h' : v.Ok := h
    show Pv.Same (.t v) (if v.has k = true then .t v else .t (v.miss k)) ∧ ∀ x, Pv.has (if v.has k = true then .t v else .t (v.miss k)) x = v.has x
    split
    · exact ⟨h.refl, fun _ => rfl⟩
    · refine ⟨⟨(Tinyy.Tv.miss_ok h' k).1, (Tinyy.Tv.miss_ok h' k).2, rfl⟩, fun x => ?_⟩
      show (v.miss k).has x = v.has x
      unfold Tinyy.Tv.miss
      split <;> rfl
theorem Pv.Fit.drop (h : p.Fit) (k : Key) : p.Same (p.drop k) ∧ ∀ x, (p.drop k).has x = (p.has x && decide (x ≠ k)) := by
  cases p with
  | a v =>
    have h' : v.Ok := h
    refine ⟨⟨h'.dr k, rfl, rfl⟩, fun x => ?_⟩
    show (v.dr k).has x = (v.has x && decide (x ≠ k))
    refine Av.has_of ?_
    rw [Av.mem_dr, Av.mem_dr, Bool.and_eq_true, decide_eq_true_eq, Av.has_iff]
    constructor
    · rintro (⟨a, b⟩ | ⟨a, b⟩)
      · exact ⟨.inl a, b⟩
      · exact ⟨.inr a, b⟩
    · rintro ⟨a | a, b⟩
      · exact .inl ⟨a, b⟩
      · exact .inr ⟨a, b⟩
  | t v =>
    have h' : v.Ok := h
    exact ⟨⟨h'.dr k, rfl, rfl⟩, fun x => Tinyy.Tv.has_dr⟩
theorem roomK_has {v : Av} {b : Bool} {x : Key} (hx : x ∈ v.roomK b) : v.has x = true := by
  unfold Av.roomK at hx
  split at hx
  · cases hx
  · rw [Option.mem_toList] at hx
    have hm := Av.last_mem hx
    rcases Av.src_cases v b with e | e <;> rw [e] at hm
    · exact Av.has_iff.2 (.inl hm)
    · exact Av.has_iff.2 (.inr hm)
theorem forget_has {v : Av} {i : Nat} {x : Key} (hx : (v.forget i).has x = true) : v.has x = true := by
  unfold Av.forget at hx
  split at hx
  · exact hx
  · rw [Av.has_iff, Av.mem_dr, Av.mem_dr] at hx
    exact Av.has_iff.2 (hx.imp (·.1) (·.1))
theorem insK_has {v : Av} {x : Key} (hx : x ∈ v.insK k) : v.has x = true ∧ v.at_ k ≠ some 0 ∧ v.at_ k ≠ some 1 := by
  unfold Av.insK at hx
  split at hx
  · rename_i e
    rw [e]
    refine ⟨?_, by simp, by simp⟩
    unfold Av.freshK at hx
    split at hx
    · rw [Option.mem_toList] at hx
      exact Av.has_iff.2 (.inl (Av.last_mem hx))
    · have h1 := roomK_has hx
      unfold Av.shut at h1
      split at h1
      · exact forget_has h1
      · split at h1
        · exact forget_has h1
        · exact h1
  · rename_i e
    rw [e]
    exact ⟨roomK_has (v := v.up) hx, by simp, by simp⟩
  · rename_i e
    rw [e]
    exact ⟨roomK_has (v := v.down) hx, by simp, by simp⟩
  · cases hx
theorem Pv.Fit.insert (h : p.Fit) (hk : k.length ≤ 64) : p.Same (p.insert k) ∧ (∀ x, (p.insert k).has x = ((decide (x = k) || p.has x) && decide (x ∉ p.insertK k))) ∧ (p.insertK k).length ≤ 1 := by
  cases p with
  | a v =>
    have h' : v.Ok := h
    have hs := Av.ins_spec h' hk
    have e1 : v.insert k = v.ins k := if_neg (by omega)
    have e2 : v.insertK k = v.insK k := if_neg (by omega)
    show Pv.Same (.a v) (.a (v.insert k)) ∧ (∀ x, (v.insert k).has x = ((decide (x = k) || v.has x) && decide (x ∉ v.insertK k))) ∧ (v.insertK k).length ≤ 1
    rw [e1, e2]
    refine ⟨⟨hs.ok, hs.most, rfl⟩, fun x => ?_, hs.glen⟩
    rw [hs.has]
    by_cases hx : x = k
    · subst hx
      have hn : x ∉ v.insK x := fun hm => by
        obtain ⟨h1, h2, h3⟩ := insK_has hm
        rw [Av.at_has h'] at h1
        simp [h2, h3] at h1
      simp [hn]
    · simp [hx]
  | t v =>
    have h' : v.Ok := h
    have hs := Tinyy.Tv.ins_spec h' hk
    have e1 : v.insert k = v.ins k := if_neg (by omega)
    have e2 : v.insertK k = v.insK k := if_neg (by omega)
    show Pv.Same (.t v) (.t (v.insert k)) ∧ (∀ x, (v.insert k).has x = ((decide (x = k) || v.has x) && decide (x ∉ v.insertK k))) ∧ (v.insertK k).length ≤ 1
    rw [e1, e2]
    exact ⟨⟨hs.ok, hs.most, rfl⟩, hs.has, hs.glen⟩
theorem Pv.Fit.insertK_has {x : Key} (h : p.Fit) (hk : k.length ≤ 64) (hx : x ∈ p.insertK k) : p.has x = true := by
  cases p with
  | a v =>
    have hx' : x ∈ v.insertK k := hx
    rw [show v.insertK k = v.insK k from if_neg (by omega)] at hx'
    exact (insK_has hx').1
  | t v =>
    have hx' : x ∈ v.insertK k := hx
    rw [show v.insertK k = v.insK k from if_neg (by omega)] at hx'
    exact (Tinyy.Tv.ins_spec h hk).gsub x hx'
theorem Pv.Fit.kept (h : p.Fit) : p.kept ≤ p.most := by
  cases p with
  | a v => exact Arcy.Av.Ok.kept h
  | t v => exact Tinyy.Tv.Ok.kept h
theorem Pv.Fit.most (h : p.Fit) : 1 ≤ p.most ∧ p.most ≤ 1000 := by
  cases p with
  | a v => exact ⟨Arcy.Av.Ok.m1 h, Arcy.Av.Ok.m2 h⟩
  | t v => exact ⟨(Tinyy.Tv.Ok.fit h).m1, (Tinyy.Tv.Ok.fit h).m2⟩
theorem Pv.Fit.count (h : p.Fit) {l : List Key} (hl : l.Nodup) (hm : ∀ x, x ∈ l ↔ p.has x = true) : p.kept = l.length := by
  cases p with
  | a v => exact Av.kept_of h hl hm
  | t v => exact Tinyy.Tv.kept_of (Tinyy.Tv.Ok.fit h) hl hm
theorem Pv.Fit.goes_no (h : p.Fit) (hg : p.goes = none) : p.kept = 0 := by
  cases p with
  | a v =>
    rcases Nat.eq_zero_or_pos v.kept with h0 | h0
    · exact h0
    · obtain ⟨k, hk, -⟩ := Av.repl_went h false h0
      rw [show Pv.goes (.a v) = v.last (v.src false) from rfl, hk] at hg
      cases hg
  | t v =>
    have hg' : v.first [1, 0, 2] = none := hg
    rw [Tinyy.Tv.first_cons] at hg'
    cases e1 : v.last 1 with
    | some k => rw [e1] at hg'; cases hg'
    | none =>
      rw [e1] at hg'
      replace hg' : v.first [0, 2] = none := hg'
      rw [Tinyy.Tv.first_cons] at hg'
      cases e0 : v.last 0 with
      | some k => rw [e0] at hg'; cases hg'
      | none =>
        rw [e0] at hg'
        replace hg' : v.first [2] = none := hg'
        rw [Tinyy.Tv.first_cons] at hg'
        cases e2 : v.last 2 with
        | some k => rw [e2] at hg'; cases hg'
        | none =>
          show v.len 0 + v.len 1 + v.len 2 = 0
          unfold Tinyy.Tv.len
          rw [Tinyy.Tv.last_none e0, Tinyy.Tv.last_none e1, Tinyy.Tv.last_none e2]
          rfl
theorem Pv.Fit.goes_yes (h : p.Fit) (hg : p.goes = some k) : p.has k = true ∧ p.Same p.evict ∧ ∀ x, p.evict.has x = (p.has x && decide (x ≠ k)) := by
  cases p with
  | a v =>
    have h' : v.Ok := h
    have hg' : v.last (v.src false) = some k := hg
    have hm := Av.last_mem hg'
    have hh : v.has k = true := by
      rcases Av.src_cases v false with e | e <;> rw [e] at hm
      · exact Av.has_iff.2 (.inl hm)
      · exact Av.has_iff.2 (.inr hm)
    have h0 : 0 < v.kept := by
      have : 0 < v.len (v.src false) := List.length_pos_of_mem hm
      unfold Av.kept
      rcases Av.src_cases v false with e | e <;> rw [e] at this <;> omega
    obtain ⟨k', hk, hw⟩ := Av.repl_went h' false h0
    rw [hg'] at hk
    injection hk with hk
    subst hk
    exact ⟨hh, ⟨hw.ok, hw.most, rfl⟩, hw.has⟩
  | t v =>
    have h' : v.Ok := h
    have hg' : v.goes = some k := hg
    have he : v.evict = v.dr k := by unfold Tinyy.Tv.evict; rw [hg']
    obtain ⟨i, hi, hm⟩ := Tinyy.Tv.goes_mem hg'
    refine ⟨Tinyy.Tv.has_iff.2 ⟨i, hi, hm⟩, ⟨(Tinyy.Tv.evict_ok h').1, (Tinyy.Tv.evict_ok h').2, rfl⟩, fun x => ?_⟩
    show v.evict.has x = _
    rw [he]
    exact Tinyy.Tv.has_dr
theorem Pv.new_fit {kind n seed : Nat} (hk : kind = 1 ∨ kind = 2) (h1 : 1 ≤ n) (h2 : n ≤ 1000) (h3 : seed < 18446744073709551616) : (Pv.new kind n seed).Fit ∧ (Pv.new kind n seed).most = n ∧ (Pv.new kind n seed).kind = kind ∧ ∀ x, (Pv.new kind n seed).has x = false := by
  rcases hk with rfl | rfl
  · exact ⟨Av.new_ok h1 h2, rfl, rfl, fun x => rfl⟩
  · exact ⟨Tinyy.Tv.new_ok h1 h2 h3, rfl, rfl, fun x => rfl⟩
end
end Go.Proofs.YtlnjnpchkdipdaaGreat.Policyy
