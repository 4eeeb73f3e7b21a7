/- Chapter 5 over plain lists of numbers: a sketch, what an addition and an ageing make of it, its bytes; that until it ages no key is said to be seen less often than it was. It speaks of no program. -/
import Derived.Test.YtlnjnpchkdipdaaGreatWireFlyAll
namespace Go.Proofs.YtlnjnpchkdipdaaGreat.Sketchy

/-- A sketch: rows 0 to 3, the door. -/
structure Sk where
  wide : Nat
  seed : Nat
  added : Nat
  r : Nat → List Nat
  door : List Bool

structure Sk.Wf (s : Sk) : Prop where
  w1 : 1 ≤ s.wide
  w2 : s.wide ≤ 4096
  seed : s.seed < 18446744073709551616
  added : s.added < 10 * s.wide
  len : ∀ i, i < 4 → (s.r i).length = s.wide
  top : ∀ i, i < 4 → ∀ c ∈ s.r i, c ≤ 15
  dlen : s.door.length = s.wide

def Sk.new (wide seed : Nat) : Sk := ⟨wide, seed, 0, fun _ => List.replicate wide 0, List.replicate wide false⟩
theorem Sk.new_wf {wide seed : Nat} (h1 : 1 ≤ wide) (h2 : wide ≤ 4096) (h3 : seed < 18446744073709551616) : (Sk.new wide seed).Wf :=
  ⟨h1, h2, h3, by show 0 < 10 * wide; omega, fun _ _ => List.length_replicate .., fun _ _ c hc => by rw [List.eq_of_mem_replicate hc]; omega, List.length_replicate ..⟩

/-- A key's counter of a row; its bit. -/
def Sk.cnt (s : Sk) (ks : Nat → Nat) (i : Nat) : Nat := (s.r i)[ks i]?.getD 0
def Sk.bit (s : Sk) (ks : Nat → Nat) : Bool := s.door[ks 4]?.getD false
/-- The least of its counters, of the first rows. -/
def Sk.lst (s : Sk) (ks : Nat → Nat) : Nat → Nat
  | 0 => 15
  | j + 1 => min (Sk.lst s ks j) (s.cnt ks j)
def Sk.seen (s : Sk) (ks : Nat → Nat) : Nat := s.lst ks 4 + (if s.bit ks then 1 else 0)
def upRow (l : List Nat) (k m : Nat) : List Nat := if l[k]?.getD 0 = m then l.set k (m + 1) else l
def Sk.up (s : Sk) (ks : Nat → Nat) (j : Nat) : Sk := { s with r := fun i => if i < j then upRow (s.r i) (ks i) (s.lst ks 4) else s.r i }
def Sk.grow (s : Sk) (ks : Nat → Nat) : Sk := if s.lst ks 4 = 15 then s else s.up ks 4
def Sk.mark (s : Sk) (ks : Nat → Nat) : Sk := { s with door := s.door.set (ks 4) true }
def Sk.note (s : Sk) (ks : Nat → Nat) : Sk := if s.bit ks then s.grow ks else s.mark ks
def Sk.age (s : Sk) : Sk := ⟨s.wide, s.seed, s.added / 2, fun i => (s.r i).map (· / 2), List.replicate s.wide false⟩
def Sk.count (s : Sk) : Sk := { s with added := s.added + 1 }
def Sk.add (s : Sk) (ks : Nat → Nat) : Sk := if 10 * s.wide ≤ s.added + 1 then ((s.note ks).count).age else (s.note ks).count

/-- All but that the additions may be the sample. -/
structure Sk.Pre (s : Sk) : Prop where
  w1 : 1 ≤ s.wide
  w2 : s.wide ≤ 4096
  seed : s.seed < 18446744073709551616
  added : s.added ≤ 10 * s.wide
  len : ∀ i, i < 4 → (s.r i).length = s.wide
  top : ∀ i, i < 4 → ∀ c ∈ s.r i, c ≤ 15
  dlen : s.door.length = s.wide
theorem Sk.Wf.pre {s : Sk} (h : s.Wf) : s.Pre := ⟨h.w1, h.w2, h.seed, Nat.le_of_lt h.added, h.len, h.top, h.dlen⟩
theorem Sk.Pre.wf {s : Sk} (h : s.Pre) (ha : s.added < 10 * s.wide) : s.Wf := ⟨h.w1, h.w2, h.seed, ha, h.len, h.top, h.dlen⟩

section
variable {s : Sk} {ks : Nat → Nat}
theorem Sk.Pre.cnt_le (h : s.Pre) {i : Nat} (hi : i < 4) : s.cnt ks i ≤ 15 := by
  unfold Sk.cnt
  by_cases hk : ks i < (s.r i).length
  · rw [List.getElem?_eq_getElem hk]; exact h.top i hi _ (List.getElem_mem hk)
  · rw [List.getElem?_eq_none (by omega)]; exact Nat.zero_le _
theorem Sk.lst_le (j : Nat) : s.lst ks j ≤ 15 := by
  induction j with
  | zero => exact Nat.le_refl _
  | succ j ih => exact Nat.le_trans (Nat.min_le_left ..) ih
theorem upRow_length (l : List Nat) (k m : Nat) : (upRow l k m).length = l.length := by unfold upRow; split <;> simp
theorem upRow_top {l : List Nat} {k m : Nat} (hm : m < 15) (h : ∀ c ∈ l, c ≤ 15) : ∀ c ∈ upRow l k m, c ≤ 15 := by
  intro c hc
  unfold upRow at hc
  split at hc
  · rcases List.mem_or_eq_of_mem_set hc with h1 | h1
    · exact h c h1
    · omega
  · exact h c hc
theorem Sk.up_zero : s.up ks 0 = s := by
  unfold Sk.up
  simp
theorem Sk.Pre.up (h : s.Pre) (hm : s.lst ks 4 ≠ 15) (j : Nat) : (s.up ks j).Pre := by
  have h15 := Sk.lst_le (s := s) (ks := ks) 4
  refine ⟨h.w1, h.w2, h.seed, h.added, fun i hi => ?_, fun i hi c hc => ?_, h.dlen⟩
  · show (if i < j then upRow (s.r i) (ks i) (s.lst ks 4) else s.r i).length = s.wide
    split
    · rw [upRow_length]; exact h.len i hi
    · exact h.len i hi
  · have hc : c ∈ (if i < j then upRow (s.r i) (ks i) (s.lst ks 4) else s.r i) := hc
    split at hc
    · exact upRow_top (by omega) (h.top i hi) c hc
    · exact h.top i hi c hc
theorem Sk.Pre.grow (h : s.Pre) : (s.grow ks).Pre := by
  unfold Sk.grow
  split
  · exact h
  · next hm => exact h.up hm 4
theorem Sk.Pre.mark (h : s.Pre) : (s.mark ks).Pre := ⟨h.w1, h.w2, h.seed, h.added, h.len, h.top, by show (s.door.set _ _).length = _; rw [List.length_set]; exact h.dlen⟩
theorem Sk.Pre.note (h : s.Pre) : (s.note ks).Pre := by
  unfold Sk.note
  split
  · exact h.grow
  · exact h.mark
theorem Sk.grow_fix : (s.grow ks).wide = s.wide ∧ (s.grow ks).added = s.added ∧ (s.grow ks).seed = s.seed := by
  unfold Sk.grow
  split <;> exact ⟨rfl, rfl, rfl⟩
theorem Sk.note_fix : (s.note ks).wide = s.wide ∧ (s.note ks).added = s.added ∧ (s.note ks).seed = s.seed := by
  unfold Sk.note
  split
  · exact Sk.grow_fix
  · exact ⟨rfl, rfl, rfl⟩
theorem Sk.Wf.count (h : s.Wf) : (s.note ks).count.Pre := by
  have hp := (h.pre.note (ks := ks))
  have hf := Sk.note_fix (s := s) (ks := ks)
  exact ⟨hp.w1, hp.w2, hp.seed, by show (s.note ks).added + 1 ≤ 10 * (s.note ks).wide; rw [hf.1, hf.2.1]; exact h.added, hp.len, hp.top, hp.dlen⟩
theorem Sk.Pre.age (h : s.Pre) : s.age.Wf := by
  have := h.w1
  have := h.added
  refine ⟨h.w1, h.w2, h.seed, by show s.added / 2 < 10 * s.wide; omega, fun i hi => ?_, fun i hi c hc => ?_, List.length_replicate ..⟩
  · show ((s.r i).map _).length = s.wide
    rw [List.length_map]; exact h.len i hi
  · have hc : c ∈ (s.r i).map (· / 2) := hc
    obtain ⟨x, hx, rfl⟩ := List.mem_map.1 hc
    have := h.top i hi x hx
    omega
theorem Sk.Wf.add (h : s.Wf) : (s.add ks).Wf := by
  unfold Sk.add
  have hf := Sk.note_fix (s := s) (ks := ks)
  split
  · exact h.count.age
  · exact h.count.wf (by show (s.note ks).added + 1 < 10 * (s.note ks).wide; rw [hf.1, hf.2.1]; omega)
theorem Sk.add_fix : (s.add ks).wide = s.wide ∧ (s.add ks).seed = s.seed := by
  unfold Sk.add
  have hf := Sk.note_fix (s := s) (ks := ks)
  split
  · exact ⟨hf.1, hf.2.2⟩
  · exact ⟨hf.1, hf.2.2⟩
/-! Until it ages -/
/-- m additions of a key are told of. -/
def Sk.tells (s : Sk) (ks : Nat → Nat) (m : Nat) : Prop := m = 0 ∨ (s.bit ks = true ∧ min m 16 ≤ s.lst ks 4 + 1)
theorem Sk.tells.seen {m : Nat} (h : s.tells ks m) : min m 16 ≤ s.seen ks := by
  unfold Sk.seen
  rcases h with rfl | ⟨h1, h2⟩
  · omega
  · rw [if_pos h1]; exact h2
end

/-! Its bytes -/
def rowB (l : List Nat) : List UInt8 := l.map UInt8.ofNat
def flagB (b : Bool) : UInt8 := if b then 1 else 0
def Sk.put (s : Sk) : List UInt8 :=
  Wirey.enc s.wide ++ Wirey.enc s.seed ++ Wirey.enc s.added ++ (rowB (s.r 0) ++ rowB (s.r 1) ++ rowB (s.r 2) ++ rowB (s.r 3)) ++ s.door.map flagB
end Go.Proofs.YtlnjnpchkdipdaaGreat.Sketchy
