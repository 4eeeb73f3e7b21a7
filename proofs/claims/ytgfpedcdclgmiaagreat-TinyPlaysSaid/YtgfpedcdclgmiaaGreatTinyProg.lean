/- Chapter 8 over plain lists, what a list of acts lays before a law, and the program's Tiny, method by method. No condition but that it is as chapter 8 has it. -/
import Derived.Test.YtgfpedcdclgmiaaGreatRows
import Derived.Test.YtgfpedcdclgmiaaGreatMem
import Derived.Test.YtgfpedcdclgmiaaGreatTexts
import Derived.Deep.Slices
import Derived.Deep.Strs
import Derived.Test.YtgfpedcdclgmiaaGreatRingHeld
import Derived.Test.YtgfpedcdclgmiaaGreatSketchAdd
import Derived.Test.YtgfpedcdclgmiaaGreatSketchSeen
import Derived.Deep.RegionHeld3
import Derived.Test.YtgfpedcdclgmiaaGreatRingAside
import Derived.Test.YtgfpedcdclgmiaaGreatRingRound
import Derived.Test.YtgfpedcdclgmiaaGreatRingRange
namespace Go.Proofs.YtgfpedcdclgmiaaGreat.Tinyy
open Go.ChangeShapes Go.WideShapes Go.ChangeAt Go.RowKit Go.Deep
open Wirey (str str_of str_size)

theorem act_cells : Tryz.prog.cellsOf 42 = 2 := by kernel_rfl
theorem int_cells : Tryz.prog.cellsOf 3 = 1 := by kernel_rfl
/-- A slice of n acts. -/
structure Acts (w : World) (ao : Option Addr) (n sb off : Nat) (K : Nat → Int) (T : Nat → List UInt8) : Prop where
  n63 : n ≤ 9223372036854775807
  ao : 0 < n → ao = some ⟨sb, off, none⟩
  kind : ∀ i, i < n → w.cell? ⟨sb, off + i * 2, none⟩ = some (.int .i64 (K i))
  key : ∀ i, i < n → w.cell? ⟨sb, off + i * 2 + 1, none⟩ = some (.string (str (T i)))
  wK : ∀ i, i < n → -9223372036854775808 ≤ K i ∧ K i ≤ 9223372036854775807
  size : ∀ i, i < n → (T i).length ≤ maxLen
  lt : 0 < n → sb < w.heap.size
theorem Acts.below {w w' : World} {ao : Option Addr} {n sb off C : Nat} {K : Nat → Int} {T : Nat → List UInt8} (h : Acts w ao n sb off K T) (hb : Below C w w') (hC : 0 < n → sb < C) : Acts w' ao n sb off K T :=
  ⟨h.n63, h.ao, fun i hi => (World.cell?_of_block (hb.block sb (hC (by omega)))).trans (h.kind i hi), fun i hi => (World.cell?_of_block (hb.block sb (hC (by omega)))).trans (h.key i hi), h.wK, h.size, fun hl => Nat.lt_of_lt_of_le (h.lt hl) hb.size⟩
theorem addr_add' (b o n : Nat) : (⟨b, o, none⟩ : Addr).add n = ⟨b, o + n, none⟩ := by
  unfold Addr.add
  split
  · subst_vars; rfl
  · rfl
theorem spot_none' {w : World} {a : Addr} {u : Value} (h : w.cell? a = some u) : a = ⟨a.block, a.off, none⟩ := by
  obtain ⟨b, o, s⟩ := a
  cases s with
  | none => rfl
  | some s =>
    unfold World.cell? at h
    split at h
    · simp at h
    · simp at h
set_option maxRecDepth 100000 in
theorem open_acts {H : Type} {enc : TypeId × Value → H} {w : World} {base : Nat} {spare : Nat → Bool} {held : Bool} {fuel : Nat} {v : Value} {x : DataW H × List MemPlace}
    (h : DataW.trod enc Tryz.prog w base spare held fuel 23 [v] = some x) :
    ∃ (ao : Option Addr) (len cap sb off : Nat) (K : Nat → Int) (T : Nat → List UInt8), v = .slice ao len cap ∧ Acts w ao len sb off K T := by
  rcases open_slice Tryz.underlying23 h with ⟨h0, _⟩ | ⟨a, len, cap, m, n, D, Pl, h0, _, hl, hm, hmm, _, hi⟩
  · obtain rfl : v = .slice none 0 0 := by simpa using h0
    exact ⟨none, 0, 0, 0, 0, fun _ => 0, fun _ => [], rfl, ⟨by omega, fun h => by omega, fun i hi => by omega, fun i hi => by omega, fun i hi => by omega, fun i hi => by omega, fun h => by omega⟩⟩
  · obtain rfl : v = .slice (some a) len cap := by simpa using h0
    have hlm : len ≤ m := by
      rw [hmm]; split
      · exact hl
      · exact Nat.le_refl _
    have each : ∀ i, ∃ (k : Int) (t : List UInt8), i < len → w.cell? ((a.add (i * 2)).add 0) = some (.int .i64 k) ∧ w.cell? ((a.add (i * 2)).add 1) = some (.string (str t)) ∧
        (-9223372036854775808 ≤ k ∧ k ≤ 9223372036854775807) ∧ t.length ≤ maxLen := by
      intro i
      by_cases hil : i < len
      · obtain ⟨cs, hc, ht⟩ := hi i (by omega)
        rw [act_cells] at hc
        obtain ⟨_, hcl, hat⟩ := World.cells?_some hc
        obtain ⟨y0, y1, n', _, _, t0, t1⟩ := trod_struct2 Tryz.underlying42 ht
        match cs, hcl with
        | [d0, d1], _ =>
          dsimp only at t0 t1
          rw [int_cells] at t0
          rw [Wirey.str_cells] at t1
          obtain ⟨k, e0, _, w0⟩ := DataW.trod_int Tryz.underlying3 t0
          obtain ⟨b, e2, _, w2⟩ := DataW.trod_string Tryz.underlying9 t1
          obtain rfl : d0 = .int .i64 k := by simpa using e0
          obtain rfl : d1 = .string b := by simpa using e2
          exact ⟨k, b.data.toList, fun _ => ⟨hat 0 (by omega), (hat 1 (by omega)).trans (congrArg (fun z => some (Value.string z)) (str_of b)), bounds_i64 w0, w2⟩⟩
      · exact ⟨0, [], fun h => absurd h hil⟩
    obtain ⟨K, T, hK⟩ : ∃ (K : Nat → Int) (T : Nat → List UInt8), ∀ i, i < len → w.cell? ((a.add (i * 2)).add 0) = some (.int .i64 (K i)) ∧ w.cell? ((a.add (i * 2)).add 1) = some (.string (str (T i))) ∧
        (-9223372036854775808 ≤ K i ∧ K i ≤ 9223372036854775807) ∧ (T i).length ≤ maxLen :=
      ⟨fun i => (each i).choose, fun i => (each i).choose_spec.choose, fun i => (each i).choose_spec.choose_spec⟩
    clear each
    by_cases hz : len = 0
    · subst hz
      exact ⟨some a, 0, cap, 0, 0, fun _ => 0, fun _ => [], rfl, ⟨by omega, fun h => by omega, fun i hi => by omega, fun i hi => by omega, fun i hi => by omega, fun i hi => by omega, fun h => by omega⟩⟩
    · obtain ⟨g0, _⟩ := hK 0 (by omega)
      have ha : a = ⟨a.block, a.off, none⟩ := spot_none' (show w.cell? a = some _ from g0)
      have hsb := World.block_lt_of_cell? w _ (show w.cell? a = some _ from g0)
      have hq : ∀ i, i < len → w.cell? ⟨a.block, a.off + i * 2, none⟩ = some (.int .i64 (K i)) ∧ w.cell? ⟨a.block, a.off + i * 2 + 1, none⟩ = some (.string (str (T i))) := fun i hil => by
        obtain ⟨q0, q1, _⟩ := hK i hil
        rw [ha, addr_add', addr_add'] at q0 q1
        exact ⟨q0, q1⟩
      exact ⟨some a, len, cap, a.block, a.off, K, T, rfl, ⟨Nat.le_trans hl hm, fun _ => congrArg some ha, fun i hil => (hq i hil).1, fun i hil => (hq i hil).2, fun i hil => (hK i hil).2.2.1, fun i hil => (hK i hil).2.2.2, fun _ => hsb⟩⟩
end Go.Proofs.YtgfpedcdclgmiaaGreat.Tinyy

namespace Go.Proofs.YtgfpedcdclgmiaaGreat.Tinyy
open Ringy
open Sketchy (Sk ksOf)

structure Tv where
  most : Nat
  sk : Sk
  rg : Rg
def wMost (c : Nat) : Nat := max 1 (c / 8)
def sMost (c : Nat) : Nat := (c - wMost c) * 4 / 5
def wideOf (c : Nat) : Nat := min (8 * c) 4096
def Tv.len (v : Tv) (i : Nat) : Nat := (v.rg.l i).length
def Tv.kept (v : Tv) : Nat := v.len 0 + v.len 1 + v.len 2
def Tv.new (most seed : Nat) : Tv := ⟨most, Sk.new (wideOf most) seed, Rg.new 3 (most + 1)⟩
def Tv.fr (v : Tv) (j : Nat) (k : Key) : Tv := { v with rg := (v.rg.drop k).push j k }
def Tv.dr (v : Tv) (k : Key) : Tv := { v with rg := v.rg.drop k }
def Tv.ks (v : Tv) (k : Key) : Nat → Nat := ksOf (Mixy.text v.sk.seed k) v.sk.wide
def Tv.note (v : Tv) (k : Key) : Tv := { v with sk := v.sk.add (v.ks k) }
def Tv.seen (v : Tv) (k : Key) : Nat := v.sk.seen (v.ks k)
def Tv.last (v : Tv) (i : Nat) : Option Key := (v.rg.l i).getLast?
/-- In which list a key is. -/
def Tv.at_ (v : Tv) (k : Key) : Option Nat := if k ∈ v.rg.l 0 then some 0 else if k ∈ v.rg.l 1 then some 1 else if k ∈ v.rg.l 2 then some 2 else none
def Tv.has (v : Tv) (k : Key) : Bool := (v.at_ k).isSome
/-- The last of the first of three lists that has any. -/
def Tv.first (v : Tv) : List Nat → Option Key
  | [] => none
  | i :: l => match v.last i with
    | some k => some k
    | none => v.first l
def Tv.safe (v : Tv) (k : Key) : Tv := if sMost v.most < (v.fr 2 k).len 2 then (v.fr 2 k).fr 1 (((v.fr 2 k).last 2).getD []) else v.fr 2 k
def Tv.touch (v : Tv) (k : Key) : Tv := match v.at_ k with
  | none => v
  | some 0 => (v.note k).fr 0 k
  | some _ => (v.note k).safe k
/-- One stays, the other goes. -/
def Tv.stays (v : Tv) (one : Key) : Option Key := match v.first [1, 2] with
  | none => none
  | some o => if v.seen one ≤ v.seen o then none else some o
def Tv.leaveOf (v : Tv) (one : Key) : Tv := if v.kept ≤ v.most then v.fr 1 one else match v.stays one with
  | none => v.dr one
  | some o => (v.dr o).fr 1 one
def Tv.leaveOfK (v : Tv) (one : Key) : List Key := if v.kept ≤ v.most then [] else match v.stays one with
  | none => [one]
  | some o => [o]
def Tv.leave (v : Tv) : Tv := v.leaveOf ((v.last 0).getD [])
def Tv.leaveK (v : Tv) : List Key := v.leaveOfK ((v.last 0).getD [])
def Tv.came (v : Tv) (k : Key) : Tv := (v.note k).fr 0 k
def Tv.fresh (v : Tv) (k : Key) : Tv := if (v.came k).len 0 ≤ wMost v.most then v.came k else (v.came k).leave
def Tv.freshK (v : Tv) (k : Key) : List Key := if (v.came k).len 0 ≤ wMost v.most then [] else (v.came k).leaveK
def Tv.ins (v : Tv) (k : Key) : Tv := if v.has k = true then v.touch k else v.fresh k
def Tv.insK (v : Tv) (k : Key) : List Key := if v.has k = true then [] else v.freshK k
def Tv.insert (v : Tv) (k : Key) : Tv := if 64 < k.length then v else v.ins k
def Tv.insertK (v : Tv) (k : Key) : List Key := if 64 < k.length then [] else v.insK k
def Tv.miss (v : Tv) (k : Key) : Tv := if 64 < k.length then v else v.note k
def Tv.goes (v : Tv) : Option Key := v.first [1, 0, 2]
def Tv.evict (v : Tv) : Tv := match v.goes with
  | none => v
  | some k => v.dr k

structure Tv.Fit (v : Tv) : Prop where
  wf : v.rg.Wf
  sw : v.sk.Wf
  n : v.rg.n = 3
  pl : v.rg.places = v.most + 1
  m1 : 1 ≤ v.most
  m2 : v.most ≤ 1000
  wd : v.sk.wide = wideOf v.most
structure Tv.Ok (v : Tv) : Prop where
  fit : v.Fit
  win : v.len 0 ≤ wMost v.most
  bk : v.len 1 + v.len 2 + wMost v.most ≤ v.most
  sf : v.len 2 ≤ sMost v.most

theorem wMost_pos (c : Nat) : 1 ≤ wMost c := Nat.le_max_left _ _
theorem wMost_le {c : Nat} (h : 1 ≤ c) : wMost c ≤ c := by unfold wMost; omega
theorem sMost_le (c : Nat) : sMost c ≤ c := by unfold sMost; omega
section
variable {v : Tv} {k x : Key} {i j t : Nat}
theorem Tv.many3 (h : v.rg.n = 3) : v.rg.many = v.kept := by
  unfold Rg.many
  rw [h]
  simp [sumTo, Tv.kept, Tv.len]
theorem Tv.Fit.kept (h : v.Fit) : v.kept ≤ v.most + 1 := by
  have := h.wf.many
  rw [Tv.many3 h.n, h.pl] at this
  exact this
theorem Tv.Ok.kept (h : v.Ok) : v.kept ≤ v.most := by
  have := h.win
  have := h.bk
  unfold Tv.kept
  omega
theorem Tv.Fit.nd (h : v.Fit) (hi : i < 3) : (v.rg.l i).Nodup := h.wf.nd i (by rw [h.n]; exact hi)
theorem Tv.Fit.dj (h : v.Fit) (hi : i < 3) (hj : j < 3) (h1 : k ∈ v.rg.l i) (h2 : k ∈ v.rg.l j) : i = j := h.wf.dj i j k (by rw [h.n]; exact hi) (by rw [h.n]; exact hj) h1 h2
theorem Tv.Fit.klen (h : v.Fit) (hi : i < 3) (h1 : k ∈ v.rg.l i) : k.length ≤ 64 := h.wf.len i k (by rw [h.n]; exact hi) h1
theorem Tv.Fit.len_le (h : v.Fit) (hi : i < 3) : v.len i ≤ 1001 := by
  have h1 := h.kept
  have h2 := h.m2
  unfold Tv.kept at h1
  rcases (by omega : i = 0 ∨ i = 1 ∨ i = 2) with rfl | rfl | rfl <;> omega
theorem Tv.mem_dr : x ∈ (v.dr k).rg.l t ↔ x ∈ v.rg.l t ∧ x ≠ k := strike_mem
theorem Tv.mem_fr : x ∈ (v.fr j k).rg.l t ↔ (x ∈ v.rg.l t ∧ x ≠ k) ∨ (t = j ∧ x = k) := by
  show x ∈ (if t = j then k :: strike k (v.rg.l t) else strike k (v.rg.l t)) ↔ _
  by_cases e : t = j
  · rw [if_pos e, List.mem_cons, strike_mem]
    constructor
    · rintro (h | h)
      · exact .inr ⟨e, h⟩
      · exact .inl h
    · rintro (h | h)
      · exact .inr h
      · exact .inl h.2
  · rw [if_neg e, strike_mem]
    constructor
    · exact .inl
    · rintro (h | h)
      · exact h
      · exact absurd h.1 e
theorem Tv.dr_le : (v.dr k).len t ≤ v.len t := List.length_filter_le _ _
theorem Tv.dr_len (h : v.Fit) (hi : i < 3) (hk : k ∈ v.rg.l i) (ht : t < 3) : (v.dr k).len t + (if t = i then 1 else 0) = v.len t := by
  by_cases e : t = i
  · subst e
    rw [if_pos rfl]
    exact strike_length (h.nd hi) hk
  · rw [if_neg e]
    show (strike k (v.rg.l t)).length + 0 = (v.rg.l t).length
    rw [strike_of_not (fun hm => e (h.dj ht hi hm hk)), Nat.add_zero]
theorem Tv.dr_no (hk : ∀ t, t < 3 → k ∉ v.rg.l t) (ht : t < 3) : (v.dr k).len t = v.len t := by
  show (strike k (v.rg.l t)).length = (v.rg.l t).length
  rw [strike_of_not (hk t ht)]
theorem Tv.fr_len : (v.fr j k).len t = (v.dr k).len t + (if t = j then 1 else 0) := by
  show (if t = j then k :: strike k (v.rg.l t) else strike k (v.rg.l t)).length = (strike k (v.rg.l t)).length + _
  by_cases e : t = j
  · rw [if_pos e, if_pos e]; rfl
  · rw [if_neg e, if_neg e]; rfl
/-- What a key's going from list i to list j makes of the lists' lengths. -/
theorem Tv.move_len (h : v.Fit) (hi : i < 3) (hk : k ∈ v.rg.l i) (ht : t < 3) : (v.fr j k).len t + (if t = i then 1 else 0) = v.len t + (if t = j then 1 else 0) := by
  have h1 := Tv.dr_len h hi hk ht
  rw [Tv.fr_len]
  omega
theorem Tv.new_len (hk : ∀ t, t < 3 → k ∉ v.rg.l t) (ht : t < 3) : (v.fr j k).len t = v.len t + (if t = j then 1 else 0) := by
  rw [Tv.fr_len, Tv.dr_no hk ht]
theorem Tv.Fit.dr (h : v.Fit) (k : Key) : (v.dr k).Fit := ⟨h.wf.drop k, h.sw, h.n, h.pl, h.m1, h.m2, h.wd⟩
theorem Tv.Ok.dr (h : v.Ok) (k : Key) : (v.dr k).Ok := by
  have h0 := Tv.dr_le (v := v) (k := k) (t := 0)
  have h1 := Tv.dr_le (v := v) (k := k) (t := 1)
  have h2 := Tv.dr_le (v := v) (k := k) (t := 2)
  have a := h.win
  have b := h.bk
  have c := h.sf
  refine ⟨h.fit.dr k, ?_, ?_, ?_⟩
  · show (v.dr k).len 0 ≤ wMost v.most; omega
  · show (v.dr k).len 1 + (v.dr k).len 2 + wMost v.most ≤ v.most; omega
  · show (v.dr k).len 2 ≤ sMost v.most; omega
/-- A key is in, or there is a place for it. -/
def Tv.can (v : Tv) (k : Key) : Prop := v.rg.has k ∨ v.rg.many < v.rg.places
theorem Tv.Fit.in_ (_ : v.Fit) (hn : v.rg.n = 3) (hi : i < 3) (hk : k ∈ v.rg.l i) : v.can k := .inl ⟨i, by rw [hn]; exact hi, hk⟩
theorem Tv.Fit.room (h : v.Fit) (hk : v.kept ≤ v.most) : v.can k := .inr (by rw [Tv.many3 h.n, h.pl]; omega)
theorem Tv.Fit.place (h : v.Fit) (hc : v.can k) : (v.rg.drop k).many < v.rg.places := by
  rcases hc with ⟨i, hi, hk⟩ | hc
  · have := Rg.many_drop h.wf hi hk
    have := h.wf.many
    omega
  · by_cases hin : ∃ i, i < v.rg.n ∧ k ∈ v.rg.l i
    · obtain ⟨i, hi, hk⟩ := hin
      have := Rg.many_drop h.wf hi hk
      omega
    · have : (v.rg.drop k).many = v.rg.many := sumTo_congr _ fun t ht => by
        show ((v.rg.drop k).l t).length = _
        rw [Rg.drop_not (fun i hi hk => hin ⟨i, hi, hk⟩) t ht]
      omega
theorem Tv.Fit.fr (h : v.Fit) (hj : j < 3) (hk : k.length ≤ 64) (hc : v.can k) : (v.fr j k).Fit :=
  ⟨(h.wf.drop k).push (by show j < v.rg.n; rw [h.n]; exact hj) (fun i _ hx => (strike_mem.1 hx).2 rfl) hk (h.place hc), h.sw, h.n, h.pl, h.m1, h.m2, h.wd⟩
theorem Tv.note_len : (v.note k).len t = v.len t := rfl
theorem Tv.Fit.note (h : v.Fit) (k : Key) : (v.note k).Fit :=
  ⟨h.wf, h.sw.add, h.n, h.pl, h.m1, h.m2, (Sketchy.Sk.add_fix (s := v.sk) (ks := v.ks k)).1.trans h.wd⟩
theorem Tv.Ok.note (h : v.Ok) (k : Key) : (v.note k).Ok := ⟨h.fit.note k, h.win, h.bk, h.sf⟩
theorem Tv.last_some (h : v.last i = some k) : ∃ s, v.rg.l i = s ++ [k] := List.getLast?_eq_some_iff.1 h
theorem Tv.last_none (h : v.last i = none) : v.rg.l i = [] := List.getLast?_eq_none_iff.1 h
theorem Tv.last_mem (h : v.last i = some k) : k ∈ v.rg.l i := by obtain ⟨s, e⟩ := Tv.last_some h; rw [e]; simp
theorem Tv.last_of (h : 0 < v.len i) : ∃ k, v.last i = some k := by
  cases e : v.last i with
  | none => have := Tv.last_none e; unfold Tv.len at h; rw [this] at h; cases h
  | some k => exact ⟨k, rfl⟩
theorem Tv.at_none (h : v.at_ k = none) : ∀ t, t < 3 → k ∉ v.rg.l t := by
  unfold Tv.at_ at h
  intro t ht
  split at h
  · cases h
  · split at h
    · cases h
    · split at h
      · cases h
      · rcases (by omega : t = 0 ∨ t = 1 ∨ t = 2) with rfl | rfl | rfl <;> assumption
theorem Tv.at_some (h : v.at_ k = some i) : i < 3 ∧ k ∈ v.rg.l i := by
  unfold Tv.at_ at h
  split at h
  · cases h; exact ⟨by omega, by assumption⟩
  · split at h
    · cases h; exact ⟨by omega, by assumption⟩
    · split at h
      · cases h; exact ⟨by omega, by assumption⟩
      · cases h
theorem Tv.has_iff : v.has k = true ↔ ∃ i, i < 3 ∧ k ∈ v.rg.l i := by
  unfold Tv.has
  cases e : v.at_ k with
  | none =>
    constructor
    · intro h; cases h
    · rintro ⟨i, hi, h⟩; exact absurd h (Tv.at_none e i hi)
  | some i =>
    constructor
    · intro _; exact ⟨i, Tv.at_some e⟩
    · intro _; rfl
theorem Tv.has_of {v : Tv} {x : Key} {b : Bool} (h : (∃ i, i < 3 ∧ x ∈ v.rg.l i) ↔ b = true) : v.has x = b := by
  rw [Bool.eq_iff_iff, Tv.has_iff]
  exact h
theorem Tv.has_no (h : v.has k = false) : ∀ t, t < 3 → k ∉ v.rg.l t := fun t ht hm => by
  have := Tv.has_iff.2 ⟨t, ht, hm⟩
  rw [h] at this
  cases this
theorem Tv.hasB_eq (h : v.rg.n = 3) : v.rg.hasB k = v.has k := by
  rw [Bool.eq_iff_iff, Rg.hasB_iff, Tv.has_iff]
  unfold Rg.has
  rw [h]
theorem Tv.has_dr : (v.dr k).has x = (v.has x && decide (x ≠ k)) := by
  refine Tv.has_of ?_
  rw [Bool.and_eq_true, decide_eq_true_eq, Tv.has_iff]
  constructor
  · rintro ⟨i, hi, h⟩
    exact ⟨⟨i, hi, (Tv.mem_dr.1 h).1⟩, (Tv.mem_dr.1 h).2⟩
  · rintro ⟨⟨i, hi, h⟩, h2⟩
    exact ⟨i, hi, Tv.mem_dr.2 ⟨h, h2⟩⟩
theorem Tv.has_fr (hj : j < 3) : (v.fr j k).has x = (decide (x = k) || v.has x) := by
  refine Tv.has_of ?_
  rw [Bool.or_eq_true, decide_eq_true_eq, Tv.has_iff]
  constructor
  · rintro ⟨i, hi, h⟩
    rcases Tv.mem_fr.1 h with h | h
    · exact .inr ⟨i, hi, h.1⟩
    · exact .inl h.2
  · intro h
    by_cases e : x = k
    · exact ⟨j, hj, Tv.mem_fr.2 (.inr ⟨rfl, e⟩)⟩
    · rcases h with h | ⟨i, hi, h⟩
      · exact absurd h e
      · exact ⟨i, hi, Tv.mem_fr.2 (.inl ⟨h, e⟩)⟩
theorem Tv.has_note : (v.note k).has x = v.has x := rfl
theorem Tv.note_seed : (v.note k).sk.seed = v.sk.seed := (Sketchy.Sk.add_fix (s := v.sk) (ks := v.ks k)).2
theorem Tv.note_wide : (v.note k).sk.wide = v.sk.wide := (Sketchy.Sk.add_fix (s := v.sk) (ks := v.ks k)).1
theorem Tv.note_ks : (v.note k).ks x = v.ks x := by unfold Tv.ks; rw [Tv.note_seed, Tv.note_wide]
theorem Tv.first_cons {l : List Nat} : v.first (i :: l) = match v.last i with | some k => some k | none => v.first l := rfl
theorem Tv.first_mem : ∀ {l : List Nat}, (∀ i ∈ l, i < 3) → v.first l = some k → ∃ i, i < 3 ∧ k ∈ v.rg.l i ∧ i ∈ l
  | [], _, h => by cases h
  | i :: l, hl, h => by
    rw [Tv.first_cons] at h
    cases e : v.last i with
    | some y =>
      rw [e] at h
      cases h
      exact ⟨i, hl i (by simp), Tv.last_mem e, by simp⟩
    | none =>
      rw [e] at h
      obtain ⟨t, ht, hm, hi⟩ := Tv.first_mem (fun i hi => hl i (by simp [hi])) h
      exact ⟨t, ht, hm, by simp [hi]⟩

/-! A key that comes to the safe ones -/
theorem Tv.safe_spec (h : v.Ok) (hi : i = 1 ∨ i = 2) (hk : k ∈ v.rg.l i) : (v.safe k).Ok ∧ (v.safe k).most = v.most ∧ (∀ x, (v.safe k).has x = v.has x) ∧ (sMost v.most < (v.fr 2 k).len 2 → ∃ y, (v.fr 2 k).last 2 = some y ∧ y ∈ (v.fr 2 k).rg.l 2) := by
  have hi3 : i < 3 := by omega
  have hf := h.fit.fr (j := 2) (by omega) (h.fit.klen hi3 hk) (h.fit.in_ h.fit.n hi3 hk)
  have l0 := Tv.move_len h.fit (j := 2) hi3 hk (t := 0) (by omega)
  have l1 := Tv.move_len h.fit (j := 2) hi3 hk (t := 1) (by omega)
  have l2 := Tv.move_len h.fit (j := 2) hi3 hk (t := 2) (by omega)
  have a := h.win
  have b := h.bk
  have c := h.sf
  have hm : (v.fr 2 k).most = v.most := rfl
  have e0 : (v.fr 2 k).len 0 = v.len 0 := by
    rcases hi with rfl | rfl <;> simp at l0 <;> exact l0
  have e1 : (v.fr 2 k).len 1 + (v.fr 2 k).len 2 = v.len 1 + v.len 2 := by
    rcases hi with rfl | rfl <;> simp at l1 l2 <;> omega
  have e2 : (v.fr 2 k).len 2 ≤ v.len 2 + 1 := by
    rcases hi with rfl | rfl <;> simp at l2 <;> omega
  have hh : ∀ x, (v.fr 2 k).has x = v.has x := fun x => by
    rw [Tv.has_fr (by omega)]
    by_cases e : x = k
    · subst e
      rw [Tv.has_iff.2 ⟨i, hi3, hk⟩]
      simp
    · simp [e]
  unfold Tv.safe
  by_cases e : sMost v.most < (v.fr 2 k).len 2
  · rw [if_pos e]
    obtain ⟨y, hy⟩ := Tv.last_of (v := v.fr 2 k) (i := 2) (by omega)
    have hym := Tv.last_mem hy
    rw [hy]
    show ((v.fr 2 k).fr 1 y).Ok ∧ _ ∧ _ ∧ _
    have m0 := Tv.move_len hf (j := 1) (by omega) hym (t := 0) (by omega)
    have m1 := Tv.move_len hf (j := 1) (by omega) hym (t := 1) (by omega)
    have m2 := Tv.move_len hf (j := 1) (by omega) hym (t := 2) (by omega)
    simp at m0 m1 m2
    refine ⟨⟨hf.fr (by omega) (hf.klen (by omega) hym) (hf.in_ hf.n (by omega) hym), ?_, ?_, ?_⟩, rfl, fun x => ?_, fun _ => ⟨y, rfl, hym⟩⟩
    · show ((v.fr 2 k).fr 1 y).len 0 ≤ wMost v.most; omega
    · show ((v.fr 2 k).fr 1 y).len 1 + ((v.fr 2 k).fr 1 y).len 2 + wMost v.most ≤ v.most; omega
    · show ((v.fr 2 k).fr 1 y).len 2 ≤ sMost v.most; omega
    · show ((v.fr 2 k).fr 1 y).has x = _
      rw [Tv.has_fr (by omega), hh]
      by_cases e : x = y
      · subst e
        rw [← hh, Tv.has_iff.2 ⟨2, by omega, hym⟩]
        simp
      · simp [e]
  · rw [if_neg e]
    refine ⟨⟨hf, ?_, ?_, ?_⟩, rfl, hh, fun h => absurd h e⟩
    · show (v.fr 2 k).len 0 ≤ wMost v.most; omega
    · show (v.fr 2 k).len 1 + (v.fr 2 k).len 2 + wMost v.most ≤ v.most; omega
    · show (v.fr 2 k).len 2 ≤ sMost v.most; omega
theorem Tv.window_spec (h : v.Ok) (hk : k ∈ v.rg.l 0) : (v.fr 0 k).Ok ∧ (∀ x, (v.fr 0 k).has x = v.has x) := by
  have hf := h.fit.fr (j := 0) (by omega) (h.fit.klen (by omega) hk) (h.fit.in_ h.fit.n (by omega) hk)
  have l0 := Tv.move_len h.fit (j := 0) (by omega) hk (t := 0) (by omega)
  have l1 := Tv.move_len h.fit (j := 0) (by omega) hk (t := 1) (by omega)
  have l2 := Tv.move_len h.fit (j := 0) (by omega) hk (t := 2) (by omega)
  simp at l0 l1 l2
  have a := h.win
  have b := h.bk
  have c := h.sf
  refine ⟨⟨hf, ?_, ?_, ?_⟩, fun x => ?_⟩
  · show (v.fr 0 k).len 0 ≤ wMost v.most; omega
  · show (v.fr 0 k).len 1 + (v.fr 0 k).len 2 + wMost v.most ≤ v.most; omega
  · show (v.fr 0 k).len 2 ≤ sMost v.most; omega
  · rw [Tv.has_fr (by omega)]
    by_cases e : x = k
    · subst e
      rw [Tv.has_iff.2 ⟨0, by omega, hk⟩]
      simp
    · simp [e]
theorem Tv.touch_spec (h : v.Ok) (k : Key) : (v.touch k).Ok ∧ (v.touch k).most = v.most ∧ ∀ x, (v.touch k).has x = v.has x := by
  unfold Tv.touch
  cases e : v.at_ k with
  | none => exact ⟨h, rfl, fun _ => rfl⟩
  | some i =>
    obtain ⟨hi, hm⟩ := Tv.at_some e
    rcases (by omega : i = 0 ∨ i = 1 ∨ i = 2) with rfl | rfl | rfl
    · have := Tv.window_spec (h.note k) hm
      exact ⟨this.1, rfl, this.2⟩
    · have := Tv.safe_spec (h.note k) (.inl rfl) hm
      exact ⟨this.1, this.2.1, this.2.2.1⟩
    · have := Tv.safe_spec (h.note k) (.inr rfl) hm
      exact ⟨this.1, this.2.1, this.2.2.1⟩

/-- What inserting comes to. -/
structure Tv.Ins (v v' : Tv) (g : List Key) (k : Key) : Prop where
  ok : v'.Ok
  most : v'.most = v.most
  has : ∀ x, v'.has x = ((decide (x = k) || v.has x) && decide (x ∉ g))
  glen : g.length ≤ 1
  gsub : ∀ x, x ∈ g → v.has x = true
theorem Tv.came_fit (h : v.Ok) (hk : k.length ≤ 64) : (v.came k).Fit := (h.note k).fit.fr (by omega) hk ((h.note k).fit.room (h.note k).kept)
/-- The last of a window that has too many. -/
structure Tv.Full (v : Tv) (k : Key) (u : Tv) (one : Key) : Prop where
  fit : u.Fit
  most : u.most = v.most
  mem : one ∈ u.rg.l 0
  last : u.last 0 = some one
  old : v.has one = true
  l0 : u.len 0 = wMost u.most + 1
  bk : u.len 1 + u.len 2 + wMost u.most ≤ u.most
  sf : u.len 2 ≤ sMost u.most
  has : ∀ x, u.has x = (decide (x = k) || v.has x)
  new : k ∈ u.rg.l 0
theorem Tv.full_of (h : v.Ok) (hk : k.length ≤ 64) (hno : v.has k = false) (hw : ¬ (v.came k).len 0 ≤ wMost v.most) : ∃ one, v.Full k (v.came k) one := by
  have hn := Tv.has_no hno
  have hf := Tv.came_fit h hk
  have l0 : (v.came k).len 0 = v.len 0 + 1 := Tv.new_len (v := v.note k) (j := 0) hn (t := 0) (by omega)
  have l1 : (v.came k).len 1 = v.len 1 := Tv.new_len (v := v.note k) (j := 0) hn (t := 1) (by omega)
  have l2 : (v.came k).len 2 = v.len 2 := Tv.new_len (v := v.note k) (j := 0) hn (t := 2) (by omega)
  have a := h.win
  have b := h.bk
  have c := h.sf
  have wp := wMost_pos v.most
  have hl : (v.came k).rg.l 0 = k :: v.rg.l 0 := by
    show (if 0 = 0 then k :: strike k (v.rg.l 0) else strike k (v.rg.l 0)) = _
    rw [if_pos rfl, strike_of_not (hn 0 (by omega))]
  have hpos : 0 < v.len 0 := by omega
  obtain ⟨y, hy⟩ := Tv.last_of hpos
  have hy2 : (v.came k).last 0 = some y := by
    obtain ⟨s, hs⟩ := Tv.last_some hy
    unfold Tv.last
    rw [hl, hs, ← List.cons_append, List.getLast?_append]
    rfl
  refine ⟨y, hf, rfl, Tv.last_mem hy2, hy2, Tv.has_iff.2 ⟨0, by omega, Tv.last_mem hy⟩, ?_, ?_, ?_, fun x => ?_, by rw [hl]; simp⟩
  · show (v.came k).len 0 = wMost v.most + 1; omega
  · show (v.came k).len 1 + (v.came k).len 2 + wMost v.most ≤ v.most; omega
  · show (v.came k).len 2 ≤ sMost v.most; omega
  · exact Tv.has_fr (v := v.note k) (by omega)
theorem Tv.Full.kept {u : Tv} {one : Key} (h : v.Full k u one) : u.kept ≤ u.most + 1 := h.fit.kept
theorem Tv.stays_mem {one o : Key} (h : v.stays one = some o) : v.first [1, 2] = some o := by
  unfold Tv.stays at h
  cases e : v.first [1, 2] with
  | none => rw [e] at h; cases h
  | some y =>
    rw [e] at h
    simp only at h
    split at h
    · cases h
    · exact h
theorem Tv.Full.leave {u : Tv} {one : Key} (h : v.Full k u one) : v.Ins u.leave u.leaveK k := by
  unfold Tv.leave Tv.leaveK
  rw [h.last]
  show v.Ins (u.leaveOf one) (u.leaveOfK one) k
  unfold Tv.leaveOf Tv.leaveOfK
  have a := h.l0
  have b := h.bk
  have c := h.sf
  have hm := h.most
  have hkl := h.fit.klen (by omega) h.mem
  by_cases e1 : u.kept ≤ u.most
  · rw [if_pos e1, if_pos e1]
    have l0 := Tv.move_len h.fit (j := 1) (by omega) h.mem (t := 0) (by omega)
    have l1 := Tv.move_len h.fit (j := 1) (by omega) h.mem (t := 1) (by omega)
    have l2 := Tv.move_len h.fit (j := 1) (by omega) h.mem (t := 2) (by omega)
    simp at l0 l1 l2
    unfold Tv.kept at e1
    refine ⟨⟨h.fit.fr (by omega) hkl (h.fit.in_ h.fit.n (by omega) h.mem), ?_, ?_, ?_⟩, hm, fun x => ?_, by simp, fun x hx => by cases hx⟩
    · show (u.fr 1 one).len 0 ≤ wMost u.most; omega
    · show (u.fr 1 one).len 1 + (u.fr 1 one).len 2 + wMost u.most ≤ u.most; omega
    · show (u.fr 1 one).len 2 ≤ sMost u.most; omega
    · rw [Tv.has_fr (by omega), h.has]
      by_cases e : x = one
      · subst e; rw [h.old]; simp
      · simp [e]
  · rw [if_neg e1, if_neg e1]
    cases e2 : u.stays one with
    | none =>
      show v.Ins (u.dr one) [one] k
      have l0 := Tv.dr_len h.fit (by omega) h.mem (t := 0) (by omega)
      have l1 := Tv.dr_len h.fit (by omega) h.mem (t := 1) (by omega)
      have l2 := Tv.dr_len h.fit (by omega) h.mem (t := 2) (by omega)
      simp at l0 l1 l2
      refine ⟨⟨h.fit.dr one, ?_, ?_, ?_⟩, hm, fun x => ?_, by simp, fun x hx => by rw [List.mem_singleton.1 hx]; exact h.old⟩
      · show (u.dr one).len 0 ≤ wMost u.most; omega
      · show (u.dr one).len 1 + (u.dr one).len 2 + wMost u.most ≤ u.most; omega
      · show (u.dr one).len 2 ≤ sMost u.most; omega
      · rw [Tv.has_dr, h.has]
        simp only [List.mem_singleton]
    | some o =>
      show v.Ins ((u.dr o).fr 1 one) [o] k
      obtain ⟨i, hi, hmo, hil⟩ := Tv.first_mem (by simp) (Tv.stays_mem e2)
      have hi12 : i = 1 ∨ i = 2 := by simpa using hil
      have hoo : one ≠ o := fun e => by subst e; have := h.fit.dj hi (by omega) hmo h.mem; omega
      have hok : o ≠ k ∧ v.has o = true := by
        have hu := Tv.has_iff.2 ⟨i, hi, hmo⟩
        rw [h.has] at hu
        have hko : o ≠ k := fun e => by
          subst e
          have := h.fit.dj hi (by omega) hmo h.new
          omega
        refine ⟨hko, by simpa [hko] using hu⟩
      have hmem2 : one ∈ (u.dr o).rg.l 0 := Tv.mem_dr.2 ⟨h.mem, hoo⟩
      have d0 := Tv.dr_len h.fit hi hmo (t := 0) (by omega)
      have d1 := Tv.dr_len h.fit hi hmo (t := 1) (by omega)
      have d2 := Tv.dr_len h.fit hi hmo (t := 2) (by omega)
      have hf2 := h.fit.dr o
      have l0 := Tv.move_len hf2 (j := 1) (by omega) hmem2 (t := 0) (by omega)
      have l1 := Tv.move_len hf2 (j := 1) (by omega) hmem2 (t := 1) (by omega)
      have l2 := Tv.move_len hf2 (j := 1) (by omega) hmem2 (t := 2) (by omega)
      simp at l0 l1 l2
      refine ⟨⟨hf2.fr (by omega) hkl (hf2.in_ hf2.n (by omega) hmem2), ?_, ?_, ?_⟩, hm, fun x => ?_, by simp, fun x hx => by rw [List.mem_singleton.1 hx]; exact hok.2⟩
      · show ((u.dr o).fr 1 one).len 0 ≤ wMost u.most
        rcases hi12 with rfl | rfl <;> simp at d0 d1 d2 <;> omega
      · show ((u.dr o).fr 1 one).len 1 + ((u.dr o).fr 1 one).len 2 + wMost u.most ≤ u.most
        rcases hi12 with rfl | rfl <;> simp at d0 d1 d2 <;> omega
      · show ((u.dr o).fr 1 one).len 2 ≤ sMost u.most
        rcases hi12 with rfl | rfl <;> simp at d0 d1 d2 <;> omega
      · rw [Tv.has_fr (by omega), Tv.has_dr, h.has]
        simp only [List.mem_singleton]
        by_cases e : x = one
        · subst e; rw [h.old]; simp [hoo]
        · simp [e]
theorem Tv.ins_spec (h : v.Ok) (hk : k.length ≤ 64) : v.Ins (v.ins k) (v.insK k) k := by
  unfold Tv.ins Tv.insK
  by_cases e : v.has k = true
  · rw [if_pos e, if_pos e]
    have := Tv.touch_spec h k
    refine ⟨this.1, this.2.1, fun x => ?_, by simp, fun x hx => by cases hx⟩
    rw [this.2.2]
    by_cases e2 : x = k
    · subst e2; rw [e]; simp
    · simp [e2]
  · rw [if_neg e, if_neg e]
    rw [Bool.not_eq_true] at e
    have hn := Tv.has_no e
    have hf := Tv.came_fit h hk
    have l0 : (v.came k).len 0 = v.len 0 + 1 := Tv.new_len (v := v.note k) (j := 0) hn (t := 0) (by omega)
    have l1 : (v.came k).len 1 = v.len 1 := Tv.new_len (v := v.note k) (j := 0) hn (t := 1) (by omega)
    have l2 : (v.came k).len 2 = v.len 2 := Tv.new_len (v := v.note k) (j := 0) hn (t := 2) (by omega)
    unfold Tv.fresh Tv.freshK
    by_cases hw : (v.came k).len 0 ≤ wMost v.most
    · rw [if_pos hw, if_pos hw]
      have b := h.bk
      have c := h.sf
      refine ⟨⟨hf, hw, ?_, ?_⟩, rfl, fun x => ?_, by simp, fun x hx => by cases hx⟩
      · show (v.came k).len 1 + (v.came k).len 2 + wMost v.most ≤ v.most; omega
      · show (v.came k).len 2 ≤ sMost v.most; omega
      · rw [show (v.came k).has x = _ from Tv.has_fr (v := v.note k) (by omega)]
        simp [Tv.has_note]
    · rw [if_neg hw, if_neg hw]
      obtain ⟨one, hF⟩ := Tv.full_of h hk e hw
      exact hF.leave
theorem Tv.insert_ok (h : v.Ok) (k : Key) : (v.insert k).Ok ∧ (v.insert k).most = v.most := by
  unfold Tv.insert
  split
  · exact ⟨h, rfl⟩
  · have := Tv.ins_spec h (k := k) (by omega)
    exact ⟨this.ok, this.most⟩
theorem Tv.miss_ok (h : v.Ok) (k : Key) : (v.miss k).Ok ∧ (v.miss k).most = v.most := by
  unfold Tv.miss
  split
  · exact ⟨h, rfl⟩
  · exact ⟨h.note k, rfl⟩
theorem Tv.goes_mem (h : v.goes = some k) : ∃ i, i < 3 ∧ k ∈ v.rg.l i := by
  obtain ⟨i, hi, hm, -⟩ := Tv.first_mem (by simp) h
  exact ⟨i, hi, hm⟩
theorem Tv.evict_ok (h : v.Ok) : v.evict.Ok ∧ v.evict.most = v.most := by
  unfold Tv.evict
  split
  · exact ⟨h, rfl⟩
  · exact ⟨h.dr _, rfl⟩
theorem wideOf_le {c : Nat} (h : 1 ≤ c) : 1 ≤ wideOf c ∧ wideOf c ≤ 4096 := by unfold wideOf; omega
theorem Tv.new_ok {n seed : Nat} (h1 : 1 ≤ n) (h2 : n ≤ 1000) (h3 : seed < 18446744073709551616) : (Tv.new n seed).Ok := by
  have hw := wideOf_le h1
  have hm := wMost_le h1
  refine ⟨⟨Rg.new_wf (by omega) (by omega) (by omega), Sketchy.Sk.new_wf hw.1 hw.2 h3, rfl, rfl, h1, h2, rfl⟩, Nat.zero_le _, ?_, Nat.zero_le _⟩
  show 0 + 0 + wMost n ≤ n
  omega
/-- How many are kept, by a list of all that are. -/
theorem len_sub : ∀ {a b : List Key}, a.Nodup → b.Nodup → (∀ x, x ∈ a → x ∈ b) → a.length ≤ b.length
  | [], _, _, _, _ => Nat.zero_le _
  | x :: a, b, ha, hb, h => by
    have hx := h x (by simp)
    have h1 := strike_length hb hx
    have h2 := len_sub (b := strike x b) (List.nodup_cons.1 ha).2 (strike_nodup hb) (fun y hy => strike_mem.2 ⟨h y (by simp [hy]), fun e => (List.nodup_cons.1 ha).1 (e ▸ hy)⟩)
    simp only [List.length_cons]
    omega
theorem Tv.kept_of (h : v.Fit) {l : List Key} (hl : l.Nodup) (hm : ∀ x, x ∈ l ↔ v.has x = true) : v.kept = l.length := by
  have hnd : (v.rg.l 0 ++ (v.rg.l 1 ++ v.rg.l 2)).Nodup := by
    refine List.nodup_append.2 ⟨h.nd (by omega), List.nodup_append.2 ⟨h.nd (by omega), h.nd (by omega), fun a ha b hb e => by have := h.dj (by omega) (by omega) ha (e ▸ hb); omega⟩, fun a ha b hb e => ?_⟩
    rcases List.mem_append.1 hb with hb | hb
    · have := h.dj (by omega) (by omega) ha (e ▸ hb); omega
    · have := h.dj (by omega) (by omega) ha (e ▸ hb); omega
  have hk : v.kept = (v.rg.l 0 ++ (v.rg.l 1 ++ v.rg.l 2)).length := by rw [List.length_append, List.length_append]; unfold Tv.kept Tv.len; omega
  have hmem : ∀ x, x ∈ v.rg.l 0 ++ (v.rg.l 1 ++ v.rg.l 2) ↔ v.has x = true := fun x => by
    rw [List.mem_append, List.mem_append, Tv.has_iff]
    constructor
    · rintro (h | h | h)
      · exact ⟨0, by omega, h⟩
      · exact ⟨1, by omega, h⟩
      · exact ⟨2, by omega, h⟩
    · rintro ⟨i, hi, h⟩
      rcases (by omega : i = 0 ∨ i = 1 ∨ i = 2) with rfl | rfl | rfl
      · exact .inl h
      · exact .inr (.inl h)
      · exact .inr (.inr h)
  rw [hk]
  exact Nat.le_antisymm (len_sub hnd hl fun x hx => (hm x).2 ((hmem x).1 hx)) (len_sub hl hnd fun x hx => (hmem x).2 ((hm x).1 hx))
end
end Go.Proofs.YtgfpedcdclgmiaaGreat.Tinyy

namespace Go.Proofs.YtgfpedcdclgmiaaGreat.Tinyy
open Go.ChangeShapes Go.WideShapes Go.ChangeAt Go.RowKit
open Wirey (Blk Row str str_size str_list Kp)
open Ringy
open Sketchy (Sk ksOf Six)

/-- What a step may turn: the rings' blocks, and the sketch's six. -/
structure StepT (B : Nat) (w : World) (m : Rm) (w' : World) (m' : Rm) : Prop where
  kp : Kp (fun b => m.own b ∨ Six B b) w w'
  own : ∀ b, m'.own b → m.own b ∨ w.heap.size ≤ b
structure HeldT (w0 : World) (A B P : Nat) (w : World) (m : Rm) (v : Tv) : Prop where
  h : Held w0 P w m v.rg
  sk : Sketchy.At w B v.sk
  box : Blk w A 58 #[.int .i64 (v.most : Int), .pointer (some ⟨B + 1, 0, none⟩), .pointer (some ⟨P, 0, none⟩)]
  loA : w0.heap.size ≤ A
  loB : w0.heap.size ≤ B
  no : ¬ m.own A
  six : ∀ b, Six B b → b ≠ A ∧ ¬ m.own b
  fit : v.Fit
section
variable {w0 w w' w'' : World} {A B P : Nat} {m m' m'' : Rm} {v : Tv} {k : Key}
theorem at_six {s : Sk} (h : Sketchy.At w B s) (hb : ∀ b, Six B b → w'.heap[b]? = w.heap[b]?) : Sketchy.At w' B s :=
  ⟨(hb _ ⟨by omega, by omega⟩).trans h.hd, (hb _ ⟨by omega, by omega⟩).trans h.door, fun i hi => (hb _ ⟨by omega, by omega⟩).trans (h.row i hi)⟩
theorem StepT.refl (B : Nat) (w : World) (m : Rm) : StepT B w m w m := ⟨Kp.refl _ _, fun _ h => .inl h⟩
theorem StepT.trans (h : StepT B w m w' m') (h' : StepT B w' m' w'' m'') : StepT B w m w'' m'' := by
  refine ⟨⟨h'.kp.os.trans h.kp.os, h'.kp.tape.trans h.kp.tape, h'.kp.output.trans h.kp.output, Nat.le_trans h.kp.size h'.kp.size, fun k hk hn => ?_⟩, fun b hb => ?_⟩
  · refine (h'.kp.block k (Nat.lt_of_lt_of_le hk h.kp.size) (fun ho => ?_)).trans (h.kp.block k hk hn)
    rcases ho with ho | ho
    · rcases h.own k ho with h1 | h1
      · exact hn (.inl h1)
      · omega
    · exact hn (.inr ho)
  · rcases h'.own b hb with h1 | h1
    · exact h.own b h1
    · exact .inr (Nat.le_trans h.kp.size h1)
theorem StepT.of (h : Step w m w' m') : StepT B w m w' m' := ⟨⟨h.kp.os, h.kp.tape, h.kp.output, h.kp.size, fun k hk hn => h.kp.block k hk (fun ho => hn (.inl ho))⟩, h.own⟩
theorem StepT.ofSix (h : Kp (Six B) w w') : StepT B w m w' m := ⟨⟨h.os, h.tape, h.output, h.size, fun k hk hn => h.block k hk (fun ho => hn (.inr ho))⟩, fun _ h => .inl h⟩
theorem StepT.later {C : Nat} (h : StepT B w m w' m') (hb : Below C w' w'') (hC : w'.heap.size ≤ C) : StepT B w m w'' m' :=
  ⟨⟨hb.os.trans h.kp.os, hb.tape.trans h.kp.tape, hb.output.trans h.kp.output, Nat.le_trans h.kp.size hb.size, fun k hk hn => (hb.block k (by have := h.kp.size; omega)).trans (h.kp.block k hk hn)⟩, h.own⟩
theorem StepT.alloc (h : StepT B w m w' m') (o : Obj) : StepT B w m (w'.alloc o) m' := h.later ((Below.refl _ w').alloc (Nat.le_refl _) o) (Nat.le_refl _)
theorem StepT.drewN (h : StepT B w m w' m') (n : Nat) : StepT B w m (w'.drewN n) m' := ⟨⟨h.kp.os, h.kp.tape, h.kp.output, h.kp.size, h.kp.block⟩, h.own⟩
theorem StepT.drew (h : StepT B w m w' m') : StepT B w m w'.drew m' := h.drewN 1
theorem StepT.undrew (h : StepT B w.drew m w' m') : StepT B w m w' m' := ⟨⟨h.kp.os, h.kp.tape, h.kp.output, h.kp.size, h.kp.block⟩, h.own⟩
theorem HeldT.lt (h : HeldT w0 A B P w m v) : A < w.heap.size := h.box.lt
theorem HeldT.later {C : Nat} (h : HeldT w0 A B P w m v) (hb : Below C w w') (hC : w.heap.size ≤ C) : HeldT w0 A B P w' m v :=
  ⟨h.h.later hb hC, at_six h.sk (fun b hb2 => hb.block b (by have := h.sk.lt; have := hb2.2; omega)), h.box.below hb (Nat.lt_of_lt_of_le h.lt hC), h.loA, h.loB, h.no, h.six, h.fit⟩
theorem HeldT.alloc (h : HeldT w0 A B P w m v) (o : Obj) : HeldT w0 A B P (w.alloc o) m v := h.later ((Below.refl _ w).alloc (Nat.le_refl _) o) (Nat.le_refl _)
theorem HeldT.drewN (h : HeldT w0 A B P w m v) (n : Nat) : HeldT w0 A B P (w.drewN n) m v := ⟨h.h.drewN n, h.sk.drewN n, h.box, h.loA, h.loB, h.no, h.six, h.fit⟩
theorem HeldT.drew (h : HeldT w0 A B P w m v) : HeldT w0 A B P w.drew m v := h.drewN 1
theorem HeldT.below (h : HeldT w0 A B P w m v) : Below w0.heap.size w0 w := h.h.below
/-- Other memory of the call's own turns. -/
theorem HeldT.kp {O : Nat → Prop} (h : HeldT w0 A B P w m v) (hk : Kp O w w') (hO : ∀ b, O b → w0.heap.size ≤ b ∧ ¬ m.own b ∧ b ≠ A ∧ ¬ Six B b) : HeldT w0 A B P w' m v :=
  ⟨h.h.kp hk (fun b hb => ⟨(hO b hb).1, (hO b hb).2.1⟩), at_six h.sk (fun b hb => hk.block b (by have := h.sk.lt; have := hb.2; omega) (fun ho => (hO b ho).2.2.2 hb)), (hk.block A h.lt (fun ho => (hO A ho).2.2.1 rfl)).trans h.box, h.loA, h.loB, h.no, h.six, h.fit⟩
theorem HeldT.step {r' : Rg} (h : HeldT w0 A B P w m v) (hH : Held w0 P w' m' r') (hS : Step w m w' m') (hf : Tv.Fit { v with rg := r' }) : HeldT w0 A B P w' m' { v with rg := r' } :=
  ⟨hH, at_six h.sk (fun b hb => hS.kp.block b (by have := h.sk.lt; have := hb.2; omega) (h.six b hb).2), (hS.kp.block A h.lt h.no).trans h.box, h.loA, h.loB, fun ho => by
    rcases hS.own A ho with h1 | h1
    · exact h.no h1
    · have := h.lt; omega, fun b hb => ⟨(h.six b hb).1, fun ho => by
      rcases hS.own b ho with h1 | h1
      · exact (h.six b hb).2 h1
      · have := h.sk.lt; have := hb.2; omega⟩, hf⟩
/-- The sketch turns. -/
theorem HeldT.skStep {s' : Sk} (h : HeldT w0 A B P w m v) (hA : Sketchy.At w' B s') (hK : Kp (Six B) w w') (hf : Tv.Fit { v with sk := s' }) : HeldT w0 A B P w' m { v with sk := s' } :=
  ⟨h.h.kp hK (fun b hb => ⟨Nat.le_trans h.loB hb.1, (h.six b hb).2⟩), hA, (hK.block A h.lt (fun ho => (h.six A ho).1 rfl)).trans h.box, h.loA, h.loB, h.no, h.six, hf⟩
theorem HeldT.cells (h : HeldT w0 A B P w m v) : w.cell? ⟨A, 0, none⟩ = some (.int .i64 (v.most : Int)) ∧ w.cell? ⟨A, 1, none⟩ = some (.pointer (some ⟨B + 1, 0, none⟩)) ∧ w.cell? ⟨A, 2, none⟩ = some (.pointer (some ⟨P, 0, none⟩)) :=
  ⟨by rw [h.box.cell 0]; rfl, by rw [h.box.cell 1]; rfl, by rw [h.box.cell 2]; rfl⟩

/-! The rings -/
theorem len_t {i : Nat} (hi : i < 3) (h : HeldT w0 A B P w m v) :
    Calls Tryz.prog 55 #[.pointer (some ⟨P, 0, none⟩), .int .i64 (i : Int)] w fun e w' => e = .returned (.int .i64 (v.len i : Int)) ∧ w = w' := len_h i (by rw [h.fit.n]; exact hi) h.h
theorem in_some {i : Nat} (hk : k.length ≤ maxLen) (e : v.at_ k = some i) (h : HeldT w0 A B P w m v) :
    Calls Tryz.prog 40 #[.pointer (some ⟨P, 0, none⟩), .string (str k)] w fun e w' => e = .returned (.tuple #[.int .i64 (i : Int), .bool true]) ∧ w = w' := by
  obtain ⟨hi, hm⟩ := Tv.at_some e
  have hR := h.h.R
  subst hR
  exact flip (in_yes' hk w h.h.at_ (by rw [h.fit.n]; exact hi) hm)
theorem in_none (hk : k.length ≤ maxLen) (e : v.at_ k = none) (h : HeldT w0 A B P w m v) :
    Calls Tryz.prog 40 #[.pointer (some ⟨P, 0, none⟩), .string (str k)] w fun e w' => e = .returned (.tuple #[.int .i64 0, .bool false]) ∧ w = w' := by
  have hR := h.h.R
  subst hR
  refine flip (in_no' hk w h.h.at_ ?_)
  rintro ⟨i, hi, hm⟩
  rw [h.fit.n] at hi
  exact Tv.at_none e i hi hm
theorem front_t {j : Nat} (hj : j < 3) (hk : k.length ≤ 64) (hc : v.can k) (h : HeldT w0 A B P w m v) :
    Calls Tryz.prog 54 #[.pointer (some ⟨P, 0, none⟩), .int .i64 (j : Int), .string (str k)] w fun e w' => e = .returned (.bool true) ∧ ∃ m', HeldT w0 A B P w' m' (v.fr j k) ∧ StepT B w m w' m' := by
  have hR := h.h.R
  subst hR
  refine (front_yes (by rw [h.fit.n]; exact hj) hk w h.h.at_ hc).mono ?_
  rintro e w' ⟨rfl, m', hA, hS⟩
  exact ⟨rfl, m', h.step (h.h.step hA hS) hS (h.fit.fr hj hk hc), StepT.of hS⟩
theorem drop_t (hk : k.length ≤ maxLen) (h : HeldT w0 A B P w m v) :
    Calls Tryz.prog 65 #[.pointer (some ⟨P, 0, none⟩), .string (str k)] w fun e w' => e = .returned (.bool (v.has k)) ∧ ∃ m', HeldT w0 A B P w' m' (v.dr k) ∧ StepT B w m w' m' := by
  refine (drop_h hk h.h).mono ?_
  rintro e w' ⟨rfl, m', hA, hS⟩
  rw [Tv.hasB_eq h.fit.n]
  exact ⟨rfl, m', h.step hA hS (h.fit.dr k), StepT.of hS⟩
theorem back_some {i : Nat} (hi : i < 3) (e : v.last i = some k) (h : HeldT w0 A B P w m v) :
    Calls Tryz.prog 97 #[.pointer (some ⟨P, 0, none⟩), .int .i64 (i : Int)] w fun e w' => e = .returned (.tuple #[.string (str k), .bool true]) ∧ w = w' := by
  obtain ⟨s, hs⟩ := Tv.last_some e
  have hR := h.h.R
  subst hR
  exact flip (back_yes w h.h.at_ (by rw [h.fit.n]; exact hi) hs)
theorem back_empty {i : Nat} (hi : i < 3) (e : v.last i = none) (h : HeldT w0 A B P w m v) :
    Calls Tryz.prog 97 #[.pointer (some ⟨P, 0, none⟩), .int .i64 (i : Int)] w fun e w' => e = .returned (.tuple #[.string ⟨#[]⟩, .bool false]) ∧ w = w' := by
  have hR := h.h.R
  subst hR
  exact flip (back_none w h.h.at_ (by rw [h.fit.n]; exact hi) (Tv.last_none e))

/-! The sketch -/
theorem note_t (hk : k.length ≤ 1099511627776) (h : HeldT w0 A B P w m v) :
    Calls Tryz.prog 53 #[.pointer (some ⟨B + 1, 0, none⟩), .string (str k)] w fun e w' => e = .returned (.tuple #[]) ∧ HeldT w0 A B P w' m (v.note k) ∧ StepT B w m w' m := by
  refine (Sketchy.add_c k hk w h.sk h.fit.sw).mono ?_
  rintro e w' ⟨rfl, hA, hK⟩
  exact ⟨rfl, h.skStep hA hK (h.fit.note k), StepT.ofSix hK⟩
theorem seen_t (hk : k.length ≤ 1099511627776) (h : HeldT w0 A B P w m v) :
    Calls Tryz.prog 42 #[.pointer (some ⟨B + 1, 0, none⟩), .string (str k)] w fun e w' => e = .returned (.int .i64 (v.seen k : Int)) ∧ ∃ n, w' = w.drewN n := Sketchy.seen_c k hk w h.sk h.fit.sw.pre

/-! Its own small functions -/
theorem made_c (h : HeldT w0 A B P w m v) :
    Calls Tryz.prog 39 #[.pointer (some ⟨A, 0, none⟩)] w fun e w' => e = .returned (.bool true) ∧ w = w' := by
  obtain ⟨c0, c1, c2⟩ := h.cells
  clear h
  go_enter Tryz.func39, Tryz.ntmps39
  go_wp2_with fail
  go_ret
  exact ⟨rfl, rfl⟩
theorem made_nil (w : World) :
    Calls Tryz.prog 39 #[.pointer none] w fun e w' => e = .returned (.bool false) ∧ w = w' := by
  go_enter Tryz.func39, Tryz.ntmps39
  go_wp2_with fail
  go_ret
  exact ⟨rfl, rfl⟩
theorem has_t (hk : k.length ≤ maxLen) (h : HeldT w0 A B P w m v) :
    Calls Tryz.prog 10 #[.pointer (some ⟨A, 0, none⟩), .string (str k)] w fun e w' => e = .returned (.bool (v.has k)) ∧ w = w' := by
  have hm := made_c h
  obtain ⟨c0, c1, c2⟩ := h.cells
  cases e : v.at_ k with
  | none =>
    have hi := in_none hk e h
    have ha : v.has k = false := by unfold Tv.has; rw [e]; rfl
    rw [ha]
    clear h ha e
    go_enter Tryz.func10, Tryz.ntmps10
    go_wp2_with fail
    refine hm.mono ?_
    rintro e w' ⟨rfl, rfl⟩
    go_wp2_with fail
    refine hi.mono ?_
    rintro e w' ⟨rfl, rfl⟩
    go_wp2_with fail
    go_ret
    exact ⟨rfl, rfl⟩
  | some i =>
    have hi := in_some hk e h
    have ha : v.has k = true := by unfold Tv.has; rw [e]; rfl
    rw [ha]
    clear h ha e
    go_enter Tryz.func10, Tryz.ntmps10
    go_wp2_with fail
    refine hm.mono ?_
    rintro e w' ⟨rfl, rfl⟩
    go_wp2_with fail
    refine hi.mono ?_
    rintro e w' ⟨rfl, rfl⟩
    go_wp2_with fail
    go_ret
    exact ⟨rfl, rfl⟩
def sum3 (x0 x1 x2 : Nat) : Nat → Nat
  | 0 => 0
  | 1 => x0
  | 2 => x0 + x1
  | _ => x0 + x1 + x2
set_option maxHeartbeats 1000000 in
theorem lenT_c (h : HeldT w0 A B P w m v) :
    Calls Tryz.prog 26 #[.pointer (some ⟨A, 0, none⟩)] w fun e w' => e = .returned (.int .i64 (v.kept : Int)) ∧ w = w' := by
  have hm := made_c h
  obtain ⟨c0, c1, c2⟩ := h.cells
  have hl0 := len_t (i := 0) (by omega) h
  have hl1 := len_t (i := 1) (by omega) h
  have hl2 := len_t (i := 2) (by omega) h
  have z0 := h.fit.len_le (i := 0) (by omega)
  have z1 := h.fit.len_le (i := 1) (by omega)
  have z2 := h.fit.len_le (i := 2) (by omega)
  unfold Tv.kept
  clear h
  generalize v.len 0 = x0 at *
  generalize v.len 1 = x1 at *
  generalize v.len 2 = x2 at *
  go_enter Tryz.func26, Tryz.ntmps26
  go_wp2_with fail
  refine hm.mono ?_
  rintro e w' ⟨rfl, rfl⟩
  go_wp2_with fail
  go_loopw [3, 7] (fun s i wr => ∃ j : Nat, j ≤ 3 ∧ i = .int .i64 j ∧ s = .int .i64 ((sum3 x0 x1 x2 j : Nat) : Int) ∧ wr = w) (fun _ i _ => 3 - (intOf i).toNat)
  case atStart => exact ⟨0, by omega, rfl, rfl, rfl⟩
  case round =>
    obtain ⟨j, hj, rfl, rfl, rfl⟩ := hrel
    rcases (by omega : j = 0 ∨ j = 1 ∨ j = 2 ∨ j = 3) with rfl | rfl | rfl | rfl
    · simp only [sum3]
      go_wp2_with fail
      refine hl0.mono ?_
      rintro e w' ⟨rfl, rfl⟩
      go_wp2_with fail
      go_roundw
      case rel => exact ⟨1, by omega, rfl, by simp, by first | rfl | trivial⟩
      case measure => simp [intOf]
    · simp only [sum3]
      go_wp2_with fail
      refine hl1.mono ?_
      rintro e w' ⟨rfl, rfl⟩
      go_wp2_with fail
      go_roundw
      case rel => exact ⟨2, by omega, rfl, by simp, by first | rfl | trivial⟩
      case measure => simp [intOf]
    · simp only [sum3]
      go_wp2_with fail
      refine hl2.mono ?_
      rintro e w' ⟨rfl, rfl⟩
      go_wp2_with fail
      go_roundw
      case rel => exact ⟨3, by omega, rfl, by simp, by first | rfl | trivial⟩
      case measure => simp [intOf]
    · simp only [sum3]
      go_wp2_with fail
      go_ret
      exact ⟨rfl, rfl⟩
theorem mayKeep_yes {n : Nat} (h1 : 1 ≤ n) (h2 : n ≤ 1000) (w : World) :
    Calls Tryz.prog 16 #[.int .i64 (n : Int)] w fun e w' => e = .returned (.bool true) ∧ w = w' := by
  have d1 : decide ((n : Int) ≤ 1000) = true := decide_eq_true (by omega)
  have d2 : decide (1 ≤ (n : Int)) = true := decide_eq_true (by omega)
  go_enter Tryz.func16, Tryz.ntmps16
  go_wp2_with fail
  go_ret
  exact ⟨rfl, rfl⟩
theorem parts_c {c : Nat} (h1 : 1 ≤ c) (h2 : c ≤ 1000) (w : World) :
    Calls Tryz.prog 56 #[.int .i64 (c : Int)] w fun e w' => e = .returned (.agg #[.int .i64 (wMost c : Int), .int .i64 (sMost c : Int)]) ∧ ∃ o, w' = w.alloc o := by
  have hk := fun W => mayKeep_yes h1 h2 W
  have hw : wMost c = max 1 (c / 8) := rfl
  have hs : sMost c = (c - wMost c) * 4 / 5 := rfl
  have HW := Lib.hid hw
  have HS := Lib.hid hs
  clear hw hs
  generalize wMost c = W at *
  generalize sMost c = Z at *
  have q : (.agg #[.int .i64 (W : Int), .int .i64 (Z : Int)] : Value) = .agg #[.int .i64 (if 1 < (c : Int) / 8 then (c : Int) / 8 else 1), .int .i64 (((c : Int) - (if 1 < (c : Int) / 8 then (c : Int) / 8 else 1)) * 4 / 5)] := by
    have h3 := HW.out
    have h4 := HS.out
    have e1 : (W : Int) = if 1 < (c : Int) / 8 then (c : Int) / 8 else 1 := by split <;> omega
    rw [← e1]
    have e2 : (Z : Int) = ((c : Int) - (W : Int)) * 4 / 5 := by omega
    rw [e2]
  have HQ := Lib.hid q
  clear q
  go_enter Tryz.func56, Tryz.ntmps56
  go_wp2_with fail
  refine (hk _).mono ?_
  rintro e w' ⟨rfl, rfl⟩
  go_wp2_with fail
  · refine bodyPost_ret (results_cell_row rfl _ _ w.heap.size 87 _ _ _ rfl (Blk.new w _ _) Tryz.underlying87 rfl (by kernel_rfl)) rfl ⟨?_, _, rfl⟩
    rw [HQ.out]
    simp only [*, if_true]
  · refine bodyPost_ret (results_cell_row rfl _ _ w.heap.size 87 _ _ _ rfl (Blk.new w _ _) Tryz.underlying87 rfl (by kernel_rfl)) rfl ⟨?_, _, rfl⟩
    rw [HQ.out]
    rw [if_neg (by omega)]
/-- Lists that a call is given, one behind the other. -/
def firstOf (v : Tv) (L : Nat → Nat) (n : Nat) : Nat → Option Key
  | 0 => none
  | f + 1 => match v.last (L (n - (f + 1))) with
    | some k => some k
    | none => firstOf v L n f
set_option maxHeartbeats 1000000 in
theorem last_c {g n : Nat} {L : Nat → Nat} (hn : n ≤ 3) (hL : ∀ i, i < n → L i < 3) (hc : ∀ i, i < n → w.cell? ⟨g, i, none⟩ = some (.int .i64 (L i : Int))) (h : HeldT w0 A B P w m v) :
    Calls Tryz.prog 66 #[.pointer (some ⟨A, 0, none⟩), .slice (some ⟨g, 0, none⟩) n n] w fun e w' => e = .returned (.tuple #[.string (str ((firstOf v L n n).getD [])), .bool (firstOf v L n n).isSome]) ∧ w = w' := by
  obtain ⟨c0, c1, c2⟩ := h.cells
  go_enter Tryz.func66, Tryz.ntmps66
  go_wp2_with fail
  go_loopw [12] (fun i wr => ∃ j : Nat, j ≤ n ∧ i = .int .i64 j ∧ firstOf v L n n = firstOf v L n (n - j) ∧ wr = w) (fun i _ => n - (intOf i).toNat)
  case atStart => exact ⟨0, Nat.zero_le _, rfl, by simp, rfl⟩
  case round =>
    obtain ⟨j, hj, rfl, hF, rfl⟩ := hrel
    by_cases hlt : j < n
    · have hcj := hc j hlt
      have hs : n - j = (n - j - 1) + 1 := by omega
      have hsub : n - (n - j - 1 + 1) = j := by omega
      rw [hs] at hF
      have hF2 : firstOf v L n (n - j - 1 + 1) = match v.last (L j) with | some k => some k | none => firstOf v L n (n - j - 1) := by
        show (match v.last (L (n - (n - j - 1 + 1))) with | some k => some k | none => firstOf v L n (n - j - 1)) = _
        rw [hsub]
      rw [hF2] at hF
      cases e : v.last (L j) with
      | some k =>
        rw [e] at hF
        have hF : firstOf v L n n = some k := hF
        have hb := back_some (hL j hlt) e h
        have HF := Lib.hid hF
        clear hF hF2 hs hsub h hc
        go_wp2_with fail
        refine hb.mono ?_
        rintro e w' ⟨rfl, rfl⟩
        go_wp2_with fail
        go_ret2
        exact ⟨by rw [HF.out]; rfl, rfl⟩
      | none =>
        rw [e] at hF
        have hF : firstOf v L n n = firstOf v L n (n - j - 1) := hF
        have hb := back_empty (hL j hlt) e h
        have HF := Lib.hid hF
        clear hF hF2 hs hsub h hc
        go_wp2_with fail
        refine hb.mono ?_
        rintro e w' ⟨rfl, rfl⟩
        go_wp2_with fail
        go_roundw
        case rel => exact ⟨j + 1, by omega, by simp, by rw [HF.out]; congr 1, by first | rfl | trivial⟩
        case measure => simp [intOf]; omega
    · obtain rfl : j = n := by omega
      rw [Nat.sub_self] at hF
      have hF : firstOf v L j j = none := hF
      have HF := Lib.hid hF
      clear hF
      go_wp2_with fail
      go_ret2
      exact ⟨by rw [HF.out]; rfl, rfl⟩
theorem last1 {a : Nat} {x : Int} {g : Nat} (hx : x = (a : Int)) (ha : a < 3) (hb : Blk w g 3 #[.int .i64 x]) (h : HeldT w0 A B P w m v) :
    Calls Tryz.prog 66 #[.pointer (some ⟨A, 0, none⟩), .slice (some ⟨g, 0, none⟩) 1 1] w fun e w' => e = .returned (.tuple #[.string (str ((v.last a).getD [])), .bool (v.last a).isSome]) ∧ w = w' := by
  subst hx
  have hf : firstOf v (fun _ => a) 1 1 = v.last a := by unfold firstOf firstOf; cases v.last a <;> rfl
  have := last_c (L := fun _ => a) (n := 1) (by omega) (fun _ _ => ha) (fun t ht => by
    obtain rfl : t = 0 := by omega
    exact hb.cell 0) h
  rw [hf] at this
  exact this
theorem last2 {g : Nat} (hb : Blk w g 3 #[.int .i64 1, .int .i64 2]) (h : HeldT w0 A B P w m v) :
    Calls Tryz.prog 66 #[.pointer (some ⟨A, 0, none⟩), .slice (some ⟨g, 0, none⟩) 2 2] w fun e w' => e = .returned (.tuple #[.string (str ((v.first [1, 2]).getD [])), .bool (v.first [1, 2]).isSome]) ∧ w = w' :=
  last_c (L := fun i => i + 1) (n := 2) (by omega) (fun _ _ => by omega) (fun t ht => by
    rcases (by omega : t = 0 ∨ t = 1) with rfl | rfl
    · exact hb.cell 0
    · exact hb.cell 1) h
theorem last3 {g : Nat} (hb : Blk w g 3 #[.int .i64 1, .int .i64 0, .int .i64 2]) (h : HeldT w0 A B P w m v) :
    Calls Tryz.prog 66 #[.pointer (some ⟨A, 0, none⟩), .slice (some ⟨g, 0, none⟩) 3 3] w fun e w' => e = .returned (.tuple #[.string (str (v.goes.getD [])), .bool v.goes.isSome]) ∧ w = w' :=
  last_c (L := fun i => if i = 0 then 1 else if i = 1 then 0 else 2) (n := 3) (by omega) (fun i _ => by split; omega; split <;> omega) (fun t ht => by
    rcases (by omega : t = 0 ∨ t = 1 ∨ t = 2) with rfl | rfl | rfl
    · exact hb.cell 0
    · exact hb.cell 1
    · exact hb.cell 2) h
theorem seenT_c (hk : k.length ≤ 1099511627776) (h : HeldT w0 A B P w m v) :
    Calls Tryz.prog 12 #[.pointer (some ⟨A, 0, none⟩), .string (str k)] w fun e w' => e = .returned (.int .i64 (v.seen k : Int)) ∧ ∃ n, w' = w.drewN n := by
  have hm := made_c h
  have hs := seen_t hk h
  obtain ⟨c0, c1, c2⟩ := h.cells
  clear h
  go_enter Tryz.func12, Tryz.ntmps12
  go_wp2_with fail
  refine hm.mono ?_
  rintro e w' ⟨rfl, rfl⟩
  go_wp2_with fail
  refine hs.mono ?_
  rintro e w' ⟨rfl, n, rfl⟩
  go_wp2_with fail
  go_ret
  exact ⟨rfl, n, rfl⟩
theorem removeT_c (hk : k.length ≤ maxLen) (h : HeldT w0 A B P w m v) :
    Calls Tryz.prog 29 #[.pointer (some ⟨A, 0, none⟩), .string (str k)] w fun e w' => e = .returned (.bool (v.has k)) ∧ ∃ m', HeldT w0 A B P w' m' (v.dr k) ∧ StepT B w m w' m' := by
  have hm := made_c h
  have hd := drop_t hk h
  obtain ⟨c0, c1, c2⟩ := h.cells
  clear h
  generalize v.has k = b at *
  go_enter Tryz.func29, Tryz.ntmps29
  go_wp2_with fail
  refine hm.mono ?_
  rintro e w' ⟨rfl, rfl⟩
  go_wp2_with fail
  refine hd.mono ?_
  rintro e w2 ⟨rfl, hp⟩
  go_wp2_with fail
  go_ret
  exact ⟨rfl, hp⟩
end
end Go.Proofs.YtgfpedcdclgmiaaGreat.Tinyy

namespace Go.Proofs.YtgfpedcdclgmiaaGreat.Tinyy
open Go.ChangeShapes Go.WideShapes Go.ChangeAt Go.RowKit
open Wirey (Blk Row str str_size str_list Kp)
open Ringy
open Sketchy (Sk ksOf Six)

section
variable {w0 w w' w'' : World} {A B P : Nat} {m m' m'' : Rm} {v : Tv} {k : Key}
/-- The whole beside a region's cells. -/
structure Beside (w0 : World) (A B P : Nat) (wb : World) (m : Rm) (v : Tv) (w : World) : Prop where
  h : HeldT w0 A B P w m v
  s : StepT B wb m w m
theorem Beside.drewN (h : Beside w0 A B P w m v w') (n : Nat) : Beside w0 A B P w m v (w'.drewN n) := ⟨h.h.drewN n, h.s.drewN n⟩
theorem Beside.drew (h : Beside w0 A B P w m v w') : Beside w0 A B P w m v w'.drew := ⟨h.h.drew, h.s.drew⟩
theorem Beside.alloc (h : Beside w0 A B P w m v w') (o : Obj) : Beside w0 A B P w m v (w'.alloc o) := ⟨h.h.alloc o, h.s.alloc o⟩
theorem Beside.of (h : HeldT w0 A B P w m v) : Beside w0 A B P w m v w := ⟨h, StepT.refl _ _ _⟩
theorem b1 (h : Beside w0 A B P w m v w') : w'.cell? ⟨A, 0, none⟩ = some (.int .i64 (v.most : Int)) ∧ Beside w0 A B P w m v w' := ⟨h.h.cells.1, h⟩
theorem bA {x : World} (h : x.cell? ⟨A, 0, none⟩ = some (.int .i64 (v.most : Int)) ∧ Beside w0 A B P w m v x) (o : Obj) : (x.alloc o).cell? ⟨A, 0, none⟩ = some (.int .i64 (v.most : Int)) ∧ Beside w0 A B P w m v (x.alloc o) := b1 (h.2.alloc o)
theorem bD {x : World} (h : x.cell? ⟨A, 0, none⟩ = some (.int .i64 (v.most : Int)) ∧ Beside w0 A B P w m v x) : x.drew.cell? ⟨A, 0, none⟩ = some (.int .i64 (v.most : Int)) ∧ Beside w0 A B P w m v x.drew := b1 h.2.drew
theorem onto {f : FuncId} {args : Array Value} {W : World} {x : Ending} (hB : Beside w0 A B P w m v W) (h : Calls Tryz.prog f args W fun e w' => e = x ∧ W = w') : Calls Tryz.prog f args W fun e w' => e = x ∧ Beside w0 A B P w m v w' := h.mono fun _ _ ⟨a, b⟩ => ⟨a, b ▸ hB⟩
theorem b2 (h : Beside w0 A B P w m v w') : w'.cell? ⟨A, 0, none⟩ = some (.int .i64 (v.most : Int)) ∧ w'.cell? ⟨A, 2, none⟩ = some (.pointer (some ⟨P, 0, none⟩)) ∧ Beside w0 A B P w m v w' := ⟨h.h.cells.1, h.h.cells.2.2, h⟩
theorem b2A {x : World} (h : x.cell? ⟨A, 0, none⟩ = some (.int .i64 (v.most : Int)) ∧ x.cell? ⟨A, 2, none⟩ = some (.pointer (some ⟨P, 0, none⟩)) ∧ Beside w0 A B P w m v x) (o : Obj) : (x.alloc o).cell? ⟨A, 0, none⟩ = some (.int .i64 (v.most : Int)) ∧ (x.alloc o).cell? ⟨A, 2, none⟩ = some (.pointer (some ⟨P, 0, none⟩)) ∧ Beside w0 A B P w m v (x.alloc o) := b2 (h.2.2.alloc o)
theorem b2D {x : World} (h : x.cell? ⟨A, 0, none⟩ = some (.int .i64 (v.most : Int)) ∧ x.cell? ⟨A, 2, none⟩ = some (.pointer (some ⟨P, 0, none⟩)) ∧ Beside w0 A B P w m v x) : x.drew.cell? ⟨A, 0, none⟩ = some (.int .i64 (v.most : Int)) ∧ x.drew.cell? ⟨A, 2, none⟩ = some (.pointer (some ⟨P, 0, none⟩)) ∧ Beside w0 A B P w m v x.drew := b2 h.2.2.drew
theorem sB {x : World} (h : x.cell? ⟨A, 0, none⟩ = some (.int .i64 (v.most : Int)) ∧ x.cell? ⟨A, 2, none⟩ = some (.pointer (some ⟨P, 0, none⟩)) ∧ Beside w0 A B P w m v x) : Beside w0 A B P w m v x := h.2.2
theorem b3 {n : Nat} (hn : v.most = n) (h : Beside w0 A B P w m v w') : w'.cell? ⟨A, 0, none⟩ = some (.int .i64 (n : Int)) ∧ w'.cell? ⟨A, 2, none⟩ = some (.pointer (some ⟨P, 0, none⟩)) ∧ Beside w0 A B P w m v w' := by subst hn; exact b2 h
theorem b3A {n : Nat} (hn : v.most = n) {x : World} (h : x.cell? ⟨A, 0, none⟩ = some (.int .i64 (n : Int)) ∧ x.cell? ⟨A, 2, none⟩ = some (.pointer (some ⟨P, 0, none⟩)) ∧ Beside w0 A B P w m v x) (o : Obj) : (x.alloc o).cell? ⟨A, 0, none⟩ = some (.int .i64 (n : Int)) ∧ (x.alloc o).cell? ⟨A, 2, none⟩ = some (.pointer (some ⟨P, 0, none⟩)) ∧ Beside w0 A B P w m v (x.alloc o) := b3 hn (h.2.2.alloc o)
theorem b3D {n : Nat} (hn : v.most = n) {x : World} (h : x.cell? ⟨A, 0, none⟩ = some (.int .i64 (n : Int)) ∧ x.cell? ⟨A, 2, none⟩ = some (.pointer (some ⟨P, 0, none⟩)) ∧ Beside w0 A B P w m v x) : x.drew.cell? ⟨A, 0, none⟩ = some (.int .i64 (n : Int)) ∧ x.drew.cell? ⟨A, 2, none⟩ = some (.pointer (some ⟨P, 0, none⟩)) ∧ Beside w0 A B P w m v x.drew := b3 hn h.2.2.drew
theorem s3 {n : Nat} {x : World} (h : x.cell? ⟨A, 0, none⟩ = some (.int .i64 (n : Int)) ∧ x.cell? ⟨A, 2, none⟩ = some (.pointer (some ⟨P, 0, none⟩)) ∧ Beside w0 A B P w m v x) : Beside w0 A B P w m v x := h.2.2
theorem Beside.trans {a b c : World} (h : Beside w0 A B P a m v b) (h' : Beside w0 A B P b m v c) : Beside w0 A B P a m v c := ⟨h'.h, h.s.trans h'.s⟩
theorem ontoB {f : FuncId} {args : Array Value} {W : World} {x : Ending} (hB : Beside w0 A B P w m v W) (h : Calls Tryz.prog f args W fun e w' => e = x ∧ Beside w0 A B P W m v w') : Calls Tryz.prog f args W fun e w' => e = x ∧ Beside w0 A B P w m v w' := h.mono fun _ _ ⟨a, b⟩ => ⟨a, hB.trans b⟩
theorem field0 (a b : Int) (W : World) : (Instr.field 87 (.agg #[.int .i64 a, .int .i64 b]) 0).run Tryz.prog W = .ok (.int .i64 a) W := by kernel_rfl
theorem field1 (a b : Int) (W : World) : (Instr.field 87 (.agg #[.int .i64 a, .int .i64 b]) 1).run Tryz.prog W = .ok (.int .i64 b) W := by kernel_rfl
set_option maxHeartbeats 1000000 in
theorem tooMany_c (h : HeldT w0 A B P w m v) :
    Calls Tryz.prog 57 #[.pointer (some ⟨A, 0, none⟩)] w fun e w' => e = .returned (.bool (decide (v.most < v.kept))) ∧ Beside w0 A B P w m v w' := by
  have hB := Beside.of h
  have hd := b1 hB.drew
  have hm1 := h.fit.m1
  have hkm := h.fit.kept
  have hkm2 := h.fit.m2
  have hdec : decide (v.most < v.kept) = decide ((v.most : Int) < (v.kept : Int)) := by rw [decide_eq_decide]; omega
  have HD := Lib.hid hdec
  clear h hdec
  go_enter Tryz.func57, Tryz.ntmps57
  go_wp2_with fail
  go_region_held3 (fun w' => w'.cell? ⟨A, 0, none⟩ = some (.int .i64 (v.most : Int)) ∧ Beside w0 A B P w m v w')
    (first | exact hd | exact bA (by assumption) _ | exact bD (by assumption) | exact b1 (by assumption) | exact b1 (Beside.drewN hB _) | go_keep)
    (first | (go_at_call 26; refine (onto (And.right (by assumption : _ ∧ Beside w0 A B P w m v _)) (lenT_c (And.right (by assumption : _ ∧ Beside w0 A B P w m v _)).h)).mono ?_; rintro e wv ⟨rfl, hbv⟩))
  have hx := And.right (by assumption : _ ∧ Beside w0 A B P w m v _)
  go_wp2_with fail
  go_ret
  exact ⟨by rw [HD.out]; rfl, hx⟩
set_option maxHeartbeats 2000000 in
set_option maxRecDepth 100000 in
theorem makeSafe_c {i : Nat} (hi : i = 1 ∨ i = 2) (hm : k ∈ v.rg.l i) (hok : v.Ok) (h : HeldT w0 A B P w m v) :
    Calls Tryz.prog 59 #[.pointer (some ⟨A, 0, none⟩), .string (str k)] w fun e w' => e = .returned (.tuple #[]) ∧ ∃ m', HeldT w0 A B P w' m' (v.safe k) ∧ StepT B w m w' m' := by
  obtain ⟨-, -, -, hy⟩ := Tv.safe_spec hok hi hm
  have hkl := hok.fit.klen (by omega) hm
  have hf := front_t (j := 2) (by omega) hkl (hok.fit.in_ hok.fit.n (by omega) hm) h
  have hm1 := h.fit.m1
  have hm2 := h.fit.m2
  obtain ⟨c0, c1, c2⟩ := h.cells
  have hu : v.safe k = if sMost v.most < (v.fr 2 k).len 2 then (v.fr 2 k).fr 1 (((v.fr 2 k).last 2).getD []) else v.fr 2 k := rfl
  clear h hok hm
  generalize v.safe k = s at *
  generalize hU : v.fr 2 k = u at *
  have hmo : v.most = u.most := by rw [← hU]; rfl
  rw [hmo] at hy c0 hm1 hm2 hu
  clear hmo hU
  have HU := Lib.hid hu
  clear hu
  go_enter Tryz.func59, Tryz.ntmps59
  go_wp2_with fail
  refine hf.mono ?_
  rintro e w1 ⟨rfl, m1, h1, hS1⟩
  clear c0 c1 c2
  obtain ⟨c0, c1, c2⟩ := h1.cells
  have hB := Beside.of h1
  have hd := b1 hB.drew
  have hl2 := h1.fit.len_le (i := 2) (by omega)
  have hf1 := fun W => field1 (wMost u.most : Int) (sMost u.most : Int) W
  go_wp2_with fail
  go_region_held3 (fun w' => w'.cell? ⟨A, 0, none⟩ = some (.int .i64 (u.most : Int)) ∧ w'.cell? ⟨A, 2, none⟩ = some (.pointer (some ⟨P, 0, none⟩)) ∧ Beside w0 A B P w1 m1 u w')
    (first | exact b2 hd.2 | exact b2A (by assumption) _ | exact b2D (by assumption) | exact b2 (by assumption) | exact b2 (Beside.drewN hB _) | go_keep)
    (first | (go_at_call 55; refine (onto (sB (by assumption)) (len_t (i := 2) (by omega) (sB (by assumption)).h)).mono ?_; rintro e wv ⟨rfl, hbv⟩) | (go_at_call 56; refine (parts_c hm1 hm2 _).mono ?_; rintro e wv ⟨rfl, o, rfl⟩))
  have hx := hbv.alloc o
  have hS2 := hS1.trans hx.s
  clear c0 c1 c2 hB hd hf hf1 hbv h1 hS1
  obtain ⟨c0, c1, c2⟩ := hx.h.cells
  by_cases hb : sMost u.most < u.len 2
  · simp only [hb, decide_true]
    obtain ⟨y, hy1, hy2⟩ := hy hb
    have hl := fun (W : World) (g : Nat) (hb : Blk W g 3 #[.int .i64 2]) (hW : HeldT w0 A B P W m1 u) => last1 (a := 2) (x := 2) rfl (by omega) hb hW
    rw [hy1] at hl
    simp only [Option.getD_some, Option.isSome_some] at hl
    have hyl := hx.h.fit.klen (by omega) hy2
    have hyc := hx.h.fit.in_ hx.h.fit.n (by omega) hy2
    have HI := Lib.hid (show s = u.fr 1 y by rw [HU.out, if_pos hb, hy1]; rfl)
    clear hy hb hy1 hy2
    generalize wv.alloc o = w2 at *
    go_wp2_with fail
    refine (hl _ _ (Blk.new w2 3 _) (hx.h.alloc _)).mono ?_
    rintro e w' ⟨rfl, rfl⟩
    have hx3 := hx.alloc (.cells #[.int .i64 2] 3)
    obtain ⟨k0, k1, k2⟩ := hx3.h.cells
    go_wp2_with fail
    refine (front_t (j := 1) (by omega) hyl hyc hx3.h).mono ?_
    rintro e w3 ⟨rfl, m3, h3, hS3⟩
    go_wp2_with fail
    refine bodyPost_end (v := .tuple #[]) (results_none rfl _ _ _) rfl ?_
    rw [HI.out]
    exact ⟨rfl, m3, h3, (hS2.alloc _).trans hS3⟩
  · simp only [hb, decide_false]
    have HI := Lib.hid (show s = u by rw [HU.out, if_neg hb])
    clear hy hb
    go_wp2_with fail
    refine bodyPost_end (v := .tuple #[]) (results_none rfl _ _ _) rfl ?_
    rw [HI.out]
    exact ⟨rfl, m1, hx.h, hS2⟩
set_option maxHeartbeats 2000000 in
theorem touchT_c (hk : k.length ≤ maxLen) (hok : v.Ok) (h : HeldT w0 A B P w m v) :
    Calls Tryz.prog 25 #[.pointer (some ⟨A, 0, none⟩), .string (str k)] w fun e w' => e = .returned (.bool (v.has k)) ∧ ∃ m', HeldT w0 A B P w' m' (v.touch k) ∧ StepT B w m w' m' := by
  have hh := has_t hk h
  obtain ⟨c0, c1, c2⟩ := h.cells
  have HH := Lib.hid h
  cases e : v.at_ k with
  | none =>
    have ha : v.has k = false := by unfold Tv.has; rw [e]; rfl
    have ht : v.touch k = v := by unfold Tv.touch; rw [e]
    rw [ha] at hh ⊢
    rw [ht]
    clear h e ht ha hok
    go_enter Tryz.func25, Tryz.ntmps25
    go_wp2_with fail
    refine hh.mono ?_
    rintro e w' ⟨rfl, rfl⟩
    go_wp2_with fail
    go_ret
    exact ⟨rfl, m, HH.out, StepT.refl _ _ _⟩
  | some i =>
    obtain ⟨hi, hmem⟩ := Tv.at_some e
    have hkl := hok.fit.klen hi hmem
    have ha : v.has k = true := by unfold Tv.has; rw [e]; rfl
    have hn := note_t (k := k) (by omega) h
    have hok2 := hok.note k
    have he2 : (v.note k).at_ k = some i := e
    have hin := fun (W : World) (hW : HeldT w0 A B P W m (v.note k)) => in_some hk he2 hW
    rw [ha] at hh ⊢
    rcases (by omega : i = 0 ∨ i = 1 ∨ i = 2) with rfl | rfl | rfl
    · have ht : v.touch k = (v.note k).fr 0 k := by unfold Tv.touch; rw [e]; rfl
      rw [ht]
      have hfr := fun (W : World) (hW : HeldT w0 A B P W m (v.note k)) => front_t (j := 0) (by omega) hkl (hok2.fit.in_ hok2.fit.n (by omega) hmem) hW
      clear h e ht ha he2
      go_enter Tryz.func25, Tryz.ntmps25
      go_wp2_with fail
      refine hh.mono ?_
      rintro e w' ⟨rfl, rfl⟩
      go_wp2_with fail
      refine hn.mono ?_
      rintro e w1 ⟨rfl, h1, hS1⟩
      obtain ⟨k0, k1, k2⟩ := h1.cells
      clear c0 c1 c2
      go_wp2_with fail
      refine (hin _ h1).mono ?_
      rintro e w' ⟨rfl, rfl⟩
      go_wp2_with fail
      refine (hfr _ h1).mono ?_
      rintro e w2 ⟨rfl, m2, h2, hS2⟩
      go_wp2_with fail
      go_ret
      exact ⟨rfl, m2, h2, hS1.trans hS2⟩
    · have ht : v.touch k = (v.note k).safe k := by unfold Tv.touch; rw [e]; rfl
      rw [ht]
      have hsf := fun (W : World) (hW : HeldT w0 A B P W m (v.note k)) => makeSafe_c (v := v.note k) (.inl rfl) hmem hok2 hW
      clear h e ht ha he2
      go_enter Tryz.func25, Tryz.ntmps25
      go_wp2_with fail
      refine hh.mono ?_
      rintro e w' ⟨rfl, rfl⟩
      go_wp2_with fail
      refine hn.mono ?_
      rintro e w1 ⟨rfl, h1, hS1⟩
      obtain ⟨k0, k1, k2⟩ := h1.cells
      clear c0 c1 c2
      go_wp2_with fail
      refine (hin _ h1).mono ?_
      rintro e w' ⟨rfl, rfl⟩
      go_wp2_with fail
      refine (hsf _ h1).mono ?_
      rintro e w2 ⟨rfl, m2, h2, hS2⟩
      go_wp2_with fail
      go_ret
      exact ⟨rfl, m2, h2, hS1.trans hS2⟩
    · have ht : v.touch k = (v.note k).safe k := by unfold Tv.touch; rw [e]; rfl
      rw [ht]
      have hsf := fun (W : World) (hW : HeldT w0 A B P W m (v.note k)) => makeSafe_c (v := v.note k) (.inr rfl) hmem hok2 hW
      clear h e ht ha he2
      go_enter Tryz.func25, Tryz.ntmps25
      go_wp2_with fail
      refine hh.mono ?_
      rintro e w' ⟨rfl, rfl⟩
      go_wp2_with fail
      refine hn.mono ?_
      rintro e w1 ⟨rfl, h1, hS1⟩
      obtain ⟨k0, k1, k2⟩ := h1.cells
      clear c0 c1 c2
      go_wp2_with fail
      refine (hin _ h1).mono ?_
      rintro e w' ⟨rfl, rfl⟩
      go_wp2_with fail
      refine (hsf _ h1).mono ?_
      rintro e w2 ⟨rfl, m2, h2, hS2⟩
      go_wp2_with fail
      go_ret
      exact ⟨rfl, m2, h2, hS1.trans hS2⟩
set_option maxHeartbeats 1000000 in
theorem missT_c (hk : k.length ≤ maxLen) (h : HeldT w0 A B P w m v) :
    Calls Tryz.prog 32 #[.pointer (some ⟨A, 0, none⟩), .string (str k)] w fun e w' => e = .returned (.tuple #[]) ∧ HeldT w0 A B P w' m (v.miss k) ∧ StepT B w m w' m := by
  have hm := made_c h
  obtain ⟨c0, c1, c2⟩ := h.cells
  have hsz := str_size k
  have HH := Lib.hid h
  unfold maxLen at hk
  by_cases hl : 64 < k.length
  · have hv : v.miss k = v := if_pos hl
    rw [hv]
    clear h hv
    go_enter Tryz.func32, Tryz.ntmps32
    go_wp2_with fail
    refine hm.mono ?_
    rintro e w' ⟨rfl, rfl⟩
    go_wp2_with fail
    refine bodyPost_end (v := .tuple #[]) (results_none rfl _ _ _) rfl ?_
    exact ⟨rfl, HH.out, StepT.refl _ _ _⟩
  · have hv : v.miss k = v.note k := if_neg hl
    have hn := note_t (k := k) (by omega) h
    rw [hv]
    clear h hv
    go_enter Tryz.func32, Tryz.ntmps32
    go_wp2_with fail
    refine hm.mono ?_
    rintro e w' ⟨rfl, rfl⟩
    go_wp2_with fail
    refine hn.mono ?_
    rintro e w' ⟨rfl, h1, hS1⟩
    go_wp2_with fail
    refine bodyPost_end (v := .tuple #[]) (results_none rfl _ _ _) rfl ?_
    exact ⟨rfl, h1, hS1⟩
set_option maxHeartbeats 1000000 in
theorem evictT_c (h : HeldT w0 A B P w m v) :
    Calls Tryz.prog 31 #[.pointer (some ⟨A, 0, none⟩)] w fun e w' => e = .returned (.tuple #[.string (str (v.goes.getD [])), .bool v.goes.isSome]) ∧ ∃ m', HeldT w0 A B P w' m' v.evict ∧ StepT B w m w' m' := by
  have hm := made_c h
  have h1 := h.alloc (.cells #[.int .i64 1, .int .i64 0, .int .i64 2] 3)
  have hS := (StepT.refl B w m).alloc (.cells #[.int .i64 1, .int .i64 0, .int .i64 2] 3)
  have hl := last3 (Blk.new w 3 #[.int .i64 1, .int .i64 0, .int .i64 2]) h1
  cases e : v.goes with
  | none =>
    have hv : v.evict = v := by unfold Tv.evict; rw [e]
    rw [hv]
    rw [e] at hl
    have H1 := Lib.hid h1
    have HS := Lib.hid hS
    clear h h1 hS e hv
    go_enter Tryz.func31, Tryz.ntmps31
    go_wp2_with fail
    refine hm.mono ?_
    rintro e w' ⟨rfl, rfl⟩
    go_wp2_with fail
    refine hl.mono ?_
    rintro e w' ⟨rfl, rfl⟩
    go_wp2_with fail
    go_ret2
    exact ⟨rfl, m, H1.out, HS.out⟩
  | some k =>
    have hv : v.evict = v.dr k := by unfold Tv.evict; rw [e]
    obtain ⟨i, hi, hmem⟩ := Tv.goes_mem e
    have hkl := h.fit.klen hi hmem
    rw [hv]
    rw [e] at hl
    have hr := removeT_c (k := k) (by unfold maxLen; omega) h1
    have HS := Lib.hid hS
    clear h h1 hS e hv hmem
    go_enter Tryz.func31, Tryz.ntmps31
    go_wp2_with fail
    refine hm.mono ?_
    rintro e w' ⟨rfl, rfl⟩
    go_wp2_with fail
    refine hl.mono ?_
    rintro e w' ⟨rfl, rfl⟩
    go_wp2_with fail
    refine hr.mono ?_
    rintro e w2 ⟨rfl, m2, h2, hS2⟩
    go_wp2_with fail
    go_ret2
    exact ⟨rfl, m2, h2, HS.out.trans hS2⟩
/-- A row of keys that was told, beside the rings and the sketch. -/
structure Tell (base B : Nat) (m : Rm) (val : Value) (l : List Key) (w : World) : Prop where
  row : w.ownsRow base 9 1 val l.length (strsV l)
  no : ∀ b, val.ownBlock = some b → ¬ m.own b ∧ ¬ Six B b
theorem Tell.step {base : Nat} {val : Value} {l : List Key} (h : Tell base B m val l w) (hS : StepT B w m w' m') : Tell base B m' val l w' :=
  ⟨ownsRow_stay h.row fun b hb => hS.kp.block b (h.row.lt b hb).2 (fun ho => ho.elim (h.no b hb).1 (h.no b hb).2), fun b hb => ⟨fun ho => by
    rcases hS.own b ho with h1 | h1
    · exact (h.no b hb).1 h1
    · have := (h.row.lt b hb).2; omega, (h.no b hb).2⟩⟩
theorem Tell.nil (base B : Nat) (m : Rm) (w : World) : Tell base B m (.slice none 0 0) [] w := ⟨World.ownsRow_nil _ _ _ _, fun b hb => by cases hb⟩
theorem Tell.lit {base : Nat} (h : HeldT w0 A B P w m v) (hB : base ≤ w.heap.size) (k : Key) : Tell base B m (.slice (some ⟨w.heap.size, 0, none⟩) 1 1) [k] (w.alloc (.cells #[.string (str k)] 9)) := by
  have hr := World.ownsRow_lit (size := 1) (e := 9) (base := base) w #[.string (str k)] 1 hB (by unfold maxLen; omega) rfl
  refine ⟨hr, fun b hb => ?_⟩
  obtain rfl : w.heap.size = b := by injection hb
  exact ⟨fun ho => by have := h.h.lt _ ho; omega, fun e => by have := h.sk.lt; have := e.2; omega⟩
theorem Tell.low {base base' : Nat} {val : Value} {l : List Key} (h : Tell base B m val l w) (hb : base' ≤ base) : Tell base' B m val l w := ⟨own_mono h.row hb, h.no⟩
end
end Go.Proofs.YtgfpedcdclgmiaaGreat.Tinyy

namespace Go.Proofs.YtgfpedcdclgmiaaGreat.Tinyy
open Go.ChangeShapes Go.WideShapes Go.ChangeAt Go.RowKit
open Wirey (Blk Row str str_size str_list Kp)
open Ringy
open Sketchy (Sk ksOf Six)

section
variable {w0 w w' w'' : World} {A B P : Nat} {m m' m'' : Rm} {v u : Tv} {k one : Key}
theorem Tv.Full.stays_in (hF : v.Full k u one) {o : Key} (h : u.first [1, 2] = some o) : o.length ≤ 64 ∧ o ≠ one ∧ ∃ i, i < 3 ∧ o ∈ u.rg.l i := by
  obtain ⟨i, hi, hmo, hil⟩ := Tv.first_mem (by simp) h
  have hi12 : i = 1 ∨ i = 2 := by simpa using hil
  refine ⟨hF.fit.klen hi hmo, fun e => ?_, i, hi, hmo⟩
  subst e
  have := hF.fit.dj hi (by omega) hmo hF.mem
  omega
set_option maxHeartbeats 4000000 in
set_option maxRecDepth 100000 in
theorem leave_c (hF : v.Full k u one) (h : HeldT w0 A B P w m u) :
    Calls Tryz.prog 58 #[.pointer (some ⟨A, 0, none⟩)] w fun e w' => ∃ val m', e = .returned val ∧ HeldT w0 A B P w' m' u.leave ∧ StepT B w m w' m' ∧ Tell w.heap.size B m' val u.leaveK w' := by
  have hs : u.leave = u.leaveOf one := by unfold Tv.leave; rw [hF.last]; rfl
  have hsk : u.leaveK = u.leaveOfK one := by unfold Tv.leaveK; rw [hF.last]; rfl
  have hol : one.length ≤ 64 := hF.fit.klen (by omega) hF.mem
  have hl1 := fun (W : World) (g : Nat) (hb : Blk W g 3 #[.int .i64 0]) (hW : HeldT w0 A B P W m u) => last1 (a := 0) (x := 0) rfl (by omega) hb hW
  rw [hF.last] at hl1
  simp only [Option.getD_some, Option.isSome_some] at hl1
  have hB := (Beside.of h).alloc (.cells #[.int .i64 0] 3)
  have ht := tooMany_c hB.h
  have hl := hl1 _ _ (Blk.new w 3 #[.int .i64 0]) hB.h
  clear hl1
  have HB := Lib.hid hB
  by_cases e1 : u.kept ≤ u.most
  · have hx1 : u.leaveOf one = u.fr 1 one := if_pos e1
    have hx2 : u.leaveOfK one = [] := if_pos e1
    rw [hs, hsk, hx1, hx2]
    have hc := hF.fit.in_ hF.fit.n (by omega) hF.mem
    have e2 : decide (u.most < u.kept) = false := decide_eq_false (by omega)
    rw [e2] at ht
    clear h hs hsk hx1 hx2 hB e1 e2 hF
    go_enter Tryz.func58, Tryz.ntmps58
    go_wp2_with fail
    refine hl.mono ?_
    rintro e w' ⟨rfl, rfl⟩
    go_wp2_with fail
    refine ht.mono ?_
    rintro e w1 ⟨rfl, hx⟩
    have hS1 := HB.out.s.trans hx.s
    obtain ⟨c0, c1, c2⟩ := hx.h.cells
    go_wp2_with fail
    refine (front_t (j := 1) (by omega) hol hc hx.h).mono ?_
    rintro e w2 ⟨rfl, m2, h2, hS2⟩
    go_wp2_with fail
    go_ret
    exact ⟨_, m2, rfl, h2, hS1.trans hS2, Tell.nil _ _ _ _⟩
  · have e2 : decide (u.most < u.kept) = true := decide_eq_true (by omega)
    rw [e2] at ht
    have hx1 : u.leaveOf one = match u.stays one with | none => u.dr one | some o => (u.dr o).fr 1 one := if_neg e1
    have hx2 : u.leaveOfK one = match u.stays one with | none => [one] | some o => [o] := if_neg e1
    rw [hs, hsk, hx1, hx2]
    have hl2 := fun (W : World) (g : Nat) (hb : Blk W g 3 #[.int .i64 1, .int .i64 2]) (hW : HeldT w0 A B P W m u) => last2 hb hW
    clear h hs hsk hx1 hx2 hB e1 e2
    cases e3 : u.first [1, 2] with
    | none =>
      have hst : u.stays one = none := by unfold Tv.stays; rw [e3]
      rw [e3] at hl2
      simp only [Option.getD_none, Option.isSome_none] at hl2
      rw [hst]
      simp only
      have hr := fun (W : World) (hW : HeldT w0 A B P W m u) => removeT_c (k := one) (by unfold maxLen; omega) hW
      clear hF hst e3
      go_enter Tryz.func58, Tryz.ntmps58
      go_wp2_with fail
      refine hl.mono ?_
      rintro e w' ⟨rfl, rfl⟩
      go_wp2_with fail
      refine ht.mono ?_
      rintro e w1 ⟨rfl, hx⟩
      have hS1 := HB.out.s.trans hx.s
      go_wp2_with fail
      refine (hl2 _ _ (Blk.new w1 3 _) (hx.h.alloc _)).mono ?_
      rintro e w' ⟨rfl, rfl⟩
      have hx3 := hx.alloc (.cells #[.int .i64 1, .int .i64 2] 3)
      go_wp2_with fail
      refine (hr _ hx3.h).mono ?_
      rintro e w2 ⟨rfl, m2, h2, hS2⟩
      have hS3 := (hS1.alloc (.cells #[.int .i64 1, .int .i64 2] 3)).trans hS2
      go_wp2_with fail
      go_ret
      exact ⟨_, m2, rfl, h2.alloc _, hS3.alloc _, Tell.lit h2 hS3.kp.size one⟩
    | some o =>
      obtain ⟨hol2, hne, i, hi, hmo⟩ := hF.stays_in e3
      rw [e3] at hl2
      simp only [Option.getD_some, Option.isSome_some] at hl2
      have hse1 := fun (W : World) (hW : HeldT w0 A B P W m u) => seenT_c (k := one) (by omega) hW
      have hse2 := fun (W : World) (hW : HeldT w0 A B P W m u) => seenT_c (k := o) (by omega) hW
      by_cases e4 : u.seen one ≤ u.seen o
      · have hst : u.stays one = none := by unfold Tv.stays; rw [e3]; exact if_pos e4
        have d4 : decide ((u.seen one : Int) ≤ (u.seen o : Int)) = true := decide_eq_true (by omega)
        rw [hst]
        simp only
        have hr := fun (W : World) (hW : HeldT w0 A B P W m u) => removeT_c (k := one) (by unfold maxLen; omega) hW
        clear hF hst e3 hmo
        go_enter Tryz.func58, Tryz.ntmps58
        go_wp2_with fail
        refine hl.mono ?_
        rintro e w' ⟨rfl, rfl⟩
        go_wp2_with fail
        refine ht.mono ?_
        rintro e w1 ⟨rfl, hx⟩
        have hS1 := HB.out.s.trans hx.s
        go_wp2_with fail
        refine (hl2 _ _ (Blk.new w1 3 _) (hx.h.alloc _)).mono ?_
        rintro e w' ⟨rfl, rfl⟩
        have hx3 := hx.alloc (.cells #[.int .i64 1, .int .i64 2] 3)
        go_wp2_with fail
        refine (hse1 _ hx3.h).mono ?_
        rintro e w' ⟨rfl, n1, rfl⟩
        have hx4 := hx3.drewN n1
        go_wp2_with fail
        refine (hse2 _ hx4.h).mono ?_
        rintro e w' ⟨rfl, n2, rfl⟩
        have hx5 := hx3.drewN (n1 + n2)
        go_wp2_with fail
        refine (hr _ hx5.h).mono ?_
        rintro e w2 ⟨rfl, m2, h2, hS2⟩
        have hS3 := (((hS1.alloc (.cells #[.int .i64 1, .int .i64 2] 3)).drewN (n1 + n2))).trans hS2
        go_wp2_with fail
        go_ret
        exact ⟨_, m2, rfl, h2.alloc _, hS3.alloc _, Tell.lit h2 hS3.kp.size one⟩
      · have hst : u.stays one = some o := by unfold Tv.stays; rw [e3]; exact if_neg e4
        have d4 : decide ((u.seen one : Int) ≤ (u.seen o : Int)) = false := decide_eq_false (by omega)
        rw [hst]
        simp only
        have hr := fun (W : World) (hW : HeldT w0 A B P W m u) => removeT_c (k := o) (by unfold maxLen; omega) hW
        have hc : (u.dr o).can one := (hF.fit.dr o).in_ (hF.fit.dr o).n (i := 0) (by omega) (Tv.mem_dr.2 ⟨hF.mem, fun e => hne e.symm⟩)
        clear hF hst e3 hmo
        go_enter Tryz.func58, Tryz.ntmps58
        go_wp2_with fail
        refine hl.mono ?_
        rintro e w' ⟨rfl, rfl⟩
        go_wp2_with fail
        refine ht.mono ?_
        rintro e w1 ⟨rfl, hx⟩
        have hS1 := HB.out.s.trans hx.s
        go_wp2_with fail
        refine (hl2 _ _ (Blk.new w1 3 _) (hx.h.alloc _)).mono ?_
        rintro e w' ⟨rfl, rfl⟩
        have hx3 := hx.alloc (.cells #[.int .i64 1, .int .i64 2] 3)
        go_wp2_with fail
        refine (hse1 _ hx3.h).mono ?_
        rintro e w' ⟨rfl, n1, rfl⟩
        have hx4 := hx3.drewN n1
        go_wp2_with fail
        refine (hse2 _ hx4.h).mono ?_
        rintro e w' ⟨rfl, n2, rfl⟩
        have hx5 := hx3.drewN (n1 + n2)
        go_wp2_with fail
        refine (hr _ hx5.h).mono ?_
        rintro e w2 ⟨rfl, m2, h2, hS2⟩
        have hS3 := (((hS1.alloc (.cells #[.int .i64 1, .int .i64 2] 3)).drewN (n1 + n2))).trans hS2
        obtain ⟨c0, c1, c2⟩ := h2.cells
        go_wp2_with fail
        refine (front_t (j := 1) (by omega) hol hc h2).mono ?_
        rintro e w3 ⟨rfl, m3, h3, hS4⟩
        have hS5 := hS3.trans hS4
        go_wp2_with fail
        go_ret
        exact ⟨_, m3, rfl, h3.alloc _, hS5.alloc _, Tell.lit h3 hS5.kp.size o⟩
end
end Go.Proofs.YtgfpedcdclgmiaaGreat.Tinyy

namespace Go.Proofs.YtgfpedcdclgmiaaGreat.Tinyy
open Go.ChangeShapes Go.WideShapes Go.ChangeAt Go.RowKit
open Wirey (Blk Row str str_size str_list Kp)
open Ringy
open Sketchy (Sk ksOf Six)

section
variable {w0 w w' w'' : World} {A B P : Nat} {m m' m'' : Rm} {v u : Tv} {k one : Key}
set_option maxHeartbeats 4000000 in
set_option maxRecDepth 100000 in
theorem insert_new (hk : k.length ≤ 64) (hno : v.has k = false) (hok : v.Ok) (h : HeldT w0 A B P w m v) :
    Calls Tryz.prog 24 #[.pointer (some ⟨A, 0, none⟩), .string (str k)] w fun e w' => ∃ val m', e = .returned val ∧ HeldT w0 A B P w' m' (v.fresh k) ∧ StepT B w m w' m' ∧ Tell w.heap.size B m' val (v.freshK k) w' := by
  have hm := made_c h
  have hsz := str_size k
  have hat : v.at_ k = none := by unfold Tv.has at hno; cases e : v.at_ k with | none => rfl | some i => rw [e] at hno; cases hno
  have hto : v.touch k = v := by unfold Tv.touch; rw [hat]
  have ht := touchT_c (k := k) (by unfold maxLen; omega) hok h
  rw [hno, hto] at ht
  have hn := fun (W : World) (m1 : Rm) (hW : HeldT w0 A B P W m1 v) => note_t (k := k) (by omega) hW
  have hf := fun (W : World) (m1 : Rm) (hW : HeldT w0 A B P W m1 (v.note k)) => front_t (j := 0) (by omega) hk ((hok.note k).fit.room (hok.note k).kept) hW
  obtain ⟨c0, c1, c2⟩ := h.cells
  have hmo : (v.came k).most = v.most := rfl
  have hm1 := hok.fit.m1
  have hm2 := hok.fit.m2
  have hkept : (v.came k).len 0 ≤ wMost v.most → (v.came k).kept ≤ v.most := fun hw => by
    have hI := Tv.ins_spec hok hk
    have h1 : v.ins k = v.came k := by unfold Tv.ins; rw [if_neg (by rw [hno]; decide)]; exact if_pos hw
    rw [h1] at hI
    exact hI.ok.kept
  have hF := fun hw => Tv.full_of hok hk hno hw
  have hq1 : (v.came k).len 0 ≤ wMost v.most → v.fresh k = v.came k ∧ v.freshK k = [] := fun hw => ⟨if_pos hw, if_pos hw⟩
  have hq2 : ¬ (v.came k).len 0 ≤ wMost v.most → v.fresh k = (v.came k).leave ∧ v.freshK k = (v.came k).leaveK := fun hw => ⟨if_neg hw, if_neg hw⟩
  have hc : v.came k = (v.note k).fr 0 k := rfl
  rw [← hc] at hf
  generalize v.fresh k = s at *
  generalize v.freshK k = sk at *
  generalize v.came k = u at *
  clear h hno hat hto hok hc
  go_enter Tryz.func24, Tryz.ntmps24
  go_wp2_with fail
  refine hm.mono ?_
  rintro e w' ⟨rfl, rfl⟩
  go_wp2_with fail
  refine ht.mono ?_
  rintro e w1 ⟨rfl, m1, h1, hS1⟩
  clear c0 c1 c2 hm ht
  obtain ⟨c0, c1, c2⟩ := h1.cells
  go_wp2_with fail
  refine (hn _ _ h1).mono ?_
  rintro e w2 ⟨rfl, h2, hS2⟩
  clear c0 c1 c2 hn
  obtain ⟨c0, c1, c2⟩ := h2.cells
  go_wp2_with fail
  refine (hf _ _ h2).mono ?_
  rintro e w3 ⟨rfl, m3, h3, hS3⟩
  clear c0 c1 c2 hf
  obtain ⟨c0, c1, c2⟩ := h3.cells
  rw [hmo] at c0
  have hS := (hS1.trans hS2).trans hS3
  have hB := Beside.of h3
  have hd := b1 hB.drew
  rw [hmo] at hd
  have hf0 := fun W => field0 (wMost v.most : Int) (sMost v.most : Int) W
  have hl0 := h3.fit.len_le (i := 0) (by omega)
  by_cases hw : u.len 0 ≤ wMost v.most
  · have d1 : decide ((wMost v.most : Int) < (u.len 0 : Int)) = false := decide_eq_false (by omega)
    have d3 : decide (wMost v.most < u.len 0) = false := decide_eq_false (by omega)
    have d4 : ¬ wMost v.most < u.len 0 := by omega
    have d2 : decide (u.most < u.kept) = false := decide_eq_false (by have := hkept hw; omega)
    have HQ := Lib.hid (hq1 hw)
    have htm := fun (W : World) (hW : HeldT w0 A B P W m3 u) => tooMany_c hW
    rw [d2] at htm
    clear hq1 hq2 hF hkept hw
    have HMO := Lib.hid hmo
    clear hmo
    go_wp2_with fail
    go_region_held3 (fun w' => w'.cell? ⟨A, 0, none⟩ = some (.int .i64 (v.most : Int)) ∧ w'.cell? ⟨A, 2, none⟩ = some (.pointer (some ⟨P, 0, none⟩)) ∧ Beside w0 A B P w3 m3 u w')
      (first | exact ⟨hd.1, hd.2.h.cells.2.2, hd.2⟩ | exact b3A HMO.out (by assumption) _ | exact b3D HMO.out (by assumption) | exact b3 HMO.out (by assumption) | exact b3 HMO.out (Beside.drewN hB _) | go_keep)
      (first | (go_at_call 55; refine (onto (s3 (by assumption)) (len_t (i := 0) (by omega) (s3 (by assumption)).h)).mono ?_; rintro e wv ⟨rfl, hbv⟩) | (go_at_call 56; refine (parts_c hm1 hm2 _).mono ?_; rintro e wv ⟨rfl, o, rfl⟩) | (go_at_call 57; refine (ontoB (s3 (by assumption)) (htm _ (s3 (by assumption)).h)).mono ?_; rintro e wv ⟨rfl, hbv⟩))
    have hS5 := hS.trans hbv.s
    go_wp2_with fail
    go_ret
    obtain ⟨q1, q2⟩ := HQ.out
    rw [q1, q2]
    exact ⟨_, m3, rfl, hbv.h, hS5, Tell.nil _ _ _ _⟩
  · have d1 : decide ((wMost v.most : Int) < (u.len 0 : Int)) = true := decide_eq_true (by omega)
    have d3 : decide (wMost v.most < u.len 0) = true := decide_eq_true (by omega)
    have d4 : wMost v.most < u.len 0 := by omega
    have HQ := Lib.hid (hq2 hw)
    obtain ⟨one, hF⟩ := hF hw
    clear hq1 hq2 hkept hw
    have HMO := Lib.hid hmo
    clear hmo
    go_wp2_with fail
    refine region_only 16 #[false, false, false, false, false, false, false, false, false, false, false, false, false, false, false, false] (S := (fun W => W.cell? ⟨A, 0, none⟩ = some (.int .i64 (v.most : Int)) ∧ W.cell? ⟨A, 2, none⟩ = some (.pointer (some ⟨P, 0, none⟩)) ∧ Beside w0 A B P w3 m3 u W)) rfl rfl (by kernel_rfl) (b3 HMO.out hB.drew) (fun hSw => ?_)
    refine take_at 0 30 (fuel := 15) ?_ rfl rfl (by kernel_rfl) (by kernel_rfl) (by kernel_rfl) (Or.inl ⟨by rfl, ?_⟩) hSw ?_
    rotate_left
    · intro wx hSx
      (try dsimp only at hSx)
      go_split_ands
      go_simp
      (try with_reducible rfl)
    simp only [List.setIfInBounds_toArray, List.set_cons_zero, List.set_cons_succ]
    refine take_at 1 31 (fuel := 14) ?_ rfl rfl (by kernel_rfl) (by kernel_rfl) (by kernel_rfl) (Or.inl ⟨by rfl, ?_⟩) hSw ?_
    rotate_left
    · intro wx hSx
      (try dsimp only at hSx)
      go_split_ands
      go_simp
      (try with_reducible rfl)
    simp only [List.setIfInBounds_toArray, List.set_cons_zero, List.set_cons_succ]
    refine take_at 2 32 (fuel := 13) ?_ rfl rfl (by kernel_rfl) (by kernel_rfl) (by kernel_rfl) (Or.inl ⟨by rfl, ?_⟩) hSw ?_
    rotate_left
    · intro wx hSx
      (try dsimp only at hSx)
      go_split_ands
      go_simp
      (try with_reducible rfl)
    simp only [List.setIfInBounds_toArray, List.set_cons_zero, List.set_cons_succ]
    refine take_at 3 33 (fuel := 12) ?_ rfl rfl (by kernel_rfl) (by kernel_rfl) (by kernel_rfl) (Or.inl ⟨by rfl, ?_⟩) hSw ?_
    rotate_left
    · intro wx hSx
      (try dsimp only at hSx)
      go_split_ands
      go_simp
      (try with_reducible rfl)
    simp only [List.setIfInBounds_toArray, List.set_cons_zero, List.set_cons_succ]
    refine take_at 5 35 (fuel := 11) ?_ rfl rfl (by kernel_rfl) (by kernel_rfl) (by kernel_rfl) (Or.inl ⟨by rfl, ?_⟩) hSw ?_
    rotate_left
    · intro wx hSx
      (try dsimp only at hSx)
      go_split_ands
      go_simp
      (try with_reducible rfl)
    simp only [List.setIfInBounds_toArray, List.set_cons_zero, List.set_cons_succ]
    refine take_at 6 36 (fuel := 10) ?_ rfl rfl (by kernel_rfl) (by kernel_rfl) (by kernel_rfl) (Or.inl ⟨by rfl, ?_⟩) hSw ?_
    rotate_left
    · intro wx hSx
      (try dsimp only at hSx)
      go_split_ands
      go_simp
      (try with_reducible rfl)
    simp only [List.setIfInBounds_toArray, List.set_cons_zero, List.set_cons_succ]
    refine take_at 7 37 (fuel := 9) ?_ rfl rfl (by kernel_rfl) (by kernel_rfl) (by kernel_rfl) (Or.inl ⟨by rfl, ?_⟩) hSw ?_
    rotate_left
    · intro wx hSx
      (try dsimp only at hSx)
      go_split_ands
      go_simp
      (try with_reducible rfl)
    simp only [List.setIfInBounds_toArray, List.set_cons_zero, List.set_cons_succ]
    refine take_at 8 38 (fuel := 8) ?_ rfl rfl (by kernel_rfl) (by kernel_rfl) (by kernel_rfl) (Or.inl ⟨by rfl, ?_⟩) hSw ?_
    rotate_left
    · intro wx hSx
      (try dsimp only at hSx)
      go_split_ands
      go_simp
      (try with_reducible rfl)
    simp only [List.setIfInBounds_toArray, List.set_cons_zero, List.set_cons_succ]
    refine wpAnyH_ready (fuel := 7) (rs := [4]) (by kernel_rfl) (by simp) (AllReadyH.cons rfl (fun K hK => ?_) AllReadyH.nil)
    go_simp
    refine Calls.mono (onto (s3 hSw) (len_t (i := 0) (by omega) (s3 hSw).h)) ?_
    rintro e wv ⟨rfl, hbv⟩
    refine hK.out _ _ (b3 HMO.out hbv) (fun hSw => ?_)
    clear hK K
    simp only [List.setIfInBounds_toArray, List.set_cons_zero, List.set_cons_succ]
    refine wpAnyH_ready (fuel := 6) (rs := [9]) (by kernel_rfl) (by simp) (AllReadyH.cons rfl (fun K hK => ?_) AllReadyH.nil)
    go_simp
    refine Calls.mono (parts_c hm1 hm2 _) ?_
    rintro e wv ⟨rfl, o, rfl⟩
    refine hK.out _ _ (b3A HMO.out hSw o) (fun hSw => ?_)
    clear hK K
    simp only [List.setIfInBounds_toArray, List.set_cons_zero, List.set_cons_succ]
    refine take_at 10 40 (fuel := 5) ?_ rfl rfl (by kernel_rfl) (by kernel_rfl) (by kernel_rfl) (Or.inl ⟨by rfl, ?_⟩) hSw ?_
    rotate_left
    · intro wx hSx
      (try dsimp only at hSx)
      go_split_ands
      go_simp
      (try with_reducible rfl)
    simp only [List.setIfInBounds_toArray, List.set_cons_zero, List.set_cons_succ]
    refine take_at 11 41 (fuel := 4) ?_ rfl rfl (by kernel_rfl) (by kernel_rfl) (by kernel_rfl) (Or.inl ⟨by rfl, ?_⟩) hSw ?_
    rotate_left
    · intro wx hSx
      (try dsimp only at hSx)
      go_split_ands
      go_simp
      (try with_reducible rfl)
    simp only [List.setIfInBounds_toArray, List.set_cons_zero, List.set_cons_succ]
    refine take_at 12 42 (fuel := 3) ?_ rfl rfl (by kernel_rfl) (by kernel_rfl) (by kernel_rfl) (Or.inl ⟨by rfl, ?_⟩) hSw ?_
    rotate_left
    · intro wx hSx
      (try dsimp only at hSx)
      go_split_ands
      go_simp
      (try with_reducible rfl)
    simp only [List.setIfInBounds_toArray, List.set_cons_zero, List.set_cons_succ]
    refine take_at 13 43 undef (fuel := 2) rfl rfl (by kernel_rfl) (by kernel_rfl) (by kernel_rfl) (Or.inr ⟨by rfl, rfl⟩) hSw ?_
    simp only [List.setIfInBounds_toArray, List.set_cons_zero, List.set_cons_succ]
    refine take_at 14 44 undef (fuel := 1) rfl rfl (by kernel_rfl) (by kernel_rfl) (by kernel_rfl) (Or.inr ⟨by rfl, rfl⟩) hSw ?_
    simp only [List.setIfInBounds_toArray, List.set_cons_zero, List.set_cons_succ]
    refine take_at 15 45 (fuel := 0) ?_ rfl rfl (by kernel_rfl) (by kernel_rfl) (by kernel_rfl) (Or.inl ⟨by rfl, ?_⟩) hSw ?_
    rotate_left
    · intro wx hSx
      (try dsimp only at hSx)
      go_split_ands
      go_simp
      (try with_reducible rfl)
    simp only [List.setIfInBounds_toArray, List.set_cons_zero, List.set_cons_succ]
    refine wpAnyH_done (by kernel_rfl) ⟨rfl, ?_⟩ 0
    have hx := s3 hSw
    have hS5 := hS.trans hx.s
    clear hSw c0 c1 c2 hd
    go_wp2_with fail
    refine (leave_c hF hx.h).mono ?_
    rintro e w5 ⟨val, m5, rfl, h5, hS6, hT⟩
    go_wp2_with fail
    go_ret
    obtain ⟨q1, q2⟩ := HQ.out
    rw [q1, q2]
    exact ⟨_, m5, rfl, h5, hS5.trans hS6, hT.low hS5.kp.size⟩
theorem insertT_c (hk : k.length ≤ maxLen) (hok : v.Ok) (h : HeldT w0 A B P w m v) :
    Calls Tryz.prog 24 #[.pointer (some ⟨A, 0, none⟩), .string (str k)] w fun e w' => ∃ val m', e = .returned val ∧ HeldT w0 A B P w' m' (v.insert k) ∧ StepT B w m w' m' ∧ Tell w.heap.size B m' val (v.insertK k) w' := by
  unfold Tv.insert Tv.insertK
  by_cases hl : 64 < k.length
  · rw [if_pos hl, if_pos hl]
    have hm := made_c h
    have HH := Lib.hid h
    have hsz := str_size k
    clear h
    unfold maxLen at hk
    go_enter Tryz.func24, Tryz.ntmps24
    go_wp2_with fail
    refine hm.mono ?_
    rintro e w' ⟨rfl, rfl⟩
    go_wp2_with fail
    go_ret
    exact ⟨_, rfl, m, HH.out, StepT.refl _ _ _, Tell.nil _ _ _ _⟩
  · rw [if_neg hl, if_neg hl]
    unfold Tv.ins Tv.insK
    by_cases hh : v.has k = true
    · rw [if_pos hh, if_pos hh]
      have hm := made_c h
      have hsz := str_size k
      have ht := touchT_c hk hok h
      rw [hh] at ht
      clear h hh hok
      generalize v.touch k = s at *
      go_enter Tryz.func24, Tryz.ntmps24
      go_wp2_with fail
      refine hm.mono ?_
      rintro e w' ⟨rfl, rfl⟩
      go_wp2_with fail
      refine ht.mono ?_
      rintro e w2 ⟨rfl, m2, h2, hS2⟩
      go_wp2_with fail
      go_ret
      exact ⟨_, m2, rfl, h2, hS2, Tell.nil _ _ _ _⟩
    · rw [if_neg hh, if_neg hh]
      rw [Bool.not_eq_true] at hh
      exact insert_new (by omega) hh hok h
end

/-! What makes one -/
theorem Held.low {w0 w1 w : World} {P : Nat} {m : Rm} {r : Rg} (h : Held w1 P w m r) (hb : Below w0.heap.size w0 w1) : Held w0 P w m r :=
  ⟨h.R, h.at_, hb.trans (h.below.mono hb.size), fun b ho => Nat.le_trans hb.size (h.own b ho)⟩
set_option maxHeartbeats 1000000 in
theorem newT_c {n seed : Nat} (h1 : 1 ≤ n) (h2 : n ≤ 1000) (h3 : seed < 18446744073709551616) (w : World) :
    Calls Tryz.prog 4 #[.int .i64 (n : Int), .int .u64 (seed : Int)] w fun e w' => ∃ A m, e = .returned (.tuple #[.pointer (some ⟨A, 0, none⟩), .int .i64 0]) ∧ HeldT w A w.heap.size (w.heap.size + 8) w' m (Tv.new n seed) := by
  have hmk := fun W => mayKeep_yes h1 h2 W
  have hwd := wideOf_le h1
  have hwi : ∀ W, Calls Tryz.prog 18 #[.int .i64 (n : Int)] W fun e w' => e = .returned (.int .i64 (wideOf n : Int)) ∧ W = w' := fun W => by
    have hw : wideOf n = min (8 * n) 4096 := rfl
    have HW := Lib.hid hw
    clear hw hwd
    generalize wideOf n = z at *
    go_enter Tryz.func18, Tryz.ntmps18
    go_wp2_with fail
    all_goals
      go_ret
      refine ⟨congrArg Ending.returned (congrArg (Value.int .i64) ?_), rfl⟩
      have := HW.out
      omega
  have hpl : ∀ W, Calls Tryz.prog 20 #[.int .i64 (n : Int)] W fun e w' => e = .returned (.int .i64 ((n + 1 : Nat) : Int)) ∧ W = w' := fun W => by
    go_enter Tryz.func20, Tryz.ntmps20
    go_wp2_with fail
    go_ret
    exact ⟨by simp, rfl⟩
  have hs := Sketchy.new_c (n := wideOf n) (seed := seed) hwd.1 hwd.2 w
  have hN := fun W => new_h (n := 3) (places := n + 1) (by omega) (by omega) (by omega) W
  have hok := Tv.new_ok h1 h2 h3
  go_enter Tryz.func4, Tryz.ntmps4
  go_wp2_with fail
  refine (hmk _).mono ?_
  rintro e w' ⟨rfl, rfl⟩
  go_wp2_with fail
  refine (hwi _).mono ?_
  rintro e w' ⟨rfl, rfl⟩
  go_wp2_with fail
  refine hs.mono ?_
  rintro e w1 ⟨rfl, hA, hb1, hz1⟩
  go_wp2_with fail
  refine (hpl _).mono ?_
  rintro e w' ⟨rfl, rfl⟩
  go_wp2_with fail
  refine (hN _).mono ?_
  rintro e w2 ⟨rfl, m, hH⟩
  go_wp2_with fail
  go_ret2
  have hz2 := hH.below.size
  have hH1 := Held.low hH hb1
  have e8 : w1.heap.size + 2 = w.heap.size + 8 := by omega
  rw [e8] at hH1
  have hH2 := hH1.alloc (.cells #[.int .i64 (n : Int), .pointer (some ⟨w.heap.size + 1, 0, none⟩), .pointer (some ⟨w.heap.size + 6 + 2, 0, none⟩)] 58)
  have hlt := hH.lt
  have hown := hH.own
  refine ⟨w2.heap.size, m, rfl, hH2, (at_six hA (fun b hb => hH.below.block b (by have := hb.2; omega))).alloc _, Blk.new w2 _ _, by omega, Nat.le_refl _, fun ho => by have := hlt _ ho; omega, fun b hb => ⟨by have := hb.2; omega, fun ho => by have := hown b ho; have := hb.2; omega⟩, hok.fit⟩
theorem newT_no {n seed : Int} (h : n < 1 ∨ 1000 < n) (w : World) :
    Calls Tryz.prog 4 #[.int .i64 n, .int .u64 seed] w fun e w' => e = .returned (.tuple #[.pointer none, .int .i64 1]) ∧ w = w' := by
  have hmk : Calls Tryz.prog 16 #[.int .i64 n] w fun e w' => e = .returned (.bool false) ∧ w = w' := by
    by_cases h1 : n < 1
    · have d1 : decide (1 ≤ n) = false := decide_eq_false (by omega)
      clear h
      go_enter Tryz.func16, Tryz.ntmps16
      go_wp2_with fail
      go_ret
      exact ⟨rfl, rfl⟩
    · have d1 : decide (1 ≤ n) = true := decide_eq_true (by omega)
      have d2 : decide (n ≤ 1000) = false := decide_eq_false (by omega)
      clear h
      go_enter Tryz.func16, Tryz.ntmps16
      go_wp2_with fail
      go_ret
      exact ⟨rfl, rfl⟩
  clear h
  go_enter Tryz.func4, Tryz.ntmps4
  go_wp2_with fail
  refine hmk.mono ?_
  rintro e w' ⟨rfl, rfl⟩
  go_wp2_with fail
  go_ret2
  exact ⟨rfl, rfl⟩
end Go.Proofs.YtgfpedcdclgmiaaGreat.Tinyy

namespace Go.Proofs.YtgfpedcdclgmiaaGreat.Tinyy
open Go.ChangeShapes Go.WideShapes Go.ChangeAt Go.RowKit
open Wirey (Blk Row str str_size str_list str_take Kp)
open Ringy
open Sketchy (Sk ksOf ksOf_lt Six upRow)

/-! A key by itself -/
/-- All that a sketch has of a key is that it was added m times. -/
structure Exact (s : Sk) (ks : Nat → Nat) (m : Nat) : Prop where
  bit : s.bit ks = decide (0 < m)
  cnt : ∀ i, i < 4 → s.cnt ks i = m - 1
theorem lst_of {s : Sk} {ks : Nat → Nat} {m : Nat} (hm : m ≤ 15) : ∀ j, 1 ≤ j → (∀ i, i < j → s.cnt ks i = m) → s.lst ks j = m
  | 1, _, h => by
    show min 15 (s.cnt ks 0) = m
    rw [h 0 (by omega)]; omega
  | j + 2, _, h => by
    show min (s.lst ks (j + 1)) (s.cnt ks (j + 1)) = m
    rw [lst_of hm (j + 1) (by omega) (fun i hi => h i (by omega)), h (j + 1) (by omega)]; omega
section
variable {s : Sk} {ks ks' : Nat → Nat} {m : Nat}
theorem Exact.lst (h : Exact s ks m) (hm : m ≤ 16) : s.lst ks 4 = m - 1 := lst_of (by omega) 4 (by omega) h.cnt
theorem Exact.seen (h : Exact s ks m) (hm : m ≤ 16) : s.seen ks = m := by
  unfold Sk.seen
  rw [h.lst hm, h.bit]
  by_cases e : 0 < m
  · rw [decide_eq_true e, if_pos rfl]; omega
  · rw [decide_eq_false e, if_neg (by decide)]; omega
theorem Exact.same (h : Exact s ks m) (hp : s.Pre) (hk : ∀ i, i < 5 → ks i < s.wide) (hm : m < 16) : Exact (s.note ks) ks (m + 1) := by
  unfold Sk.note
  rw [h.bit]
  by_cases e : 0 < m
  · rw [decide_eq_true e, if_pos rfl]
    unfold Sk.grow
    rw [if_neg (by rw [h.lst (by omega)]; omega)]
    refine ⟨?_, fun i hi => ?_⟩
    · show s.bit ks = _
      rw [h.bit, decide_eq_true e, decide_eq_true (by omega)]
    · show (if i < 4 then upRow (s.r i) (ks i) (s.lst ks 4) else s.r i)[ks i]?.getD 0 = _
      rw [if_pos hi, h.lst (by omega)]
      unfold upRow
      have hc : (s.r i)[ks i]?.getD 0 = m - 1 := h.cnt i hi
      rw [if_pos hc, List.getElem?_set, if_pos rfl, if_pos (by rw [hp.len i hi]; exact hk i (by omega))]
      show m - 1 + 1 = m + 1 - 1
      omega
  · obtain rfl : m = 0 := by omega
    rw [decide_eq_false e, if_neg (by decide)]
    refine ⟨?_, fun i hi => h.cnt i hi⟩
    show ((s.door.set (ks 4) true)[ks 4]?.getD false) = _
    rw [List.getElem?_set, if_pos rfl, if_pos (by rw [hp.dlen]; exact hk 4 (by omega))]
    rfl
theorem Exact.other (h : Exact s ks m) (hne : ∀ i, i < 5 → ks' i ≠ ks i) : Exact (s.note ks') ks m := by
  unfold Sk.note
  split
  · unfold Sk.grow
    split
    · exact h
    · refine ⟨h.bit, fun i hi => ?_⟩
      show (if i < 4 then upRow (s.r i) (ks' i) (s.lst ks' 4) else s.r i)[ks i]?.getD 0 = _
      rw [if_pos hi]
      unfold upRow
      split
      · rw [List.getElem?_set, if_neg (hne i (by omega))]; exact h.cnt i hi
      · exact h.cnt i hi
  · refine ⟨?_, h.cnt⟩
    show ((s.door.set (ks' 4) true)[ks 4]?.getD false) = _
    rw [List.getElem?_set, if_neg (hne 4 (by omega))]
    exact h.bit
end
/-- A small sketch that has not aged yet. -/
structure Young (v : Tv) (seed n : Nat) : Prop where
  ok : v.Ok
  wide : v.sk.wide = 16
  seed : v.sk.seed = seed
  added : v.sk.added = n
def kAt (seed : Nat) (k : Key) : Nat → Nat := ksOf (Mixy.text seed k) 16
theorem kAt_lt {seed : Nat} {k : Key} (i : Nat) : kAt seed k i < 16 := ksOf_lt (by omega) i
section
variable {v : Tv} {seed n : Nat} {k x : Key} {m : Nat}
theorem Young.ks (h : Young v seed n) (k : Key) : v.ks k = kAt seed k := by unfold Tv.ks kAt; rw [h.wide, h.seed]
theorem Young.add (h : Young v seed n) (hn : n < 159) (k : Key) : (v.note k).sk = (v.sk.note (kAt seed k)).count := by
  show v.sk.add (v.ks k) = _
  rw [h.ks]
  unfold Sk.add
  rw [if_neg (by rw [h.wide, h.added]; omega)]
theorem Young.note (h : Young v seed n) (hn : n < 159) (k : Key) : Young (v.note k) seed (n + 1) := by
  refine ⟨h.ok.note k, Tv.note_wide.trans h.wide, Tv.note_seed.trans h.seed, ?_⟩
  rw [h.add hn]
  show (v.sk.note (kAt seed k)).added + 1 = n + 1
  rw [Sketchy.Sk.note_fix.2.1, h.added]
theorem Young.same (h : Young v seed n) (hn : n < 159) (he : Exact v.sk (kAt seed k) m) (hm : m < 16) : Exact (v.note k).sk (kAt seed k) (m + 1) := by
  rw [h.add hn]
  have := he.same h.ok.fit.sw.pre (fun i _ => by rw [h.wide]; exact kAt_lt i) hm
  exact ⟨this.bit, this.cnt⟩
theorem Young.other (h : Young v seed n) (hn : n < 159) (he : Exact v.sk (kAt seed k) m) (hne : ∀ i, i < 5 → kAt seed x i ≠ kAt seed k i) : Exact (v.note x).sk (kAt seed k) m := by
  rw [h.add hn]
  have := he.other hne
  exact ⟨this.bit, this.cnt⟩
theorem Young.seen (h : Young v seed n) (he : Exact v.sk (kAt seed k) m) (hm : m ≤ 16) : v.seen k = m := by
  unfold Tv.seen
  rw [h.ks]
  exact he.seen hm
end
theorem young_new {seed : Nat} (h : seed < 18446744073709551616) : Young (Tv.new 2 seed) seed 0 := ⟨Tv.new_ok (by omega) (by omega) h, rfl, rfl, rfl⟩
theorem exact_new (seed : Nat) (k : Key) : Exact (Tv.new 2 seed).sk (kAt seed k) 0 := by
  refine ⟨?_, fun i _ => ?_⟩
  · show (List.replicate 16 false)[kAt seed k 4]?.getD false = false
    rw [List.getElem?_eq_getElem (by rw [List.length_replicate]; exact kAt_lt 4), List.getElem_replicate]
    rfl
  · show (List.replicate 16 0)[kAt seed k i]?.getD 0 = 0
    rw [List.getElem?_eq_getElem (by rw [List.length_replicate]; exact kAt_lt i), List.getElem_replicate]
    rfl
/-- The three lists. -/
structure Lie (v : Tv) (a b c : List Key) : Prop where
  most : v.most = 2
  n : v.rg.n = 3
  l0 : v.rg.l 0 = a
  l1 : v.rg.l 1 = b
  l2 : v.rg.l 2 = c
section
variable {v : Tv} {a b c : List Key} {k : Key}
theorem Lie.note (h : Lie v a b c) (k : Key) : Lie (v.note k) a b c := ⟨h.most, h.n, h.l0, h.l1, h.l2⟩
theorem Lie.fr0 (h : Lie v a b c) (k : Key) : Lie (v.fr 0 k) (k :: strike k a) (strike k b) (strike k c) := ⟨h.most, h.n, by rw [← h.l0]; rfl, by rw [← h.l1]; rfl, by rw [← h.l2]; rfl⟩
theorem Lie.fr1 (h : Lie v a b c) (k : Key) : Lie (v.fr 1 k) (strike k a) (k :: strike k b) (strike k c) := ⟨h.most, h.n, by rw [← h.l0]; rfl, by rw [← h.l1]; rfl, by rw [← h.l2]; rfl⟩
theorem Lie.dr (h : Lie v a b c) (k : Key) : Lie (v.dr k) (strike k a) (strike k b) (strike k c) := ⟨h.most, h.n, by rw [← h.l0]; rfl, by rw [← h.l1]; rfl, by rw [← h.l2]; rfl⟩
theorem Lie.at_ (h : Lie v a b c) (k : Key) : v.at_ k = if k ∈ a then some 0 else if k ∈ b then some 1 else if k ∈ c then some 2 else none := by unfold Tv.at_; rw [h.l0, h.l1, h.l2]
theorem Lie.len (h : Lie v a b c) : v.len 0 = a.length ∧ v.kept = a.length + b.length + c.length := by unfold Tv.kept Tv.len; rw [h.l0, h.l1, h.l2]; exact ⟨rfl, rfl⟩
end
/-- A key comes first of all. -/
theorem ins_first {v : Tv} {k : Key} (h : Lie v [] [] []) (hk : k.length ≤ 64) : v.insert k = v.came k ∧ Lie (v.insert k) [k] [] [] := by
  have hat : v.has k = false := by unfold Tv.has; rw [h.at_]; simp
  have hl := (h.note k).fr0 k
  have hc : (v.came k).len 0 ≤ wMost v.most := by rw [show v.came k = (v.note k).fr 0 k from rfl, hl.len.1, h.most]; show 1 ≤ wMost 2; decide
  have e : v.insert k = v.came k := by
    unfold Tv.insert Tv.ins Tv.fresh
    rw [if_neg (by omega), hat, if_neg (by decide), if_pos hc]
  rw [e]
  exact ⟨rfl, hl⟩
/-- A second one: the first is on trial. -/
theorem ins_second {v : Tv} {k x : Key} (h : Lie v [x] [] []) (hk : k.length ≤ 64) (hne : x ≠ k) : (v.insert k).sk = (v.note k).sk ∧ Lie (v.insert k) [k] [x] [] := by
  have hat : v.has k = false := by unfold Tv.has; rw [h.at_]; simp [Ne.symm hne]
  have hl := (h.note k).fr0 k
  have hs : strike k [x] = [x] := strike_of_not (by simp [Ne.symm hne])
  have hs2 : strike x [k] = [k] := strike_of_not (by simp [hne])
  rw [hs, show strike k [] = [] from rfl] at hl
  have hl : Lie (v.came k) [k, x] [] [] := hl
  have hc : ¬ (v.came k).len 0 ≤ wMost v.most := by rw [hl.len.1, h.most]; show ¬ 2 ≤ wMost 2; decide
  have hlast : (v.came k).last 0 = some x := by unfold Tv.last; rw [hl.l0]; rfl
  have hk2 : (v.came k).kept ≤ (v.came k).most := by rw [hl.len.2, hl.most]; show 2 ≤ 2; decide
  have e : v.insert k = (v.came k).fr 1 x := by
    unfold Tv.insert Tv.ins Tv.fresh Tv.leave
    rw [if_neg (by omega), hat, if_neg (by decide), if_neg hc, hlast]
    exact if_pos hk2
  rw [e]
  have := hl.fr1 x
  rw [show strike x [k, x] = [k] from by rw [show strike x [k, x] = strike x ([k] ++ [x]) from rfl]; unfold strike at hs2 ⊢; rw [List.filter_append, hs2]; simp] at this
  exact ⟨rfl, this⟩
/-- A third one: two are held against each other. -/
theorem ins_third {v : Tv} {k x y : Key} (h : Lie v [y] [x] []) (hk : k.length ≤ 64) (hky : y ≠ k) (hkx : x ≠ k) (hxy : x ≠ y) :
    (v.insert k).sk = (v.note k).sk ∧ v.insertK k = (if (v.note k).seen y ≤ (v.note k).seen x then [y] else [x]) ∧ Lie (v.insert k) [k] (if (v.note k).seen y ≤ (v.note k).seen x then [x] else [y]) [] := by
  have hat : v.has k = false := by unfold Tv.has; rw [h.at_]; simp [Ne.symm hky, Ne.symm hkx]
  have hl := (h.note k).fr0 k
  rw [show strike k [y] = [y] from strike_of_not (by simp [Ne.symm hky]), show strike k [x] = [x] from strike_of_not (by simp [Ne.symm hkx]), show strike k [] = [] from rfl] at hl
  have hl : Lie (v.came k) [k, y] [x] [] := hl
  have hc : ¬ (v.came k).len 0 ≤ wMost v.most := by rw [hl.len.1, h.most]; show ¬ 2 ≤ wMost 2; decide
  have hlast : (v.came k).last 0 = some y := by unfold Tv.last; rw [hl.l0]; rfl
  have hk2 : ¬ (v.came k).kept ≤ (v.came k).most := by rw [hl.len.2, hl.most]; show ¬ 3 ≤ 2; decide
  have hfst : (v.came k).first [1, 2] = some x := by unfold Tv.first Tv.last; rw [hl.l1]; rfl
  have hsn : ∀ z, (v.came k).seen z = (v.note k).seen z := fun z => rfl
  have hst : (v.came k).stays y = if (v.note k).seen y ≤ (v.note k).seen x then none else some x := by unfold Tv.stays; rw [hfst]; rfl
  have e : v.insert k = (v.came k).leaveOf y := by
    unfold Tv.insert Tv.ins Tv.fresh Tv.leave
    rw [if_neg (by omega), hat, if_neg (by decide), if_neg hc, hlast]
    rfl
  have eK : v.insertK k = (v.came k).leaveOfK y := by
    unfold Tv.insertK Tv.insK Tv.freshK Tv.leaveK
    rw [if_neg (by omega), hat, if_neg (by decide), if_neg hc, hlast]
    rfl
  rw [e, eK]
  unfold Tv.leaveOf Tv.leaveOfK
  rw [if_neg hk2, if_neg hk2, hst]
  have s1 : strike y [k, y] = [k] := by unfold strike; simp [Ne.symm hky]
  have s2 : strike y [x] = [x] := strike_of_not (by simp [Ne.symm hxy])
  have s3 : strike x [k, y] = [k, y] := strike_of_not (by simp [hkx, hxy])
  have s4 : strike x [x] = [] := by unfold strike; simp
  by_cases hd : (v.note k).seen y ≤ (v.note k).seen x
  · rw [if_pos hd, if_pos hd, if_pos hd]
    have := hl.dr y
    rw [s1, s2] at this
    exact ⟨rfl, rfl, this⟩
  · rw [if_neg hd, if_neg hd, if_neg hd]
    have := (hl.dr x).fr1 y
    rw [s3, s4, s1] at this
    exact ⟨rfl, rfl, this⟩
/-- One of the window is asked for again. -/
theorem touch_first {v : Tv} {k : Key} {b c : List Key} (h : Lie v [k] b c) (hb : k ∉ b) (hc : k ∉ c) : (v.touch k).sk = (v.note k).sk ∧ v.has k = true ∧ Lie (v.touch k) [k] b c := by
  have hat : v.at_ k = some 0 := by rw [h.at_]; simp
  have e : v.touch k = (v.note k).fr 0 k := by unfold Tv.touch; rw [hat]; rfl
  have := (h.note k).fr0 k
  rw [show strike k [k] = [] from by unfold strike; simp, strike_of_not hb, strike_of_not hc] at this
  rw [e]
  exact ⟨rfl, by unfold Tv.has; rw [hat]; rfl, this⟩
theorem lie_new (seed : Nat) : Lie (Tv.new 2 seed) [] [] [] := ⟨rfl, rfl, rfl, rfl, rfl⟩
theorem Young.of {v v' : Tv} {seed n : Nat} (h : Young v seed n) (hs : v'.sk = v.sk) (hok : v'.Ok) : Young v' seed n := ⟨hok, by rw [hs]; exact h.wide, by rw [hs]; exact h.seed, by rw [hs]; exact h.added⟩

/-! What the laws begin with -/
def wa1 : Tv := (Tv.new 2 1).insert [120]
def wa2 : Tv := wa1.touch [120]
def wa3 : Tv := wa2.touch [120]
def wa4 : Tv := wa3.insert [121]
def wa5 : Tv := wa4.insert [122]
theorem apart1 : (∀ i, i < 5 → kAt 1 [121] i ≠ kAt 1 [120] i) ∧ (∀ i, i < 5 → kAt 1 [122] i ≠ kAt 1 [120] i) ∧ (∀ i, i < 5 → kAt 1 [122] i ≠ kAt 1 [121] i) ∧ (∀ i, i < 5 → kAt 1 [120] i ≠ kAt 1 [121] i) := by decide +kernel
structure Aw : Prop where
  ok1 : wa1.Ok
  ok2 : wa2.Ok
  ok3 : wa3.Ok
  ok4 : wa4.Ok
  ok5 : wa5.Ok
  lie : Lie wa5 [[122]] [[120]] []
  goes : wa4.insertK [122] = [[121]]
  seen : wa5.seen [120] = 3
theorem aw : Aw := by
  obtain ⟨p1, p2, p3, p4⟩ := apart1
  have y0 := young_new (seed := 1) (by omega)
  have x0 := exact_new 1 [120]
  have z0 := exact_new 1 [121]
  obtain ⟨a1, l1⟩ := ins_first (lie_new 1) (k := [120]) (by decide)
  have ok1 : wa1.Ok := (Tv.insert_ok y0.ok _).1
  have s1 : wa1.sk = ((Tv.new 2 1).note [120]).sk := by show ((Tv.new 2 1).insert [120]).sk = _; rw [a1]; rfl
  have y1 : Young wa1 1 1 := (y0.note (by omega) [120]).of s1 ok1
  have x1 : Exact wa1.sk (kAt 1 [120]) 1 := by rw [s1]; exact y0.same (by omega) x0 (by omega)
  have z1 : Exact wa1.sk (kAt 1 [121]) 0 := by rw [s1]; exact y0.other (by omega) z0 p4
  obtain ⟨s2, -, l2⟩ := touch_first (v := wa1) l1 (by simp) (by simp)
  have ok2 : wa2.Ok := (Tv.touch_spec ok1 _).1
  have y2 : Young wa2 1 2 := (y1.note (by omega) [120]).of s2 ok2
  have x2 : Exact wa2.sk (kAt 1 [120]) 2 := by show Exact (wa1.touch [120]).sk _ _; rw [s2]; exact y1.same (by omega) x1 (by omega)
  have z2 : Exact wa2.sk (kAt 1 [121]) 0 := by show Exact (wa1.touch [120]).sk _ _; rw [s2]; exact y1.other (by omega) z1 p4
  obtain ⟨s3, -, l3⟩ := touch_first (v := wa2) l2 (by simp) (by simp)
  have ok3 : wa3.Ok := (Tv.touch_spec ok2 _).1
  have y3 : Young wa3 1 3 := (y2.note (by omega) [120]).of s3 ok3
  have x3 : Exact wa3.sk (kAt 1 [120]) 3 := by show Exact (wa2.touch [120]).sk _ _; rw [s3]; exact y2.same (by omega) x2 (by omega)
  have z3 : Exact wa3.sk (kAt 1 [121]) 0 := by show Exact (wa2.touch [120]).sk _ _; rw [s3]; exact y2.other (by omega) z2 p4
  obtain ⟨s4, l4⟩ := ins_second (v := wa3) (k := [121]) l3 (by decide) (by decide)
  have ok4 : wa4.Ok := (Tv.insert_ok ok3 _).1
  have y4 : Young wa4 1 4 := (y3.note (by omega) [121]).of s4 ok4
  have x4 : Exact wa4.sk (kAt 1 [120]) 3 := by show Exact (wa3.insert [121]).sk _ _; rw [s4]; exact y3.other (by omega) x3 p1
  have z4 : Exact wa4.sk (kAt 1 [121]) 1 := by show Exact (wa3.insert [121]).sk _ _; rw [s4]; exact y3.same (by omega) z3 (by omega)
  obtain ⟨s5, g5, l5⟩ := ins_third (v := wa4) (k := [122]) (x := [120]) (y := [121]) l4 (by decide) (by decide) (by decide) (by decide)
  have ok5 : wa5.Ok := (Tv.insert_ok ok4 _).1
  have yn := y4.note (by omega) [122]
  have xn := y4.other (by omega) x4 p2
  have zn := y4.other (by omega) z4 p3
  have c1 := yn.seen xn (by omega)
  have c2 := yn.seen zn (by omega)
  rw [c1, c2] at g5 l5
  refine ⟨ok1, ok2, ok3, ok4, ok5, l5, g5, ?_⟩
  have y5 : Young wa5 1 5 := yn.of s5 ok5
  have x5 : Exact wa5.sk (kAt 1 [120]) 3 := by show Exact (wa4.insert [122]).sk _ _; rw [s5]; exact xn
  exact y5.seen x5 (by omega)
section
variable {w : World} {base B : Nat} {m : Rm} {val : Value} {k : Key} {l : List Key}
theorem Tell.form (h : Tell base B m val l w) : ∃ a c, val = .slice a l.length c := own_form h.row
theorem Tell.first (h : Tell base B m val (k :: l) w) : ∃ g c, val = .slice (some ⟨g, 0, none⟩) (l.length + 1) c ∧ w.cell? ⟨g, 0, none⟩ = some (.string (str k)) := by
  have hr := h.row
  obtain ⟨g, c, hv, -, -⟩ := hr.form (by simp)
  refine ⟨g, c, hv, ?_⟩
  rw [hv] at hr
  rw [hr.cellAt 0 (by simp)]
  rfl
end
set_option maxHeartbeats 4000000 in
set_option maxRecDepth 100000 in
theorem awakeT_c (w : World) :
    Calls Tryz.prog 6 #[] w fun e w' => e = .returned (.bool true) ∧ Below w.heap.size w w' := by
  have hnew := newT_c (n := 2) (seed := 1) (by omega) (by omega) (by omega) w
  have hk : ∀ c : UInt8, ([c] : Key).length ≤ maxLen := fun c => by unfold maxLen; simp
  have hL := aw.lie
  have t5 : wa5.has [120] = true := by unfold Tv.has; rw [hL.at_]; rfl
  have t6 : wa5.has [122] = true := by unfold Tv.has; rw [hL.at_]; rfl
  have t7 : wa5.kept = 2 := hL.len.2
  have t8 := aw.seen
  have t4 := aw.goes
  have i1 := fun (W : World) (A : Nat) (m : Rm) (h : HeldT w A w.heap.size (w.heap.size + 8) W m (Tv.new 2 1)) => insertT_c (k := [120]) (hk _) (Tv.new_ok (by omega) (by omega) (by omega)) h
  have i2 := fun (W : World) (A : Nat) (m : Rm) (h : HeldT w A w.heap.size (w.heap.size + 8) W m wa1) => touchT_c (k := [120]) (hk _) aw.ok1 h
  have i3 := fun (W : World) (A : Nat) (m : Rm) (h : HeldT w A w.heap.size (w.heap.size + 8) W m wa2) => touchT_c (k := [120]) (hk _) aw.ok2 h
  have i4 := fun (W : World) (A : Nat) (m : Rm) (h : HeldT w A w.heap.size (w.heap.size + 8) W m wa3) => insertT_c (k := [121]) (hk _) aw.ok3 h
  have i5 := fun (W : World) (A : Nat) (m : Rm) (h : HeldT w A w.heap.size (w.heap.size + 8) W m wa4) => insertT_c (k := [122]) (hk _) aw.ok4 h
  have i6 := fun (W : World) (A : Nat) (m : Rm) (h : HeldT w A w.heap.size (w.heap.size + 8) W m wa5) => has_t (k := [120]) (hk _) h
  have i7 := fun (W : World) (A : Nat) (m : Rm) (h : HeldT w A w.heap.size (w.heap.size + 8) W m wa5) => has_t (k := [122]) (hk _) h
  have i8 := fun (W : World) (A : Nat) (m : Rm) (h : HeldT w A w.heap.size (w.heap.size + 8) W m wa5) => lenT_c h
  have i9 := fun (W : World) (A : Nat) (m : Rm) (h : HeldT w A w.heap.size (w.heap.size + 8) W m wa5) => seenT_c (k := [120]) (by decide) h
  rw [t4] at i5
  rw [t5] at i6
  rw [t6] at i7
  rw [t7] at i8
  rw [t8] at i9
  clear t4 t5 t6 t7 t8 hL
  have k0 : str [120] = ⟨#[120]⟩ := rfl
  have k1 : str [121] = ⟨#[121]⟩ := rfl
  have k2 : str [122] = ⟨#[122]⟩ := rfl
  rw [k0] at i1 i2 i3 i6 i9
  rw [k1] at i4
  rw [k2] at i5 i7
  clear hk k0 k2
  go_enter Tryz.func6, Tryz.ntmps6
  go_wp2_with fail
  refine hnew.mono ?_
  rintro e w1 ⟨A, m, rfl, h1⟩
  go_wp2_with fail
  refine (i1 _ _ _ h1).mono ?_
  rintro e w2 ⟨val, m2, rfl, h2, -, -⟩
  go_wp2_with fail
  refine (i2 _ _ _ h2).mono ?_
  rintro e w3 ⟨rfl, m3, h3, -⟩
  go_wp2_with fail
  refine (i3 _ _ _ h3).mono ?_
  rintro e w4 ⟨rfl, m4, h4, -⟩
  go_wp2_with fail
  refine (i4 _ _ _ h4).mono ?_
  rintro e w5 ⟨val, m5, rfl, h5, -, -⟩
  go_wp2_with fail
  refine (i5 _ _ _ h5).mono ?_
  rintro e w6 ⟨val, m6, rfl, h6, -, hT⟩
  obtain ⟨g, c, rfl, hc⟩ := hT.first
  rw [k1] at hc
  clear hT h1 h2 h3 h4 h5 i1 i2 i3 i4 i5 hnew
  go_wp2_with fail
  refine (i6 _ _ _ h6).mono ?_
  rintro e w' ⟨rfl, rfl⟩
  go_wp2_with fail
  refine (i7 _ _ _ h6).mono ?_
  rintro e w' ⟨rfl, rfl⟩
  go_wp2_with fail
  refine (i8 _ _ _ h6).mono ?_
  rintro e w' ⟨rfl, rfl⟩
  go_wp2_with fail
  refine (i9 _ _ _ h6).mono ?_
  rintro e w' ⟨rfl, n, rfl⟩
  go_wp2_with fail
  go_ret
  exact ⟨rfl, (h6.drewN n).below⟩
def fewL (l : List UInt8) : List UInt8 := if 80 < l.length then l.take 80 else l
theorem fewL_le (l : List UInt8) : (fewL l).length ≤ 80 := by
  unfold fewL
  split
  · rw [List.length_take]; omega
  · omega
theorem fewT_c (l : List UInt8) (hl : l.length ≤ maxLen) (w : World) :
    Calls Tryz.prog 8 #[.string (str l)] w fun e w' => e = .returned (.string (str (fewL l))) ∧ w = w' := by
  have hsz := str_size
  have ht := str_take l 80
  unfold maxLen at hl
  by_cases h : 80 < l.length
  · have hf : fewL l = l.take 80 := if_pos h
    rw [hf]
    clear hf
    go_enter Tryz.func8, Tryz.ntmps8
    go_wp2_with fail
    go_ret
    exact ⟨rfl, rfl⟩
  · have hf : fewL l = l := if_neg h
    rw [hf]
    clear hf
    go_enter Tryz.func8, Tryz.ntmps8
    go_wp2_with fail
    go_ret
    exact ⟨rfl, rfl⟩
end Go.Proofs.YtgfpedcdclgmiaaGreat.Tinyy

namespace Go.Proofs.YtgfpedcdclgmiaaGreat.Tinyy
open Go.ChangeShapes Go.WideShapes Go.ChangeAt Go.RowKit Go.Shelf
open Wirey (Blk Row str str_size str_list str_take Kp)
open Ringy Go.ChangeMaps Go.Maps

attribute [local go_sem] Oper.semAt_some

theorem leave_marksP {P : Program} {fn : Func} {tmps : Array Value} {R : Ending → World → Prop} {B : Nat} {v : Value} (H : World → Prop) (hH : ∀ W D o', B ≤ D → H W → W.heap[D]? = some (.deferred (some [])) → H (W.putObj D o')) (hres : ∀ w, H w → (results fn tmps).run P w = .ok v w) (h : ∀ W', H W' → R (.returned v) W') : ∀ (ds : List Deferred) (W : World), H W → Marked B W ds →
    LeavesInM Fence.wide 5 P fn tmps R ds .returning W
  | [], W, h0, _ => ⟨v, hres W h0, h W h0⟩
  | d :: ds, W, h0, ⟨⟨D, h1, h2, h3, h4⟩, h5⟩ => by
    refine ⟨by simp, .inl ⟨D, _, h1, run_takeDeferred h3, leave_marksP H hH hres h ds _ (hH W D _ h2 h0 h3) (h5.keep fun k d' hd' hk => World.putObj_heap_other (fun e => h4 d' hd' (by rw [hk, e])))⟩⟩

/-- A range over the function that Keys handed back. -/
theorem range_keysR {g : Operand} {ps : Array Tmp} {assign body : Code} {Q : Exit → Act → World → Prop} {a : Act} {w : World} {B n₀ : Nat} {l : List Key} (hg : a.eval g = keysF B) (hbox : Boxes w n₀ B l) (hlen : l.length ≤ 1000000) (hps : ps.size = 1)
    (I : List Key → World → Prop) (Ix : Code → List Key → World → Prop) (hI : OwnFrom w.heap.size I) (hIx : ∀ c, OwnFrom w.heap.size (Ix c)) (h0 : I [] w) (a₁ : Key → Act)
    (hassign : ∀ (r : Nat) (x : Key) (W : World) (K : Act → World → Prop), K (a₁ x) W → assign.wpIn (Fence.wide.inRound r) 3 Tryz.prog (Exit.then K (fun _ _ _ => False)) { tmps := (ps.zip #[Value.string (str x)]).foldl (fun t (p, v) => t.setIfInBounds p v) a.tmps, defers := [] } W)
    (hbody : ∀ (v : Value), Blk w B 61 #[v] → w.ownsRow n₀ 9 1 v l.length (strsV l) → ∀ (r : Nat) (pre : List Key) (x : Key) (W : World), I pre W → pre.length < l.length → body.wpIn (Fence.wide.inRound r) 3 Tryz.prog (ownPostG w.heap.size (RowK v) I Ix (pre ++ [x]) W) (a₁ x) W)
    (hdone : ∀ (D : Nat) (W : World), w.heap.size ≤ D → I l W → W.heap[D]? = some (.deferred (some [])) → Q .normal { a with defers := { target := .collected D, args := #[] } :: a.defers } W)
    (hstop : ∀ (D : Nat) (c : Code) (pre : List Key) (W : World), w.heap.size ≤ D → pre <+: l → Ix c pre W → W.heap[D]? = some (.deferred (some [])) → c.wp Tryz.prog Q { a with defers := { target := .collected D, args := #[] } :: a.defers } W) :
    (Code.rangeFunc g ps assign body).wp Tryz.prog Q a w := by
  obtain ⟨v, hb, hrow⟩ := hbox.box
  have hv := hrow.lt
  refine (wpIn_wide (n := 5)).1 (wpIn_rangeFunc_ownG (F := Fence.wide) (n := 5) (w := w) rfl (by omega) (gf := 121) (lb := #[.pointer (some ⟨B, 0, none⟩)]) hg trivial (enters_of Tryz.func121 (by kernel_rfl) rfl)
    (values_stops 4 (by omega) B v l hlen w hb.lt (hb.cell 0) (own_low hrow)) rowK_t (rowK_b fun g e => (hv g e).2) (Below.refl _ _) (fun _ => hps.symm) I Ix hI hIx h0 a₁ hassign (hbody v hb hrow)
    (fun D ys W hD hy hI2 hK => by subst hy; exact hdone D W hD hI2 hK) (fun D c pre W hD hp hx hK => wpIn_wide.2 (hstop D c pre W hD hp hx hK)))
set_option maxHeartbeats 4000000 in
set_option maxRecDepth 100000 in
theorem append_c {n₀ B : Nat} {l : List Key} {w : World} (hbox : Boxes w n₀ B l) (hlen : l.length ≤ 100000) :
    Calls Tryz.prog 105 #[.slice none 0 0, keysF B] w fun e w' => ∃ val, e = .returned val ∧ w'.ownsRow w.heap.size 9 1 val l.length (strsV l) ∧ Below w.heap.size w w' := by
  obtain ⟨i0, hi0, hz0, hz1, hz2⟩ := info_parts str_info
  have bO := Boxed.new w 61 (.slice none 0 0)
  have hB0 : Below w.heap.size w (w.alloc (.cells #[.slice none 0 0] 61)) := (Below.refl _ w).alloc (Nat.le_refl _) _
  have hbox1 : Boxes (w.alloc (.cells #[.slice none 0 0] 61)) n₀ B l := by
    obtain ⟨v, hv, hr⟩ := hbox.box
    exact ⟨⟨v, hv.alloc _, hr.alloc _⟩, hbox.lo⟩
  have hvlt : ∀ v, Blk w B 61 #[v] → ∀ b, v.ownBlock = some b → b < w.heap.size := fun v hv b hb => by
    obtain ⟨v2, hv2, hr⟩ := hbox.box
    have : v = v2 := by
      unfold Blk at hv hv2
      rw [hv] at hv2
      simpa using hv2
    subst this
    exact (hr.lt b hb).2
  have hs1 : (w.alloc (.cells #[.slice none 0 0] 61)).heap.size = w.heap.size + 1 := by simp
  refine calls_marks Tryz.func105 rfl ?_
  simp only [Tryz.ntmps105, List.size_toArray, List.length_cons, List.length_nil, Nat.reduceAdd, Nat.reduceSub, Array.replicate_succ, Array.replicate_zero, List.push_toArray, List.append_toArray, List.nil_append, List.cons_append]
  go_wp2_with fail
  generalize w.alloc (.cells #[.slice none 0 0] 61) = w1 at *
  have HS1 := Lib.hid hs1
  clear hs1
  apply range_keysR (B := B) (l := l) (I := fun pre W => (∃ v, Boxed W w.heap.size 61 v ∧ W.ownsRow w.heap.size 9 1 v pre.length (strsV pre) ∧ True) ∧ Below w.heap.size w W ∧ w1.heap.size ≤ W.heap.size) (Ix := fun _ _ _ => False)
  case hg => rfl
  case hbox => exact hbox1
  case hlen => omega
  case hps => rfl
  case hI =>
    exact OwnFrom.and (Own.from (holdsRow_own w.heap.size w.heap.size 61 9 1 (fun pre : List Key => pre.length) (fun pre => strsV pre) (fun _ _ => True)) _) (ownFrom_of fun s W W' h => ⟨h.2, fun h1 h2 h3 h4 h5 => ⟨⟨h1.trans h.1.os, h2.trans h.1.tape, h3.trans h.1.output, Nat.le_trans h.1.size h4, fun k hk => (h5 k (by have := HS1.out; omega)).trans (h.1.block k hk)⟩, Nat.le_trans h.2 h4⟩⟩)
  case hIx => exact fun c s W W' row h _ _ => h
  case h0 => exact ⟨⟨_, bO, World.ownsRow_nil _ _ _ _, trivial⟩, hB0, Nat.le_refl _⟩
  case hassign =>
    intro r x W K hK
    gi_wp2
    exact hK
  case hbody =>
    rintro v hvb hvr rr pre x W ⟨⟨sv, hsv, hrow, -⟩, hBW, hle⟩ hpl
    have hc := hsv.cell
    gi_wp2_with (gi_at_builtin; refine wpListIn_append_own _ rfl _ _ 61 rfl w.heap.size 9 i0 (.string ⟨#[]⟩) 1 16 Tryz.underlying61 hi0 hz0 hz1 hz2 rfl (by decide) _ _ _ rfl (hrow.alloc _) ⟨W.heap.size, 0, none⟩ 1 1 [.string (str x)] rfl rfl (cell_one_new _ _ _) (by simp [Value.oneCell']) (by unfold maxLen; omega) (by omega) (by have := hBW.size; simp; omega) ?_; intro v' w2 hown' hgrow _; obtain ⟨g', cap', rfl⟩ := ownsRow_succ hown'; obtain ⟨hv1, hv2, hr2, hk2, hb2⟩ := hsv.appended (by decide) hrow hBW.size (Nat.le_refl _) hown' hgrow; have hc1 := hv1.cell; have hf1 := hv1.frozen)
    have hvb2 : ∀ b, v.ownBlock = some b → b < w.heap.size := fun b hb => hvlt v (by
      obtain ⟨v2, hv2, hr2⟩ := hbox.box
      have h2 := hB0.block B hv2.lt
      unfold Blk at hvb hv2 ⊢
      rw [← h2]
      exact hvb) b hb
    refine ⟨hk2.from _, fun g hg => hb2.block g (hvb2 g hg), ⟨_, hv2, ?_, trivial⟩, hBW.trans hb2, Nat.le_trans hle hb2.size⟩
    rw [List.length_append, List.length_singleton, strsV_snoc]
    exact hr2
  case hstop => exact fun _ _ _ _ _ _ h _ => h.elim
  case hdone =>
    rintro D W hD ⟨⟨sv, hsv, hrow, -⟩, hBW, hle⟩ hK
    have hc := hsv.cell
    go_wp2_with fail
    obtain ⟨va, vc, rfl⟩ := own_form hrow
    refine leave_marksP (B := w.heap.size) (fun W' => W'.ownsRow w.heap.size 9 1 (.slice va l.length vc) l.length (strsV l) ∧ Below w.heap.size w W') (fun W D o' hD h hK => ⟨ownsRow_putObj h.1 _ hK rfl, h.2.trans (below_put _ hD (Array.getElem?_eq_some_iff.1 hK).1)⟩) (fun _ _ => results_tmp rfl _ _ _) (fun W' h => ⟨_, rfl, h.1, h.2⟩) _ _ ⟨hrow, hBW⟩ ⟨⟨D, rfl, by have := HS1.out; omega, hK, by simp⟩, trivial⟩
theorem collect_c {n₀ B : Nat} {l : List Key} {w : World} (hbox : Boxes w n₀ B l) (hlen : l.length ≤ 100000) :
    Calls Tryz.prog 70 #[keysF B] w fun e w' => ∃ val, e = .returned val ∧ w'.ownsRow w.heap.size 9 1 val l.length (strsV l) ∧ Below w.heap.size w w' := by
  have h := append_c hbox hlen
  go_enter Tryz.func70, Tryz.ntmps70
  go_wp2_with fail
  refine h.mono ?_
  rintro e w' ⟨val, rfl, hr, hb⟩
  go_wp2_with fail
  go_ret
  exact ⟨_, rfl, hr, hb⟩
section
variable {w0 w w' : World} {A B P : Nat} {m : Rm} {v : Tv}
theorem blk3_set {W : World} {g : Nat} {V : Nat → Value} {j : Nat} (hj : j < 3) (u : Value) (h : Blk W g 76 #[V 0, V 1, V 2]) :
    Blk (W.setCell ⟨g, j, none⟩ u) g 76 #[(fun t => if t = j then u else V t) 0, (fun t => if t = j then u else V t) 1, (fun t => if t = j then u else V t) 2] := by
  have := h.put j u
  rcases (by omega : j = 0 ∨ j = 1 ∨ j = 2) with rfl | rfl | rfl
  · exact this
  · exact this
  · exact this
set_option maxHeartbeats 4000000 in
set_option maxRecDepth 100000 in
theorem listsT_c (h : HeldT w0 A B P w m v) :
    Calls Tryz.prog 37 #[.pointer (some ⟨A, 0, none⟩)] w fun e w' => ∃ V : Nat → Value, e = .returned (.agg #[V 0, V 1, V 2]) ∧ (∀ t, t < 3 → w'.ownsRow w.heap.size 9 1 (V t) (v.len t) (strsV (v.rg.l t))) ∧ Below w.heap.size w w' := by
  have hm := made_c ((h.alloc (.cells #[.slice none 0 0, .slice none 0 0, .slice none 0 0] 76)).alloc (.cells #[.slice none 0 0, .slice none 0 0, .slice none 0 0] 76))
  have h1 := (h.alloc (.cells #[.slice none 0 0, .slice none 0 0, .slice none 0 0] 76)).alloc (.cells #[.slice none 0 0, .slice none 0 0, .slice none 0 0] 76)
  have hb := ((Below.refl _ w).alloc (Nat.le_refl _) (.cells #[.slice none 0 0, .slice none 0 0, .slice none 0 0] 76)).alloc (by simp) (.cells #[.slice none 0 0, .slice none 0 0, .slice none 0 0] 76)
  have k1 := (Blk.new w 76 #[.slice none 0 0, .slice none 0 0, .slice none 0 0]).alloc (.cells #[.slice none 0 0, .slice none 0 0, .slice none 0 0] 76)
  have k2 := Blk.new (w.alloc (.cells #[.slice none 0 0, .slice none 0 0, .slice none 0 0] 76)) 76 #[.slice none 0 0, .slice none 0 0, .slice none 0 0]
  rw [show (w.alloc (.cells #[.slice none 0 0, .slice none 0 0, .slice none 0 0] 76)).heap.size = w.heap.size + 1 by simp] at k2
  have hlt := h.lt
  have hslt := h.sk.lt
  have hown := fun b (ho : m.own b) => h.h.lt b ho
  have hw0 := h.below.size
  clear h
  go_enter Tryz.func37, Tryz.ntmps37
  go_wp2_with fail
  generalize (w.alloc (.cells #[.slice none 0 0, .slice none 0 0, .slice none 0 0] 76)).alloc (.cells #[.slice none 0 0, .slice none 0 0, .slice none 0 0] 76) = w1 at *
  refine hm.mono ?_
  rintro e w' ⟨rfl, rfl⟩
  clear hm
  go_wp2_with fail
  go_loopw [7] (fun i wr => ∃ (j : Nat) (V : Nat → Value), j ≤ 3 ∧ i = .int .i64 j ∧ HeldT w0 A B P wr m v ∧ Below w.heap.size w wr ∧ Blk wr w.heap.size 76 #[.slice none 0 0, .slice none 0 0, .slice none 0 0] ∧ Blk wr (w.heap.size + 1) 76 #[V 0, V 1, V 2] ∧ (∀ t, t < j → wr.ownsRow w.heap.size 9 1 (V t) (v.len t) (strsV (v.rg.l t))) ∧ (∀ t, t < 3 → (V t).oneCell' = true)) (fun i _ => 3 - (intOf i).toNat)
  case atStart => exact ⟨0, fun _ => .slice none 0 0, by omega, rfl, h1, hb, k1, k2, fun t ht => absurd ht (by omega), fun _ _ => rfl⟩
  case round =>
    obtain ⟨j, V, hj, rfl, hH, hB, b1, b2, hr, hone⟩ := hrel
    clear h1 hb k1 k2
    by_cases hlt3 : j < 3
    · have d1 : decide ((j : Int) < 3) = true := decide_eq_true (by omega)
      obtain ⟨c0, c1, c2⟩ := hH.cells
      have hk := keys_h j (by rw [hH.fit.n]; exact hlt3) hH.h
      have hjl := hH.fit.len_le hlt3
      go_wp2_with fail
      refine hk.mono ?_
      rintro e w2 ⟨BB, rfl, hbox, hb2, -⟩
      go_wp2_with fail
      refine (collect_c hbox (by unfold Tv.len at hjl; omega)).mono ?_
      rintro e w3 ⟨val, rfl, hrow, hb3⟩
      have hbb := hb2.trans (hb3.mono hb2.size)
      have hwr := hB.size
      have hwr2 := hb2.size
      have H3 := hH.later hbb (Nat.le_refl _)
      have B3 := hB.trans (hbb.mono hwr)
      have b13 := b1.below hbb b1.lt
      have b23 := b2.below hbb b2.lt
      have hr3 := fun t ht => ownsRow_stay (hr t ht) (fun b hb => hbb.block b ((hr t ht).lt b hb).2)
      have hrow3 := own_mono hrow (Nat.le_trans hwr hwr2)
      obtain ⟨va, vc, rfl⟩ := own_form hrow
      clear hrow hbb hb3 hb2 hbox b1 b2 hr hH hB hk c0 c1 c2
      have cj : ∃ u, w3.cell? ⟨w.heap.size + 1, j, none⟩ = some u ∧ u.oneCell' = true := by
        rw [b23.cell j]
        rcases (by omega : j = 0 ∨ j = 1 ∨ j = 2) with rfl | rfl | rfl
        · exact ⟨_, rfl, hone 0 (by omega)⟩
        · exact ⟨_, rfl, hone 1 (by omega)⟩
        · exact ⟨_, rfl, hone 2 (by omega)⟩
      obtain ⟨u, cj, hu⟩ := cj
      have fj := b23.free j
      go_wp2_with fail
      have hk : Kp (fun b => b = w.heap.size + 1) w3 (w3.setCell ⟨w.heap.size + 1, j, none⟩ (.slice va (v.rg.l j).length vc)) := (Kp.refl (fun b => b = w.heap.size + 1) w3).set (p := ⟨w.heap.size + 1, j, none⟩) rfl _
      have hfar : ∀ (val : Value) (n : Nat) (xs : List Value), w3.ownsRow w.heap.size 9 1 val n xs → (w3.setCell ⟨w.heap.size + 1, j, none⟩ (.slice va (v.rg.l j).length vc)).ownsRow w.heap.size 9 1 val n xs := fun val n xs h => ownsRow_stay h fun b hb => by
        obtain ⟨cur, hcur⟩ := owned_blk h hb
        exact hk.block b (h.lt b hb).2 (hcur.ne_ b23 (by decide))
      refine ⟨⟨j + 1, fun t => if t = j then .slice va (v.rg.l j).length vc else V t, by omega, by simp, H3.kp hk (fun b hb => by subst hb; exact ⟨by omega, fun ho => by have := hown _ ho; omega, by omega, fun ho => by have := ho.2; omega⟩), ⟨hk.os.trans B3.os, hk.tape.trans B3.tape, hk.output.trans B3.output, Nat.le_trans B3.size hk.size, fun b hb => (hk.block b (Nat.lt_of_lt_of_le hb B3.size) (by omega)).trans (B3.block b hb)⟩, b13.far (p := ⟨w.heap.size + 1, j, none⟩) (show w.heap.size ≠ w.heap.size + 1 by omega) _, blk3_set hlt3 _ b23, fun t ht => ?_, fun t ht => ?_⟩, by simp [intOf]; omega⟩
      · by_cases e : t = j
        · subst e
          simp only [if_true]
          exact hfar _ _ _ hrow3
        · simp only [if_neg e]
          exact hfar _ _ _ (hr3 t (by omega))
      · by_cases e : t = j
        · subst e
          simp only [if_true]
          rfl
        · simp only [if_neg e]
          exact hone t ht
    · obtain rfl : j = 3 := by omega
      have c0 := b2.cell 0
      have c1 := b2.cell 1
      have c2 := b2.cell 2
      have e0 := b1.cell 0
      have e1 := b1.cell 1
      have e2 := b1.cell 2
      have f0 := b1.free 0
      have f1 := b1.free 1
      have f2 := b1.free 2
      simp only [List.getElem?_toArray, List.getElem?_cons_zero, List.getElem?_cons_succ] at c0 c1 c2 e0 e1 e2
      have hf : ∀ t, t < 3 → ∃ a n c, V t = .slice a n c := fun t ht => by
        obtain ⟨a, c, h⟩ := own_form (hr t ht)
        exact ⟨a, _, c, h⟩
      obtain ⟨a0, n0, k0, v0⟩ := hf 0 (by omega)
      obtain ⟨a1, n1, k1, v1⟩ := hf 1 (by omega)
      obtain ⟨a2, n2, k2, v2⟩ := hf 2 (by omega)
      rw [v0] at c0
      rw [v1] at c1
      rw [v2] at c2
      have HV := Lib.hid (show V 0 = _ ∧ V 1 = _ ∧ V 2 = _ from ⟨v0, v1, v2⟩)
      have B4 := ((b1.put 0 (.slice a0 n0 k0)).put 1 (.slice a1 n1 k1)).put 2 (.slice a2 n2 k2)
      have hk := (((Kp.refl (fun b => b = w.heap.size) wr).set (p := ⟨w.heap.size, 0, none⟩) rfl (.slice a0 n0 k0)).set (p := ⟨w.heap.size, 1, none⟩) rfl (.slice a1 n1 k1)).set (p := ⟨w.heap.size, 2, none⟩) rfl (.slice a2 n2 k2)
      have HB := Lib.hid hB
      have HR := Lib.hid hr
      have HK := Lib.hid hk
      have HB4 := Lib.hid B4
      have HB1 := Lib.hid b1
      clear v0 v1 v2 hf b1 b2 hB hr hk B4 hH hone
      go_wp2_with fail
      refine bodyPost_ret (results_cell_row rfl _ _ w.heap.size 76 #[.slice a0 n0 k0, .slice a1 n1 k1, .slice a2 n2 k2] _ _ rfl (by have := HB4.out; simpa [Blk] using this) Tryz.underlying76 rfl (by kernel_rfl)) rfl ?_
      obtain ⟨v0, v1, v2⟩ := HV.out
      refine ⟨V, by rw [v0, v1, v2], fun t ht => ownsRow_stay (HR.out t ht) fun b hb => ?_, ⟨HK.out.os.trans HB.out.os, HK.out.tape.trans HB.out.tape, HK.out.output.trans HB.out.output, Nat.le_trans HB.out.size HK.out.size, fun b hb => (HK.out.block b (Nat.lt_of_lt_of_le hb HB.out.size) (by omega)).trans (HB.out.block b hb)⟩⟩
      obtain ⟨cur, hcur⟩ := owned_blk (HR.out t ht) hb
      exact HK.out.block b ((HR.out t ht).lt b hb).2 (hcur.ne_ HB1.out (by decide))
end
end Go.Proofs.YtgfpedcdclgmiaaGreat.Tinyy
