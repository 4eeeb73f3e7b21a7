/- slices.Sort of at most twelve numbers of 64 bits: they are sorted where they lie. The only condition: there are not more than twelve. Which keys a policy keeps, behind each of its calls, of whichever kind it is: chapters 7 to 9 over plain lists. It speaks of no program. Chapter 11 over plain lists: entries by their keys. It speaks of no program. Entries in memory: a slice of them, owned; one that is handed in; a struct as a result. No condition. -/
import Derived.Test.YtkiabladmgagdabGreatDoorSort64InsAll
import Derived.Test.YtkiabladmgagdabGreatDoorWireFlyAll
import Derived.Lib.Hide
import Derived.BigQuiet
import Derived.Test.YtkiabladmgagdabGreatDoorPolicyProgAll
import Derived.Test.YtkiabladmgagdabGreatDoorMemAll
import Derived.Deep.AppendLies
import Derived.Laws.OwnMore
import Derived.Test.YtkiabladmgagdabGreatDoorWireReadAll
import Derived.Test.YtkiabladmgagdabGreatDoorOpPutAll
import Derived.Deep.Slices
import Derived.Test.YtkiabladmgagdabGreatDoorSq
namespace Go.Proofs.YtkiabladmgagdabGreatDoor.Numsy
open Go.ChangeShapes Go.WideShapes Go.ChangeAt Go.RowKit
open Wirey (Blk Row str Kp)
open Regy
theorem pdq_c {n c : Nat} {d0 : Array Nat} {g : Nat} (hs : d0.size = n) (hn : n ≤ 12) (hc : n ≤ c) (k : Int) (w : World) (h : Nums w g d0) :
  Calls Tryz.prog 113 #[.slice (some ⟨g, 0, none⟩) n c, .int .i64 0, .int .i64 n, .int .i64 k] w fun e w' => e = .returned (.tuple #[]) ∧ ∃ d, Nums w' g d ∧ d.size = n ∧ d.toList.Perm d0.toList ∧ Upto d n ∧ Kp (fun k => k = g) w w' := by
 have hi := ins_c hs (by omega) hc w h
 have d1 : decide ((n : Int) ≤ 12) = true := decide_eq_true (by omega)
 have d2 : (n : Int) ≤ 12 := by omega
 have hw : IntKind.i64.wrap ((n : Int) - 0) = (n : Int) := by rw [Int.sub_zero]; exact IntWalk.i64_in _ (by omega)
 have hw2 : IntKind.i64.wrap (n : Int) = (n : Int) := IntWalk.i64_in _ (by omega)
 clear h
 go_enter Tryz.func113, Tryz.ntmps113
 go_wp2_with fail
 go_loopw [1, 2] (fun va vb wr => va = .int .i64 0 ∧ vb = .int .i64 n ∧ wr = w) (fun _ _ _ => 0)
 case atStart => exact ⟨rfl, rfl, rfl⟩
 case round =>
  obtain ⟨rfl, rfl, rfl⟩ := hrel
  go_wp2_with fail
  refine hi.mono ?_
  rintro e w2 ⟨rfl, d, hN, hs2, hp, hu, hk⟩
  go_wp2_with fail
  exact bodyPost_ret (v := .tuple #[]) (results_none rfl _ _ _) rfl ⟨rfl, d, hN, hs2, hp, hu, hk⟩
end Go.Proofs.YtkiabladmgagdabGreatDoor.Numsy
namespace Go.Proofs.YtkiabladmgagdabGreatDoor.Policyy
open Ringy
open Arcy (Av)
open Tinyy (Tv)

def Pv.Fit : Pv → Prop
 | .a v => v.Ok
 | .t v => v.Ok
def Pv.most : Pv → Nat
 | .a v => v.most
 | .t v => v.most
structure Pv.Same (p q : Pv) : Prop where
 fit : q.Fit
 most : q.most = p.most
 kind : q.kind = p.kind
section
variable {p q r : Pv} {k : Key}
theorem Pv.Fit.refl (h : p.Fit) : p.Same p := ⟨h, rfl, rfl⟩
theorem Pv.Fit.touch (h : p.Fit) (k : Key) : p.Same (p.touch k) ∧ ∀ x, (p.touch k).has x = p.has x := by
 cases p with
 | a v =>
  have h' : v.Ok := h
  refine ⟨⟨(Av.touch_ok h' k).1, (Av.touch_ok h' k).2, rfl⟩, fun x => ?_⟩
  show (v.touch k).has x = v.has x
  unfold Av.touch
  split
  ·rename_i e
   rw [Av.has_fr (by omega)]
   by_cases hx : x = k
   ·subst hx; rw [e]; simp
   ·simp [hx]
  ·rfl
 | t v =>
  have h' : v.Ok := h
  have := Tinyy.Tv.touch_spec h' k
  exact ⟨⟨this.1, this.2.1, rfl⟩, this.2.2⟩
theorem Pv.Fit.miss (h : p.Fit) (k : Key) : p.Same (p.miss k) ∧ ∀ x, (p.miss k).has x = p.has x := by
 cases p with
 | a v => exact ⟨h.refl, fun _ => rfl⟩
 | t v =>
  have h' : v.Ok := h
  show Pv.Same (.t v) (if v.has k = true then .t v else .t (v.miss k)) ∧ ∀ x, Pv.has (if v.has k = true then .t v else .t (v.miss k)) x = v.has x
  split
  ·exact ⟨h.refl, fun _ => rfl⟩
  ·refine ⟨⟨(Tinyy.Tv.miss_ok h' k).1, (Tinyy.Tv.miss_ok h' k).2, rfl⟩, fun x => ?_⟩
   show (v.miss k).has x = v.has x
   unfold Tinyy.Tv.miss
   split <;> rfl
theorem Pv.Fit.drop (h : p.Fit) (k : Key) : p.Same (p.drop k) ∧ ∀ x, (p.drop k).has x = (p.has x && decide (x ≠ k)) := by
 cases p with
 | a v =>
  have h' : v.Ok := h
  refine ⟨⟨h'.dr k, rfl, rfl⟩, fun x => ?_⟩
  show (v.dr k).has x = (v.has x && decide (x ≠ k))
  refine Av.has_of ?_
  rw [Av.mem_dr, Av.mem_dr, Bool.and_eq_true, decide_eq_true_eq, Av.has_iff]
  constructor
  ·rintro (⟨a, b⟩ | ⟨a, b⟩)
   ·exact ⟨.inl a, b⟩
   ·exact ⟨.inr a, b⟩
  ·rintro ⟨a | a, b⟩
   ·exact .inl ⟨a, b⟩
   ·exact .inr ⟨a, b⟩
 | t v =>
  have h' : v.Ok := h
  exact ⟨⟨h'.dr k, rfl, rfl⟩, fun x => Tinyy.Tv.has_dr⟩
theorem roomK_has {v : Av} {b : Bool} {x : Key} (hx : x ∈ v.roomK b) : v.has x = true := by
 unfold Av.roomK at hx
 split at hx
 ·cases hx
 ·rw [Option.mem_toList] at hx
  have hm := Av.last_mem hx
  rcases Av.src_cases v b with e | e <;> rw [e] at hm
  ·exact Av.has_iff.2 (.inl hm)
  ·exact Av.has_iff.2 (.inr hm)
theorem forget_has {v : Av} {i : Nat} {x : Key} (hx : (v.forget i).has x = true) : v.has x = true := by
 unfold Av.forget at hx
 split at hx
 ·exact hx
 ·rw [Av.has_iff, Av.mem_dr, Av.mem_dr] at hx
  exact Av.has_iff.2 (hx.imp (·.1) (·.1))
theorem insK_has {v : Av} {x : Key} (hx : x ∈ v.insK k) : v.has x = true ∧ v.at_ k ≠ some 0 ∧ v.at_ k ≠ some 1 := by
 unfold Av.insK at hx
 split at hx
 ·rename_i e
  rw [e]
  refine ⟨?_, by simp, by simp⟩
  unfold Av.freshK at hx
  split at hx
  ·rw [Option.mem_toList] at hx
   exact Av.has_iff.2 (.inl (Av.last_mem hx))
  ·have h1 := roomK_has hx
   unfold Av.shut at h1
   split at h1
   ·exact forget_has h1
   ·split at h1
    ·exact forget_has h1
    ·exact h1
 ·rename_i e
  rw [e]
  exact ⟨roomK_has (v := v.up) hx, by simp, by simp⟩
 ·rename_i e
  rw [e]
  exact ⟨roomK_has (v := v.down) hx, by simp, by simp⟩
 ·cases hx
theorem Pv.Fit.insert (h : p.Fit) (hk : k.length ≤ 64) : p.Same (p.insert k) ∧ (∀ x, (p.insert k).has x = ((decide (x = k) || p.has x) && decide (x ∉ p.insertK k))) ∧ (p.insertK k).length ≤ 1 := by
 cases p with
 | a v =>
  have h' : v.Ok := h
  have hs := Av.ins_spec h' hk
  have e1 : v.insert k = v.ins k := if_neg (by omega)
  have e2 : v.insertK k = v.insK k := if_neg (by omega)
  show Pv.Same (.a v) (.a (v.insert k)) ∧ (∀ x, (v.insert k).has x = ((decide (x = k) || v.has x) && decide (x ∉ v.insertK k))) ∧ (v.insertK k).length ≤ 1
  rw [e1, e2]
  refine ⟨⟨hs.ok, hs.most, rfl⟩, fun x => ?_, hs.glen⟩
  rw [hs.has]
  by_cases hx : x = k
  ·subst hx
   have hn : x ∉ v.insK x := fun hm => by
    obtain ⟨h1, h2, h3⟩ := insK_has hm
    rw [Av.at_has h'] at h1
    simp [h2, h3] at h1
   simp [hn]
  ·simp [hx]
 | t v =>
  have h' : v.Ok := h
  have hs := Tinyy.Tv.ins_spec h' hk
  have e1 : v.insert k = v.ins k := if_neg (by omega)
  have e2 : v.insertK k = v.insK k := if_neg (by omega)
  show Pv.Same (.t v) (.t (v.insert k)) ∧ (∀ x, (v.insert k).has x = ((decide (x = k) || v.has x) && decide (x ∉ v.insertK k))) ∧ (v.insertK k).length ≤ 1
  rw [e1, e2]
  exact ⟨⟨hs.ok, hs.most, rfl⟩, hs.has, hs.glen⟩
theorem Pv.Fit.insertK_has {x : Key} (h : p.Fit) (hk : k.length ≤ 64) (hx : x ∈ p.insertK k) : p.has x = true := by
 cases p with
 | a v =>
  have hx' : x ∈ v.insertK k := hx
  rw [show v.insertK k = v.insK k from if_neg (by omega)] at hx'
  exact (insK_has hx').1
 | t v =>
  have hx' : x ∈ v.insertK k := hx
  rw [show v.insertK k = v.insK k from if_neg (by omega)] at hx'
  exact (Tinyy.Tv.ins_spec h hk).gsub x hx'
theorem Pv.Fit.kept (h : p.Fit) : p.kept ≤ p.most := by
 cases p with
 | a v => exact Arcy.Av.Ok.kept h
 | t v => exact Tinyy.Tv.Ok.kept h
theorem Pv.Fit.count (h : p.Fit) {l : List Key} (hl : l.Nodup) (hm : ∀ x, x ∈ l ↔ p.has x = true) : p.kept = l.length := by
 cases p with
 | a v => exact Av.kept_of h hl hm
 | t v => exact Tinyy.Tv.kept_of (Tinyy.Tv.Ok.fit h) hl hm
theorem Pv.Fit.goes_no (h : p.Fit) (hg : p.goes = none) : p.kept = 0 := by
 cases p with
 | a v =>
  rcases Nat.eq_zero_or_pos v.kept with h0 | h0
  ·exact h0
  ·obtain ⟨k, hk, -⟩ := Av.repl_went h false h0
   rw [show Pv.goes (.a v) = v.last (v.src false) from rfl, hk] at hg
   cases hg
 | t v =>
  have hg' : v.first [1, 0, 2] = none := hg
  rw [Tinyy.Tv.first_cons] at hg'
  cases e1 : v.last 1 with
  | some k => rw [e1] at hg'; cases hg'
  | none =>
   rw [e1] at hg'
   replace hg' : v.first [0, 2] = none := hg'
   rw [Tinyy.Tv.first_cons] at hg'
   cases e0 : v.last 0 with
   | some k => rw [e0] at hg'; cases hg'
   | none =>
    rw [e0] at hg'
    replace hg' : v.first [2] = none := hg'
    rw [Tinyy.Tv.first_cons] at hg'
    cases e2 : v.last 2 with
    | some k => rw [e2] at hg'; cases hg'
    | none =>
     show v.len 0 + v.len 1 + v.len 2 = 0
     unfold Tinyy.Tv.len
     rw [Tinyy.Tv.last_none e0, Tinyy.Tv.last_none e1, Tinyy.Tv.last_none e2]
     rfl
theorem Pv.Fit.goes_yes (h : p.Fit) (hg : p.goes = some k) : p.has k = true ∧ p.Same p.evict ∧ ∀ x, p.evict.has x = (p.has x && decide (x ≠ k)) := by
 cases p with
 | a v =>
  have h' : v.Ok := h
  have hg' : v.last (v.src false) = some k := hg
  have hm := Av.last_mem hg'
  have hh : v.has k = true := by
   rcases Av.src_cases v false with e | e <;> rw [e] at hm
   ·exact Av.has_iff.2 (.inl hm)
   ·exact Av.has_iff.2 (.inr hm)
  have h0 : 0 < v.kept := by
   have : 0 < v.len (v.src false) := List.length_pos_of_mem hm
   unfold Av.kept
   rcases Av.src_cases v false with e | e <;> rw [e] at this <;> omega
  obtain ⟨k', hk, hw⟩ := Av.repl_went h' false h0
  rw [hg'] at hk
  injection hk with hk
  subst hk
  exact ⟨hh, ⟨hw.ok, hw.most, rfl⟩, hw.has⟩
 | t v =>
  have h' : v.Ok := h
  have hg' : v.goes = some k := hg
  have he : v.evict = v.dr k := by unfold Tinyy.Tv.evict; rw [hg']
  obtain ⟨i, hi, hm⟩ := Tinyy.Tv.goes_mem hg'
  refine ⟨Tinyy.Tv.has_iff.2 ⟨i, hi, hm⟩, ⟨(Tinyy.Tv.evict_ok h').1, (Tinyy.Tv.evict_ok h').2, rfl⟩, fun x => ?_⟩
  show v.evict.has x = _
  rw [he]
  exact Tinyy.Tv.has_dr
theorem Pv.new_fit {kind n seed : Nat} (hk : kind = 1 ∨ kind = 2) (h1 : 1 ≤ n) (h2 : n ≤ 1000) (h3 : seed < 18446744073709551616) : (Pv.new kind n seed).Fit ∧ (Pv.new kind n seed).most = n ∧ (Pv.new kind n seed).kind = kind ∧ ∀ x, (Pv.new kind n seed).has x = false := by
 rcases hk with rfl | rfl
 ·exact ⟨Av.new_ok h1 h2, rfl, rfl, fun x => rfl⟩
 ·exact ⟨Tinyy.Tv.new_ok h1 h2 h3, rfl, rfl, fun x => rfl⟩
end
end Go.Proofs.YtkiabladmgagdabGreatDoor.Policyy
namespace Go.Proofs.YtkiabladmgagdabGreatDoor.Taby
open Wirey (str)

structure En where
 key : List UInt8
 val : List UInt8
 ver : Nat
 fin : Nat
def En.none : En := ⟨[], [], 0, 0⟩
structure En.Ok (x : En) : Prop where
 key : x.key.length ≤ 64
 val : x.val.length ≤ 4096
 ver : x.ver < 18446744073709551616
 fin : x.fin < 18446744073709551616
def En.row (x : En) : List Value := [.string (str x.key), .string (str x.val), .int .u64 x.ver, .int .u64 x.fin]
def rows : List En → List Value
 | [] => []
 | x :: l => x.row ++ rows l
theorem rows_length : ∀ l : List En, (rows l).length = l.length * 4
 | [] => rfl
 | x :: l => by rw [rows, List.length_append, rows_length l, List.length_cons, show x.row.length = 4 from rfl]; omega
theorem rows_append : ∀ a b : List En, rows (a ++ b) = rows a ++ rows b
 | [], b => rfl
 | x :: a, b => by rw [List.cons_append, rows, rows, rows_append a b, List.append_assoc]
theorem rows_at : ∀ (l : List En) (i j : Nat) (x : En), l[i]? = some x → j < 4 → (rows l)[i * 4 + j]? = x.row[j]?
 | [], i, j, x, h, _ => by simp at h
 | y :: l, 0, j, x, h, hj => by
  simp only [List.getElem?_cons_zero, Option.some.injEq] at h
  subst h
  rw [rows, Nat.zero_mul, Nat.zero_add, List.getElem?_append_left (by rw [show y.row.length = 4 from rfl]; exact hj)]
 | y :: l, i + 1, j, x, h, hj => by
  rw [List.getElem?_cons_succ] at h
  rw [rows, List.getElem?_append_right (by rw [show y.row.length = 4 from rfl]; omega), show y.row.length = 4 from rfl, show (i + 1) * 4 + j - 4 = i * 4 + j by omega]
  exact rows_at l i j x h hj

abbrev less (a b : List UInt8) : Bool := Op.bytesLess a b
theorem less_irr : ∀ a : List UInt8, less a a = false
 | [] => rfl
 | x :: a => by
  show (decide (x < x) || (x == x && Op.bytesLess a a)) = false
  rw [show Op.bytesLess a a = false from less_irr a]
  simp [UInt8.lt_irrefl]
theorem less_trans : ∀ {a b c : List UInt8}, less a b = true → less b c = true → less a c = true
 | _, [], _, h, _ => by simp [less, Op.bytesLess] at h
 | _, _ :: _, [], _, h => by simp [less, Op.bytesLess] at h
 | [], _ :: _, _ :: _, _, _ => rfl
 | x :: a, y :: b, z :: c, h, k => by
  have h' : (decide (x < y) || (x == y && Op.bytesLess a b)) = true := h
  have k' : (decide (y < z) || (y == z && Op.bytesLess b c)) = true := k
  show (decide (x < z) || (x == z && Op.bytesLess a c)) = true
  simp only [Bool.or_eq_true, Bool.and_eq_true, decide_eq_true_eq, beq_iff_eq] at h' k' ⊢
  rcases h' with h1 | ⟨rfl, h1⟩
  ·rcases k' with k1 | ⟨rfl, k1⟩
   ·exact .inl (UInt8.lt_trans h1 k1)
   ·exact .inl h1
  ·rcases k' with k1 | ⟨rfl, k1⟩
   ·exact .inl k1
   ·exact .inr ⟨rfl, less_trans (a := a) (b := b) h1 k1⟩
theorem less_three : ∀ a b : List UInt8, less a b = true ∨ a = b ∨ less b a = true
 | [], [] => .inr (.inl rfl)
 | [], _ :: _ => .inl rfl
 | _ :: _, [] => .inr (.inr rfl)
 | x :: a, y :: b => by
  show (decide (x < y) || (x == y && Op.bytesLess a b)) = true ∨ _ ∨ (decide (y < x) || (y == x && Op.bytesLess b a)) = true
  rcases Nat.lt_trichotomy x.toNat y.toNat with h | h | h
  ·exact .inl (by simp [UInt8.lt_iff_toNat_lt, h])
  ·obtain rfl := UInt8.toNat_inj.1 h
   rcases less_three a b with h1 | rfl | h1
   ·exact .inl (by simp [show Op.bytesLess a b = true from h1])
   ·exact .inr (.inl rfl)
   ·exact .inr (.inr (by simp [show Op.bytesLess b a = true from h1]))
  ·exact .inr (.inr (by simp [UInt8.lt_iff_toNat_lt, h]))
theorem less_ne {a b : List UInt8} (h : less a b = true) : a ≠ b := fun e => by rw [e, less_irr] at h; cases h
theorem less_no {a b : List UInt8} (h : less a b = true) : less b a = false := by
 cases hb : less b a with
 | false => rfl
 | true => have := less_trans h hb; rw [less_irr] at this; cases this
theorem less_of_no {a b : List UInt8} (h : less a b = false) (hne : a ≠ b) : less b a = true := by
 rcases less_three a b with h1 | h1 | h1
 ·rw [h1] at h; cases h
 ·exact absurd h1 hne
 ·exact h1

abbrev Rise (l : List En) : Prop := l.Pairwise fun a b => less a.key b.key = true
def find (k : List UInt8) : List En → Option En
 | [] => Option.none
 | x :: l => if x.key = k then some x else find k l
theorem find_none {k : List UInt8} : ∀ {l : List En}, find k l = Option.none ↔ ∀ x ∈ l, x.key ≠ k
 | [] => by simp [find]
 | x :: l => by
  rw [find]
  by_cases h : x.key = k
  ·rw [if_pos h]; simp [h]
  ·rw [if_neg h, find_none (l := l)]; simp [h]
theorem find_mem {k : List UInt8} {x : En} : ∀ {l : List En}, find k l = some x → x ∈ l ∧ x.key = k
 | [], h => by simp [find] at h
 | y :: l, h => by
  rw [find] at h
  by_cases hk : y.key = k
  ·rw [if_pos hk] at h; injection h with h; subst h; exact ⟨List.mem_cons_self, hk⟩
  ·rw [if_neg hk] at h; obtain ⟨a, b⟩ := find_mem h; exact ⟨List.mem_cons_of_mem _ a, b⟩
theorem find_of_mem {x : En} : ∀ {l : List En}, Rise l → x ∈ l → find x.key l = some x
 | y :: l, hr, hm => by
  rw [find]
  rcases List.mem_cons.1 hm with rfl | hm
  ·rw [if_pos rfl]
  ·rw [if_neg (less_ne ((List.pairwise_cons.1 hr).1 x hm)), find_of_mem (List.pairwise_cons.1 hr).2 hm]
def size : List En → Nat
 | [] => 0
 | x :: l => x.key.length + x.val.length + size l
theorem size_le : ∀ {l : List En}, (∀ x ∈ l, x.Ok) → size l ≤ l.length * 4160
 | [], _ => by simp [size]
 | x :: l, h => by
  have h1 := h x List.mem_cons_self
  have h2 := size_le (l := l) fun y hy => h y (List.mem_cons_of_mem _ hy)
  have := h1.key; have := h1.val
  rw [size, List.length_cons]; omega
def ins (x : En) : List En → List En
 | [] => [x]
 | y :: l => if less y.key x.key = true then y :: ins x l else if y.key = x.key then x :: l else x :: y :: l
theorem mem_ins {x z : En} : ∀ {l : List En}, z ∈ ins x l → z = x ∨ z ∈ l
 | [], h => by simp [ins] at h; exact .inl h
 | y :: l, h => by
  rw [ins] at h
  split at h
  ·rcases List.mem_cons.1 h with rfl | h
   ·exact .inr List.mem_cons_self
   ·rcases mem_ins h with h | h
    ·exact .inl h
    ·exact .inr (List.mem_cons_of_mem _ h)
  ·split at h
   ·rcases List.mem_cons.1 h with h | h
    ·exact .inl h
    ·exact .inr (List.mem_cons_of_mem _ h)
   ·rcases List.mem_cons.1 h with h | h
    ·exact .inl h
    ·exact .inr h
theorem ins_ok {x : En} {l : List En} (hx : x.Ok) (hl : ∀ y ∈ l, y.Ok) : ∀ y ∈ ins x l, y.Ok := fun y hy => by
 rcases mem_ins hy with rfl | h
 ·exact hx
 ·exact hl y h
theorem ins_rise {x : En} : ∀ {l : List En}, Rise l → Rise (ins x l)
 | [], _ => by simp [ins, Rise]
 | y :: l, h => by
  obtain ⟨h1, h2⟩ := List.pairwise_cons.1 h
  rw [ins]
  split
  ·rename_i hl
   refine List.pairwise_cons.2 ⟨fun z hz => ?_, ins_rise h2⟩
   rcases mem_ins hz with rfl | hz
   ·exact hl
   ·exact h1 z hz
  ·rename_i hl
   split
   ·rename_i he
    exact List.pairwise_cons.2 ⟨fun z hz => he ▸ h1 z hz, h2⟩
   ·rename_i he
    have hx : less x.key y.key = true := less_of_no (by simpa using hl) he
    refine List.pairwise_cons.2 ⟨fun z hz => ?_, h⟩
    rcases List.mem_cons.1 hz with rfl | hz
    ·exact hx
    ·exact less_trans hx (h1 z hz)
theorem ins_len {x : En} : ∀ {l : List En}, (ins x l).length ≤ l.length + 1
 | [] => by simp [ins]
 | y :: l => by
  have := ins_len (x := x) (l := l)
  rw [ins]
  split
  ·simp only [List.length_cons]; omega
  ·split <;> simp only [List.length_cons] <;> omega
theorem ins_new {x : En} : ∀ {l : List En}, find x.key l = Option.none → (ins x l).length = l.length + 1
 | [], _ => by simp [ins]
 | y :: l, h => by
  rw [find_none] at h
  have hy := h y List.mem_cons_self
  have := ins_new (x := x) (l := l) (find_none.2 fun z hz => h z (List.mem_cons_of_mem _ hz))
  rw [ins]
  split
  ·simp only [List.length_cons]; omega
  ·(try rw [if_neg hy]); simp only [List.length_cons]
theorem find_ins {x : En} {k : List UInt8} : ∀ {l : List En}, Rise l → find k (ins x l) = if x.key = k then some x else find k l
 | [], _ => by simp [ins, find]
 | y :: l, hr => by
  obtain ⟨h1, h2⟩ := List.pairwise_cons.1 hr
  rw [ins]
  split
  ·rename_i hl
   rw [find, find, find_ins h2]
   by_cases hy : y.key = k
   ·rw [if_pos hy, if_pos hy, if_neg (fun e => less_ne hl (hy.trans e.symm))]
   ·rw [if_neg hy, if_neg hy]
  ·split
   ·rename_i he
    rw [find, find]
    by_cases hx : x.key = k
    ·rw [if_pos hx, if_pos hx]
    ·rw [if_neg hx, if_neg hx, if_neg (fun e => hx (he.symm.trans e))]
   ·rw [find]
def drop (k : List UInt8) (l : List En) : List En := l.filter fun x => !(x.key == k)
theorem drop_rise {k : List UInt8} {l : List En} (h : Rise l) : Rise (drop k l) := List.Pairwise.filter _ h
theorem drop_ok {k : List UInt8} {l : List En} (h : ∀ y ∈ l, y.Ok) : ∀ y ∈ drop k l, y.Ok := fun y hy => h y (List.mem_filter.1 hy).1
theorem drop_len {k : List UInt8} {l : List En} : (drop k l).length ≤ l.length := List.length_filter_le _ _
theorem rise_ext : ∀ {a b : List En}, Rise a → Rise b → (∀ k, find k a = find k b) → a = b
 | [], [], _, _, _ => rfl
 | [], y :: b, _, _, h => by have := h y.key; simp [find] at this
 | x :: a, [], _, _, h => by have := h x.key; simp [find] at this
 | x :: a, y :: b, ha, hb, h => by
  obtain ⟨a1, a2⟩ := List.pairwise_cons.1 ha
  obtain ⟨b1, b2⟩ := List.pairwise_cons.1 hb
  have e : x = y := by
   have hx : find x.key (y :: b) = some x := by rw [← h x.key]; simp [find]
   have hy : find y.key (x :: a) = some y := by rw [h y.key]; simp [find]
   rcases List.mem_cons.1 (find_mem hx).1 with e | m1
   ·exact e
   rcases List.mem_cons.1 (find_mem hy).1 with e | m2
   ·exact e.symm
   have := less_trans (a1 y m2) (b1 x m1)
   rw [less_irr] at this; cases this
  subst e
  rw [rise_ext a2 b2 fun k => ?_]
  have hk := h k
  by_cases hx : x.key = k
  ·subst hx
   have e1 : find x.key a = Option.none := find_none.2 fun z hz e => less_ne (a1 z hz) e.symm
   have e2 : find x.key b = Option.none := find_none.2 fun z hz e => less_ne (b1 z hz) e.symm
   rw [e1, e2]
  ·rw [find, find, if_neg hx, if_neg hx] at hk; exact hk

theorem foldl_take {α β : Type} (f : β → α → β) (s : β) (l : List α) {j : Nat} {x : α} (h : l[j]? = some x) : (l.take (j + 1)).foldl f s = f ((l.take j).foldl f s) x := by
 rw [List.take_add_one, h]
 simp
end Go.Proofs.YtkiabladmgagdabGreatDoor.Taby
namespace Go.Proofs.YtkiabladmgagdabGreatDoor.Taby
open Go.ChangeShapes Go.WideShapes Go.ChangeAt Go.RowKit
open Wirey (Blk Row str str_size str_list str_cat)

theorem results_row_tmp {fn : Func} {p t : Tmp} {ty : TypeId} {P : Program} (h : fn.results = #[.cell p ty, .tmp t]) (tmps : Array Value) (w : World) (g : Nat) {cs : Array Value}
  (hp : tmps.getD p undef = .pointer (some ⟨g, 0, none⟩)) (hl : (loadVar ty ⟨g, 0, none⟩).run P w = .ok (.agg cs) w) :
  (results fn tmps).run P w = .ok (.tuple #[.agg cs, tmps.getD t undef]) w := by
 have hp' : tmps[p]?.getD undef = .pointer (some ⟨g, 0, none⟩) := by simpa using hp
 simp [results, h, hp', asAddr, Result.andThen, hl]
theorem entry_info : (Tryz.prog.info? 66).map (fun i => (i.zero, i.size, i.bytes)) = some (some (.agg #[.string ⟨#[]⟩, .string ⟨#[]⟩, .int .u64 0, .int .u64 0]), 4, 48) := by kernel_rfl
abbrev En.cs (x : En) : Array Value := #[.string (str x.key), .string (str x.val), .int .u64 x.ver, .int .u64 x.fin]
def Sl (w : World) (B : Nat) (v : Value) (l : List En) : Prop := w.ownsRow B 66 4 v l.length (rows l)
section
variable {w w' : World} {B : Nat} {v : Value} {l : List En} {a : Option Addr} {n c : Nat}
theorem Sl.form (h : Sl w B v l) : ∃ a c, v = .slice a l.length c := by
 rcases h.2 with ⟨rfl, h0⟩ | ⟨g, cap, cur, hv, _⟩
 ·exact ⟨none, 0, by rw [h0]⟩
 ·exact ⟨_, _, hv⟩
theorem Sl.stay (h : Sl w B v l) (hs : ∀ g, v.ownBlock = some g → w'.heap[g]? = w.heap[g]?) : Sl w' B v l :=
 ⟨h.1, h.2.elim Or.inl fun ⟨g, cap, cur, hv, hg, hb, r⟩ => Or.inr ⟨g, cap, cur, hv, hg, (hs g (by rw [hv]; rfl)).trans hb, r⟩⟩
theorem Sl.lt (h : Sl w B v l) : ∀ g, v.ownBlock = some g → B ≤ g ∧ g < w.heap.size := World.ownsRow.lt h
theorem Sl.below (h : Sl w B v l) (hb : Below w.heap.size w w') : Sl w' B v l := h.stay fun g hg => hb.block g (h.lt g hg).2
theorem Sl.alloc (h : Sl w B v l) (o : Obj) : Sl (w.alloc o) B v l := h.stay fun g hg => Below.heap_alloc w o g (h.lt g hg).2
theorem Sl.at_ (h : Sl w B (.slice a n c) l) {i : Nat} {x : En} (hx : l[i]? = some x) : ∃ g, a = some ⟨g, 0, none⟩ ∧ B ≤ g ∧ g < w.heap.size ∧
  (∀ W : World, W.heap[g]? = w.heap[g]? → W.cell? ⟨g, i * 4, none⟩ = some (.string (str x.key)) ∧ W.cell? ⟨g, i * 4 + 1, none⟩ = some (.string (str x.val)) ∧ W.cell? ⟨g, i * 4 + 2, none⟩ = some (.int .u64 x.ver) ∧ W.cell? ⟨g, i * 4 + 3, none⟩ = some (.int .u64 x.fin)) := by
 have hi : i < l.length := (List.getElem?_eq_some_iff.1 hx).1
 obtain ⟨g, cap, hv, hg, hlt⟩ := World.ownsRow.form h (by omega)
 injection hv with e1 e2 e3
 subst e1 e2 e3
 refine ⟨g, rfl, hg, hlt, fun W hW => ?_⟩
 have hc : ∀ j, j < 4 → W.cell? ⟨g, i * 4 + j, none⟩ = x.row[j]? := fun j hj => by
  rw [World.cell?_of_block (a := ⟨g, i * 4 + j, none⟩) hW, World.ownsRow.cellAt h (i * 4 + j) (by omega), rows_at l i j x hx hj]
 exact ⟨hc 0 (by omega), hc 1 (by omega), hc 2 (by omega), hc 3 (by omega)⟩
theorem Sl.snoc {g cap : Nat} {x : En} (h : w.ownsRow B 66 4 (.slice (some ⟨g, 0, none⟩) (l.length + 1) cap) (l.length + 1) (rows l ++ [.string (str x.key), .string (str x.val), .int .u64 x.ver, .int .u64 x.fin])) : Sl w B (.slice (some ⟨g, 0, none⟩) (l.length + 1) cap) (l ++ [x]) := by
 unfold Sl
 rw [List.length_append, rows_append]
 exact h
end
end Go.Proofs.YtkiabladmgagdabGreatDoor.Taby
