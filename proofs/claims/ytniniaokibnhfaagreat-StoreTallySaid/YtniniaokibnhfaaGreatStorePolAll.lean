/- A slice of structs that is handed in: where its elements lie, and what each is read as. No condition. A number cut by a mask: what is left is its last bits. No condition. Chapter 10 over plain values: which operations may be, and their bytes. It speaks of no program. Layer 10: what the program's Check answers. The only condition: no text is longer than a text may be. A region that draws its order and does not panic: one step after the other. No condition. A region that draws, and stores where it loads: one step after the other. No condition. Which keys a policy keeps, behind each of its calls, of whichever kind it is: chapters 7 to 9 over plain lists. It speaks of no program. -/
import Derived.Test.YtniniaokibnhfaaGreatMem
import Derived.Deep.Slices
import Derived.Test.YtniniaokibnhfaaGreatWireFlyAll
import Derived.Deep.RegionHeld3
import Derived.Test.YtniniaokibnhfaaGreatBlakeOrder
import Derived.Deep.AppendLies
import Derived.Test.YtniniaokibnhfaaGreatPolicyMath
namespace Go.Proofs.YtniniaokibnhfaaGreat.Arry
open Go.ChangeShapes Go.WideShapes Go.ChangeAt Go.RowKit Go.Deep
open Wirey (str str_of)

theorem list_n {α : Type} : ∀ (n : Nat) (l : List α), l.length = n + 1 → ∃ a m, l = a :: m ∧ m.length = n
  | n, a :: m, h => ⟨a, m, rfl, by simpa using h⟩
theorem u64_nat {n : Int} (h : (Lit.int .u64 n).wf = true) : ∃ m : Nat, n = (m : Int) ∧ m < 18446744073709551616 := by
  have hb := bounds_u64 h
  exact ⟨n.toNat, by omega, by omega⟩
/-- The elements of a slice, N cells each: element i's cells are C i. -/
structure Arr (w : World) (ao : Option Addr) (len sb off N : Nat) (C : Nat → List Value) : Prop where
  most : len ≤ maxLen
  at_ : 0 < len → ao = some ⟨sb, off, none⟩
  lt : 0 < len → sb < w.heap.size
  cell : ∀ i, i < len → ∀ j, j < N → w.cell? ⟨sb, off + i * N + j, none⟩ = (C i)[j]?
theorem Arr.below {w w' : World} {ao : Option Addr} {len sb off N : Nat} {C : Nat → List Value} (h : Arr w ao len sb off N C) (hb : Below w.heap.size w w') : Arr w' ao len sb off N C :=
  ⟨h.most, h.at_, fun hl => Nat.lt_of_lt_of_le (h.lt hl) hb.size, fun i hi j hj => (World.cell?_of_block (a := ⟨sb, off + i * N + j, none⟩) (hb.block sb (h.lt (by omega)))).trans (h.cell i hi j hj)⟩
end Go.Proofs.YtniniaokibnhfaaGreat.Arry
namespace Go.Proofs.YtniniaokibnhfaaGreat.Bity
theorem i64_and (n : Int) (m k : Nat) (hk : (BitVec.ofInt 64 (m : Int)).toNat = 2 ^ k - 1) (hs : k ≤ 20) : bits .and .i64 n (m : Int) = ((n % ((2 ^ 64 : Nat) : Int)).toNat % 2 ^ k : Nat) := by
  have key : (BitVec.ofInt 64 n &&& BitVec.ofInt 64 (m : Int)).toNat = (n % ((2 ^ 64 : Nat) : Int)).toNat % 2 ^ k := by
    rw [BitVec.toNat_and, BitVec.toNat_ofInt, hk, Nat.and_two_pow_sub_one_eq_mod]
  show IntKind.i64.wrap ((BitVec.ofInt 64 n &&& BitVec.ofInt 64 (m : Int)).toNat : Nat) = _
  rw [key, IntKind.wrap_i64]
  have h1 : (n % ((2 ^ 64 : Nat) : Int)).toNat % 2 ^ k < 2 ^ k := Nat.mod_lt _ (Nat.two_pow_pos k)
  have h2 : 2 ^ k ≤ 2 ^ 20 := Nat.pow_le_pow_right (by omega) hs
  generalize (n % ((2 ^ 64 : Nat) : Int)).toNat % 2 ^ k = q at *
  omega
theorem u64_and (n : Int) (m k : Nat) (hk : (BitVec.ofInt 64 (m : Int)).toNat = 2 ^ k - 1) (hs : k ≤ 20) : bits .and .u64 n (m : Int) = ((n % ((2 ^ 64 : Nat) : Int)).toNat % 2 ^ k : Nat) := by
  have key : (BitVec.ofInt 64 n &&& BitVec.ofInt 64 (m : Int)).toNat = (n % ((2 ^ 64 : Nat) : Int)).toNat % 2 ^ k := by
    rw [BitVec.toNat_and, BitVec.toNat_ofInt, hk, Nat.and_two_pow_sub_one_eq_mod]
  show IntKind.u64.wrap ((BitVec.ofInt 64 n &&& BitVec.ofInt 64 (m : Int)).toNat : Nat) = _
  rw [key, IntKind.wrap_u64]
  have h1 : (n % ((2 ^ 64 : Nat) : Int)).toNat % 2 ^ k < 2 ^ k := Nat.mod_lt _ (Nat.two_pow_pos k)
  have h2 : 2 ^ k ≤ 2 ^ 20 := Nat.pow_le_pow_right (by omega) hs
  generalize (n % ((2 ^ 64 : Nat) : Int)).toNat % 2 ^ k = q at *
  omega
end Go.Proofs.YtniniaokibnhfaaGreat.Bity
namespace Go.Proofs.YtniniaokibnhfaaGreat.Opy
open Wirey (enc txt)


/-- May an operation be? -/
def chk (k : Int) (key val : List UInt8) (t v : Nat) : Bool :=
  if 64 < key.length ∨ 4096 < val.length ∨ 1073741824 < t then false
  else if k = 1 ∨ k = 3 then !key.isEmpty && (val.isEmpty && decide (t = 0)) && decide (v = 0)
  else if k = 2 then !key.isEmpty && decide (v = 0)
  else if k = 4 then !key.isEmpty && decide (0 < v)
  else if k = 5 then key.isEmpty && (val.isEmpty && decide (t = 0)) && decide (v = 0)
  else false
end Go.Proofs.YtniniaokibnhfaaGreat.Opy
namespace Go.Proofs.YtniniaokibnhfaaGreat.Opy
open Go.ChangeShapes Go.WideShapes Go.ChangeAt Go.RowKit
open Wirey (Blk Row str str_size str_list enc)

set_option maxHeartbeats 4000000 in
set_option maxRecDepth 100000 in
theorem pcheck_c (k : Int) (key val : List UInt8) (t v : Nat) (hk : key.length ≤ maxLen) (hv : val.length ≤ maxLen) (w : World) :
    Calls Tryz.prog 37 #[.agg #[.int .i64 k, .string (str key), .string (str val), .int .u64 (t : Int), .int .u64 (v : Int)]] w fun e w' => e = .returned (.bool (chk k key val t v)) ∧ Below w.heap.size w w' := by
  unfold maxLen at hk hv
  have hsz := str_size
  have htl := Wirey.toList_str
  have hb := (Below.refl _ w).alloc (Nat.le_refl _) (.cells #[.int .i64 k, .string (str key), .string (str val), .int .u64 (t : Int), .int .u64 (v : Int)] 52)
  have HB := Lib.hid hb
  clear hb
  by_cases a1 : 64 < key.length
  · have d1 : decide ((64 : Int) < (key.length : Int)) = true := decide_eq_true (by omega)
    have hc : chk k key val t v = false := if_pos (.inl a1)
    rw [hc]
    clear hc
    go_enter Tryz.func37, Tryz.ntmps37
    go_wp2_with fail
    go_ret
    exact ⟨rfl, HB.out⟩
  have d1 : decide ((64 : Int) < (key.length : Int)) = false := decide_eq_false (by omega)
  by_cases a2 : 4096 < val.length
  · have d2 : decide ((4096 : Int) < (val.length : Int)) = true := decide_eq_true (by omega)
    have hc : chk k key val t v = false := if_pos (.inr (.inl a2))
    rw [hc]
    clear hc
    go_enter Tryz.func37, Tryz.ntmps37
    go_wp2_with fail
    go_ret
    exact ⟨rfl, HB.out⟩
  have d2 : decide ((4096 : Int) < (val.length : Int)) = false := decide_eq_false (by omega)
  by_cases a3 : 1073741824 < t
  · have d3 : decide ((1073741824 : Int) < (t : Int)) = true := decide_eq_true (by omega)
    have hc : chk k key val t v = false := if_pos (.inr (.inr a3))
    rw [hc]
    clear hc
    go_enter Tryz.func37, Tryz.ntmps37
    go_wp2_with fail
    go_ret
    exact ⟨rfl, HB.out⟩
  have d3 : decide ((1073741824 : Int) < (t : Int)) = false := decide_eq_false (by omega)
  have hc : chk k key val t v = (if k = 1 ∨ k = 3 then !key.isEmpty && (val.isEmpty && decide (t = 0)) && decide (v = 0) else if k = 2 then !key.isEmpty && decide (v = 0) else if k = 4 then !key.isEmpty && decide (0 < v) else if k = 5 then key.isEmpty && (val.isEmpty && decide (t = 0)) && decide (v = 0) else false) := if_neg (by omega)
  rw [hc]
  clear hc a1 a2 a3
  have f1 : (key == ([] : List UInt8)) = key.isEmpty := by cases key <;> rfl
  have f2 : (val == ([] : List UInt8)) = val.isEmpty := by cases val <;> rfl
  have f3 : ((t : Int) == 0) = decide (t = 0) := by
    by_cases h : t = 0
    · subst h; rfl
    · rw [decide_eq_false h, beq_eq_false_iff_ne]; omega
  have f4 : ((v : Int) == 0) = decide (v = 0) := by
    by_cases h : v = 0
    · subst h; rfl
    · rw [decide_eq_false h, beq_eq_false_iff_ne]; omega
  have fe : (⟨#[]⟩ : ByteArray).toList = [] := Wirey.toList_str []
  generalize key.isEmpty = b1 at *
  generalize val.isEmpty = b2 at *
  generalize decide (t = 0) = b3 at *
  generalize decide (v = 0) = b4 at *
  by_cases h1 : k = 1
  · subst h1
    rw [if_pos (.inl rfl)]
    cases b1 <;> cases b2 <;> cases b3 <;> cases b4
    all_goals
      go_enter Tryz.func37, Tryz.ntmps37
      go_wp2_with fail
      go_ret
      exact ⟨rfl, HB.out⟩
  by_cases h3 : k = 3
  · subst h3
    rw [if_pos (.inr rfl)]
    cases b1 <;> cases b2 <;> cases b3 <;> cases b4
    all_goals
      go_enter Tryz.func37, Tryz.ntmps37
      go_wp2_with fail
      go_ret
      exact ⟨rfl, HB.out⟩
  by_cases h2 : k = 2
  · subst h2
    rw [if_neg (by decide), if_pos rfl]
    cases b1 <;> cases b2
    all_goals
      go_enter Tryz.func37, Tryz.ntmps37
      go_wp2_with fail
      go_ret
      exact ⟨rfl, HB.out⟩
  by_cases h4 : k = 4
  · subst h4
    rw [if_neg (by decide), if_neg (by decide), if_pos rfl]
    cases b1 <;> cases b2
    all_goals
      go_enter Tryz.func37, Tryz.ntmps37
      go_wp2_with fail
      go_ret
      exact ⟨rfl, HB.out⟩
  by_cases h5 : k = 5
  · subst h5
    rw [if_neg (by decide), if_neg (by decide), if_neg (by decide), if_pos rfl]
    cases b1 <;> cases b2 <;> cases b3 <;> cases b4
    all_goals
      go_enter Tryz.func37, Tryz.ntmps37
      go_wp2_with fail
      go_ret
      exact ⟨rfl, HB.out⟩
  rw [if_neg (by omega), if_neg h2, if_neg h4, if_neg h5]
  have g1 : (k == 1) = false := beq_eq_false_iff_ne.2 h1
  have g2 : (k == 2) = false := beq_eq_false_iff_ne.2 h2
  have g3 : (k == 3) = false := beq_eq_false_iff_ne.2 h3
  have g4 : (k == 4) = false := beq_eq_false_iff_ne.2 h4
  have g5 : (k == 5) = false := beq_eq_false_iff_ne.2 h5
  cases b2
  all_goals
    go_enter Tryz.func37, Tryz.ntmps37
    go_wp2_with fail
    go_ret
    exact ⟨rfl, HB.out⟩
end Go.Proofs.YtniniaokibnhfaaGreat.Opy
namespace Go.Proofs.YtniniaokibnhfaaGreat.Regy
open Go.ChangeShapes Go.WideShapes Go.ChangeAt Go.RowKit

/-- The post where the region ends as it should; nothing else. -/
def Only (Q : Exit → Act → World → Prop) : Exit → Act → World → Prop := fun e a w => e = .normal ∧ Q .normal a w
theorem Only.panic {Q : Exit → Act → World → Prop} {c : _} {a a' : Act} {w : World} (h : Only Q (.panic c) a w) : Only Q (.panic c) a' w := by cases h.1
section
variable {P : Program} {md : Region.Mode} {ops : Array Oper} {Q : Exit → Act → World → Prop}
/-- An operation of the region is taken first, its slot named. -/
theorem take_at (i d : Nat) (v : Value) {S : World → Prop} {oi : Oper} {fuel : Nat} {listed : Array Bool} {T : Array Value} {D : List Deferred} {w : World} (hi : ops[i]? = some oi) (hd : oi.dst = some d)
    (hs : Region.noSelect ops = true) (hf : Region.free md ops listed i = true) (hr : (Region.ready md ops listed).contains i = true)
    (hy : YieldsIf P ops S oi v { tmps := T, defers := D }) (hS : S w)
    (h : wpAnyH P md ops (Only Q) S fuel (listed.setIfInBounds i true) { tmps := T.setIfInBounds d v, defers := D } w) : wpAnyH P md ops (Only Q) S (fuel + 1) listed { tmps := T, defers := D } w := by
  refine wpAnyH_take hi hs hf hr (fun _ _ _ h => h.panic) hy hS ?_
  rw [hd]
  exact h
theorem region_only (k : Nat) (L : Array Bool) {S : World → Prop} {id : Nat} {a : Act} {w : World} (hk : ops.size = k) (hL : L = Array.replicate k false) (hm : P.follows .mixedOrders = true) (hS : S w.drew)
    (h : S w.drew → wpAnyH P .any ops (Only Q) S k L a w.drew) : (Code.region id ops true).wp P Q a w := by
  subst hk hL
  exact wp_mono (wp_region_held_drew (S := S) hm hS h) fun e a w ⟨h1, h2⟩ => by subst h1; exact h2
end
end Go.Proofs.YtniniaokibnhfaaGreat.Regy
namespace Go.Proofs.YtniniaokibnhfaaGreat.Regy
open Go.ChangeShapes Go.WideShapes Go.ChangeAt Go.RowKit

/-- A region that draws and stores where it loads: what the store, number g, waits for is taken first. -/
theorem regionK_only {P : Program} {ops : Array Oper} {Q : Exit → Act → World → Prop} (k : Nat) (L : Array Bool) (g : Nat) {V : World → Prop} {id : Nat} {a : Act} {w : World} (hk : ops.size = k) (hL : L = Array.replicate k false) (hm : P.follows .mixedOrders = true) (hV : V w.drew)
    (h : V w.drew → Wirey.wpAnyK P .any ops (Only Q) (fun _ => True) V g k L a w.drew) : (Code.region id ops true).wp P Q a w := by
  subst hk hL
  exact wp_mono (Wirey.wp_region_K hm (fun _ => True) V g (h hV)) fun e a w ⟨h1, h2⟩ => by subst h1; exact h2
theorem early_at {P : Program} {md : Region.Mode} {ops : Array Oper} {Q : Exit → Act → World → Prop} (g i d : Nat) (v : Value) {V : World → Prop} {oi ok : Oper} {fuel : Nat} {li : Array Bool} {T : Array Value} {D : List Deferred} {w : World} (hi : ops[i]? = some oi) (hd : oi.dst = some d)
    (hs : Region.noSelect ops = true) (hf : Region.free md ops li i = true) (hr : (Region.ready md ops li).contains i = true) (hik : i ≠ g) (hko : ops[g]? = some ok) (hw : ok.after.any (fun e => Region.binds md e && e.on == i) = true) (hk0 : li.getD g false = false)
    (hy : YieldsIf P ops V oi v { tmps := T, defers := D }) (hV : V w)
    (h : Wirey.wpAnyK P md ops (Only Q) (fun _ => True) V g fuel (li.setIfInBounds i true) { tmps := T.setIfInBounds d v, defers := D } w) : Wirey.wpAnyK P md ops (Only Q) (fun _ => True) V g (fuel + 1) li { tmps := T, defers := D } w := by
  refine Wirey.wpAnyK_early i (some d) hi hs hf hr hik (fun _ _ _ h => h.panic) trivial hV hko hw hk0 hy hd ?_
  exact h
theorem takeK_at {P : Program} {md : Region.Mode} {ops : Array Oper} {Q : Exit → Act → World → Prop} (g i d : Nat) (v : Value) {V : World → Prop} {oi : Oper} {fuel : Nat} {li : Array Bool} {T : Array Value} {D : List Deferred} {w : World} (hi : ops[i]? = some oi) (hd : oi.dst = some d)
    (hs : Region.noSelect ops = true) (hf : Region.free md ops li i = true) (hr : (Region.ready md ops li).contains i = true) (hik : i ≠ g)
    (hy : YieldsIf P ops (fun _ => True) oi v { tmps := T, defers := D }) (hV : V w)
    (h : Wirey.wpAnyK P md ops (Only Q) (fun _ => True) V g fuel (li.setIfInBounds i true) { tmps := T.setIfInBounds d v, defers := D } w) : Wirey.wpAnyK P md ops (Only Q) (fun _ => True) V g (fuel + 1) li { tmps := T, defers := D } w := by
  refine Wirey.wpAnyK_take i (some d) hi hs hf hr hik (fun _ _ _ h => h.panic) trivial (fun _ => hV) hy hd ?_
  exact h
section
variable {P : Program} {ops : Array Oper} {Q : Exit → Act → World → Prop} {md : Region.Mode} {C V : World → Prop} {k : Nat}
end
end Go.Proofs.YtniniaokibnhfaaGreat.Regy
namespace Go.Proofs.YtniniaokibnhfaaGreat.Policyy
open Ringy
open Arcy (Av)
open Tinyy (Tv)

def Pv.Fit : Pv → Prop
  | .a v => v.Ok
  | .t v => v.Ok
def Pv.most : Pv → Nat
  | .a v => v.most
  | .t v => v.most
/-- The same kind, as many, and it is as it may be. -/
structure Pv.Same (p q : Pv) : Prop where
  fit : q.Fit
  most : q.most = p.most
  kind : q.kind = p.kind
section
variable {p q r : Pv} {k : Key}
theorem Pv.Same.trans (h : p.Same q) (h' : q.Same r) : p.Same r := ⟨h'.fit, h'.most.trans h.most, h'.kind.trans h.kind⟩
theorem Pv.Fit.refl (h : p.Fit) : p.Same p := ⟨h, rfl, rfl⟩
theorem Pv.Out.fit (h : p.Out) : p.Fit := by
  cases p with
  | a v => exact h.1
  | t v => exact h.1
theorem Pv.Fit.touch (h : p.Fit) (k : Key) : p.Same (p.touch k) ∧ ∀ x, (p.touch k).has x = p.has x := by
  cases p with
  | a v =>
    have h' : v.Ok := h
    refine ⟨⟨(Av.touch_ok h' k).1, (Av.touch_ok h' k).2, rfl⟩, fun x => ?_⟩
    show (v.touch k).has x = v.has x
    unfold Av.touch
    split
    · rename_i e
      rw [Av.has_fr (by omega)]
      by_cases hx : x = k
      · subst hx; rw [e]; simp
      · simp [hx]
    · rfl
  | t v =>
    have h' : v.Ok := h
    have := Tinyy.Tv.touch_spec h' k
    exact ⟨⟨this.1, this.2.1, rfl⟩, this.2.2⟩
theorem Pv.Fit.miss (h : p.Fit) (k : Key) : p.Same (p.miss k) ∧ ∀ x, (p.miss k).has x = p.has x := by
  cases p with
  | a v => exact ⟨h.refl, fun _ => rfl⟩
  | t v =>
    have h' : v.Ok := h
    show Pv.Same (.t v) (if v.has k = true then .t v else .t (v.miss k)) ∧ ∀ x, Pv.has (if v.has k = true then .t v else .t (v.miss k)) x = v.has x
    split
    · exact ⟨h.refl, fun _ => rfl⟩
    · refine ⟨⟨(Tinyy.Tv.miss_ok h' k).1, (Tinyy.Tv.miss_ok h' k).2, rfl⟩, fun x => ?_⟩
      show (v.miss k).has x = v.has x
      unfold Tinyy.Tv.miss
      split <;> rfl
theorem Pv.Fit.drop (h : p.Fit) (k : Key) : p.Same (p.drop k) ∧ ∀ x, (p.drop k).has x = (p.has x && decide (x ≠ k)) := by
  cases p with
  | a v =>
    have h' : v.Ok := h
    refine ⟨⟨h'.dr k, rfl, rfl⟩, fun x => ?_⟩
    show (v.dr k).has x = (v.has x && decide (x ≠ k))
    refine Av.has_of ?_
    rw [Av.mem_dr, Av.mem_dr, Bool.and_eq_true, decide_eq_true_eq, Av.has_iff]
    constructor
    · rintro (⟨a, b⟩ | ⟨a, b⟩)
      · exact ⟨.inl a, b⟩
      · exact ⟨.inr a, b⟩
    · rintro ⟨a | a, b⟩
      · exact .inl ⟨a, b⟩
      · exact .inr ⟨a, b⟩
  | t v =>
    have h' : v.Ok := h
    exact ⟨⟨h'.dr k, rfl, rfl⟩, fun x => Tinyy.Tv.has_dr⟩
theorem roomK_has {v : Av} {b : Bool} {x : Key} (hx : x ∈ v.roomK b) : v.has x = true := by
  unfold Av.roomK at hx
  split at hx
  · cases hx
  · rw [Option.mem_toList] at hx
    have hm := Av.last_mem hx
    rcases Av.src_cases v b with e | e <;> rw [e] at hm
    · exact Av.has_iff.2 (.inl hm)
    · exact Av.has_iff.2 (.inr hm)
theorem forget_has {v : Av} {i : Nat} {x : Key} (hx : (v.forget i).has x = true) : v.has x = true := by
  unfold Av.forget at hx
  split at hx
  · exact hx
  · rw [Av.has_iff, Av.mem_dr, Av.mem_dr] at hx
    exact Av.has_iff.2 (hx.imp (·.1) (·.1))
theorem insK_has {v : Av} {x : Key} (hx : x ∈ v.insK k) : v.has x = true ∧ v.at_ k ≠ some 0 ∧ v.at_ k ≠ some 1 := by
  unfold Av.insK at hx
  split at hx
  · rename_i e
    rw [e]
    refine ⟨?_, by simp, by simp⟩
    unfold Av.freshK at hx
    split at hx
    · rw [Option.mem_toList] at hx
      exact Av.has_iff.2 (.inl (Av.last_mem hx))
    · have h1 := roomK_has hx
      unfold Av.shut at h1
      split at h1
      · exact forget_has h1
      · split at h1
        · exact forget_has h1
        · exact h1
  · rename_i e
    rw [e]
    exact ⟨roomK_has (v := v.up) hx, by simp, by simp⟩
  · rename_i e
    rw [e]
    exact ⟨roomK_has (v := v.down) hx, by simp, by simp⟩
  · cases hx
theorem Pv.Fit.insert (h : p.Fit) (hk : k.length ≤ 64) : p.Same (p.insert k) ∧ (∀ x, (p.insert k).has x = ((decide (x = k) || p.has x) && decide (x ∉ p.insertK k))) ∧ (p.insertK k).length ≤ 1 := by
  cases p with
  | a v =>
    have h' : v.Ok := h
    have hs := Av.ins_spec h' hk
    have e1 : v.insert k = v.ins k := if_neg (by omega)
    have e2 : v.insertK k = v.insK k := if_neg (by omega)
    show Pv.Same (.a v) (.a (v.insert k)) ∧ (∀ x, (v.insert k).has x = ((decide (x = k) || v.has x) && decide (x ∉ v.insertK k))) ∧ (v.insertK k).length ≤ 1
    rw [e1, e2]
    refine ⟨⟨hs.ok, hs.most, rfl⟩, fun x => ?_, hs.glen⟩
    rw [hs.has]
    by_cases hx : x = k
    · subst hx
      have hn : x ∉ v.insK x := fun hm => by
        obtain ⟨h1, h2, h3⟩ := insK_has hm
        rw [Av.at_has h'] at h1
        simp [h2, h3] at h1
      simp [hn]
    · simp [hx]
  | t v =>
    have h' : v.Ok := h
    have hs := Tinyy.Tv.ins_spec h' hk
    have e1 : v.insert k = v.ins k := if_neg (by omega)
    have e2 : v.insertK k = v.insK k := if_neg (by omega)
    show Pv.Same (.t v) (.t (v.insert k)) ∧ (∀ x, (v.insert k).has x = ((decide (x = k) || v.has x) && decide (x ∉ v.insertK k))) ∧ (v.insertK k).length ≤ 1
    rw [e1, e2]
    exact ⟨⟨hs.ok, hs.most, rfl⟩, hs.has, hs.glen⟩
theorem Pv.Fit.insertK_has {x : Key} (h : p.Fit) (hk : k.length ≤ 64) (hx : x ∈ p.insertK k) : p.has x = true := by
  cases p with
  | a v =>
    have hx' : x ∈ v.insertK k := hx
    rw [show v.insertK k = v.insK k from if_neg (by omega)] at hx'
    exact (insK_has hx').1
  | t v =>
    have hx' : x ∈ v.insertK k := hx
    rw [show v.insertK k = v.insK k from if_neg (by omega)] at hx'
    exact (Tinyy.Tv.ins_spec h hk).gsub x hx'
theorem Pv.Fit.kept (h : p.Fit) : p.kept ≤ p.most := by
  cases p with
  | a v => exact Arcy.Av.Ok.kept h
  | t v => exact Tinyy.Tv.Ok.kept h
theorem Pv.Fit.most (h : p.Fit) : 1 ≤ p.most ∧ p.most ≤ 1000 := by
  cases p with
  | a v => exact ⟨Arcy.Av.Ok.m1 h, Arcy.Av.Ok.m2 h⟩
  | t v => exact ⟨(Tinyy.Tv.Ok.fit h).m1, (Tinyy.Tv.Ok.fit h).m2⟩
theorem Pv.Fit.count (h : p.Fit) {l : List Key} (hl : l.Nodup) (hm : ∀ x, x ∈ l ↔ p.has x = true) : p.kept = l.length := by
  cases p with
  | a v => exact Av.kept_of h hl hm
  | t v => exact Tinyy.Tv.kept_of (Tinyy.Tv.Ok.fit h) hl hm
theorem Pv.Fit.goes_no (h : p.Fit) (hg : p.goes = none) : p.kept = 0 := by
  cases p with
  | a v =>
    rcases Nat.eq_zero_or_pos v.kept with h0 | h0
    · exact h0
    · obtain ⟨k, hk, -⟩ := Av.repl_went h false h0
      rw [show Pv.goes (.a v) = v.last (v.src false) from rfl, hk] at hg
      cases hg
  | t v =>
    have hg' : v.first [1, 0, 2] = none := hg
    rw [Tinyy.Tv.first_cons] at hg'
    cases e1 : v.last 1 with
    | some k => rw [e1] at hg'; cases hg'
    | none =>
      rw [e1] at hg'
      replace hg' : v.first [0, 2] = none := hg'
      rw [Tinyy.Tv.first_cons] at hg'
      cases e0 : v.last 0 with
      | some k => rw [e0] at hg'; cases hg'
      | none =>
        rw [e0] at hg'
        replace hg' : v.first [2] = none := hg'
        rw [Tinyy.Tv.first_cons] at hg'
        cases e2 : v.last 2 with
        | some k => rw [e2] at hg'; cases hg'
        | none =>
          show v.len 0 + v.len 1 + v.len 2 = 0
          unfold Tinyy.Tv.len
          rw [Tinyy.Tv.last_none e0, Tinyy.Tv.last_none e1, Tinyy.Tv.last_none e2]
          rfl
theorem Pv.Fit.goes_yes (h : p.Fit) (hg : p.goes = some k) : p.has k = true ∧ p.Same p.evict ∧ ∀ x, p.evict.has x = (p.has x && decide (x ≠ k)) := by
  cases p with
  | a v =>
    have h' : v.Ok := h
    have hg' : v.last (v.src false) = some k := hg
    have hm := Av.last_mem hg'
    have hh : v.has k = true := by
      rcases Av.src_cases v false with e | e <;> rw [e] at hm
      · exact Av.has_iff.2 (.inl hm)
      · exact Av.has_iff.2 (.inr hm)
    have h0 : 0 < v.kept := by
      have : 0 < v.len (v.src false) := List.length_pos_of_mem hm
      unfold Av.kept
      rcases Av.src_cases v false with e | e <;> rw [e] at this <;> omega
    obtain ⟨k', hk, hw⟩ := Av.repl_went h' false h0
    rw [hg'] at hk
    injection hk with hk
    subst hk
    exact ⟨hh, ⟨hw.ok, hw.most, rfl⟩, hw.has⟩
  | t v =>
    have h' : v.Ok := h
    have hg' : v.goes = some k := hg
    have he : v.evict = v.dr k := by unfold Tinyy.Tv.evict; rw [hg']
    obtain ⟨i, hi, hm⟩ := Tinyy.Tv.goes_mem hg'
    refine ⟨Tinyy.Tv.has_iff.2 ⟨i, hi, hm⟩, ⟨(Tinyy.Tv.evict_ok h').1, (Tinyy.Tv.evict_ok h').2, rfl⟩, fun x => ?_⟩
    show v.evict.has x = _
    rw [he]
    exact Tinyy.Tv.has_dr
theorem Pv.new_fit {kind n seed : Nat} (hk : kind = 1 ∨ kind = 2) (h1 : 1 ≤ n) (h2 : n ≤ 1000) (h3 : seed < 18446744073709551616) : (Pv.new kind n seed).Fit ∧ (Pv.new kind n seed).most = n ∧ (Pv.new kind n seed).kind = kind ∧ ∀ x, (Pv.new kind n seed).has x = false := by
  rcases hk with rfl | rfl
  · exact ⟨Av.new_ok h1 h2, rfl, rfl, fun x => rfl⟩
  · exact ⟨Tinyy.Tv.new_ok h1 h2 h3, rfl, rfl, fun x => rfl⟩
end
end Go.Proofs.YtniniaokibnhfaaGreat.Policyy
