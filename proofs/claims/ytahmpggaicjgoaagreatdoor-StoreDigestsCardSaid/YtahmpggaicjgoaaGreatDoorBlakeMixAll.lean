/- A law of orders (the program's order of evaluation is drawn): a condition on the world may hang on whether one named operation has come up already: what waits for a load by that operation may be taken first though stores come later. For tuple assignments of words of a row ('v[i], v[j] = f(v[i], v[j])', layer 4). No condition. Contracts of layer 4's program (blake): a word turned to the right; four words mixed. Pure: no world turns. No condition. -/
import Derived.Test.YtahmpggaicjgoaaGreatDoorKit
import Derived.Deep.RegionHeld3
import Derived.Test.YtahmpggaicjgoaaGreatDoorBlakeArrAll
import Derived.StillTailTactics
import Derived.Test.YtahmpggaicjgoaaGreatDoorSq
namespace Go.Proofs.YtahmpggaicjgoaaGreatDoor.Wirey
open Go.ChangeShapes Go.WideShapes Go.ChangeAt Go.RowKit

section
variable {P : Program} {ops : Array Oper} {Q : Exit → Act → World → Prop} {md : Region.Mode}
def wpAnyK (P : Program) (md : Region.Mode) (ops : Array Oper) (Q : Exit → Act → World → Prop) (C V : World → Prop) (k : Nat) : Nat → Array Bool → Act → World → Prop
 | 0, li, a, w => Region.ready md ops li = [] ∧ Q .normal a w
 | n + 1, li, a, w => (Region.ready md ops li = [] → Q .normal a w) ∧ ∀ i ∈ Region.ready md ops li,
   wpOp P ops Q i (fun b u => (C u ∧ ((li.setIfInBounds i true).getD k false = false → V u)) ∧ wpAnyK P md ops Q C V k n (li.setIfInBounds i true) b u) a w
variable {C V : World → Prop} {k : Nat}
theorem wpAny_of_K : ∀ (n : Nat) (li : Array Bool) (a : Act) (w : World), wpAnyK P md ops Q C V k n li a w → wpAny P md ops Q n li a w := by
 intro n
 induction n with
 | zero => exact fun _ _ _ h => h
 | succ n ih => exact fun _ _ _ h => ⟨h.1, fun i hi => wpOp_mono (fun _ _ hh => ih _ _ _ hh.2) (h.2 i hi)⟩
theorem wpAnyK_first {ok : Array Bool → Prop} {T : World → Prop} {i : Nat} {oi : Oper} {v : Value} (hi : ops[i]? = some oi) (hs : Region.noSelect ops = true) (hik : i ≠ k)
  (hQ : ∀ c a w, Q (.panic c) (a.put oi.dst v) w → Q (.panic c) a w)
  (hT : ∀ li w, ok li → C w → (li.getD k false = false → V w) → T w)
  (hok : ∀ li j oj, ok li → ops[j]? = some oj → (∀ e ∈ oj.after, Region.binds md e = true → e.on ≠ i) → ok (li.setIfInBounds j true)) :
  ∀ (n : Nat) (li : Array Bool) (a : Act) (w : World), Region.free md ops li i = true ∨ (∀ j oj, ops[j]? = some oj → j ≠ i → li.getD j true = false → (∀ e ∈ oj.after, Region.binds md e = true → e.on ≠ i) → oi.apart ops oj = true) →
   i ∈ Region.ready md ops li → ok li → YieldsIf P ops T oi v a → C w → (li.getD k false = false → V w) →
   wpAnyK P md ops Q C V k n (li.setIfInBounds i true) (a.put oi.dst v) w → wpAnyK P md ops Q C V k (n + 1) li a w := by
 have hsel := Region.noSelect_spec hs
 have hkk : ∀ li : Array Bool, (li.setIfInBounds i true).getD k false = li.getD k false := fun li => getD_set_ne false hik
 intro n
 induction n with
 | zero =>
  intro li a w _ hr hk hy hC hV H
  refine ⟨fun h0 => ?_, fun j hj => ?_⟩
  ·rw [h0] at hr; cases hr
  ·by_cases hji : j = i
   ·subst hji
    exact hy.wpOp hi (hT li w hk hC hV) ⟨⟨hC, fun hh => hV (by rwa [hkk] at hh)⟩, H⟩
   ·have hm := ready_mono hj hji
    rw [H.1] at hm; cases hm
 | succ n ih =>
  intro li a w hfr hr hk hy hC hV H
  have hfree : ∀ j oj, ops[j]? = some oj → j ≠ i → li.getD j true = false → (∀ e ∈ oj.after, Region.binds md e = true → e.on ≠ i) → oi.apart ops oj = true := hfr.elim (Region.free_spec hi) id
  refine ⟨fun h0 => ?_, fun j hj => ?_⟩
  ·rw [h0] at hr; cases hr
  ·by_cases hji : j = i
   ·subst hji
    exact hy.wpOp hi (hT li w hk hC hV) ⟨⟨hC, fun hh => hV (by rwa [hkk] at hh)⟩, H⟩
   ·obtain ⟨hun, oj, hoj, hall⟩ := mem_ready.1 hj
    have hi0 : li.getD i true = false := (mem_ready.1 hr).1
    have hwait : ∀ e ∈ oj.after, Region.binds md e = true → e.on ≠ i := by
     intro e he hb hei
     have h1 := hall e he hb
     rw [hei] at h1
     have hlt : i < li.size := by
      rcases Nat.lt_or_ge i li.size with h | h
      ·exact h
      ·simp [Array.getElem?_eq_none h] at h1
     simp [hlt] at hi0 h1
     rw [hi0] at h1; cases h1
    have step := wpOp_putIf hoj (hfree j oj hoj hji hun hwait) (fun cs b => hsel i oi cs b hi) (fun cs b => hsel j oj cs b hoj) hQ hy (H.2 j (ready_mono hj hji))
    refine wpOp_mono (fun b u hh => ?_) step
    obtain ⟨hy2, ⟨hC2, hV2⟩, H2⟩ := hh
    have hc : (li.setIfInBounds i true).setIfInBounds j true = (li.setIfInBounds j true).setIfInBounds i true := Array.setIfInBounds_comm _ _ (Ne.symm hji)
    rw [hc] at hV2 H2
    rw [hkk] at hV2
    refine ⟨⟨hC2, hV2⟩, ih (li.setIfInBounds j true) b u (Or.inr fun m om hom hmi hunm hwm => hfree m om hom hmi ?_ hwm) (ready_mono hr (Ne.symm hji)) (hok li j oj hk hoj hwait) hy2 hC2 hV2 H2⟩
    by_cases hjm : j = m
    ·subst hjm; exact hun
    ·rw [getD_set_ne true hjm] at hunm; exact hunm
theorem wpAnyK_take (i : Nat) (d : Option Tmp) {oi : Oper} {v : Value} {n : Nat} {li : Array Bool} {a : Act} {w : World} (hi : ops[i]? = some oi) (hs : Region.noSelect ops = true) (hf : Region.free md ops li i = true)
  (hr : (Region.ready md ops li).contains i = true) (hik : i ≠ k) (hQ : ∀ c a w, Q (.panic c) (a.put d v) w → Q (.panic c) a w) (hC : C w) (hV : li.getD k false = false → V w)
  (hy : YieldsIf P ops C oi v a) (hd : oi.dst = d) (h : wpAnyK P md ops Q C V k n (li.setIfInBounds i true) (a.put d v) w) : wpAnyK P md ops Q C V k (n + 1) li a w := by
 subst hd
 exact wpAnyK_first (ok := fun _ => True) (T := C) hi hs hik hQ (fun _ _ _ h _ => h) (fun _ _ _ _ _ _ => trivial) n li a w (Or.inl hf) (by simpa using hr) trivial hy hC hV h
theorem wpAnyK_early (i : Nat) (d : Option Tmp) {oi ok : Oper} {v : Value} {n : Nat} {li : Array Bool} {a : Act} {w : World} (hi : ops[i]? = some oi) (hs : Region.noSelect ops = true) (hf : Region.free md ops li i = true)
  (hr : (Region.ready md ops li).contains i = true) (hik : i ≠ k) (hQ : ∀ c a w, Q (.panic c) (a.put d v) w → Q (.panic c) a w) (hC : C w) (hV : V w)
  (hko : ops[k]? = some ok) (hw : ok.after.any (fun e => Region.binds md e && e.on == i) = true) (hk0 : li.getD k false = false)
  (hy : YieldsIf P ops V oi v a) (hd : oi.dst = d) (h : wpAnyK P md ops Q C V k n (li.setIfInBounds i true) (a.put d v) w) : wpAnyK P md ops Q C V k (n + 1) li a w := by
 subst hd
 exact wpAnyK_first (ok := fun li => li.getD k false = false) (T := V) hi hs hik hQ (fun _ _ h0 _ hh => hh h0) (fun li j oj h0 hoj hno => by
   have hjk : j ≠ k := by
     rintro rfl
     obtain rfl : oj = ok := Option.some.inj (hoj.symm.trans hko)
     obtain ⟨e, he, hb⟩ := Array.any_eq_true'.1 hw
     simp only [Bool.and_eq_true, beq_iff_eq] at hb
     exact hno e he hb.1 hb.2
   exact (getD_set_ne false hjk).trans h0) n li a w (Or.inl hf) (by simpa using hr) hk0 hy hC (fun _ => hV) h
theorem wpAnyK_one (i : Nat) {o : Oper} {n : Nat} {li : Array Bool} {a : Act} {w : World} (hr : Region.ready md ops li = [i]) (ho : ops[i]? = some o)
  (h : ∀ K : Act → World → Prop, Shut (∀ b u, C u → ((li.setIfInBounds i true).getD k false = false → V u) → wpAnyK P md ops Q C V k n (li.setIfInBounds i true) b u → K b u) → if Region.wanted o (yielded ops a.tmps) = true then Oper.wp P o a w K Q else K (a.put o.dst undef) w) :
  wpAnyK P md ops Q C V k (n + 1) li a w := by
 refine ⟨fun h0 => ?_, fun j hj => ?_⟩
 ·rw [hr] at h0; cases h0
 ·rw [hr] at hj
  obtain rfl := List.mem_singleton.1 hj
  exact wpOp_step ho fun K hK => h K (fun b u h1 h2 h3 => hK b u ⟨⟨h1, h2⟩, h3⟩)
theorem wpAnyK_late : ∀ (n : Nat) (li : Array Bool) (a : Act) (w : World), li.getD k false = true → wpAnyH P md ops Q C n li a w → wpAnyK P md ops Q C V k n li a w := by
 intro n
 induction n with
 | zero => exact fun _ _ _ _ h => h
 | succ n ih => exact fun li a w hk h => ⟨h.1, fun i hi => wpOp_mono (fun b u hh => ⟨⟨hh.1, fun h0 => (by rw [getD_set_true hk] at h0; cases h0)⟩, ih _ b u (getD_set_true hk) hh.2⟩) (h.2 i hi)⟩
theorem wpAnyH_late (i : Nat) (d : Option Tmp) {oi : Oper} {v : Value} {n : Nat} {li : Array Bool} {a : Act} {w : World} (hi : ops[i]? = some oi) (hs : Region.noSelect ops = true) (hf : Region.free md ops li i = true)
  (hr : (Region.ready md ops li).contains i = true) (hQ : ∀ c a w, Q (.panic c) (a.put d v) w → Q (.panic c) a w) (hC : C w)
  (hy : YieldsIf P ops C oi v a) (hd : oi.dst = d) (h : wpAnyH P md ops Q C n (li.setIfInBounds i true) (a.put d v) w) : wpAnyH P md ops Q C (n + 1) li a w := by
 subst hd
 exact wpAnyH_take hi hs hf hr hQ hy hC h
theorem wpAnyH_one (i : Nat) {o : Oper} {n : Nat} {li : Array Bool} {a : Act} {w : World} (hr : Region.ready md ops li = [i]) (ho : ops[i]? = some o)
  (h : ∀ K : Act → World → Prop, Shut (∀ b u, C u → wpAnyH P md ops Q C n (li.setIfInBounds i true) b u → K b u) → if Region.wanted o (yielded ops a.tmps) = true then Oper.wp P o a w K Q else K (a.put o.dst undef) w) :
  wpAnyH P md ops Q C (n + 1) li a w := by
 refine ⟨fun h0 => ?_, fun j hj => ?_⟩
 ·rw [hr] at h0; cases h0
 ·rw [hr] at hj
  obtain rfl := List.mem_singleton.1 hj
  exact wpOp_step ho fun K hK => h K (fun b u h1 h2 => hK b u ⟨h1, h2⟩)
theorem wpAnyK_done {n : Nat} {li : Array Bool} {a : Act} {w : World} (hr : Region.ready md ops li = []) (h : Q .normal a w) : wpAnyK P md ops Q C V k n li a w := by
 cases n with
 | zero => exact ⟨hr, h⟩
 | succ n => exact ⟨fun _ => h, by rw [hr]; simp⟩
theorem wp_region_K {id : Nat} {a : Act} {w : World} (hm : P.follows .mixedOrders = true) (C V : World → Prop) (k : Nat)
  (h : wpAnyK P .any ops Q C V k ops.size (Array.replicate ops.size false) a { w with drawn := w.drawn + 1 }) : (Code.region id ops true).wp P Q a w :=
 wp_region_any hm (wpAny_of_K _ _ _ _ h)
end
end Go.Proofs.YtahmpggaicjgoaaGreatDoor.Wirey
namespace Go.Proofs.YtahmpggaicjgoaaGreatDoor.Wirey
open Go.ChangeShapes Go.WideShapes Go.ChangeAt Go.RowKit

theorem rot_bits2 (n k : Nat) (hn : n < 4294967296) : bits .or .u32 ((n : Int) * 2 ^ (32 - k) % 4294967296) ((n : Int) / 2 ^ k) = (rot n k : Int) := by
 have h := u32_or_nat (n * 2 ^ (32 - k) % 4294967296) (n / 2 ^ k) (Nat.mod_lt _ (by omega)) (Nat.lt_of_le_of_lt (Nat.div_le_self _ _) hn)
 rw [show ((n / 2 ^ k : Nat) : Int) = (n : Int) / 2 ^ k by simp, show ((n * 2 ^ (32 - k) % 4294967296 : Nat) : Int) = (n : Int) * 2 ^ (32 - k) % 4294967296 by simp, Nat.or_comm] at h
 exact h
set_option maxHeartbeats 1000000 in
theorem right16 (n : Nat) (hn : n < 4294967296) (w : World) :
  Calls Tryz.prog 126 #[.int .u32 (n : Int), .int .i64 16] w fun e w' => e = .returned (.int .u32 (rot n 16 : Int)) ∧ w = w' := by
 have h := Lib.hid (rot_bits2 n 16 hn)
 have hb : bits BinOp.and IntKind.u64 (IntKind.u64.wrap (-16)) 31 = 16 := by decide +kernel
 go_enter Tryz.func126, Tryz.ntmps126
 go_wp2
 go_ret
 refine ⟨?_, rfl⟩
 have h2 := h.out
 simp at h2 ⊢
 exact h2
set_option maxHeartbeats 1000000 in
theorem right12 (n : Nat) (hn : n < 4294967296) (w : World) :
  Calls Tryz.prog 126 #[.int .u32 (n : Int), .int .i64 12] w fun e w' => e = .returned (.int .u32 (rot n 12 : Int)) ∧ w = w' := by
 have h := Lib.hid (rot_bits2 n 12 hn)
 have hb : bits BinOp.and IntKind.u64 (IntKind.u64.wrap (-12)) 31 = 20 := by decide +kernel
 go_enter Tryz.func126, Tryz.ntmps126
 go_wp2
 go_ret
 refine ⟨?_, rfl⟩
 have h2 := h.out
 simp at h2 ⊢
 exact h2
set_option maxHeartbeats 1000000 in
theorem right8 (n : Nat) (hn : n < 4294967296) (w : World) :
  Calls Tryz.prog 126 #[.int .u32 (n : Int), .int .i64 8] w fun e w' => e = .returned (.int .u32 (rot n 8 : Int)) ∧ w = w' := by
 have h := Lib.hid (rot_bits2 n 8 hn)
 have hb : bits BinOp.and IntKind.u64 (IntKind.u64.wrap (-8)) 31 = 24 := by decide +kernel
 go_enter Tryz.func126, Tryz.ntmps126
 go_wp2
 go_ret
 refine ⟨?_, rfl⟩
 have h2 := h.out
 simp at h2 ⊢
 exact h2
set_option maxHeartbeats 1000000 in
theorem right7 (n : Nat) (hn : n < 4294967296) (w : World) :
  Calls Tryz.prog 126 #[.int .u32 (n : Int), .int .i64 7] w fun e w' => e = .returned (.int .u32 (rot n 7 : Int)) ∧ w = w' := by
 have h := Lib.hid (rot_bits2 n 7 hn)
 have hb : bits BinOp.and IntKind.u64 (IntKind.u64.wrap (-7)) 31 = 25 := by decide +kernel
 go_enter Tryz.func126, Tryz.ntmps126
 go_wp2
 go_ret
 refine ⟨?_, rfl⟩
 have h2 := h.out
 simp at h2 ⊢
 exact h2

theorem addE2 (a b x : Nat) : ((a : Int) + ((b : Int) + (x : Int)) % 4294967296) % 4294967296 = (((a + b + x) % 4294967296 : Nat) : Int) := by omega
theorem addF2 (a b : Nat) : ((a : Int) + (b : Int)) % 4294967296 = (((a + b + 0) % 4294967296 : Nat) : Int) := by omega
def mix4 (a b c d x y : Nat) : List Nat := mixG [a, b, c, d] 0 1 2 3 x y
def MixEnd (a b c d x y : Nat) (w : World) (e : Ending) (w' : World) : Prop :=
 e = .returned (.tuple #[.int .u32 (nat_ (mix4 a b c d x y) 0 : Int), .int .u32 (nat_ (mix4 a b c d x y) 1 : Int), .int .u32 (nat_ (mix4 a b c d x y) 2 : Int), .int .u32 (nat_ (mix4 a b c d x y) 3 : Int)]) ∧ w = w'
theorem mix4_eq {a b c d x y a1 d1 c1 b1 a2 d2 c2 b2 : Nat} (h1 : a1 = (a + b + x) % 4294967296) (h2 : d1 = rot (d ^^^ a1) 16) (h3 : c1 = (c + d1 + 0) % 4294967296) (h4 : b1 = rot (b ^^^ c1) 12)
  (h5 : a2 = (a1 + b1 + y) % 4294967296) (h6 : d2 = rot (d1 ^^^ a2) 8) (h7 : c2 = (c1 + d2 + 0) % 4294967296) (h8 : b2 = rot (b1 ^^^ c2) 7) : mix4 a b c d x y = [a2, b2, c2, d2] := by
 have e1 : gA [a, b, c, d] 0 1 x = [a1, b, c, d] := by rw [h1]; rfl
 have e2 : gX [a1, b, c, d] 3 0 16 = [a1, b, c, d1] := by rw [h2]; rfl
 have e3 : gA [a1, b, c, d1] 2 3 0 = [a1, b, c1, d1] := by rw [h3]; rfl
 have e4 : gX [a1, b, c1, d1] 1 2 12 = [a1, b1, c1, d1] := by rw [h4]; rfl
 have e5 : gA [a1, b1, c1, d1] 0 1 y = [a2, b1, c1, d1] := by rw [h5]; rfl
 have e6 : gX [a2, b1, c1, d1] 3 0 8 = [a2, b1, c1, d2] := by rw [h6]; rfl
 have e7 : gA [a2, b1, c1, d2] 2 3 0 = [a2, b1, c2, d2] := by rw [h7]; rfl
 have e8 : gX [a2, b1, c2, d2] 1 2 7 = [a2, b2, c2, d2] := by rw [h8]; rfl
 unfold mix4 mixG
 rw [e1, e2, e3, e4, e5, e6, e7, e8]
set_option maxHeartbeats 4000000 in
theorem mixed_c (a b c d x y : Nat) (hb : b < 4294967296) (hd : d < 4294967296) (w : World) :
  Calls Tryz.prog 95 #[.int .u32 (a : Int), .int .u32 (b : Int), .int .u32 (c : Int), .int .u32 (d : Int), .int .u32 (x : Int), .int .u32 (y : Int)] w (MixEnd a b c d x y w) := by
 go_enter Tryz.func95, Tryz.ntmps95
 go_upto_region 2 with fail
 rw [addE2]
 obtain ⟨a1, h1⟩ : ∃ n, Hid (n = (a + b + x) % 4294967296) := ⟨_, Lib.hid rfl⟩
 have ha1 : a1 < 4294967296 := by rw [h1.out]; exact Nat.mod_lt _ (by omega)
 rw [← h1.out]
 have x2 := u32_xor_nat d a1 hd ha1
 go_upto_region 3 with (go_at_call 126; refine (right16 (d ^^^ a1) (xor_lt hd ha1) _).mono ?_; rintro _ _ ⟨rfl, rfl⟩)
 obtain ⟨d1, h2⟩ : ∃ n, Hid (n = rot (d ^^^ a1) 16) := ⟨_, Lib.hid rfl⟩
 have hd1 : d1 < 4294967296 := by rw [h2.out]; exact rot_lt (xor_lt hd ha1)
 rw [← h2.out]
 clear x2
 go_upto_region 4 with fail
 rw [addF2]
 obtain ⟨c1, h3⟩ : ∃ n, Hid (n = (c + d1 + 0) % 4294967296) := ⟨_, Lib.hid rfl⟩
 have hc1 : c1 < 4294967296 := by rw [h3.out]; exact Nat.mod_lt _ (by omega)
 rw [← h3.out]
 have x4 := u32_xor_nat b c1 hb hc1
 go_upto_region 5 with (go_at_call 126; refine (right12 (b ^^^ c1) (xor_lt hb hc1) _).mono ?_; rintro _ _ ⟨rfl, rfl⟩)
 obtain ⟨b1, h4⟩ : ∃ n, Hid (n = rot (b ^^^ c1) 12) := ⟨_, Lib.hid rfl⟩
 have hb1 : b1 < 4294967296 := by rw [h4.out]; exact rot_lt (xor_lt hb hc1)
 rw [← h4.out]
 clear x4
 go_upto_region 6 with fail
 rw [addE2]
 obtain ⟨a2, h5⟩ : ∃ n, Hid (n = (a1 + b1 + y) % 4294967296) := ⟨_, Lib.hid rfl⟩
 have ha2 : a2 < 4294967296 := by rw [h5.out]; exact Nat.mod_lt _ (by omega)
 rw [← h5.out]
 have x6 := u32_xor_nat d1 a2 hd1 ha2
 go_upto_region 7 with (go_at_call 126; refine (right8 (d1 ^^^ a2) (xor_lt hd1 ha2) _).mono ?_; rintro _ _ ⟨rfl, rfl⟩)
 obtain ⟨d2, h6⟩ : ∃ n, Hid (n = rot (d1 ^^^ a2) 8) := ⟨_, Lib.hid rfl⟩
 have hd2 : d2 < 4294967296 := by rw [h6.out]; exact rot_lt (xor_lt hd1 ha2)
 rw [← h6.out]
 clear x6
 go_upto_region 8 with fail
 rw [addF2]
 obtain ⟨c2, h7⟩ : ∃ n, Hid (n = (c1 + d2 + 0) % 4294967296) := ⟨_, Lib.hid rfl⟩
 have hc2 : c2 < 4294967296 := by rw [h7.out]; exact Nat.mod_lt _ (by omega)
 rw [← h7.out]
 have x8 := u32_xor_nat b1 c2 hb1 hc2
 go_upto_region 9 with (go_at_call 126; refine (right7 (b1 ^^^ c2) (xor_lt hb1 hc2) _).mono ?_; rintro _ _ ⟨rfl, rfl⟩)
 obtain ⟨b2, h8⟩ : ∃ n, Hid (n = rot (b1 ^^^ c2) 7) := ⟨_, Lib.hid rfl⟩
 have hb2 : b2 < 4294967296 := by rw [h8.out]; exact rot_lt (xor_lt hb1 hc2)
 rw [← h8.out]
 clear x8
 go_wp2_with fail
 refine bodyPost_ret (v := .tuple #[.int .u32 (a2 : Int), .int .u32 (b2 : Int), .int .u32 (c2 : Int), .int .u32 (d2 : Int)]) (by simp [results, Tryz.results95, go_sem]) rfl ?_
 unfold MixEnd
 rw [mix4_eq h1.out h2.out h3.out h4.out h5.out h6.out h7.out h8.out]
 exact ⟨rfl, rfl⟩
end Go.Proofs.YtahmpggaicjgoaaGreatDoor.Wirey
