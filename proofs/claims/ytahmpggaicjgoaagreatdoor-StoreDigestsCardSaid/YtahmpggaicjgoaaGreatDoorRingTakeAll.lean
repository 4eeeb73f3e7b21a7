/- A list is filled with keys, from the last on. Take and Import of the bytes of lists. Nothing that was there turns but the Reader. -/
import Derived.Test.YtahmpggaicjgoaaGreatDoorRingTakeKeysAll
import Derived.Test.YtahmpggaicjgoaaGreatDoorSq
namespace Go.Proofs.YtahmpggaicjgoaaGreatDoor.Ringy
open Go.ChangeShapes Go.WideShapes Go.ChangeAt Go.RowKit Go.Shelf
open Wirey (Blk Row str str_size str_list Kp)
open Go.ChangeMaps Go.Maps

attribute [local go_sem] Oper.semAt_some

theorem leave_marksP {P : Program} {fn : Func} {tmps : Array Value} {R : Ending → World → Prop} {B : Nat} {v : Value} (H : World → Prop) (hH : ∀ W D o', B ≤ D → H W → W.heap[D]? = some (.deferred (some [])) → H (W.putObj D o')) (hres : ∀ w, H w → (results fn tmps).run P w = .ok v w) (h : ∀ W', H W' → R (.returned v) W') : ∀ (ds : List Deferred) (W : World), H W → Marked B W ds →
  LeavesInM Fence.wide 5 P fn tmps R ds .returning W
 | [], W, h0, _ => ⟨v, hres W h0, h W h0⟩
 | d :: ds, W, h0, ⟨⟨D, h1, h2, h3, h4⟩, h5⟩ => by
  refine ⟨by simp, .inl ⟨D, _, h1, run_takeDeferred h3, leave_marksP H hH hres h ds _ (hH W D _ h2 h0 h3) (h5.keep fun k d' hd' hk => World.putObj_heap_other (fun e => h4 d' hd' (by rw [hk, e])))⟩⟩

theorem res_bool {fn : Func} {p : Tmp} (h : fn.results = #[.cell p 4]) (tmps : Array Value) (w : World) (c : Addr) {v : Value} (hp : tmps.getD p undef = .pointer (some c)) (hc : w.cell? c = some v) : (results fn tmps).run Tryz.prog w = .ok v w := by
 have hp' : tmps[p]?.getD undef = .pointer (some c) := by simpa using hp
 have hu := Tryz.underlying4
 simp [results, h, hp', asAddr, loadVar, Sem.run_bind, Result.andThen]
 rw [hc]
section
variable {w w' : World} {m m' : Rm} {r : Rg}
theorem held_any (h : At w m r) : Held { w with heap := #[] } m.R w m r := ⟨rfl, h, ⟨rfl, rfl, rfl, by simp, fun k hk => by simp at hk⟩, fun b _ => by simp⟩
theorem in_any {l : List UInt8} (hl : l.length ≤ maxLen) (w : World) (h : At w m r) :
  Calls Tryz.prog 169 #[.pointer (some ⟨m.R, 0, none⟩), .string (str l)] w fun e w' => (∃ a, e = .returned (.tuple #[.int .i64 a, .bool (r.hasB l)])) ∧ w = w' := by
 cases hB : r.hasB l with
 | true =>
  obtain ⟨i, hi, hm⟩ := Rg.hasB_iff.1 hB
  exact (in_yes' hl w h hi hm).mono fun e w' ⟨a, b⟩ => ⟨⟨_, a⟩, b.symm⟩
 | false => exact (in_no' hl w h (fun e => by rw [Rg.hasB_iff.2 e] at hB; cases hB)).mono fun e w' ⟨a, b⟩ => ⟨⟨_, a⟩, b.symm⟩
theorem At.kind (h : At w m r) {b : Nat} (hb : m.own b) : b = m.Mb ∨ ∃ cs t fz, w.heap[b]? = some (.cells cs t fz) := by
 obtain ⟨lens, S, F, D, pos, hF⟩ := h
 have hr := hF.raw
 rcases hb with rfl | rfl | rfl | hb | hb
 ·exact .inr ⟨_, _, _, hr.hd⟩
 ·exact .inr ⟨_, _, _, hr.ln⟩
 ·exact .inl rfl
 ·obtain ⟨cur, hc⟩ := owned_blk hr.sl hb
  exact .inr ⟨_, _, _, hc⟩
 ·obtain ⟨cur, hc⟩ := owned_blk hr.lf hb
  exact .inr ⟨_, _, _, hc⟩
structure Filled (w : World) (m : Rm) (s : Rg) (W : World) : Prop where
 ex : ∃ m2, At W m2 s ∧ Step w m W m2
theorem Filled.turn {s : Rg} {W W' : World} {row : Option Nat} (h : Filled w m s W) (hM : m.Mb < w.heap.size) (hg : W.grownBy W' row) (hr : ∀ k, row = some k → w.heap.size ≤ k ∧ ∃ o : Obj, W.heap[k]? = some o ∧ o.isCells = false) : Filled w m s W' := by
 obtain ⟨m2, hA, hS⟩ := h.ex
 refine ⟨m2, hA.stay (fun b hb => hg.block b (hA.lt b hb) (fun e => ?_)), hS.R, ⟨hg.os.trans hS.kp.os, hg.tape.trans hS.kp.tape, hg.output.trans hS.kp.output, Nat.le_trans hS.kp.size hg.size, fun k hk hn => ?_⟩, hS.own, hS.M⟩
 ·obtain ⟨h1, o, h2, h3⟩ := hr b e.symm
  rcases hA.kind hb with h4 | ⟨cs, t, fz, h4⟩
  ·rw [hS.M] at h4; omega
  ·rw [h4] at h2; cases h2; cases h3
 ·exact (hg.block k (Nat.lt_of_lt_of_le hk hS.kp.size) (fun e => by have := (hr k e.symm).1; omega)).trans (hS.kp.block k hk hn)
theorem step_keeps {s : Rg} {W W' : World} {m2 m3 : Rm} {B : Nat} (hA : At W m2 s) (hS : Step W m2 W' m3) (hM : m2.Mb < B) : KeepsFrom B W W' :=
 ⟨hS.kp.size, fun k o hk ho hc => (hS.kp.block k (Array.getElem?_eq_some_iff.1 ho).1 (fun hown => by
   rcases hA.kind hown with h4 | ⟨cs, t, fz, h4⟩
   · omega
   · rw [h4] at ho; cases ho; cases hc)).trans ho⟩
set_option maxHeartbeats 4000000 in
set_option maxRecDepth 100000 in
theorem lay_c {i : Nat} {ks : List Key} {v : Value} {n₀ : Nat} (w : World) (hA : At w m r) (hf : Fresh r i ks) (hrow : w.ownsRow n₀ 9 1 v ks.length (strsV ks)) (hsep : ∀ g, v.ownBlock = some g → ¬ m.own g) (hlen : ks.length ≤ 5000) :
  Calls Tryz.prog 131 #[.pointer (some ⟨m.R, 0, none⟩), .int .i64 i, v] w fun e w' => e = .returned (.bool true) ∧ ∃ m' s, At w' m' s ∧ Laid r i ks s ∧ Step w m w' m' := by
 obtain ⟨sa, sc, rfl⟩ := own_form hrow
 have hown := hA.lt
 have hMb : m.Mb < w.heap.size := hown _ (.inr (.inr (.inl rfl)))
 have b0 := Blk.new w 171 #[.pointer (some ⟨m.R, 0, none⟩)]
 have hs0 : (w.alloc (.cells #[.pointer (some ⟨m.R, 0, none⟩)] 171)).heap.size = w.heap.size + 1 := by simp
 have b1 := Blk.new (w.alloc (.cells #[.pointer (some ⟨m.R, 0, none⟩)] 171)) 3 #[.int .i64 i]
 rw [hs0] at b1
 have hs1 : ((w.alloc (.cells #[.pointer (some ⟨m.R, 0, none⟩)] 171)).alloc (.cells #[.int .i64 i] 3)).heap.size = w.heap.size + 1 + 1 := by simp
 have b2 := Blk.new ((w.alloc (.cells #[.pointer (some ⟨m.R, 0, none⟩)] 171)).alloc (.cells #[.int .i64 i] 3)) 4 #[.bool false]
 rw [hs1] at b2
 have hs2 : (((w.alloc (.cells #[.pointer (some ⟨m.R, 0, none⟩)] 171)).alloc (.cells #[.int .i64 i] 3)).alloc (.cells #[.bool false] 4)).heap.size = w.heap.size + 3 := by simp
 have hb1 := (((Below.refl w.heap.size w).alloc (Nat.le_refl _) (.cells #[.pointer (some ⟨m.R, 0, none⟩)] 171)).alloc (by simp) (.cells #[.int .i64 i] 3)).alloc (by simp; omega) (.cells #[.bool false] 4)
 replace b1 := b1.alloc (.cells #[.bool false] 4)
 replace b0 := (b0.alloc (.cells #[.int .i64 i] 3)).alloc (.cells #[.bool false] 4)
 clear hs0 hs1
 refine calls_marks Tryz.func131 rfl ?_
 simp only [Tryz.ntmps131, List.size_toArray, List.length_cons, List.length_nil, Nat.reduceAdd, Nat.reduceSub, Array.replicate_succ, Array.replicate_zero, List.push_toArray, List.append_toArray, List.nil_append, List.cons_append]
 have HS2 := Lib.hid hs2
 clear hs2
 go_wp2_with fail
 generalize ((w.alloc (.cells #[.pointer (some ⟨m.R, 0, none⟩)] 171)).alloc (.cells #[.int .i64 i] 3)).alloc (.cells #[.bool false] 4) = w1 at *
 have hA1 := hA.below hb1 (Nat.le_refl _)
 have hrow1 : w1.ownsRow n₀ 9 1 (.slice sa ks.length sc) ks.length (strsV ks) := ownsRow_stay hrow (fun g hg => hb1.block g (hrow.lt g hg).2)
 refine (backward_c sa ks.length sc w1).mono ?_
 rintro e w2 ⟨rfl, hw2⟩
 have hbB := Blk.new w1 110 #[.slice sa ks.length sc]
 have hs3 : w2.heap.size = w1.heap.size + 1 := by rw [hw2]; simp
 have HS3 := Lib.hid hs3
 rw [← hw2] at hbB
 have hA2 : At w2 m r := by rw [hw2]; exact hA1.alloc _
 have hrow2 : w2.ownsRow n₀ 9 1 (.slice sa ks.length sc) ks.length (strsV ks) := by rw [hw2]; exact hrow1.alloc _
 have hb2 : Below w.heap.size w w2 := by rw [hw2]; exact hb1.alloc hb1.size _
 have hb12 : Below w1.heap.size w1 w2 := by rw [hw2]; exact (Below.refl _ _).alloc (Nat.le_refl _) _
 replace b0 := b0.below hb12 b0.lt
 replace b1 := b1.below hb12 b1.lt
 replace b2 := b2.below hb12 b2.lt
 have hvl := hrow.lt
 have hn0 : ¬ m.own w.heap.size := fun e => by have := hown _ e; omega
 have hn1 : ¬ m.own (w.heap.size + 1) := fun e => by have := hown _ e; omega
 have hn2 : ¬ m.own (w.heap.size + 1 + 1) := fun e => by have := hown _ e; omega
 have hnB : ¬ m.own w1.heap.size := fun e => by have := hown _ e; have := hb1.size; omega
 have hle2 := hb2.size
 clear hw2 hb1 hs3 hb12 hA1 hrow1 hrow
 go_wp2_with fail
 apply range_back cut (B := w1.heap.size) (l := ks) (v := .slice sa ks.length sc) (I := fun pre W => Filled w2 m (lays r i pre) W) (Ix := fun c pre _ => c = .ret ∧ ∃ p x, pre = p ++ [x] ∧ ((lays r i p).hasB (cut x.2) = true ∨ (lays r i p).ok i (cut x.2) = false))
 case hcut => exact fun x hx => cut_of (hf.key x hx)
 case hg => rfl
 case hb => exact hbB
 case hrow => exact hrow2
 case hlen => omega
 case hps => rfl
 case hI => exact fun s W W' row h hg hr => h.turn (by omega) hg hr
 case hIx => exact fun c s W W' row h _ _ => h
 case h0 => exact ⟨m, hA2, Step.refl _ _⟩
 case hassign =>
  intro r x W K hK
  gi_wp2
  exact hK
 case hbody =>
  rintro rr pre x W ⟨m2, hAW, hS⟩ hlt
  have hR := hS.R
  have c0 := (hS.kp.blk b0 hn0).cell 0
  have c1 := (hS.kp.blk b1 hn1).cell 0
  have c2 := (hS.kp.blk b2 hn2).cell 0
  have f2 := (hS.kp.blk b2 hn2).free 0
  simp only [List.getElem?_toArray, List.getElem?_cons_zero] at c0 c1 c2
  have hcl := cut_len x.2
  have HIN := Lib.hid (in_any (l := cut x.2) (by unfold maxLen; omega) W hAW)
  have HFR := Lib.hid (front_h i (l := cut x.2) (by unfold maxLen; omega) (held_any hAW))
  rw [hR] at HIN HFR
  have HR := Lib.hid hR
  have HS := Lib.hid hS
  have HAW := Lib.hid hAW
  clear hS hAW hR hlt
  gi_wp2_with fail
  refine ⟨trivial, (CallsIn.inRound _ (callsIn_wide.2 HIN.out)).mono ?_⟩
  rintro e W1 ⟨⟨a, rfl⟩, rfl⟩
  cases hB : (lays r i pre).hasB (cut x.2) with
  | true =>
   gi_wp2_with fail
   refine ⟨trivial, ?_⟩
   gi_wp2_with fail
   exact ⟨(KeepsOthers.setCell _ _ _).from _, rfl, pre, x, rfl, .inl hB⟩
  | false =>
   gi_wp2_with fail
   refine ⟨trivial, (CallsIn.inRound _ (callsIn_wide.2 HFR.out)).mono ?_⟩
   rintro e W2 ⟨rfl, m3, hH3, hS3⟩
   have hm2 : ∀ k, k < w2.heap.size → ¬ m.own k → ¬ m2.own k := fun k hk hn e => by rcases HS.out.own k e with h | h; exact hn h; omega
   have d2 := (hS3.kp.blk (HS.out.kp.blk b2 hn2) (hm2 _ b2.lt hn2)).cell 0
   have g2 := (hS3.kp.blk (HS.out.kp.blk b2 hn2) (hm2 _ b2.lt hn2)).free 0
   simp only [List.getElem?_toArray, List.getElem?_cons_zero] at d2
   have hkf := step_keeps (B := w2.heap.size) HAW.out hS3 (by rw [HS.out.M]; omega)
   clear c0 c1 c2 f2
   have HB := Lib.hid hB
   have HM2 := Lib.hid hm2
   have HH3 := Lib.hid hH3
   have HS3 := Lib.hid hS3
   have HKF := Lib.hid hkf
   clear hB hm2 hH3 hS3 hkf
   cases hO : (lays r i pre).ok i (cut x.2) with
   | true =>
    gi_wp2_with fail
    refine ⟨HKF.out, ⟨fun g hg => ?_, ?_⟩, m3, by rw [lays_snoc]; exact HH3.out.at_, HS.out.trans HS3.out⟩
    ·have hgl := (hrow2.lt g hg).2
     exact HS3.out.kp.block g (Nat.lt_of_lt_of_le hgl HS.out.kp.size) (HM2.out g hgl (hsep g hg))
    ·exact HS3.out.kp.block _ (Nat.lt_of_lt_of_le hbB.lt HS.out.kp.size) (HM2.out _ hbB.lt hnB)
   | false =>
    gi_wp2_with fail
    exact ⟨HKF.out.trans ((KeepsOthers.setCell _ _ _).from _), rfl, pre, x, rfl, .inr hO⟩
 case hdone =>
  rintro D W hD ⟨m2, hAW, hS⟩ hK
  have hall := lays_all hf
  have B2 := hS.kp.blk b2 hn2
  have c2 := B2.cell 0
  have f2 := B2.free 0
  simp only [List.getElem?_toArray, List.getElem?_cons_zero] at c2
  have hm2 : ¬ m2.own (w.heap.size + 1 + 1) := fun e => by rcases hS.own _ e with h | h; exact hn2 h; have := b2.lt; omega
  have hS0 : Step w m W m2 := ⟨hS.R, ⟨hS.kp.os.trans hb2.os, hS.kp.tape.trans hb2.tape, hS.kp.output.trans hb2.output, Nat.le_trans hb2.size hS.kp.size, fun k hk hn => (hS.kp.block k (by omega) hn).trans (hb2.block k hk)⟩, fun b hb => by rcases hS.own b hb with h | h; exact .inl h; exact .inr (by omega), hS.M⟩
  have hF : Filled w m (lays r i (bw ks)) (W.setCell ⟨w.heap.size + 1 + 1, 0, none⟩ (.bool true)) := ⟨m2, hAW.stay (fun b hb => far (p := ⟨w.heap.size + 1 + 1, 0, none⟩) (fun e => hm2 (by rw [← show b = w.heap.size + 1 + 1 from e]; exact hb)) _), hS0.R, ⟨hS0.kp.os, hS0.kp.tape, hS0.kp.output, by have := hS0.kp.size; simpa [World.setCell] using this, fun k hk hn => (far (p := ⟨w.heap.size + 1 + 1, 0, none⟩) (by show k ≠ w.heap.size + 1 + 1; omega) _).trans (hS0.kp.block k hk hn)⟩, hS0.own, hS0.M⟩
  have HF := Lib.hid hF
  have hcell := (B2.put 0 (.bool true)).cell 0
  have hK2 : (W.setCell ⟨w.heap.size + 1 + 1, 0, none⟩ (.bool true)).heap[D]? = some (.deferred (some [])) := (far (p := ⟨w.heap.size + 1 + 1, 0, none⟩) (fun e => by have := b2.lt; have : D = w.heap.size + 1 + 1 := e; omega) _).trans hK
  have HC := Lib.hid hcell
  have HK := Lib.hid hK2
  clear hF hS0 hm2 hcell hK2 hK hAW hS
  go_wp2_with fail
  refine leave_marksP (B := w.heap.size) (v := .bool true) (fun W' => Filled w m (lays r i (bw ks)) W' ∧ W'.cell? ⟨w.heap.size + 1 + 1, 0, none⟩ = some (.bool true)) ?_ ?_ ?_ _ _ ⟨HF.out, HC.out⟩ ⟨⟨D, rfl, by omega, HK.out, by simp⟩, trivial⟩
  ·rintro W' D' o' hD' ⟨h1, h2⟩ h3
   have hne : w.heap.size + 1 + 1 ≠ D' := fun e => by
    rw [← e] at h3
    simp [World.cell?, h3] at h2
   exact ⟨h1.turn hMb (grownBy_putObj' W' D' o') (fun k e => by cases e; exact ⟨hD', _, h3, rfl⟩), (World.cell?_of_block (World.putObj_heap_other hne)).trans h2⟩
  ·rintro W' ⟨_, h2⟩
   exact res_bool rfl _ _ _ rfl h2
  ·rintro W' ⟨⟨m3, h1, h2⟩, _⟩
   exact ⟨rfl, m3, _, h1, hall, h2⟩
 case hstop =>
  rintro D c pre W hD hp ⟨-, p, x, rfl, h⟩ hK
  obtain ⟨h1, h2⟩ := lays_pre hf hp
  rw [h1, h2] at h
  rcases h with h | h <;> cases h
end
end Go.Proofs.YtahmpggaicjgoaaGreatDoor.Ringy
namespace Go.Proofs.YtahmpggaicjgoaaGreatDoor.Ringy
open Go.ChangeShapes Go.WideShapes Go.ChangeAt Go.RowKit Go.Shelf
open Wirey (Blk Row str str_size str_list Kp Kept RS enc txt numR_enc num_ok must_ok)
open Go.ChangeMaps Go.Maps

def tail (s : Rg) (j : Nat) : List UInt8 := ((List.range s.n).drop j).flatMap fun t => listB (s.l t)
section
variable {s r r' : Rg} {j : Nat}
theorem put_eq (s : Rg) : s.put = enc s.n ++ (enc s.places ++ tail s 0) := by simp [Rg.put, Rg.putTo, tail]
theorem tail_succ (hj : j < s.n) : tail s j = listB (s.l j) ++ tail s (j + 1) := by
 unfold tail
 rw [List.drop_eq_getElem_cons (by simpa using hj), List.getElem_range]
 rfl
theorem tail_end : tail s s.n = [] := by unfold tail; rw [List.drop_eq_nil_of_le (by simp)]; rfl
theorem tail_len (hs : s.Small) (j : Nat) : (tail s j).length ≤ 40000100 := by
 have h0 := hs.putTo s.n (Nat.le_refl _)
 have h1 : (tail s 0).length ≤ (s.putTo s.n).length := by
  have := put_eq s
  unfold Rg.put at this
  rw [this]
  simp only [List.length_append]
  omega
 have h2 : (tail s j).length ≤ (tail s 0).length := by
  unfold tail
  conv => rhs; rw [← List.take_append_drop j (List.drop 0 (List.range s.n)), List.flatMap_append, List.length_append]
  rw [List.drop_zero]
  omega
 have := hs.n
 omega
theorem sumTo_up_to {f : Nat → Nat} {a : Nat} : ∀ b, a ≤ b → sumTo f a ≤ sumTo f b
 | 0, h => by rw [Nat.le_zero.1 h]; exact Nat.le_refl _
 | b + 1, h => by
  rcases Nat.lt_or_ge a (b + 1) with h1 | h1
  ·exact Nat.le_trans (sumTo_up_to b (by omega)) (Nat.le_add_right _ _)
  ·rw [show a = b + 1 by omega]; exact Nat.le_refl _
structure Tk (s : Rg) (j : Nat) (r : Rg) : Prop where
 n : r.n = s.n
 pl : r.places = s.places
 many : r.many = sumTo (fun t => (s.l t).length) j
 has : ∀ k, r.has k ↔ ∃ t, t < j ∧ k ∈ s.l t
 lo : ∀ t, t < j → r.l t = s.l t
 hi : ∀ t, j ≤ t → t < s.n → r.l t = []
theorem sumTo_nil : ∀ n, sumTo (fun _ => ([] : List Key).length) n = 0
 | 0 => rfl
 | n + 1 => by show sumTo _ n + 0 = 0; rw [sumTo_nil n]
theorem Tk.new (s : Rg) : Tk s 0 (Rg.new s.n s.places) := ⟨rfl, rfl, sumTo_nil _, fun k => ⟨fun ⟨t, _, h⟩ => absurd h List.not_mem_nil, fun ⟨t, h, _⟩ => by omega⟩, fun t h => by omega, fun _ _ _ => rfl⟩
theorem Tk.fresh (hw : s.Wf) (h : Tk s j r) (hj : j < s.n) : Fresh r j (s.l j) :=
 ⟨by rw [h.n]; exact hj, hw.nd j hj, fun k hk e => by obtain ⟨t, ht, hm⟩ := (h.has k).1 e; have := hw.dj t j k (by omega) hj hm hk; omega, by
   rw [h.many, h.pl]
   exact Nat.le_trans (sumTo_up_to (f := fun t => (s.l t).length) (a := j + 1) s.n (by omega)) hw.many, fun k hk => hw.len j k hj hk⟩
theorem Tk.next (h : Tk s j r) (hl : Laid r j (s.l j) r') (hj : j < s.n) : Tk s (j + 1) r' :=
 ⟨hl.n.trans h.n, hl.pl.trans h.pl, by rw [hl.many, h.many]; rfl, fun k => by
   rw [hl.has, h.has]
   constructor
   · rintro (h1 | ⟨t, h1, h2⟩)
     · exact ⟨j, by omega, h1⟩
     · exact ⟨t, by omega, h2⟩
   · rintro ⟨t, h1, h2⟩
     rcases Nat.lt_or_ge t j with h3 | h3
     · exact .inr ⟨t, h3, h2⟩
     · rw [show t = j by omega] at h2; exact .inl h2, fun t ht => by
   rcases Nat.lt_or_ge t j with h3 | h3
   · rw [hl.lo t (by rw [h.n]; omega) (by omega), h.lo t h3]
   · rw [show t = j by omega, hl.li, h.hi j (Nat.le_refl _) hj, List.append_nil], fun t h1 h2 => by rw [hl.lo t (by rw [h.n]; exact h2) (by omega), h.hi t (by omega) h2]⟩
theorem Rg.Wf.small (hw : s.Wf) : s.Small := ⟨hw.n2, hw.pl, fun i hi => by have := sumTo_le (f := fun t => (s.l t).length) s.n hi; have h2 := hw.many; have h3 := hw.pl; unfold Rg.many at h2; omega, fun i hi k hk => hw.len i k hi hk⟩

structure Taking (w : World) (R O P : Nat) (s : Rg) (j : Nat) (l : List UInt8) (W : World) : Prop where
 ex : ∃ m r, m.R = P ∧ At W m r ∧ Tk s j r ∧ ∀ b, m.own b → w.heap.size ≤ b
 rs : RS W R O l
 kp : Kp (fun k => k = R ∨ k = O) w W
set_option maxHeartbeats 4000000 in
set_option maxRecDepth 100000 in
theorem take_c (hw : s.Wf) (hn8 : s.n ≤ 8) {R O : Nat} (w : World) (h : RS w R O s.put) :
  Calls Tryz.prog 105 #[.pointer (some ⟨R, 0, none⟩)] w fun e w' => ∃ m, e = .returned (.pointer (some ⟨m.R, 0, none⟩)) ∧ At w' m s ∧ (∀ b, m.own b → w.heap.size ≤ b) ∧ RS w' R O [] ∧ Kp (fun k => k = R ∨ k = O) w w' := by
 have hs := hw.small
 have hRl := h.rd.lt
 have hOl := h.of.lt
 have hpl := hw.pl
 have hn1 := hw.n1
 have htl := tail_len hs 0
 have l1 := enc_ten (n := s.n) (by omega)
 have l2 := enc_ten (n := s.places) (by omega)
 rw [put_eq] at h
 have hm1 := num_ok 8 (numR_enc (n := s.n) (by omega) (enc s.places ++ tail s 0)) hn8 (by simp only [List.length_append]; omega) w h
 rw [List.drop_left] at hm1
 have hm2 := fun (W : World) (h : RS W R O (enc s.places ++ tail s 0)) => num_ok 4096 (numR_enc (n := s.places) (by omega) (tail s 0)) hpl (by simp only [List.length_append]; omega) W h
 rw [List.drop_left] at hm2
 have e4 : ((8 : Nat) : Int) = 8 := by omega
 have e5 : ((4096 : Nat) : Int) = 4096 := by omega
 rw [e4] at hm1
 rw [e5] at hm2
 have HM1 := Lib.hid hm1
 have HM2 := Lib.hid hm2
 have HW := Lib.hid hw
 have HS := Lib.hid hs
 have hwp : decide ((0 : Int) < (s.n : Int)) = true := decide_eq_true (by omega)
 have hwn : decide (0 < s.n) = true := decide_eq_true (by omega)
 have hwn2 : 0 < s.n := by omega
 have hw0 : ((s.n : Int) == 0) = false := by rw [beq_eq_false_iff_ne]; omega
 clear hm1 hm2 e4 e5 l1 l2 htl hs hw h
 go_enter Tryz.func105, Tryz.ntmps105
 go_wp2_with fail
 refine HM1.out.mono ?_
 rintro e v1 ⟨rfl, hk1, hr1⟩
 go_wp2_with fail
 refine (HM2.out _ hr1).mono ?_
 rintro e v2 ⟨rfl, hk2, hr2⟩
 go_wp2_with fail
 refine (must_ok _).mono ?_
 rintro e w' ⟨rfl, rfl⟩
 go_wp2_with fail
 refine (empty_c hn1 HW.out.n2 hpl _).mono ?_
 rintro e v3 ⟨rfl, m, hmR, hA, hb, hO⟩
 have hk12 := hk1.trans hk2
 have hz2 := hk12.size
 obtain ⟨P, hP⟩ : ∃ P, P = v2.heap.size + 2 := ⟨_, rfl⟩
 rw [← hP] at hmR ⊢
 have hT : Taking w R O P s 0 (tail s 0) v3 := ⟨⟨m, _, hmR, hA, Tk.new s, fun b hb => Nat.le_trans hz2 (hO b hb)⟩, hr2.below hb, (Kp.of_kept hk12 (.inl rfl) (.inr rfl)).trans (Kp.of_below hb)⟩
 clear hk1 hk2 hk12 hz2 hr1 hr2 hmR hA hb hO hP
 go_wp2_with fail
 go_loopw [24] (fun i wr => ∃ j : Nat, j ≤ s.n ∧ i = .int .i64 j ∧ Taking w R O P s j (tail s j) wr) (fun i _ => s.n - (intOf i).toNat)
 case atStart => exact ⟨0, Nat.zero_le _, rfl, hT⟩
 case round =>
  obtain ⟨j, hj, rfl, hT⟩ := hrel
  by_cases hlt : j < s.n
  ·obtain ⟨⟨m, r, hmR, hA, hTk, hO⟩, hR, hK⟩ := hT
   rw [tail_succ hlt] at hR
   have hsm := HS.out.len j hlt
   have hle : (s.l j).length ≤ s.places := Nat.le_trans (sumTo_le (f := fun t => (s.l t).length) s.n hlt) HW.out.many
   have HTK := Lib.hid (takeKeys_c (most := s.places) hpl hle (HS.out.key j hlt) (by have := tail_len HS.out (j + 1); omega) wr hR)
   have HSM := Lib.hid hsm
   have HK := Lib.hid hK
   have HTk := Lib.hid hTk
   clear hsm hle hR hTk
   go_wp2_with fail
   refine HTK.out.mono ?_
   rintro e v4 ⟨v, rfl, hrow, hr4, hk4⟩
   have hA4 : At v4 m r := hA.kp hk4 (fun b hb e => by have := hO b hb; omega)
   have hsep : ∀ g, v.ownBlock = some g → ¬ m.own g := fun g hg e => by have := (hrow.lt g hg).1; have := hA.lt g e; omega
   have HL := Lib.hid (lay_c v4 hA4 (HTk.out.fresh HW.out hlt) hrow hsep (by have := HSM.out; omega))
   rw [hmR] at HL
   have hk4' := HK.out.trans hk4
   clear hA hrow hk4 hK hsep HTK
   go_wp2_with fail
   refine HL.out.mono ?_
   rintro e v5 ⟨rfl, m5, r5, hA5, hL5, hS5⟩
   have hwz := hk4'.size
   have hT5 : Taking w R O P s (j + 1) (tail s (j + 1)) v5 := ⟨⟨m5, r5, hS5.R.trans hmR, hA5, HTk.out.next hL5 hlt, fun b hb => by rcases hS5.own b hb with h | h; exact hO b h; omega⟩,
     ⟨(hS5.kp.block R hr4.rd.lt (fun e => by have := hO R e; omega)).trans hr4.rd, (hS5.kp.block O hr4.of.lt (fun e => by have := hO O e; omega)).trans hr4.of⟩,
     ⟨hS5.kp.os.trans hk4'.os, hS5.kp.tape.trans hk4'.tape, hS5.kp.output.trans hk4'.output, Nat.le_trans hwz hS5.kp.size, fun k hk hn => (hS5.kp.block k (by omega) (fun e => by have := hO k e; omega)).trans (hk4'.block k hk hn)⟩⟩
   clear hA4 hr4 hk4' hA5 hL5 hS5 hO HL hwz
   go_wp2_with fail
   refine (must_ok _).mono ?_
   rintro e w' ⟨rfl, rfl⟩
   go_wp2_with fail
   go_roundw
   case rel => exact ⟨j + 1, by omega, rfl, hT5⟩
   case measure => simp [intOf]; omega
  ·obtain rfl : j = s.n := by omega
   obtain ⟨⟨m, r, rfl, hA, hTk, hO⟩, hR, hK⟩ := hT
   rw [tail_end] at hR
   go_wp2_with fail
   go_ret
   exact ⟨m, rfl, hA.alike hTk.n.symm hTk.pl.symm (fun i hi => (hTk.lo i (by rw [← hTk.n]; exact hi)).symm), hO, hR, hK⟩
end
end Go.Proofs.YtahmpggaicjgoaaGreatDoor.Ringy
