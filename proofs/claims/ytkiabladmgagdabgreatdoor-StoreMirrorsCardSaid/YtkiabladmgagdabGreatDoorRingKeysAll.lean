/- Front's contract: a key from wherever it is, or a new one while there is a place. The only condition: a key is no longer than keys may be. Contracts of New and of Back. No condition. What the laws of layer 6 begin with: two keys of a list; a text that is not too long. No condition. Keys' contract: a slice of a list's keys, from the front on, behind slices.Values. No condition. -/
import Derived.Test.YtkiabladmgagdabGreatDoorRingAtAll
import Derived.Laws.MakeOwn
import Derived.Test.YtkiabladmgagdabGreatDoorSq
namespace Go.Proofs.YtkiabladmgagdabGreatDoor.Ringy
open Go.ChangeShapes Go.WideShapes Go.ChangeAt Go.RowKit
open Wirey (Blk Row str str_size str_list Kp)
open Go.ChangeMaps Go.Maps

structure Room (S : List Sl) (F : List Nat) (r : Rg) (pos : Key → Nat) (p : Nat) : Prop where
 lo : r.n ≤ p
 hi : p < S.length
 free : ∀ i k, i < r.n → k ∈ r.l i → pos k ≠ p
 nd : F.Nodup
 nin : p ∉ F
 mem : ∀ q, q ∈ F → r.n ≤ q ∧ q < S.length ∧ ∀ i k, i < r.n → k ∈ r.l i → pos k ≠ q
 cnt : S.length = r.n + r.many + F.length + 1
 top : r.many + F.length + 1 ≤ r.places
section
variable {m : Rm} {r : Rg}
theorem slot_c {w : World} {lens : List Nat} {S : List Sl} {F : List Nat} {D : DataW Unit} {pos : Key → Nat} (h : Full w m r lens S F D pos) (hm : r.many < r.places) (n : Nat) :
  Calls Tryz.prog 188 #[.pointer (some ⟨m.R, 0, none⟩)] (w.drewN n) fun e w' => ∃ (p : Nat) (S' : List Sl) (F' : List Nat) (m' : Rm), e = .returned (.int .i64 p) ∧ RawAt w' m' r.places lens S' F' D ∧ Step w m w' m' ∧ Lay S' lens r pos ∧ Room S' F' r pos p ∧ p < 100000 := by
 have hs := h.small
 have hsp := h.spare
 rcases List.eq_nil_or_concat F with e | ⟨F', p, e⟩
 ·subst e
  refine (slot_new (w.drewN n) (h.raw.drewN n) (by omega)).mono ?_
  rintro e w' ⟨rfl, v, hA, hK, hO⟩
  have hlen : (S ++ [Sl.none]).length = S.length + 1 := by simp
  refine ⟨S.length, _, _, _, rfl, hA, ⟨rfl, ⟨hK.os, hK.tape, hK.output, hK.size, hK.block⟩, hO, rfl⟩, h.lay.frame (by omega) (fun q hq => gt_snoc (Nat.lt_of_lt_of_le hq h.lay.sz) _) (fun i k hi hk => gt_snoc (h.lay.at_ i k hi hk).2.1 _), ⟨h.lay.sz, by omega, fun i k hi hk e => by have := (h.lay.at_ i k hi hk).2.1; omega, List.nodup_nil, by simp, by simp, ?_, ?_⟩, by omega⟩
  ·have := hsp.cnt; simp at this; simp; omega
  ·simp; omega
 ·rw [List.concat_eq_append] at e
  subst e
  refine (slot_left (w.drewN n) (h.raw.drewN n) (by simp at hs; omega)).mono ?_
  rintro e w' ⟨rfl, v, hA, hK, hO⟩
  have hnd := List.nodup_append.1 hsp.nd
  obtain ⟨a, b, c⟩ := hsp.mem p (by simp)
  refine ⟨p, _, _, _, rfl, hA, ⟨rfl, ⟨hK.os, hK.tape, hK.output, hK.size, hK.block⟩, hO, rfl⟩, h.lay, ⟨a, b, c, hnd.1, fun hm => hnd.2.2 p hm p (by simp) rfl, fun q hq => hsp.mem q (by simp [hq]), ?_, ?_⟩, by omega⟩
  ·have := hsp.cnt; simp at this; omega
  ·have := hsp.top; simp at this; omega
theorem full_move {w w0 : World} {lens : List Nat} {S : List Sl} {F : List Nat} {D : DataW Unit} {pos : Key → Nat} {l : Key} (h : Full w0 m r lens S F D pos) {i j : Nat} (hi : i < r.n) (hj : j < r.n) (hm : l ∈ r.l i)
  (hr : RawAt w m r.places ((lens.set i ((r.l i).length - 1)).set j (((r.drop l).l j).length + 1)) (inS (outS S (pos l)) j (pos l) l) F D) : At w m ((r.drop l).push j l) := by
 obtain ⟨p1, p2, -, -⟩ := h.lay.at_ i l hi hm
 have ho := h.lay.out h.wf hi hm
 have hne : ∀ j x, j < r.n → x ∈ (r.drop l).l j → pos x ≠ pos l := fun j x hj hx e => (strike_mem.1 hx).2 (h.lay.inj hj hi (strike_mem.1 hx).1 hm e)
 have hmany := Rg.many_drop h.wf hi hm
 have hmany2 := Rg.many_push (r := r.drop l) (k := l) (j := j) hj
 have hnot : ∀ t, t < r.n → l ∉ (r.drop l).l t := fun t _ hx => (strike_mem.1 hx).2 rfl
 have hp := ho.put (h.wf.drop l) (j := j) (p := pos l) (k := l) hj p1 (by rw [outS_len]; exact p2) hne hnot
 have hu : upd pos l (pos l) = pos := funext fun x => by
  unfold upd
  by_cases e : x = l
  ·rw [if_pos e, e]
  ·rw [if_neg e]
 rw [hu] at hp
 have hhas : ∀ k, ((r.drop l).push j l).has k ↔ r.has k := fun k => by
  rw [Rg.has_push (r := r.drop l) hj, Rg.has_drop]
  constructor
  ·rintro (e | e)
   ·rw [e]; exact ⟨i, hi, hm⟩
   ·exact e.1
  ·intro hk
   by_cases e : k = l
   ·exact .inl e
   ·exact .inr ⟨hk, e⟩
 refine ⟨_, _, _, _, pos, hr, hp, (h.wf.drop l).push hj hnot (h.wf.len i l hi hm) ?_, ⟨fun k hk => h.fit.yes k ((hhas k).1 hk), fun k hk => h.fit.no k (fun e => hk ((hhas k).2 e)), ?_⟩, ⟨h.spare.nd, fun p hp => ?_, ?_, ?_⟩⟩
 ·have := h.wf.many
  show (r.drop l).many < r.places
  omega
 ·rw [h.fit.size]; omega
 ·obtain ⟨a, b, c⟩ := h.spare.mem p hp
  refine ⟨a, by rw [inS_len, outS_len]; exact b, fun t x ht hx => ?_⟩
  obtain ⟨t', ht', hx'⟩ := (hhas x).1 ⟨t, ht, hx⟩
  exact c t' x ht' hx'
 ·rw [inS_len, outS_len, h.spare.cnt]
  show _ = r.n + _ + _
  omega
 ·have := h.spare.top
  show ((r.drop l).push j l).many + _ ≤ r.places
  omega
theorem full_new {w w0 : World} {m0 : Rm} {lens : List Nat} {S S0 : List Sl} {F F0 : List Nat} {D : DataW Unit} {pos : Key → Nat} {l : Key} {p : Nat} (h : Full w0 m0 r lens S0 F0 D pos) (hL : Lay S lens r pos) (hroom : Room S F r pos p) {j : Nat} (hj : j < r.n) (hno : ¬ r.has l) (hlen : l.length ≤ 64)
  (hr : RawAt w m r.places (lens.set j ((r.l j).length + 1)) (inS S j p l) F (D.put (kl l) (.lit (.int .i64 p)))) : At w m ((r.drop l).push j l) := by
 have hnot : ∀ t, t < r.n → l ∉ r.l t := fun t ht hx => hno ⟨t, ht, hx⟩
 have hp := hL.put h.wf hj hroom.lo hroom.hi hroom.free hnot
 have hmany2 := Rg.many_push (r := r) (k := l) (j := j) hj
 have hkey : WideAt.IsKeyLit (kl l) := trivial
 have hpos : ∀ k, r.has k → upd pos l p k = pos k := fun k hk => if_neg (fun e : k = l => hno (e ▸ hk))
 have hA : At w m (r.push j l) := by
  refine ⟨_, _, _, _, upd pos l p, hr, hp, h.wf.push hj hnot hlen (by have := hroom.top; omega), ⟨fun k hk => ?_, fun k hk => ?_, ?_⟩, ⟨hroom.nd, fun q hq => ?_, ?_, ?_⟩⟩
  ·rcases (Rg.has_push hj).1 hk with e | e
   ·subst e
    refine ⟨has_put_same h.tidy.isMap hkey _, ?_⟩
    rw [atKey_put_same h.tidy.isMap hkey, show upd pos k p k = p from if_pos rfl]
   ·have hne : k ≠ l := fun e2 => hno (e2 ▸ e)
    obtain ⟨y1, y2⟩ := h.fit.yes k e
    rw [hpos k e, has_put_other (kl_ne hne), atKey_put_other (kl_ne hne)]
    exact ⟨y1, y2⟩
  ·have hne : k ≠ l := fun e2 => hk ((Rg.has_push hj).2 (.inl e2))
   rw [has_put_other (kl_ne hne)]
   exact h.fit.no k (fun e => hk ((Rg.has_push hj).2 (.inr e)))
  ·rw [size_put h.tidy, h.fit.no l hno, hmany2, h.fit.size]; rfl
  ·obtain ⟨a, b, c⟩ := hroom.mem q hq
   refine ⟨a, by rw [inS_len]; exact b, fun t x ht hx => ?_⟩
   rcases (Rg.has_push hj).1 ⟨t, ht, hx⟩ with e | e
   ·subst e
    rw [show upd pos x p x = p from if_pos rfl]
    exact fun e => hroom.nin (e ▸ hq)
   ·rw [hpos x e]
    obtain ⟨t', ht', hx'⟩ := e
    exact c t' x ht' hx'
  ·rw [inS_len, hroom.cnt, hmany2]
   show _ = r.n + _ + _
   omega
  ·have := hroom.top
   show (r.push j l).many + _ ≤ r.places
   omega
 refine hA.alike rfl rfl fun t ht => ?_
 show (if t = j then l :: strike l (r.l t) else strike l (r.l t)) = (if t = j then l :: r.l t else r.l t)
 rw [strike_of_not (hnot t ht)]

set_option maxHeartbeats 2000000 in
set_option maxRecDepth 100000 in
theorem front_has {j : Nat} {l : List UInt8} (hj : j < r.n) (hl : l.length ≤ 64) (w : World) (hA : At w m r) (hyes : r.has l) :
  Calls Tryz.prog 168 #[.pointer (some ⟨m.R, 0, none⟩), .int .i64 j, .string (str l)] w fun e w' => e = .returned (.bool true) ∧ ∃ m', At w' m' ((r.drop l).push j l) ∧ Step w m w' m' := by
 have hh := has_c' (j : Int) w hA
 have hsz := str_size l
 have hb : (decide (0 ≤ (j : Int)) && decide ((j : Int) < (r.n : Int))) = true := by simp; omega
 rw [hb] at hh
 clear hb
 obtain ⟨lens, S, F, D, pos, h⟩ := hA
 obtain ⟨i, hi, hm⟩ := hyes
 obtain ⟨y1, y2⟩ := h.fit.yes l ⟨i, hi, hm⟩
 obtain ⟨p1, p2, -, -⟩ := h.lay.at_ i l hi hm
 obtain ⟨n1, n2, n3, n4, n5⟩ := h.lay.near hi hm
 have hmp := h.raw.mp
 obtain ⟨c0, c1, c2, c3, c4⟩ := h.raw.cells
 have hlen := h.lay.len_at hi
 have hlp : 0 < (r.l i).length := List.length_pos_of_mem hm
 have hsm := h.len_small hi
 have hout := out_c (n := (r.l i).length - 1) p2 n4 n5 (by rw [n1, hlen]; congr 1; omega) (by omega) w h.raw
 rw [n1] at hout
 have ho := h.lay.out h.wf hi hm
 have hpo : pos l < (outS S (pos l)).length := by rw [outS_len]; exact p2
 have hjo : j < (outS S (pos l)).length := by have := h.lay.sz; rw [outS_len]; omega
 have hfo : (gt (outS S (pos l)) j).behind < (outS S (pos l)).length := ho.bound hj (ho.head hj)
 have hlj := ho.len_at (i := j) hj
 have hsj : ((r.drop l).l j).length < 5000 := by
  have h1 : ((r.drop l).l j).length ≤ (r.l j).length := List.length_filter_le _ _
  have := h.len_small hj
  omega
 have HD := Lib.hid (fun (w' : World) hr => full_move (w := w') h hi hj hm hr)
 have HPUT := Lib.hid (fun (w' : World) (hr : RawAt w' m r.places (lens.set i ((r.l i).length - 1)) (outS S (pos l)) F D) => put_c l hpo hjo hfo hlj (by omega) w' hr)
 clear h n2 n3 n4 n5 hlj hfo hjo hpo ho
 generalize pos l = p at *
 generalize outS S p = S1 at *
 generalize lens.set i ((r.l i).length - 1) = lens1 at *
 generalize ((r.drop l).l j).length = q at *
 go_enter Tryz.func168, Tryz.ntmps168
 go_wp2_with fail
 refine hh.mono ?_
 rintro e w' ⟨rfl, rfl⟩
 go_wp2_with (at_lookup; refine wpList_lookup_own_ok_int _ rfl _ _ 231 rfl 9 3 .i64 key_law Tryz.underlying231 Tryz.underlying3 (zeroI _) m.Mb _ D rfl hmp _ (kl l) rfl (key_of (by unfold maxLen; omega)) ?_; intro c hat hwc; rw [y1]; obtain rfl : c = (p : Int) := by rw [y2] at hat; simpa using hat.symm)
 refine hout.mono ?_
 rintro e w1 ⟨rfl, hA1, hK1⟩
 clear c0 c1 c2 c3 c4 hmp y1 y2 hlen
 go_wp2_with fail
 refine (HPUT.out w1 hA1).mono ?_
 rintro e w2 ⟨rfl, hA2, hK2⟩
 go_wp2_with fail
 go_ret
 exact ⟨rfl, m, HD.out _ hA2, Step.of_kp (hK1.trans hK2)⟩
set_option maxHeartbeats 2000000 in
set_option maxRecDepth 100000 in
theorem front_new {j : Nat} {l : List UInt8} (hj : j < r.n) (hl : l.length ≤ 64) (w : World) (hA : At w m r) (hno : ¬ r.has l) (hroom : r.many < r.places) :
  Calls Tryz.prog 168 #[.pointer (some ⟨m.R, 0, none⟩), .int .i64 j, .string (str l)] w fun e w' => e = .returned (.bool true) ∧ ∃ m', At w' m' ((r.drop l).push j l) ∧ Step w m w' m' := by
 have hh := has_c' (j : Int) w hA
 have hsz := str_size l
 have hb : (decide (0 ≤ (j : Int)) && decide ((j : Int) < (r.n : Int))) = true := by simp; omega
 rw [hb] at hh
 clear hb
 have hfr := free_c' w hA
 obtain ⟨lens, S, F, D, pos, h⟩ := hA
 have hno' := h.fit.no l hno
 have hmp := h.raw.mp
 obtain ⟨c0, c1, c2, c3, c4⟩ := h.raw.cells
 have hslot := fun n => slot_c h hroom n
 have hsz2 := h.raw.mp.size_le
 have hsize := h.fit.size
 have hsm := h.small.2.2
 have hlj := h.lay.len_at hj
 have hsj := h.len_small hj
 have HD := Lib.hid (fun (w' : World) (m' : Rm) (S' : List Sl) (F' : List Nat) (p : Nat) hL hR hr => full_new (w := w') (m := m') (S := S') (F := F') (p := p) h hL hR hj hno hl hr)
 clear h hsz2
 go_enter Tryz.func168, Tryz.ntmps168
 go_wp2_with fail
 refine hh.mono ?_
 rintro e w' ⟨rfl, rfl⟩
 go_wp2_with (at_lookup; refine wpList_lookup_own_ok_int _ rfl _ _ 231 rfl 9 3 .i64 key_law Tryz.underlying231 Tryz.underlying3 (zeroI _) m.Mb _ D rfl hmp _ (kl l) rfl (key_of (by unfold maxLen; omega)) ?_; intro c hat hwc; rw [hno'])
 refine hfr.mono ?_
 rintro e w' ⟨rfl, n, rfl⟩
 have hgt : decide ((0 : Int) < (r.places : Int) - r.many) = true := decide_eq_true (by omega)
 go_wp2_with fail
 refine (hslot n).mono ?_
 rintro e w1 ⟨p, S1, F1, m1, rfl, hA1, hS1, hL1, hR1, hp1⟩
 have hR := hS1.R
 have HL1 := Lib.hid hL1
 have hj1 : j < S1.length := Nat.lt_of_lt_of_le hj hL1.sz
 have hf1 := hL1.bound hj (hL1.head hj)
 have hpl := hR1.hi
 have HR1 := Lib.hid hR1
 have HS1 := Lib.hid hS1
 clear hL1 hR1 c0 c1 c2 c3 c4 hmp hno'
 clear hS1
 obtain ⟨d0, d1, d2, d3, d4⟩ := hA1.cells
 have hmp1 := hA1.mp
 have HT := Lib.hid (fun (w5 : World) (n : Nat) (D' : DataW Unit) hg hown => hA1.turnM (w' := w5) (n := n) (D' := D') hg hown (by omega))
 have hp64 : (Lit.int .i64 p).wf = true := WalkArith.wf_i64 (by omega)
 rw [hR] at d0 d1 d2 d3 d4
 clear d0 d1 d2 d4 hA1
 go_wp2_with (at_mapUpdate; refine wpList_mapUpdate_own _ rfl _ _ _ 231 rfl 9 3 key_law Tryz.underlying231 _ m1.Mb _ D rfl hmp1 (by unfold maxLen; omega) _ _ (kl l) rfl rfl (key_of (by unfold maxLen; omega)) _ [] (plainElem_int Tryz.underlying3 hp64) ?_; intro w2 hown2 hgrow2)
 obtain ⟨hA2, hK2⟩ := HT.out w2 _ (D.put (kl l) (.lit (.int .i64 p))) hgrow2 hown2
 have hput := put_c l hpl hj1 hf1 hlj (by omega) w2 hA2
 rw [hR] at hput
 refine hput.mono ?_
 rintro e w3 ⟨rfl, hA3, hK3⟩
 go_wp2_with fail
 go_ret
 exact ⟨rfl, m1, HD.out _ _ _ _ _ HL1.out HR1.out hA3, HS1.out.trans (Step.of_kp (hK2.trans hK3))⟩
theorem front_yes {j : Nat} {l : List UInt8} (hj : j < r.n) (hl : l.length ≤ 64) (w : World) (hA : At w m r) (hcan : r.has l ∨ r.many < r.places) :
  Calls Tryz.prog 168 #[.pointer (some ⟨m.R, 0, none⟩), .int .i64 j, .string (str l)] w fun e w' => e = .returned (.bool true) ∧ ∃ m', At w' m' ((r.drop l).push j l) ∧ Step w m w' m' := by
 by_cases h : r.has l
 ·exact front_has hj hl w hA h
 ·exact front_new hj hl w hA h (hcan.resolve_left h)
end
end Go.Proofs.YtkiabladmgagdabGreatDoor.Ringy
namespace Go.Proofs.YtkiabladmgagdabGreatDoor.Ringy
open Go.ChangeShapes Go.WideShapes Go.ChangeAt Go.RowKit
open Wirey (Blk Row str str_size str_list Kp)
open Go.ChangeMaps Go.Maps

theorem mk_lens {n : Nat} (h : n ≤ 100) (w : World) : (Instr.makeSlice 230 (.int .i64 n) (.int .i64 n)).run Tryz.prog w = .ok (.slice (some ⟨w.heap.size, 0, none⟩) n n) (w.alloc (.cells (intsV (List.replicate n 0)).toArray 3)) := by
 obtain ⟨i0, hi, hz0, hz1, hz2⟩ := info_parts int_info
 have h := run_make (P := Tryz.prog) w 230 3 i0 (.int .i64 0) Tryz.underlying230 hi hz0 .i64 .i64 (n : Int) (n : Int) (by omega) (by omega) (by rw [hz2]; omega) (by omega)
 rw [h, hz1, Int.toNat_natCast, Nat.mul_one]
 have e : madeCells (Value.int .i64 0).cells n = (intsV (List.replicate n 0)).toArray := by
  show madeCells #[Value.int .i64 0] n = _
  apply Array.ext'
  rw [toList_madeCells_one]
  simp [intsV, iv]
 rw [e]

theorem raw_start (w : World) (places n : Nat) :
  let w1 := ((w.alloc (.cells (intsV (List.replicate n 0)).toArray 3)).alloc (.map #[] 0)).alloc (.cells #[.int .i64 places, .slice (some ⟨w.heap.size, 0, none⟩) n n, .slice none 0 0, .map (some (w.heap.size + 1)), .slice none 0 0] 234)
  RawAt w1 ⟨w.heap.size + 2, w.heap.size, w.heap.size + 1, .slice none 0 0, .slice none 0 0⟩ places (List.replicate n 0) [] [] (.map []) ∧ Below w.heap.size w w1 := by
 intro w1
 have s1 : (w.alloc (.cells (intsV (List.replicate n 0)).toArray 3)).heap.size = w.heap.size + 1 := by simp
 have s2 : ((w.alloc (.cells (intsV (List.replicate n 0)).toArray 3)).alloc (.map #[] 0)).heap.size = w.heap.size + 2 := by simp
 refine ⟨⟨?_, ?_, World.ownsRow_nil _ _ _ _, ?_, World.ownsRow_nil _ _ _ _, by simp [Value.ownBlock]⟩, ((((Below.refl _ w).alloc (Nat.le_refl _) _).alloc (by omega) _).alloc (by omega) _)⟩
 ·have := Blk.new ((w.alloc (.cells (intsV (List.replicate n 0)).toArray 3)).alloc (.map #[] 0)) 234 #[.int .i64 places, .slice (some ⟨w.heap.size, 0, none⟩) n n, .slice none 0 0, .map (some (w.heap.size + 1)), .slice none 0 0]
  rw [s2] at this
  simp only [List.length_replicate]
  exact this
 ·exact ((Blk.new w 3 (intsV (List.replicate n 0)).toArray).alloc _).alloc _
 ·have := (World.ownsMap_made (w.alloc (.cells (intsV (List.replicate n 0)).toArray 3)) Tryz.prog 9 (plainElem (H := Unit) Tryz.prog 3)).alloc (.cells #[.int .i64 places, .slice (some ⟨w.heap.size, 0, none⟩) n n, .slice none 0 0, .map (some (w.heap.size + 1)), .slice none 0 0] 234)
  rw [s1] at this
  exact this

theorem full_start {w : World} {m : Rm} {places n : Nat} (h : RawAt w m places (List.replicate n 0) (newS n) [] (.map [])) (h1 : 1 ≤ n) (h2 : n ≤ 100) (h3 : places ≤ 4096) : At w m (Rg.new n places) := by
 have hno : ∀ k, ¬ (Rg.new n places).has k := fun k hk => by obtain ⟨_, _, h⟩ := hk; exact absurd h List.not_mem_nil
 refine ⟨_, _, _, _, fun _ => 0, h, lay_new n places _, Rg.new_wf h1 h2 h3, ⟨fun k hk => absurd hk (hno k), fun k _ => rfl, by rw [many_new]; rfl⟩, ⟨List.nodup_nil, by simp, ?_, ?_⟩⟩
 ·rw [newS_len, many_new]; rfl
 ·rw [many_new]; exact Nat.zero_le _
set_option maxHeartbeats 2000000 in
set_option maxRecDepth 100000 in
theorem empty_c {n places : Nat} (h1 : 1 ≤ n) (h2 : n ≤ 100) (h3 : places ≤ 4096) (w : World) :
  Calls Tryz.prog 125 #[.int .i64 n, .int .i64 places] w fun e w' => e = .returned (.pointer (some ⟨w.heap.size + 2, 0, none⟩)) ∧ ∃ m, m.R = w.heap.size + 2 ∧ At w' m (Rg.new n places) ∧ Below w.heap.size w w' ∧ ∀ b, m.own b → w.heap.size ≤ b := by
 have hmk := fun W => mk_lens h2 W
 have hmm := @run_makeMap Tryz.prog
 obtain ⟨i0, hi0, hz0, hz1, hz2⟩ := info_parts slot_info
 obtain ⟨hA0, hb0⟩ := raw_start w places n
 go_enter Tryz.func125, Tryz.ntmps125
 go_wp2_with fail
 generalize ((w.alloc (.cells (intsV (List.replicate n 0)).toArray 3)).alloc (.map #[] 0)).alloc (.cells #[.int .i64 places, .slice (some ⟨w.heap.size, 0, none⟩) n n, .slice none 0 0, .map (some (w.heap.size + 1)), .slice none 0 0] 234) = w1 at *
 go_loopw [14] (fun i wr => ∃ j : Nat, j ≤ n ∧ i = .int .i64 j ∧ ∃ m : Rm, m.R = w.heap.size + 2 ∧ RawAt wr m places (List.replicate n 0) (newS j) [] (.map []) ∧ Below w.heap.size w wr ∧ ∀ b, m.own b → w.heap.size ≤ b) (fun i _ => n - (intOf i).toNat)
 case atStart =>
  refine ⟨0, by omega, rfl, _, rfl, hA0, hb0, ?_⟩
  rintro b (hb | hb | hb | hb | hb)
  ·rw [hb]; show w.heap.size ≤ w.heap.size + 2; omega
  ·rw [hb]; exact Nat.le_refl _
  ·rw [hb]; show w.heap.size ≤ w.heap.size + 1; omega
  ·cases hb
  ·cases hb
 case round =>
  obtain ⟨j, hj, rfl, m, hR, hA, hb, hO⟩ := hrel
  clear hA0 hb0
  by_cases hn : j < n
  ·obtain ⟨-, -, c2, -, -⟩ := hA.cells
   have z := hA.hd.free 2
   have hsl := hA.sl
   rw [newS_len] at hsl
   have hRl := hA.hd.lt
   have hRs : m.vS.ownBlock ≠ some m.R := fun e => by obtain ⟨c, hb⟩ := owned_blk hA.sl e; exact hb.ne_ hA.hd (by decide) rfl
   have hc2 : ∀ o, (wr.alloc o).cell? ⟨m.R, 2, none⟩ = some m.vS := fun o => (hA.alloc o).hd.cell 2
   have hz3 := fun o => (hA.alloc o).hd.free 2
   have HP := Lib.hid (fun (o : Obj) (w1 : World) (g' cap' : Nat) (s : Sl) hgr hown hat => hA.moreS (o := o) (w1 := w1) (g' := g') (cap' := cap') (s := s) hgr hown hat)
   have HO := Lib.hid hO
   have HB := Lib.hid hb
   have hbs := hb.size
   clear hA hO hb
   rw [newS_len] at HP
   have HRe := Lib.hid hR
   rw [hR] at c2 z hRl hRs hc2 hz3
   clear hR
   generalize hvs : m.vS = vs at *
   clear hvs
   go_wp2_with (first | (refine wpList_append_lies _ (by rfl) _ _ _ (by rfl) 0 236 i0 _ 4 40 Tryz.underlying232 hi0 hz0 hz1 hz2 rfl (by omega) vs j (flat (newS j)) (by rfl) (hsl.alloc _) ⟨wr.heap.size, 0, none⟩ 1 1 (slc ⟨[], j, j, j⟩) (by rfl) (by rfl) (World.news_of_block (cs := #[.string ⟨#[]⟩, .int .i64 j, .int .i64 j, .int .i64 j]) (t := 236) (fr := (0, 0)) (heap_alloc_new wr _)) (by simp [Value.oneCell', slc, iv]) (by omega) (by simp [maxLen]; omega) (by omega) (by omega) (wr.heap.size + 1) (by simp) ?_; intro gg cp w3 hown1 hgrow hat3 hlt3; have x4 := (hgrow.cell_far ⟨w.heap.size + 2, 2, none⟩ (by simp; omega) (Ne.symm hRs)).trans (hc2 _); have y4 := (hgrow.frozen_far ⟨w.heap.size + 2, 2, none⟩ (by simp; omega) (Ne.symm hRs)).trans (hz3 _)))
   go_roundw
   case rel =>
    obtain ⟨hA4, hK4, hO4⟩ := HP.out _ _ _ _ _ hgrow hown1 hat3
    rw [← newS_snoc] at hA4
    refine ⟨j + 1, by omega, rfl, { m with vS := .slice (some ⟨gg, 0, none⟩) (j + 1) cp }, HRe.out, ?_, ?_, ?_⟩
    ·rw [← HRe.out]; exact hA4
    ·have hx : ∀ b, m.own b → w.heap.size ≤ b := HO.out
     have hK : Kp m.own wr (w3.setCell ⟨w.heap.size + 2, 2, none⟩ (.slice (some ⟨gg, 0, none⟩) (j + 1) cp)) := by rw [← HRe.out]; exact hK4
     exact HB.out.trans ⟨hK.os, hK.tape, hK.output, hK.size, fun k hk => hK.block k (Nat.lt_of_lt_of_le hk HB.out.size) (fun ho => by have := hx k ho; omega)⟩
    ·intro b hb
     rcases hO4 b hb with h | h
     ·exact HO.out b h
     ·exact Nat.le_trans HB.out.size h
   case measure => simp [intOf]; omega
  ·obtain rfl : j = n := by omega
   go_wp2_with fail
   go_ret
   exact ⟨rfl, m, hR, full_start hA h1 h2 h3, hb, hO⟩
set_option maxHeartbeats 2000000 in
theorem new_c {n places : Nat} (h1 : 1 ≤ n) (h2 : n ≤ 8) (h3 : places ≤ 4096) (w : World) :
  Calls Tryz.prog 94 #[.int .i64 n, .int .i64 places] w fun e w' => e = .returned (.tuple #[.pointer (some ⟨w.heap.size + 2, 0, none⟩), .int .i64 0]) ∧ ∃ m, m.R = w.heap.size + 2 ∧ At w' m (Rg.new n places) ∧ Below w.heap.size w w' ∧ ∀ b, m.own b → w.heap.size ≤ b := by
 have hE := empty_c (n := n) (places := places) h1 (by omega) h3 w
 go_enter Tryz.func94, Tryz.ntmps94
 go_wp2_with fail
 refine hE.mono ?_
 rintro e w' ⟨rfl, hp⟩
 go_wp2_with fail
 go_ret2
 exact ⟨rfl, hp⟩
section
variable {m : Rm} {r : Rg}
set_option maxHeartbeats 1000000 in
theorem back_none {j : Nat} (w : World) (hA : At w m r) (hj : j < r.n) (h : r.l j = []) :
  Calls Tryz.prog 234 #[.pointer (some ⟨m.R, 0, none⟩), .int .i64 j] w fun e w' => e = .returned (.tuple #[.string ⟨#[]⟩, .bool false]) ∧ w' = w := by
 have hl := len_c' w hA hj
 rw [h] at hl
 clear h
 go_enter Tryz.func234, Tryz.ntmps234
 go_wp2_with fail
 refine hl.mono ?_
 rintro e w' ⟨rfl, rfl⟩
 go_wp2_with fail
 go_ret2
 exact ⟨rfl, rfl⟩
theorem Lk.end_ {nx pv : Nat → Nat} : ∀ {a : Nat} {s : List Nat} {x z : Nat}, Lk nx pv a (s ++ [x]) z → pv z = x
 | _, [], _, _, h => h.2.2
 | _, b :: t, _, _, h => Lk.end_ (a := b) (s := t) h.2
set_option maxHeartbeats 1000000 in
theorem back_yes {j : Nat} {s : List Key} {k : Key} (w : World) (hA : At w m r) (hj : j < r.n) (h : r.l j = s ++ [k]) :
  Calls Tryz.prog 234 #[.pointer (some ⟨m.R, 0, none⟩), .int .i64 j] w fun e w' => e = .returned (.tuple #[.string (str k), .bool true]) ∧ w' = w := by
 have hl := len_c' w hA hj
 rw [h, List.length_append, List.length_singleton] at hl
 obtain ⟨lens, S, F, D, pos, hF⟩ := hA
 obtain ⟨p1, p2, hk, -⟩ := hF.lay.at_ j k hj (by rw [h]; simp)
 have hlk := hF.lay.lk j hj
 rw [h, List.map_append] at hlk
 have hah : (gt S j).ahead = pos k := hlk.end_
 have hjS : j < S.length := Nat.lt_of_lt_of_le hj hF.lay.sz
 obtain ⟨g, cap, hv⟩ := hF.raw.form (by omega)
 obtain ⟨-, -, c2, -, -⟩ := hF.raw.cells
 rw [hv] at c2
 obtain ⟨-, -, s2, -⟩ := hF.raw.slotAt hv hjS
 obtain ⟨s0, -, -, -⟩ := hF.raw.slotAt hv p2
 rw [hk] at s0
 rw [hah] at s2
 have hz : (((s.length + 1 : Nat) : Int) == 0) = false := by rw [beq_eq_false_iff_ne]; omega
 clear hF hlk hah h hk
 generalize pos k = p at *
 go_enter Tryz.func234, Tryz.ntmps234
 go_wp2_with fail
 refine hl.mono ?_
 rintro e w' ⟨rfl, rfl⟩
 go_wp2_with fail
 go_ret2
 exact ⟨rfl, rfl⟩
end
end Go.Proofs.YtkiabladmgagdabGreatDoor.Ringy
namespace Go.Proofs.YtkiabladmgagdabGreatDoor.Ringy
open Go.ChangeShapes Go.WideShapes Go.ChangeAt Go.RowKit
open Wirey (Blk Row str str_size str_list str_take Kp)
open Go.ChangeMaps Go.Maps

def fewL (l : List UInt8) : List UInt8 := if 80 < l.length then l.take 80 else l
theorem Step.below {w w' : World} {m m' : Rm} {B : Nat} (h : Step w m w' m') (hO : ∀ b, m.own b → B ≤ b) (hB : B ≤ w.heap.size) : Below B w w' ∧ ∀ b, m'.own b → B ≤ b :=
 ⟨⟨h.kp.os, h.kp.tape, h.kp.output, h.kp.size, fun k hk => h.kp.block k (by omega) (fun ho => by have := hO k ho; omega)⟩, fun b hb => by
   rcases h.own b hb with h1 | h1
   · exact hO b h1
   · omega⟩

end Go.Proofs.YtkiabladmgagdabGreatDoor.Ringy
namespace Go.Proofs.YtkiabladmgagdabGreatDoor.Ringy
open Go.ChangeShapes Go.WideShapes Go.ChangeAt Go.RowKit
open Wirey (Blk Row str str_size str_list Kp)
open Go.ChangeMaps Go.Maps

theorem flip {f : FuncId} {args : Array Value} {w : World} {v : Ending} (h : Calls Tryz.prog f args w fun e w' => e = v ∧ w' = w) : Calls Tryz.prog f args w fun e w' => e = v ∧ w = w' := h.mono fun _ _ ⟨a, b⟩ => ⟨a, b.symm⟩
def strsV (l : List Key) : List Value := l.map fun k => .string (str k)
theorem strsV_snoc (l : List Key) (k : Key) : strsV (l ++ [k]) = strsV l ++ [.string (str k)] := by simp [strsV]
theorem strsV_at {l : List Key} {i : Nat} (h : i < l.length) : (strsV l)[i]? = some (.string (str (l[i]?.getD []))) := by
 unfold strsV
 rw [List.getElem?_map, List.getElem?_eq_getElem h]
 rfl
theorem str_info : (Tryz.prog.info? 9).map (fun i => (i.zero, i.size, i.bytes)) = some (some (.string ⟨#[]⟩), 1, 16) := by kernel_rfl

structure Boxes (w : World) (n₀ B : Nat) (l : List Key) : Prop where
 box : ∃ v, Blk w B 103 #[v] ∧ w.ownsRow n₀ 9 1 v l.length (strsV l)
 lo : n₀ ≤ B

theorem own_form {w : World} {base : Nat} {e : TypeId} {size : Nat} {v : Value} {n : Nat} {xs : List Value} (h : w.ownsRow base e size v n xs) : ∃ a c, v = .slice a n c := by
 rcases h.2 with ⟨h1, h2⟩ | ⟨g, cap, cur, h1, _⟩
 ·exact ⟨none, 0, by rw [h1, h2]⟩
 ·exact ⟨_, _, h1⟩
theorem values_c (a : Option Addr) (n c : Nat) (w : World) :
  Calls Tryz.prog 238 #[.slice a n c] w fun e w' => e = .returned (.func (.func 240) #[] #[.pointer (some ⟨w.heap.size, 0, none⟩)]) ∧ w' = w.alloc (.cells #[.slice a n c] 103) := by
 go_enter Tryz.func238, Tryz.ntmps238
 go_wp2_with fail
 go_ret
 exact ⟨rfl, rfl⟩

theorem mk_keys {n : Nat} (h : n < 5000) (w : World) : (Instr.makeSlice 103 (.int .i64 0) (.int .i64 n)).run Tryz.prog w = .ok (.slice (some ⟨w.heap.size, 0, none⟩) 0 n) (w.alloc (.cells (List.replicate n (Value.string ⟨#[]⟩)).toArray 9)) ∧
  (w.alloc (.cells (List.replicate n (Value.string ⟨#[]⟩)).toArray 9)).ownsRow w.heap.size 9 1 (.slice (some ⟨w.heap.size, 0, none⟩) 0 n) 0 [] := by
 obtain ⟨i0, hi, hz0, hz1, hz2⟩ := info_parts str_info
 have h1 := run_make (P := Tryz.prog) w 103 9 i0 (.string ⟨#[]⟩) Tryz.underlying103 hi hz0 .i64 .i64 0 (n : Int) (by omega) (by omega) (by rw [hz2]; omega) (by omega)
 have e : madeCells (Value.string ⟨#[]⟩).cells (n * 1) = (List.replicate n (Value.string ⟨#[]⟩)).toArray := by
  show madeCells #[Value.string ⟨#[]⟩] (n * 1) = _
  rw [Nat.mul_one]
  apply Array.ext'
  rw [toList_madeCells_one]
 refine ⟨?_, ?_⟩
 ·rw [h1, hz1, Int.toNat_natCast, e]; rfl
 ·exact ⟨rfl, .inr ⟨_, n, _, rfl, Nat.le_refl _, heap_alloc_new w _, Nat.zero_le _, by unfold maxLen; omega, by simp, by simp⟩⟩

def keysF (B : Nat) : Value := .func (.func 240) #[] #[.pointer (some ⟨B, 0, none⟩)]
section
variable {m : Rm} {r : Rg}
set_option maxHeartbeats 2000000 in
set_option maxRecDepth 100000 in
theorem keys_c {i : Nat} (w : World) (hA : At w m r) (hi : i < r.n) :
  Calls Tryz.prog 235 #[.pointer (some ⟨m.R, 0, none⟩), .int .i64 i] w fun e w' => ∃ B, e = .returned (keysF B) ∧ Boxes w' w.heap.size B (r.l i) ∧ Below w.heap.size w w' := by
 have hL := flip (len_c' w hA hi)
 have hb1 : (decide (0 ≤ (i : Int)) && decide ((i : Int) < (r.n : Int))) = true := by simp; omega
 have hH := fun o => has_c' (i : Int) (w.alloc o) (hA.alloc o)
 rw [hb1] at hH
 clear hb1
 replace hH := fun o => flip (hH o)
 obtain ⟨lens, S, F, D, pos, h⟩ := hA
 have hsm := h.len_small hi
 have hmk := fun W => (mk_keys hsm W).1
 have hown := (mk_keys hsm w).2
 have hb := (Below.refl _ w).alloc (Nat.le_refl _) (.cells (List.replicate (r.l i).length (Value.string ⟨#[]⟩)).toArray 9)
 have hR := h.raw.alloc (.cells (List.replicate (r.l i).length (Value.string ⟨#[]⟩)).toArray 9)
 have HH := Lib.hid (hH (.cells (List.replicate (r.l i).length (Value.string ⟨#[]⟩)).toArray 9))
 clear hH
 obtain ⟨i0, hi0, hz0, hz1, hz2⟩ := info_parts str_info
 obtain ⟨g, cap, hv⟩ := h.raw.form h.nz
 have hlay := h.lay
 have hiS : i < S.length := Nat.lt_of_lt_of_le hi hlay.sz
 have hmax := h.raw.lt
 generalize hn : (r.l i).length = n at *
 have HN := Lib.hid hn
 clear hn
 generalize hw1 : w.alloc (.cells (List.replicate n (Value.string ⟨#[]⟩)).toArray 9) = w1 at *
 have HMK := Lib.hid (hmk w)
 clear hmk
 rw [hw1] at HMK
 have hmk := HMK.out
 clear HMK hw1
 obtain ⟨-, -, c2, -, -⟩ := hR.cells
 rw [hv] at c2
 obtain ⟨-, -, -, s3⟩ := hR.slotAt hv hiS
 have e3 : (gt S i).behind = nxOf S i := rfl
 rw [e3] at s3
 clear e3
 go_enter Tryz.func235, Tryz.ntmps235
 go_wp2_with fail
 refine hL.mono ?_
 rintro e w' ⟨rfl, rfl⟩
 go_wp2_with fail
 refine HH.out.mono ?_
 rintro e w' ⟨rfl, rfl⟩
 go_wp2_with fail
 go_loopw [5, 6] (fun v at_ wr => ∃ (pre rest : List Key) (a : Nat), r.l i = pre ++ rest ∧ Lk (nxOf S) (pvOf S) a (rest.map pos) i ∧ at_ = .int .i64 (nxOf S a : Int) ∧ wr.ownsRow w.heap.size 9 1 v pre.length (strsV pre) ∧ Below w.heap.size w wr) (fun v _ _ => n - (match v with | .slice _ k _ => k | _ => 0))
 case atStart => exact ⟨[], r.l i, i, rfl, hlay.lk i hi, rfl, hown, hb⟩
 case round =>
  obtain ⟨pre, rest, a, hL2, hlk, rfl, hrow, hbw⟩ := hrel
  have HL2 := Lib.hid hL2
  clear hL2
  cases rest with
  | nil =>
   have hai : nxOf S a = i := hlk.1
   rw [hai]
   have e1 : r.l i = pre := by have := HL2.out; simpa using this
   obtain ⟨sa, sc, rfl⟩ := own_form hrow
   go_wp2_with fail
   refine (values_c _ _ _ _).mono ?_
   rintro e w' ⟨rfl, rfl⟩
   go_wp2_with fail
   go_ret
   exact ⟨wr.heap.size, rfl, by rw [e1]; exact ⟨⟨_, Blk.new _ _ _, hrow.alloc _⟩, hbw.size⟩, hbw.alloc hbw.size _⟩
  | cons k rest =>
   have hrest : k ∈ r.l i := by have := HL2.out; rw [this]; simp
   obtain ⟨p1, p2, hk, -⟩ := hlay.at_ i k hi hrest
   have hka : nxOf S a = pos k := hlk.1.1
   have hlk2 := hlk.2
   rw [hka]
   have hRr : RawAt wr m r.places lens S F D := h.raw.below hbw (Nat.le_refl _)
   obtain ⟨-, -, c2, -, -⟩ := hRr.cells
   rw [hv] at c2
   obtain ⟨s0, -, -, s3⟩ := hRr.slotAt hv p2
   rw [hk] at s0
   have e3 : (gt S (pos k)).behind = nxOf S (pos k) := rfl
   rw [e3] at s3
   clear e3 hk
   have hne : decide ((pos k : Int) ≠ (i : Int)) = true := decide_eq_true (by omega)
   have hne2 : ¬ ((pos k : Int) = (i : Int)) := by omega
   have HLK := Lib.hid hlk2
   clear hlk hlk2 hka hrest
   have hwsz : w.heap.size ≤ wr.heap.size := hbw.size
   have hRs : ∀ b, m.own b → (some b) ≠ u5.ownBlock := fun b hb e => by have := (hrow.lt b e.symm).1; have := hmax b hb; omega
   have o2 := hRs _ own_R
   have og := hRs _ (own_g hv)
   have hRl : m.R < wr.heap.size := hRr.hd.lt
   have hgl : g < wr.heap.size := hRr.lt _ (own_g hv)
   have x2 : ∀ o, (wr.alloc o).cell? ⟨m.R, 2, none⟩ = some (.slice (some ⟨g, 0, none⟩) S.length cap) := fun o => by have := (hRr.alloc o).hd.cell 2; rw [hv] at this; exact this
   have x3 : ∀ o, (wr.alloc o).cell? ⟨g, pos k * 4 + 3, none⟩ = some (.int .i64 (nxOf S (pos k) : Int)) := fun o => ((hRr.alloc o).slotAt hv p2).2.2.2
   have hlen : pre.length + 1 ≤ n := by have := HL2.out; have h2 := HN.out; rw [this] at h2; simp at h2; omega
   generalize pos k = p at *
   go_wp2_with (first | (refine wpList_append_lies _ (by rfl) _ _ _ (by rfl) w.heap.size 9 i0 _ 1 16 Tryz.underlying103 hi0 hz0 hz1 hz2 rfl (by omega) u5 pre.length (strsV pre) (by rfl) (hrow.alloc _) ⟨wr.heap.size, 0, none⟩ 1 1 [.string (str k)] (by rfl) (by rfl) (World.news_of_block (cs := #[.string (str k)]) (t := 9) (fr := (0, 0)) (heap_alloc_new wr _)) (by simp [Value.oneCell']) (by omega) (by simp [maxLen]; omega) (by omega) (by simp; omega) (wr.heap.size + 1) (by simp) ?_; intro gg cp w3 hown1 hgrow hat3 hlt3; have y2 := (hgrow.cell_far ⟨m.R, 2, none⟩ (by simp; omega) o2).trans (x2 _); have y3 := (hgrow.cell_far ⟨g, p * 4 + 3, none⟩ (by simp; omega) og).trans (x3 _)))
   go_roundw
   case rel =>
    rw [← strsV_snoc] at hown1
    refine ⟨pre ++ [k], rest, _, by have := HL2.out; rw [this]; simp, HLK.out, rfl, by simpa using hown1, ?_⟩
    exact (hbw.alloc hwsz _).trans ⟨hgrow.os, hgrow.tape, hgrow.output, hgrow.size, fun b hb => hgrow.block b (by simp; omega) (fun e => by have := (hrow.lt b e.symm).1; omega)⟩
   case measure =>
    obtain ⟨sa, sc, e⟩ := own_form hrow
    rw [e]
    show n - (pre.length + 1) < n - pre.length
    omega
end
end Go.Proofs.YtkiabladmgagdabGreatDoor.Ringy
