/- Front's contract: a key from wherever it is, or a new one while there is a place. The only condition: a key is no longer than keys may be. -/
import Derived.Test.YtlnjnpchkdipdaaGreatRingAt
namespace Go.Proofs.YtlnjnpchkdipdaaGreat.Ringy
open Go.ChangeShapes Go.WideShapes Go.ChangeAt Go.RowKit
open Wirey (Blk Row str str_size str_list Kp)
open Go.ChangeMaps Go.Maps

/-- A slot for one key more. -/
structure Room (S : List Sl) (F : List Nat) (r : Rg) (pos : Key → Nat) (p : Nat) : Prop where
  lo : r.n ≤ p
  hi : p < S.length
  free : ∀ i k, i < r.n → k ∈ r.l i → pos k ≠ p
  nd : F.Nodup
  nin : p ∉ F
  mem : ∀ q, q ∈ F → r.n ≤ q ∧ q < S.length ∧ ∀ i k, i < r.n → k ∈ r.l i → pos k ≠ q
  cnt : S.length = r.n + r.many + F.length + 1
  top : r.many + F.length + 1 ≤ r.places
section
variable {m : Rm} {r : Rg}
theorem slot_c {w : World} {lens : List Nat} {S : List Sl} {F : List Nat} {D : DataW Unit} {pos : Key → Nat} (h : Full w m r lens S F D pos) (hm : r.many < r.places) (n : Nat) :
    Calls Tryz.prog 247 #[.pointer (some ⟨m.R, 0, none⟩)] (w.drewN n) fun e w' => ∃ (p : Nat) (S' : List Sl) (F' : List Nat) (m' : Rm), e = .returned (.int .i64 (p : Int)) ∧ RawAt w' m' r.places lens S' F' D ∧ Step w m w' m' ∧ Lay S' lens r pos ∧ Room S' F' r pos p ∧ p < 100000 := by
  have hs := h.small
  have hsp := h.spare
  rcases List.eq_nil_or_concat F with e | ⟨F', p, e⟩
  · subst e
    refine (slot_new (w.drewN n) (h.raw.drewN n) (by omega)).mono ?_
    rintro e w' ⟨rfl, v, hA, hK, hO⟩
    have hlen : (S ++ [Sl.none]).length = S.length + 1 := by simp
    refine ⟨S.length, _, _, _, rfl, hA, ⟨rfl, ⟨hK.os, hK.tape, hK.output, hK.size, hK.block⟩, hO, rfl⟩, h.lay.frame (by omega) (fun q hq => gt_snoc (Nat.lt_of_lt_of_le hq h.lay.sz) _) (fun i k hi hk => gt_snoc (h.lay.at_ i k hi hk).2.1 _), ⟨h.lay.sz, by omega, fun i k hi hk e => by have := (h.lay.at_ i k hi hk).2.1; omega, List.nodup_nil, by simp, by simp, ?_, ?_⟩, by omega⟩
    · have := hsp.cnt; simp at this; simp; omega
    · simp; omega
  · rw [List.concat_eq_append] at e
    subst e
    refine (slot_left (w.drewN n) (h.raw.drewN n) (by simp at hs; omega)).mono ?_
    rintro e w' ⟨rfl, v, hA, hK, hO⟩
    have hnd := List.nodup_append.1 hsp.nd
    obtain ⟨a, b, c⟩ := hsp.mem p (by simp)
    refine ⟨p, _, _, _, rfl, hA, ⟨rfl, ⟨hK.os, hK.tape, hK.output, hK.size, hK.block⟩, hO, rfl⟩, h.lay, ⟨a, b, c, hnd.1, fun hm => hnd.2.2 p hm p (by simp) rfl, fun q hq => hsp.mem q (by simp [hq]), ?_, ?_⟩, by omega⟩
    · have := hsp.cnt; simp at this; omega
    · have := hsp.top; simp at this; omega
theorem full_move {w w0 : World} {lens : List Nat} {S : List Sl} {F : List Nat} {D : DataW Unit} {pos : Key → Nat} {l : Key} (h : Full w0 m r lens S F D pos) {i j : Nat} (hi : i < r.n) (hj : j < r.n) (hm : l ∈ r.l i)
    (hr : RawAt w m r.places ((lens.set i ((r.l i).length - 1)).set j (((r.drop l).l j).length + 1)) (inS (outS S (pos l)) j (pos l) l) F D) : At w m ((r.drop l).push j l) := by
  obtain ⟨p1, p2, -, -⟩ := h.lay.at_ i l hi hm
  have ho := h.lay.out h.wf hi hm
  have hne : ∀ j x, j < r.n → x ∈ (r.drop l).l j → pos x ≠ pos l := fun j x hj hx e => (strike_mem.1 hx).2 (h.lay.inj hj hi (strike_mem.1 hx).1 hm e)
  have hmany := Rg.many_drop h.wf hi hm
  have hmany2 := Rg.many_push (r := r.drop l) (k := l) (j := j) hj
  have hnot : ∀ t, t < r.n → l ∉ (r.drop l).l t := fun t _ hx => (strike_mem.1 hx).2 rfl
  have hp := ho.put (h.wf.drop l) (j := j) (p := pos l) (k := l) hj p1 (by rw [outS_len]; exact p2) hne hnot
  have hu : upd pos l (pos l) = pos := funext fun x => by
    unfold upd
    by_cases e : x = l
    · rw [if_pos e, e]
    · rw [if_neg e]
  rw [hu] at hp
  have hhas : ∀ k, ((r.drop l).push j l).has k ↔ r.has k := fun k => by
    rw [Rg.has_push (r := r.drop l) hj, Rg.has_drop]
    constructor
    · rintro (e | e)
      · rw [e]; exact ⟨i, hi, hm⟩
      · exact e.1
    · intro hk
      by_cases e : k = l
      · exact .inl e
      · exact .inr ⟨hk, e⟩
  refine ⟨_, _, _, _, pos, hr, hp, (h.wf.drop l).push hj hnot (h.wf.len i l hi hm) ?_, ⟨fun k hk => h.fit.yes k ((hhas k).1 hk), fun k hk => h.fit.no k (fun e => hk ((hhas k).2 e)), ?_⟩, ⟨h.spare.nd, fun p hp => ?_, ?_, ?_⟩⟩
  · have := h.wf.many
    show (r.drop l).many < r.places
    omega
  · rw [h.fit.size]; omega
  · obtain ⟨a, b, c⟩ := h.spare.mem p hp
    refine ⟨a, by rw [inS_len, outS_len]; exact b, fun t x ht hx => ?_⟩
    obtain ⟨t', ht', hx'⟩ := (hhas x).1 ⟨t, ht, hx⟩
    exact c t' x ht' hx'
  · rw [inS_len, outS_len, h.spare.cnt]
    show _ = r.n + _ + _
    omega
  · have := h.spare.top
    show ((r.drop l).push j l).many + _ ≤ r.places
    omega
theorem full_new {w w0 : World} {m0 : Rm} {lens : List Nat} {S S0 : List Sl} {F F0 : List Nat} {D : DataW Unit} {pos : Key → Nat} {l : Key} {p : Nat} (h : Full w0 m0 r lens S0 F0 D pos) (hL : Lay S lens r pos) (hroom : Room S F r pos p) {j : Nat} (hj : j < r.n) (hno : ¬ r.has l) (hlen : l.length ≤ 64)
    (hr : RawAt w m r.places (lens.set j ((r.l j).length + 1)) (inS S j p l) F (D.put (kl l) (.lit (.int .i64 (p : Int))))) : At w m ((r.drop l).push j l) := by
  have hnot : ∀ t, t < r.n → l ∉ r.l t := fun t ht hx => hno ⟨t, ht, hx⟩
  have hp := hL.put h.wf hj hroom.lo hroom.hi hroom.free hnot
  have hmany2 := Rg.many_push (r := r) (k := l) (j := j) hj
  have hkey : WideAt.IsKeyLit (kl l) := trivial
  have hpos : ∀ k, r.has k → upd pos l p k = pos k := fun k hk => if_neg (fun e : k = l => hno (e ▸ hk))
  have hA : At w m (r.push j l) := by
    refine ⟨_, _, _, _, upd pos l p, hr, hp, h.wf.push hj hnot hlen (by have := hroom.top; omega), ⟨fun k hk => ?_, fun k hk => ?_, ?_⟩, ⟨hroom.nd, fun q hq => ?_, ?_, ?_⟩⟩
    · rcases (Rg.has_push hj).1 hk with e | e
      · subst e
        refine ⟨has_put_same h.tidy.isMap hkey _, ?_⟩
        rw [atKey_put_same h.tidy.isMap hkey, show upd pos k p k = p from if_pos rfl]
      · have hne : k ≠ l := fun e2 => hno (e2 ▸ e)
        obtain ⟨y1, y2⟩ := h.fit.yes k e
        rw [hpos k e, has_put_other (kl_ne hne), atKey_put_other (kl_ne hne)]
        exact ⟨y1, y2⟩
    · have hne : k ≠ l := fun e2 => hk ((Rg.has_push hj).2 (.inl e2))
      rw [has_put_other (kl_ne hne)]
      exact h.fit.no k (fun e => hk ((Rg.has_push hj).2 (.inr e)))
    · rw [size_put h.tidy, h.fit.no l hno, hmany2, h.fit.size]; rfl
    · obtain ⟨a, b, c⟩ := hroom.mem q hq
      refine ⟨a, by rw [inS_len]; exact b, fun t x ht hx => ?_⟩
      rcases (Rg.has_push hj).1 ⟨t, ht, hx⟩ with e | e
      · subst e
        rw [show upd pos x p x = p from if_pos rfl]
        exact fun e => hroom.nin (e ▸ hq)
      · rw [hpos x e]
        obtain ⟨t', ht', hx'⟩ := e
        exact c t' x ht' hx'
    · rw [inS_len, hroom.cnt, hmany2]
      show _ = r.n + _ + _
      omega
    · have := hroom.top
      show (r.push j l).many + _ ≤ r.places
      omega
  refine hA.alike rfl rfl fun t ht => ?_
  show (if t = j then l :: strike l (r.l t) else strike l (r.l t)) = (if t = j then l :: r.l t else r.l t)
  rw [strike_of_not (hnot t ht)]

set_option maxHeartbeats 2000000 in
set_option maxRecDepth 100000 in
theorem front_has {j : Nat} {l : List UInt8} (hj : j < r.n) (hl : l.length ≤ 64) (w : World) (hA : At w m r) (hyes : r.has l) :
    Calls Tryz.prog 236 #[.pointer (some ⟨m.R, 0, none⟩), .int .i64 (j : Int), .string (str l)] w fun e w' => e = .returned (.bool true) ∧ ∃ m', At w' m' ((r.drop l).push j l) ∧ Step w m w' m' := by
  have hh := has_c' (j : Int) w hA
  have hsz := str_size l
  have hb : (decide (0 ≤ (j : Int)) && decide ((j : Int) < (r.n : Int))) = true := by simp; omega
  rw [hb] at hh
  clear hb
  obtain ⟨lens, S, F, D, pos, h⟩ := hA
  obtain ⟨i, hi, hm⟩ := hyes
  obtain ⟨y1, y2⟩ := h.fit.yes l ⟨i, hi, hm⟩
  obtain ⟨p1, p2, -, -⟩ := h.lay.at_ i l hi hm
  obtain ⟨n1, n2, n3, n4, n5⟩ := h.lay.near hi hm
  have hmp := h.raw.mp
  obtain ⟨c0, c1, c2, c3, c4⟩ := h.raw.cells
  have hlen := h.lay.len_at hi
  have hlp : 0 < (r.l i).length := List.length_pos_of_mem hm
  have hsm := h.len_small hi
  have hout := out_c (n := (r.l i).length - 1) p2 n4 n5 (by rw [n1, hlen]; congr 1; omega) (by omega) w h.raw
  rw [n1] at hout
  have ho := h.lay.out h.wf hi hm
  have hpo : pos l < (outS S (pos l)).length := by rw [outS_len]; exact p2
  have hjo : j < (outS S (pos l)).length := by have := h.lay.sz; rw [outS_len]; omega
  have hfo : (gt (outS S (pos l)) j).behind < (outS S (pos l)).length := ho.bound hj (ho.head hj)
  have hlj := ho.len_at (i := j) hj
  have hsj : ((r.drop l).l j).length < 5000 := by
    have h1 : ((r.drop l).l j).length ≤ (r.l j).length := List.length_filter_le _ _
    have := h.len_small hj
    omega
  have HD := Lib.hid (fun (w' : World) hr => full_move (w := w') h hi hj hm hr)
  have HPUT := Lib.hid (fun (w' : World) (hr : RawAt w' m r.places (lens.set i ((r.l i).length - 1)) (outS S (pos l)) F D) => put_c l hpo hjo hfo hlj (by omega) w' hr)
  clear h n2 n3 n4 n5 hlj hfo hjo hpo ho
  generalize pos l = p at *
  generalize outS S p = S1 at *
  generalize lens.set i ((r.l i).length - 1) = lens1 at *
  generalize ((r.drop l).l j).length = q at *
  go_enter Tryz.func236, Tryz.ntmps236
  go_wp2_with fail
  refine hh.mono ?_
  rintro e w' ⟨rfl, rfl⟩
  go_wp2_with (at_lookup; refine wpList_lookup_own_ok_int _ rfl _ _ 221 rfl 9 3 .i64 key_law Tryz.underlying221 Tryz.underlying3 (zeroI _) m.Mb _ D rfl hmp _ (kl l) rfl (key_of (by unfold maxLen; omega)) ?_; intro c hat hwc; rw [y1]; obtain rfl : c = (p : Int) := by rw [y2] at hat; simpa using hat.symm)
  refine hout.mono ?_
  rintro e w1 ⟨rfl, hA1, hK1⟩
  clear c0 c1 c2 c3 c4 hmp y1 y2 hlen
  go_wp2_with fail
  refine (HPUT.out w1 hA1).mono ?_
  rintro e w2 ⟨rfl, hA2, hK2⟩
  go_wp2_with fail
  go_ret
  exact ⟨rfl, m, HD.out _ hA2, Step.of_kp (hK1.trans hK2)⟩
set_option maxHeartbeats 2000000 in
set_option maxRecDepth 100000 in
theorem front_new {j : Nat} {l : List UInt8} (hj : j < r.n) (hl : l.length ≤ 64) (w : World) (hA : At w m r) (hno : ¬ r.has l) (hroom : r.many < r.places) :
    Calls Tryz.prog 236 #[.pointer (some ⟨m.R, 0, none⟩), .int .i64 (j : Int), .string (str l)] w fun e w' => e = .returned (.bool true) ∧ ∃ m', At w' m' ((r.drop l).push j l) ∧ Step w m w' m' := by
  have hh := has_c' (j : Int) w hA
  have hsz := str_size l
  have hb : (decide (0 ≤ (j : Int)) && decide ((j : Int) < (r.n : Int))) = true := by simp; omega
  rw [hb] at hh
  clear hb
  have hfr := free_c' w hA
  obtain ⟨lens, S, F, D, pos, h⟩ := hA
  have hno' := h.fit.no l hno
  have hmp := h.raw.mp
  obtain ⟨c0, c1, c2, c3, c4⟩ := h.raw.cells
  have hslot := fun n => slot_c h hroom n
  have hsz2 := h.raw.mp.size_le
  have hsize := h.fit.size
  have hsm := h.small.2.2
  have hlj := h.lay.len_at hj
  have hsj := h.len_small hj
  have HD := Lib.hid (fun (w' : World) (m' : Rm) (S' : List Sl) (F' : List Nat) (p : Nat) hL hR hr => full_new (w := w') (m := m') (S := S') (F := F') (p := p) h hL hR hj hno hl hr)
  clear h hsz2
  go_enter Tryz.func236, Tryz.ntmps236
  go_wp2_with fail
  refine hh.mono ?_
  rintro e w' ⟨rfl, rfl⟩
  go_wp2_with (at_lookup; refine wpList_lookup_own_ok_int _ rfl _ _ 221 rfl 9 3 .i64 key_law Tryz.underlying221 Tryz.underlying3 (zeroI _) m.Mb _ D rfl hmp _ (kl l) rfl (key_of (by unfold maxLen; omega)) ?_; intro c hat hwc; rw [hno'])
  refine hfr.mono ?_
  rintro e w' ⟨rfl, n, rfl⟩
  have hgt : decide ((0 : Int) < (r.places : Int) - r.many) = true := decide_eq_true (by omega)
  go_wp2_with fail
  refine (hslot n).mono ?_
  rintro e w1 ⟨p, S1, F1, m1, rfl, hA1, hS1, hL1, hR1, hp1⟩
  have hR := hS1.R
  have HL1 := Lib.hid hL1
  have hj1 : j < S1.length := Nat.lt_of_lt_of_le hj hL1.sz
  have hf1 := hL1.bound hj (hL1.head hj)
  have hpl := hR1.hi
  have HR1 := Lib.hid hR1
  have HS1 := Lib.hid hS1
  clear hL1 hR1 c0 c1 c2 c3 c4 hmp hno'
  clear hS1
  obtain ⟨d0, d1, d2, d3, d4⟩ := hA1.cells
  have hmp1 := hA1.mp
  have HT := Lib.hid (fun (w5 : World) (n : Nat) (D' : DataW Unit) hg hown => hA1.turnM (w' := w5) (n := n) (D' := D') hg hown (by omega))
  have hp64 : (Lit.int .i64 (p : Int)).wf = true := WalkArith.wf_i64 (by omega)
  rw [hR] at d0 d1 d2 d3 d4
  clear d0 d1 d2 d4 hA1
  go_wp2_with (at_mapUpdate; refine wpList_mapUpdate_own _ rfl _ _ _ 221 rfl 9 3 key_law Tryz.underlying221 _ m1.Mb _ D rfl hmp1 (by unfold maxLen; omega) _ _ (kl l) rfl rfl (key_of (by unfold maxLen; omega)) _ [] (plainElem_int Tryz.underlying3 hp64) ?_; intro w2 hown2 hgrow2)
  obtain ⟨hA2, hK2⟩ := HT.out w2 _ (D.put (kl l) (.lit (.int .i64 (p : Int)))) hgrow2 hown2
  have hput := put_c l hpl hj1 hf1 hlj (by omega) w2 hA2
  rw [hR] at hput
  refine hput.mono ?_
  rintro e w3 ⟨rfl, hA3, hK3⟩
  go_wp2_with fail
  go_ret
  exact ⟨rfl, m1, HD.out _ _ _ _ _ HL1.out HR1.out hA3, HS1.out.trans (Step.of_kp (hK2.trans hK3))⟩
/-- What a key at the front asks for. -/
theorem front_yes {j : Nat} {l : List UInt8} (hj : j < r.n) (hl : l.length ≤ 64) (w : World) (hA : At w m r) (hcan : r.has l ∨ r.many < r.places) :
    Calls Tryz.prog 236 #[.pointer (some ⟨m.R, 0, none⟩), .int .i64 (j : Int), .string (str l)] w fun e w' => e = .returned (.bool true) ∧ ∃ m', At w' m' ((r.drop l).push j l) ∧ Step w m w' m' := by
  by_cases h : r.has l
  · exact front_has hj hl w hA h
  · exact front_new hj hl w hA h (hcan.resolve_left h)
end
end Go.Proofs.YtlnjnpchkdipdaaGreat.Ringy
