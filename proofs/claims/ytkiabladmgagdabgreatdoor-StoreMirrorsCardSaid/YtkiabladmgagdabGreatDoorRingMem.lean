/- Lists that share their places, in memory: five blocks, of which two grow; what reads them. No condition beyond what the functions ask for themselves. -/
import Derived.Test.YtkiabladmgagdabGreatDoorRows
import Derived.Test.YtkiabladmgagdabGreatDoorRingLayAll
import Derived.Test.YtkiabladmgagdabGreatDoorMemAll
import Derived.Test.YtkiabladmgagdabGreatDoorWireFlyAll
import Derived.WalkKit
import Derived.Lib.Hide
import Derived.Laws.OwnMore
import Derived.Maps.OwnSet
import Derived.WalkSpells
import Derived.RegionTactic
import Derived.Test.YtkiabladmgagdabGreatDoorSq
namespace Go.Proofs.YtkiabladmgagdabGreatDoor.Ringy
open Go.ChangeShapes Go.WideShapes Go.ChangeAt Go.RowKit
open Wirey (Blk Row str str_size str_list Kp)
open Go.ChangeMaps

def iv (n : Nat) : Value := .int .i64 n
def slc (s : Sl) : List Value := [.string (str s.key), iv s.list, iv s.ahead, iv s.behind]
def flat : List Sl → List Value
 | [] => []
 | s :: S => slc s ++ flat S
theorem flat_snoc (S : List Sl) (s : Sl) : flat (S ++ [s]) = flat S ++ slc s := by
 induction S with
 | nil => simp [flat]
 | cons x S ih => show slc x ++ flat (S ++ [s]) = _; rw [ih]; simp [flat]
theorem flat_at : ∀ (S : List Sl) (p j : Nat), p < S.length → j < 4 → (flat S)[4 * p + j]? = (slc (gt S p))[j]?
 | s :: S, 0, j, _, hj => by
  show (slc s ++ flat S)[4 * 0 + j]? = _
  rw [Nat.mul_zero, Nat.zero_add, List.getElem?_append_left (by simpa [slc] using hj)]
  rfl
 | s :: S, p + 1, j, hp, hj => by
  show (slc s ++ flat S)[4 * (p + 1) + j]? = _
  rw [List.getElem?_append_right (by simp [slc]; omega), show 4 * (p + 1) + j - (slc s).length = 4 * p + j from by simp [slc]; omega, flat_at S p j (by simpa using hp) hj]
  rfl
theorem flat_set : ∀ (S : List Sl) (p : Nat) (v : Sl), p < S.length → flat (S.set p v) = ((((flat S).set (4 * p) (.string (str v.key))).set (4 * p + 1) (iv v.list)).set (4 * p + 2) (iv v.ahead)).set (4 * p + 3) (iv v.behind)
 | s :: S, 0, v, _ => by rfl
 | s :: S, p + 1, v, hp => by
  show slc s ++ flat (S.set p v) = (((((slc s) ++ flat S).set _ _).set _ _).set _ _).set _ _
  rw [flat_set S p v (by simpa using hp)]
  have e : ∀ (a : List Value) (i : Nat) (u : Value), (slc s ++ a).set (4 + i) u = slc s ++ a.set i u := fun a i u => by
   rw [List.set_append_right _ _ (by simp [slc])]
   congr 2
   simp [slc]
  rw [show 4 * (p + 1) = 4 + 4 * p from by omega, show 4 + 4 * p + 1 = 4 + (4 * p + 1) from by omega, show 4 + 4 * p + 2 = 4 + (4 * p + 2) from by omega, show 4 + 4 * p + 3 = 4 + (4 * p + 3) from by omega, e, e, e, e]
theorem set_self {l : List Value} {i : Nat} {u : Value} (h : l[i]? = some u) : l.set i u = l := by
 apply List.ext_getElem?
 intro j
 rw [List.getElem?_set]
 by_cases e : i = j
 ·subst e
  have : i < l.length := by
   rcases Nat.lt_or_ge i l.length with h1 | h1
   ·exact h1
   ·rw [List.getElem?_eq_none h1] at h; cases h
  rw [if_pos rfl, if_pos this, h]
 ·rw [if_neg e]
section
variable {S : List Sl} {p : Nat}
theorem flat_key (hp : p < S.length) : (flat S)[4 * p]? = some (.string (str (gt S p).key)) := flat_at S p 0 hp (by omega)
theorem flat_list (hp : p < S.length) : (flat S)[4 * p + 1]? = some (iv (gt S p).list) := flat_at S p 1 hp (by omega)
theorem flat_ahead (hp : p < S.length) : (flat S)[4 * p + 2]? = some (iv (gt S p).ahead) := flat_at S p 2 hp (by omega)
theorem flat_behind (hp : p < S.length) : (flat S)[4 * p + 3]? = some (iv (gt S p).behind) := flat_at S p 3 hp (by omega)
theorem flat_ah (hp : p < S.length) (v : Nat) : flat (ahSet S p v) = (flat S).set (4 * p + 2) (iv v) := by
 unfold ahSet
 rw [flat_set S p _ hp]
 show ((((flat S).set (4 * p) (.string (str (gt S p).key))).set (4 * p + 1) (iv (gt S p).list)).set (4 * p + 2) (iv v)).set (4 * p + 3) (iv (gt S p).behind) = _
 rw [set_self (flat_key hp), set_self (flat_list hp), set_self]
 rw [List.getElem?_set, if_neg (by omega)]
 exact flat_behind hp
theorem flat_be (hp : p < S.length) (v : Nat) : flat (beSet S p v) = (flat S).set (4 * p + 3) (iv v) := by
 unfold beSet
 rw [flat_set S p _ hp]
 show ((((flat S).set (4 * p) (.string (str (gt S p).key))).set (4 * p + 1) (iv (gt S p).list)).set (4 * p + 2) (iv (gt S p).ahead)).set (4 * p + 3) (iv v) = _
 rw [set_self (flat_key hp), set_self (flat_list hp), set_self (flat_ahead hp)]
end

structure Rm where
 R : Nat
 Lb : Nat
 Mb : Nat
 vS : Value
 vL : Value
def Rm.own (m : Rm) (b : Nat) : Prop := b = m.R ∨ b = m.Lb ∨ b = m.Mb ∨ m.vS.ownBlock = some b ∨ m.vL.ownBlock = some b
def intsV (l : List Nat) : List Value := l.map iv
structure RawAt (w : World) (m : Rm) (places : Nat) (lens : List Nat) (S : List Sl) (F : List Nat) (D : DataW Unit) : Prop where
 hd : Blk w m.R 234 #[iv places, .slice (some ⟨m.Lb, 0, none⟩) lens.length lens.length, m.vS, .map (some m.Mb), m.vL]
 ln : Blk w m.Lb 3 (intsV lens).toArray
 sl : w.ownsRow 0 236 4 m.vS S.length (flat S)
 mp : w.ownsMap Tryz.prog 9 (plainElem Tryz.prog 3) m.Mb (Maps.size D) D
 lf : w.ownsRow 0 3 1 m.vL F.length (intsV F)
 ne : m.vL.ownBlock ≠ some m.Lb
section
variable {w w' : World} {m : Rm} {places : Nat} {lens : List Nat} {S : List Sl} {F : List Nat} {D : DataW Unit}
theorem RawAt.lt (h : RawAt w m places lens S F D) : ∀ b, m.own b → b < w.heap.size := by
 rintro b (rfl | rfl | rfl | hb | hb)
 ·exact h.hd.lt
 ·exact h.ln.lt
 ·exact h.mp.lt
 ·exact (h.sl.lt b hb).2
 ·exact (h.lf.lt b hb).2
theorem ownsRow_stay {base : Nat} {e : TypeId} {size : Nat} {v : Value} {n : Nat} {xs : List Value} (h : w.ownsRow base e size v n xs) (hb : ∀ b, v.ownBlock = some b → w'.heap[b]? = w.heap[b]?) : w'.ownsRow base e size v n xs := by
 rcases h with ⟨h1, h2 | ⟨g, cap, cur, rfl, hg, hh, h3⟩⟩
 ·exact ⟨h1, .inl h2⟩
 ·exact ⟨h1, .inr ⟨g, cap, cur, rfl, hg, (hb g rfl).trans hh, h3⟩⟩
theorem ownsMap_stay {H : Type} {P : Program} {k : TypeId} {R : Value → Option (DataW H × List MemPlace)} {b n : Nat} {D : DataW H} (h : w.ownsMap P k R b n D) (hb : w'.heap[b]? = w.heap[b]?) : w'.ownsMap P k R b n D := by
 obtain ⟨es, clock, h1, h2⟩ := h
 exact ⟨es, clock, hb.trans h1, h2⟩
theorem ownsMap_tight {H : Type} {P : Program} {k : TypeId} {R : Value → Option (DataW H × List MemPlace)} {b n : Nat} {D : DataW H} (h : w.ownsMap P k R b n D) : w.ownsMap P k R b (Maps.size D) D := by
 obtain ⟨es, clock, h1, h2, _, rfl⟩ := h
 exact ⟨es, clock, h1, h2, by simp [Maps.size, length_sorted], rfl⟩
theorem RawAt.stay (h : RawAt w m places lens S F D) (hb : ∀ b, m.own b → w'.heap[b]? = w.heap[b]?) : RawAt w' m places lens S F D :=
 ⟨(hb _ (.inl rfl)).trans h.hd, (hb _ (.inr (.inl rfl))).trans h.ln, ownsRow_stay h.sl fun b e => hb b (.inr (.inr (.inr (.inl e)))), ownsMap_stay h.mp (hb _ (.inr (.inr (.inl rfl)))), ownsRow_stay h.lf fun b e => hb b (.inr (.inr (.inr (.inr e)))), h.ne⟩
theorem RawAt.drewN (h : RawAt w m places lens S F D) (n : Nat) : RawAt (w.drewN n) m places lens S F D := h.stay fun _ _ => rfl
theorem RawAt.drew (h : RawAt w m places lens S F D) : RawAt w.drew m places lens S F D := h.stay fun _ _ => rfl
theorem RawAt.alloc (h : RawAt w m places lens S F D) (o : Obj) : RawAt (w.alloc o) m places lens S F D := h.stay fun b hb => Below.heap_alloc w o b (h.lt b hb)
theorem RawAt.below (h : RawAt w m places lens S F D) {C : Nat} (hb : Below C w w') (hC : w.heap.size ≤ C) : RawAt w' m places lens S F D := h.stay fun b hb2 => hb.block b (Nat.lt_of_lt_of_le (h.lt b hb2) hC)
theorem RawAt.cells (h : RawAt w m places lens S F D) : w.cell? ⟨m.R, 0, none⟩ = some (.int .i64 places) ∧ w.cell? ⟨m.R, 1, none⟩ = some (.slice (some ⟨m.Lb, 0, none⟩) lens.length lens.length) ∧ w.cell? ⟨m.R, 2, none⟩ = some m.vS ∧
  w.cell? ⟨m.R, 3, none⟩ = some (.map (some m.Mb)) ∧ w.cell? ⟨m.R, 4, none⟩ = some m.vL := ⟨h.hd.cell 0, h.hd.cell 1, h.hd.cell 2, h.hd.cell 3, h.hd.cell 4⟩
theorem RawAt.form (h : RawAt w m places lens S F D) (hn : 0 < S.length) : ∃ g cap, m.vS = .slice (some ⟨g, 0, none⟩) S.length cap := by
 obtain ⟨g, cap, e, _⟩ := h.sl.form hn
 exact ⟨g, cap, e⟩
theorem RawAt.lenAt (h : RawAt w m places lens S F D) {j n : Nat} (hj : lens[j]? = some n) : w.cell? ⟨m.Lb, j, none⟩ = some (.int .i64 n) := by
 rw [h.ln.cell j]
 simp [intsV, hj, iv]
theorem RawAt.slotAt (h : RawAt w m places lens S F D) {g cap : Nat} (hv : m.vS = .slice (some ⟨g, 0, none⟩) S.length cap) {p : Nat} (hp : p < S.length) :
  w.cell? ⟨g, p * 4, none⟩ = some (.string (str (gt S p).key)) ∧ w.cell? ⟨g, p * 4 + 1, none⟩ = some (.int .i64 ((gt S p).list : Int)) ∧
  w.cell? ⟨g, p * 4 + 2, none⟩ = some (.int .i64 ((gt S p).ahead : Int)) ∧ w.cell? ⟨g, p * 4 + 3, none⟩ = some (.int .i64 ((gt S p).behind : Int)) := by
 have hs := h.sl
 rw [hv] at hs
 rw [Nat.mul_comm p 4]
 refine ⟨?_, ?_, ?_, ?_⟩
 ·rw [hs.cellAt _ (by omega)]; exact flat_key hp
 ·rw [hs.cellAt _ (by omega)]; exact flat_list hp
 ·rw [hs.cellAt _ (by omega)]; exact flat_ahead hp
 ·rw [hs.cellAt _ (by omega)]; exact flat_behind hp
end

theorem Kp.drew' {O : Nat → Prop} {a w : World} (h : Kp O a w) : Kp O a w.drew := ⟨h.os, h.tape, h.output, h.size, h.block⟩
theorem Blk_drew {w : World} {g : Nat} {t : TypeId} {cs : Array Value} (h : Blk w g t cs) : Blk w.drew g t cs := h
section
variable {w : World} {m : Rm} {places : Nat} {lens : List Nat} {S : List Sl} {F : List Nat} {D : DataW Unit} {g cap : Nat}
theorem owned_blk {base : Nat} {e : TypeId} {size : Nat} {v : Value} {n : Nat} {xs : List Value} (h : w.ownsRow base e size v n xs) {b : Nat} (hb : v.ownBlock = some b) : ∃ cur, Blk w b e cur := by
 rcases h.2 with ⟨rfl, _⟩ | ⟨g, cap, cur, rfl, _, hh, _⟩
 ·cases hb
 ·cases hb; exact ⟨cur, hh⟩
theorem map_ne {H : Type} {P : Program} {k t : TypeId} {R : Value → Option (DataW H × List MemPlace)} {b n g : Nat} {D : DataW H} {cs : Array Value} (h : w.ownsMap P k R b n D) (hb : Blk w g t cs) : g ≠ b := by
 rintro rfl
 obtain ⟨es, clock, h1, _⟩ := h
 unfold Blk at hb
 rw [h1] at hb
 cases hb
structure Apart (m : Rm) (g : Nat) : Prop where
 gR : g ≠ m.R
 gL : g ≠ m.Lb
 gM : g ≠ m.Mb
 RL : m.R ≠ m.Lb
 RM : m.R ≠ m.Mb
 LM : m.Lb ≠ m.Mb
 v : ∀ q, m.vL.ownBlock = some q → q ≠ g ∧ q ≠ m.R ∧ q ≠ m.Mb ∧ q ≠ m.Lb
theorem RawAt.apart (h : RawAt w m places lens S F D) (hv : m.vS = .slice (some ⟨g, 0, none⟩) S.length cap) : Apart m g := by
 obtain ⟨cur, hg⟩ := owned_blk h.sl (b := g) (by rw [hv]; rfl)
 refine ⟨hg.ne_ h.hd (by decide), hg.ne_ h.ln (by decide), map_ne h.mp hg, h.hd.ne_ h.ln (by decide), map_ne h.mp h.hd, map_ne h.mp h.ln, fun q hq => ?_⟩
 obtain ⟨c2, hb⟩ := owned_blk h.lf hq
 exact ⟨hb.ne_ hg (by decide), hb.ne_ h.hd (by decide), map_ne h.mp hb, fun e => h.ne (by rw [hq, e])⟩
theorem far {b : Nat} {p : Addr} (hp : b ≠ p.block) (u : Value) : (w.setCell p u).heap[b]? = w.heap[b]? := Below.heap_setCell w p u b hp
theorem RawAt.setS (h : RawAt w m places lens S F D) (hv : m.vS = .slice (some ⟨g, 0, none⟩) S.length cap) (j : Nat) (u : Value) {S' : List Sl} (hl : S'.length = S.length) (hf : flat S' = (flat S).set j u) :
  RawAt (w.setCell ⟨g, j, none⟩ u) m places lens S' F D := by
 have ap := h.apart hv
 refine ⟨(far (fun e => ap.gR e.symm) u).trans h.hd, (far (fun e => ap.gL e.symm) u).trans h.ln, ?_, ownsMap_stay h.mp (far (fun e => ap.gM e.symm) u), ownsRow_stay h.lf (fun b hb => far (ap.v b hb).1 u), h.ne⟩
 have hs := h.sl
 rw [hv] at hs ⊢
 rw [hl, hf]
 exact (hs.stored j u).1
theorem RawAt.setAh (h : RawAt w m places lens S F D) (hv : m.vS = .slice (some ⟨g, 0, none⟩) S.length cap) {p : Nat} (hp : p < S.length) (v : Nat) : RawAt (w.setCell ⟨g, p * 4 + 2, none⟩ (.int .i64 v)) m places lens (ahSet S p v) F D := by
 rw [Nat.mul_comm p 4]
 exact h.setS hv _ _ (ahSet_len S p v) (flat_ah hp v)
theorem RawAt.setBe (h : RawAt w m places lens S F D) (hv : m.vS = .slice (some ⟨g, 0, none⟩) S.length cap) {p : Nat} (hp : p < S.length) (v : Nat) : RawAt (w.setCell ⟨g, p * 4 + 3, none⟩ (.int .i64 v)) m places lens (beSet S p v) F D := by
 rw [Nat.mul_comm p 4]
 exact h.setS hv _ _ (beSet_len S p v) (flat_be hp v)
def keySet (S : List Sl) (p : Nat) (k : Key) : List Sl := S.set p ⟨k, (gt S p).list, (gt S p).ahead, (gt S p).behind⟩
theorem keySet_len (S : List Sl) (p : Nat) (k : Key) : (keySet S p k).length = S.length := List.length_set
theorem flat_key_set {p : Nat} (hp : p < S.length) (k : Key) : flat (keySet S p k) = (flat S).set (4 * p) (.string (str k)) := by
 unfold keySet
 rw [flat_set S p _ hp]
 show ((((flat S).set (4 * p) (.string (str k))).set (4 * p + 1) (iv (gt S p).list)).set (4 * p + 2) (iv (gt S p).ahead)).set (4 * p + 3) (iv (gt S p).behind) = _
 have h1 : ((flat S).set (4 * p) (.string (str k)))[4 * p + 1]? = some (iv (gt S p).list) := by rw [List.getElem?_set, if_neg (by omega)]; exact flat_list hp
 have h2 : ((flat S).set (4 * p) (.string (str k)))[4 * p + 2]? = some (iv (gt S p).ahead) := by rw [List.getElem?_set, if_neg (by omega)]; exact flat_ahead hp
 have h3 : ((flat S).set (4 * p) (.string (str k)))[4 * p + 3]? = some (iv (gt S p).behind) := by rw [List.getElem?_set, if_neg (by omega)]; exact flat_behind hp
 rw [set_self h1, set_self h2, set_self h3]
theorem RawAt.setKey (h : RawAt w m places lens S F D) (hv : m.vS = .slice (some ⟨g, 0, none⟩) S.length cap) {p : Nat} (hp : p < S.length) (k : Key) : RawAt (w.setCell ⟨g, p * 4, none⟩ (.string (str k))) m places lens (keySet S p k) F D := by
 rw [Nat.mul_comm p 4]
 exact h.setS hv _ _ (keySet_len S p k) (flat_key_set hp k)
theorem intsV_set (l : List Nat) (j n : Nat) : (intsV l).toArray.setIfInBounds j (iv n) = (intsV (l.set j n)).toArray := by simp [intsV, List.map_set]
theorem RawAt.setLen (h : RawAt w m places lens S F D) (hv : m.vS = .slice (some ⟨g, 0, none⟩) S.length cap) (j n : Nat) : RawAt (w.setCell ⟨m.Lb, j, none⟩ (.int .i64 n)) m places (lens.set j n) S F D := by
 have ap := h.apart hv
 refine ⟨?_, ?_, ownsRow_stay h.sl (fun b hb => far (by rw [hv] at hb; cases hb; exact ap.gL) _), ownsMap_stay h.mp (far (fun e => ap.LM e.symm) _), ownsRow_stay h.lf (fun b hb => far (ap.v b hb).2.2.2 _), h.ne⟩
 ·rw [List.length_set]; exact (far ap.RL _).trans h.hd
 ·have := h.ln.put j (iv n)
  rw [intsV_set] at this
  exact this
theorem RawAt.setAll (h : RawAt w m places lens S F D) (hv : m.vS = .slice (some ⟨g, 0, none⟩) S.length cap) {p : Nat} (hp : p < S.length) (v : Sl) :
  RawAt ((((w.setCell ⟨g, p * 4, none⟩ (.string (str v.key))).setCell ⟨g, p * 4 + 1, none⟩ (.int .i64 v.list)).setCell ⟨g, p * 4 + 2, none⟩ (.int .i64 v.ahead)).setCell ⟨g, p * 4 + 3, none⟩ (.int .i64 v.behind)) m places lens (S.set p v) F D := by
 rw [Nat.mul_comm p 4]
 have ap := h.apart hv
 have hs := h.sl
 rw [hv] at hs
 have h1 := ((((hs.stored (4 * p) (.string (str v.key))).1.stored (4 * p + 1) (iv v.list)).1.stored (4 * p + 2) (iv v.ahead)).1.stored (4 * p + 3) (iv v.behind)).1
 rw [← flat_set S p v hp] at h1
 have hf : ∀ b, b ≠ g → ((((w.setCell ⟨g, 4 * p, none⟩ (.string (str v.key))).setCell ⟨g, 4 * p + 1, none⟩ (iv v.list)).setCell ⟨g, 4 * p + 2, none⟩ (iv v.ahead)).setCell ⟨g, 4 * p + 3, none⟩ (iv v.behind)).heap[b]? = w.heap[b]? := fun b hb =>
  (far hb _).trans ((far hb _).trans ((far hb _).trans (far hb _)))
 refine ⟨(hf _ (fun e => ap.gR e.symm)).trans h.hd, (hf _ (fun e => ap.gL e.symm)).trans h.ln, ?_, ownsMap_stay h.mp (hf _ (fun e => ap.gM e.symm)), ownsRow_stay h.lf (fun b hb => hf b (ap.v b hb).1), h.ne⟩
 rw [hv, List.length_set]
 exact h1
theorem RawAt.freeS (h : RawAt w m places lens S F D) (hv : m.vS = .slice (some ⟨g, 0, none⟩) S.length cap) (j : Nat) : w.frozen? ⟨g, j, none⟩ = false := by
 have hs := h.sl
 rw [hv] at hs
 exact hs.frozenAt j
theorem own_R' : m.own m.R := .inl rfl
theorem slot_info : (Tryz.prog.info? 236).map (fun i => (i.zero, i.size, i.bytes)) = some (some (.agg #[.string ⟨#[]⟩, .int .i64 0, .int .i64 0, .int .i64 0]), 4, 40) := by kernel_rfl
theorem int_info : (Tryz.prog.info? 3).map (fun i => (i.zero, i.size, i.bytes)) = some (some (.int .i64 0), 1, 8) := by kernel_rfl
theorem grown_kp {w0 w1 : World} {O : Nat → Prop} {v : Value} (hg : w0.grownBy w1 v.ownBlock) (hO : ∀ b, v.ownBlock = some b → O b) : Kp O w0 w1 :=
 ⟨hg.os, hg.tape, hg.output, hg.size, fun k hk hn => hg.block k hk (fun e => hn (hO k e.symm))⟩
theorem RawAt.moreS (h : RawAt w m places lens S F D) {o : Obj} {w1 : World} {g' cap' : Nat} {s : Sl} (hgr : (w.alloc o).grownBy w1 m.vS.ownBlock)
  (hown : w1.ownsRow 0 236 4 (.slice (some ⟨g', 0, none⟩) (S.length + 1) cap') (S.length + 1) (flat S ++ slc s)) (hat : m.vS.ownBlock = some g' ∨ g' = w.heap.size + 1) :
  RawAt (w1.setCell ⟨m.R, 2, none⟩ (.slice (some ⟨g', 0, none⟩) (S.length + 1) cap')) { m with vS := .slice (some ⟨g', 0, none⟩) (S.length + 1) cap' } places lens (S ++ [s]) F D ∧
  Kp m.own w (w1.setCell ⟨m.R, 2, none⟩ (.slice (some ⟨g', 0, none⟩) (S.length + 1) cap')) ∧
  ∀ b, Rm.own { m with vS := .slice (some ⟨g', 0, none⟩) (S.length + 1) cap' } b → m.own b ∨ w.heap.size ≤ b := by
 have hsz : (w.alloc o).heap.size = w.heap.size + 1 := by simp
 have far1 : ∀ b, b < w.heap.size → m.vS.ownBlock ≠ some b → w1.heap[b]? = w.heap[b]? := fun b hb hne => (hgr.block b (by omega) (fun e => hne e.symm)).trans (Below.heap_alloc w o b hb)
 have hR : m.vS.ownBlock ≠ some m.R := fun e => by obtain ⟨c, hb⟩ := owned_blk h.sl e; exact hb.ne_ h.hd (by decide) rfl
 have hL : m.vS.ownBlock ≠ some m.Lb := fun e => by obtain ⟨c, hb⟩ := owned_blk h.sl e; exact hb.ne_ h.ln (by decide) rfl
 have hM : m.vS.ownBlock ≠ some m.Mb := fun e => by obtain ⟨c, hb⟩ := owned_blk h.sl e; exact map_ne h.mp hb rfl
 have hV : ∀ q, m.vL.ownBlock = some q → m.vS.ownBlock ≠ some q := fun q hq e => by obtain ⟨c, hb⟩ := owned_blk h.sl e; obtain ⟨c2, hb2⟩ := owned_blk h.lf hq; exact hb.ne_ hb2 (by decide) rfl
 have hRL : m.Lb ≠ m.R := fun e => h.hd.ne_ h.ln (by decide) e.symm
 have hRM : m.Mb ≠ m.R := fun e => map_ne h.mp h.hd e.symm
 have hRV : ∀ q, m.vL.ownBlock = some q → q ≠ m.R := fun q hq => by obtain ⟨c2, hb2⟩ := owned_blk h.lf hq; exact hb2.ne_ h.hd (by decide)
 have b1 : Blk w1 m.R 234 #[iv places, .slice (some ⟨m.Lb, 0, none⟩) lens.length lens.length, m.vS, .map (some m.Mb), m.vL] := (far1 _ h.hd.lt hR).trans h.hd
 have hgR : g' ≠ m.R := by
  obtain ⟨c, hb⟩ := owned_blk hown (b := g') rfl
  exact hb.ne_ b1 (by decide)
 refine ⟨⟨b1.put 2 _, (far hRL _).trans ((far1 _ h.ln.lt hL).trans h.ln), ?_, ownsMap_stay h.mp ((far hRM _).trans (far1 _ h.mp.lt hM)), ownsRow_stay h.lf (fun b hb => (far (hRV b hb) _).trans (far1 b (h.lf.lt b hb).2 (hV b hb))), h.ne⟩, ?_, ?_⟩
 ·have e1 : (S ++ [s]).length = S.length + 1 := by simp
  rw [e1, flat_snoc]
  exact ownsRow_stay hown (fun b hb => by cases hb; exact far hgR _)
 ·exact ((Kp.refl m.own w).alloc o).trans ((grown_kp hgr (fun b hb => .inr (.inr (.inr (.inl hb))))).set (p := ⟨m.R, 2, none⟩) own_R' _)
 ·rintro b (hb | hb | hb | hb | hb)
  ·exact .inl (.inl hb)
  ·exact .inl (.inr (.inl hb))
  ·exact .inl (.inr (.inr (.inl hb)))
  ·have hb : some g' = some b := hb
   cases hb
   rcases hat with e | e
   ·exact .inl (.inr (.inr (.inr (.inl e))))
   ·exact .inr (by omega)
  ·exact .inl (.inr (.inr (.inr (.inr hb))))
theorem RawAt.moreL (h : RawAt w m places lens S F D) {o : Obj} {w1 : World} {g' cap' : Nat} {p : Nat} (hgr : (w.alloc o).grownBy w1 m.vL.ownBlock)
  (hown : w1.ownsRow 0 3 1 (.slice (some ⟨g', 0, none⟩) (F.length + 1) cap') (F.length + 1) (intsV F ++ [iv p])) (hat : m.vL.ownBlock = some g' ∨ g' = w.heap.size + 1) :
  RawAt (w1.setCell ⟨m.R, 4, none⟩ (.slice (some ⟨g', 0, none⟩) (F.length + 1) cap')) { m with vL := .slice (some ⟨g', 0, none⟩) (F.length + 1) cap' } places lens S (F ++ [p]) D ∧
  Kp m.own w (w1.setCell ⟨m.R, 4, none⟩ (.slice (some ⟨g', 0, none⟩) (F.length + 1) cap')) ∧
  ∀ b, Rm.own { m with vL := .slice (some ⟨g', 0, none⟩) (F.length + 1) cap' } b → m.own b ∨ w.heap.size ≤ b := by
 have hsz : (w.alloc o).heap.size = w.heap.size + 1 := by simp
 have far1 : ∀ b, b < w.heap.size → m.vL.ownBlock ≠ some b → w1.heap[b]? = w.heap[b]? := fun b hb hne => (hgr.block b (by omega) (fun e => hne e.symm)).trans (Below.heap_alloc w o b hb)
 have hR : m.vL.ownBlock ≠ some m.R := fun e => by obtain ⟨c, hb⟩ := owned_blk h.lf e; exact hb.ne_ h.hd (by decide) rfl
 have hM : m.vL.ownBlock ≠ some m.Mb := fun e => by obtain ⟨c, hb⟩ := owned_blk h.lf e; exact map_ne h.mp hb rfl
 have hV : ∀ q, m.vS.ownBlock = some q → m.vL.ownBlock ≠ some q := fun q hq e => by obtain ⟨c, hb⟩ := owned_blk h.lf e; obtain ⟨c2, hb2⟩ := owned_blk h.sl hq; exact hb.ne_ hb2 (by decide) rfl
 have hRL : m.Lb ≠ m.R := fun e => h.hd.ne_ h.ln (by decide) e.symm
 have hRM : m.Mb ≠ m.R := fun e => map_ne h.mp h.hd e.symm
 have hRV : ∀ q, m.vS.ownBlock = some q → q ≠ m.R := fun q hq => by obtain ⟨c2, hb2⟩ := owned_blk h.sl hq; exact hb2.ne_ h.hd (by decide)
 have b1 : Blk w1 m.R 234 #[iv places, .slice (some ⟨m.Lb, 0, none⟩) lens.length lens.length, m.vS, .map (some m.Mb), m.vL] := (far1 _ h.hd.lt hR).trans h.hd
 have hgR : g' ≠ m.R := by
  obtain ⟨c, hb⟩ := owned_blk hown (b := g') rfl
  exact hb.ne_ b1 (by decide)
 have hgL : some g' ≠ some m.Lb := by
  rcases hat with e | e
  ·rw [← e]; exact h.ne
  ·have := h.ln.lt; intro e2; cases e2; omega
 refine ⟨⟨b1.put 4 _, (far hRL _).trans ((far1 _ h.ln.lt h.ne).trans h.ln), ownsRow_stay h.sl (fun b hb => (far (hRV b hb) _).trans (far1 b (h.sl.lt b hb).2 (hV b hb))), ownsMap_stay h.mp ((far hRM _).trans (far1 _ h.mp.lt hM)), ?_, hgL⟩, ?_, ?_⟩
 ·have e1 : (F ++ [p]).length = F.length + 1 := by simp
  have e2 : intsV (F ++ [p]) = intsV F ++ [iv p] := by simp [intsV]
  rw [e1, e2]
  exact ownsRow_stay hown (fun b hb => by cases hb; exact far hgR _)
 ·exact ((Kp.refl m.own w).alloc o).trans ((grown_kp hgr (fun b hb => .inr (.inr (.inr (.inr hb))))).set (p := ⟨m.R, 4, none⟩) own_R' _)
 ·rintro b (hb | hb | hb | hb | hb)
  ·exact .inl (.inl hb)
  ·exact .inl (.inr (.inl hb))
  ·exact .inl (.inr (.inr (.inl hb)))
  ·exact .inl (.inr (.inr (.inr (.inl hb))))
  ·have hb : some g' = some b := hb
   cases hb
   rcases hat with e | e
   ·exact .inl (.inr (.inr (.inr (.inr e))))
   ·exact .inr (by omega)
theorem RawAt.lessL {p : Nat} (h : RawAt w m places lens S (F ++ [p]) D) {q c : Nat} (hv : m.vL = .slice (some ⟨q, 0, none⟩) (F.length + 1) c) :
  RawAt (w.setCell ⟨m.R, 4, none⟩ (.slice (some ⟨q, 0, none⟩) F.length c)) { m with vL := .slice (some ⟨q, 0, none⟩) F.length c } places lens S F D ∧
  Kp m.own w (w.setCell ⟨m.R, 4, none⟩ (.slice (some ⟨q, 0, none⟩) F.length c)) ∧
  ∀ b, Rm.own { m with vL := .slice (some ⟨q, 0, none⟩) F.length c } b → m.own b ∨ w.heap.size ≤ b := by
 have hq : m.vL.ownBlock = some q := by rw [hv]; rfl
 have hRL : m.Lb ≠ m.R := fun e => h.hd.ne_ h.ln (by decide) e.symm
 have hRM : m.Mb ≠ m.R := fun e => map_ne h.mp h.hd e.symm
 have hRV : ∀ q, m.vS.ownBlock = some q → q ≠ m.R := fun q hq => by obtain ⟨c2, hb2⟩ := owned_blk h.sl hq; exact hb2.ne_ h.hd (by decide)
 have hqR : q ≠ m.R := by obtain ⟨c2, hb2⟩ := owned_blk h.lf hq; exact hb2.ne_ h.hd (by decide)
 refine ⟨⟨h.hd.put 4 _, (far hRL _).trans h.ln, ownsRow_stay h.sl (fun b hb => far (hRV b hb) _), ownsMap_stay h.mp (far hRM _), ?_, by show some q ≠ some m.Lb; rw [← hq]; exact h.ne⟩, (Kp.refl m.own w).set (p := ⟨m.R, 4, none⟩) own_R' _, ?_⟩
 ·have hl := h.lf
  rw [hv] at hl
  have e2 : intsV (F ++ [p]) = intsV F ++ [iv p] := by simp [intsV]
  rw [show (F ++ [p]).length = F.length + 1 from by simp, e2] at hl
  exact ownsRow_stay (ownsRow_pop (by simp [intsV]) hl) (fun b hb => by cases hb; exact far hqR _)
 ·rintro b (hb | hb | hb | hb | hb)
  ·exact .inl (.inl hb)
  ·exact .inl (.inr (.inl hb))
  ·exact .inl (.inr (.inr (.inl hb)))
  ·exact .inl (.inr (.inr (.inr (.inl hb))))
  ·cases hb; exact .inl (.inr (.inr (.inr (.inr hq))))
theorem own_g (hv : m.vS = .slice (some ⟨g, 0, none⟩) S.length cap) : m.own g := .inr (.inr (.inr (.inl (by rw [hv]; rfl))))
theorem own_L : m.own m.Lb := .inr (.inl rfl)
theorem own_R : m.own m.R := .inl rfl
end

theorem key_law : Maps.Keyed Tryz.prog 9 := Maps.string_keyed Tryz.underlying9
theorem zeroI (w : World) : (zeroValue 3).run Tryz.prog w = .ok (.int .i64 0) w := by kernel_rfl
def kl (l : List UInt8) : Lit := .string l
theorem key_of {l : List UInt8} (hl : l.length ≤ maxLen) : keyOf Tryz.prog 9 (.string (str l)) = some (kl l) := Go.WideMaps.keyOf_string_mk Tryz.underlying9 (by rw [str_size]; exact hl)

section
variable {m : Rm} {places : Nat} {lens : List Nat} {S : List Sl} {F : List Nat} {D : DataW Unit}
set_option maxHeartbeats 1000000 in
theorem lists_c (w : World) (h : RawAt w m places lens S F D) :
  Calls Tryz.prog 130 #[.pointer (some ⟨m.R, 0, none⟩)] w fun e w' => e = .returned (.int .i64 lens.length) ∧ w' = w := by
 obtain ⟨c0, c1, c2, c3, c4⟩ := h.cells
 go_enter Tryz.func130, Tryz.ntmps130
 go_wp2_with fail
 go_ret
 exact ⟨rfl, rfl⟩
set_option maxHeartbeats 1000000 in
theorem has_c (a : Int) (w : World) (h : RawAt w m places lens S F D) :
  Calls Tryz.prog 172 #[.pointer (some ⟨m.R, 0, none⟩), .int .i64 a] w fun e w' => e = .returned (.bool (decide (0 ≤ a) && decide (a < (lens.length : Int)))) ∧ w' = w := by
 by_cases h0 : 0 ≤ a
 ·go_enter Tryz.func172, Tryz.ntmps172
  go_wp2_with fail
  refine (lists_c w h).mono ?_
  rintro e w' ⟨rfl, rfl⟩
  go_wp2_with fail
  go_ret
  refine ⟨?_, rfl⟩
  simp [h0]
 ·go_enter Tryz.func172, Tryz.ntmps172
  go_wp2_with fail
  go_ret
  refine ⟨?_, rfl⟩
  simp
  omega
set_option maxHeartbeats 1000000 in
theorem len_c {j n : Nat} (hj : lens[j]? = some n) (w : World) (h : RawAt w m places lens S F D) :
  Calls Tryz.prog 140 #[.pointer (some ⟨m.R, 0, none⟩), .int .i64 j] w fun e w' => e = .returned (.int .i64 n) ∧ w' = w := by
 obtain ⟨c0, c1, c2, c3, c4⟩ := h.cells
 have hc := h.lenAt hj
 have hlt : j < lens.length := by
  rcases Nat.lt_or_ge j lens.length with h1 | h1
  ·exact h1
  ·rw [List.getElem?_eq_none h1] at hj; cases hj
 have hb : (decide (0 ≤ (j : Int)) && decide ((j : Int) < (lens.length : Int))) = true := by simp; omega
 have hh := has_c (j : Int) w h
 rw [hb] at hh
 clear hb
 go_enter Tryz.func140, Tryz.ntmps140
 go_wp2_with fail
 refine hh.mono ?_
 rintro e w' ⟨rfl, rfl⟩
 go_wp2_with fail
 go_ret
 exact ⟨rfl, rfl⟩
end
end Go.Proofs.YtkiabladmgagdabGreatDoor.Ringy
