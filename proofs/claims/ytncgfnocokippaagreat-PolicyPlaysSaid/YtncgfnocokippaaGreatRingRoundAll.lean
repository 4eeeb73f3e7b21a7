/- The document's own lists with a key at a front. The only condition: it is no longer than a text may be. The document's own lists with a key at a front, where there is a place. No condition. Chapter 6's bytes of lists: numbers, and of each list how many keys and the keys. It speaks of no program. The document's own bytes of lists. The only condition: they are few, and short. A region that draws its order, inside a round of a range over a function: whatever is shown of it by the laws for regions outside a round holds there, if it defers nothing. No condition. -/
import Derived.Test.YtncgfnocokippaaGreatRingRefDrop
import Derived.Deep.RegionHeld3
import Derived.Test.YtncgfnocokippaaGreatWireEncAll
import Derived.Test.YtncgfnocokippaaGreatRingRefAll
import Derived.Test.YtncgfnocokippaaGreatSq
namespace Go.Proofs.YtncgfnocokippaaGreat.Ringy
open Go.ChangeShapes Go.WideShapes Go.ChangeAt Go.RowKit
open Wirey (Blk Row str str_size str_list Kp)
open Go.ChangeMaps Go.Maps

section
variable {O : Nat → Prop} {G : Nat} {vs : Nat → Value} {r : Rg}
structure Asks (w : World) (O : Nat → Prop) (G : Nat) (vs : Nat → Value) (r : Rg) (x : World) : Prop where
 ref : RefAt x O G vs r
 box : Blk x w.heap.size 30 #[.slice (some ⟨G, 0, none⟩) r.n r.n, .int .i64 r.places]
 res : Blk x (w.heap.size + 1) 30 #[.slice none 0 0, .int .i64 0]
 below : Below w.heap.size w x
theorem Asks.later {w x y : World} (h : Asks w O G vs r x) (hb : Below x.heap.size x y) : Asks w O G vs r y :=
 ⟨h.ref.below hb (Nat.le_refl _), h.box.below hb h.box.lt, h.res.below hb h.res.lt, h.below.trans (hb.mono h.below.size)⟩
theorem Asks.drewN {w x : World} (h : Asks w O G vs r x) (n : Nat) : Asks w O G vs r (x.drewN n) := ⟨h.ref.drewN n, h.box, h.res, ⟨h.below.os, h.below.tape, h.below.output, h.below.size, h.below.block⟩⟩
theorem asksP {w x y : World} {u0 u1 : Value} (hS : x.cell? ⟨w.heap.size, 0, none⟩ = some u0 ∧ x.cell? ⟨w.heap.size, 1, none⟩ = some u1 ∧ Asks w O G vs r x) (hb : Below x.heap.size x y) :
  y.cell? ⟨w.heap.size, 0, none⟩ = some u0 ∧ y.cell? ⟨w.heap.size, 1, none⟩ = some u1 ∧ Asks w O G vs r y :=
 ⟨(World.cell?_of_block (a := ⟨w.heap.size, 0, none⟩) (hb.block _ hS.2.2.box.lt)).trans hS.1, (World.cell?_of_block (a := ⟨w.heap.size, 1, none⟩) (hb.block _ hS.2.2.box.lt)).trans hS.2.1, hS.2.2.later hb⟩
theorem asksPd {w x : World} {u0 u1 : Value} (hS : x.cell? ⟨w.heap.size, 0, none⟩ = some u0 ∧ x.cell? ⟨w.heap.size, 1, none⟩ = some u1 ∧ Asks w O G vs r x) :
  x.drew.cell? ⟨w.heap.size, 0, none⟩ = some u0 ∧ x.drew.cell? ⟨w.heap.size, 1, none⟩ = some u1 ∧ Asks w O G vs r x.drew := ⟨hS.1, hS.2.1, hS.2.2.drewN 1⟩
theorem asksPn {w x : World} {u0 u1 : Value} (m : Nat) (hS : x.cell? ⟨w.heap.size, 0, none⟩ = some u0 ∧ x.cell? ⟨w.heap.size, 1, none⟩ = some u1 ∧ Asks w O G vs r x) :
  (x.drewN m).cell? ⟨w.heap.size, 0, none⟩ = some u0 ∧ (x.drewN m).cell? ⟨w.heap.size, 1, none⟩ = some u1 ∧ Asks w O G vs r (x.drewN m) := ⟨hS.1, hS.2.1, hS.2.2.drewN m⟩
theorem asksR {w x : World} {u0 u1 : Value} (hS : x.cell? ⟨w.heap.size, 0, none⟩ = some u0 ∧ x.cell? ⟨w.heap.size, 1, none⟩ = some u1 ∧ Asks w O G vs r x) : RefAt x O G vs r := hS.2.2.ref
theorem asksA {w x : World} {u0 u1 : Value} (hS : x.cell? ⟨w.heap.size, 0, none⟩ = some u0 ∧ x.cell? ⟨w.heap.size, 1, none⟩ = some u1 ∧ Asks w O G vs r x) : Asks w O G vs r x := hS.2.2
def putR (w x : World) (G n p : Nat) : World := (x.setCell ⟨w.heap.size + 1, 0, none⟩ (.slice (some ⟨G, 0, none⟩) n n)).setCell ⟨w.heap.size + 1, 1, none⟩ (.int .i64 p)
end
end Go.Proofs.YtncgfnocokippaaGreat.Ringy
namespace Go.Proofs.YtncgfnocokippaaGreat.Ringy
open Go.ChangeShapes Go.WideShapes Go.ChangeAt Go.RowKit
open Wirey (Blk Row str str_size str_list Kp)
open Go.ChangeMaps Go.Maps

theorem step_append_any {P : Program} (w : World) {ops : Array Oper} {o : Oper} {a : Act} {K : Act → World → Prop} {Q : Exit → Act → World → Prop} {E : Prop} (hgd : o.guard = none) (s x : Operand) (t : TypeId)
  (ho : o.op = .call { callee := .builtin .append, args := #[s, x], argTypes := #[t, t] })
  (base : Nat) (e : TypeId) (i : TypeInfo) (z : Value) (size bytes : Nat) (ht : P.underlying t = some (.slice e)) (hi : P.info? e = some i) (hz : i.zero = some z)
  (hsize : i.size = size) (hby : i.bytes = bytes) (hzs : z.cells.size = size) (hsz : 0 < size)
  (v : Value) (n : Nat) (xs : List Value) (hs : a.eval s = v) (hown : w.ownsRow base e size v n xs)
  (ad : Addr) (m c : Nat) (news : List Value) (hx : a.eval x = .slice (some ad) m c) (hl : news.length = m * size) (hnews : ∀ j u, news[j]? = some u → w.cell? (ad.add j) = some u) (h1 : ∀ u ∈ news, u.oneCell' = true)
  (hm : 0 < n + m) (h63 : n + m ≤ maxLen) (hbytes : (n + m) * bytes ≤ 140737488355328) (hbase : base ≤ w.heap.size)
  (h : ∀ g cap w', w'.ownsRow base e size (.slice (some ⟨g, 0, none⟩) (n + m) cap) (n + m) (xs ++ news) → w.grownBy w' v.ownBlock → (v.ownBlock = some g ∨ g = w.heap.size) → K (a.put o.dst (.slice (some ⟨g, 0, none⟩) (n + m) cap)) w') :
  if Region.wanted o (yielded ops a.tmps) = true then Oper.wp P o a w K Q else E := by
 have hw : Region.wanted o (yielded ops a.tmps) = true := by simp [Region.wanted, hgd]
 rw [if_pos hw]
 obtain ⟨v', w', hr, h2, h3, _, h5⟩ := run_append_own_at (P := P) w base t o.type e i z size bytes ht hi hz hsize hby hzs hsz v n xs hown ad m c news hl hnews h1 h63 hbytes hbase
 obtain ⟨g, cap, rfl, _, _⟩ := h2.form hm
 unfold Oper.wp execOp
 simp only [ho, resolve, invoke, builtin, Sem.run_bind, Sem.run_pure, Result.andThen_ok, List.map_toArray, List.map_cons, List.map_nil, hs, hx, hr]
 refine h g cap w' h2 h3 ?_
 rcases h5 with h5 | h5
 ·exact .inl (by rw [← h5]; rfl)
 ·right
  simpa [Value.ownBlock] using h5
theorem strsV_one (l : List Key) : ∀ u ∈ strsV l, u.oneCell' = true := by
 intro u hu
 obtain ⟨k, _, rfl⟩ := List.mem_map.1 hu
 rfl
section
variable {O : Nat → Prop} {G : Nat} {vs : Nat → Value} {r : Rg}
theorem push_end {w w6 w7 : World} {G' OB j gg cp : Nat} {vs' : Nat → Value} {k : Key} (hA : Asks w O G vs r w6) (hR : RefAt w6 (fun b => b < w.heap.size) G' vs' (r.drop k)) (hO : Blk w6 OB 30 #[.slice (some ⟨G', 0, none⟩) r.n r.n, .int .i64 r.places])
  (hlo : w.heap.size + 1 < G') (hj : j < r.n) {o : Obj} (hgrow : (w6.alloc o).drew.grownBy w7 (Value.slice (some ⟨w6.heap.size, 0, none⟩) 1 1).ownBlock)
  (hown : w7.ownsRow w6.heap.size 9 1 (.slice (some ⟨gg, 0, none⟩) (1 + (strike k (r.l j)).length) cp) (1 + (strike k (r.l j)).length) ([.string (str k)] ++ strsV (strike k (r.l j)))) :
  let w8 := w7.setCell ⟨G', j, none⟩ (.slice (some ⟨gg, 0, none⟩) (1 + (strike k (r.l j)).length) cp)
  let w9 := putR w w8 G' r.n r.places
  Blk w8 OB 30 #[.slice (some ⟨G', 0, none⟩) r.n r.n, .int .i64 r.places] ∧ Blk w8 (w.heap.size + 1) 30 #[.slice none 0 0, .int .i64 0] ∧
  Blk w9 (w.heap.size + 1) 30 #[.slice (some ⟨G', 0, none⟩) r.n r.n, .int .i64 r.places] ∧
  RefAt w9 (fun b => b < w.heap.size) G' (updV vs' j (.slice (some ⟨gg, 0, none⟩) (1 + (strike k (r.l j)).length) cp)) ((r.drop k).push j k) ∧ Below w.heap.size w w9 := by
 intro w8 w9
 have hb67 : Below w6.heap.size w6 w7 := ((Below.refl _ w6).alloc (Nat.le_refl _) o).trans ⟨hgrow.os, hgrow.tape, hgrow.output, hgrow.size, fun b hb => hgrow.block b (by simp; omega) (fun e => by have e : some b = some w6.heap.size := e; cases e; omega)⟩
 have hR7 := hR.below hb67 (Nat.le_refl _)
 have hA7 := hA.later hb67
 have hGO : G' ≠ OB := hR.blk.ne_ hO (by decide)
 have hO8 : Blk w8 OB 30 #[.slice (some ⟨G', 0, none⟩) r.n r.n, .int .i64 r.places] := (hO.below hb67 hO.lt).far (p := ⟨G', j, none⟩) (fun e => hGO e.symm) _
 have hY8 : Blk w8 (w.heap.size + 1) 30 #[.slice none 0 0, .int .i64 0] := hA7.res.far (p := ⟨G', j, none⟩) (by show w.heap.size + 1 ≠ G'; omega) _
 have hw6 := hA.below.size
 have hR8 : RefAt w8 (fun b => b < w.heap.size) G' (updV vs' j (.slice (some ⟨gg, 0, none⟩) (1 + (strike k (r.l j)).length) cp)) ((r.drop k).push j k) := hR7.set (l := k :: strike k (r.l j)) hj (by
     have h := own_low hown
     rw [Nat.add_comm 1 (strike k (r.l j)).length] at h ⊢
     exact h) (fun g hg => by have := (hown.lt g hg).1; show ¬ g < w.heap.size; omega) rfl (fun i hi => by
       show (if i = j then k :: strike k (r.l i) else strike k (r.l i)) = if i = j then k :: strike k (r.l j) else strike k (r.l i)
       by_cases e : i = j
       · rw [if_pos e, if_pos e, e]
       · rw [if_neg e, if_neg e])
 have hB8 : Below w.heap.size w w8 := hA7.below.setCell (p := ⟨G', j, none⟩) (by show w.heap.size ≤ G'; omega) _
 have hk9 : Kp (fun b => b = w.heap.size + 1) w8 w9 := ((Kp.refl (fun b => b = w.heap.size + 1) w8).set (p := ⟨w.heap.size + 1, 0, none⟩) rfl _).set (p := ⟨w.heap.size + 1, 1, none⟩) rfl _
 refine ⟨hO8, hY8, (hY8.put 0 (.slice (some ⟨G', 0, none⟩) r.n r.n)).put 1 (.int .i64 r.places), ⟨hk9.blk hR8.blk (by omega), fun i hi => ownsRow_stay (hR8.row i hi) fun b hb => hk9.block b ((hR8.row i hi).lt b hb).2 (fun e => ?_), hR8.noG, hR8.noR⟩, (hB8.setCell (p := ⟨w.heap.size + 1, 0, none⟩) (Nat.le_succ _) _).setCell (p := ⟨w.heap.size + 1, 1, none⟩) (Nat.le_succ _) _⟩
 obtain ⟨cc, hc⟩ := owned_blk (hR8.row i hi) hb
 exact hc.ne_ hY8 (by decide) e
set_option maxHeartbeats 4000000 in
set_option maxRecDepth 100000 in
theorem rfront_yes {j : Nat} {k : Key} (hk : k.length ≤ maxLen) (hn : r.n ≤ 100) (hlen : ∀ i, (r.l i).length < 100000) (w : World) (h : RefAt w O G vs r) (hj : j < r.n) (hok : r.ok (j : Int) k = true) :
  Calls Tryz.prog 103 #[refV G r, .int .i64 j, .string (str k)] w fun e w' => ∃ G' vs', e = .returned (.tuple #[refV G' (r.fr (j : Int) k), .bool true]) ∧ RefAt w' (fun b => b < w.heap.size) G' vs' (r.fr (j : Int) k) ∧ Below w.heap.size w w' := by
 have hsz := str_size k
 unfold maxLen at hk
 obtain ⟨i0, hi0, hz0, hz1, hz2⟩ := info_parts str_info
 have hX := Blk.new w 30 #[.slice (some ⟨G, 0, none⟩) r.n r.n, .int .i64 r.places]
 have hs1 : (w.alloc (.cells #[.slice (some ⟨G, 0, none⟩) r.n r.n, .int .i64 r.places] 30)).heap.size = w.heap.size + 1 := by simp
 have hY := Blk.new (w.alloc (.cells #[.slice (some ⟨G, 0, none⟩) r.n r.n, .int .i64 r.places] 30)) 30 #[.slice none 0 0, .int .i64 0]
 rw [hs1] at hY
 have hX2 := hX.alloc (.cells #[.slice none 0 0, .int .i64 0] 30)
 have h2 := (h.alloc (.cells #[.slice (some ⟨G, 0, none⟩) r.n r.n, .int .i64 r.places] 30)).alloc (.cells #[.slice none 0 0, .int .i64 0] 30)
 have hb2 := ((Below.refl _ w).alloc (Nat.le_refl _) (.cells #[.slice (some ⟨G, 0, none⟩) r.n r.n, .int .i64 r.places] 30)).alloc (by omega) (.cells #[.slice none 0 0, .int .i64 0] 30)
 have hin := rin_c (O := O) (G := G) (vs := vs) k hn (fun i _ => hlen i) _ h2
 have hfr := Rg.fr_ok hok
 rw [Int.toNat_natCast] at hfr
 rw [hfr]
 clear hfr
 obtain ⟨-, -, h64, hcan⟩ := Rg.ok_in hok
 unfold refV at hin ⊢
 go_enter Tryz.func103, Tryz.ntmps103
 go_upto_region 1 with (fail)
 generalize (w.alloc (.cells #[.slice (some ⟨G, 0, none⟩) r.n r.n, .int .i64 r.places] 30)).alloc (.cells #[.slice none 0 0, .int .i64 0] 30) = w2 at *
 have HA2 := Lib.hid (Asks.mk h2 hX2 hY hb2 : Asks w O G vs r w2)
 clear hX hs1 h
 have x0 := hX2.cell 0
 have x1 := hX2.cell 1
 simp only [gA, gB, gC] at x0 x1
 clear hX2 hY h2 hb2
 go_upto_region 2 with (first | (go_at_call 65; refine hin.mono ?_; rintro e w3 ⟨rfl, hb3⟩))
 have hA := HA2.out.later hb3
 clear HA2 hin x0 x1 hb3
 have hcases : r.hasB k = true ∨ (r.hasB k = false ∧ r.many < r.places) := by
  rcases Bool.eq_false_or_eq_true (r.hasB k) with e | e
  ·exact .inl e
  ·exact .inr ⟨e, hcan.resolve_left (fun h => by rw [Rg.hasB_iff.2 h] at e; cases e)⟩
 clear hok hcan
 have hj1 : ¬ (r.n : Int) ≤ (j : Int) := by omega
 have hj0 : ¬ (j : Int) < 0 := by omega
 have hj0' : decide ((j : Int) < 0) = false := decide_eq_false hj0
 have hj2 : decide ((r.n : Int) ≤ (j : Int)) = false := decide_eq_false hj1
 have h64' : ¬ (64 : Int) < (k.length : Int) := by omega
 have x0 := hA.box.cell 0
 have x1 := hA.box.cell 1
 simp only [gA, gB, gC] at x0 x1
 have hdrop : ∀ v, RefAt v O G vs r → Calls Tryz.prog 84 #[.agg #[.slice (some ⟨G, 0, none⟩) r.n r.n, .int .i64 r.places], .string (str k)] v fun e w' => ∃ G' vs', e = .returned (.agg #[.slice (some ⟨G', 0, none⟩) r.n r.n, .int .i64 r.places]) ∧ RefAt w' (fun b => b < v.heap.size) G' vs' (r.drop k) ∧ Below v.heap.size v w' ∧ ∀ i, i < r.n → ∃ g c, vs' i = .slice (some ⟨g, 0, none⟩) (strike k (r.l i)).length c := fun v hv => rdrop_c k hn (fun i _ => hlen i) v hv
 rcases hcases with h5 | ⟨h5, h6⟩
 ·rw [h5]
  go_region
  have hAd : Asks w O G vs r w3.drew := hA.drewN 1
  go_wp2_with fail
  refine (hdrop _ hAd.ref).mono ?_
  rintro e w5 ⟨G', vs', rfl, hR5, hb5, hnn⟩
  have hA5 := hAd.later hb5
  have hlo : w.heap.size + 1 < G' := by
   have h1 := hR5.noG
   have h2 := hAd.res.lt
   omega
  have hR6 := (hR5.less (O' := fun b => b < w.heap.size) (fun b hb => by have := hAd.below.size; show b < _; omega)).alloc (.cells #[.slice (some ⟨G', 0, none⟩) r.n r.n, .int .i64 r.places] 30)
  have hO6 := Blk.new w5 30 #[.slice (some ⟨G', 0, none⟩) r.n r.n, .int .i64 r.places]
  have hA6 := hA5.later ((Below.refl _ w5).alloc (Nat.le_refl _) (.cells #[.slice (some ⟨G', 0, none⟩) r.n r.n, .int .i64 r.places] 30))
  obtain ⟨g, c, hgv⟩ := hnn j hj
  clear hA5 hR5 hnn hdrop x0 x1
  go_upto_region 5 with (fail)
  generalize w5.alloc (.cells #[.slice (some ⟨G', 0, none⟩) r.n r.n, .int .i64 r.places] 30) = w6 at *
  have o0 := hO6.cell 0
  have o1 := hO6.cell 1
  simp only [gA, gB, gC] at o0 o1
  have r0 := (hR6.at_ (i := j) hj).1
  rw [hgv] at r0
  have hrow := hR6.row j hj
  rw [hgv] at hrow
  have hrow : w6.ownsRow 0 9 1 (.slice (some ⟨g, 0, none⟩) (strike k (r.l j)).length c) (strike k (r.l j)).length (strsV (strike k (r.l j))) := hrow
  have hsl : (strike k (r.l j)).length < 100000 := Nat.lt_of_le_of_lt (strike_le _ _) (hlen j)
  have hkey := World.ownsRow_lit (size := 1) (e := 9) (base := w6.heap.size) w6 #[.string (str k)] 1 (Nat.le_refl _) (by unfold maxLen; omega) rfl
  have r0' := fun o => (World.cell?_of_block (a := ⟨G', j, none⟩) (Below.heap_alloc w6 o G' hR6.blk.lt)).trans r0
  have z0' := fun o => (World.frozen?_of_block (a := ⟨G', j, none⟩) (Below.heap_alloc w6 o G' hR6.blk.lt)).trans (hR6.blk.free j)
  have o0' := fun o => (World.cell?_of_block (a := ⟨w5.heap.size, 0, none⟩) (Below.heap_alloc w6 o _ hO6.lt)).trans o0
  have hnews := (hrow.alloc (.cells #[.string (str k)] 9)).cells (g := g) rfl
  have hGl := hR6.blk.lt
  have hOl := hO6.lt
  have HR6 := Lib.hid hR6
  have HO6 := Lib.hid hO6
  have HA6 := Lib.hid hA6
  generalize hL : strike k (r.l j) = L at *
  have HL := Lib.hid hL
  clear hL
  go_region_law (first
    | (refine step_append_any _ (by rfl) _ _ _ (by rfl) w6.heap.size 9 i0 _ 1 16 Tryz.underlying57 hi0 hz0 hz1 hz2 rfl (by omega) (.slice (some ⟨w6.heap.size, 0, none⟩) 1 1) 1 [.string (str k)] (by rfl) hkey.drew ⟨g, 0, none⟩ L.length c (strsV L) (by rfl) (by simp [strsV]) hnews (strsV_one L) (by omega) (by unfold maxLen; omega) (by omega) (by simp) ?_; intro gg cp w7 hown1 hgrow hat
       have x6 := (hgrow.cell_far ⟨G', j, none⟩ (by simp; omega) (by show some G' ≠ some w6.heap.size; simp; omega)).trans (r0' _)
       have x7 := (hgrow.cell_far ⟨w5.heap.size, 0, none⟩ (by simp; omega) (by show some w5.heap.size ≠ some w6.heap.size; simp; omega)).trans (o0' _)
       have z6 := (hgrow.frozen_far ⟨G', j, none⟩ (by simp; omega) (by show some G' ≠ some w6.heap.size; simp; omega)).trans (z0' _)))
  all_goals
   have hown1 := hown1
   rw [← HL.out] at hown1
   obtain ⟨e1, e2, e3, e4, e5⟩ := push_end HA6.out HR6.out HO6.out hlo hj hgrow hown1
   rw [HL.out] at e1 e2 e3 e4 e5
   have E4 := Lib.hid e4
   have E5 := Lib.hid e5
   clear e4 e5 x6 x7 z6 hat hgrow hown1
   have o0 := e1.cell 0
   have o1 := e1.cell 1
   have q0 := e2.cell 0
   have q1 := e2.cell 1
   have z0 := e2.free 0
   have z1 := e2.free 1
   have p0 := e3.cell 0
   have p1 := e3.cell 1
   simp only [gA, gB, gC] at o0 o1 q0 q1 p0 p1
   unfold putR at p0 p1
   have P0 := Lib.hid p0
   have P1 := Lib.hid p1
   unfold putR at E4 E5
   clear p0 p1 e1 e2 e3
   go_wp2_with fail
   have p0 := P0.out
   have p1 := P1.out
   (try simp only [Exit.inBlock, Exit.then])
   refine bodyPost_ret (v := .tuple #[.agg #[.slice (some ⟨G', 0, none⟩) r.n r.n, .int .i64 r.places], .bool true]) (by simp [results, Tryz.results103, go_sem, p0, p1]) rfl ?_
   exact ⟨G', rfl, ⟨_, E4.out⟩, E5.out⟩
 ·have h6' : decide ((r.places : Int) ≤ (r.many : Int)) = false := decide_eq_false (by omega)
  have h6'' : ¬ (r.places : Int) ≤ (r.many : Int) := by omega
  rw [h5]
  have hmany : ∀ v, RefAt v O G vs r → Calls Tryz.prog 64 #[.agg #[.slice (some ⟨G, 0, none⟩) r.n r.n, .int .i64 r.places]] v fun e w' => e = .returned (.int .i64 r.many) ∧ Below v.heap.size v w' := fun v hv => rmany_c hn hlen v hv
  go_region_held3 (fun w' => w'.cell? ⟨w.heap.size, 0, none⟩ = some (.slice (some ⟨G, 0, none⟩) r.n r.n) ∧ w'.cell? ⟨w.heap.size, 1, none⟩ = some (.int .i64 r.places) ∧ Asks w O G vs r w')
   (first | exact ⟨x0, x1, hA⟩ | exact asksP (by assumption) (by assumption) | exact asksPd (by assumption) | exact asksPd ⟨x0, x1, hA⟩ | exact asksPn _ ⟨x0, x1, hA⟩ | exact asksPn _ (by assumption) | go_keep)
   (first | (go_at_call 64; refine (hmany _ (asksR (by assumption))).mono ?_; rintro e v ⟨rfl, hv⟩))
  have hAv : Asks w O G vs r v := asksA (by assumption)
  clear x0 x1
  have x0 := hAv.box.cell 0
  have x1 := hAv.box.cell 1
  simp only [gA, gB, gC] at x0 x1
  go_wp2_with fail
  refine (hdrop _ hAv.ref).mono ?_
  rintro e w5 ⟨G', vs', rfl, hR5, hb5, hnn⟩
  have hA5 := hAv.later hb5
  have hlo : w.heap.size + 1 < G' := by
   have h1 := hR5.noG
   have h2 := hAv.res.lt
   omega
  have hR6 := (hR5.less (O' := fun b => b < w.heap.size) (fun b hb => by have := hAv.below.size; show b < _; omega)).alloc (.cells #[.slice (some ⟨G', 0, none⟩) r.n r.n, .int .i64 r.places] 30)
  have hO6 := Blk.new w5 30 #[.slice (some ⟨G', 0, none⟩) r.n r.n, .int .i64 r.places]
  have hA6 := hA5.later ((Below.refl _ w5).alloc (Nat.le_refl _) (.cells #[.slice (some ⟨G', 0, none⟩) r.n r.n, .int .i64 r.places] 30))
  obtain ⟨g, c, hgv⟩ := hnn j hj
  clear hA5 hR5 hnn hdrop x0 x1
  go_upto_region 5 with (fail)
  generalize w5.alloc (.cells #[.slice (some ⟨G', 0, none⟩) r.n r.n, .int .i64 r.places] 30) = w6 at *
  have o0 := hO6.cell 0
  have o1 := hO6.cell 1
  simp only [gA, gB, gC] at o0 o1
  have r0 := (hR6.at_ (i := j) hj).1
  rw [hgv] at r0
  have hrow := hR6.row j hj
  rw [hgv] at hrow
  have hrow : w6.ownsRow 0 9 1 (.slice (some ⟨g, 0, none⟩) (strike k (r.l j)).length c) (strike k (r.l j)).length (strsV (strike k (r.l j))) := hrow
  have hsl : (strike k (r.l j)).length < 100000 := Nat.lt_of_le_of_lt (strike_le _ _) (hlen j)
  have hkey := World.ownsRow_lit (size := 1) (e := 9) (base := w6.heap.size) w6 #[.string (str k)] 1 (Nat.le_refl _) (by unfold maxLen; omega) rfl
  have r0' := fun o => (World.cell?_of_block (a := ⟨G', j, none⟩) (Below.heap_alloc w6 o G' hR6.blk.lt)).trans r0
  have z0' := fun o => (World.frozen?_of_block (a := ⟨G', j, none⟩) (Below.heap_alloc w6 o G' hR6.blk.lt)).trans (hR6.blk.free j)
  have o0' := fun o => (World.cell?_of_block (a := ⟨w5.heap.size, 0, none⟩) (Below.heap_alloc w6 o _ hO6.lt)).trans o0
  have hnews := (hrow.alloc (.cells #[.string (str k)] 9)).cells (g := g) rfl
  have hGl := hR6.blk.lt
  have hOl := hO6.lt
  have HR6 := Lib.hid hR6
  have HO6 := Lib.hid hO6
  have HA6 := Lib.hid hA6
  generalize hL : strike k (r.l j) = L at *
  have HL := Lib.hid hL
  clear hL
  go_region_law (first
    | (refine step_append_any _ (by rfl) _ _ _ (by rfl) w6.heap.size 9 i0 _ 1 16 Tryz.underlying57 hi0 hz0 hz1 hz2 rfl (by omega) (.slice (some ⟨w6.heap.size, 0, none⟩) 1 1) 1 [.string (str k)] (by rfl) hkey.drew ⟨g, 0, none⟩ L.length c (strsV L) (by rfl) (by simp [strsV]) hnews (strsV_one L) (by omega) (by unfold maxLen; omega) (by omega) (by simp) ?_; intro gg cp w7 hown1 hgrow hat
       have x6 := (hgrow.cell_far ⟨G', j, none⟩ (by simp; omega) (by show some G' ≠ some w6.heap.size; simp; omega)).trans (r0' _)
       have x7 := (hgrow.cell_far ⟨w5.heap.size, 0, none⟩ (by simp; omega) (by show some w5.heap.size ≠ some w6.heap.size; simp; omega)).trans (o0' _)
       have z6 := (hgrow.frozen_far ⟨G', j, none⟩ (by simp; omega) (by show some G' ≠ some w6.heap.size; simp; omega)).trans (z0' _)))
  all_goals
   have hown1 := hown1
   rw [← HL.out] at hown1
   obtain ⟨e1, e2, e3, e4, e5⟩ := push_end HA6.out HR6.out HO6.out hlo hj hgrow hown1
   rw [HL.out] at e1 e2 e3 e4 e5
   have E4 := Lib.hid e4
   have E5 := Lib.hid e5
   clear e4 e5 x6 x7 z6 hat hgrow hown1
   have o0 := e1.cell 0
   have o1 := e1.cell 1
   have q0 := e2.cell 0
   have q1 := e2.cell 1
   have z0 := e2.free 0
   have z1 := e2.free 1
   have p0 := e3.cell 0
   have p1 := e3.cell 1
   simp only [gA, gB, gC] at o0 o1 q0 q1 p0 p1
   unfold putR at p0 p1
   have P0 := Lib.hid p0
   have P1 := Lib.hid p1
   unfold putR at E4 E5
   clear p0 p1 e1 e2 e3
   go_wp2_with fail
   have p0 := P0.out
   have p1 := P1.out
   (try simp only [Exit.inBlock, Exit.then])
   refine bodyPost_ret (v := .tuple #[.agg #[.slice (some ⟨G', 0, none⟩) r.n r.n, .int .i64 r.places], .bool true]) (by simp [results, Tryz.results103, go_sem, p0, p1]) rfl ?_
   exact ⟨G', rfl, ⟨_, E4.out⟩, E5.out⟩
end
end Go.Proofs.YtncgfnocokippaaGreat.Ringy
namespace Go.Proofs.YtncgfnocokippaaGreat.Ringy
open Wirey (enc txt)

def keysB (l : List Key) : List UInt8 := l.flatMap txt
def listB (l : List Key) : List UInt8 := enc l.length ++ keysB l
def Rg.putTo (r : Rg) (j : Nat) : List UInt8 := enc r.n ++ enc r.places ++ (List.range j).flatMap fun i => listB (r.l i)
def Rg.put (r : Rg) : List UInt8 := r.putTo r.n
theorem keysB_snoc (l : List Key) (k : Key) : keysB (l ++ [k]) = keysB l ++ txt k := by simp [keysB]
theorem Rg.putTo_zero (r : Rg) : r.putTo 0 = enc r.n ++ enc r.places := by simp [Rg.putTo]
theorem Rg.putTo_succ (r : Rg) (j : Nat) : r.putTo (j + 1) = r.putTo j ++ enc (r.l j).length ++ keysB (r.l j) := by
 unfold Rg.putTo
 rw [List.range_succ, List.flatMap_append]
 simp [listB]
theorem enc_ten {n : Nat} (h : n < 1000000000) : (enc n).length ≤ 10 := (Wirey.enc_len (n := n) (by omega)).2
theorem keysB_len {l : List Key} (h : ∀ k ∈ l, k.length ≤ 64) : (keysB l).length ≤ 74 * l.length := by
 induction l with
 | nil => simp [keysB]
 | cons k l ih =>
  have h1 : (txt k).length ≤ 74 := by
   have := enc_ten (n := k.length) (by have := h k (by simp); omega)
   have := h k (by simp)
   simp only [txt, List.length_append]
   omega
  have h2 := ih fun x hx => h x (by simp [hx])
  show (txt k ++ keysB l).length ≤ _
  rw [List.length_append, List.length_cons]
  omega
structure Rg.Small (r : Rg) : Prop where
 n : r.n ≤ 100
 pl : r.places ≤ 4096
 len : ∀ i, i < r.n → (r.l i).length < 5000
 key : ∀ i, i < r.n → ∀ k ∈ r.l i, k.length ≤ 64
theorem Rg.Small.putTo {r : Rg} (h : Rg.Small r) : ∀ j, j ≤ r.n → (r.putTo j).length ≤ 20 + 400000 * j
 | 0, _ => by
  rw [Rg.putTo_zero, List.length_append]
  have := enc_ten (n := r.n) (by have := h.n; omega)
  have := enc_ten (n := r.places) (by have := h.pl; omega)
  omega
 | j + 1, hj => by
  have ih := Rg.Small.putTo h j (by omega)
  have h1 := keysB_len (h.key j (by omega))
  have h2 := h.len j (by omega)
  have h3 := enc_ten (n := (r.l j).length) (by omega)
  rw [Rg.putTo_succ, List.length_append, List.length_append]
  omega
theorem keysB_take {l : List Key} {p : Nat} (hp : p < l.length) : keysB (l.take (p + 1)) = keysB (l.take p) ++ txt (l[p]?.getD []) := by
 rw [take_snoc hp, keysB_snoc]
end Go.Proofs.YtncgfnocokippaaGreat.Ringy
namespace Go.Proofs.YtncgfnocokippaaGreat.Ringy
open Go.ChangeShapes Go.WideShapes Go.ChangeAt Go.RowKit
open Wirey (Blk Row str str_size str_list str_cat Kp enc txt)
open Go.ChangeMaps Go.Maps

section
variable {O : Nat → Prop} {G : Nat} {vs : Nat → Value} {r : Rg}
structure Puts (w : World) (O : Nat → Prop) (G : Nat) (vs : Nat → Value) (r : Rg) (x : World) : Prop where
 ref : RefAt x O G vs r
 box : Blk x w.heap.size 30 #[.slice (some ⟨G, 0, none⟩) r.n r.n, .int .i64 r.places]
 below : Below w.heap.size w x
theorem Puts.later {w x y : World} (h : Puts w O G vs r x) (hb : Below x.heap.size x y) : Puts w O G vs r y := ⟨h.ref.below hb (Nat.le_refl _), h.box.below hb h.box.lt, h.below.trans (hb.mono h.below.size)⟩
theorem Puts.drewN {w x : World} (h : Puts w O G vs r x) (n : Nat) : Puts w O G vs r (x.drewN n) := ⟨h.ref.drewN n, h.box, ⟨h.below.os, h.below.tape, h.below.output, h.below.size, h.below.block⟩⟩
theorem putsP {w x y : World} {u0 u1 : Value} (hS : x.cell? ⟨w.heap.size, 0, none⟩ = some u0 ∧ x.cell? ⟨w.heap.size, 1, none⟩ = some u1 ∧ Puts w O G vs r x) (hb : Below x.heap.size x y) :
  y.cell? ⟨w.heap.size, 0, none⟩ = some u0 ∧ y.cell? ⟨w.heap.size, 1, none⟩ = some u1 ∧ Puts w O G vs r y :=
 ⟨(World.cell?_of_block (a := ⟨w.heap.size, 0, none⟩) (hb.block _ hS.2.2.box.lt)).trans hS.1, (World.cell?_of_block (a := ⟨w.heap.size, 1, none⟩) (hb.block _ hS.2.2.box.lt)).trans hS.2.1, hS.2.2.later hb⟩
theorem putsPd {w x : World} {u0 u1 : Value} (hS : x.cell? ⟨w.heap.size, 0, none⟩ = some u0 ∧ x.cell? ⟨w.heap.size, 1, none⟩ = some u1 ∧ Puts w O G vs r x) :
  x.drew.cell? ⟨w.heap.size, 0, none⟩ = some u0 ∧ x.drew.cell? ⟨w.heap.size, 1, none⟩ = some u1 ∧ Puts w O G vs r x.drew := ⟨hS.1, hS.2.1, hS.2.2.drewN 1⟩
theorem putsPn {w x : World} {u0 u1 : Value} (m : Nat) (hS : x.cell? ⟨w.heap.size, 0, none⟩ = some u0 ∧ x.cell? ⟨w.heap.size, 1, none⟩ = some u1 ∧ Puts w O G vs r x) :
  (x.drewN m).cell? ⟨w.heap.size, 0, none⟩ = some u0 ∧ (x.drewN m).cell? ⟨w.heap.size, 1, none⟩ = some u1 ∧ Puts w O G vs r (x.drewN m) := ⟨hS.1, hS.2.1, hS.2.2.drewN m⟩
theorem putsA {w x : World} {u0 u1 : Value} (hS : x.cell? ⟨w.heap.size, 0, none⟩ = some u0 ∧ x.cell? ⟨w.heap.size, 1, none⟩ = some u1 ∧ Puts w O G vs r x) : Puts w O G vs r x := hS.2.2

theorem refnumW {n : Nat} (hn : n < 1000000000) (W : World) : Calls Tryz.prog 66 #[.int .u64 (IntKind.u64.wrap (n : Int))] W fun e w' => e = .returned (.string (str (enc n))) ∧ Below W.heap.size W w' := by
 have e : IntKind.u64.wrap (n : Int) = (n : Int) := by rw [IntKind.wrap_u64]; omega
 rw [e]
 exact Wirey.refnum_c n (by omega) W
set_option maxHeartbeats 4000000 in
set_option maxRecDepth 100000 in
theorem rput_c (hs : r.Small) (w : World) (h : RefAt w O G vs r) :
  Calls Tryz.prog 67 #[refV G r] w fun e w' => e = .returned (.string (str r.put)) ∧ Below w.heap.size w w' := by
 have hn := hs.n
 have hpl := hs.pl
 have hlen := hs.putTo
 have hsz := str_size
 unfold refV
 have hX := Blk.new w 30 #[.slice (some ⟨G, 0, none⟩) r.n r.n, .int .i64 r.places]
 have hP0 : Puts w O G vs r (w.alloc (.cells #[.slice (some ⟨G, 0, none⟩) r.n r.n, .int .i64 r.places] 30)) := ⟨h.alloc _, hX, (Below.refl _ w).alloc (Nat.le_refl _) _⟩
 have e0 : enc r.n ++ enc r.places = r.putTo 0 := r.putTo_zero.symm
 have l0 := hlen 0 (Nat.zero_le _)
 have l1 := enc_ten (n := r.n) (by omega)
 have l2 := enc_ten (n := r.places) (by omega)
 have x0 := hX.cell 0
 have x1 := hX.cell 1
 simp only [gA, gB, gC] at x0 x1
 go_enter Tryz.func67, Tryz.ntmps67
 go_upto_region 1 with (fail)
 generalize w.alloc (.cells #[.slice (some ⟨G, 0, none⟩) r.n r.n, .int .i64 r.places] 30) = w1 at *
 have hcat := str_cat
 have hov : ¬ (9223372036854775807 < (enc r.n).length + (enc r.places).length) := by omega
 go_region_held3 (fun w' => w'.cell? ⟨w.heap.size, 0, none⟩ = some (.slice (some ⟨G, 0, none⟩) r.n r.n) ∧ w'.cell? ⟨w.heap.size, 1, none⟩ = some (.int .i64 r.places) ∧ Puts w O G vs r w')
  (first | exact ⟨x0, x1, hP0⟩ | exact putsP (by assumption) (by assumption) | exact putsPd (by assumption) | exact putsPd ⟨x0, x1, hP0⟩ | exact putsPn _ ⟨x0, x1, hP0⟩ | exact putsPn _ (by assumption) | go_keep)
  (first | (go_at_call 66; refine (refnumW (by omega) _).mono ?_; rintro e v ⟨rfl, hv⟩))
 have hPv : Puts w O G vs r v := putsA (by assumption)
 clear x0 x1 hP0 e0 l0 l1 l2 hov
 have HLEN := Lib.hid hlen
 clear hlen
 go_wp2_with fail
 go_loopw [3, 4] (fun o i wr => ∃ j : Nat, j ≤ r.n ∧ i = .int .i64 j ∧ o = .string (str (r.putTo j)) ∧ Puts w O G vs r wr) (fun _ i _ => r.n - (intOf i).toNat)
 case atStart => exact ⟨0, Nat.zero_le _, rfl, rfl, hPv⟩
 case round =>
  obtain ⟨j, hj, rfl, rfl, hP⟩ := hrel
  clear hPv
  have x0 := hP.box.cell 0
  simp only [List.getElem?_toArray, List.getElem?_cons_zero] at x0
  by_cases hlt : j < r.n
  ·obtain ⟨c1, a1, cc, hv1⟩ := hP.ref.at_ hlt
   rw [hv1] at c1
   clear hv1
   have hll := hs.len j hlt
   have hkk := hs.key j hlt
   have hl1 := HLEN.out j hj
   have hst := r.putTo_succ j
   have hl3 := enc_ten (n := (r.l j).length) (by omega)
   have hl4 := keysB_len hkk
   have hov : ¬ (9223372036854775807 < (r.putTo j).length + (enc (r.l j).length).length) := by omega
   have HST := Lib.hid hst
   have hnumj := fun W => Wirey.refnum_c (r.l j).length (by omega) W
   have hltd : decide ((j : Int) < (r.n : Int)) = true := decide_eq_true (by omega)
   have HL1 := Lib.hid hl1
   have HL3 := Lib.hid hl3
   have HKK := Lib.hid hkk
   clear hst hl1 hl3 hl4 hkk
   go_wp2_with fail
   refine (hnumj _).mono ?_
   rintro e w5 ⟨rfl, hb5⟩
   have hP5 := hP.later hb5
   clear hP x0 c1 hnumj
   go_wp2_with fail
   go_loopw [3, 5] (fun o i wr => ∃ p : Nat, p ≤ (r.l j).length ∧ i = .int .i64 p ∧ o = .string (str (r.putTo j ++ enc (r.l j).length ++ keysB ((r.l j).take p))) ∧ Puts w O G vs r wr) (fun _ i _ => (r.l j).length - (intOf i).toNat)
   case atStart => exact ⟨0, Nat.zero_le _, rfl, by simp [keysB], hP5⟩
   case round =>
    obtain ⟨p, hp, rfl, rfl, hP⟩ := hrel
    clear hP5 hov
    have x0 := hP.box.cell 0
    simp only [List.getElem?_toArray, List.getElem?_cons_zero] at x0
    have c1 := (hP.ref.at_ hlt).1
    by_cases hpl2 : p < (r.l j).length
    ·obtain ⟨g, c2, hv2, hc2⟩ := hP.ref.text hlt hpl2
     rw [hv2] at c1
     clear hv2
     have HTK := Lib.hid (keysB_take hpl2)
     have hx64 := HKK.out _ (mem_pos_of hpl2)
     have hl5 := keysB_len (l := (r.l j).take p) (fun x hx => HKK.out x (List.mem_of_mem_take hx))
     rw [List.length_take] at hl5
     have hl1 := HL1.out
     have hl3 := HL3.out
     generalize (r.l j)[p]?.getD [] = x at *
     have hov : ¬ (9223372036854775807 < (r.putTo j ++ enc (r.l j).length ++ keysB ((r.l j).take p)).length + (txt x).length) := by
      have h6 : (txt x).length ≤ 74 := by
       have := enc_ten (n := x.length) (by omega)
       simp only [txt, List.length_append]
       omega
      simp only [List.length_append]
      omega
     clear hl1 hl3 hl5
     generalize keysB ((r.l j).take p) = kb at *
     generalize hA : r.putTo j ++ enc (r.l j).length ++ kb = A at *
     have HA := Lib.hid hA
     clear hA
     have htx := fun W => Wirey.reftext_c x (by omega) W
     go_wp2_with fail
     refine (htx _).mono ?_
     rintro e w6 ⟨rfl, hb6⟩
     have hP6 := hP.later hb6
     go_wp2_with fail
     go_roundw
     case rel => exact ⟨p + 1, by omega, rfl, by rw [HTK.out, ← List.append_assoc, HA.out], hP6⟩
     case measure => simp [intOf]; omega
    ·obtain rfl : p = (r.l j).length := by omega
     obtain ⟨av, ac, hav⟩ := (hP.ref.at_ hlt).2
     rw [hav] at c1
     clear hav
     rw [List.take_length, ← HST.out]
     go_wp2_with fail
     go_roundw
     case rel => exact ⟨j + 1, by omega, rfl, rfl, hP⟩
     case measure => simp [intOf]; omega
  ·obtain rfl : j = r.n := by omega
   go_wp2_with fail
   go_ret
   exact ⟨rfl, hP.below⟩
end
end Go.Proofs.YtncgfnocokippaaGreat.Ringy
namespace Go.Proofs.YtncgfnocokippaaGreat.Ringy
open Go.ChangeShapes Go.WideShapes Go.ChangeAt Go.RowKit Go.Shelf

def Only (Q : Exit → Act → World → Prop) : Exit → Act → World → Prop := fun e a w => e = .normal ∧ Q .normal a w
theorem Only.panic {Q : Exit → Act → World → Prop} {c : _} {a a' : Act} {w : World} (h : Only Q (.panic c) a w) : Only Q (.panic c) a' w := by cases h.1
theorem only_out {Q : Exit → Act → World → Prop} : ¬ LetsOut (Only Q) := fun ⟨_, _, h⟩ => by cases h.1
section
variable {P : Program} {md : Region.Mode} {ops : Array Oper} {Q : Exit → Act → World → Prop}
theorem op_round {l n i : Nat} (hnd : ∀ (i : Nat) (o : Oper), ops[i]? = some o → ∀ c, o.op ≠ .defer c) {K K' : Act → World → Prop} (hK : ∀ a w, K a w → K' a w) {a : Act} {w : World} (h : wpOp P ops (Only Q) i K a w) :
  wpOpIn (Fence.wide.inRound l) n P ops (Only Q) i K' a w := by
 unfold wpOp at h
 unfold wpOpIn
 cases ho : ops[i]? with
 | none => rw [ho] at h; exact hK _ _ h
 | some o =>
  rw [ho] at h
  dsimp only at h ⊢
  by_cases hw : Region.wanted o (yielded ops a.tmps) = true
  ·rw [if_pos hw] at h ⊢
   rcases h with h | ⟨_, h⟩
   ·unfold Oper.wp at h
    unfold Oper.wpIn
    refine ⟨fun _ _ => trivial, ?_⟩
    rw [Oper.semAt_eq _ _ _ (hnd i o ho)]
    generalize (execOp a.eval o).run P w = r at *
    cases r with
    | ok x w' =>
     cases x with
     | value v => exact hK _ _ h
     | skip => exact hK _ _ h
     | defer d => exact hK _ _ h
     | enter f args =>
      refine ⟨fun hd => absurd (show (none : Option Nat).isSome = true from hd) (by decide), CallsIn.inRound _ (callsIn_wide.2 (Calls.mono h fun e w'' he => ?_))⟩
      cases e with
      | returned v => exact hK _ _ he
      | panicked c => exact he
      | outgrown => exact he
     | row row args =>
      refine ⟨fun hd => absurd (show (none : Option Nat).isSome = true from hd) (by decide), fun c cs _ => ?_⟩
      obtain ⟨v, w2, r, s⟩ := h c cs
      exact ⟨v, w2, hK _ _ r, stepsIn_wide.2 s⟩
     | _ => exact h.elim
    | halt x w' =>
     cases x with
     | panic v => exact h
     | _ => exact h.elim
   ·exact absurd h only_out
  ·rw [if_neg hw] at h ⊢
   exact ⟨fun _ _ => trivial, hK _ _ h⟩
theorem any_round {l n : Nat} (hnd : ∀ (i : Nat) (o : Oper), ops[i]? = some o → ∀ c, o.op ≠ .defer c) : ∀ (fuel : Nat) (listed : Array Bool) (a : Act) (w : World), wpAny P md ops (Only Q) fuel listed a w → wpAnyIn (Fence.wide.inRound l) n P md ops (Only Q) fuel listed a w
 | 0, _, _, _, h => h
 | fuel + 1, _, _, _, h => ⟨h.1, fun i hi => op_round hnd (fun a w hh => any_round hnd fuel _ a w hh) (h.2 i hi)⟩
theorem take_at (i d : Nat) (v : Value) {S : World → Prop} {oi : Oper} {fuel : Nat} {listed : Array Bool} {T : Array Value} {D : List Deferred} {w : World} (hi : ops[i]? = some oi) (hd : oi.dst = some d)
  (hs : Region.noSelect ops = true) (hf : Region.free md ops listed i = true) (hr : (Region.ready md ops listed).contains i = true)
  (hy : YieldsIf P ops S oi v { tmps := T, defers := D }) (hS : S w)
  (h : wpAnyH P md ops (Only Q) S fuel (listed.setIfInBounds i true) { tmps := T.setIfInBounds d v, defers := D } w) : wpAnyH P md ops (Only Q) S (fuel + 1) listed { tmps := T, defers := D } w := by
 refine wpAnyH_take hi hs hf hr (fun _ _ _ h => h.panic) hy hS ?_
 rw [hd]
 exact h
theorem round_region (k : Nat) (L : Array Bool) {S : World → Prop} {l n id : Nat} {a : Act} {w : World} (hk : ops.size = k) (hL : L = Array.replicate k false) (hm : P.follows .mixedOrders = true) (hnd : (ops.all fun o => match o.op with | .defer _ => false | _ => true) = true) (hS : S w.drew)
  (h : S w.drew → wpAnyH P .any ops (Only Q) S k L a w.drew) : (Code.region id ops true).wpIn (Fence.wide.inRound l) n P Q a w := by
 subst hk hL
 refine wpIn_mono (Q := Only Q) (wpIn_region_any hm (any_round (fun i o ho c e => ?_) _ _ _ _ (wpAny_of_held _ _ _ _ (h hS)))) (fun e a w ⟨h1, h2⟩ => by subst h1; exact h2)
 have := Array.all_eq_true.1 hnd i (Array.getElem?_eq_some_iff.1 ho).1
 rw [(Array.getElem?_eq_some_iff.1 ho).2] at this
 simp only [e] at this
 cases this
theorem region_only (k : Nat) (L : Array Bool) {S : World → Prop} {id : Nat} {a : Act} {w : World} (hk : ops.size = k) (hL : L = Array.replicate k false) (hm : P.follows .mixedOrders = true) (hS : S w.drew)
  (h : S w.drew → wpAnyH P .any ops (Only Q) S k L a w.drew) : (Code.region id ops true).wp P Q a w := by
 subst hk hL
 exact wp_mono (wp_region_held_drew (S := S) hm hS h) fun e a w ⟨h1, h2⟩ => by subst h1; exact h2
end
theorem tkA (i d fuel : Nat) (v : Value) {P : Program} {md : Region.Mode} {ops : Array Oper} {Q : Exit → Act → World → Prop} {S : World → Prop} {oi : Oper} {listed : Array Bool} {T : Array Value} {D : List Deferred} {w : World} (hi : ops[i]? = some oi) (hd : oi.dst = some d)
  (hy : ∀ w, S w → (execOp (Act.eval { tmps := T, defers := D }) oi).run P w = .ok (.value v) w) (hS : S w)
  (h : wpAnyH P md ops (Only Q) S fuel (listed.setIfInBounds i true) { tmps := T.setIfInBounds d v, defers := D } w)
  (hw : Region.wanted oi (yielded ops T) = true := by rfl) (hs : Region.noSelect ops = true := by kernel_rfl) (hf : Region.free md ops listed i = true := by kernel_rfl) (hr : (Region.ready md ops listed).contains i = true := by kernel_rfl) : wpAnyH P md ops (Only Q) S (fuel + 1) listed { tmps := T, defers := D } w :=
 take_at i d v hi hd hs hf hr (Or.inl ⟨hw, hy⟩) hS h
theorem rdA (fuel i : Nat) {P : Program} {md : Region.Mode} {ops : Array Oper} {Q : Exit → Act → World → Prop} {S : World → Prop} {listed : Array Bool} {a : Act} {w : World} {o : Oper} (ho : ops[i]? = some o)
  (h : ∀ K' : Act → World → Prop, Shut (∀ a w, S w → (S w → wpAnyH P md ops Q S fuel (listed.setIfInBounds i true) a w) → K' a w) → if Region.wanted o (yielded ops a.tmps) = true then Oper.wp P o a w K' Q else K' (a.put o.dst undef) w)
  (hr : Region.ready md ops listed = [i] := by kernel_rfl) : wpAnyH P md ops Q S (fuel + 1) listed a w :=
 wpAnyH_ready hr (by simp) (AllReadyH.cons ho h AllReadyH.nil)
end Go.Proofs.YtncgfnocokippaaGreat.Ringy
