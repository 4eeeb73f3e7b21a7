/- The document's own lists with a key at a front, where there is a place. No condition. -/
import Derived.Test.YtfhlnidjneaieaaRingRefFront
namespace Go.Proofs.Ytfhlnidjneaieaa.Ringy
open Go.ChangeShapes Go.WideShapes Go.ChangeAt Go.RowKit
open Wirey (Blk Row str str_size str_list Kp)
open Go.ChangeMaps Go.Maps

/-- An append, of whatever many, at a step of a region that draws its order. -/
theorem step_append_any {P : Program} (w : World) {ops : Array Oper} {o : Oper} {a : Act} {K : Act → World → Prop} {Q : Exit → Act → World → Prop} {E : Prop} (hgd : o.guard = none) (s x : Operand) (t : TypeId)
    (ho : o.op = .call { callee := .builtin .append, args := #[s, x], argTypes := #[t, t] })
    (base : Nat) (e : TypeId) (i : TypeInfo) (z : Value) (size bytes : Nat) (ht : P.underlying t = some (.slice e)) (hi : P.info? e = some i) (hz : i.zero = some z)
    (hsize : i.size = size) (hby : i.bytes = bytes) (hzs : z.cells.size = size) (hsz : 0 < size)
    (v : Value) (n : Nat) (xs : List Value) (hs : a.eval s = v) (hown : w.ownsRow base e size v n xs)
    (ad : Addr) (m c : Nat) (news : List Value) (hx : a.eval x = .slice (some ad) m c) (hl : news.length = m * size) (hnews : ∀ j u, news[j]? = some u → w.cell? (ad.add j) = some u) (h1 : ∀ u ∈ news, u.oneCell' = true)
    (hm : 0 < n + m) (h63 : n + m ≤ maxLen) (hbytes : (n + m) * bytes ≤ 140737488355328) (hbase : base ≤ w.heap.size)
    (h : ∀ g cap w', w'.ownsRow base e size (.slice (some ⟨g, 0, none⟩) (n + m) cap) (n + m) (xs ++ news) → w.grownBy w' v.ownBlock → (v.ownBlock = some g ∨ g = w.heap.size) → K (a.put o.dst (.slice (some ⟨g, 0, none⟩) (n + m) cap)) w') :
    if Region.wanted o (yielded ops a.tmps) = true then Oper.wp P o a w K Q else E := by
  have hw : Region.wanted o (yielded ops a.tmps) = true := by simp [Region.wanted, hgd]
  rw [if_pos hw]
  obtain ⟨v', w', hr, h2, h3, _, h5⟩ := run_append_own_at (P := P) w base t o.type e i z size bytes ht hi hz hsize hby hzs hsz v n xs hown ad m c news hl hnews h1 h63 hbytes hbase
  obtain ⟨g, cap, rfl, _, _⟩ := h2.form hm
  unfold Oper.wp execOp
  simp only [ho, resolve, invoke, builtin, Sem.run_bind, Sem.run_pure, Result.andThen_ok, List.map_toArray, List.map_cons, List.map_nil, hs, hx, hr]
  refine h g cap w' h2 h3 ?_
  rcases h5 with h5 | h5
  · exact .inl (by rw [← h5]; rfl)
  · right
    simpa [Value.ownBlock] using h5
theorem strsV_cons (k : Key) (l : List Key) : strsV (k :: l) = [.string (str k)] ++ strsV l := rfl
theorem strsV_one (l : List Key) : ∀ u ∈ strsV l, u.oneCell' = true := by
  intro u hu
  obtain ⟨k, _, rfl⟩ := List.mem_map.1 hu
  rfl
section
variable {O : Nat → Prop} {G : Nat} {vs : Nat → Value} {r : Rg}
/-- Behind the append and the store. -/
theorem push_end {w w6 w7 : World} {G' OB j gg cp : Nat} {vs' : Nat → Value} {k : Key} (hA : Asks w O G vs r w6) (hR : RefAt w6 (fun b => b < w.heap.size) G' vs' (r.drop k)) (hO : Blk w6 OB 29 #[.slice (some ⟨G', 0, none⟩) r.n r.n, .int .i64 (r.places : Int)])
    (hlo : w.heap.size + 1 < G') (hj : j < r.n) {o : Obj} (hgrow : (w6.alloc o).drew.grownBy w7 (Value.slice (some ⟨w6.heap.size, 0, none⟩) 1 1).ownBlock)
    (hown : w7.ownsRow w6.heap.size 9 1 (.slice (some ⟨gg, 0, none⟩) (1 + (strike k (r.l j)).length) cp) (1 + (strike k (r.l j)).length) ([.string (str k)] ++ strsV (strike k (r.l j)))) :
    let w8 := w7.setCell ⟨G', j, none⟩ (.slice (some ⟨gg, 0, none⟩) (1 + (strike k (r.l j)).length) cp)
    let w9 := putR w w8 G' r.n r.places
    Blk w8 OB 29 #[.slice (some ⟨G', 0, none⟩) r.n r.n, .int .i64 (r.places : Int)] ∧ Blk w8 (w.heap.size + 1) 29 #[.slice none 0 0, .int .i64 0] ∧
    Blk w9 (w.heap.size + 1) 29 #[.slice (some ⟨G', 0, none⟩) r.n r.n, .int .i64 (r.places : Int)] ∧
    RefAt w9 (fun b => b < w.heap.size) G' (updV vs' j (.slice (some ⟨gg, 0, none⟩) (1 + (strike k (r.l j)).length) cp)) ((r.drop k).push j k) ∧ Below w.heap.size w w9 := by
  intro w8 w9
  have hb67 : Below w6.heap.size w6 w7 := ((Below.refl _ w6).alloc (Nat.le_refl _) o).trans ⟨hgrow.os, hgrow.tape, hgrow.output, hgrow.size, fun b hb => hgrow.block b (by simp; omega) (fun e => by have e : some b = some w6.heap.size := e; cases e; omega)⟩
  have hR7 := hR.below hb67 (Nat.le_refl _)
  have hA7 := hA.later hb67
  have hGO : G' ≠ OB := hR.blk.ne_ hO (by decide)
  have hO8 : Blk w8 OB 29 #[.slice (some ⟨G', 0, none⟩) r.n r.n, .int .i64 (r.places : Int)] := (hO.below hb67 hO.lt).far (p := ⟨G', j, none⟩) (fun e => hGO e.symm) _
  have hY8 : Blk w8 (w.heap.size + 1) 29 #[.slice none 0 0, .int .i64 0] := hA7.res.far (p := ⟨G', j, none⟩) (by show w.heap.size + 1 ≠ G'; omega) _
  have hw6 := hA.below.size
  have hR8 : RefAt w8 (fun b => b < w.heap.size) G' (updV vs' j (.slice (some ⟨gg, 0, none⟩) (1 + (strike k (r.l j)).length) cp)) ((r.drop k).push j k) := hR7.set (l := k :: strike k (r.l j)) hj (by
      have h := own_low hown
      rw [Nat.add_comm 1 (strike k (r.l j)).length] at h ⊢
      exact h) (fun g hg => by have := (hown.lt g hg).1; show ¬ g < w.heap.size; omega) rfl (fun i hi => by
        show (if i = j then k :: strike k (r.l i) else strike k (r.l i)) = if i = j then k :: strike k (r.l j) else strike k (r.l i)
        by_cases e : i = j
        · rw [if_pos e, if_pos e, e]
        · rw [if_neg e, if_neg e])
  have hB8 : Below w.heap.size w w8 := hA7.below.setCell (p := ⟨G', j, none⟩) (by show w.heap.size ≤ G'; omega) _
  have hk9 : Kp (fun b => b = w.heap.size + 1) w8 w9 := ((Kp.refl (fun b => b = w.heap.size + 1) w8).set (p := ⟨w.heap.size + 1, 0, none⟩) rfl _).set (p := ⟨w.heap.size + 1, 1, none⟩) rfl _
  refine ⟨hO8, hY8, (hY8.put 0 (.slice (some ⟨G', 0, none⟩) r.n r.n)).put 1 (.int .i64 (r.places : Int)), ⟨hk9.blk hR8.blk (by omega), fun i hi => ownsRow_stay (hR8.row i hi) fun b hb => hk9.block b ((hR8.row i hi).lt b hb).2 (fun e => ?_), hR8.noG, hR8.noR⟩, (hB8.setCell (p := ⟨w.heap.size + 1, 0, none⟩) (Nat.le_succ _) _).setCell (p := ⟨w.heap.size + 1, 1, none⟩) (Nat.le_succ _) _⟩
  obtain ⟨cc, hc⟩ := owned_blk (hR8.row i hi) hb
  exact hc.ne_ hY8 (by decide) e
set_option maxHeartbeats 4000000 in
set_option maxRecDepth 100000 in
/-- Front's second half: from where it is asked no more. -/
theorem rfront_yes {j : Nat} {k : Key} (hk : k.length ≤ maxLen) (hn : r.n ≤ 100) (hlen : ∀ i, (r.l i).length < 100000) (w : World) (h : RefAt w O G vs r) (hj : j < r.n) (hok : r.ok (j : Int) k = true) :
    Calls Try.prog 24 #[refV G r, .int .i64 (j : Int), .string (str k)] w fun e w' => ∃ G' vs', e = .returned (.tuple #[refV G' (r.fr (j : Int) k), .bool true]) ∧ RefAt w' (fun b => b < w.heap.size) G' vs' (r.fr (j : Int) k) ∧ Below w.heap.size w w' := by
  have hsz := str_size k
  unfold maxLen at hk
  obtain ⟨i0, hi0, hz0, hz1, hz2⟩ := info_parts str_info
  have hX := Blk.new w 29 #[.slice (some ⟨G, 0, none⟩) r.n r.n, .int .i64 (r.places : Int)]
  have hs1 : (w.alloc (.cells #[.slice (some ⟨G, 0, none⟩) r.n r.n, .int .i64 (r.places : Int)] 29)).heap.size = w.heap.size + 1 := by simp
  have hY := Blk.new (w.alloc (.cells #[.slice (some ⟨G, 0, none⟩) r.n r.n, .int .i64 (r.places : Int)] 29)) 29 #[.slice none 0 0, .int .i64 0]
  rw [hs1] at hY
  have hX2 := hX.alloc (.cells #[.slice none 0 0, .int .i64 0] 29)
  have h2 := (h.alloc (.cells #[.slice (some ⟨G, 0, none⟩) r.n r.n, .int .i64 (r.places : Int)] 29)).alloc (.cells #[.slice none 0 0, .int .i64 0] 29)
  have hb2 := ((Below.refl _ w).alloc (Nat.le_refl _) (.cells #[.slice (some ⟨G, 0, none⟩) r.n r.n, .int .i64 (r.places : Int)] 29)).alloc (by omega) (.cells #[.slice none 0 0, .int .i64 0] 29)
  have hin := rin_c (O := O) (G := G) (vs := vs) k hn (fun i _ => hlen i) _ h2
  have hfr := Rg.fr_ok hok
  rw [Int.toNat_natCast] at hfr
  rw [hfr]
  clear hfr
  obtain ⟨-, -, h64, hcan⟩ := Rg.ok_in hok
  unfold refV at hin ⊢
  go_enter Try.func24, Try.ntmps24
  go_upto_region 1 with (fail)
  generalize (w.alloc (.cells #[.slice (some ⟨G, 0, none⟩) r.n r.n, .int .i64 (r.places : Int)] 29)).alloc (.cells #[.slice none 0 0, .int .i64 0] 29) = w2 at *
  have HA2 := Lib.hid (Asks.mk h2 hX2 hY hb2 : Asks w O G vs r w2)
  clear hX hs1 h
  have x0 := hX2.cell 0
  have x1 := hX2.cell 1
  simp only [List.getElem?_toArray, List.getElem?_cons_zero, List.getElem?_cons_succ] at x0 x1
  clear hX2 hY h2 hb2
  go_upto_region 2 with (first | (go_at_call 18; refine hin.mono ?_; rintro e w3 ⟨rfl, hb3⟩))
  have hA := HA2.out.later hb3
  clear HA2 hin x0 x1 hb3
  have hcases : r.hasB k = true ∨ (r.hasB k = false ∧ r.many < r.places) := by
    rcases Bool.eq_false_or_eq_true (r.hasB k) with e | e
    · exact .inl e
    · exact .inr ⟨e, hcan.resolve_left (fun h => by rw [Rg.hasB_iff.2 h] at e; cases e)⟩
  clear hok hcan
  have hj1 : ¬ (r.n : Int) ≤ (j : Int) := by omega
  have hj0 : ¬ (j : Int) < 0 := by omega
  have hj0' : decide ((j : Int) < 0) = false := decide_eq_false hj0
  have hj2 : decide ((r.n : Int) ≤ (j : Int)) = false := decide_eq_false hj1
  have h64' : ¬ (64 : Int) < (k.length : Int) := by omega
  have x0 := hA.box.cell 0
  have x1 := hA.box.cell 1
  simp only [List.getElem?_toArray, List.getElem?_cons_zero, List.getElem?_cons_succ] at x0 x1
  have hdrop : ∀ v, RefAt v O G vs r → Calls Try.prog 19 #[.agg #[.slice (some ⟨G, 0, none⟩) r.n r.n, .int .i64 (r.places : Int)], .string (str k)] v fun e w' => ∃ G' vs', e = .returned (.agg #[.slice (some ⟨G', 0, none⟩) r.n r.n, .int .i64 (r.places : Int)]) ∧ RefAt w' (fun b => b < v.heap.size) G' vs' (r.drop k) ∧ Below v.heap.size v w' ∧ ∀ i, i < r.n → ∃ g c, vs' i = .slice (some ⟨g, 0, none⟩) (strike k (r.l i)).length c := fun v hv => rdrop_c k hn (fun i _ => hlen i) v hv
  rcases hcases with h5 | ⟨h5, h6⟩
  · rw [h5]
    go_region
    have hAd : Asks w O G vs r w3.drew := hA.drewN 1
    go_wp2_with fail
    refine (hdrop _ hAd.ref).mono ?_
    rintro e w5 ⟨G', vs', rfl, hR5, hb5, hnn⟩
    have hA5 := hAd.later hb5
    have hlo : w.heap.size + 1 < G' := by
      have h1 := hR5.noG
      have h2 := hAd.res.lt
      omega
    have hR6 := (hR5.less (O' := fun b => b < w.heap.size) (fun b hb => by have := hAd.below.size; show b < _; omega)).alloc (.cells #[.slice (some ⟨G', 0, none⟩) r.n r.n, .int .i64 (r.places : Int)] 29)
    have hO6 := Blk.new w5 29 #[.slice (some ⟨G', 0, none⟩) r.n r.n, .int .i64 (r.places : Int)]
    have hA6 := hA5.later ((Below.refl _ w5).alloc (Nat.le_refl _) (.cells #[.slice (some ⟨G', 0, none⟩) r.n r.n, .int .i64 (r.places : Int)] 29))
    obtain ⟨g, c, hgv⟩ := hnn j hj
    clear hA5 hR5 hnn hdrop x0 x1
    go_upto_region 5 with (fail)
    generalize w5.alloc (.cells #[.slice (some ⟨G', 0, none⟩) r.n r.n, .int .i64 (r.places : Int)] 29) = w6 at *
    have o0 := hO6.cell 0
    have o1 := hO6.cell 1
    simp only [List.getElem?_toArray, List.getElem?_cons_zero, List.getElem?_cons_succ] at o0 o1
    have r0 := (hR6.at_ (i := j) hj).1
    rw [hgv] at r0
    have hrow := hR6.row j hj
    rw [hgv] at hrow
    have hrow : w6.ownsRow 0 9 1 (.slice (some ⟨g, 0, none⟩) (strike k (r.l j)).length c) (strike k (r.l j)).length (strsV (strike k (r.l j))) := hrow
    have hsl : (strike k (r.l j)).length < 100000 := Nat.lt_of_le_of_lt (strike_le _ _) (hlen j)
    have hkey := World.ownsRow_lit (size := 1) (e := 9) (base := w6.heap.size) w6 #[.string (str k)] 1 (Nat.le_refl _) (by unfold maxLen; omega) rfl
    have r0' := fun o => (World.cell?_of_block (a := ⟨G', j, none⟩) (Below.heap_alloc w6 o G' hR6.blk.lt)).trans r0
    have z0' := fun o => (World.frozen?_of_block (a := ⟨G', j, none⟩) (Below.heap_alloc w6 o G' hR6.blk.lt)).trans (hR6.blk.free j)
    have o0' := fun o => (World.cell?_of_block (a := ⟨w5.heap.size, 0, none⟩) (Below.heap_alloc w6 o _ hO6.lt)).trans o0
    have hnews := (hrow.alloc (.cells #[.string (str k)] 9)).cells (g := g) rfl
    have hGl := hR6.blk.lt
    have hOl := hO6.lt
    have HR6 := Lib.hid hR6
    have HO6 := Lib.hid hO6
    have HA6 := Lib.hid hA6
    generalize hL : strike k (r.l j) = L at *
    have HL := Lib.hid hL
    clear hL
    go_region_law (first
      | (refine step_append_any _ (by rfl) _ _ _ (by rfl) w6.heap.size 9 i0 _ 1 16 Try.underlying49 hi0 hz0 hz1 hz2 rfl (by omega) (.slice (some ⟨w6.heap.size, 0, none⟩) 1 1) 1 [.string (str k)] (by rfl) hkey.drew ⟨g, 0, none⟩ L.length c (strsV L) (by rfl) (by simp [strsV]) hnews (strsV_one L) (by omega) (by unfold maxLen; omega) (by omega) (by simp) ?_; intro gg cp w7 hown1 hgrow hat
         have x6 := (hgrow.cell_far ⟨G', j, none⟩ (by simp; omega) (by show some G' ≠ some w6.heap.size; simp; omega)).trans (r0' _)
         have x7 := (hgrow.cell_far ⟨w5.heap.size, 0, none⟩ (by simp; omega) (by show some w5.heap.size ≠ some w6.heap.size; simp; omega)).trans (o0' _)
         have z6 := (hgrow.frozen_far ⟨G', j, none⟩ (by simp; omega) (by show some G' ≠ some w6.heap.size; simp; omega)).trans (z0' _)))
    all_goals
      have hown1 := hown1
      rw [← HL.out] at hown1
      obtain ⟨e1, e2, e3, e4, e5⟩ := push_end HA6.out HR6.out HO6.out hlo hj hgrow hown1
      rw [HL.out] at e1 e2 e3 e4 e5
      have E4 := Lib.hid e4
      have E5 := Lib.hid e5
      clear e4 e5 x6 x7 z6 hat hgrow hown1
      have o0 := e1.cell 0
      have o1 := e1.cell 1
      have q0 := e2.cell 0
      have q1 := e2.cell 1
      have z0 := e2.free 0
      have z1 := e2.free 1
      have p0 := e3.cell 0
      have p1 := e3.cell 1
      simp only [List.getElem?_toArray, List.getElem?_cons_zero, List.getElem?_cons_succ] at o0 o1 q0 q1 p0 p1
      unfold putR at p0 p1
      have P0 := Lib.hid p0
      have P1 := Lib.hid p1
      unfold putR at E4 E5
      clear p0 p1 e1 e2 e3
      go_wp2_with fail
      have p0 := P0.out
      have p1 := P1.out
      (try simp only [Exit.inBlock, Exit.then])
      refine bodyPost_ret (v := .tuple #[.agg #[.slice (some ⟨G', 0, none⟩) r.n r.n, .int .i64 (r.places : Int)], .bool true]) (by simp [results, Try.results24, go_sem, p0, p1]) rfl ?_
      exact ⟨G', rfl, ⟨_, E4.out⟩, E5.out⟩
  · have h6' : decide ((r.places : Int) ≤ (r.many : Int)) = false := decide_eq_false (by omega)
    have h6'' : ¬ (r.places : Int) ≤ (r.many : Int) := by omega
    rw [h5]
    have hmany : ∀ v, RefAt v O G vs r → Calls Try.prog 60 #[.agg #[.slice (some ⟨G, 0, none⟩) r.n r.n, .int .i64 (r.places : Int)]] v fun e w' => e = .returned (.int .i64 (r.many : Int)) ∧ Below v.heap.size v w' := fun v hv => rmany_c hn hlen v hv
    go_region_held3 (fun w' => w'.cell? ⟨w.heap.size, 0, none⟩ = some (.slice (some ⟨G, 0, none⟩) r.n r.n) ∧ w'.cell? ⟨w.heap.size, 1, none⟩ = some (.int .i64 (r.places : Int)) ∧ Asks w O G vs r w')
      (first | exact ⟨x0, x1, hA⟩ | exact asksP (by assumption) (by assumption) | exact asksPd (by assumption) | exact asksPd ⟨x0, x1, hA⟩ | exact asksPn _ ⟨x0, x1, hA⟩ | exact asksPn _ (by assumption) | go_keep)
      (first | (go_at_call 60; refine (hmany _ (asksR (by assumption))).mono ?_; rintro e v ⟨rfl, hv⟩))
    have hAv : Asks w O G vs r v := asksA (by assumption)
    clear x0 x1
    have x0 := hAv.box.cell 0
    have x1 := hAv.box.cell 1
    simp only [List.getElem?_toArray, List.getElem?_cons_zero, List.getElem?_cons_succ] at x0 x1
    go_wp2_with fail
    refine (hdrop _ hAv.ref).mono ?_
    rintro e w5 ⟨G', vs', rfl, hR5, hb5, hnn⟩
    have hA5 := hAv.later hb5
    have hlo : w.heap.size + 1 < G' := by
      have h1 := hR5.noG
      have h2 := hAv.res.lt
      omega
    have hR6 := (hR5.less (O' := fun b => b < w.heap.size) (fun b hb => by have := hAv.below.size; show b < _; omega)).alloc (.cells #[.slice (some ⟨G', 0, none⟩) r.n r.n, .int .i64 (r.places : Int)] 29)
    have hO6 := Blk.new w5 29 #[.slice (some ⟨G', 0, none⟩) r.n r.n, .int .i64 (r.places : Int)]
    have hA6 := hA5.later ((Below.refl _ w5).alloc (Nat.le_refl _) (.cells #[.slice (some ⟨G', 0, none⟩) r.n r.n, .int .i64 (r.places : Int)] 29))
    obtain ⟨g, c, hgv⟩ := hnn j hj
    clear hA5 hR5 hnn hdrop x0 x1
    go_upto_region 5 with (fail)
    generalize w5.alloc (.cells #[.slice (some ⟨G', 0, none⟩) r.n r.n, .int .i64 (r.places : Int)] 29) = w6 at *
    have o0 := hO6.cell 0
    have o1 := hO6.cell 1
    simp only [List.getElem?_toArray, List.getElem?_cons_zero, List.getElem?_cons_succ] at o0 o1
    have r0 := (hR6.at_ (i := j) hj).1
    rw [hgv] at r0
    have hrow := hR6.row j hj
    rw [hgv] at hrow
    have hrow : w6.ownsRow 0 9 1 (.slice (some ⟨g, 0, none⟩) (strike k (r.l j)).length c) (strike k (r.l j)).length (strsV (strike k (r.l j))) := hrow
    have hsl : (strike k (r.l j)).length < 100000 := Nat.lt_of_le_of_lt (strike_le _ _) (hlen j)
    have hkey := World.ownsRow_lit (size := 1) (e := 9) (base := w6.heap.size) w6 #[.string (str k)] 1 (Nat.le_refl _) (by unfold maxLen; omega) rfl
    have r0' := fun o => (World.cell?_of_block (a := ⟨G', j, none⟩) (Below.heap_alloc w6 o G' hR6.blk.lt)).trans r0
    have z0' := fun o => (World.frozen?_of_block (a := ⟨G', j, none⟩) (Below.heap_alloc w6 o G' hR6.blk.lt)).trans (hR6.blk.free j)
    have o0' := fun o => (World.cell?_of_block (a := ⟨w5.heap.size, 0, none⟩) (Below.heap_alloc w6 o _ hO6.lt)).trans o0
    have hnews := (hrow.alloc (.cells #[.string (str k)] 9)).cells (g := g) rfl
    have hGl := hR6.blk.lt
    have hOl := hO6.lt
    have HR6 := Lib.hid hR6
    have HO6 := Lib.hid hO6
    have HA6 := Lib.hid hA6
    generalize hL : strike k (r.l j) = L at *
    have HL := Lib.hid hL
    clear hL
    go_region_law (first
      | (refine step_append_any _ (by rfl) _ _ _ (by rfl) w6.heap.size 9 i0 _ 1 16 Try.underlying49 hi0 hz0 hz1 hz2 rfl (by omega) (.slice (some ⟨w6.heap.size, 0, none⟩) 1 1) 1 [.string (str k)] (by rfl) hkey.drew ⟨g, 0, none⟩ L.length c (strsV L) (by rfl) (by simp [strsV]) hnews (strsV_one L) (by omega) (by unfold maxLen; omega) (by omega) (by simp) ?_; intro gg cp w7 hown1 hgrow hat
         have x6 := (hgrow.cell_far ⟨G', j, none⟩ (by simp; omega) (by show some G' ≠ some w6.heap.size; simp; omega)).trans (r0' _)
         have x7 := (hgrow.cell_far ⟨w5.heap.size, 0, none⟩ (by simp; omega) (by show some w5.heap.size ≠ some w6.heap.size; simp; omega)).trans (o0' _)
         have z6 := (hgrow.frozen_far ⟨G', j, none⟩ (by simp; omega) (by show some G' ≠ some w6.heap.size; simp; omega)).trans (z0' _)))
    all_goals
      have hown1 := hown1
      rw [← HL.out] at hown1
      obtain ⟨e1, e2, e3, e4, e5⟩ := push_end HA6.out HR6.out HO6.out hlo hj hgrow hown1
      rw [HL.out] at e1 e2 e3 e4 e5
      have E4 := Lib.hid e4
      have E5 := Lib.hid e5
      clear e4 e5 x6 x7 z6 hat hgrow hown1
      have o0 := e1.cell 0
      have o1 := e1.cell 1
      have q0 := e2.cell 0
      have q1 := e2.cell 1
      have z0 := e2.free 0
      have z1 := e2.free 1
      have p0 := e3.cell 0
      have p1 := e3.cell 1
      simp only [List.getElem?_toArray, List.getElem?_cons_zero, List.getElem?_cons_succ] at o0 o1 q0 q1 p0 p1
      unfold putR at p0 p1
      have P0 := Lib.hid p0
      have P1 := Lib.hid p1
      unfold putR at E4 E5
      clear p0 p1 e1 e2 e3
      go_wp2_with fail
      have p0 := P0.out
      have p1 := P1.out
      (try simp only [Exit.inBlock, Exit.then])
      refine bodyPost_ret (v := .tuple #[.agg #[.slice (some ⟨G', 0, none⟩) r.n r.n, .int .i64 (r.places : Int)], .bool true]) (by simp [results, Try.results24, go_sem, p0, p1]) rfl ?_
      exact ⟨G', rfl, ⟨_, E4.out⟩, E5.out⟩
end
end Go.Proofs.Ytfhlnidjneaieaa.Ringy
