/- strings.Builder once more: a written text leaves all other memory but rows of bytes. No condition but that the text is of at most 2^40 bytes. The program's own bytes of lists. The only condition: they are few, and short. -/
import Derived.Test.YtkiabladmgagdabGreatDoorRingRoundAll
import Derived.Test.YtkiabladmgagdabGreatDoorBuildKeptAll
import Derived.Lib.OthersKept
import Derived.Test.YtkiabladmgagdabGreatDoorSq
namespace Go.Proofs.YtkiabladmgagdabGreatDoor.Ringy
open Go.ChangeShapes Go.WideShapes Go.ChangeAt Go.RowKit Go.Shelf
open Wirey (Blk Row str str_size str_list Kp Bld bld_byte bld_cells bcheck_fresh bcheck_used)
open Go.ChangeMaps Go.Maps

structure Kb (b : Nat) (w w' : World) : Prop where
 below : Below b w w'
 oth : Lib.OthersKept 5 (some b) w w'
theorem Kb.refl (b : Nat) (w : World) : Kb b w w := ⟨Below.refl _ _, Lib.OthersKept.refl _ _ _⟩
theorem Kb.trans {b : Nat} {u v w : World} (h : Kb b u v) (k : Kb b v w) : Kb b u w := ⟨h.below.trans k.below, h.oth.trans k.oth⟩
theorem Kb.of_below {b : Nat} {w w' : World} (h : Below w.heap.size w w') (hb : b ≤ w.heap.size) : Kb b w w' := ⟨h.mono hb, fun k _ hk _ _ => (h.block k (Array.getElem?_eq_some_iff.1 hk).1).trans hk⟩
theorem Kb.keeps {b : Nat} {w w' : World} (h : Kb b w w') (hb : ∃ c t fz, w.heap[b]? = some (.cells c t fz)) : KeepsOthers w w' :=
 ⟨h.below.size, fun k o hk ho => h.oth k o hk (fun e => by cases e; obtain ⟨c, t, fz, h1⟩ := hb; rw [h1] at hk; cases hk; cases ho) (fun c fz e => by subst e; cases ho)⟩
theorem bld_is {w : World} {b : Nat} {l : List UInt8} (h : Bld w b l) : ∃ p v, w.heap[b]? = some (.cells #[p, v] 98 (0, 0)) ∧ w.ownsRow b 5 1 v (Lib.byteCells l).length (Lib.byteCells l) ∧ v.ownBlock ≠ some b := by
 obtain ⟨p, _, v, h1, h2, h3⟩ := h.at_
 exact ⟨p, v, h1, h2, h3⟩
theorem own_kind {w : World} {B : Nat} {e : TypeId} {size : Nat} {v : Value} {n : Nat} {xs : List Value} (h : w.ownsRow B e size v n xs) : ∀ g, v.ownBlock = some g → ∃ c fz, w.heap[g]? = some (.cells c e fz) := by
 intro g hg
 rcases h.2 with ⟨rfl, _⟩ | ⟨g', cap, cur, rfl, _, hgg, _⟩
 ·simp [Value.ownBlock] at hg
 ·simp [Value.ownBlock] at hg
  subst hg
  exact ⟨cur, _, hgg⟩
theorem bld_turn {w w' : World} {b : Nat} {l : List UInt8} {row : Option Nat} (h : Bld w b l) (hg : w.grownBy w' row) (hr : ∀ r, row = some r → ∃ o : Obj, w.heap[r]? = some o ∧ o.isCells = false) : Bld w' b l := by
 have hb := h.lt
 have key : ∀ p, Lib.BuilderAt 98 5 b b p (Lib.byteCells l) w → Lib.BuilderAt 98 5 b b p (Lib.byteCells l) w' := by
  rintro p ⟨h1, v, h2, h3, h4⟩
  refine ⟨h1, v, (hg.block b hb (fun e => ?_)).trans h2, ownsRow_stay h3 (fun g e => hg.block g (h3.lt g e).2 (fun e2 => ?_)), h4⟩
  ·obtain ⟨o, ho, hc⟩ := hr b e.symm
   rw [h2] at ho; cases ho; cases hc
  ·obtain ⟨o, ho, hc⟩ := hr g e2.symm
   obtain ⟨c, fz, hcc⟩ := own_kind h3 g e
   rw [hcc] at ho; cases ho; cases hc
 rcases h with h | h
 ·exact .inl (key _ h)
 ·exact .inr (key _ h)
theorem bcheck_y (b : Nat) (l : List UInt8) (w : World) (h : Bld w b l) :
  Calls Tryz.prog 80 #[.pointer (some ⟨b, 0, none⟩)] w fun e w' => e = .returned (.tuple #[]) ∧ Lib.BuilderAt 98 5 b b (.pointer (some ⟨b, 0, none⟩)) (Lib.byteCells l) w' ∧ Kb b w w' := by
 rcases h with h | h
 ·refine (bcheck_fresh b w h.cell0 h.shape h.frozen0).mono ?_
  rintro e w' ⟨rfl, rfl⟩
  exact ⟨rfl, h.used _, (Below.refl b w).setCell (p := ⟨b, 0, none⟩) (Nat.le_refl _) _, (Lib.OthersKept.refl _ (some b) w).setCell ⟨b, 0, none⟩ rfl _⟩
 ·refine (bcheck_used b w h.cell0).mono ?_
  rintro e w' ⟨rfl, rfl⟩
  exact ⟨rfl, h, Kb.refl b _⟩
set_option maxHeartbeats 2000000 in
set_option maxRecDepth 100000 in
theorem bws_y (b : Nat) (l s : List UInt8) (w : World) (h : Bld w b l) (hlen : l.length + s.length ≤ 1099511627776) :
  Calls Tryz.prog 45 #[.pointer (some ⟨b, 0, none⟩), .string (str s)] w fun e w' => e = .returned (.tuple #[.int .i64 s.length, .nilIface]) ∧ Bld w' b (l ++ s) ∧ Kb b w w' := by
 obtain ⟨i0, hi, hz0, hz1, hz2⟩ := info_parts bld_byte
 have hsz := str_size s
 have hlt0 := h.lt
 go_enter Tryz.func45, Tryz.ntmps45
 go_wp2_with (go_at_call 80; refine (bcheck_y b l _ h).mono ?_)
 rintro e w1 ⟨rfl, ⟨hB, v, hbk, hown, hne⟩, hb1⟩
 have c0 : w1.cell? ⟨b, 0, none⟩ = some (.pointer (some ⟨b, 0, none⟩)) := by rw [Lib.cell_of_heap hbk]; rfl
 have c1 : w1.cell? ⟨b, 1, none⟩ = some v := by rw [Lib.cell_of_heap hbk]; rfl
 have hlt : b < w1.heap.size := Nat.lt_of_lt_of_le hlt0 hb1.below.size
 go_wp2_with (at_builtin; refine Lib.wpList_append_own_string _ rfl _ _ 96 9 rfl b 5 i0 Tryz.underlying96 Tryz.underlying9 hi hz0 hz1 hz2 _ _ _ rfl hown (str s) rfl ?c3 ?c4 ?c5 ?_)
 case c3 => rw [hsz, Lib.byteCells_length]; unfold maxLen; omega
 case c4 => rw [hsz, Lib.byteCells_length]; omega
 case c5 => omega
 intro v' w2 hown' hgrow _
 have hb2 : w2.heap[b]? = some (.cells #[.pointer (some ⟨b, 0, none⟩), v] 98 (0, 0)) := by
  rw [hgrow.block b hlt (fun e => hne e.symm)]
  exact hbk
 have d0 : w2.cell? ⟨b, 0, none⟩ = some (.pointer (some ⟨b, 0, none⟩)) := by rw [Lib.cell_of_heap hb2]; rfl
 have d1 : w2.cell? ⟨b, 1, none⟩ = some v := by rw [Lib.cell_of_heap hb2]; rfl
 have f1 : w2.frozen? ⟨b, 1, none⟩ = false := Lib.frozen_of_heap hb2 1
 obtain ⟨ao, n', cap, rfl⟩ : ∃ ao n' cap, v' = .slice ao n' cap := by
  rcases hown'.2 with ⟨hv, _⟩ | ⟨g, cap, cur, hv, _⟩
  ·exact ⟨_, _, _, hv⟩
  ·exact ⟨_, _, _, hv⟩
 go_wp2
 go_ret2
 refine ⟨rfl, .inr ?_, ?_⟩
 ·refine Lib.BuilderAt.put (T := 98) (e := 5) (Nat.le_refl _) hb2 (bs' := Lib.byteCells (l ++ s)) ?_ (by decide)
  have e1 : Lib.byteCells (l ++ s) = Lib.byteCells l ++ Lib.strCells (str s) := Lib.byteCells_append l s
  rw [e1, List.length_append, Lib.strCells_length]
  exact hown'
 ·exact ⟨(hb1.below.grown hgrow (by have := hb1.below.size; omega) (fun k hk => (hown.lt k hk).1)).setCell (p := ⟨b, 1, none⟩) (Nat.le_refl _) _, (hb1.oth.grown hgrow (own_kind hown)).setCell ⟨b, 1, none⟩ rfl _⟩

set_option maxHeartbeats 2000000 in
set_option maxRecDepth 100000 in
theorem bstr_y (b : Nat) (l : List UInt8) (w : World) (h : Bld w b l) (h0 : l ≠ []) :
  Calls Tryz.prog 49 #[.pointer (some ⟨b, 0, none⟩)] w fun e w' => e = .returned (.string (str l)) ∧ Kb b w w' := by
 obtain ⟨p, v, hbk, hown, hne⟩ := bld_is h
 rw [Lib.byteCells_length] at hown
 have hl0 : l.length ≠ 0 := by simpa using h0
 obtain ⟨g, cap, cur, rfl, hbg, hg, hnc, hcm, hcs, htake⟩ : ∃ g cap cur, v = .slice (some ⟨g, 0, none⟩) l.length cap ∧ b ≤ g ∧ w.heap[g]? = some (.cells cur 5 (0, 0)) ∧ l.length ≤ cap ∧ cap ≤ maxLen ∧ cur.size = cap * 1 ∧ cur.toList.take (l.length * 1) = Lib.byteCells l := by
  rcases hown.2 with ⟨_, hz⟩ | ⟨g, cap, cur, hv, r⟩
  ·exact absurd hz hl0
  ·exact ⟨g, cap, cur, hv, r⟩
 have c1 : w.drew.cell? ⟨b, 1, none⟩ = some (.slice (some ⟨g, 0, none⟩) l.length cap) := by
  have : w.drew.heap[b]? = some (.cells #[p, .slice (some ⟨g, 0, none⟩) l.length cap] 98 (0, 0)) := hbk
  rw [Lib.cell_of_heap this]; rfl
 have hSD : (Builtin.unsafeSliceData_ #[96] 154 #[.slice (some ⟨g, 0, none⟩) l.length cap]).run Tryz.prog w.drew = .ok (.pointer (some ⟨g, 0, none⟩)) w.drew :=
  Lib.run_unsafeSliceData_row _ _ _ _ _ _ (by omega)
 have hUS : (Builtin.unsafeString_ #[154, 3] 9 #[.pointer (some ⟨g, 0, none⟩), .int .i64 l.length]).run Tryz.prog w.drew = .ok (.string (str l)) (w.drew.freeze ⟨g, 0, none⟩ l.length) := by
  refine Lib.run_unsafeString_row w.drew 154 3 9 5 Tryz.underlying154 bld_cells g cur.size (by have hg' : w.drew.heap[g]? = some (.cells cur 5 (0, 0)) := hg; simp [World.shape?, hg']) l h0 (by omega) (by unfold maxLen at hcm; omega) ?_
  intro j x hx
  exact hown.cells (g := g) rfl j (.int .u8 x.toNat) (by simp [Lib.byteCells, hx])
 have hcm2 : l.length ≤ 9223372036854775807 := by unfold maxLen at hcm; omega
 have hgk : ∃ c fz, w.drew.heap[(⟨g, 0, none⟩ : Addr).block]? = some (.cells c 5 fz) := ⟨cur, _, hg⟩
 clear hcs htake hcm
 go_enter Tryz.func49, Tryz.ntmps49
 go_wp2
 go_region
 all_goals (go_wp2; go_ret; exact ⟨rfl, Lib.below_freeze (Below.drew (Below.refl b w)) (p := ⟨g, 0, none⟩) hbg _, (Lib.OthersKept.refl _ _ _).drew.freeze _ _ hgk⟩)
end Go.Proofs.YtkiabladmgagdabGreatDoor.Ringy
namespace Go.Proofs.YtkiabladmgagdabGreatDoor.Ringy
open Go.ChangeShapes Go.WideShapes Go.ChangeAt Go.RowKit Go.Shelf
open Wirey (Blk Row str str_size str_list Kp Bld enc txt num_c text_c)
open Go.ChangeMaps Go.Maps

attribute [local go_sem] Oper.semAt_some

set_option maxRecDepth 100000 in
set_option maxHeartbeats 2000000 in
theorem values1_cut (cut : Key → Key) (n : Nat) (hn : 1 ≤ n) (l B : Nat) (v : Value) (xs : List Key) (hlen : xs.length ≤ 1000000) (hcut : ∀ x ∈ xs, cut x = x) (J Jx : List Key → World → Prop)
  (hY : ∀ pre x W, J pre W → pre.length < xs.length → YieldAt Fence.wide (n - 1) Tryz.prog l #[.string (str (cut x))] W fun e W' =>
    (e = .returned (.bool true) ∧ J (pre ++ [x]) W' ∧ RowK v W W') ∨ (e = .returned (.bool false) ∧ Jx (pre ++ [x]) W'))
  (W : World) (hB : W.cell? ⟨B, 0, none⟩ = some v) (hrow : W.ownsRow 0 9 1 v xs.length (strsV xs)) (h0 : J [] W) :
  CallsIn Fence.wide n Tryz.prog 240 #[.func (.yield l) #[] #[], .pointer (some ⟨B, 0, none⟩)] W fun e W' => (∃ v, e = .returned v) ∧
   ((∃ ys, ys = xs ∧ J ys W') ∨ (∃ pre, pre <+: xs ∧ Jx pre W')) := by
 obtain ⟨a, c, rfl⟩ := own_form hrow
 refine callsIn_of_wp Tryz.func240 rfl trivial ?_ rfl
 simp only [Tryz.ntmps240, List.size_toArray, List.length_cons, List.length_nil, Nat.reduceAdd, Nat.reduceSub, Array.replicate_succ, Array.replicate_zero, List.push_toArray, List.append_toArray, List.nil_append, List.cons_append]
 have HCUT := Lib.hid hcut
 clear hcut
 gi_wp2
 gi_loopw [7] (fun i wr => ∃ k : Nat, k ≤ xs.length ∧ i = .int .i64 k ∧ J (xs.take k) wr ∧ RowK (.slice a xs.length c) W wr)
  (fun i _ => xs.length - (intOf i).toNat)
 case atStart => exact ⟨0, Nat.zero_le _, rfl, h0, fun _ _ => rfl⟩
 case round =>
  obtain ⟨k, hk, rfl, hJs, hnx⟩ := hrel
  by_cases hlt : k < xs.length
  ·obtain ⟨g, cap, hv, -, -⟩ := hrow.form (by omega)
   cases hv
   have hcx' : wr.cell? ⟨g, k, none⟩ = some (.string (str (xs[k]?.getD []))) := by
    have h2 := ownsRow_stay (w' := wr) hrow hnx
    rw [h2.cellAt k (by omega)]
    exact strsV_at hlt
   obtain ⟨fn, tmps, assign, body, hy, hR⟩ := hY _ (xs[k]?.getD []) wr hJs (by rw [List.length_take]; omega)
   rw [HCUT.out _ (by rw [List.getElem?_eq_getElem hlt]; exact List.getElem_mem hlt)] at hy
   have HTK := Lib.hid (take_snoc hlt)
   generalize xs[k]?.getD [] = x at *
   gi_wp2
   refine hR.mono ?_
   rintro e W3 (⟨rfl, hJ3, hk3⟩ | ⟨rfl, hJx3⟩)
   ·gi_wp2
    go_roundw
    case rel => exact ⟨k + 1, by omega, by simp, by rw [HTK.out]; exact hJ3, rowK_t hnx hk3⟩
    case measure => simp [intOf]; omega
   ·gi_wp2
    refine bodyPost_ret (results_none rfl _ _ _) rfl ?_
    exact ⟨⟨_, rfl⟩, .inr ⟨_, by rw [← HTK.out]; exact List.take_prefix _ _, hJx3⟩⟩
  ·obtain rfl : k = xs.length := by omega
   gi_wp2
   go_end0
   exact ⟨⟨_, rfl⟩, .inl ⟨_, List.take_length, hJs⟩⟩

theorem range_cut (cut : Key → Key) {g : Operand} {ps : Array Tmp} {assign body : Code} {Q : Exit → Act → World → Prop} {a : Act} {w : World} {B n₀ : Nat} {l : List Key} {v : Value} (hcut : ∀ x ∈ l, cut x = x) (hg : a.eval g = keysF B) (hb : Blk w B 103 #[v]) (hrow : w.ownsRow n₀ 9 1 v l.length (strsV l)) (hlen : l.length ≤ 1000000) (hps : ps.size = 1)
  (I : List Key → World → Prop) (Ix : Code → List Key → World → Prop) (hI : OwnFrom w.heap.size I) (hIx : ∀ c, OwnFrom w.heap.size (Ix c)) (h0 : I [] w) (a₁ : Key → Act)
  (hassign : ∀ (r : Nat) (x : Key) (W : World) (K : Act → World → Prop), K (a₁ x) W → assign.wpIn (Fence.wide.inRound r) 3 Tryz.prog (Exit.then K (fun _ _ _ => False)) { tmps := (ps.zip #[Value.string (str (cut x))]).foldl (fun t (p, v) => t.setIfInBounds p v) a.tmps, defers := [] } W)
  (hbody : ∀ (r : Nat) (pre : List Key) (x : Key) (W : World), I pre W → pre.length < l.length → body.wpIn (Fence.wide.inRound r) 3 Tryz.prog (ownPostG w.heap.size (RowK v) I Ix (pre ++ [x]) W) (a₁ x) W)
  (hdone : ∀ (D : Nat) (W : World), w.heap.size ≤ D → I l W → W.heap[D]? = some (.deferred (some [])) → Q .normal { a with defers := { target := .collected D, args := #[] } :: a.defers } W)
  (hstop : ∀ (D : Nat) (c : Code) (pre : List Key) (W : World), w.heap.size ≤ D → pre <+: l → Ix c pre W → W.heap[D]? = some (.deferred (some [])) → c.wp Tryz.prog Q { a with defers := { target := .collected D, args := #[] } :: a.defers } W) :
  (Code.rangeFunc g ps assign body).wp Tryz.prog Q a w := by
 have hv := hrow.lt
 have hseq : SeqStopsK Fence.wide 4 Tryz.prog 240 #[.pointer (some ⟨B, 0, none⟩)] (fun x : Key => #[Value.string (str (cut x))]) (RowK v) (fun ys => ys = l) (fun pre => pre <+: l) l.length w := fun k J Jx W hW _ _ hY h0 =>
  values1_cut cut 4 (by omega) k B v l hlen hcut J Jx hY W ((hW.cell (p := ⟨B, 0, none⟩) hb.lt).trans (hb.cell 0)) (ownsRow_stay (own_low hrow) fun b hb => hW.block b (hrow.lt b hb).2) h0
 refine (wpIn_wide (n := 5)).1 (wpIn_rangeFunc_ownG (F := Fence.wide) (n := 5) (w := w) rfl (by omega) (gf := 240) (lb := #[.pointer (some ⟨B, 0, none⟩)]) hg trivial (enters_of Tryz.func240 (by kernel_rfl) rfl)
   hseq rowK_t (rowK_b fun g e => (hv g e).2) (Below.refl _ _) (fun _ => hps.symm) I Ix hI hIx h0 a₁ hassign hbody
   (fun D ys W hD hy hI2 hK => by subst hy; exact hdone D W hD hI2 hK) (fun D c pre W hD hp hx hK => wpIn_wide.2 (hstop D c pre W hD hp hx hK)))

def cut (x : Key) : Key := if x.length ≤ 64 then x else []
theorem cut_len (x : Key) : (cut x).length ≤ 64 := by unfold cut; split <;> simp_all
theorem cut_of {x : Key} (h : x.length ≤ 64) : cut x = x := by unfold cut; rw [if_pos h]

theorem At.lens {w : World} {m : Rm} {r : Rg} (h : At w m r) : w.cell? ⟨m.R, 1, none⟩ = some (.slice (some ⟨m.Lb, 0, none⟩) r.n r.n) ∧ ∀ j, j < r.n → w.cell? ⟨m.Lb, j, none⟩ = some (.int .i64 ((r.l j).length : Int)) := by
 obtain ⟨lens, S, F, D, pos, h⟩ := h
 have h1 := h.raw.cells.2.1
 rw [h.lay.len_len] at h1
 exact ⟨h1, fun j hj => h.raw.lenAt (h.lay.len_at hj)⟩

theorem putTo_ne {r : Rg} (hn : r.n ≤ 100) (j : Nat) : r.putTo j ≠ [] := by
 intro e
 have h := congrArg List.length e
 unfold Rg.putTo at h
 have := (Wirey.enc_len (n := r.n) (by omega)).1
 rw [List.length_append, List.length_append] at h
 simp only [List.length_nil] at h
 omega
structure Outs (w : World) (m : Rm) (r : Rg) (t : List UInt8) (x : World) : Prop where
 own : ∀ b, m.own b → b < w.heap.size
 at_ : At x m r
 bld : Bld x w.heap.size t
 kb : Kb w.heap.size w x
section
variable {w x y : World} {m : Rm} {r : Rg} {t t' : List UInt8}
theorem Outs.new (hA : At w m r) : Outs w m r [] (w.alloc (.cells #[.pointer none, .slice none 0 0] 98)) := ⟨hA.lt, hA.alloc _, Bld.new w, .of_below ((Below.refl _ w).alloc (Nat.le_refl _) _) (Nat.le_refl _)⟩
theorem Outs.wrote (h : Outs w m r t x) (hd : Bld y w.heap.size t') (hk : Kb w.heap.size x y) : Outs w m r t' y := ⟨h.own, h.at_.stay (fun b hb => hk.below.block b (h.own b hb)), hd, h.kb.trans hk⟩
theorem Outs.onto (h : Outs w m r t x) (hb : Below x.heap.size x y) : Outs w m r t y := h.wrote (h.bld.grown hb) (.of_below hb (Nat.le_of_lt h.bld.lt))
theorem Kb.turn {b B : Nat} {u W W' : World} {row : Option Nat} (h : Kb b u W) (hg : W.grownBy W' row) (hr : ∀ k, row = some k → B ≤ k) (hu : u.heap.size ≤ B) (hb : b ≤ W.heap.size) (hbB : b ≤ B) : Kb b u W' :=
 ⟨h.below.grown hg hb (fun k e => Nat.le_trans hbB (hr k e)), fun k o hk h1 h2 => by
   have hlt : k < u.heap.size := (Array.getElem?_eq_some_iff.1 hk).1
   have h3 := h.oth k o hk h1 h2
   rw [hg.block k (Array.getElem?_eq_some_iff.1 h3).1 (fun e => by have := hr k e.symm; omega)]
   exact h3⟩
theorem Outs.turn {B : Nat} {row : Option Nat} (h : Outs w m r t x) (hg : x.grownBy y row) (hr : ∀ k, row = some k → B ≤ k ∧ ∃ o : Obj, x.heap[k]? = some o ∧ o.isCells = false) (hB : w.heap.size ≤ B) : Outs w m r t y :=
 ⟨h.own, h.at_.stay (fun b hb => hg.block b (h.at_.lt b hb) (fun e => by have := (hr b e.symm).1; have := h.own b hb; omega)), bld_turn h.bld hg (fun k e => (hr k e).2), h.kb.turn hg (fun k e => (hr k e).1) hB (Nat.le_of_lt h.bld.lt) hB⟩
set_option maxHeartbeats 4000000 in
set_option maxRecDepth 100000 in
theorem exp_c (w : World) (hA : At w m r) (hs : r.Small) (hn0 : 0 < r.n) :
  Calls Tryz.prog 228 #[.pointer (some ⟨m.R, 0, none⟩)] w fun e w' => e = .returned (.string (str r.put)) ∧ Below w.heap.size w w' := by
 have hn := hs.n
 have hpl := hs.pl
 have hlen := hs.putTo
 have hn1 : ((r.n : Int) == 0) = false := by rw [beq_eq_false_iff_ne]; omega
 have e0 : enc r.n ++ enc r.places = r.putTo 0 := r.putTo_zero.symm
 have hL0 := Lib.hid (flip (lists_c' w hA))
 have hO := Outs.new hA
 refine calls_marks Tryz.func228 rfl ?_
 simp only [Tryz.ntmps228, List.size_toArray, List.length_cons, List.length_nil, Nat.reduceAdd, Nat.reduceSub, Array.replicate_succ, Array.replicate_zero, List.push_toArray, List.append_toArray, List.nil_append, List.cons_append]
 have HLEN := Lib.hid hlen
 clear hlen
 go_wp2_with fail
 refine hL0.out.mono ?_
 rintro e w' ⟨rfl, rfl⟩
 go_wp2_with fail
 generalize w.alloc (.cells #[.pointer none, .slice none 0 0] 98) = w1 at *
 refine (flip (lists_c' w1 hO.at_)).mono ?_
 rintro e w' ⟨rfl, rfl⟩
 go_wp2_with fail
 refine (num_c r.n (by omega) _).mono ?_
 rintro e v1 ⟨rfl, hb1⟩
 have hO1 := hO.onto hb1
 clear hO hb1
 go_wp2_with fail
 have l1 := Lib.hid (enc_ten (n := r.n) (by omega))
 have l2 := Lib.hid (enc_ten (n := r.places) (by omega))
 refine (bws_y _ [] (enc r.n) _ hO1.bld (by have := l1.out; rw [List.length_nil]; omega)).mono ?_
 rintro e v2 ⟨rfl, hd2, hb2⟩
 have hO2 := hO1.wrote hd2 hb2
 clear hO1 hd2 hb2
 rw [List.nil_append] at hO2
 have c0 : v2.cell? ⟨m.R, 0, none⟩ = some (.int .i64 r.places) := by obtain ⟨_, _, _, _, _, hF⟩ := hO2.at_; exact hF.raw.cells.1
 go_wp2_with fail
 refine (num_c r.places (by omega) _).mono ?_
 rintro e v3 ⟨rfl, hb3⟩
 have hO3 := hO2.onto hb3
 clear hO2 hb3 c0
 go_wp2_with fail
 refine (bws_y _ (enc r.n) (enc r.places) _ hO3.bld (by have := l1.out; have := l2.out; omega)).mono ?_
 rintro e v4 ⟨rfl, hd4, hb4⟩
 have hO4 := hO3.wrote hd4 hb4
 clear hO3 hd4 hb4
 rw [e0] at hO4
 clear e0
 have c1 := hO4.at_.lens.1
 go_wp2_with fail
 refine wp_loop (fun a' w' => ∃ (j : Nat) (ds : List Deferred) (u4 u5 u6 u28 u29 u30 u31 u32 u33 u34 u35 u36 u37 u38 u39 u40 u41 u42 u43 : Value), (j ≤ r.n ∧ Outs w m r (r.putTo j) w' ∧ Marked w.heap.size w' ds) ∧ a' = { tmps := #[.pointer (some ⟨m.R, 0, none⟩), undef, .string ⟨#[]⟩, .pointer (some ⟨w.heap.size, 0, none⟩), u4, u5, u6, .pointer (some ⟨m.R, 0, none⟩), .int .i64 r.n, .bool false, .pointer (some ⟨m.R, 0, none⟩), .int .i64 r.n, .int .u64 r.n, .string (str (enc r.n)), .tuple #[.int .i64 ((enc r.n).length : Int), .nilIface], .pointer (some ⟨m.R, 0, none⟩), .pointer (some ⟨m.R, 0, none⟩), .pointer (some ⟨m.R, 0, none⟩), .int .i64 r.places, .int .u64 r.places, .string (str (enc r.places)), .tuple #[.int .i64 ((enc r.places).length : Int), .nilIface], .pointer (some ⟨m.R, 0, none⟩), .pointer (some ⟨m.R, 0, none⟩), .pointer (some ⟨m.R, 1, none⟩), .slice (some ⟨m.Lb, 0, none⟩) r.n r.n, .int .i64 r.n, .int .i64 j, u28, u29, u30, u31, u32, u33, u34, u35, u36, u37, u38, u39, u40, u41, u42, u43, undef], defers := ds }) (fun a' _ => r.n - (intOf (a'.tmps.getD 27 undef)).toNat) ?_ ?_
 ·refine ⟨0, [], ?_⟩
  (repeat apply Exists.intro)
  exact ⟨⟨Nat.zero_le _, hO4, trivial⟩, rfl⟩
 ·rintro a' wr ⟨j, ds, u4, u5, u6, u28, u29, u30, u31, u32, u33, u34, u35, u36, u37, u38, u39, u40, u41, u42, u43, ⟨hj, hP, hM⟩, rfl⟩
  clear hO4 c1
  by_cases hlt : j < r.n
  ·have cj := hP.at_.lens.2 j hlt
   have hll := hs.len j hlt
   have hbn : decide ((j : Int) < (r.n : Int)) = true := decide_eq_true (by omega)
   have hnum := fun W => num_c (r.l j).length (by omega) W
   have HLL := Lib.hid hll
   have HEN := Lib.hid (enc_ten (n := (r.l j).length) (by omega))
   have hkey := Lib.hid (hs.key j hlt)
   go_wp2_with fail
   clear hll
   refine (hnum _).mono ?_
   rintro e w5 ⟨rfl, hb5⟩
   have hP5 := hP.onto hb5
   have hM5 := hM.keep (W' := w5) (fun k d hd hk => hb5.block k (hM.lt k d hd hk).2.1)
   clear hP hM hb5 hnum
   go_wp2_with fail
   have HLJ := HLEN.out j hj
   refine (bws_y _ (r.putTo j) (enc (r.l j).length) _ hP5.bld (by have := HEN.out; omega)).mono ?_
   rintro e w6 ⟨rfl, hd6, hb6⟩
   have hP6 := hP5.wrote hd6 hb6
   have hM6 := hM5.keep (W' := w6) (fun k d hd hk => by have h := (hM5.lt k d hd hk).2.2; rw [h]; exact (hb6.keeps ⟨_, _, _, (bld_is hP5.bld).choose_spec.choose_spec.1⟩).same k _ h rfl)
   clear hP5 hM5 hd6 hb6 HLJ
   go_wp2_with fail
   refine (keys_c w6 hP6.at_ hlt).mono ?_
   rintro e w7 ⟨B, rfl, hbox, hb7⟩
   have hP7 := hP6.onto hb7
   have hM7 := hM6.keep (W' := w7) (fun k d hd hk => hb7.block k (hM6.lt k d hd hk).2.1)
   have hb6l := hP6.bld.lt
   clear hP6 hM6
   obtain ⟨⟨v, hbv, hrow⟩, -⟩ := hbox
   have hkind := own_kind hrow
   have hvb := hrow.lt
   have HB7 := Lib.hid hb7.size
   clear hb7
   have HKE := Lib.hid (keysB_len (l := (r.l j)) hkey.out)
   go_wp2_with fail
   apply range_cut cut (B := B) (l := r.l j) (v := v) (I := fun pre W => Kb w.heap.size w7 W ∧ Outs w m r (r.putTo j ++ enc (r.l j).length ++ keysB (pre.map cut)) W) (Ix := fun _ _ _ => False)
   case hcut => exact fun x hx => cut_of (hkey.out x hx)
   case hg => rfl
   case hb => exact hbv
   case hrow => exact hrow
   case hlen => have := HLL.out; omega
   case hps => rfl
   case hI =>
    rintro s W W' row ⟨h1, h2⟩ hg hr
    have hle := Nat.le_of_lt hP7.bld.lt
    exact ⟨h1.turn hg (fun k e => (hr k e).1) (Nat.le_refl _) (Nat.le_of_lt h2.bld.lt) hle, h2.turn hg hr hle⟩
   case hIx => exact fun c s W W' row h _ _ => h
   case h0 => exact ⟨Kb.refl _ _, by simpa [keysB] using hP7⟩
   case hassign =>
    intro r x W K hK
    gi_wp2
    exact hK
   case hbody =>
    rintro rr pre x W ⟨hkb, hO⟩ hlen
    have hcl := cut_len x
    have HL := Lib.hid (keysB_len (l := pre.map cut) (fun k hk => by obtain ⟨y, _, rfl⟩ := List.mem_map.1 hk; exact cut_len y))
    have HN := Lib.hid hlen
    clear hlen
    gi_wp2_with fail
    refine ⟨trivial, (CallsIn.inRound _ (callsIn_wide.2 (text_c (cut x) (by omega) _))).mono ?_⟩
    rintro e W2 ⟨rfl, hb2⟩
    have hO2 := hO.onto hb2
    have hk2 : Kb w.heap.size W W2 := .of_below hb2 (Nat.le_of_lt hO.bld.lt)
    have HKB := Lib.hid (hkb.trans hk2)
    have HCL := Lib.hid hcl
    clear hb2 hcl
    gi_wp2_with fail
    refine ⟨trivial, (CallsIn.inRound _ (callsIn_wide.2 (bws_y _ _ (txt (cut x)) _ hO2.bld ?hlen))).mono ?_⟩
    case hlen =>
     have h1 := HL.out
     have h2 := HN.out
     have h3 := HLL.out
     have h4 := HEN.out
     have h5 := HLEN.out j hj
     have h6 : (txt (cut x)).length ≤ 74 := by
      have := HCL.out
      have := enc_ten (n := (cut x).length) (by omega)
      simp only [txt, List.length_append]
      omega
     rw [List.length_map] at h1
     simp only [List.length_append]
     omega
    rintro e W3 ⟨rfl, hd3, hb3⟩
    have hO3 := hO2.wrote hd3 hb3
    have hk3 := hk2.trans hb3
    have hks := hk3.keeps ⟨_, _, _, (bld_is hO.bld).choose_spec.choose_spec.1⟩
    have HO3 := Lib.hid hO3
    clear hO2 hO3 hd3
    gi_wp2_with fail
    refine ⟨hks.from _, fun g hg => ?_, HKB.out.trans hb3, ?_⟩
    ·obtain ⟨c, fz, hc⟩ := hkind g hg
     have hne : some g ≠ some w.heap.size := fun e => by have h1 := (hvb g hg).1; have h2 := hb6l; cases e; omega
     have h1 := hkb.oth g _ hc hne (fun _ _ e => by injection e with _ e2; exact absurd e2 (by decide))
     rw [h1]
     exact hk3.oth g _ h1 hne (fun _ _ e => by injection e with _ e2; exact absurd e2 (by decide))
    ·have := HO3.out
     rw [List.map_append, List.map_cons, List.map_nil, keysB_snoc, ← List.append_assoc]
     exact this
   case hdone =>
    rintro D W hD ⟨hkb, hO⟩ hK
    have hmap : (r.l j).map cut = r.l j := by
     have : ∀ l : List Key, (∀ k ∈ l, k.length ≤ 64) → l.map cut = l := fun l h => by
      induction l with
      | nil => rfl
      | cons a l ih => rw [List.map_cons, cut_of (h a (by simp)), ih (fun k hk => h k (by simp [hk]))]
     exact this _ hkey.out
    rw [hmap, ← r.putTo_succ] at hO
    have hds := hkb.keeps ⟨_, _, _, (bld_is hP7.bld).choose_spec.choose_spec.1⟩
    have hMW := hM7.keep (W' := W) (fun k d hd hk => by have h := (hM7.lt k d hd hk).2.2; rw [h]; exact hds.same k _ h rfl)
    have hMD : Marked w.heap.size W ({ target := .collected D, args := #[] } :: ds) := ⟨⟨D, rfl, Nat.le_trans (Nat.le_of_lt hP7.bld.lt) hD, hK, fun d' hd' e => by have := (hM7.lt D d' hd' e).2.1; omega⟩, hMW⟩
    have HMD := Lib.hid hMD
    have HO := Lib.hid hO
    clear hP7 hM7 hMW hMD hO hkb hds hK hmap hbv hrow hkind hvb
    go_wp2_with fail
    refine ⟨⟨j + 1, { target := .collected D, args := #[] } :: ds, ?_⟩, ?_⟩
    ·(repeat apply Exists.intro)
     exact ⟨⟨by omega, HO.out, HMD.out⟩, rfl⟩
    ·simp [intOf]; omega
   case hstop => exact fun D c pre W hD hpre h => h.elim
  ·obtain rfl : j = r.n := by omega
   have hbn : decide ((r.n : Int) < (r.n : Int)) = false := decide_eq_false (by omega)
   go_wp2_with fail
   refine (bstr_y _ (r.putTo r.n) _ hP.bld (putTo_ne hn _)).mono ?_
   rintro e w5 ⟨rfl, hb5⟩
   have hM5 := hM.keep (W' := w5) (fun k d hd hk => by have h := (hM.lt k d hd hk).2.2; rw [h]; exact (hb5.keeps ⟨_, _, _, (bld_is hP.bld).choose_spec.choose_spec.1⟩).same k _ h rfl)
   have hkb := hP.kb.trans hb5
   clear hP hM hb5
   go_wp2_with fail
   refine leave_marks (B := w.heap.size) (fun _ => results_tmp rfl _ _ _) _ _ hM5 (fun W' hb' => ⟨rfl, hkb.below.trans hb'⟩)
end
end Go.Proofs.YtkiabladmgagdabGreatDoor.Ringy
