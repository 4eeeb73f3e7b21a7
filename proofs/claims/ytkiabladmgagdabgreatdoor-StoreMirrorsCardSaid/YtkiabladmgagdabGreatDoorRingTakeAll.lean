/- The function that slices.Backward hands back, over a slice of texts: from the last text to the first. No condition. Keys that are laid from the last on: what the lists are between. It speaks of no program. The keys of a list off bytes that hold them. A list is filled with keys, from the last on. Take and Import of the bytes of lists. Nothing that was there turns but the Reader. -/
import Derived.Test.YtkiabladmgagdabGreatDoorRingExportAll
import Derived.Test.YtkiabladmgagdabGreatDoorRingRoundAll
import Derived.Test.YtkiabladmgagdabGreatDoorWireFlyAll
import Derived.Test.YtkiabladmgagdabGreatDoorSq
namespace Go.Proofs.YtkiabladmgagdabGreatDoor.Ringy
open Go.ChangeShapes Go.WideShapes Go.ChangeAt Go.RowKit Go.Shelf
open Wirey (Blk Row str str_size str_list Kp)
open Go.ChangeMaps Go.Maps

attribute [local go_sem] Oper.semAt_some

def bw (xs : List Key) : List (Nat × Key) := ((List.range xs.length).map fun i => (i, xs[i]?.getD [])).reverse
theorem bw_len (xs : List Key) : (bw xs).length = xs.length := by simp [bw]
theorem bw_snoc {xs : List Key} {q : Nat} (h : q < xs.length) : (bw xs).take (xs.length - q) = (bw xs).take (xs.length - (q + 1)) ++ [(q, xs[q]?.getD [])] := by
 have e : xs.length - q = (xs.length - (q + 1)) + 1 := by omega
 have hl : xs.length - (q + 1) < (bw xs).length := by rw [bw_len]; omega
 have hg : (bw xs)[xs.length - (q + 1)]? = some (q, xs[q]?.getD []) := by
  have h1 : xs.length - 1 - (xs.length - (q + 1)) = q := by omega
  unfold bw
  rw [List.getElem?_reverse (by simp; omega)]
  simp only [List.length_map, List.length_range, List.getElem?_map, h1]
  rw [List.getElem?_range h]
  rfl
 rw [e, List.take_add_one, hg]
 rfl
def RowB (v : Value) (B : Nat) (W W' : World) : Prop := RowK v W W' ∧ W'.heap[B]? = W.heap[B]?
theorem rowB_t {v : Value} {n : Nat} {A B C : World} (h : RowB v n A B) (k : RowB v n B C) : RowB v n A C := ⟨rowK_t h.1 k.1, k.2.trans h.2⟩
theorem rowB_b {v : Value} {B n₀ : Nat} (hv : ∀ g, v.ownBlock = some g → g < n₀) (hB : B < n₀) (W : World) (l : Nat) (o o' : Obj) (hl : n₀ ≤ l) (h1 : W.heap[l]? = some o) (h2 : o.isCells = false) (h3 : o.isWalk = false) : RowB v B W (W.putObj l o') :=
 ⟨rowK_b hv W l o o' hl h1 h2 h3, World.putObj_heap_other (by omega)⟩
set_option maxRecDepth 100000 in
set_option maxHeartbeats 2000000 in
theorem back1_in (cut : Key → Key) (n : Nat) (hn : 1 ≤ n) (l B : Nat) (v : Value) (xs : List Key) (hlen : xs.length ≤ 1000000) (hcut : ∀ x ∈ xs, cut x = x) (J Jx : List (Nat × Key) → World → Prop)
  (hY : ∀ pre (x : Nat × Key) W, J pre W → pre.length < xs.length → YieldAt Fence.wide (n - 1) Tryz.prog l #[.int .i64 x.1, .string (str (cut x.2))] W fun e W' =>
    (e = .returned (.bool true) ∧ J (pre ++ [x]) W' ∧ RowB v B W W') ∨ (e = .returned (.bool false) ∧ Jx (pre ++ [x]) W'))
  (W : World) (hB : W.cell? ⟨B, 0, none⟩ = some v) (hrow : W.ownsRow 0 9 1 v xs.length (strsV xs)) (h0 : J [] W) :
  CallsIn Fence.wide n Tryz.prog 186 #[.func (.yield l) #[] #[], .pointer (some ⟨B, 0, none⟩)] W fun e W' => (∃ v, e = .returned v) ∧
   ((∃ ys, ys = bw xs ∧ J ys W') ∨ (∃ pre, pre <+: bw xs ∧ Jx pre W')) := by
 obtain ⟨a, c, rfl⟩ := own_form hrow
 refine callsIn_of_wp Tryz.func186 rfl trivial ?_ rfl
 simp only [Tryz.ntmps186, List.size_toArray, List.length_cons, List.length_nil, Nat.reduceAdd, Nat.reduceSub, Array.replicate_succ, Array.replicate_zero, List.push_toArray, List.append_toArray, List.nil_append, List.cons_append]
 have HCUT := Lib.hid hcut
 clear hcut
 gi_wp2
 gi_loopw [3] (fun i wr => ∃ m : Nat, m ≤ xs.length ∧ i = .int .i64 ((m : Int) - 1) ∧ J ((bw xs).take (xs.length - m)) wr ∧ RowK (.slice a xs.length c) W wr ∧ wr.cell? ⟨B, 0, none⟩ = some (.slice a xs.length c))
  (fun i _ => (intOf i + 1).toNat)
 case atStart => exact ⟨xs.length, Nat.le_refl _, rfl, by simpa using h0, fun _ _ => rfl, hB⟩
 case round =>
  obtain ⟨m, hm, rfl, hJs, hnx, hBr⟩ := hrel
  cases m with
  | succ q =>
   obtain ⟨g, cap, hv, -, -⟩ := hrow.form (by omega)
   cases hv
   have e1 : (((q + 1 : Nat) : Int) - 1) = (q : Int) := by omega
   rw [e1]
   have hcx' : wr.cell? ⟨g, q, none⟩ = some (.string (str (xs[q]?.getD []))) := by
    have h2 := ownsRow_stay (w' := wr) hrow hnx
    rw [h2.cellAt q (by omega)]
    exact strsV_at (by omega)
   obtain ⟨fn, tmps, assign, body, hy, hR⟩ := hY _ (q, xs[q]?.getD []) wr hJs (by rw [List.length_take, bw_len]; omega)
   rw [HCUT.out _ (by rw [List.getElem?_eq_getElem (by omega : q < xs.length)]; exact List.getElem_mem _)] at hy
   have HTK := Lib.hid (bw_snoc (xs := xs) (q := q) (by omega))
   have hge : decide ((0 : Int) ≤ (q : Int)) = true := decide_eq_true (by omega)
   clear e1
   generalize xs[q]?.getD [] = x at *
   gi_wp2
   refine hR.mono ?_
   rintro e W3 (⟨rfl, hJ3, hk3⟩ | ⟨rfl, hJx3⟩)
   ·gi_wp2
    go_roundw
    case rel => exact ⟨q, by omega, rfl, by rw [HTK.out]; exact hJ3, rowK_t hnx hk3.1, (World.cell?_of_block hk3.2).trans hBr⟩
    case measure => simp [intOf]
   ·gi_wp2
    refine bodyPost_ret (results_none rfl _ _ _) rfl ?_
    exact ⟨⟨_, rfl⟩, .inr ⟨_, by rw [← HTK.out]; exact List.take_prefix _ _, hJx3⟩⟩
  | zero =>
   gi_wp2
   go_end0
   refine ⟨⟨_, rfl⟩, .inl ⟨_, ?_, hJs⟩⟩
   rw [Nat.sub_zero, ← bw_len, List.take_length]
def backF (B : Nat) : Value := .func (.func 186) #[] #[.pointer (some ⟨B, 0, none⟩)]
theorem backward_c (a : Option Addr) (n c : Nat) (w : World) :
  Calls Tryz.prog 166 #[.slice a n c] w fun e w' => e = .returned (backF w.heap.size) ∧ w' = w.alloc (.cells #[.slice a n c] 103) := by
 go_enter Tryz.func166, Tryz.ntmps166
 go_wp2_with fail
 go_ret
 exact ⟨rfl, rfl⟩
theorem range_back (cut : Key → Key) {g : Operand} {ps : Array Tmp} {assign body : Code} {Q : Exit → Act → World → Prop} {a : Act} {w : World} {B n₀ : Nat} {l : List Key} {v : Value} (hcut : ∀ x ∈ l, cut x = x) (hg : a.eval g = backF B) (hb : Blk w B 103 #[v]) (hrow : w.ownsRow n₀ 9 1 v l.length (strsV l)) (hlen : l.length ≤ 1000000) (hps : ps.size = 2)
  (I : List (Nat × Key) → World → Prop) (Ix : Code → List (Nat × Key) → World → Prop) (hI : OwnFrom w.heap.size I) (hIx : ∀ c, OwnFrom w.heap.size (Ix c)) (h0 : I [] w) (a₁ : Nat × Key → Act)
  (hassign : ∀ (r : Nat) (x : Nat × Key) (W : World) (K : Act → World → Prop), K (a₁ x) W → assign.wpIn (Fence.wide.inRound r) 3 Tryz.prog (Exit.then K (fun _ _ _ => False)) { tmps := (ps.zip #[Value.int .i64 x.1, Value.string (str (cut x.2))]).foldl (fun t (p, v) => t.setIfInBounds p v) a.tmps, defers := [] } W)
  (hbody : ∀ (r : Nat) (pre : List (Nat × Key)) (x : Nat × Key) (W : World), I pre W → pre.length < l.length → body.wpIn (Fence.wide.inRound r) 3 Tryz.prog (ownPostG w.heap.size (RowB v B) I Ix (pre ++ [x]) W) (a₁ x) W)
  (hdone : ∀ (D : Nat) (W : World), w.heap.size ≤ D → I (bw l) W → W.heap[D]? = some (.deferred (some [])) → Q .normal { a with defers := { target := .collected D, args := #[] } :: a.defers } W)
  (hstop : ∀ (D : Nat) (c : Code) (pre : List (Nat × Key)) (W : World), w.heap.size ≤ D → pre <+: bw l → Ix c pre W → W.heap[D]? = some (.deferred (some [])) → c.wp Tryz.prog Q { a with defers := { target := .collected D, args := #[] } :: a.defers } W) :
  (Code.rangeFunc g ps assign body).wp Tryz.prog Q a w := by
 have hv := hrow.lt
 have hseq : SeqStopsK Fence.wide 4 Tryz.prog 186 #[.pointer (some ⟨B, 0, none⟩)] (fun x : Nat × Key => #[Value.int .i64 x.1, Value.string (str (cut x.2))]) (RowB v B) (fun ys => ys = bw l) (fun pre => pre <+: bw l) l.length w := fun k J Jx W hW _ _ hY h0 =>
  back1_in cut 4 (by omega) k B v l hlen hcut J Jx hY W ((hW.cell (p := ⟨B, 0, none⟩) hb.lt).trans (hb.cell 0)) (ownsRow_stay (own_low hrow) fun b hb => hW.block b (hrow.lt b hb).2) h0
 refine (wpIn_wide (n := 5)).1 (wpIn_rangeFunc_ownG (F := Fence.wide) (n := 5) (w := w) rfl (by omega) (gf := 186) (lb := #[.pointer (some ⟨B, 0, none⟩)]) hg trivial (enters_of Tryz.func186 (by kernel_rfl) rfl)
   hseq rowB_t (rowB_b (fun g e => (hv g e).2) hb.lt) (Below.refl _ _) (fun _ => hps.symm) I Ix hI hIx h0 a₁ hassign hbody
   (fun D ys W hD hy hI2 hK => by subst hy; exact hdone D W hD hI2 hK) (fun D c pre W hD hp hx hK => wpIn_wide.2 (hstop D c pre W hD hp hx hK)))
end Go.Proofs.YtkiabladmgagdabGreatDoor.Ringy
namespace Go.Proofs.YtkiabladmgagdabGreatDoor.Ringy

def lays (r : Rg) (i : Nat) (pre : List (Nat × Key)) : Rg := pre.foldl (fun r x => r.fr i (cut x.2)) r
theorem lays_snoc (r : Rg) (i : Nat) (pre : List (Nat × Key)) (x : Nat × Key) : lays r i (pre ++ [x]) = (lays r i pre).fr i (cut x.2) := by simp [lays]
structure Fresh (r : Rg) (i : Nat) (ks : List Key) : Prop where
 hi : i < r.n
 nd : ks.Nodup
 no : ∀ k ∈ ks, ¬ r.has k
 room : r.many + ks.length ≤ r.places
 key : ∀ k ∈ ks, k.length ≤ 64
structure Laid (r : Rg) (i : Nat) (ks : List Key) (s : Rg) : Prop where
 n : s.n = r.n
 pl : s.places = r.places
 many : s.many = r.many + ks.length
 has : ∀ k, s.has k ↔ k ∈ ks ∨ r.has k
 li : s.l i = ks ++ r.l i
 lo : ∀ t, t < r.n → t ≠ i → s.l t = r.l t
variable {r s : Rg} {i : Nat} {ks : List Key}
theorem Laid.more {k : Key} (h : Laid r i ks s) (hi : i < r.n) (hk : k ∉ ks) (hr : ¬ r.has k) (hl : k.length ≤ 64) (hm : r.many + ks.length < r.places) : s.hasB k = false ∧ s.ok i k = true ∧ Laid r i (k :: ks) (s.fr i k) := by
 have hno : ¬ s.has k := fun e => by rcases (h.has k).1 e with e | e; exact hk e; exact hr e
 have hok : s.ok i k = true := Rg.ok_of (by omega) (by rw [h.n]; omega) hl (.inr (by rw [h.many, h.pl]; exact hm))
 have hst : ∀ t, t < r.n → strike k (s.l t) = s.l t := fun t ht => strike_of_not fun e => hno ⟨t, by rw [h.n]; exact ht, e⟩
 refine ⟨by rw [Bool.eq_false_iff]; exact fun e => hno (Rg.hasB_iff.1 e), hok, (Rg.fr_n s i k).1.trans h.n, (Rg.fr_n s i k).2.trans h.pl, ?_, fun x => ?_, ?_, fun t ht hti => ?_⟩
 ·rw [Rg.many_fr_new hok hno, h.many, List.length_cons]; omega
 ·rw [Rg.has_fr hok, h.has, List.mem_cons, or_assoc]
 ·rw [Rg.l_fr hok, if_pos (by simp), hst i hi, h.li]; rfl
 ·rw [Rg.l_fr hok, if_neg (by simpa using hti), hst t ht, h.lo t ht hti]
theorem lays_at (h : Fresh r i ks) : ∀ d, d ≤ ks.length → Laid r i (ks.drop (ks.length - d)) (lays r i ((bw ks).take d)) ∧
  (d < ks.length → (lays r i ((bw ks).take d)).hasB (ks[ks.length - (d + 1)]?.getD []) = false ∧ (lays r i ((bw ks).take d)).ok i (ks[ks.length - (d + 1)]?.getD []) = true) := by
 have step : ∀ d, d < ks.length → Laid r i (ks.drop (ks.length - d)) (lays r i ((bw ks).take d)) → (lays r i ((bw ks).take d)).hasB (ks[ks.length - (d + 1)]?.getD []) = false ∧ (lays r i ((bw ks).take d)).ok i (ks[ks.length - (d + 1)]?.getD []) = true ∧
   Laid r i (ks.drop (ks.length - (d + 1))) (lays r i ((bw ks).take (d + 1))) := by
  intro d hd hL
  obtain ⟨q, hq⟩ : ∃ q, q = ks.length - (d + 1) := ⟨_, rfl⟩
  have hq1 : q < ks.length := by omega
  have e1 : ks.length - d = q + 1 := by omega
  have e2 : d = ks.length - (q + 1) := by omega
  have e3 : d + 1 = ks.length - q := by omega
  have hm : ks[q]?.getD [] ∈ ks := by rw [List.getElem?_eq_getElem hq1]; exact List.getElem_mem _
  have hdrop : ks.drop q = (ks[q]?.getD []) :: ks.drop (q + 1) := by rw [List.drop_eq_getElem_cons hq1, List.getElem?_eq_getElem hq1]; rfl
  have hnm : ks[q]?.getD [] ∉ ks.drop (q + 1) := by
   have h1 : (ks.drop q).Nodup := h.nd.sublist (List.drop_sublist _ _)
   rw [hdrop] at h1
   exact (List.nodup_cons.1 h1).1
  rw [e1] at hL
  obtain ⟨a, b, c⟩ := hL.more h.hi hnm (h.no _ hm) (h.key _ hm) (by rw [List.length_drop]; have := h.room; omega)
  rw [← hq]
  refine ⟨a, b, ?_⟩
  rw [e3, bw_snoc hq1, ← e2, lays_snoc, cut_of (h.key _ hm), hdrop]
  exact c
 have base : ∀ d, d ≤ ks.length → Laid r i (ks.drop (ks.length - d)) (lays r i ((bw ks).take d)) := by
  intro d
  induction d with
  | zero =>
   intro _
   rw [Nat.sub_zero, List.drop_length, List.take_zero]
   exact ⟨rfl, rfl, rfl, fun k => by simp [lays], rfl, fun _ _ _ => rfl⟩
  | succ d ih => exact fun hd => (step d (by omega) (ih (by omega))).2.2
 exact fun d hd => ⟨base d hd, fun hlt => ⟨(step d hlt (base d hd)).1, (step d hlt (base d hd)).2.1⟩⟩
theorem lays_all (h : Fresh r i ks) : Laid r i ks (lays r i (bw ks)) := by
 have := (lays_at h ks.length (Nat.le_refl _)).1
 rw [Nat.sub_self, List.drop_zero, ← bw_len, List.take_length] at this
 exact this
theorem lays_pre (h : Fresh r i ks) {p : List (Nat × Key)} {x : Nat × Key} (hp : p ++ [x] <+: bw ks) : (lays r i p).hasB (cut x.2) = false ∧ (lays r i p).ok i (cut x.2) = true := by
 have hl := hp.length_le
 rw [List.length_append, bw_len] at hl
 simp only [List.length_cons, List.length_nil] at hl
 have e1 : p ++ [x] = (bw ks).take (p.length + 1) := by
  have := List.prefix_iff_eq_take.1 hp
  simpa using this
 have hb := bw_snoc (xs := ks) (q := ks.length - (p.length + 1)) (by omega)
 rw [show ks.length - (ks.length - (p.length + 1)) = p.length + 1 by omega, show ks.length - (ks.length - (p.length + 1) + 1) = p.length by omega, ← e1] at hb
 obtain ⟨h1, h2⟩ := List.append_inj' hb rfl
 cases h2
 have hm : ks[ks.length - (p.length + 1)]?.getD [] ∈ ks := by rw [List.getElem?_eq_getElem (by omega)]; exact List.getElem_mem _
 show (lays r i p).hasB (cut (ks[ks.length - (p.length + 1)]?.getD [])) = false ∧ (lays r i p).ok i (cut (ks[ks.length - (p.length + 1)]?.getD [])) = true
 rw [cut_of (h.key _ hm)]
 have hf := (lays_at h p.length (by omega)).2 (by omega)
 rw [← h1] at hf
 exact hf
end Go.Proofs.YtkiabladmgagdabGreatDoor.Ringy
namespace Go.Proofs.YtkiabladmgagdabGreatDoor.Ringy
open Go.ChangeShapes Go.WideShapes Go.ChangeAt Go.RowKit Go.Shelf
open Wirey (Blk Row str str_size str_list Kp Kept RS enc txt numR_enc num_ok rtext_ok)
open Go.ChangeMaps Go.Maps

theorem txt_took {x : Key} (hx : x.length ≤ 64) (rest : List UInt8) (hr : rest.length < 549755813888) :
  Wirey.numR (txt x ++ rest) = (x.length, (enc x.length).length, 0) ∧ (enc x.length).length + x.length ≤ (txt x ++ rest).length ∧ (txt x ++ rest).length < 1099511627776 ∧
   (((txt x ++ rest).drop (enc x.length).length).take x.length) = x ∧ (txt x ++ rest).drop ((enc x.length).length + x.length) = rest := by
 have e1 : txt x ++ rest = enc x.length ++ (x ++ rest) := by simp [txt]
 have hl := enc_ten (n := x.length) (by omega)
 rw [e1]
 refine ⟨numR_enc (by omega) _, by simp only [List.length_append]; omega, by simp only [List.length_append]; omega, by rw [List.drop_left, List.take_left], ?_⟩
 rw [← List.drop_drop, List.drop_left, List.drop_left]
theorem keysB_drop {l : List Key} {p : Nat} (hp : p < l.length) : keysB (l.drop p) = txt (l[p]?.getD []) ++ keysB (l.drop (p + 1)) := by
 rw [List.drop_eq_getElem_cons hp, List.getElem?_eq_getElem hp]
 rfl
set_option maxHeartbeats 4000000 in
set_option maxRecDepth 100000 in
theorem takeKeys_c {R O most : Nat} {l : List Key} {rest : List UInt8} (hm : most ≤ 4096) (hl : l.length ≤ most) (hk : ∀ k ∈ l, k.length ≤ 64) (hrest : rest.length < 274877906944) (w : World) (h : RS w R O (listB l ++ rest)) :
  Calls Tryz.prog 128 #[.pointer (some ⟨R, 0, none⟩), .int .i64 most] w fun e w' => ∃ v, e = .returned v ∧ w'.ownsRow w.heap.size 9 1 v l.length (strsV l) ∧ RS w' R O rest ∧ Kp (fun k => k = R ∨ k = O) w w' := by
 obtain ⟨i0, hi0, hz0, hz1, hz2⟩ := info_parts str_info
 have hRl := h.rd.lt
 have hOl := h.of.lt
 have hkl := keysB_len hk
 have hel := enc_ten (n := l.length) (by omega)
 have e1 : listB l ++ rest = enc l.length ++ (keysB l ++ rest) := by simp [listB]
 rw [e1] at h
 have hn := num_ok most (numR_enc (n := l.length) (by omega) (keysB l ++ rest)) hl (by simp only [List.length_append]; omega) w h
 rw [List.drop_left] at hn
 have HN := Lib.hid hn
 have HKL := Lib.hid (fun p => keysB_len (l := l.drop p) (fun x hx => hk x (List.mem_of_mem_drop hx)))
 have HK := Lib.hid hk
 have HR := Lib.hid hrest
 clear hn e1 hel hkl hk hrest
 go_enter Tryz.func128, Tryz.ntmps128
 go_wp2_with fail
 refine HN.out.mono ?_
 rintro e v1 ⟨rfl, hk1, hr1⟩
 have hK1 : Kp (fun k => k = R ∨ k = O) w v1 := Kp.of_kept hk1 (.inl rfl) (.inr rfl)
 go_wp2_with fail
 go_loopw [5, 10] (fun v i wr => ∃ p : Nat, p ≤ l.length ∧ i = .int .u64 p ∧ wr.ownsRow w.heap.size 9 1 v p (strsV (l.take p)) ∧ RS wr R O (keysB (l.drop p) ++ rest) ∧ Kp (fun k => k = R ∨ k = O) w wr) (fun _ i _ => l.length - (intOf i).toNat)
 case atStart => exact ⟨0, Nat.zero_le _, rfl, ⟨rfl, .inl ⟨rfl, rfl⟩⟩, hr1, hK1⟩
 case round =>
  obtain ⟨p, hp, rfl, hrow, hR, hK⟩ := hrel
  clear hr1 hK1 hk1
  by_cases hlt : p < l.length
  ·have hkd := keysB_drop hlt
   rw [hkd, List.append_assoc] at hR
   have hx := HK.out (l[p]?.getD []) (mem_pos_of hlt)
   obtain ⟨t1, t2, t3, t4, t5⟩ := txt_took hx (keysB (l.drop (p + 1)) ++ rest) (by have := HKL.out (p + 1); have h3 := HR.out; rw [List.length_drop] at this; simp only [List.length_append]; omega)
   have ht := rtext_ok 64 (by omega) t1 hx t2 t3 wr hR
   rw [t4, t5] at ht
   have HT := Lib.hid ht
   have HTK := Lib.hid (take_snoc hlt)
   clear t1 t2 t3 t4 t5 ht hkd hR hx
   generalize l[p]?.getD [] = x at *
   obtain ⟨sa, sc, rfl⟩ := own_form hrow
   go_wp2_with fail
   refine HT.out.mono ?_
   rintro e w2 ⟨rfl, hk2, hr2⟩
   have hrow2 : w2.ownsRow w.heap.size 9 1 (.slice sa p sc) p (strsV (l.take p)) := ownsRow_stay hrow (fun g hg => hk2.block g (hrow.lt g hg).2 (by have := (hrow.lt g hg).1; omega) (by have := (hrow.lt g hg).1; omega))
   have hK2 := hK.trans (Kp.of_kept hk2 (.inl rfl) (.inr rfl))
   have hw2 : w.heap.size ≤ w2.heap.size := hK2.size
   have HR2 := Lib.hid hr2
   clear hrow hk2 hr2 hK
   go_wp2_with (first | (refine wpList_append_lies _ (by rfl) _ _ _ (by rfl) w.heap.size 9 i0 _ 1 16 Tryz.underlying103 hi0 hz0 hz1 hz2 rfl (by omega) (.slice sa p sc) p (strsV (l.take p)) (by rfl) (hrow2.alloc _) ⟨w2.heap.size, 0, none⟩ 1 1 [.string (str x)] (by rfl) (by rfl) (World.news_of_block (cs := #[.string (str x)]) (t := 9) (fr := (0, 0)) (heap_alloc_new w2 _)) (by simp [Value.oneCell']) (by omega) (by simp [maxLen]; omega) (by omega) (by simp; omega) (w2.heap.size + 1) (by simp) ?_; intro gg cp w3 hown1 hgrow hat3 hlt3))
   go_roundw
   case rel =>
    rw [← strsV_snoc, ← HTK.out] at hown1
    have hrow2l := hrow2.lt
    have hne : ∀ b, b < w.heap.size → w3.heap[b]? = w2.heap[b]? := fun b hb => (hgrow.block b (by simp; omega) (fun e => by have := (hrow2l b e.symm).1; omega)).trans (Below.heap_alloc w2 _ b (by omega))
    have hkk : Kp (fun k => k = R ∨ k = O) w w3 := ⟨hgrow.os.trans hK2.os, hgrow.tape.trans hK2.tape, hgrow.output.trans hK2.output, by have := hgrow.size; simp at this; omega, fun b hb hS => (hne b hb).trans (hK2.block b hb hS)⟩
    refine ⟨p + 1, by omega, rfl, hown1, ?_, hkk⟩
    exact ⟨(hne R hRl).trans HR2.out.rd, (hne O hOl).trans HR2.out.of⟩
   case measure => simp [intOf]; omega
  ·obtain rfl : p = l.length := by omega
   obtain ⟨sa, sc, rfl⟩ := own_form hrow
   go_wp2_with fail
   go_ret
   rw [List.drop_length] at hR
   rw [List.take_length] at hrow
   exact ⟨_, rfl, hrow, hR, hK⟩
end Go.Proofs.YtkiabladmgagdabGreatDoor.Ringy
namespace Go.Proofs.YtkiabladmgagdabGreatDoor.Ringy
open Go.ChangeShapes Go.WideShapes Go.ChangeAt Go.RowKit Go.Shelf
open Wirey (Blk Row str str_size str_list Kp)
open Go.ChangeMaps Go.Maps

attribute [local go_sem] Oper.semAt_some

theorem leave_marksP {P : Program} {fn : Func} {tmps : Array Value} {R : Ending → World → Prop} {B : Nat} {v : Value} (H : World → Prop) (hH : ∀ W D o', B ≤ D → H W → W.heap[D]? = some (.deferred (some [])) → H (W.putObj D o')) (hres : ∀ w, H w → (results fn tmps).run P w = .ok v w) (h : ∀ W', H W' → R (.returned v) W') : ∀ (ds : List Deferred) (W : World), H W → Marked B W ds →
  LeavesInM Fence.wide 5 P fn tmps R ds .returning W
 | [], W, h0, _ => ⟨v, hres W h0, h W h0⟩
 | d :: ds, W, h0, ⟨⟨D, h1, h2, h3, h4⟩, h5⟩ => by
  refine ⟨by simp, .inl ⟨D, _, h1, run_takeDeferred h3, leave_marksP H hH hres h ds _ (hH W D _ h2 h0 h3) (h5.keep fun k d' hd' hk => World.putObj_heap_other (fun e => h4 d' hd' (by rw [hk, e])))⟩⟩

theorem res_bool {fn : Func} {p : Tmp} (h : fn.results = #[.cell p 4]) (tmps : Array Value) (w : World) (c : Addr) {v : Value} (hp : tmps.getD p undef = .pointer (some c)) (hc : w.cell? c = some v) : (results fn tmps).run Tryz.prog w = .ok v w := by
 have hp' : tmps[p]?.getD undef = .pointer (some c) := by simpa using hp
 have hu := Tryz.underlying4
 simp [results, h, hp', asAddr, loadVar, Sem.run_bind, Result.andThen]
 rw [hc]
section
variable {w w' : World} {m m' : Rm} {r : Rg}
theorem held_any (h : At w m r) : Held { w with heap := #[] } m.R w m r := ⟨rfl, h, ⟨rfl, rfl, rfl, by simp, fun k hk => by simp at hk⟩, fun b _ => by simp⟩
theorem in_any {l : List UInt8} (hl : l.length ≤ maxLen) (w : World) (h : At w m r) :
  Calls Tryz.prog 167 #[.pointer (some ⟨m.R, 0, none⟩), .string (str l)] w fun e w' => (∃ a, e = .returned (.tuple #[.int .i64 a, .bool (r.hasB l)])) ∧ w = w' := by
 cases hB : r.hasB l with
 | true =>
  obtain ⟨i, hi, hm⟩ := Rg.hasB_iff.1 hB
  exact (in_yes' hl w h hi hm).mono fun e w' ⟨a, b⟩ => ⟨⟨_, a⟩, b.symm⟩
 | false => exact (in_no' hl w h (fun e => by rw [Rg.hasB_iff.2 e] at hB; cases hB)).mono fun e w' ⟨a, b⟩ => ⟨⟨_, a⟩, b.symm⟩
theorem At.kind (h : At w m r) {b : Nat} (hb : m.own b) : b = m.Mb ∨ ∃ cs t fz, w.heap[b]? = some (.cells cs t fz) := by
 obtain ⟨lens, S, F, D, pos, hF⟩ := h
 have hr := hF.raw
 rcases hb with rfl | rfl | rfl | hb | hb
 ·exact .inr ⟨_, _, _, hr.hd⟩
 ·exact .inr ⟨_, _, _, hr.ln⟩
 ·exact .inl rfl
 ·obtain ⟨cur, hc⟩ := owned_blk hr.sl hb
  exact .inr ⟨_, _, _, hc⟩
 ·obtain ⟨cur, hc⟩ := owned_blk hr.lf hb
  exact .inr ⟨_, _, _, hc⟩
structure Filled (w : World) (m : Rm) (s : Rg) (W : World) : Prop where
 ex : ∃ m2, At W m2 s ∧ Step w m W m2
theorem Filled.turn {s : Rg} {W W' : World} {row : Option Nat} (h : Filled w m s W) (hM : m.Mb < w.heap.size) (hg : W.grownBy W' row) (hr : ∀ k, row = some k → w.heap.size ≤ k ∧ ∃ o : Obj, W.heap[k]? = some o ∧ o.isCells = false) : Filled w m s W' := by
 obtain ⟨m2, hA, hS⟩ := h.ex
 refine ⟨m2, hA.stay (fun b hb => hg.block b (hA.lt b hb) (fun e => ?_)), hS.R, ⟨hg.os.trans hS.kp.os, hg.tape.trans hS.kp.tape, hg.output.trans hS.kp.output, Nat.le_trans hS.kp.size hg.size, fun k hk hn => ?_⟩, hS.own, hS.M⟩
 ·obtain ⟨h1, o, h2, h3⟩ := hr b e.symm
  rcases hA.kind hb with h4 | ⟨cs, t, fz, h4⟩
  ·rw [hS.M] at h4; omega
  ·rw [h4] at h2; cases h2; cases h3
 ·exact (hg.block k (Nat.lt_of_lt_of_le hk hS.kp.size) (fun e => by have := (hr k e.symm).1; omega)).trans (hS.kp.block k hk hn)
theorem step_keeps {s : Rg} {W W' : World} {m2 m3 : Rm} {B : Nat} (hA : At W m2 s) (hS : Step W m2 W' m3) (hM : m2.Mb < B) : KeepsFrom B W W' :=
 ⟨hS.kp.size, fun k o hk ho hc => (hS.kp.block k (Array.getElem?_eq_some_iff.1 ho).1 (fun hown => by
   rcases hA.kind hown with h4 | ⟨cs, t, fz, h4⟩
   · omega
   · rw [h4] at ho; cases ho; cases hc)).trans ho⟩
set_option maxHeartbeats 4000000 in
set_option maxRecDepth 100000 in
theorem lay_c {i : Nat} {ks : List Key} {v : Value} {n₀ : Nat} (w : World) (hA : At w m r) (hf : Fresh r i ks) (hrow : w.ownsRow n₀ 9 1 v ks.length (strsV ks)) (hsep : ∀ g, v.ownBlock = some g → ¬ m.own g) (hlen : ks.length ≤ 5000) :
  Calls Tryz.prog 129 #[.pointer (some ⟨m.R, 0, none⟩), .int .i64 i, v] w fun e w' => e = .returned (.bool true) ∧ ∃ m' s, At w' m' s ∧ Laid r i ks s ∧ Step w m w' m' := by
 obtain ⟨sa, sc, rfl⟩ := own_form hrow
 have hown := hA.lt
 have hMb : m.Mb < w.heap.size := hown _ (.inr (.inr (.inl rfl)))
 have b0 := Blk.new w 166 #[.pointer (some ⟨m.R, 0, none⟩)]
 have hs0 : (w.alloc (.cells #[.pointer (some ⟨m.R, 0, none⟩)] 166)).heap.size = w.heap.size + 1 := by simp
 have b1 := Blk.new (w.alloc (.cells #[.pointer (some ⟨m.R, 0, none⟩)] 166)) 3 #[.int .i64 i]
 rw [hs0] at b1
 have hs1 : ((w.alloc (.cells #[.pointer (some ⟨m.R, 0, none⟩)] 166)).alloc (.cells #[.int .i64 i] 3)).heap.size = w.heap.size + 1 + 1 := by simp
 have b2 := Blk.new ((w.alloc (.cells #[.pointer (some ⟨m.R, 0, none⟩)] 166)).alloc (.cells #[.int .i64 i] 3)) 4 #[.bool false]
 rw [hs1] at b2
 have hs2 : (((w.alloc (.cells #[.pointer (some ⟨m.R, 0, none⟩)] 166)).alloc (.cells #[.int .i64 i] 3)).alloc (.cells #[.bool false] 4)).heap.size = w.heap.size + 3 := by simp
 have hb1 := (((Below.refl w.heap.size w).alloc (Nat.le_refl _) (.cells #[.pointer (some ⟨m.R, 0, none⟩)] 166)).alloc (by simp) (.cells #[.int .i64 i] 3)).alloc (by simp; omega) (.cells #[.bool false] 4)
 replace b1 := b1.alloc (.cells #[.bool false] 4)
 replace b0 := (b0.alloc (.cells #[.int .i64 i] 3)).alloc (.cells #[.bool false] 4)
 clear hs0 hs1
 refine calls_marks Tryz.func129 rfl ?_
 simp only [Tryz.ntmps129, List.size_toArray, List.length_cons, List.length_nil, Nat.reduceAdd, Nat.reduceSub, Array.replicate_succ, Array.replicate_zero, List.push_toArray, List.append_toArray, List.nil_append, List.cons_append]
 have HS2 := Lib.hid hs2
 clear hs2
 go_wp2_with fail
 generalize ((w.alloc (.cells #[.pointer (some ⟨m.R, 0, none⟩)] 166)).alloc (.cells #[.int .i64 i] 3)).alloc (.cells #[.bool false] 4) = w1 at *
 have hA1 := hA.below hb1 (Nat.le_refl _)
 have hrow1 : w1.ownsRow n₀ 9 1 (.slice sa ks.length sc) ks.length (strsV ks) := ownsRow_stay hrow (fun g hg => hb1.block g (hrow.lt g hg).2)
 refine (backward_c sa ks.length sc w1).mono ?_
 rintro e w2 ⟨rfl, hw2⟩
 have hbB := Blk.new w1 103 #[.slice sa ks.length sc]
 have hs3 : w2.heap.size = w1.heap.size + 1 := by rw [hw2]; simp
 have HS3 := Lib.hid hs3
 rw [← hw2] at hbB
 have hA2 : At w2 m r := by rw [hw2]; exact hA1.alloc _
 have hrow2 : w2.ownsRow n₀ 9 1 (.slice sa ks.length sc) ks.length (strsV ks) := by rw [hw2]; exact hrow1.alloc _
 have hb2 : Below w.heap.size w w2 := by rw [hw2]; exact hb1.alloc hb1.size _
 have hb12 : Below w1.heap.size w1 w2 := by rw [hw2]; exact (Below.refl _ _).alloc (Nat.le_refl _) _
 replace b0 := b0.below hb12 b0.lt
 replace b1 := b1.below hb12 b1.lt
 replace b2 := b2.below hb12 b2.lt
 have hvl := hrow.lt
 have hn0 : ¬ m.own w.heap.size := fun e => by have := hown _ e; omega
 have hn1 : ¬ m.own (w.heap.size + 1) := fun e => by have := hown _ e; omega
 have hn2 : ¬ m.own (w.heap.size + 1 + 1) := fun e => by have := hown _ e; omega
 have hnB : ¬ m.own w1.heap.size := fun e => by have := hown _ e; have := hb1.size; omega
 have hle2 := hb2.size
 clear hw2 hb1 hs3 hb12 hA1 hrow1 hrow
 go_wp2_with fail
 apply range_back cut (B := w1.heap.size) (l := ks) (v := .slice sa ks.length sc) (I := fun pre W => Filled w2 m (lays r i pre) W) (Ix := fun c pre _ => c = .ret ∧ ∃ p x, pre = p ++ [x] ∧ ((lays r i p).hasB (cut x.2) = true ∨ (lays r i p).ok i (cut x.2) = false))
 case hcut => exact fun x hx => cut_of (hf.key x hx)
 case hg => rfl
 case hb => exact hbB
 case hrow => exact hrow2
 case hlen => omega
 case hps => rfl
 case hI => exact fun s W W' row h hg hr => h.turn (by omega) hg hr
 case hIx => exact fun c s W W' row h _ _ => h
 case h0 => exact ⟨m, hA2, Step.refl _ _⟩
 case hassign =>
  intro r x W K hK
  gi_wp2
  exact hK
 case hbody =>
  rintro rr pre x W ⟨m2, hAW, hS⟩ hlt
  have hR := hS.R
  have c0 := (hS.kp.blk b0 hn0).cell 0
  have c1 := (hS.kp.blk b1 hn1).cell 0
  have c2 := (hS.kp.blk b2 hn2).cell 0
  have f2 := (hS.kp.blk b2 hn2).free 0
  simp only [List.getElem?_toArray, List.getElem?_cons_zero] at c0 c1 c2
  have hcl := cut_len x.2
  have HIN := Lib.hid (in_any (l := cut x.2) (by unfold maxLen; omega) W hAW)
  have HFR := Lib.hid (front_h i (l := cut x.2) (by unfold maxLen; omega) (held_any hAW))
  rw [hR] at HIN HFR
  have HR := Lib.hid hR
  have HS := Lib.hid hS
  have HAW := Lib.hid hAW
  clear hS hAW hR hlt
  gi_wp2_with fail
  refine ⟨trivial, (CallsIn.inRound _ (callsIn_wide.2 HIN.out)).mono ?_⟩
  rintro e W1 ⟨⟨a, rfl⟩, rfl⟩
  cases hB : (lays r i pre).hasB (cut x.2) with
  | true =>
   gi_wp2_with fail
   refine ⟨trivial, ?_⟩
   gi_wp2_with fail
   exact ⟨(KeepsOthers.setCell _ _ _).from _, rfl, pre, x, rfl, .inl hB⟩
  | false =>
   gi_wp2_with fail
   refine ⟨trivial, (CallsIn.inRound _ (callsIn_wide.2 HFR.out)).mono ?_⟩
   rintro e W2 ⟨rfl, m3, hH3, hS3⟩
   have hm2 : ∀ k, k < w2.heap.size → ¬ m.own k → ¬ m2.own k := fun k hk hn e => by rcases HS.out.own k e with h | h; exact hn h; omega
   have d2 := (hS3.kp.blk (HS.out.kp.blk b2 hn2) (hm2 _ b2.lt hn2)).cell 0
   have g2 := (hS3.kp.blk (HS.out.kp.blk b2 hn2) (hm2 _ b2.lt hn2)).free 0
   simp only [List.getElem?_toArray, List.getElem?_cons_zero] at d2
   have hkf := step_keeps (B := w2.heap.size) HAW.out hS3 (by rw [HS.out.M]; omega)
   clear c0 c1 c2 f2
   have HB := Lib.hid hB
   have HM2 := Lib.hid hm2
   have HH3 := Lib.hid hH3
   have HS3 := Lib.hid hS3
   have HKF := Lib.hid hkf
   clear hB hm2 hH3 hS3 hkf
   cases hO : (lays r i pre).ok i (cut x.2) with
   | true =>
    gi_wp2_with fail
    refine ⟨HKF.out, ⟨fun g hg => ?_, ?_⟩, m3, by rw [lays_snoc]; exact HH3.out.at_, HS.out.trans HS3.out⟩
    ·have hgl := (hrow2.lt g hg).2
     exact HS3.out.kp.block g (Nat.lt_of_lt_of_le hgl HS.out.kp.size) (HM2.out g hgl (hsep g hg))
    ·exact HS3.out.kp.block _ (Nat.lt_of_lt_of_le hbB.lt HS.out.kp.size) (HM2.out _ hbB.lt hnB)
   | false =>
    gi_wp2_with fail
    exact ⟨HKF.out.trans ((KeepsOthers.setCell _ _ _).from _), rfl, pre, x, rfl, .inr hO⟩
 case hdone =>
  rintro D W hD ⟨m2, hAW, hS⟩ hK
  have hall := lays_all hf
  have B2 := hS.kp.blk b2 hn2
  have c2 := B2.cell 0
  have f2 := B2.free 0
  simp only [List.getElem?_toArray, List.getElem?_cons_zero] at c2
  have hm2 : ¬ m2.own (w.heap.size + 1 + 1) := fun e => by rcases hS.own _ e with h | h; exact hn2 h; have := b2.lt; omega
  have hS0 : Step w m W m2 := ⟨hS.R, ⟨hS.kp.os.trans hb2.os, hS.kp.tape.trans hb2.tape, hS.kp.output.trans hb2.output, Nat.le_trans hb2.size hS.kp.size, fun k hk hn => (hS.kp.block k (by omega) hn).trans (hb2.block k hk)⟩, fun b hb => by rcases hS.own b hb with h | h; exact .inl h; exact .inr (by omega), hS.M⟩
  have hF : Filled w m (lays r i (bw ks)) (W.setCell ⟨w.heap.size + 1 + 1, 0, none⟩ (.bool true)) := ⟨m2, hAW.stay (fun b hb => far (p := ⟨w.heap.size + 1 + 1, 0, none⟩) (fun e => hm2 (by rw [← show b = w.heap.size + 1 + 1 from e]; exact hb)) _), hS0.R, ⟨hS0.kp.os, hS0.kp.tape, hS0.kp.output, by have := hS0.kp.size; simpa [World.setCell] using this, fun k hk hn => (far (p := ⟨w.heap.size + 1 + 1, 0, none⟩) (by show k ≠ w.heap.size + 1 + 1; omega) _).trans (hS0.kp.block k hk hn)⟩, hS0.own, hS0.M⟩
  have HF := Lib.hid hF
  have hcell := (B2.put 0 (.bool true)).cell 0
  have hK2 : (W.setCell ⟨w.heap.size + 1 + 1, 0, none⟩ (.bool true)).heap[D]? = some (.deferred (some [])) := (far (p := ⟨w.heap.size + 1 + 1, 0, none⟩) (fun e => by have := b2.lt; have : D = w.heap.size + 1 + 1 := e; omega) _).trans hK
  have HC := Lib.hid hcell
  have HK := Lib.hid hK2
  clear hF hS0 hm2 hcell hK2 hK hAW hS
  go_wp2_with fail
  refine leave_marksP (B := w.heap.size) (v := .bool true) (fun W' => Filled w m (lays r i (bw ks)) W' ∧ W'.cell? ⟨w.heap.size + 1 + 1, 0, none⟩ = some (.bool true)) ?_ ?_ ?_ _ _ ⟨HF.out, HC.out⟩ ⟨⟨D, rfl, by omega, HK.out, by simp⟩, trivial⟩
  ·rintro W' D' o' hD' ⟨h1, h2⟩ h3
   have hne : w.heap.size + 1 + 1 ≠ D' := fun e => by
    rw [← e] at h3
    simp [World.cell?, h3] at h2
   exact ⟨h1.turn hMb (grownBy_putObj' W' D' o') (fun k e => by cases e; exact ⟨hD', _, h3, rfl⟩), (World.cell?_of_block (World.putObj_heap_other hne)).trans h2⟩
  ·rintro W' ⟨_, h2⟩
   exact res_bool rfl _ _ _ rfl h2
  ·rintro W' ⟨⟨m3, h1, h2⟩, _⟩
   exact ⟨rfl, m3, _, h1, hall, h2⟩
 case hstop =>
  rintro D c pre W hD hp ⟨-, p, x, rfl, h⟩ hK
  obtain ⟨h1, h2⟩ := lays_pre hf hp
  rw [h1, h2] at h
  rcases h with h | h <;> cases h
end
end Go.Proofs.YtkiabladmgagdabGreatDoor.Ringy
namespace Go.Proofs.YtkiabladmgagdabGreatDoor.Ringy
open Go.ChangeShapes Go.WideShapes Go.ChangeAt Go.RowKit Go.Shelf
open Wirey (Blk Row str str_size str_list Kp Kept RS enc txt numR_enc num_ok must_ok)
open Go.ChangeMaps Go.Maps

def tail (s : Rg) (j : Nat) : List UInt8 := ((List.range s.n).drop j).flatMap fun t => listB (s.l t)
section
variable {s r r' : Rg} {j : Nat}
theorem put_eq (s : Rg) : s.put = enc s.n ++ (enc s.places ++ tail s 0) := by simp [Rg.put, Rg.putTo, tail]
theorem tail_succ (hj : j < s.n) : tail s j = listB (s.l j) ++ tail s (j + 1) := by
 unfold tail
 rw [List.drop_eq_getElem_cons (by simpa using hj), List.getElem_range]
 rfl
theorem tail_end : tail s s.n = [] := by unfold tail; rw [List.drop_eq_nil_of_le (by simp)]; rfl
theorem tail_len (hs : s.Small) (j : Nat) : (tail s j).length ≤ 40000100 := by
 have h0 := hs.putTo s.n (Nat.le_refl _)
 have h1 : (tail s 0).length ≤ (s.putTo s.n).length := by
  have := put_eq s
  unfold Rg.put at this
  rw [this]
  simp only [List.length_append]
  omega
 have h2 : (tail s j).length ≤ (tail s 0).length := by
  unfold tail
  conv => rhs; rw [← List.take_append_drop j (List.drop 0 (List.range s.n)), List.flatMap_append, List.length_append]
  rw [List.drop_zero]
  omega
 have := hs.n
 omega
theorem sumTo_up_to {f : Nat → Nat} {a : Nat} : ∀ b, a ≤ b → sumTo f a ≤ sumTo f b
 | 0, h => by rw [Nat.le_zero.1 h]; exact Nat.le_refl _
 | b + 1, h => by
  rcases Nat.lt_or_ge a (b + 1) with h1 | h1
  ·exact Nat.le_trans (sumTo_up_to b (by omega)) (Nat.le_add_right _ _)
  ·rw [show a = b + 1 by omega]; exact Nat.le_refl _
structure Tk (s : Rg) (j : Nat) (r : Rg) : Prop where
 n : r.n = s.n
 pl : r.places = s.places
 many : r.many = sumTo (fun t => (s.l t).length) j
 has : ∀ k, r.has k ↔ ∃ t, t < j ∧ k ∈ s.l t
 lo : ∀ t, t < j → r.l t = s.l t
 hi : ∀ t, j ≤ t → t < s.n → r.l t = []
theorem sumTo_nil : ∀ n, sumTo (fun _ => ([] : List Key).length) n = 0
 | 0 => rfl
 | n + 1 => by show sumTo _ n + 0 = 0; rw [sumTo_nil n]
theorem Tk.new (s : Rg) : Tk s 0 (Rg.new s.n s.places) := ⟨rfl, rfl, sumTo_nil _, fun k => ⟨fun ⟨t, _, h⟩ => absurd h List.not_mem_nil, fun ⟨t, h, _⟩ => by omega⟩, fun t h => by omega, fun _ _ _ => rfl⟩
theorem Tk.fresh (hw : s.Wf) (h : Tk s j r) (hj : j < s.n) : Fresh r j (s.l j) :=
 ⟨by rw [h.n]; exact hj, hw.nd j hj, fun k hk e => by obtain ⟨t, ht, hm⟩ := (h.has k).1 e; have := hw.dj t j k (by omega) hj hm hk; omega, by
   rw [h.many, h.pl]
   exact Nat.le_trans (sumTo_up_to (f := fun t => (s.l t).length) (a := j + 1) s.n (by omega)) hw.many, fun k hk => hw.len j k hj hk⟩
theorem Tk.next (h : Tk s j r) (hl : Laid r j (s.l j) r') (hj : j < s.n) : Tk s (j + 1) r' :=
 ⟨hl.n.trans h.n, hl.pl.trans h.pl, by rw [hl.many, h.many]; rfl, fun k => by
   rw [hl.has, h.has]
   constructor
   · rintro (h1 | ⟨t, h1, h2⟩)
     · exact ⟨j, by omega, h1⟩
     · exact ⟨t, by omega, h2⟩
   · rintro ⟨t, h1, h2⟩
     rcases Nat.lt_or_ge t j with h3 | h3
     · exact .inr ⟨t, h3, h2⟩
     · rw [show t = j by omega] at h2; exact .inl h2, fun t ht => by
   rcases Nat.lt_or_ge t j with h3 | h3
   · rw [hl.lo t (by rw [h.n]; omega) (by omega), h.lo t h3]
   · rw [show t = j by omega, hl.li, h.hi j (Nat.le_refl _) hj, List.append_nil], fun t h1 h2 => by rw [hl.lo t (by rw [h.n]; exact h2) (by omega), h.hi t (by omega) h2]⟩
theorem Rg.Wf.small (hw : s.Wf) : s.Small := ⟨hw.n2, hw.pl, fun i hi => by have := sumTo_le (f := fun t => (s.l t).length) s.n hi; have h2 := hw.many; have h3 := hw.pl; unfold Rg.many at h2; omega, fun i hi k hk => hw.len i k hi hk⟩

structure Taking (w : World) (R O P : Nat) (s : Rg) (j : Nat) (l : List UInt8) (W : World) : Prop where
 ex : ∃ m r, m.R = P ∧ At W m r ∧ Tk s j r ∧ ∀ b, m.own b → w.heap.size ≤ b
 rs : RS W R O l
 kp : Kp (fun k => k = R ∨ k = O) w W
set_option maxHeartbeats 4000000 in
set_option maxRecDepth 100000 in
theorem take_r (hw : s.Wf) (hn8 : s.n ≤ 8) {R O : Nat} (rest : List UInt8) (hrest : rest.length ≤ 100000000) (w : World) (h : RS w R O (s.put ++ rest)) :
  Calls Tryz.prog 102 #[.pointer (some ⟨R, 0, none⟩)] w fun e w' => ∃ m, e = .returned (.pointer (some ⟨m.R, 0, none⟩)) ∧ At w' m s ∧ (∀ b, m.own b → w.heap.size ≤ b) ∧ RS w' R O rest ∧ Kp (fun k => k = R ∨ k = O) w w' := by
 have hs := hw.small
 have hRl := h.rd.lt
 have hOl := h.of.lt
 have hpl := hw.pl
 have hn1 := hw.n1
 have htl := tail_len hs 0
 have l1 := enc_ten (n := s.n) (by omega)
 have l2 := enc_ten (n := s.places) (by omega)
 rw [put_eq, List.append_assoc, List.append_assoc] at h
 have hm1 := num_ok 8 (numR_enc (n := s.n) (by omega) (enc s.places ++ (tail s 0 ++ rest))) hn8 (by simp only [List.length_append]; omega) w h
 rw [List.drop_left] at hm1
 have hm2 := fun (W : World) (h : RS W R O (enc s.places ++ (tail s 0 ++ rest))) => num_ok 4096 (numR_enc (n := s.places) (by omega) (tail s 0 ++ rest)) hpl (by simp only [List.length_append]; omega) W h
 rw [List.drop_left] at hm2
 have e4 : ((8 : Nat) : Int) = 8 := by omega
 have e5 : ((4096 : Nat) : Int) = 4096 := by omega
 rw [e4] at hm1
 rw [e5] at hm2
 have HM1 := Lib.hid hm1
 have HM2 := Lib.hid hm2
 have HW := Lib.hid hw
 have HS := Lib.hid hs
 have hwp : decide ((0 : Int) < (s.n : Int)) = true := decide_eq_true (by omega)
 have hwn : decide (0 < s.n) = true := decide_eq_true (by omega)
 have hwn2 : 0 < s.n := by omega
 have hw0 : ((s.n : Int) == 0) = false := by rw [beq_eq_false_iff_ne]; omega
 clear hm1 hm2 e4 e5 l1 l2 htl hs hw h
 go_enter Tryz.func102, Tryz.ntmps102
 go_wp2_with fail
 refine HM1.out.mono ?_
 rintro e v1 ⟨rfl, hk1, hr1⟩
 go_wp2_with fail
 refine (HM2.out _ hr1).mono ?_
 rintro e v2 ⟨rfl, hk2, hr2⟩
 go_wp2_with fail
 refine (must_ok _).mono ?_
 rintro e w' ⟨rfl, rfl⟩
 go_wp2_with fail
 refine (empty_c hn1 HW.out.n2 hpl _).mono ?_
 rintro e v3 ⟨rfl, m, hmR, hA, hb, hO⟩
 have hk12 := hk1.trans hk2
 have hz2 := hk12.size
 obtain ⟨P, hP⟩ : ∃ P, P = v2.heap.size + 2 := ⟨_, rfl⟩
 rw [← hP] at hmR ⊢
 have hT : Taking w R O P s 0 (tail s 0 ++ rest) v3 := ⟨⟨m, _, hmR, hA, Tk.new s, fun b hb => Nat.le_trans hz2 (hO b hb)⟩, hr2.below hb, (Kp.of_kept hk12 (.inl rfl) (.inr rfl)).trans (Kp.of_below hb)⟩
 clear hk1 hk2 hk12 hz2 hr1 hr2 hmR hA hb hO hP
 go_wp2_with fail
 go_loopw [24] (fun i wr => ∃ j : Nat, j ≤ s.n ∧ i = .int .i64 j ∧ Taking w R O P s j (tail s j ++ rest) wr) (fun i _ => s.n - (intOf i).toNat)
 case atStart => exact ⟨0, Nat.zero_le _, rfl, hT⟩
 case round =>
  obtain ⟨j, hj, rfl, hT⟩ := hrel
  by_cases hlt : j < s.n
  ·obtain ⟨⟨m, r, hmR, hA, hTk, hO⟩, hR, hK⟩ := hT
   rw [tail_succ hlt, List.append_assoc] at hR
   have hsm := HS.out.len j hlt
   have hle : (s.l j).length ≤ s.places := Nat.le_trans (sumTo_le (f := fun t => (s.l t).length) s.n hlt) HW.out.many
   have HTK := Lib.hid (takeKeys_c (most := s.places) hpl hle (HS.out.key j hlt) (by rw [List.length_append]; have := tail_len HS.out (j + 1); omega) wr hR)
   have HSM := Lib.hid hsm
   have HK := Lib.hid hK
   have HTk := Lib.hid hTk
   clear hsm hle hR hTk
   go_wp2_with fail
   refine HTK.out.mono ?_
   rintro e v4 ⟨v, rfl, hrow, hr4, hk4⟩
   have hA4 : At v4 m r := hA.kp hk4 (fun b hb e => by have := hO b hb; omega)
   have hsep : ∀ g, v.ownBlock = some g → ¬ m.own g := fun g hg e => by have := (hrow.lt g hg).1; have := hA.lt g e; omega
   have HL := Lib.hid (lay_c v4 hA4 (HTk.out.fresh HW.out hlt) hrow hsep (by have := HSM.out; omega))
   rw [hmR] at HL
   have hk4' := HK.out.trans hk4
   clear hA hrow hk4 hK hsep HTK
   go_wp2_with fail
   refine HL.out.mono ?_
   rintro e v5 ⟨rfl, m5, r5, hA5, hL5, hS5⟩
   have hwz := hk4'.size
   have hT5 : Taking w R O P s (j + 1) (tail s (j + 1) ++ rest) v5 := ⟨⟨m5, r5, hS5.R.trans hmR, hA5, HTk.out.next hL5 hlt, fun b hb => by rcases hS5.own b hb with h | h; exact hO b h; omega⟩,
     ⟨(hS5.kp.block R hr4.rd.lt (fun e => by have := hO R e; omega)).trans hr4.rd, (hS5.kp.block O hr4.of.lt (fun e => by have := hO O e; omega)).trans hr4.of⟩,
     ⟨hS5.kp.os.trans hk4'.os, hS5.kp.tape.trans hk4'.tape, hS5.kp.output.trans hk4'.output, Nat.le_trans hwz hS5.kp.size, fun k hk hn => (hS5.kp.block k (by omega) (fun e => by have := hO k e; omega)).trans (hk4'.block k hk hn)⟩⟩
   clear hA4 hr4 hk4' hA5 hL5 hS5 hO HL hwz
   go_wp2_with fail
   refine (must_ok _).mono ?_
   rintro e w' ⟨rfl, rfl⟩
   go_wp2_with fail
   go_roundw
   case rel => exact ⟨j + 1, by omega, rfl, hT5⟩
   case measure => simp [intOf]; omega
  ·obtain rfl : j = s.n := by omega
   obtain ⟨⟨m, r, rfl, hA, hTk, hO⟩, hR, hK⟩ := hT
   rw [tail_end, List.nil_append] at hR
   go_wp2_with fail
   go_ret
   exact ⟨m, rfl, hA.alike hTk.n.symm hTk.pl.symm (fun i hi => (hTk.lo i (by rw [← hTk.n]; exact hi)).symm), hO, hR, hK⟩
end
end Go.Proofs.YtkiabladmgagdabGreatDoor.Ringy
