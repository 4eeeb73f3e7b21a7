/- The function that slices.Backward hands back, over a slice of texts: from the last text to the first. No condition. Keys that are laid from the last on: what the lists are between. It speaks of no program. The keys of a list off bytes that hold them. -/
import Derived.Test.YtahmpggaicjgoaaGreatDoorRingExportAll
import Derived.Test.YtahmpggaicjgoaaGreatDoorRingRoundAll
import Derived.Test.YtahmpggaicjgoaaGreatDoorWireFlyAll
import Derived.Test.YtahmpggaicjgoaaGreatDoorSq
namespace Go.Proofs.YtahmpggaicjgoaaGreatDoor.Ringy
open Go.ChangeShapes Go.WideShapes Go.ChangeAt Go.RowKit Go.Shelf
open Wirey (Blk Row str str_size str_list Kp)
open Go.ChangeMaps Go.Maps

attribute [local go_sem] Oper.semAt_some

def bw (xs : List Key) : List (Nat × Key) := ((List.range xs.length).map fun i => (i, xs[i]?.getD [])).reverse
theorem bw_len (xs : List Key) : (bw xs).length = xs.length := by simp [bw]
theorem bw_snoc {xs : List Key} {q : Nat} (h : q < xs.length) : (bw xs).take (xs.length - q) = (bw xs).take (xs.length - (q + 1)) ++ [(q, xs[q]?.getD [])] := by
 have e : xs.length - q = (xs.length - (q + 1)) + 1 := by omega
 have hl : xs.length - (q + 1) < (bw xs).length := by rw [bw_len]; omega
 have hg : (bw xs)[xs.length - (q + 1)]? = some (q, xs[q]?.getD []) := by
  have h1 : xs.length - 1 - (xs.length - (q + 1)) = q := by omega
  unfold bw
  rw [List.getElem?_reverse (by simp; omega)]
  simp only [List.length_map, List.length_range, List.getElem?_map, h1]
  rw [List.getElem?_range h]
  rfl
 rw [e, List.take_add_one, hg]
 rfl
def RowB (v : Value) (B : Nat) (W W' : World) : Prop := RowK v W W' ∧ W'.heap[B]? = W.heap[B]?
theorem rowB_t {v : Value} {n : Nat} {A B C : World} (h : RowB v n A B) (k : RowB v n B C) : RowB v n A C := ⟨rowK_t h.1 k.1, k.2.trans h.2⟩
theorem rowB_b {v : Value} {B n₀ : Nat} (hv : ∀ g, v.ownBlock = some g → g < n₀) (hB : B < n₀) (W : World) (l : Nat) (o o' : Obj) (hl : n₀ ≤ l) (h1 : W.heap[l]? = some o) (h2 : o.isCells = false) (h3 : o.isWalk = false) : RowB v B W (W.putObj l o') :=
 ⟨rowK_b hv W l o o' hl h1 h2 h3, World.putObj_heap_other (by omega)⟩
set_option maxRecDepth 100000 in
set_option maxHeartbeats 2000000 in
theorem back1_in (cut : Key → Key) (n : Nat) (hn : 1 ≤ n) (l B : Nat) (v : Value) (xs : List Key) (hlen : xs.length ≤ 1000000) (hcut : ∀ x ∈ xs, cut x = x) (J Jx : List (Nat × Key) → World → Prop)
  (hY : ∀ pre (x : Nat × Key) W, J pre W → pre.length < xs.length → YieldAt Fence.wide (n - 1) Tryz.prog l #[.int .i64 x.1, .string (str (cut x.2))] W fun e W' =>
    (e = .returned (.bool true) ∧ J (pre ++ [x]) W' ∧ RowB v B W W') ∨ (e = .returned (.bool false) ∧ Jx (pre ++ [x]) W'))
  (W : World) (hB : W.cell? ⟨B, 0, none⟩ = some v) (hrow : W.ownsRow 0 9 1 v xs.length (strsV xs)) (h0 : J [] W) :
  CallsIn Fence.wide n Tryz.prog 187 #[.func (.yield l) #[] #[], .pointer (some ⟨B, 0, none⟩)] W fun e W' => (∃ v, e = .returned v) ∧
   ((∃ ys, ys = bw xs ∧ J ys W') ∨ (∃ pre, pre <+: bw xs ∧ Jx pre W')) := by
 obtain ⟨a, c, rfl⟩ := own_form hrow
 refine callsIn_of_wp Tryz.func187 rfl trivial ?_ rfl
 simp only [Tryz.ntmps187, List.size_toArray, List.length_cons, List.length_nil, Nat.reduceAdd, Nat.reduceSub, Array.replicate_succ, Array.replicate_zero, List.push_toArray, List.append_toArray, List.nil_append, List.cons_append]
 have HCUT := Lib.hid hcut
 clear hcut
 gi_wp2
 gi_loopw [3] (fun i wr => ∃ m : Nat, m ≤ xs.length ∧ i = .int .i64 ((m : Int) - 1) ∧ J ((bw xs).take (xs.length - m)) wr ∧ RowK (.slice a xs.length c) W wr ∧ wr.cell? ⟨B, 0, none⟩ = some (.slice a xs.length c))
  (fun i _ => (intOf i + 1).toNat)
 case atStart => exact ⟨xs.length, Nat.le_refl _, rfl, by simpa using h0, fun _ _ => rfl, hB⟩
 case round =>
  obtain ⟨m, hm, rfl, hJs, hnx, hBr⟩ := hrel
  cases m with
  | succ q =>
   obtain ⟨g, cap, hv, -, -⟩ := hrow.form (by omega)
   cases hv
   have e1 : (((q + 1 : Nat) : Int) - 1) = (q : Int) := by omega
   rw [e1]
   have hcx' : wr.cell? ⟨g, q, none⟩ = some (.string (str (xs[q]?.getD []))) := by
    have h2 := ownsRow_stay (w' := wr) hrow hnx
    rw [h2.cellAt q (by omega)]
    exact strsV_at (by omega)
   obtain ⟨fn, tmps, assign, body, hy, hR⟩ := hY _ (q, xs[q]?.getD []) wr hJs (by rw [List.length_take, bw_len]; omega)
   rw [HCUT.out _ (by rw [List.getElem?_eq_getElem (by omega : q < xs.length)]; exact List.getElem_mem _)] at hy
   have HTK := Lib.hid (bw_snoc (xs := xs) (q := q) (by omega))
   have hge : decide ((0 : Int) ≤ (q : Int)) = true := decide_eq_true (by omega)
   clear e1
   generalize xs[q]?.getD [] = x at *
   gi_wp2
   refine hR.mono ?_
   rintro e W3 (⟨rfl, hJ3, hk3⟩ | ⟨rfl, hJx3⟩)
   ·gi_wp2
    go_roundw
    case rel => exact ⟨q, by omega, rfl, by rw [HTK.out]; exact hJ3, rowK_t hnx hk3.1, (World.cell?_of_block hk3.2).trans hBr⟩
    case measure => simp [intOf]
   ·gi_wp2
    refine bodyPost_ret (results_none rfl _ _ _) rfl ?_
    exact ⟨⟨_, rfl⟩, .inr ⟨_, by rw [← HTK.out]; exact List.take_prefix _ _, hJx3⟩⟩
  | zero =>
   gi_wp2
   go_end0
   refine ⟨⟨_, rfl⟩, .inl ⟨_, ?_, hJs⟩⟩
   rw [Nat.sub_zero, ← bw_len, List.take_length]
def backF (B : Nat) : Value := .func (.func 187) #[] #[.pointer (some ⟨B, 0, none⟩)]
theorem backward_c (a : Option Addr) (n c : Nat) (w : World) :
  Calls Tryz.prog 168 #[.slice a n c] w fun e w' => e = .returned (backF w.heap.size) ∧ w' = w.alloc (.cells #[.slice a n c] 110) := by
 go_enter Tryz.func168, Tryz.ntmps168
 go_wp2_with fail
 go_ret
 exact ⟨rfl, rfl⟩
theorem range_back (cut : Key → Key) {g : Operand} {ps : Array Tmp} {assign body : Code} {Q : Exit → Act → World → Prop} {a : Act} {w : World} {B n₀ : Nat} {l : List Key} {v : Value} (hcut : ∀ x ∈ l, cut x = x) (hg : a.eval g = backF B) (hb : Blk w B 110 #[v]) (hrow : w.ownsRow n₀ 9 1 v l.length (strsV l)) (hlen : l.length ≤ 1000000) (hps : ps.size = 2)
  (I : List (Nat × Key) → World → Prop) (Ix : Code → List (Nat × Key) → World → Prop) (hI : OwnFrom w.heap.size I) (hIx : ∀ c, OwnFrom w.heap.size (Ix c)) (h0 : I [] w) (a₁ : Nat × Key → Act)
  (hassign : ∀ (r : Nat) (x : Nat × Key) (W : World) (K : Act → World → Prop), K (a₁ x) W → assign.wpIn (Fence.wide.inRound r) 3 Tryz.prog (Exit.then K (fun _ _ _ => False)) { tmps := (ps.zip #[Value.int .i64 x.1, Value.string (str (cut x.2))]).foldl (fun t (p, v) => t.setIfInBounds p v) a.tmps, defers := [] } W)
  (hbody : ∀ (r : Nat) (pre : List (Nat × Key)) (x : Nat × Key) (W : World), I pre W → pre.length < l.length → body.wpIn (Fence.wide.inRound r) 3 Tryz.prog (ownPostG w.heap.size (RowB v B) I Ix (pre ++ [x]) W) (a₁ x) W)
  (hdone : ∀ (D : Nat) (W : World), w.heap.size ≤ D → I (bw l) W → W.heap[D]? = some (.deferred (some [])) → Q .normal { a with defers := { target := .collected D, args := #[] } :: a.defers } W)
  (hstop : ∀ (D : Nat) (c : Code) (pre : List (Nat × Key)) (W : World), w.heap.size ≤ D → pre <+: bw l → Ix c pre W → W.heap[D]? = some (.deferred (some [])) → c.wp Tryz.prog Q { a with defers := { target := .collected D, args := #[] } :: a.defers } W) :
  (Code.rangeFunc g ps assign body).wp Tryz.prog Q a w := by
 have hv := hrow.lt
 have hseq : SeqStopsK Fence.wide 4 Tryz.prog 187 #[.pointer (some ⟨B, 0, none⟩)] (fun x : Nat × Key => #[Value.int .i64 x.1, Value.string (str (cut x.2))]) (RowB v B) (fun ys => ys = bw l) (fun pre => pre <+: bw l) l.length w := fun k J Jx W hW _ _ hY h0 =>
  back1_in cut 4 (by omega) k B v l hlen hcut J Jx hY W ((hW.cell (p := ⟨B, 0, none⟩) hb.lt).trans (hb.cell 0)) (ownsRow_stay (own_low hrow) fun b hb => hW.block b (hrow.lt b hb).2) h0
 refine (wpIn_wide (n := 5)).1 (wpIn_rangeFunc_ownG (F := Fence.wide) (n := 5) (w := w) rfl (by omega) (gf := 187) (lb := #[.pointer (some ⟨B, 0, none⟩)]) hg trivial (enters_of Tryz.func187 (by kernel_rfl) rfl)
   hseq rowB_t (rowB_b (fun g e => (hv g e).2) hb.lt) (Below.refl _ _) (fun _ => hps.symm) I Ix hI hIx h0 a₁ hassign hbody
   (fun D ys W hD hy hI2 hK => by subst hy; exact hdone D W hD hI2 hK) (fun D c pre W hD hp hx hK => wpIn_wide.2 (hstop D c pre W hD hp hx hK)))
end Go.Proofs.YtahmpggaicjgoaaGreatDoor.Ringy
namespace Go.Proofs.YtahmpggaicjgoaaGreatDoor.Ringy

def lays (r : Rg) (i : Nat) (pre : List (Nat × Key)) : Rg := pre.foldl (fun r x => r.fr i (cut x.2)) r
theorem lays_snoc (r : Rg) (i : Nat) (pre : List (Nat × Key)) (x : Nat × Key) : lays r i (pre ++ [x]) = (lays r i pre).fr i (cut x.2) := by simp [lays]
structure Fresh (r : Rg) (i : Nat) (ks : List Key) : Prop where
 hi : i < r.n
 nd : ks.Nodup
 no : ∀ k ∈ ks, ¬ r.has k
 room : r.many + ks.length ≤ r.places
 key : ∀ k ∈ ks, k.length ≤ 64
structure Laid (r : Rg) (i : Nat) (ks : List Key) (s : Rg) : Prop where
 n : s.n = r.n
 pl : s.places = r.places
 many : s.many = r.many + ks.length
 has : ∀ k, s.has k ↔ k ∈ ks ∨ r.has k
 li : s.l i = ks ++ r.l i
 lo : ∀ t, t < r.n → t ≠ i → s.l t = r.l t
variable {r s : Rg} {i : Nat} {ks : List Key}
theorem Laid.more {k : Key} (h : Laid r i ks s) (hi : i < r.n) (hk : k ∉ ks) (hr : ¬ r.has k) (hl : k.length ≤ 64) (hm : r.many + ks.length < r.places) : s.hasB k = false ∧ s.ok i k = true ∧ Laid r i (k :: ks) (s.fr i k) := by
 have hno : ¬ s.has k := fun e => by rcases (h.has k).1 e with e | e; exact hk e; exact hr e
 have hok : s.ok i k = true := Rg.ok_of (by omega) (by rw [h.n]; omega) hl (.inr (by rw [h.many, h.pl]; exact hm))
 have hst : ∀ t, t < r.n → strike k (s.l t) = s.l t := fun t ht => strike_of_not fun e => hno ⟨t, by rw [h.n]; exact ht, e⟩
 refine ⟨by rw [Bool.eq_false_iff]; exact fun e => hno (Rg.hasB_iff.1 e), hok, (Rg.fr_n s i k).1.trans h.n, (Rg.fr_n s i k).2.trans h.pl, ?_, fun x => ?_, ?_, fun t ht hti => ?_⟩
 ·rw [Rg.many_fr_new hok hno, h.many, List.length_cons]; omega
 ·rw [Rg.has_fr hok, h.has, List.mem_cons, or_assoc]
 ·rw [Rg.l_fr hok, if_pos (by simp), hst i hi, h.li]; rfl
 ·rw [Rg.l_fr hok, if_neg (by simpa using hti), hst t ht, h.lo t ht hti]
theorem lays_at (h : Fresh r i ks) : ∀ d, d ≤ ks.length → Laid r i (ks.drop (ks.length - d)) (lays r i ((bw ks).take d)) ∧
  (d < ks.length → (lays r i ((bw ks).take d)).hasB (ks[ks.length - (d + 1)]?.getD []) = false ∧ (lays r i ((bw ks).take d)).ok i (ks[ks.length - (d + 1)]?.getD []) = true) := by
 have step : ∀ d, d < ks.length → Laid r i (ks.drop (ks.length - d)) (lays r i ((bw ks).take d)) → (lays r i ((bw ks).take d)).hasB (ks[ks.length - (d + 1)]?.getD []) = false ∧ (lays r i ((bw ks).take d)).ok i (ks[ks.length - (d + 1)]?.getD []) = true ∧
   Laid r i (ks.drop (ks.length - (d + 1))) (lays r i ((bw ks).take (d + 1))) := by
  intro d hd hL
  obtain ⟨q, hq⟩ : ∃ q, q = ks.length - (d + 1) := ⟨_, rfl⟩
  have hq1 : q < ks.length := by omega
  have e1 : ks.length - d = q + 1 := by omega
  have e2 : d = ks.length - (q + 1) := by omega
  have e3 : d + 1 = ks.length - q := by omega
  have hm : ks[q]?.getD [] ∈ ks := by rw [List.getElem?_eq_getElem hq1]; exact List.getElem_mem _
  have hdrop : ks.drop q = (ks[q]?.getD []) :: ks.drop (q + 1) := by rw [List.drop_eq_getElem_cons hq1, List.getElem?_eq_getElem hq1]; rfl
  have hnm : ks[q]?.getD [] ∉ ks.drop (q + 1) := by
   have h1 : (ks.drop q).Nodup := h.nd.sublist (List.drop_sublist _ _)
   rw [hdrop] at h1
   exact (List.nodup_cons.1 h1).1
  rw [e1] at hL
  obtain ⟨a, b, c⟩ := hL.more h.hi hnm (h.no _ hm) (h.key _ hm) (by rw [List.length_drop]; have := h.room; omega)
  rw [← hq]
  refine ⟨a, b, ?_⟩
  rw [e3, bw_snoc hq1, ← e2, lays_snoc, cut_of (h.key _ hm), hdrop]
  exact c
 have base : ∀ d, d ≤ ks.length → Laid r i (ks.drop (ks.length - d)) (lays r i ((bw ks).take d)) := by
  intro d
  induction d with
  | zero =>
   intro _
   rw [Nat.sub_zero, List.drop_length, List.take_zero]
   exact ⟨rfl, rfl, rfl, fun k => by simp [lays], rfl, fun _ _ _ => rfl⟩
  | succ d ih => exact fun hd => (step d (by omega) (ih (by omega))).2.2
 exact fun d hd => ⟨base d hd, fun hlt => ⟨(step d hlt (base d hd)).1, (step d hlt (base d hd)).2.1⟩⟩
theorem lays_all (h : Fresh r i ks) : Laid r i ks (lays r i (bw ks)) := by
 have := (lays_at h ks.length (Nat.le_refl _)).1
 rw [Nat.sub_self, List.drop_zero, ← bw_len, List.take_length] at this
 exact this
theorem lays_pre (h : Fresh r i ks) {p : List (Nat × Key)} {x : Nat × Key} (hp : p ++ [x] <+: bw ks) : (lays r i p).hasB (cut x.2) = false ∧ (lays r i p).ok i (cut x.2) = true := by
 have hl := hp.length_le
 rw [List.length_append, bw_len] at hl
 simp only [List.length_cons, List.length_nil] at hl
 have e1 : p ++ [x] = (bw ks).take (p.length + 1) := by
  have := List.prefix_iff_eq_take.1 hp
  simpa using this
 have hb := bw_snoc (xs := ks) (q := ks.length - (p.length + 1)) (by omega)
 rw [show ks.length - (ks.length - (p.length + 1)) = p.length + 1 by omega, show ks.length - (ks.length - (p.length + 1) + 1) = p.length by omega, ← e1] at hb
 obtain ⟨h1, h2⟩ := List.append_inj' hb rfl
 cases h2
 have hm : ks[ks.length - (p.length + 1)]?.getD [] ∈ ks := by rw [List.getElem?_eq_getElem (by omega)]; exact List.getElem_mem _
 show (lays r i p).hasB (cut (ks[ks.length - (p.length + 1)]?.getD [])) = false ∧ (lays r i p).ok i (cut (ks[ks.length - (p.length + 1)]?.getD [])) = true
 rw [cut_of (h.key _ hm)]
 have hf := (lays_at h p.length (by omega)).2 (by omega)
 rw [← h1] at hf
 exact hf
end Go.Proofs.YtahmpggaicjgoaaGreatDoor.Ringy
namespace Go.Proofs.YtahmpggaicjgoaaGreatDoor.Ringy
open Go.ChangeShapes Go.WideShapes Go.ChangeAt Go.RowKit Go.Shelf
open Wirey (Blk Row str str_size str_list Kp Kept RS enc txt numR_enc num_ok rtext_ok)
open Go.ChangeMaps Go.Maps

theorem txt_took {x : Key} (hx : x.length ≤ 64) (rest : List UInt8) (hr : rest.length < 549755813888) :
  Wirey.numR (txt x ++ rest) = (x.length, (enc x.length).length, 0) ∧ (enc x.length).length + x.length ≤ (txt x ++ rest).length ∧ (txt x ++ rest).length < 1099511627776 ∧
   (((txt x ++ rest).drop (enc x.length).length).take x.length) = x ∧ (txt x ++ rest).drop ((enc x.length).length + x.length) = rest := by
 have e1 : txt x ++ rest = enc x.length ++ (x ++ rest) := by simp [txt]
 have hl := enc_ten (n := x.length) (by omega)
 rw [e1]
 refine ⟨numR_enc (by omega) _, by simp only [List.length_append]; omega, by simp only [List.length_append]; omega, by rw [List.drop_left, List.take_left], ?_⟩
 rw [← List.drop_drop, List.drop_left, List.drop_left]
theorem keysB_drop {l : List Key} {p : Nat} (hp : p < l.length) : keysB (l.drop p) = txt (l[p]?.getD []) ++ keysB (l.drop (p + 1)) := by
 rw [List.drop_eq_getElem_cons hp, List.getElem?_eq_getElem hp]
 rfl
set_option maxHeartbeats 4000000 in
set_option maxRecDepth 100000 in
theorem takeKeys_c {R O most : Nat} {l : List Key} {rest : List UInt8} (hm : most ≤ 4096) (hl : l.length ≤ most) (hk : ∀ k ∈ l, k.length ≤ 64) (hrest : rest.length < 274877906944) (w : World) (h : RS w R O (listB l ++ rest)) :
  Calls Tryz.prog 130 #[.pointer (some ⟨R, 0, none⟩), .int .i64 most] w fun e w' => ∃ v, e = .returned v ∧ w'.ownsRow w.heap.size 9 1 v l.length (strsV l) ∧ RS w' R O rest ∧ Kp (fun k => k = R ∨ k = O) w w' := by
 obtain ⟨i0, hi0, hz0, hz1, hz2⟩ := info_parts str_info
 have hRl := h.rd.lt
 have hOl := h.of.lt
 have hkl := keysB_len hk
 have hel := enc_ten (n := l.length) (by omega)
 have e1 : listB l ++ rest = enc l.length ++ (keysB l ++ rest) := by simp [listB]
 rw [e1] at h
 have hn := num_ok most (numR_enc (n := l.length) (by omega) (keysB l ++ rest)) hl (by simp only [List.length_append]; omega) w h
 rw [List.drop_left] at hn
 have HN := Lib.hid hn
 have HKL := Lib.hid (fun p => keysB_len (l := l.drop p) (fun x hx => hk x (List.mem_of_mem_drop hx)))
 have HK := Lib.hid hk
 have HR := Lib.hid hrest
 clear hn e1 hel hkl hk hrest
 go_enter Tryz.func130, Tryz.ntmps130
 go_wp2_with fail
 refine HN.out.mono ?_
 rintro e v1 ⟨rfl, hk1, hr1⟩
 have hK1 : Kp (fun k => k = R ∨ k = O) w v1 := Kp.of_kept hk1 (.inl rfl) (.inr rfl)
 go_wp2_with fail
 go_loopw [5, 10] (fun v i wr => ∃ p : Nat, p ≤ l.length ∧ i = .int .u64 p ∧ wr.ownsRow w.heap.size 9 1 v p (strsV (l.take p)) ∧ RS wr R O (keysB (l.drop p) ++ rest) ∧ Kp (fun k => k = R ∨ k = O) w wr) (fun _ i _ => l.length - (intOf i).toNat)
 case atStart => exact ⟨0, Nat.zero_le _, rfl, ⟨rfl, .inl ⟨rfl, rfl⟩⟩, hr1, hK1⟩
 case round =>
  obtain ⟨p, hp, rfl, hrow, hR, hK⟩ := hrel
  clear hr1 hK1 hk1
  by_cases hlt : p < l.length
  ·have hkd := keysB_drop hlt
   rw [hkd, List.append_assoc] at hR
   have hx := HK.out (l[p]?.getD []) (mem_pos_of hlt)
   obtain ⟨t1, t2, t3, t4, t5⟩ := txt_took hx (keysB (l.drop (p + 1)) ++ rest) (by have := HKL.out (p + 1); have h3 := HR.out; rw [List.length_drop] at this; simp only [List.length_append]; omega)
   have ht := rtext_ok 64 (by omega) t1 hx t2 t3 wr hR
   rw [t4, t5] at ht
   have HT := Lib.hid ht
   have HTK := Lib.hid (take_snoc hlt)
   clear t1 t2 t3 t4 t5 ht hkd hR hx
   generalize l[p]?.getD [] = x at *
   obtain ⟨sa, sc, rfl⟩ := own_form hrow
   go_wp2_with fail
   refine HT.out.mono ?_
   rintro e w2 ⟨rfl, hk2, hr2⟩
   have hrow2 : w2.ownsRow w.heap.size 9 1 (.slice sa p sc) p (strsV (l.take p)) := ownsRow_stay hrow (fun g hg => hk2.block g (hrow.lt g hg).2 (by have := (hrow.lt g hg).1; omega) (by have := (hrow.lt g hg).1; omega))
   have hK2 := hK.trans (Kp.of_kept hk2 (.inl rfl) (.inr rfl))
   have hw2 : w.heap.size ≤ w2.heap.size := hK2.size
   have HR2 := Lib.hid hr2
   clear hrow hk2 hr2 hK
   go_wp2_with (first | (refine wpList_append_lies _ (by rfl) _ _ _ (by rfl) w.heap.size 9 i0 _ 1 16 Tryz.underlying110 hi0 hz0 hz1 hz2 rfl (by omega) (.slice sa p sc) p (strsV (l.take p)) (by rfl) (hrow2.alloc _) ⟨w2.heap.size, 0, none⟩ 1 1 [.string (str x)] (by rfl) (by rfl) (World.news_of_block (cs := #[.string (str x)]) (t := 9) (fr := (0, 0)) (heap_alloc_new w2 _)) (by simp [Value.oneCell']) (by omega) (by simp [maxLen]; omega) (by omega) (by simp; omega) (w2.heap.size + 1) (by simp) ?_; intro gg cp w3 hown1 hgrow hat3 hlt3))
   go_roundw
   case rel =>
    rw [← strsV_snoc, ← HTK.out] at hown1
    have hrow2l := hrow2.lt
    have hne : ∀ b, b < w.heap.size → w3.heap[b]? = w2.heap[b]? := fun b hb => (hgrow.block b (by simp; omega) (fun e => by have := (hrow2l b e.symm).1; omega)).trans (Below.heap_alloc w2 _ b (by omega))
    have hkk : Kp (fun k => k = R ∨ k = O) w w3 := ⟨hgrow.os.trans hK2.os, hgrow.tape.trans hK2.tape, hgrow.output.trans hK2.output, by have := hgrow.size; simp at this; omega, fun b hb hS => (hne b hb).trans (hK2.block b hb hS)⟩
    refine ⟨p + 1, by omega, rfl, hown1, ?_, hkk⟩
    exact ⟨(hne R hRl).trans HR2.out.rd, (hne O hOl).trans HR2.out.of⟩
   case measure => simp [intOf]; omega
  ·obtain rfl : p = l.length := by omega
   obtain ⟨sa, sc, rfl⟩ := own_form hrow
   go_wp2_with fail
   go_ret
   rw [List.drop_length] at hR
   rw [List.take_length] at hrow
   exact ⟨_, rfl, hrow, hR, hK⟩
end Go.Proofs.YtahmpggaicjgoaaGreatDoor.Ringy
