/- The contract of the function that WireReads hands to Read (layer 3): whatever is taken, one behind the other, up to the first that can't be. Nothing that was there turns but what it captured. -/
import Derived.Test.YtmoammadibepkaaDoorWireTakes
import Derived.Deep.AppendLies
import Derived.Deep.RegionLaw
import Derived.Deep.RegionHeld3
import Derived.Deep.CutRange
import Derived.Deep.CutBlock
namespace Go.Proofs.YtmoammadibepkaaDoor.Wirey
open Go.ChangeShapes Go.WideShapes Go.ChangeAt Go.RowKit

/-- Where the steps lie. -/
def StepsAt (w : World) (sb off : Nat) (ss : List St) : Prop := ∀ j s, ss[j]? = some s →
  w.cell? ⟨sb, off + j * 3, none⟩ = some (.int .i64 s.k) ∧ w.cell? ⟨sb, off + j * 3 + 1, none⟩ = some (.int .i64 s.n) ∧ w.cell? ⟨sb, off + j * 3 + 2, none⟩ = some (.bool s.ok)

theorem int_info : (Tryd.prog.info? 3).map (fun i => (i.zero, i.size, i.bytes)) = some (some (.int .i64 0), 1, 8) := by kernel_rfl

def ints (l : List Nat) : List Value := l.map fun (k : Nat) => Value.int .i64 (k : Int)
theorem ints_len (l : List Nat) : (ints l).length = l.length := List.length_map ..
theorem ints_add (l : List Nat) (k : Nat) : ints (l ++ [k]) = ints l ++ [.int .i64 (k : Int)] := List.map_append ..

theorem owns_keep {w w' : World} {B n : Nat} {t : TypeId} {v : Value} {xs : List Value} (h : w.ownsRow B t 1 v n xs) (hh : ∀ g, v.ownBlock = some g → g < w.heap.size → w'.heap[g]? = w.heap[g]?) : w'.ownsRow B t 1 v n xs := by
  refine ⟨h.1, ?_⟩
  rcases h.2 with h0 | ⟨g, cap, cur, rfl, hb, hg, h4⟩
  · exact .inl h0
  · have hlt : g < w.heap.size := by
      rcases Nat.lt_or_ge g w.heap.size with hlt | hge
      · exact hlt
      · rw [Array.getElem?_eq_none hge] at hg; cases hg
    exact .inr ⟨g, cap, cur, rfl, hb, (hh g rfl hlt).trans hg, h4⟩
theorem Kp.cell {S : Nat → Prop} {w w' : World} (h : Kp S w w') {p : Addr} {u : Value} (hc : w.cell? p = some u) (hS : ¬ S p.block) : w'.cell? p = some u :=
  (World.cell?_of_block (h.block p.block (World.block_lt_of_cell? w _ hc) hS)).trans hc
theorem Kp.free {S : Nat → Prop} {w w' : World} (h : Kp S w w') {p : Addr} {u : Value} (hc : w.cell? p = some u) (hS : ¬ S p.block) (hf : w.frozen? p = false) : w'.frozen? p = false :=
  (World.frozen?_of_block (h.block p.block (World.block_lt_of_cell? w _ hc) hS)).trans hf
theorem RS.drew1 {w : World} {R O : Nat} {l : List UInt8} (h : RS w R O l) : RS w.drew R O l := ⟨h.rd, h.of⟩
theorem cell_alloc_drew {w : World} {p : Addr} {o : Obj} {u : Value} (h : p.block < w.heap.size) (hc : w.cell? p = some u) : (w.alloc o).drew.cell? p = some u := by
  have : (w.alloc o).heap[p.block]? = w.heap[p.block]? := by
    show (w.heap.push o)[p.block]? = _
    rw [Array.getElem?_push_lt h, Array.getElem?_eq_getElem h]
  exact (World.cell?_of_block (w := w) (w' := (w.alloc o).drew) this).trans hc
theorem free_alloc_drew {w : World} {p : Addr} {o : Obj} {b : Bool} (h : p.block < w.heap.size) (hc : w.frozen? p = b) : (w.alloc o).drew.frozen? p = b := by
  have : (w.alloc o).heap[p.block]? = w.heap[p.block]? := by
    show (w.heap.push o)[p.block]? = _
    rw [Array.getElem?_push_lt h, Array.getElem?_eq_getElem h]
  exact (World.frozen?_of_block (w := w) (w' := (w.alloc o).drew) this).trans hc
theorem lt_alloc_drew {w : World} {o : Obj} {k : Nat} (h : k < w.heap.size) : k < (w.alloc o).drew.heap.size := by
  show k < (w.heap.push o).size
  rw [Array.size_push]; omega
theorem Kp.grown {S : Nat → Prop} {a b c : World} {row : Option Nat} (h : Kp S a b) (hg : b.grownBy c row) (hrow : ∀ g, row = some g → S g ∨ a.heap.size ≤ g) : Kp S a c :=
  ⟨hg.os.trans h.os, hg.tape.trans h.tape, hg.output.trans h.output, Nat.le_trans h.size hg.size, fun k hk hs => (hg.block k (Nat.lt_of_lt_of_le hk h.size) (fun e => by
    rcases hrow k e.symm with h1 | h1
    · exact hs h1
    · omega)).trans (h.block k hk hs)⟩
theorem step_own {v0 v : Value} {m n XB gg : Nat} (hfar : ∀ g, v.ownBlock = some g → v0.ownBlock = some g ∨ n ≤ g) (hm : n ≤ m) (hX : XB < m) (hvX : v.ownBlock ≠ some XB) (hat : v.ownBlock = some gg ∨ gg = m + 1) {len cap : Nat} :
    (∀ g, (Value.slice (some ⟨gg, 0, none⟩) len cap).ownBlock = some g → v0.ownBlock = some g ∨ n ≤ g) ∧ (Value.slice (some ⟨gg, 0, none⟩) len cap).ownBlock ≠ some XB := by
  refine ⟨fun g hg => ?_, fun e => ?_⟩
  · obtain rfl : gg = g := by simpa [Value.ownBlock] using hg
    rcases hat with h | h
    · exact hfar _ h
    · exact .inr (by omega)
  · obtain rfl : gg = XB := by simpa [Value.ownBlock] using e
    rcases hat with h | h
    · exact hvX h
    · omega
/-- How the function literal ends. -/
def StepsEnd (B : Nat) (R O XB : Nat) (l : List UInt8) (ss : List St) (v0 : Value) (w : World) (e : Ending) (w2 : World) : Prop :=
  (((runF ss l).2.1 = 0 ∧ e = .returned (.tuple #[]) ∧ RS w2 R O (runF ss l).2.2) ∨ ((runF ss l).2.1 ≠ 0 ∧ e = .panicked (flt O) ∧ Wrong w2 O (runF ss l).2.1)) ∧
  Kp (fun k => k = R ∨ k = O ∨ k = XB ∨ v0.ownBlock = some k) w w2 ∧
  ∃ v, w2.cell? ⟨XB, 0, none⟩ = some v ∧ w2.ownsRow B 3 1 v (runF ss l).1.length (ints (runF ss l).1) ∧ (∀ g, v.ownBlock = some g → v0.ownBlock = some g ∨ w.heap.size ≤ g)
theorem u64Of_wrap (n : Int) : IntKind.u64.wrap n = (u64Of n : Int) := by
  rw [IntKind.wrap_u64]
  unfold u64Of
  omega
theorem run_split {ss : List St} {s : St} {j : Nat} {acc : List Nat} {l m : List UInt8} (hs : ss[j]? = some s) (hrun : runF ss l = (acc ++ (runF (ss.drop j) m).1, (runF (ss.drop j) m).2)) :
    ((takeF s m).1 ≠ 0 → runF ss l = (acc, (takeF s m).1, [])) ∧
    ((takeF s m).1 = 0 → runF ss l = ((acc ++ [(takeF s m).2.length]) ++ (runF (ss.drop (j + 1)) (takeF s m).2).1, (runF (ss.drop (j + 1)) (takeF s m).2).2)) := by
  have hd : ss.drop j = s :: ss.drop (j + 1) := by
    obtain ⟨hlt, he⟩ := List.getElem?_eq_some_iff.1 hs
    rw [List.drop_eq_getElem_cons hlt, he]
  rw [hd] at hrun
  refine ⟨fun h => ?_, fun h => ?_⟩
  · rw [hrun, runF_bad h, List.append_nil]
  · rw [hrun, runF_good h, List.append_assoc]
    rfl

set_option maxHeartbeats 8000000 in
set_option maxRecDepth 100000 in
theorem take_steps {R O NB LB XB sb off len cap B : Nat} {ao : Option Addr} {l : List UInt8} {ss : List St} {v0 : Value} (w : World) (h : RS w R O l) (hB : B ≤ w.heap.size) (hl : l.length < 549755813888) (c1 : w.cell? ⟨NB, 0, none⟩ = some (.int .i64 (ss.length : Int))) (c2 : w.cell? ⟨LB, 0, none⟩ = some (.slice ao len cap)) (hao : 0 < ss.length → ao = some ⟨sb, off, none⟩) (hlen : ss.length ≤ len) (hl2 : len ≤ 9223372036854775807) (h12 : ss.length ≤ 12)
    (c3 : StepsAt w sb off ss) (hns : ∀ s ∈ ss, s.n ≤ 9223372036854775807) (c5 : w.cell? ⟨XB, 0, none⟩ = some v0) (hv : w.ownsRow B 3 1 v0 0 []) (z5 : w.frozen? ⟨XB, 0, none⟩ = false)
    (hR : R ≠ NB ∧ R ≠ LB ∧ R ≠ XB ∧ R ≠ sb ∧ v0.ownBlock ≠ some R) (hO : O ≠ NB ∧ O ≠ LB ∧ O ≠ XB ∧ O ≠ sb ∧ v0.ownBlock ≠ some O) (hX : XB ≠ NB ∧ XB ≠ LB ∧ XB ≠ sb ∧ v0.ownBlock ≠ some XB) (hv0 : v0.ownBlock ≠ some NB ∧ v0.ownBlock ≠ some LB ∧ v0.ownBlock ≠ some sb) (hSame : ∀ l, numR l = numF l) :
    Calls Tryd.prog 32 #[.pointer (some ⟨R, 0, none⟩), .pointer (some ⟨NB, 0, none⟩), .pointer (some ⟨LB, 0, none⟩), .pointer (some ⟨XB, 0, none⟩)] w (StepsEnd B R O XB l ss v0 w) := by
  go_enter Tryd.func32, Tryd.ntmps32
  go_wp2_with fail
  go_loopw [5] (fun i wr => ∃ j m acc v, i = .int .i64 ((j : Nat) : Int) ∧ j ≤ ss.length ∧ RS wr R O m ∧ m.length ≤ l.length ∧ wr.cell? ⟨XB, 0, none⟩ = some v ∧ wr.ownsRow B 3 1 v j (ints acc) ∧ (∀ g, v.ownBlock = some g → v0.ownBlock = some g ∨ w.heap.size ≤ g) ∧ acc.length = j ∧
      Kp (fun k => k = R ∨ k = O ∨ k = XB ∨ v0.ownBlock = some k) w wr ∧ runF ss l = (acc ++ (runF (ss.drop j) m).1, (runF (ss.drop j) m).2) ∧ wr.frozen? ⟨XB, 0, none⟩ = false) (fun i _ => ss.length + 1 - (intOf i).toNat)
  case atStart => exact ⟨0, l, [], v0, rfl, by omega, h, Nat.le_refl _, c5, hv, fun g hg => .inl hg, rfl, Kp.refl _ _, rfl, z5⟩
  case round =>
    obtain ⟨j, m, acc, v, rfl, hj, hr, hml, x5, hown, hfar, hal, hk, hrun, z5'⟩ := hrel
    have c1' : wr.cell? ⟨NB, 0, none⟩ = some (.int .i64 (ss.length : Int)) := hk.cell c1 (by rintro (e | e | e | e) <;> simp_all)
    have c2' : wr.cell? ⟨LB, 0, none⟩ = some (.slice ao len cap) := hk.cell c2 (by rintro (e | e | e | e) <;> simp_all)
    by_cases hj1 : j < ss.length
    · obtain ⟨s, hs⟩ : ∃ s, ss[j]? = some s := ⟨_, List.getElem?_eq_getElem hj1⟩
      have hjl : j < len := by omega
      obtain rfl := hao (by omega)
      have hsn := hns s (List.mem_of_getElem? hs)
      obtain ⟨e3, e4, e5⟩ := c3 j s hs
      have hsb : ¬ (sb = R ∨ sb = O ∨ sb = XB ∨ v0.ownBlock = some sb) := by rintro (e | e | e | e) <;> simp_all
      have d3 := hk.cell e3 hsb
      have d4 := hk.cell e4 hsb
      have d5 := hk.cell e5 hsb
      clear e3 e4 e5
      obtain ⟨hrun1, hrun2⟩ := run_split hs hrun
      have hRl : R < w.heap.size := h.rd.lt
      have hOl : O < w.heap.size := h.of.lt
      have hXl0 := World.block_lt_of_cell? w _ c5
      have hvR : v.ownBlock ≠ some R := fun e => (hfar R e).elim hR.2.2.2.2 (by omega)
      have hvO : v.ownBlock ≠ some O := fun e => (hfar O e).elim hO.2.2.2.2 (by omega)
      have hvX : v.ownBlock ≠ some XB := fun e => (hfar XB e).elim hX.2.2.2 (by simpa using Nat.not_le.2 hXl0)
      have hbad : ∀ wx e, Kept wr wx R O → (takeF s m).1 ≠ 0 → e = .panicked (flt O) → Wrong wx O (takeF s m).1 → StepsEnd B R O XB l ss v0 w e wx := by
        rintro wx e hkx he rfl hwx
        have hown1 : wx.ownsRow B 3 1 v j (ints acc) := owns_keep hown fun g hg hgl => hkx.block g hgl (fun e => hvR (e ▸ hg)) (fun e => hvO (e ▸ hg))
        unfold StepsEnd
        rw [hrun1 he]
        exact ⟨.inr ⟨he, rfl, hwx⟩, hk.trans (Kp.of_kept hkx (.inl rfl) (.inr (.inl rfl))), v, hkx.cell x5 (Ne.symm hR.2.2.1) (Ne.symm hO.2.2.1), by rw [hal]; exact hown1, hfar⟩
      have AS := Lib.hid (And.intro hs (And.intro hfar (And.intro hk (And.intro hrun1 (And.intro hrun2 hown)))))
      have HB := Lib.hid hbad
      clear hs hfar hk hrun hown hrun1 hrun2 hbad hRl hOl hXl0
      go_upto_block 2 with fail
      go_cut [5] from 6 to 59 (fun s5 wc => s5 = .int .i64 ((j : Nat) : Int) ∧ (takeF s m).1 = 0 ∧ Kept wr wc R O ∧ RS wc R O (takeF s m).2)
      case first =>
        by_cases hk0 : s.k = 0
        · have hb0 : (s.k == 0) = true := by simp [hk0]
          have HT := Lib.hid (show takeF s m = (nErr m (u64Of s.n), m.drop (numF m).2.1) from by unfold takeF; rw [if_pos hk0])
          go_wp2_with fail
          rw [u64Of_wrap]
          refine (numT hSame (l := m) (u64Of s.n) (by omega) wr hr).mono ?_
          rw [← HT.out]
          rintro e wx (⟨he, v1, rfl, hkx, hrx⟩ | ⟨he, rfl, hkx, hwx⟩)
          · go_wp2_with fail
            go_meet
            exact ⟨rfl, he, hkx, hrx⟩
          · go_wp2_with fail
            exact ⟨rfl, HB.out wx _ hkx he rfl hwx⟩
        have hb0 : (s.k == 0) = false := by simp [hk0]
        by_cases hk1 : s.k = 1
        · have hb1 : (s.k == 1) = true := by simp [hk1]
          have HT := Lib.hid (show takeF s m = (tErr m s.n, m.drop ((numF m).2.1 + (numF m).1)) from by unfold takeF; rw [if_neg hk0]; rw [if_pos hk1])
          go_wp2_with fail
          refine (textT hSame (l := m) s.n hsn (by omega) wr hr).mono ?_
          rw [← HT.out]
          rintro e wx (⟨he, v1, rfl, hkx, hrx⟩ | ⟨he, rfl, hkx, hwx⟩)
          · go_wp2_with fail
            go_meet
            exact ⟨rfl, he, hkx, hrx⟩
          · go_wp2_with fail
            exact ⟨rfl, HB.out wx _ hkx he rfl hwx⟩
        have hb1 : (s.k == 1) = false := by simp [hk1]
        by_cases hk2 : s.k = 2
        · have hb2 : (s.k == 2) = true := by simp [hk2]
          have HT := Lib.hid (show takeF s m = (fErr m, m.drop 1) from by unfold takeF; rw [if_neg hk0]; rw [if_neg hk1]; rw [if_pos hk2])
          go_wp2_with fail
          refine (flagT (l := m) (by omega) wr hr).mono ?_
          rw [← HT.out]
          rintro e wx (⟨he, v1, rfl, hkx, hrx⟩ | ⟨he, rfl, hkx, hwx⟩)
          · go_wp2_with fail
            go_meet
            exact ⟨rfl, he, hkx, hrx⟩
          · go_wp2_with fail
            exact ⟨rfl, HB.out wx _ hkx he rfl hwx⟩
        have hb2 : (s.k == 2) = false := by simp [hk2]
        by_cases hk3 : s.k = 3
        · have hb3 : (s.k == 3) = true := by simp [hk3]
          have HT := Lib.hid (show takeF s m = (if s.n < 0 ∨ (m.length : Int) < s.n then 4 else 0, m.drop s.n.toNat) from by unfold takeF; rw [if_neg hk0]; rw [if_neg hk1]; rw [if_neg hk2]; rw [if_pos hk3])
          go_wp2_with fail
          refine (bytesT (l := m) s.n (by omega) wr hr).mono ?_
          rw [← HT.out]
          rintro e wx (⟨he, v1, rfl, hkx, hrx⟩ | ⟨he, rfl, hkx, hwx⟩)
          · go_wp2_with fail
            go_meet
            exact ⟨rfl, he, hkx, hrx⟩
          · go_wp2_with fail
            exact ⟨rfl, HB.out wx _ hkx he rfl hwx⟩
        have hb3 : (s.k == 3) = false := by simp [hk3]
        have HT := Lib.hid (show takeF s m = (if s.ok then 0 else 6, m) from by unfold takeF; rw [if_neg hk0]; rw [if_neg hk1]; rw [if_neg hk2]; rw [if_neg hk3])
        go_wp2_with fail
        refine (mustT (l := m) s.ok wr hr).mono ?_
        rw [← HT.out]
        rintro e wx (⟨he, v1, rfl, hkx, hrx⟩ | ⟨he, rfl, hkx, hwx⟩)
        · go_wp2_with fail
          go_meet
          exact ⟨rfl, he, hkx, hrx⟩
        · go_wp2_with fail
          exact ⟨rfl, HB.out wx _ hkx he rfl hwx⟩
      case rest =>
        obtain ⟨rfl, he0, hkc, hrc⟩ := hcut
        go_wp2_with fail
        obtain ⟨hs, hfar, hk, hrun1, hrun2, hown⟩ := AS.out
        have AS2 := Lib.hid (And.intro (hrun2 he0) (And.intro hfar hk))
        have hownc : wc.ownsRow B 3 1 v j (ints acc) := owns_keep hown fun g hg hgl => hkc.block g hgl (fun e => hvR (e ▸ hg)) (fun e => hvO (e ▸ hg))
        have x5c := hkc.cell x5 (Ne.symm hR.2.2.1) (Ne.symm hO.2.2.1)
        have z5c := (hkc.free x5 (Ne.symm hR.2.2.1) (Ne.symm hO.2.2.1)).trans z5'
        have hXl := World.block_lt_of_cell? wc _ x5c
        have hBc : B ≤ wc.heap.size := Nat.le_trans hB (Nat.le_trans hk.size hkc.size)
        obtain ⟨i0, hi0, hz0, hz1, hz2⟩ := info_parts int_info
        have hkc0 := Lib.hid hkc
        clear hs hfar hk hrun1 hrun2 hown AS HB hkc hr x5 z5' d3 d4 d5 c1' c2' c1 c2 c3 c5
        go_region_law (first
          | (go_simp; go_at_call 38; refine (left_q _ (RS.drew1 hrc)).mono ?_; rintro e w2 ⟨rfl, rfl⟩)
          | (refine step_append_lies _ (by rfl) _ _ _ (by rfl) B 3 i0 _ 1 8 Tryd.underlying55 hi0 hz0 hz1 hz2 rfl (by omega) v j (ints acc) (by rfl) ((hownc.alloc _).drew)
              ⟨wc.heap.size, 0, none⟩ 1 1 [.int .i64 ((takeF s m).2.length : Int)] (by rfl) (by rfl) (World.news_of_block (cs := #[.int .i64 ((takeF s m).2.length : Int)]) (t := 3) (fr := (0, 0)) (heap_alloc_new wc _)) (by simp [Value.oneCell'])
              (by omega) (by simp [maxLen]; omega) (by omega) (by simp; omega) (wc.heap.size + 1) (by simp) ?_; intro gg cp w1 hown1 hgrow hat hlt
             have x6 := (hgrow.cell_far ⟨XB, 0, none⟩ (lt_alloc_drew hXl) (Ne.symm hvX)).trans (cell_alloc_drew hXl x5c)
             have z6 := (hgrow.frozen_far ⟨XB, 0, none⟩ (lt_alloc_drew hXl) (Ne.symm hvX)).trans (free_alloc_drew hXl z5c)))
        all_goals
          obtain ⟨hrun2, hfar, hk⟩ := AS2.out
          have hk1 := hk.trans (Kp.of_kept hkc0.out (.inl rfl) (.inr (.inl rfl)))
          have hk2 := ((((hk1.alloc _).drewN 1).grown hgrow (fun g hg => (hfar g hg).imp (fun e => .inr (.inr (.inr e))) id))).set (p := ⟨XB, 0, none⟩) (.inr (.inr (.inl rfl))) (.slice (some ⟨gg, 0, none⟩) (j + 1) cp)
          have hk3 : Kp (fun k => v.ownBlock = some k ∨ k = XB) wc _ := (((((Kp.refl _ wc).alloc _).drewN 1).grown hgrow (fun g hg => .inl (.inl hg)))).set (p := ⟨XB, 0, none⟩) (.inr rfl) (.slice (some ⟨gg, 0, none⟩) (j + 1) cp)
          obtain ⟨hfar2, hgX⟩ := step_own (len := j + 1) (cap := cp) hfar (Nat.le_trans hk.size hkc0.out.size) hXl hvX hat
          have hr2 : RS (w1.setCell ⟨XB, 0, none⟩ (.slice (some ⟨gg, 0, none⟩) (j + 1) cp)) R O (takeF s m).2 :=
            ⟨hk3.blk hrc.rd (by rintro (e | e); exact hvR e; exact hR.2.2.1 e), hk3.blk hrc.of (by rintro (e | e); exact hvO e; exact hO.2.2.1 e)⟩
          have hown2 := ownsRow_setCell_other hown1 hgX (.slice (some ⟨gg, 0, none⟩) (j + 1) cp)
          have x7 := World.cell?_setCell_same _ _ (.slice (some ⟨gg, 0, none⟩) (j + 1) cp) x6
          have hacc : (acc ++ [(takeF s m).2.length]).length = j + 1 := by rw [List.length_append, hal]; rfl
          rw [← ints_add] at hown2
          have z7 := (World.frozen?_setCell w1 ⟨XB, 0, none⟩ ⟨XB, 0, none⟩ (.slice (some ⟨gg, 0, none⟩) (j + 1) cp)).trans z6
          have AS3 := Lib.hid (And.intro hrun2 (And.intro hfar2 (And.intro hk2 (And.intro hr2 (And.intro hown2 (And.intro x7 z7))))))
          have hml2 : (takeF s m).2.length ≤ l.length := Nat.le_trans (takeF_le s m) hml
          clear hrun2 hfar hk hk1 hk2 hk3 hfar2 hgX hr2 hown2 x7 x6 z6 z7 hgrow hown1
          go_wp2_with fail
          go_roundw
          case measure => simp only [intOf] at *; omega
          case rel =>
            exact ⟨j + 1, _, acc ++ [(takeF s m).2.length], _, by first | rfl | simp, by omega, AS3.out.2.2.2.1, hml2, AS3.out.2.2.2.2.2.1, AS3.out.2.2.2.2.1, AS3.out.2.1, hacc, AS3.out.2.2.1, AS3.out.1, AS3.out.2.2.2.2.2.2⟩
    · obtain rfl : j = ss.length := by omega
      have hfin : StepsEnd B R O XB l ss v0 w (.returned (.tuple #[])) wr := by
        rw [List.drop_length] at hrun
        have hrun' : runF ss l = (acc, 0, m) := by rw [hrun]; show (acc ++ [], _) = _; rw [List.append_nil]; rfl
        unfold StepsEnd
        rw [hrun']
        exact ⟨.inl ⟨rfl, rfl, hr⟩, hk, v, x5, by rw [hal]; exact hown, hfar⟩
      have HF := Lib.hid hfin
      clear hfin hrun hk hfar hown
      go_wp2_with fail
      go_end0
      exact HF.out
end Go.Proofs.YtmoammadibepkaaDoor.Wirey
