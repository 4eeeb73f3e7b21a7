/- How often a key was seen, exactly, while no other key shares a counter with it; what the laws of layer 8 begin with; no policy at all. No condition. -/
import Derived.Test.YtncgfnocokippaaTinyRun
namespace Go.Proofs.Ytncgfnocokippaa.Tinyy
open Go.ChangeShapes Go.WideShapes Go.ChangeAt Go.RowKit
open Wirey (Blk Row str str_size str_list str_take Kp)
open Ringy
open Sketchy (Sk ksOf ksOf_lt Six upRow)

/-! A key by itself -/
/-- All that a sketch has of a key is that it was added m times. -/
structure Exact (s : Sk) (ks : Nat → Nat) (m : Nat) : Prop where
  bit : s.bit ks = decide (0 < m)
  cnt : ∀ i, i < 4 → s.cnt ks i = m - 1
theorem lst_of {s : Sk} {ks : Nat → Nat} {m : Nat} (hm : m ≤ 15) : ∀ j, 1 ≤ j → (∀ i, i < j → s.cnt ks i = m) → s.lst ks j = m
  | 1, _, h => by
    show min 15 (s.cnt ks 0) = m
    rw [h 0 (by omega)]; omega
  | j + 2, _, h => by
    show min (s.lst ks (j + 1)) (s.cnt ks (j + 1)) = m
    rw [lst_of hm (j + 1) (by omega) (fun i hi => h i (by omega)), h (j + 1) (by omega)]; omega
section
variable {s : Sk} {ks ks' : Nat → Nat} {m : Nat}
theorem Exact.lst (h : Exact s ks m) (hm : m ≤ 16) : s.lst ks 4 = m - 1 := lst_of (by omega) 4 (by omega) h.cnt
theorem Exact.seen (h : Exact s ks m) (hm : m ≤ 16) : s.seen ks = m := by
  unfold Sk.seen
  rw [h.lst hm, h.bit]
  by_cases e : 0 < m
  · rw [decide_eq_true e, if_pos rfl]; omega
  · rw [decide_eq_false e, if_neg (by decide)]; omega
theorem Exact.same (h : Exact s ks m) (hp : s.Pre) (hk : ∀ i, i < 5 → ks i < s.wide) (hm : m < 16) : Exact (s.note ks) ks (m + 1) := by
  unfold Sk.note
  rw [h.bit]
  by_cases e : 0 < m
  · rw [decide_eq_true e, if_pos rfl]
    unfold Sk.grow
    rw [if_neg (by rw [h.lst (by omega)]; omega)]
    refine ⟨?_, fun i hi => ?_⟩
    · show s.bit ks = _
      rw [h.bit, decide_eq_true e, decide_eq_true (by omega)]
    · show (if i < 4 then upRow (s.r i) (ks i) (s.lst ks 4) else s.r i)[ks i]?.getD 0 = _
      rw [if_pos hi, h.lst (by omega)]
      unfold upRow
      have hc : (s.r i)[ks i]?.getD 0 = m - 1 := h.cnt i hi
      rw [if_pos hc, List.getElem?_set, if_pos rfl, if_pos (by rw [hp.len i hi]; exact hk i (by omega))]
      show m - 1 + 1 = m + 1 - 1
      omega
  · obtain rfl : m = 0 := by omega
    rw [decide_eq_false e, if_neg (by decide)]
    refine ⟨?_, fun i hi => h.cnt i hi⟩
    show ((s.door.set (ks 4) true)[ks 4]?.getD false) = _
    rw [List.getElem?_set, if_pos rfl, if_pos (by rw [hp.dlen]; exact hk 4 (by omega))]
    rfl
theorem Exact.other (h : Exact s ks m) (hne : ∀ i, i < 5 → ks' i ≠ ks i) : Exact (s.note ks') ks m := by
  unfold Sk.note
  split
  · unfold Sk.grow
    split
    · exact h
    · refine ⟨h.bit, fun i hi => ?_⟩
      show (if i < 4 then upRow (s.r i) (ks' i) (s.lst ks' 4) else s.r i)[ks i]?.getD 0 = _
      rw [if_pos hi]
      unfold upRow
      split
      · rw [List.getElem?_set, if_neg (hne i (by omega))]; exact h.cnt i hi
      · exact h.cnt i hi
  · refine ⟨?_, h.cnt⟩
    show ((s.door.set (ks' 4) true)[ks 4]?.getD false) = _
    rw [List.getElem?_set, if_neg (hne 4 (by omega))]
    exact h.bit
end
/-- A small sketch that has not aged yet. -/
structure Young (v : Tv) (seed n : Nat) : Prop where
  ok : v.Ok
  wide : v.sk.wide = 16
  seed : v.sk.seed = seed
  added : v.sk.added = n
def kAt (seed : Nat) (k : Key) : Nat → Nat := ksOf (Mixy.text seed k) 16
theorem kAt_lt {seed : Nat} {k : Key} (i : Nat) : kAt seed k i < 16 := ksOf_lt (by omega) i
section
variable {v : Tv} {seed n : Nat} {k x : Key} {m : Nat}
theorem Young.ks (h : Young v seed n) (k : Key) : v.ks k = kAt seed k := by unfold Tv.ks kAt; rw [h.wide, h.seed]
theorem Young.add (h : Young v seed n) (hn : n < 159) (k : Key) : (v.note k).sk = (v.sk.note (kAt seed k)).count := by
  show v.sk.add (v.ks k) = _
  rw [h.ks]
  unfold Sk.add
  rw [if_neg (by rw [h.wide, h.added]; omega)]
theorem Young.note (h : Young v seed n) (hn : n < 159) (k : Key) : Young (v.note k) seed (n + 1) := by
  refine ⟨h.ok.note k, Tv.note_wide.trans h.wide, Tv.note_seed.trans h.seed, ?_⟩
  rw [h.add hn]
  show (v.sk.note (kAt seed k)).added + 1 = n + 1
  rw [Sketchy.Sk.note_fix.2.1, h.added]
theorem Young.same (h : Young v seed n) (hn : n < 159) (he : Exact v.sk (kAt seed k) m) (hm : m < 16) : Exact (v.note k).sk (kAt seed k) (m + 1) := by
  rw [h.add hn]
  have := he.same h.ok.fit.sw.pre (fun i _ => by rw [h.wide]; exact kAt_lt i) hm
  exact ⟨this.bit, this.cnt⟩
theorem Young.other (h : Young v seed n) (hn : n < 159) (he : Exact v.sk (kAt seed k) m) (hne : ∀ i, i < 5 → kAt seed x i ≠ kAt seed k i) : Exact (v.note x).sk (kAt seed k) m := by
  rw [h.add hn]
  have := he.other hne
  exact ⟨this.bit, this.cnt⟩
theorem Young.seen (h : Young v seed n) (he : Exact v.sk (kAt seed k) m) (hm : m ≤ 16) : v.seen k = m := by
  unfold Tv.seen
  rw [h.ks]
  exact he.seen hm
end
theorem young_new {seed : Nat} (h : seed < 18446744073709551616) : Young (Tv.new 2 seed) seed 0 := ⟨Tv.new_ok (by omega) (by omega) h, rfl, rfl, rfl⟩
theorem exact_new (seed : Nat) (k : Key) : Exact (Tv.new 2 seed).sk (kAt seed k) 0 := by
  refine ⟨?_, fun i _ => ?_⟩
  · show (List.replicate 16 false)[kAt seed k 4]?.getD false = false
    rw [List.getElem?_eq_getElem (by rw [List.length_replicate]; exact kAt_lt 4), List.getElem_replicate]
    rfl
  · show (List.replicate 16 0)[kAt seed k i]?.getD 0 = 0
    rw [List.getElem?_eq_getElem (by rw [List.length_replicate]; exact kAt_lt i), List.getElem_replicate]
    rfl
/-- The three lists. -/
structure Lie (v : Tv) (a b c : List Key) : Prop where
  most : v.most = 2
  n : v.rg.n = 3
  l0 : v.rg.l 0 = a
  l1 : v.rg.l 1 = b
  l2 : v.rg.l 2 = c
section
variable {v : Tv} {a b c : List Key} {k : Key}
theorem Lie.note (h : Lie v a b c) (k : Key) : Lie (v.note k) a b c := ⟨h.most, h.n, h.l0, h.l1, h.l2⟩
theorem Lie.fr0 (h : Lie v a b c) (k : Key) : Lie (v.fr 0 k) (k :: strike k a) (strike k b) (strike k c) := ⟨h.most, h.n, by rw [← h.l0]; rfl, by rw [← h.l1]; rfl, by rw [← h.l2]; rfl⟩
theorem Lie.fr1 (h : Lie v a b c) (k : Key) : Lie (v.fr 1 k) (strike k a) (k :: strike k b) (strike k c) := ⟨h.most, h.n, by rw [← h.l0]; rfl, by rw [← h.l1]; rfl, by rw [← h.l2]; rfl⟩
theorem Lie.dr (h : Lie v a b c) (k : Key) : Lie (v.dr k) (strike k a) (strike k b) (strike k c) := ⟨h.most, h.n, by rw [← h.l0]; rfl, by rw [← h.l1]; rfl, by rw [← h.l2]; rfl⟩
theorem Lie.at_ (h : Lie v a b c) (k : Key) : v.at_ k = if k ∈ a then some 0 else if k ∈ b then some 1 else if k ∈ c then some 2 else none := by unfold Tv.at_; rw [h.l0, h.l1, h.l2]
theorem Lie.len (h : Lie v a b c) : v.len 0 = a.length ∧ v.kept = a.length + b.length + c.length := by unfold Tv.kept Tv.len; rw [h.l0, h.l1, h.l2]; exact ⟨rfl, rfl⟩
end
/-- A key comes first of all. -/
theorem ins_first {v : Tv} {k : Key} (h : Lie v [] [] []) (hk : k.length ≤ 64) : v.insert k = v.came k ∧ Lie (v.insert k) [k] [] [] := by
  have hat : v.has k = false := by unfold Tv.has; rw [h.at_]; simp
  have hl := (h.note k).fr0 k
  have hc : (v.came k).len 0 ≤ wMost v.most := by rw [show v.came k = (v.note k).fr 0 k from rfl, hl.len.1, h.most]; show 1 ≤ wMost 2; decide
  have e : v.insert k = v.came k := by
    unfold Tv.insert Tv.ins Tv.fresh
    rw [if_neg (by omega), hat, if_neg (by decide), if_pos hc]
  rw [e]
  exact ⟨rfl, hl⟩
/-- A second one: the first is on trial. -/
theorem ins_second {v : Tv} {k x : Key} (h : Lie v [x] [] []) (hk : k.length ≤ 64) (hne : x ≠ k) : (v.insert k).sk = (v.note k).sk ∧ Lie (v.insert k) [k] [x] [] := by
  have hat : v.has k = false := by unfold Tv.has; rw [h.at_]; simp [Ne.symm hne]
  have hl := (h.note k).fr0 k
  have hs : strike k [x] = [x] := strike_of_not (by simp [Ne.symm hne])
  have hs2 : strike x [k] = [k] := strike_of_not (by simp [hne])
  rw [hs, show strike k [] = [] from rfl] at hl
  have hl : Lie (v.came k) [k, x] [] [] := hl
  have hc : ¬ (v.came k).len 0 ≤ wMost v.most := by rw [hl.len.1, h.most]; show ¬ 2 ≤ wMost 2; decide
  have hlast : (v.came k).last 0 = some x := by unfold Tv.last; rw [hl.l0]; rfl
  have hk2 : (v.came k).kept ≤ (v.came k).most := by rw [hl.len.2, hl.most]; show 2 ≤ 2; decide
  have e : v.insert k = (v.came k).fr 1 x := by
    unfold Tv.insert Tv.ins Tv.fresh Tv.leave
    rw [if_neg (by omega), hat, if_neg (by decide), if_neg hc, hlast]
    exact if_pos hk2
  rw [e]
  have := hl.fr1 x
  rw [show strike x [k, x] = [k] from by rw [show strike x [k, x] = strike x ([k] ++ [x]) from rfl]; unfold strike at hs2 ⊢; rw [List.filter_append, hs2]; simp] at this
  exact ⟨rfl, this⟩
/-- A third one: two are held against each other. -/
theorem ins_third {v : Tv} {k x y : Key} (h : Lie v [y] [x] []) (hk : k.length ≤ 64) (hky : y ≠ k) (hkx : x ≠ k) (hxy : x ≠ y) :
    (v.insert k).sk = (v.note k).sk ∧ v.insertK k = (if (v.note k).seen y ≤ (v.note k).seen x then [y] else [x]) ∧ Lie (v.insert k) [k] (if (v.note k).seen y ≤ (v.note k).seen x then [x] else [y]) [] := by
  have hat : v.has k = false := by unfold Tv.has; rw [h.at_]; simp [Ne.symm hky, Ne.symm hkx]
  have hl := (h.note k).fr0 k
  rw [show strike k [y] = [y] from strike_of_not (by simp [Ne.symm hky]), show strike k [x] = [x] from strike_of_not (by simp [Ne.symm hkx]), show strike k [] = [] from rfl] at hl
  have hl : Lie (v.came k) [k, y] [x] [] := hl
  have hc : ¬ (v.came k).len 0 ≤ wMost v.most := by rw [hl.len.1, h.most]; show ¬ 2 ≤ wMost 2; decide
  have hlast : (v.came k).last 0 = some y := by unfold Tv.last; rw [hl.l0]; rfl
  have hk2 : ¬ (v.came k).kept ≤ (v.came k).most := by rw [hl.len.2, hl.most]; show ¬ 3 ≤ 2; decide
  have hfst : (v.came k).first [1, 2] = some x := by unfold Tv.first Tv.last; rw [hl.l1]; rfl
  have hsn : ∀ z, (v.came k).seen z = (v.note k).seen z := fun z => rfl
  have hst : (v.came k).stays y = if (v.note k).seen y ≤ (v.note k).seen x then none else some x := by unfold Tv.stays; rw [hfst]; rfl
  have e : v.insert k = (v.came k).leaveOf y := by
    unfold Tv.insert Tv.ins Tv.fresh Tv.leave
    rw [if_neg (by omega), hat, if_neg (by decide), if_neg hc, hlast]
    rfl
  have eK : v.insertK k = (v.came k).leaveOfK y := by
    unfold Tv.insertK Tv.insK Tv.freshK Tv.leaveK
    rw [if_neg (by omega), hat, if_neg (by decide), if_neg hc, hlast]
    rfl
  rw [e, eK]
  unfold Tv.leaveOf Tv.leaveOfK
  rw [if_neg hk2, if_neg hk2, hst]
  have s1 : strike y [k, y] = [k] := by unfold strike; simp [Ne.symm hky]
  have s2 : strike y [x] = [x] := strike_of_not (by simp [Ne.symm hxy])
  have s3 : strike x [k, y] = [k, y] := strike_of_not (by simp [hkx, hxy])
  have s4 : strike x [x] = [] := by unfold strike; simp
  by_cases hd : (v.note k).seen y ≤ (v.note k).seen x
  · rw [if_pos hd, if_pos hd, if_pos hd]
    have := hl.dr y
    rw [s1, s2] at this
    exact ⟨rfl, rfl, this⟩
  · rw [if_neg hd, if_neg hd, if_neg hd]
    have := (hl.dr x).fr1 y
    rw [s3, s4, s1] at this
    exact ⟨rfl, rfl, this⟩
/-- One of the window is asked for again. -/
theorem touch_first {v : Tv} {k : Key} {b c : List Key} (h : Lie v [k] b c) (hb : k ∉ b) (hc : k ∉ c) : (v.touch k).sk = (v.note k).sk ∧ v.has k = true ∧ Lie (v.touch k) [k] b c := by
  have hat : v.at_ k = some 0 := by rw [h.at_]; simp
  have e : v.touch k = (v.note k).fr 0 k := by unfold Tv.touch; rw [hat]; rfl
  have := (h.note k).fr0 k
  rw [show strike k [k] = [] from by unfold strike; simp, strike_of_not hb, strike_of_not hc] at this
  rw [e]
  exact ⟨rfl, by unfold Tv.has; rw [hat]; rfl, this⟩
theorem lie_new (seed : Nat) : Lie (Tv.new 2 seed) [] [] [] := ⟨rfl, rfl, rfl, rfl, rfl⟩
theorem Young.of {v v' : Tv} {seed n : Nat} (h : Young v seed n) (hs : v'.sk = v.sk) (hok : v'.Ok) : Young v' seed n := ⟨hok, by rw [hs]; exact h.wide, by rw [hs]; exact h.seed, by rw [hs]; exact h.added⟩

/-! What the laws begin with -/
def wa1 : Tv := (Tv.new 2 1).insert [120]
def wa2 : Tv := wa1.touch [120]
def wa3 : Tv := wa2.touch [120]
def wa4 : Tv := wa3.insert [121]
def wa5 : Tv := wa4.insert [122]
theorem apart1 : (∀ i, i < 5 → kAt 1 [121] i ≠ kAt 1 [120] i) ∧ (∀ i, i < 5 → kAt 1 [122] i ≠ kAt 1 [120] i) ∧ (∀ i, i < 5 → kAt 1 [122] i ≠ kAt 1 [121] i) ∧ (∀ i, i < 5 → kAt 1 [120] i ≠ kAt 1 [121] i) := by decide +kernel
structure Aw : Prop where
  ok1 : wa1.Ok
  ok2 : wa2.Ok
  ok3 : wa3.Ok
  ok4 : wa4.Ok
  ok5 : wa5.Ok
  lie : Lie wa5 [[122]] [[120]] []
  goes : wa4.insertK [122] = [[121]]
  seen : wa5.seen [120] = 3
theorem aw : Aw := by
  obtain ⟨p1, p2, p3, p4⟩ := apart1
  have y0 := young_new (seed := 1) (by omega)
  have x0 := exact_new 1 [120]
  have z0 := exact_new 1 [121]
  obtain ⟨a1, l1⟩ := ins_first (lie_new 1) (k := [120]) (by decide)
  have ok1 : wa1.Ok := (Tv.insert_ok y0.ok _).1
  have s1 : wa1.sk = ((Tv.new 2 1).note [120]).sk := by show ((Tv.new 2 1).insert [120]).sk = _; rw [a1]; rfl
  have y1 : Young wa1 1 1 := (y0.note (by omega) [120]).of s1 ok1
  have x1 : Exact wa1.sk (kAt 1 [120]) 1 := by rw [s1]; exact y0.same (by omega) x0 (by omega)
  have z1 : Exact wa1.sk (kAt 1 [121]) 0 := by rw [s1]; exact y0.other (by omega) z0 p4
  obtain ⟨s2, -, l2⟩ := touch_first (v := wa1) l1 (by simp) (by simp)
  have ok2 : wa2.Ok := (Tv.touch_spec ok1 _).1
  have y2 : Young wa2 1 2 := (y1.note (by omega) [120]).of s2 ok2
  have x2 : Exact wa2.sk (kAt 1 [120]) 2 := by show Exact (wa1.touch [120]).sk _ _; rw [s2]; exact y1.same (by omega) x1 (by omega)
  have z2 : Exact wa2.sk (kAt 1 [121]) 0 := by show Exact (wa1.touch [120]).sk _ _; rw [s2]; exact y1.other (by omega) z1 p4
  obtain ⟨s3, -, l3⟩ := touch_first (v := wa2) l2 (by simp) (by simp)
  have ok3 : wa3.Ok := (Tv.touch_spec ok2 _).1
  have y3 : Young wa3 1 3 := (y2.note (by omega) [120]).of s3 ok3
  have x3 : Exact wa3.sk (kAt 1 [120]) 3 := by show Exact (wa2.touch [120]).sk _ _; rw [s3]; exact y2.same (by omega) x2 (by omega)
  have z3 : Exact wa3.sk (kAt 1 [121]) 0 := by show Exact (wa2.touch [120]).sk _ _; rw [s3]; exact y2.other (by omega) z2 p4
  obtain ⟨s4, l4⟩ := ins_second (v := wa3) (k := [121]) l3 (by decide) (by decide)
  have ok4 : wa4.Ok := (Tv.insert_ok ok3 _).1
  have y4 : Young wa4 1 4 := (y3.note (by omega) [121]).of s4 ok4
  have x4 : Exact wa4.sk (kAt 1 [120]) 3 := by show Exact (wa3.insert [121]).sk _ _; rw [s4]; exact y3.other (by omega) x3 p1
  have z4 : Exact wa4.sk (kAt 1 [121]) 1 := by show Exact (wa3.insert [121]).sk _ _; rw [s4]; exact y3.same (by omega) z3 (by omega)
  obtain ⟨s5, g5, l5⟩ := ins_third (v := wa4) (k := [122]) (x := [120]) (y := [121]) l4 (by decide) (by decide) (by decide) (by decide)
  have ok5 : wa5.Ok := (Tv.insert_ok ok4 _).1
  have yn := y4.note (by omega) [122]
  have xn := y4.other (by omega) x4 p2
  have zn := y4.other (by omega) z4 p3
  have c1 := yn.seen xn (by omega)
  have c2 := yn.seen zn (by omega)
  rw [c1, c2] at g5 l5
  refine ⟨ok1, ok2, ok3, ok4, ok5, l5, g5, ?_⟩
  have y5 : Young wa5 1 5 := yn.of s5 ok5
  have x5 : Exact wa5.sk (kAt 1 [120]) 3 := by show Exact (wa4.insert [122]).sk _ _; rw [s5]; exact xn
  exact y5.seen x5 (by omega)
section
variable {w : World} {base B : Nat} {m : Rm} {val : Value} {k : Key} {l : List Key}
theorem Tell.form (h : Tell base B m val l w) : ∃ a c, val = .slice a l.length c := own_form h.row
theorem Tell.first (h : Tell base B m val (k :: l) w) : ∃ g c, val = .slice (some ⟨g, 0, none⟩) (l.length + 1) c ∧ w.cell? ⟨g, 0, none⟩ = some (.string (str k)) := by
  have hr := h.row
  obtain ⟨g, c, hv, -, -⟩ := hr.form (by simp)
  refine ⟨g, c, hv, ?_⟩
  rw [hv] at hr
  rw [hr.cellAt 0 (by simp)]
  rfl
end
def fewL (l : List UInt8) : List UInt8 := if 80 < l.length then l.take 80 else l
theorem fewL_le (l : List UInt8) : (fewL l).length ≤ 80 := by
  unfold fewL
  split
  · rw [List.length_take]; omega
  · omega
end Go.Proofs.Ytncgfnocokippaa.Tinyy
