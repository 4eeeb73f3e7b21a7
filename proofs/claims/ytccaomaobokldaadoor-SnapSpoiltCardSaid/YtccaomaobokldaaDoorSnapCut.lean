/- Layer 14's program: bytes are cut into pieces. Condition: the variables of layer 4 hold what the program's text lays. -/
import Derived.Test.YtccaomaobokldaaDoorSnapMem
import Derived.Test.YtccaomaobokldaaDoorClone
import Derived.Test.YtccaomaobokldaaDoorBlakeSumP
import Derived.Laws.MakeOwn
import Derived.Lib.Hide
import Derived.BigQuiet
import Derived.Deep.DeepCutAuto
import Derived.Laws.IdiomStrings
namespace Go.Proofs.YtccaomaobokldaaDoor.Snapy
open Go.ChangeShapes Go.WideShapes Go.ChangeAt Go.RowKit
open Wirey Slsy

abbrev zPv : Value := .agg #[.int .i64 0, .int .i64 0, .string ⟨#[]⟩, .string ⟨#[]⟩, .string ⟨#[]⟩]
theorem pc_info : (Tryd.prog.info? 33).map (fun i => (i.zero, i.size, i.bytes)) = some (some zPv, 5, 64) := by kernel_rfl
def zP : Pc := ⟨0, 0, [], [], []⟩
theorem made_pcs (M : Nat) : madeCells zPv.cells (M * 5) = (rws Pc.enc (List.replicate M zP)).toArray := by
  apply Array.ext_getElem?
  intro i
  by_cases hi : i < M * 5
  · have h1 : (madeCells zPv.cells (M * 5))[i]? = some (zPv.cells[i % zPv.cells.size]!) := by simp [madeCells, hi]
    have h2 := rws_at (enc := Pc.enc) Pc.len (List.replicate M zP) (i / 5) (i % 5) zP (by rw [List.getElem?_replicate, if_pos (by omega)]) (by omega)
    rw [show i / 5 * 5 + i % 5 = i by omega] at h2
    rw [h1, List.getElem?_toArray, h2]
    show some (zPv.cells[i % 5]!) = _
    have h5 : i % 5 < 5 := by omega
    generalize i % 5 = k at h5
    match k, h5 with
    | 0, _ => rfl
    | 1, _ => rfl
    | 2, _ => rfl
    | 3, _ => rfl
    | 4, _ => rfl
    | k + 5, h => omega
  · rw [Array.getElem?_eq_none (by simp [madeCells]; omega), List.getElem?_toArray, List.getElem?_eq_none (by rw [rws_length Pc.len, List.length_replicate]; omega)]
theorem mk_pcs {n : Nat} (h : n ≤ 8192) (w : World) : (Instr.makeSlice 24 (.int .i64 (n : Int)) (.int .i64 (n : Int))).run Tryd.prog w = .ok (.slice (some ⟨w.heap.size, 0, none⟩) n n) (w.alloc (.cells (rws Pc.enc (List.replicate n zP)).toArray PT)) := by
  obtain ⟨i0, hi, hz0, hz1, hz2⟩ := info_parts pc_info
  have h := run_make (P := Tryd.prog) w 24 PT i0 zPv Tryd.underlying24 hi hz0 .i64 .i64 (n : Int) (n : Int) (by omega) (by omega) (by rw [hz2]; omega) (by omega)
  rw [h, hz1, Int.toNat_natCast, made_pcs]
theorem rws_set5 : ∀ (l : List Pc) (j : Nat) (p : Pc), j < l.length →
    (((((rws Pc.enc l).set (j * 5) (.int .i64 p.n)).set (j * 5 + 1) (.int .i64 p.of_)).set (j * 5 + 2) (.string (str p.data))).set (j * 5 + 3) (.string (str p.sum))).set (j * 5 + 4) (.string (str p.whole)) = rws Pc.enc (l.set j p)
  | [], j, p, h => by simp at h
  | x :: l, 0, p, _ => rfl
  | x :: l, j + 1, p, h => by
    have ih := rws_set5 l j p (by rw [List.length_cons] at h; omega)
    rw [List.set_cons_succ, rws, rws, ← ih]
    rw [show (j + 1) * 5 = j * 5 + 5 by omega]
    rfl
theorem str_cut (l : Bs) (a b : Nat) : (str l).extract a b = str ((l.take b).drop a) := by
  apply ByteArray.ext
  simp [str, ByteArray.data_extract]
  rw [List.drop_take]
theorem chunk_cut (t : Bs) (j : Nat) : (t.take (min (1024 * j + 1024) t.length)).drop (1024 * j) = chunk t j := by
  unfold chunk
  rw [List.drop_take, show min (1024 * j + 1024) t.length - 1024 * j = min 1024 (t.length - 1024 * j) by omega]
  by_cases h : 1024 ≤ t.length - 1024 * j
  · rw [Nat.min_eq_left h]
  · rw [Nat.min_eq_right (by omega), List.take_of_length_le (by rw [List.length_drop]; omega), List.take_of_length_le (by rw [List.length_drop]; omega)]
/-- The pieces behind j rounds. -/
def rest (t : Bs) (j : Nat) : List Pc := (cutL t).take j ++ List.replicate (many t - j) zP
theorem rest_len {t : Bs} {j : Nat} (h : j ≤ many t) : (rest t j).length = many t := by
  unfold rest; rw [List.length_append, List.length_take, cutL_len, List.length_replicate]; omega
theorem rest_at {t : Bs} {j : Nat} (h : j < many t) : (rest t j)[j]? = some zP := by
  unfold rest
  rw [List.getElem?_append_right (by rw [List.length_take, cutL_len]; omega), List.getElem?_replicate, List.length_take, cutL_len, if_pos (by omega)]
theorem rest_set {t : Bs} {j : Nat} (h : j < many t) : (rest t j).set j (pcAt t j) = rest t (j + 1) := by
  apply List.ext_getElem?
  intro i
  rw [List.getElem?_set, rest_len (by omega), if_pos h]
  have hl : ∀ k, ((cutL t).take k).length = min k (many t) := fun k => by rw [List.length_take, cutL_len]
  by_cases e : j = i
  · subst e
    rw [if_pos rfl]
    unfold rest
    rw [List.getElem?_append_left (by rw [hl]; omega), List.getElem?_take, if_pos (by omega), cutL_at h]
  · rw [if_neg e]
    unfold rest
    by_cases e2 : i < j
    · rw [List.getElem?_append_left (by rw [hl]; omega), List.getElem?_append_left (by rw [hl]; omega), List.getElem?_take, List.getElem?_take, if_pos e2, if_pos (by omega)]
    · rw [List.getElem?_append_right (by rw [hl]; omega), List.getElem?_append_right (by rw [hl]; omega), hl, hl, List.getElem?_replicate, List.getElem?_replicate]
      by_cases e3 : i < many t
      · rw [if_pos (by omega), if_pos (by omega)]
      · rw [if_neg (by omega), if_neg (by omega)]
theorem blk5 {v : World} {q j : Nat} {l : List Pc} (p : Pc) (h : Blk v q PT (rws Pc.enc l).toArray) (hj : j < l.length) :
    Blk (((((v.setCell ⟨q, j * 5, none⟩ (.int .i64 p.n)).setCell ⟨q, j * 5 + 1, none⟩ (.int .i64 p.of_)).setCell ⟨q, j * 5 + 2, none⟩ (.string (str p.data))).setCell ⟨q, j * 5 + 3, none⟩ (.string (str p.sum))).setCell ⟨q, j * 5 + 4, none⟩ (.string (str p.whole))) q PT (rws Pc.enc (l.set j p)).toArray := by
  have := ((((h.put (j * 5) (.int .i64 p.n)).put (j * 5 + 1) (.int .i64 p.of_)).put (j * 5 + 2) (.string (str p.data))).put (j * 5 + 3) (.string (str p.sum))).put (j * 5 + 4) (.string (str p.whole))
  rw [List.setIfInBounds_toArray, List.setIfInBounds_toArray, List.setIfInBounds_toArray, List.setIfInBounds_toArray, List.setIfInBounds_toArray, rws_set5 l j p hj] at this
  exact this
theorem below5 {w0 v : World} {B q : Nat} (h : Below B w0 v) (hq : B ≤ q) (i0 i1 i2 i3 i4 : Nat) (u0 u1 u2 u3 u4 : Value) : Below B w0 (((((v.setCell ⟨q, i0, none⟩ u0).setCell ⟨q, i1, none⟩ u1).setCell ⟨q, i2, none⟩ u2).setCell ⟨q, i3, none⟩ u3).setCell ⟨q, i4, none⟩ u4) :=
  ((((h.setCell (p := ⟨q, i0, none⟩) hq u0).setCell (p := ⟨q, i1, none⟩) hq u1).setCell (p := ⟨q, i2, none⟩) hq u2).setCell (p := ⟨q, i3, none⟩) hq u3).setCell (p := ⟨q, i4, none⟩) hq u4
set_option maxHeartbeats 2000000 in
set_option maxRecDepth 100000 in
theorem cut_c (t : Bs) (ht : t.length ≤ 8191) (w : World) (hG : Glob w) : Calls Tryd.prog 8 #[.string (str t)] w fun e w' => ∃ q, e = .returned (.tuple #[.slice (some ⟨q, 0, none⟩) (many t) (many t), .int .i64 0]) ∧ Blk w' q PT (rws Pc.enc (cutL t)).toArray ∧ w.heap.size ≤ q ∧ Below w.heap.size w w' := by
  have hsz := str_size
  have f0 : decide ((8388608 : Int) < (t.length : Int)) = false := decide_eq_false (by omega)
  have hM8 : many t ≤ 8192 := by unfold many; omega
  obtain ⟨M, hM⟩ : ∃ M, M = many t := ⟨_, rfl⟩
  have hmx : max (1 : Int) (((t.length : Int) + 1024 - 1) / 1024) = (M : Int) := by rw [hM]; unfold many; omega
  rw [← hM] at hM8 ⊢
  have HM := Lib.hid hM
  clear hM
  have hmk := fun W => mk_pcs hM8 W
  have hX := Blk.new w PT (rws Pc.enc (List.replicate M zP)).toArray
  have hB := (Below.refl _ w).alloc (Nat.le_refl _) (.cells (rws Pc.enc (List.replicate M zP)).toArray PT)
  have hG1 := hG.below hB
  go_enter Tryd.func8, Tryd.ntmps8
  go_upto_region 4 with (fail)
  generalize w.alloc (.cells (rws Pc.enc (List.replicate M zP)).toArray PT) = w1 at *
  clear hmk hmx f0
  have HB := Lib.hid hB
  have HG0 := Lib.hid hG
  clear hB hG
  generalize hq : w.heap.size = q at hX ⊢
  have HQ := Lib.hid hq
  clear hq
  go_wp2_with fail
  refine (sumP_c t (by omega) _ hG1).mono ?_
  rintro e w2 ⟨rfl, hb2⟩
  have hX2 := hX.below hb2 hX.lt
  have hG2 := hG1.below hb2
  have HB2 := Lib.hid (HB.out.trans (hb2.mono HB.out.size))
  clear hb2 hX hG1 HB
  go_wp2_with fail
  go_loopw [24] (fun s wr => ∃ j : Nat, j ≤ M ∧ s = .int .i64 j ∧ Blk wr q PT (rws Pc.enc (rest t j)).toArray ∧ Hid (Below w.heap.size w wr)) (fun s _ => M - (intOf s).toNat)
  case atStart => exact ⟨0, by omega, rfl, by have e : rest t 0 = List.replicate M zP := by (unfold rest; rw [HM.out]; simp)
                                              rw [e]; exact hX2, HB2⟩
  case round =>
    obtain ⟨j, hj, rfl, hX, HB⟩ := hrel
    by_cases h : j < M
    · have hlt : (j : Int) < (M : Int) := by omega
      obtain ⟨b, hb⟩ : ∃ b : Nat, b = 1024 * j := ⟨_, rfl⟩
      obtain ⟨e, he⟩ : ∃ e : Nat, e = min (1024 * j + 1024) t.length := ⟨_, rfl⟩
      have hjb : (j : Int) * 1024 = (b : Int) := by omega
      have hmn : min ((b : Int) + 1024) (t.length : Int) = (e : Int) := by omega
      have hle : b ≤ t.length := by have := HM.out; unfold many at this; omega
      have hbe : (b : Int) ≤ (e : Int) := by omega
      have hel : (e : Int) ≤ (t.length : Int) := by omega
      have hex : (str t).extract b e = str (chunk t j) := by rw [str_cut, hb, he, chunk_cut]
      have HBE := Lib.hid hb
      clear hb he hle
      have hcl : (str (chunk t j)).size ≤ 281474976710656 := by rw [str_size]; have := chunk_le t j; omega
      have hcs : (chunk t j).length < 1099511627776 := by have := chunk_le t j; omega
      have CL := fun w => clone_c (str (chunk t j)) w hcl
      clear hcl
      go_wp2_with fail
      refine (CL _).mono ?_
      rintro e1 v1 ⟨rfl, hb1⟩
      have hX1 := hX.below hb1 hX.lt
      have HB1 := Lib.hid (HB.out.trans (hb1.mono HB.out.size))
      have hG1 := HG0.out.below HB1.out
      clear hb1 hX HB CL
      go_wp2_with fail
      refine (sumP_c (chunk t j) hcs _ hG1).mono ?_
      rintro e1 v2 ⟨rfl, hb2⟩
      have hX2 := hX1.below hb2 hX1.lt
      have HB2 := Lib.hid (HB1.out.trans (hb2.mono HB1.out.size))
      have hl : (rest t j).length = M := by rw [HM.out]; exact rest_len (by rw [← HM.out]; omega)
      have hat := rest_at (t := t) (j := j) (by rw [← HM.out]; exact h)
      have cc : ∀ c, c < 5 → v2.cell? ⟨q, j * 5 + c, none⟩ = (zP.enc)[c]? := fun c hc => by
        rw [hX2.cell, List.getElem?_toArray]; exact rws_at Pc.len _ j c zP hat hc
      have c0 : v2.cell? ⟨q, j * 5, none⟩ = some (.int .i64 0) := cc 0 (by omega)
      have c1 : v2.cell? ⟨q, j * 5 + 1, none⟩ = some (.int .i64 0) := cc 1 (by omega)
      have c2 : v2.cell? ⟨q, j * 5 + 2, none⟩ = some (.string ⟨#[]⟩) := cc 2 (by omega)
      have c3 : v2.cell? ⟨q, j * 5 + 3, none⟩ = some (.string ⟨#[]⟩) := cc 3 (by omega)
      have c4 : v2.cell? ⟨q, j * 5 + 4, none⟩ = some (.string ⟨#[]⟩) := cc 4 (by omega)
      have f0 := hX2.free (j * 5)
      have f1 := hX2.free (j * 5 + 1)
      have f2 := hX2.free (j * 5 + 2)
      have f3 := hX2.free (j * 5 + 3)
      have f4 := hX2.free (j * 5 + 4)
      have HX := Lib.hid hX2
      clear hb2 hX1 HB1 hG1 cc hX2 hat
      go_upto_region 12 with (fail)
      have hjn : j < many t := by rw [← HM.out]; exact h
      have hX3 := blk5 (pcAt t j) HX.out (j := j) (by rw [hl]; exact h)
      rw [rest_set hjn] at hX3
      have eM : (pcAt t j).of_ = (M : Int) := by rw [HM.out]; rfl
      rw [eM] at hX3
      have HB3 := Lib.hid (below5 HB2.out (Nat.le_of_eq HQ.out) (j * 5) (j * 5 + 1) (j * 5 + 2) (j * 5 + 3) (j * 5 + 4) (.int .i64 (j : Int)) (.int .i64 (M : Int)) (.string (str (chunk t j))) (.string (str (sumL (chunk t j)))) (.string (str (sumL t))))
      replace hX3 : Blk (((((v2.setCell ⟨q, j * 5, none⟩ (.int .i64 (j : Int))).setCell ⟨q, j * 5 + 1, none⟩ (.int .i64 (M : Int))).setCell ⟨q, j * 5 + 2, none⟩ (.string (str (chunk t j)))).setCell ⟨q, j * 5 + 3, none⟩ (.string (str (sumL (chunk t j))))).setCell ⟨q, j * 5 + 4, none⟩ (.string (str (sumL t)))) q PT (rws Pc.enc (rest t (j + 1))).toArray := hX3
      clear HX HB2 c0 c1 c2 c3 c4 f0 f1 f2 f3 f4 eM
      generalize (((((v2.setCell ⟨q, j * 5, none⟩ (.int .i64 (j : Int))).setCell ⟨q, j * 5 + 1, none⟩ (.int .i64 (M : Int))).setCell ⟨q, j * 5 + 2, none⟩ (.string (str (chunk t j)))).setCell ⟨q, j * 5 + 3, none⟩ (.string (str (sumL (chunk t j))))).setCell ⟨q, j * 5 + 4, none⟩ (.string (str (sumL t)))) = w3 at *
      go_wp2_with fail
      go_roundw
      case rel => exact ⟨j + 1, by omega, rfl, hX3, HB3⟩
      case measure => simp [intOf]; omega
    · obtain rfl : j = M := by omega
      have hge : ¬ ((j : Int) < (j : Int)) := by omega
      have e : rest t j = cutL t := by unfold rest; rw [HM.out, Nat.sub_self, List.take_of_length_le (by rw [cutL_len]; exact Nat.le_refl _)]; simp
      rw [e] at hX
      have HX := Lib.hid hX
      clear hX e
      go_wp2_with fail
      exact bodyPost_ret (results_tmp2 rfl _ _ _) rfl ⟨q, rfl, HX.out, Nat.le_of_eq HQ.out, HB.out⟩
end Go.Proofs.YtccaomaobokldaaDoor.Snapy
