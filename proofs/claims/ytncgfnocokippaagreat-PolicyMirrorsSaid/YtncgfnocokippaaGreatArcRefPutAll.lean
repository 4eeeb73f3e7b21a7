/- The document's own ARC: inserting, touching, removing, evicting, its bytes, a new one. The only condition: it is as chapter 7 has it. The document's own ARC: evicting, its bytes, a new one. The only condition: it is as chapter 7 has it. -/
import Derived.Test.YtncgfnocokippaaGreatArcRefNew
import Derived.Test.YtncgfnocokippaaGreatSq
namespace Go.Proofs.YtncgfnocokippaaGreat.Arcy
open Go.ChangeShapes Go.WideShapes Go.ChangeAt Go.RowKit Go.Shelf
open Wirey (Blk Row str str_size str_list str_cat Kp enc)
open Ringy Go.ChangeMaps Go.Maps

section
variable {w x y : World} {v v' v'' : Av} {G G' G'' : Nat} {vs vs' vs'' : Nat → Value} {k : Key}
theorem rinsert_c (hk : k.length ≤ maxLen) (hf : v.Fine) (w : World) (h : Dat w v G vs) :
  Calls Tryz.prog 61 #[.agg #[.int .i64 v.most, .int .i64 v.tgt, .slice (some ⟨G, 0, none⟩) 4 4, .int .i64 v.pl], .string (str k)] w (InsP w G vs (v.insert k) (v.insertK k)) := by
 have hv := (Av.insert_ok hf.ok k).1
 unfold Av.insert Av.insertK at *
 by_cases h1 : 64 < k.length
 ·rw [if_pos h1, if_pos h1]
  exact rins_long h1 hk hf.ok w h
 ·rw [if_neg h1] at hv
  rw [if_neg h1, if_neg h1]
  unfold Av.ins Av.insK at *
  have h64 : k.length ≤ 64 := by omega
  rcases e : v.at_ k with _ | i
  ·rw [e] at hv
   exact rins_new h64 e hf hv w h
  ·obtain ⟨hi, hm⟩ := Av.at_some e
   rw [e] at hv
   rcases (by omega : i = 0 ∨ i = 1 ∨ i = 2 ∨ i = 3) with rfl | rfl | rfl | rfl
   ·exact rins_known h64 (by rw [Av.at_has hf.ok, e]; rfl) hf hv w h
   ·exact rins_known h64 (by rw [Av.at_has hf.ok, e]; rfl) hf hv w h
   ·exact rins_b2 h64 e hf hv w h
   ·exact rins_b3 h64 e hf hv w h
theorem Av.Fine.insert (h : v.Fine) (k : Key) : (v.insert k).Fine := by
 refine ⟨(Av.insert_ok h.ok k).1, ?_⟩
 have hfr : ∀ (u : Av) (j : Nat), u.Fine → j < 4 → ∀ i, 4 ≤ i → (u.fr j k).rg.l i = [] := fun u j hu hj i hi => by
  show (if i = j then k :: strike k (u.rg.l i) else strike k (u.rg.l i)) = []
  rw [if_neg (by omega), hu.out i hi]
  rfl
 unfold Av.insert Av.ins
 split
 ·exact h.out
 ·split
  ·exact hfr _ 0 h.fresh (by omega)
  ·exact hfr _ 1 (h.up.room false) (by omega)
  ·exact hfr _ 1 (h.down.room true) (by omega)
  ·exact hfr _ 1 h (by omega)
set_option maxHeartbeats 2000000 in
set_option maxRecDepth 100000 in
theorem rtouch_c (hf : v.Fine) (hv : (v.touch k).Ok) (w : World) (h : Dat w v G vs) :
  Calls Tryz.prog 54 #[.agg #[.int .i64 v.most, .int .i64 v.tgt, .slice (some ⟨G, 0, none⟩) 4 4, .int .i64 v.pl], .string (str k)] w fun e w' => ∃ G' vs', e = .returned (.tuple #[.agg #[.int .i64 v.most, .int .i64 v.tgt, .slice (some ⟨G', 0, none⟩) 4 4, .int .i64 v.pl], .bool (v.has k)]) ∧ Goes w G vs (v.touch k) G' vs' w' := by
 have hok := hf.ok
 have h2 := Wr.new hok h
 have fh := fun W (h : Wr w G vs v G vs W) => wr_has (k := k) hok h
 go_enter Tryz.func54, Tryz.ntmps54
 go_upto_region 1 with (fail)
 generalize (w.alloc (.cells #[.int .i64 v.most, .int .i64 v.tgt, .slice (some ⟨G, 0, none⟩) 4 4, .int .i64 v.pl] 32)).alloc (.cells #[.int .i64 0, .int .i64 0, .slice none 0 0, .int .i64 0] 32) = w2 at *
 obtain ⟨x0, x1, x2, x3, -⟩ := h2.cells
 cases hh : v.has k with
 | false =>
  rw [hh] at fh
  have HT := Lib.hid (show v.touch k = v by unfold Av.touch; rw [hh]; rfl)
  have HH := Lib.hid hh
  clear hh
  go_wp2_with fail
  refine (fh _ h2).mono ?_
  rintro e w3 ⟨rfl, h3⟩
  clear x0 x1 x2 x3 h2 fh
  obtain ⟨x0, x1, x2, x3, -⟩ := h3.cells
  obtain ⟨z0, z1, z2, z3, z4, z5, z6, z7⟩ := h3.zero
  obtain ⟨hG, p0, p1, p2, p3⟩ := (show Goes w G vs v G vs (putA w w3 v.most v.tgt G v.pl) ∧ (putA w w3 v.most v.tgt G v.pl).cell? ⟨w.heap.size + 1, 0, none⟩ = some (.int .i64 v.most) ∧ (putA w w3 v.most v.tgt G v.pl).cell? ⟨w.heap.size + 1, 1, none⟩ = some (.int .i64 v.tgt) ∧ (putA w w3 v.most v.tgt G v.pl).cell? ⟨w.heap.size + 1, 2, none⟩ = some (.slice (some ⟨G, 0, none⟩) 4 4) ∧ (putA w w3 v.most v.tgt G v.pl).cell? ⟨w.heap.size + 1, 3, none⟩ = some (.int .i64 v.pl) from h3.done hok)
  unfold putA at hG p0 p1 p2 p3
  have HG := Lib.hid hG
  have HP0 := Lib.hid p0
  have HP1 := Lib.hid p1
  have HP2 := Lib.hid p2
  have HP3 := Lib.hid p3
  clear hG p0 p1 p2 p3
  go_wp2_with fail
  have p0 := HP0.out
  have p1 := HP1.out
  have p2 := HP2.out
  have p3 := HP3.out
  have hG := HG.out
  clear HP0 HP1 HP2 HP3 HG
  generalize ((((w3.setCell ⟨w.heap.size + 1, 0, none⟩ (.int .i64 v.most)).setCell ⟨w.heap.size + 1, 1, none⟩ (.int .i64 v.tgt)).setCell ⟨w.heap.size + 1, 2, none⟩ (.slice (some ⟨G, 0, none⟩) 4 4)).setCell ⟨w.heap.size + 1, 3, none⟩ (.int .i64 v.pl)) = w9 at *
  (try simp only [Exit.inBlock, Exit.then])
  refine bodyPost_ret (v := .tuple #[.agg #[.int .i64 v.most, .int .i64 v.tgt, .slice (some ⟨G, 0, none⟩) 4 4, .int .i64 v.pl], .bool false]) (by simp [results, Tryz.results54, go_sem, p0, p1, p2, p3]) rfl ?_
  exact ⟨G, vs, by rw [HH.out], by rw [HT.out]; exact hG⟩
 | true =>
  rw [hh] at fh
  have ht : v.touch k = v.fr 1 k := by unfold Av.touch; rw [hh]; rfl
  rw [ht] at hv
  have hk : k.length ≤ 64 := by
   rcases Av.has_iff.1 hh with hm | hm
   ·exact hok.klen (by omega) hm
   ·exact hok.klen (by omega) hm
  have HT := Lib.hid ht
  have HH := Lib.hid hh
  clear hh ht
  have hfc := fun W (h : Dat W v G vs) => rfront_a (a := 1) (j := 1) rfl (by omega) hk hf hv W h
  go_wp2_with fail
  refine (fh _ h2).mono ?_
  rintro e w3 ⟨rfl, h3⟩
  clear x0 x1 x2 x3 h2 fh
  obtain ⟨x0, x1, x2, x3, -⟩ := h3.cells
  go_wp2_with fail
  refine (hfc _ h3.go.rf).mono ?_
  rintro e w4 ⟨G', vs', rfl, hg⟩
  have h4 := h3.onto hg.below
  have hR := h3.fin (v' := v.fr 1 k) hv hg
  clear x0 x1 x2 x3 h3 hg hfc
  obtain ⟨z0, z1, z2, z3, z4, z5, z6, z7⟩ := h4.zero
  clear h4
  obtain ⟨hG, p0, p1, p2, p3⟩ := (show Goes w G vs (v.fr 1 k) G' vs' (putA w w4 v.most v.tgt G' v.pl) ∧ (putA w w4 v.most v.tgt G' v.pl).cell? ⟨w.heap.size + 1, 0, none⟩ = some (.int .i64 v.most) ∧ (putA w w4 v.most v.tgt G' v.pl).cell? ⟨w.heap.size + 1, 1, none⟩ = some (.int .i64 v.tgt) ∧ (putA w w4 v.most v.tgt G' v.pl).cell? ⟨w.heap.size + 1, 2, none⟩ = some (.slice (some ⟨G', 0, none⟩) 4 4) ∧ (putA w w4 v.most v.tgt G' v.pl).cell? ⟨w.heap.size + 1, 3, none⟩ = some (.int .i64 v.pl) from hR)
  unfold putA at hG p0 p1 p2 p3
  have HG := Lib.hid hG
  have HP0 := Lib.hid p0
  have HP1 := Lib.hid p1
  have HP2 := Lib.hid p2
  have HP3 := Lib.hid p3
  clear hG p0 p1 p2 p3
  go_wp2_with fail
  have p0 := HP0.out
  have p1 := HP1.out
  have p2 := HP2.out
  have p3 := HP3.out
  have hG := HG.out
  clear HP0 HP1 HP2 HP3 HG
  generalize ((((w4.setCell ⟨w.heap.size + 1, 0, none⟩ (.int .i64 v.most)).setCell ⟨w.heap.size + 1, 1, none⟩ (.int .i64 v.tgt)).setCell ⟨w.heap.size + 1, 2, none⟩ (.slice (some ⟨G', 0, none⟩) 4 4)).setCell ⟨w.heap.size + 1, 3, none⟩ (.int .i64 v.pl)) = w9 at *
  (try simp only [Exit.inBlock, Exit.then])
  refine bodyPost_ret (v := .tuple #[.agg #[.int .i64 v.most, .int .i64 v.tgt, .slice (some ⟨G', 0, none⟩) 4 4, .int .i64 v.pl], .bool true]) (by simp [results, Tryz.results54, go_sem, p0, p1, p2, p3]) rfl ?_
  exact ⟨G', vs', by rw [HH.out], by rw [HT.out]; exact hG⟩
theorem Av.Fine.touch (h : v.Fine) (hv : (v.touch k).Ok) : (v.touch k).Fine := by
 unfold Av.touch at *
 split at hv
 ·rw [if_pos (by assumption)]; exact h.fr (by omega) hv
 ·rw [if_neg (by assumption)]; exact h
set_option maxHeartbeats 2000000 in
set_option maxRecDepth 100000 in
theorem rremove_c (hf : v.Fine) (w : World) (h : Dat w v G vs) :
  Calls Tryz.prog 56 #[.agg #[.int .i64 v.most, .int .i64 v.tgt, .slice (some ⟨G, 0, none⟩) 4 4, .int .i64 v.pl], .string (str k)] w fun e w' => ∃ G' vs', e = .returned (.tuple #[.agg #[.int .i64 v.most, .int .i64 v.tgt, .slice (some ⟨G', 0, none⟩) 4 4, .int .i64 v.pl], .bool (v.has k)]) ∧ Goes w G vs (v.dr k) G' vs' w' := by
 have hok := hf.ok
 have hokd := hok.dr k
 have h2 := Wr.new hok h
 have fh := fun W (h : Wr w G vs v G vs W) => wr_has (k := k) hok h
 have hdr := fun W (h : Dat W v G vs) => ring_drop (k := k) hok W h
 generalize v.has k = b at *
 go_enter Tryz.func56, Tryz.ntmps56
 go_upto_region 1 with (fail)
 generalize (w.alloc (.cells #[.int .i64 v.most, .int .i64 v.tgt, .slice (some ⟨G, 0, none⟩) 4 4, .int .i64 v.pl] 32)).alloc (.cells #[.int .i64 0, .int .i64 0, .slice none 0 0, .int .i64 0] 32) = w2 at *
 obtain ⟨x0, x1, x2, x3, -⟩ := h2.cells
 go_wp2_with fail
 refine (fh _ h2).mono ?_
 rintro e w3 ⟨rfl, h3⟩
 clear x0 x1 x2 x3 h2 fh
 obtain ⟨x0, x1, x2, x3, -⟩ := h3.cells
 go_wp2_with fail
 refine (hdr _ h3.go.rf).mono ?_
 rintro e w4 ⟨G', vs', rfl, hg⟩
 have hR := h3.take2 (v' := v.dr k) hokd rfl rfl hg
 have h4 := h3.onto hg.below
 clear x0 x1 x2 x3 h3 hdr hg
 obtain ⟨x0, x1, x2, x3, y0, y1, y2, y3⟩ := h4.cells
 go_upto_region 3 with (fail)
 clear x0 x1 x2 x3 y0 y1 y2 y3 h4
 generalize (w4.setCell ⟨w.heap.size, 2, none⟩ (.slice (some ⟨G', 0, none⟩) 4 4)).setCell ⟨w.heap.size, 3, none⟩ (.int .i64 v.pl) = w5 at *
 obtain ⟨x0, x1, x2, x3, -⟩ := (show w5.cell? ⟨w.heap.size, 0, none⟩ = some (.int .i64 v.most) ∧ w5.cell? ⟨w.heap.size, 1, none⟩ = some (.int .i64 v.tgt) ∧ w5.cell? ⟨w.heap.size, 2, none⟩ = some (.slice (some ⟨G', 0, none⟩) 4 4) ∧ w5.cell? ⟨w.heap.size, 3, none⟩ = some (.int .i64 v.pl) ∧ _ from hR.cells)
 obtain ⟨z0, z1, z2, z3, z4, z5, z6, z7⟩ := hR.zero
 obtain ⟨hG, p0, p1, p2, p3⟩ := (show Goes w G vs (v.dr k) G' vs' (putA w w5 v.most v.tgt G' v.pl) ∧ (putA w w5 v.most v.tgt G' v.pl).cell? ⟨w.heap.size + 1, 0, none⟩ = some (.int .i64 v.most) ∧ (putA w w5 v.most v.tgt G' v.pl).cell? ⟨w.heap.size + 1, 1, none⟩ = some (.int .i64 v.tgt) ∧ (putA w w5 v.most v.tgt G' v.pl).cell? ⟨w.heap.size + 1, 2, none⟩ = some (.slice (some ⟨G', 0, none⟩) 4 4) ∧ (putA w w5 v.most v.tgt G' v.pl).cell? ⟨w.heap.size + 1, 3, none⟩ = some (.int .i64 v.pl) from hR.done hokd)
 unfold putA at hG p0 p1 p2 p3
 have HG := Lib.hid hG
 have HP0 := Lib.hid p0
 have HP1 := Lib.hid p1
 have HP2 := Lib.hid p2
 have HP3 := Lib.hid p3
 clear hG p0 p1 p2 p3
 go_wp2_with fail
 have p0 := HP0.out
 have p1 := HP1.out
 have p2 := HP2.out
 have p3 := HP3.out
 have hG := HG.out
 clear HP0 HP1 HP2 HP3 HG
 generalize ((((w5.setCell ⟨w.heap.size + 1, 0, none⟩ (.int .i64 v.most)).setCell ⟨w.heap.size + 1, 1, none⟩ (.int .i64 v.tgt)).setCell ⟨w.heap.size + 1, 2, none⟩ (.slice (some ⟨G', 0, none⟩) 4 4)).setCell ⟨w.heap.size + 1, 3, none⟩ (.int .i64 v.pl)) = w9 at *
 (try simp only [Exit.inBlock, Exit.then])
 refine bodyPost_ret (v := .tuple #[.agg #[.int .i64 v.most, .int .i64 v.tgt, .slice (some ⟨G', 0, none⟩) 4 4, .int .i64 v.pl], .bool b]) (by simp [results, Tryz.results56, go_sem, p0, p1, p2, p3]) rfl ?_
 exact ⟨G', vs', rfl, hG⟩
end
end Go.Proofs.YtncgfnocokippaaGreat.Arcy
namespace Go.Proofs.YtncgfnocokippaaGreat.Arcy
open Go.ChangeShapes Go.WideShapes Go.ChangeAt Go.RowKit Go.Shelf
open Wirey (Blk Row str str_size str_list str_cat Kp enc)
open Ringy Go.ChangeMaps Go.Maps

section
variable {w x y : World} {v v' v'' : Av} {G G' G'' : Nat} {vs vs' vs'' : Nat → Value} {k : Key}
def Av.put (v : Av) : List UInt8 := enc v.most ++ (enc v.tgt ++ v.rg.put)
theorem putA_cell {w x : World} {m t G p : Nat} {a : Addr} (h : a.block ≠ w.heap.size + 1) : (putA w x m t G p).cell? a = x.cell? a :=
 (((World.cell?_setCell_far _ _ a _ (Ne.symm h)).trans (World.cell?_setCell_far _ _ a _ (Ne.symm h))).trans (World.cell?_setCell_far _ _ a _ (Ne.symm h))).trans (World.cell?_setCell_far _ _ a _ (Ne.symm h))
set_option maxHeartbeats 2000000 in
set_option maxRecDepth 100000 in
theorem revict_c (hf : v.Fine) (w : World) (h : Dat w v G vs) :
  Calls Tryz.prog 58 #[.agg #[.int .i64 v.most, .int .i64 v.tgt, .slice (some ⟨G, 0, none⟩) 4 4, .int .i64 v.pl]] w fun e w' => ∃ G' vs', e = .returned (.tuple #[.agg #[.int .i64 v.most, .int .i64 v.tgt, .slice (some ⟨G', 0, none⟩) 4 4, .int .i64 v.pl], .string (str ((v.last (v.src false)).getD [])), .bool (v.last (v.src false)).isSome]) ∧ Goes w G vs (v.repl false) G' vs' w' := by
 have hok := hf.ok
 have h2 := Wr.new hok h
 have fk := fun W (h : Wr w G vs v G vs W) => wr_kept hok h
 have hl0 : v.kept = v.len 0 + v.len 1 := rfl
 go_enter Tryz.func58, Tryz.ntmps58
 go_upto_region 1 with (fail)
 generalize (w.alloc (.cells #[.int .i64 v.most, .int .i64 v.tgt, .slice (some ⟨G, 0, none⟩) 4 4, .int .i64 v.pl] 32)).alloc (.cells #[.int .i64 0, .int .i64 0, .slice none 0 0, .int .i64 0] 32) = w2 at *
 obtain ⟨x0, x1, x2, x3, -⟩ := h2.cells
 by_cases hz : v.kept = 0
 ·have hn : v.last (v.src false) = none := by
   have : v.rg.l (v.src false) = [] := by
    have h0 : v.len 0 = 0 := by omega
    have h1 : v.len 1 = 0 := by omega
    rcases Av.src_cases v false with e | e <;> rw [e]
    ·exact List.length_eq_zero_iff.1 h0
    ·exact List.length_eq_zero_iff.1 h1
   unfold Av.last
   rw [this]
   rfl
  have hrp : v.repl false = v := by unfold Av.repl; rw [hn]
  have HN := Lib.hid hn
  have HR := Lib.hid hrp
  have d1 : ((v.kept : Int) == 0) = true := beq_iff_eq.2 (by omega)
  clear hn hrp hz hl0
  go_wp2_with fail
  refine (fk _ h2).mono ?_
  rintro e w3 ⟨rfl, h3⟩
  clear x0 x1 x2 x3 h2 fk
  obtain ⟨x0, x1, x2, x3, -⟩ := h3.cells
  obtain ⟨z0, z1, z2, z3, z4, z5, z6, z7⟩ := h3.zero
  obtain ⟨hG, p0, p1, p2, p3⟩ := (show Goes w G vs v G vs (putA w w3 v.most v.tgt G v.pl) ∧ (putA w w3 v.most v.tgt G v.pl).cell? ⟨w.heap.size + 1, 0, none⟩ = some (.int .i64 v.most) ∧ (putA w w3 v.most v.tgt G v.pl).cell? ⟨w.heap.size + 1, 1, none⟩ = some (.int .i64 v.tgt) ∧ (putA w w3 v.most v.tgt G v.pl).cell? ⟨w.heap.size + 1, 2, none⟩ = some (.slice (some ⟨G, 0, none⟩) 4 4) ∧ (putA w w3 v.most v.tgt G v.pl).cell? ⟨w.heap.size + 1, 3, none⟩ = some (.int .i64 v.pl) from h3.done hok)
  unfold putA at hG p0 p1 p2 p3
  have HG := Lib.hid hG
  have HP0 := Lib.hid p0
  have HP1 := Lib.hid p1
  have HP2 := Lib.hid p2
  have HP3 := Lib.hid p3
  clear hG p0 p1 p2 p3
  go_wp2_with fail
  have p0 := HP0.out
  have p1 := HP1.out
  have p2 := HP2.out
  have p3 := HP3.out
  have hG := HG.out
  clear HP0 HP1 HP2 HP3 HG
  generalize ((((w3.setCell ⟨w.heap.size + 1, 0, none⟩ (.int .i64 v.most)).setCell ⟨w.heap.size + 1, 1, none⟩ (.int .i64 v.tgt)).setCell ⟨w.heap.size + 1, 2, none⟩ (.slice (some ⟨G, 0, none⟩) 4 4)).setCell ⟨w.heap.size + 1, 3, none⟩ (.int .i64 v.pl)) = w9 at *
  (try simp only [Exit.inBlock, Exit.then])
  refine bodyPost_ret (v := .tuple #[.agg #[.int .i64 v.most, .int .i64 v.tgt, .slice (some ⟨G, 0, none⟩) 4 4, .int .i64 v.pl], .string ⟨#[]⟩, .bool false]) (by simp [results, Tryz.results58, go_sem, p0, p1, p2, p3]) rfl ?_
  exact ⟨G, vs, by rw [HN.out]; rfl, by rw [HR.out]; exact hG⟩
 ·obtain ⟨k0, hn, hW⟩ := Av.repl_went hok false (by omega)
  have hokr := (hf.repl false).ok
  have hnum := Av.repl_num v false
  have hpl : (v.repl false).pl = v.pl := by unfold Av.pl; rw [hnum.1]
  have fr := fun W (h : Dat W v G vs) => rreplace_c false hf W h
  simp only [hn, Option.toList_some, List.length_singleton] at fr
  have HN := Lib.hid hn
  have HM := Lib.hid hnum
  have HP := Lib.hid hpl
  have d1 : ((v.kept : Int) == 0) = false := beq_eq_false_iff_ne.2 (by omega)
  clear hn hW hnum hz hl0 hpl
  go_wp2_with fail
  refine (fk _ h2).mono ?_
  rintro e w3 ⟨rfl, h3⟩
  clear x0 x1 x2 x3 h2 fk
  obtain ⟨x0, x1, x2, x3, -⟩ := h3.cells
  go_wp2_with fail
  refine (fr _ h3.go.rf).mono ?_
  rintro e w4 ⟨G', vs', val, rfl, hg, hrow⟩
  have hg5 := hg.onto ((Below.refl _ w4).alloc (Nat.le_refl _) (.cells #[.int .i64 v.most, .int .i64 v.tgt, .slice (some ⟨G', 0, none⟩) 4 4, .int .i64 v.pl] 32))
  have h5 := h3.onto hg5.below
  obtain ⟨g, c, rfl, -, -⟩ := hrow.form (by omega)
  have hgl := (hrow.lt g rfl)
  have cg : (w4.alloc (.cells #[.int .i64 v.most, .int .i64 v.tgt, .slice (some ⟨G', 0, none⟩) 4 4, .int .i64 v.pl] 32)).cell? ⟨g, 0, none⟩ = some (.string (str k0)) := (World.cell?_of_block (Below.heap_alloc w4 _ g hgl.2)).trans (hrow.cellAt 0 (by omega))
  have hR : Goes w G vs (v.repl false) G' vs' (putA w (w4.alloc (.cells #[.int .i64 v.most, .int .i64 v.tgt, .slice (some ⟨G', 0, none⟩) 4 4, .int .i64 v.pl] 32)) v.most v.tgt G' v.pl) ∧ (putA w (w4.alloc (.cells #[.int .i64 v.most, .int .i64 v.tgt, .slice (some ⟨G', 0, none⟩) 4 4, .int .i64 v.pl] 32)) v.most v.tgt G' v.pl).cell? ⟨w.heap.size + 1, 0, none⟩ = some (.int .i64 v.most) ∧ (putA w (w4.alloc (.cells #[.int .i64 v.most, .int .i64 v.tgt, .slice (some ⟨G', 0, none⟩) 4 4, .int .i64 v.pl] 32)) v.most v.tgt G' v.pl).cell? ⟨w.heap.size + 1, 1, none⟩ = some (.int .i64 v.tgt) ∧ (putA w (w4.alloc (.cells #[.int .i64 v.most, .int .i64 v.tgt, .slice (some ⟨G', 0, none⟩) 4 4, .int .i64 v.pl] 32)) v.most v.tgt G' v.pl).cell? ⟨w.heap.size + 1, 2, none⟩ = some (.slice (some ⟨G', 0, none⟩) 4 4) ∧ (putA w (w4.alloc (.cells #[.int .i64 v.most, .int .i64 v.tgt, .slice (some ⟨G', 0, none⟩) 4 4, .int .i64 v.pl] 32)) v.most v.tgt G' v.pl).cell? ⟨w.heap.size + 1, 3, none⟩ = some (.int .i64 v.pl) := by
   have := h3.fin (v' := v.repl false) hokr hg5
   rw [HM.out.1, HM.out.2, HP.out] at this
   exact this
  have hb5 := Blk.new w4 32 #[.int .i64 v.most, .int .i64 v.tgt, .slice (some ⟨G', 0, none⟩) 4 4, .int .i64 v.pl]
  have hq : w4.heap.size ≠ w.heap.size + 1 := by have := h3.onto hg.below |>.res.lt; omega
  have hgn : g ≠ w.heap.size + 1 := by have := h3.res.lt; omega
  clear x0 x1 x2 x3 h3 fr hg hg5 hrow
  go_upto_region 6 with (fail)
  generalize w4.heap.size = q at *
  generalize w4.alloc (.cells #[.int .i64 v.most, .int .i64 v.tgt, .slice (some ⟨G', 0, none⟩) 4 4, .int .i64 v.pl] 32) = w6 at *
  have h5d : Wr w G vs v G vs w6.drew := h5.drewN 1
  obtain ⟨z0, z1, z2, z3, z4, z5, z6, z7⟩ := h5d.zero
  obtain ⟨r0, r1, r2, r3, r4, r5, r6, r7⟩ := h5.zero
  have hS : w6.drew.cell? ⟨q, 0, none⟩ = some (.int .i64 v.most) ∧ w6.drew.cell? ⟨q, 1, none⟩ = some (.int .i64 v.tgt) ∧ w6.drew.cell? ⟨q, 2, none⟩ = some (.slice (some ⟨G', 0, none⟩) 4 4) ∧ w6.drew.cell? ⟨q, 3, none⟩ = some (.int .i64 v.pl) ∧ w6.drew.cell? ⟨g, 0, none⟩ = some (.string (str k0)) := ⟨hb5.cell 0, hb5.cell 1, hb5.cell 2, hb5.cell 3, cg⟩
  have q1 : (0 : Int) < 1 := by omega
  refine region_only 7 #[false, false, false, false, false, false, false] (S := (fun W => W.cell? ⟨q, 0, none⟩ = some (.int .i64 v.most) ∧ W.cell? ⟨q, 1, none⟩ = some (.int .i64 v.tgt) ∧ W.cell? ⟨q, 2, none⟩ = some (.slice (some ⟨G', 0, none⟩) 4 4) ∧ W.cell? ⟨q, 3, none⟩ = some (.int .i64 v.pl) ∧ W.cell? ⟨g, 0, none⟩ = some (.string (str k0)))) rfl rfl (by kernel_rfl) hS (fun hSw => ?_)
  refine tkA 0 20 6 ?_ rfl rfl ?_ hSw ?_
  rotate_left
  ·intro wx hSx; (try dsimp only at hSx); go_split_ands; go_simp; (try with_reducible rfl)
  simp only [sA, List.set_cons_zero, sC]
  refine tkA 1 21 5 ?_ rfl rfl ?_ hSw ?_
  rotate_left
  ·intro wx hSx; (try dsimp only at hSx); go_split_ands; go_simp; (try with_reducible rfl)
  simp only [sA, List.set_cons_zero, sC]
  refine tkA 2 22 4 ?_ rfl rfl ?_ hSw ?_
  rotate_left
  ·intro wx hSx; (try dsimp only at hSx); go_split_ands; go_simp; (try with_reducible rfl)
  simp only [sA, List.set_cons_zero, sC]
  refine tkA 3 23 3 ?_ rfl rfl ?_ hSw ?_
  rotate_left
  ·intro wx hSx; (try dsimp only at hSx); go_split_ands; go_simp; (try with_reducible rfl)
  simp only [sA, List.set_cons_zero, sC]
  refine rdA 2 4 rfl fun K hK => ?_
  go_simp
  refine hK.out _ _ ⟨(putA_cell (x := w6) hq).trans hSw.1, (putA_cell (x := w6) hq).trans hSw.2.1, (putA_cell (x := w6) hq).trans hSw.2.2.1, (putA_cell (x := w6) hq).trans hSw.2.2.2.1, (putA_cell (x := w6) hgn).trans hSw.2.2.2.2⟩ (fun hSw => ?_)
  clear hK K
  simp only [sA, List.set_cons_zero, sC]
  refine tkA 5 3 1 ?_ rfl rfl ?_ hSw ?_
  rotate_left
  ·intro wx hSx; (try dsimp only at hSx); go_split_ands; go_simp; (try with_reducible rfl)
  simp only [sA, List.set_cons_zero, sC]
  refine tkA 6 4 0 ?_ rfl rfl ?_ hSw ?_
  rotate_left
  ·intro wx hSx; (try dsimp only at hSx); go_split_ands; go_simp; (try with_reducible rfl)
  simp only [sA, List.set_cons_zero, sC]
  refine wpAnyH_done (by kernel_rfl) ⟨rfl, ?_⟩ 0
  clear hSw z0 z1 z2 z3 z4 z5 z6 z7 r0 r1 r2 r3 r4 r5 r6 r7 h5 h5d hS cg hb5
  obtain ⟨hG, p0, p1, p2, p3⟩ := hR
  unfold putA at hG p0 p1 p2 p3
  generalize ((((w6.setCell ⟨w.heap.size + 1, 0, none⟩ (.int .i64 v.most)).setCell ⟨w.heap.size + 1, 1, none⟩ (.int .i64 v.tgt)).setCell ⟨w.heap.size + 1, 2, none⟩ (.slice (some ⟨G', 0, none⟩) 4 4)).setCell ⟨w.heap.size + 1, 3, none⟩ (.int .i64 v.pl)) = w9 at *
  have p0' : w9.drew.cell? ⟨w.heap.size + 1, 0, none⟩ = some (.int .i64 v.most) := p0
  have p1' : w9.drew.cell? ⟨w.heap.size + 1, 1, none⟩ = some (.int .i64 v.tgt) := p1
  have p2' : w9.drew.cell? ⟨w.heap.size + 1, 2, none⟩ = some (.slice (some ⟨G', 0, none⟩) 4 4) := p2
  have p3' : w9.drew.cell? ⟨w.heap.size + 1, 3, none⟩ = some (.int .i64 v.pl) := p3
  have hGd := hG.onto (y := w9.drew) ⟨rfl, rfl, rfl, Nat.le_refl _, fun _ _ => rfl⟩
  clear p0 p1 p2 p3 hG
  generalize w9.drew = wz at *
  go_wp2_with fail
  (try simp only [Exit.inBlock, Exit.then])
  refine bodyPost_ret (v := .tuple #[.agg #[.int .i64 v.most, .int .i64 v.tgt, .slice (some ⟨G', 0, none⟩) 4 4, .int .i64 v.pl], .string (str k0), .bool true]) (by simp [results, Tryz.results58, go_sem, p0', p1', p2', p3']) rfl ?_
  exact ⟨G', vs', by rw [HN.out]; rfl, hGd⟩
set_option maxHeartbeats 2000000 in
set_option maxRecDepth 100000 in
theorem rput7_c (hok : v.Ok) (w : World) (h : Dat w v G vs) :
  Calls Tryz.prog 39 #[.agg #[.int .i64 v.most, .int .i64 v.tgt, .slice (some ⟨G, 0, none⟩) 4 4, .int .i64 v.pl]] w fun e w' => e = .returned (.string (str v.put)) ∧ Below w.heap.size w w' := by
 have h1 := Wk.new h
 have hm2 := hok.m2
 have ht2 := hok.t
 have hcat := str_cat
 have hsz := str_size
 have hs := hok.wf.small
 have fm : ∀ W, Wk w G vs v G vs W → Calls Tryz.prog 66 #[.int .u64 (IntKind.u64.wrap (v.most : Int))] W fun e W' => e = .returned (.string (str (enc v.most))) ∧ Wk w G vs v G vs W' := fun W hW => (Ringy.refnumW (n := v.most) (by omega) W).mono fun _ _ ⟨a, b⟩ => ⟨a, hW.onto b⟩
 have ft : ∀ W, Wk w G vs v G vs W → Calls Tryz.prog 66 #[.int .u64 (IntKind.u64.wrap (v.tgt : Int))] W fun e W' => e = .returned (.string (str (enc v.tgt))) ∧ Wk w G vs v G vs W' := fun W hW => (Ringy.refnumW (n := v.tgt) (by omega) W).mono fun _ _ ⟨a, b⟩ => ⟨a, hW.onto b⟩
 have fp : ∀ W, Wk w G vs v G vs W → Calls Tryz.prog 67 #[.agg #[.slice (some ⟨G, 0, none⟩) 4 4, .int .i64 v.pl]] W fun e W' => e = .returned (.string (str v.rg.put)) ∧ Wk w G vs v G vs W' := fun W hW => by
  have hc := rput_c hs W hW.go.rf
  rw [hok.val] at hc
  exact hc.mono fun _ _ ⟨a, b⟩ => ⟨a, hW.onto b⟩
 have l1 := enc_ten (n := v.most) (by omega)
 have l2 := enc_ten (n := v.tgt) (by omega)
 have l3 := hs.putTo v.rg.n (Nat.le_refl _)
 rw [hok.n] at l3
 have l3' : v.rg.put.length ≤ 20 + 400000 * 4 := by unfold Rg.put; rw [hok.n]; exact l3
 have hv1 : ¬ (9223372036854775807 < (enc v.most).length + (enc v.tgt).length) := by omega
 have hv2 : ¬ (9223372036854775807 < (enc v.most ++ enc v.tgt).length + v.rg.put.length) := by rw [List.length_append]; omega
 have hv3 : ¬ (9223372036854775807 < (enc v.most).length + (enc v.tgt).length + v.rg.put.length) := by omega
 have hpu : v.put = enc v.most ++ (enc v.tgt ++ v.rg.put) := rfl
 have HPU := Lib.hid hpu
 clear l1 l2 l3 l3' hpu
 go_enter Tryz.func39, Tryz.ntmps39
 go_upto_region 1 with (fail)
 generalize w.alloc (.cells #[.int .i64 v.most, .int .i64 v.tgt, .slice (some ⟨G, 0, none⟩) 4 4, .int .i64 v.pl] 32) = w1 at *
 have hd : w1.drew.cell? ⟨w.heap.size, 0, none⟩ = some (.int .i64 v.most) ∧ w1.drew.cell? ⟨w.heap.size, 1, none⟩ = some (.int .i64 v.tgt) ∧ w1.drew.cell? ⟨w.heap.size, 2, none⟩ = some (.slice (some ⟨G, 0, none⟩) 4 4) ∧ w1.drew.cell? ⟨w.heap.size, 3, none⟩ = some (.int .i64 v.pl) ∧ Wk w G vs v G vs w1.drew := (h1.drewN 1).all
 go_region_held3 (fun W => W.cell? ⟨w.heap.size, 0, none⟩ = some (.int .i64 v.most) ∧ W.cell? ⟨w.heap.size, 1, none⟩ = some (.int .i64 v.tgt) ∧ W.cell? ⟨w.heap.size, 2, none⟩ = some (.slice (some ⟨G, 0, none⟩) 4 4) ∧ W.cell? ⟨w.heap.size, 3, none⟩ = some (.int .i64 v.pl) ∧ Wk w G vs v G vs W)
  (first | assumption | exact hd | exact Wk.all (by assumption))
  (first | (go_at_call 66; (with_reducible refine Calls.mono (fm _ (by assumption : _ ∧ _ ∧ _ ∧ _ ∧ _).2.2.2.2) ?_); rintro e wv ⟨rfl, hwv⟩) | (go_at_call 66; (with_reducible refine Calls.mono (ft _ (by assumption : _ ∧ _ ∧ _ ∧ _ ∧ _).2.2.2.2) ?_); rintro e wv ⟨rfl, hwv⟩) | (go_at_call 67; (with_reducible refine Calls.mono (fp _ (by assumption : _ ∧ _ ∧ _ ∧ _ ∧ _).2.2.2.2) ?_); rintro e wv ⟨rfl, hwv⟩) | fail)
 have hZ := (by assumption : _ ∧ _ ∧ _ ∧ _ ∧ Wk w G vs v G vs _).2.2.2.2
 clear hd
 go_wp2_with fail
 go_ret
 exact ⟨by rw [HPU.out]; rfl, hZ.go.below⟩
set_option maxHeartbeats 2000000 in
set_option maxRecDepth 100000 in
theorem rnew7_c {n : Nat} (hn : 1 ≤ n) (hn2 : n ≤ 1000) (w : World) :
  Calls Tryz.prog 26 #[.int .i64 n] w fun e w' => ∃ G vs, e = .returned (.agg #[.int .i64 ((Av.new n).most : Int), .int .i64 ((Av.new n).tgt : Int), .slice (some ⟨G, 0, none⟩) 4 4, .int .i64 ((Av.new n).pl : Int)]) ∧ RefAt w' (fun b => b < w.heap.size + 1) G vs (Av.new n).rg ∧ Below w.heap.size w w' := by
 have hcast : ((2 * n + 1 : Nat) : Int) = 2 * (n : Int) + 1 := by omega
 have hc := rnew_c (n := 4) (places := 2 * n + 1) (by omega) (w.alloc (.cells #[.int .i64 0, .int .i64 0, .slice none 0 0, .int .i64 0] 32))
 rw [hcast] at hc
 have hc2 : Calls Tryz.prog 51 #[.int .i64 4, .int .i64 (2 * (n : Int) + 1)] (w.alloc (.cells #[.int .i64 0, .int .i64 0, .slice none 0 0, .int .i64 0] 32)) fun e w' => ∃ G vs, e = .returned (.agg #[.slice (some ⟨G, 0, none⟩) 4 4, .int .i64 ((Av.new n).pl : Int)]) ∧ RefAt w' (fun b => b < (w.alloc (.cells #[.int .i64 0, .int .i64 0, .slice none 0 0, .int .i64 0] 32)).heap.size) G vs (Av.new n).rg ∧ Below (w.alloc (.cells #[.int .i64 0, .int .i64 0, .slice none 0 0, .int .i64 0] 32)).heap.size (w.alloc (.cells #[.int .i64 0, .int .i64 0, .slice none 0 0, .int .i64 0] 32)) w' := hc
 have hb1 := (Below.refl _ w).alloc (Nat.le_refl _) (.cells #[.int .i64 0, .int .i64 0, .slice none 0 0, .int .i64 0] 32)
 have hX := Blk.new w 32 #[.int .i64 0, .int .i64 0, .slice none 0 0, .int .i64 0]
 have hs : (w.alloc (.cells #[.int .i64 0, .int .i64 0, .slice none 0 0, .int .i64 0] 32)).heap.size = w.heap.size + 1 := by simp
 rw [hs] at hc2
 clear hc hcast
 go_enter Tryz.func26, Tryz.ntmps26
 go_upto_region 1 with (fail)
 generalize w.alloc (.cells #[.int .i64 0, .int .i64 0, .slice none 0 0, .int .i64 0] 32) = w1 at *
 go_wp2_with fail
 refine hc2.mono ?_
 rintro e w2 ⟨G, vs, rfl, hR, hb⟩
 have hX2 := hX.below hb (by omega)
 have z0 : w2.cell? ⟨w.heap.size, 0, none⟩ = some (.int .i64 0) := hX2.cell 0
 have z1 : w2.cell? ⟨w.heap.size, 1, none⟩ = some (.int .i64 0) := hX2.cell 1
 have z2 : w2.cell? ⟨w.heap.size, 2, none⟩ = some (.slice none 0 0) := hX2.cell 2
 have z3 : w2.cell? ⟨w.heap.size, 3, none⟩ = some (.int .i64 0) := hX2.cell 3
 have y0 := hX2.free 0
 have y1 := hX2.free 1
 have y2 := hX2.free 2
 have y3 := hX2.free 3
 have hB := (((hX2.put 0 (.int .i64 n)).put 1 (.int .i64 0)).put 2 (.slice (some ⟨G, 0, none⟩) 4 4)).put 3 (.int .i64 ((Av.new n).pl : Int))
 have p0 : ((((w2.setCell ⟨w.heap.size, 0, none⟩ (.int .i64 n)).setCell ⟨w.heap.size, 1, none⟩ (.int .i64 0)).setCell ⟨w.heap.size, 2, none⟩ (.slice (some ⟨G, 0, none⟩) 4 4)).setCell ⟨w.heap.size, 3, none⟩ (.int .i64 ((Av.new n).pl : Int))).cell? ⟨w.heap.size, 0, none⟩ = some (.int .i64 n) := hB.cell 0
 have p1 : ((((w2.setCell ⟨w.heap.size, 0, none⟩ (.int .i64 n)).setCell ⟨w.heap.size, 1, none⟩ (.int .i64 0)).setCell ⟨w.heap.size, 2, none⟩ (.slice (some ⟨G, 0, none⟩) 4 4)).setCell ⟨w.heap.size, 3, none⟩ (.int .i64 ((Av.new n).pl : Int))).cell? ⟨w.heap.size, 1, none⟩ = some (.int .i64 0) := hB.cell 1
 have p2 : ((((w2.setCell ⟨w.heap.size, 0, none⟩ (.int .i64 n)).setCell ⟨w.heap.size, 1, none⟩ (.int .i64 0)).setCell ⟨w.heap.size, 2, none⟩ (.slice (some ⟨G, 0, none⟩) 4 4)).setCell ⟨w.heap.size, 3, none⟩ (.int .i64 ((Av.new n).pl : Int))).cell? ⟨w.heap.size, 2, none⟩ = some (.slice (some ⟨G, 0, none⟩) 4 4) := hB.cell 2
 have p3 : ((((w2.setCell ⟨w.heap.size, 0, none⟩ (.int .i64 n)).setCell ⟨w.heap.size, 1, none⟩ (.int .i64 0)).setCell ⟨w.heap.size, 2, none⟩ (.slice (some ⟨G, 0, none⟩) 4 4)).setCell ⟨w.heap.size, 3, none⟩ (.int .i64 ((Av.new n).pl : Int))).cell? ⟨w.heap.size, 3, none⟩ = some (.int .i64 ((Av.new n).pl : Int)) := hB.cell 3
 have hbb := ((((hb1.trans (hb.mono (by omega))).setCell (p := ⟨w.heap.size, 0, none⟩) (Nat.le_refl _) (.int .i64 n)).setCell (p := ⟨w.heap.size, 1, none⟩) (Nat.le_refl _) (.int .i64 0)).setCell (p := ⟨w.heap.size, 2, none⟩) (Nat.le_refl _) (.slice (some ⟨G, 0, none⟩) 4 4)).setCell (p := ⟨w.heap.size, 3, none⟩) (Nat.le_refl _) (.int .i64 ((Av.new n).pl : Int))
 have hRR : RefAt ((((w2.setCell ⟨w.heap.size, 0, none⟩ (.int .i64 n)).setCell ⟨w.heap.size, 1, none⟩ (.int .i64 0)).setCell ⟨w.heap.size, 2, none⟩ (.slice (some ⟨G, 0, none⟩) 4 4)).setCell ⟨w.heap.size, 3, none⟩ (.int .i64 ((Av.new n).pl : Int))) (fun b => b < w.heap.size + 1) G vs (Av.new n).rg := hR.stay fun b _ hn => by
  have hne : b ≠ w.heap.size := fun e => hn (by omega)
  exact (((Below.heap_setCell _ ⟨w.heap.size, 3, none⟩ _ b hne).trans (Below.heap_setCell _ ⟨w.heap.size, 2, none⟩ _ b hne)).trans (Below.heap_setCell _ ⟨w.heap.size, 1, none⟩ _ b hne)).trans (Below.heap_setCell w2 ⟨w.heap.size, 0, none⟩ _ b hne)
 have HP0 := Lib.hid p0
 have HP1 := Lib.hid p1
 have HP2 := Lib.hid p2
 have HP3 := Lib.hid p3
 have HBB := Lib.hid hbb
 have HRR := Lib.hid hRR
 clear p0 p1 p2 p3 hB hbb hRR hR hb hX hX2 hc2 hb1
 go_wp2_with fail
 have p0 := HP0.out
 have p1 := HP1.out
 have p2 := HP2.out
 have p3 := HP3.out
 have hbb := HBB.out
 have hRR := HRR.out
 clear HP0 HP1 HP2 HP3 HBB HRR
 generalize (((w2.setCell ⟨w.heap.size, 0, none⟩ (.int .i64 n)).setCell ⟨w.heap.size, 1, none⟩ (.int .i64 0)).setCell ⟨w.heap.size, 2, none⟩ (.slice (some ⟨G, 0, none⟩) 4 4)).setCell ⟨w.heap.size, 3, none⟩ (.int .i64 ((Av.new n).pl : Int)) = w9 at *
 (try simp only [Exit.inBlock, Exit.then])
 refine bodyPost_ret (v := .agg #[.int .i64 ((Av.new n).most : Int), .int .i64 ((Av.new n).tgt : Int), .slice (some ⟨G, 0, none⟩) 4 4, .int .i64 ((Av.new n).pl : Int)]) (by simp [results, Tryz.results26, go_sem, p0, p1, p2, p3, Av.new]) rfl ?_
 exact ⟨G, vs, rfl, hRR, hbb⟩
end
end Go.Proofs.YtncgfnocokippaaGreat.Arcy
