/- The program's table: Take and Import of a table's own bytes. The only condition: there are not more entries than may be. Layer 12: a cache taken off, and read of, its own bytes. The only condition: it is as it may be, with at most twelve sessions. -/
import Derived.Test.YtkiabladmgagdabGreatDoorStoreEntAll
import Derived.Test.YtkiabladmgagdabGreatDoorTabMoveAll
import Derived.Test.YtkiabladmgagdabGreatDoorSort64InsAll
import Derived.Test.YtkiabladmgagdabGreatDoorStoreTakeSesAll
import Derived.Test.YtkiabladmgagdabGreatDoorStoreAgree
import Derived.Test.YtkiabladmgagdabGreatDoorStoreOutAll
import Derived.Lib.Hide
import Derived.BigQuiet
import Derived.Test.YtkiabladmgagdabGreatDoorSq
namespace Go.Proofs.YtkiabladmgagdabGreatDoor.Taby
open Go.ChangeShapes Go.WideShapes Go.ChangeAt Go.RowKit Go.ChangeMaps Go.Maps
open Wirey (Blk Row str str_size str_list str_cat str_inj Kp RS enc enc_len txt must_ok left_c)
open Opy (Tk num_off text_off)
set_option maxHeartbeats 4000000 in
set_option maxRecDepth 100000 in
theorem takeEntry_c {x : En} (hx : x.Ok) {R O : Nat} (rest : List UInt8) (hr : rest.length ≤ 9000000) (w : World) (h : RS w R O (oneB x ++ rest)) :
  Calls Tryz.prog 70 #[.pointer (some ⟨R, 0, none⟩)] w fun e w' => e = .returned (.agg x.cs) ∧ RS w' R O rest ∧ Kp (fun k => k = R ∨ k = O) w w' := by
 have a3 := hx.ver
 have a4 := hx.fin
 have a1 := hx.key
 have a2 := hx.val
 have l1 := enc_len (n := x.key.length) (by omega)
 have l2 := enc_len (n := x.val.length) (by omega)
 have l3 := enc_len a3
 have l4 := enc_len a4
 have m1 : (txt x.key).length ≤ 100 := by unfold txt; rw [List.length_append]; omega
 have m2 : (txt x.val).length ≤ 5000 := by unfold txt; rw [List.length_append]; omega
 have hs : oneB x ++ rest = txt x.key ++ (txt x.val ++ (enc x.ver ++ (enc x.fin ++ rest))) := by unfold oneB; simp only [List.append_assoc]
 rw [hs] at h
 clear hs l1 l2
 have hz := Blk.new w 66 #[.string ⟨#[]⟩, .string ⟨#[]⟩, .int .u64 0, .int .u64 0]
 have hb0 := (Below.refl _ w).alloc (Nat.le_refl _) (.cells #[.string ⟨#[]⟩, .string ⟨#[]⟩, .int .u64 0, .int .u64 0] 66)
 have h1 := h.below hb0
 have hRw := h.rd.lt
 have hOw := h.of.lt
 clear h
 go_enter Tryz.func70, Tryz.ntmps70
 go_upto_region 1 with (fail)
 generalize w.alloc (.cells #[.string ⟨#[]⟩, .string ⟨#[]⟩, .int .u64 0, .int .u64 0] 66) = w1 at *
 have hlt := hz.lt
 have T0 : Tk 66 w (w1.alloc (.cells #[.string ⟨#[]⟩, .string ⟨#[]⟩, .int .u64 0, .int .u64 0] 66)) w.heap.size w1.heap.size R O #[.string ⟨#[]⟩, .string ⟨#[]⟩, .int .u64 0, .int .u64 0] #[.string ⟨#[]⟩, .string ⟨#[]⟩, .int .u64 0, .int .u64 0] _ :=
  ⟨hz.alloc _, Blk.new w1 66 #[.string ⟨#[]⟩, .string ⟨#[]⟩, .int .u64 0, .int .u64 0], h1.below ((Below.refl _ _).alloc (Nat.le_refl _) _), (Kp.of_below hb0).alloc _, Nat.le_refl _, hb0.size, Nat.ne_of_lt hlt, hRw, hOw⟩
 go_upto_region 2 with (fail)
 generalize w1.alloc (.cells #[.string ⟨#[]⟩, .string ⟨#[]⟩, .int .u64 0, .int .u64 0] 66) = w9 at *
 generalize w1.heap.size = p at *
 generalize hgg : w.heap.size = g at *
 clear hgg hz hb0 h1 hRw hOw hlt
 go_wp2_with fail
 refine (T0.text (s := x.key) 64 hx.key (by omega) (by simp only [List.length_append]; omega)).mono ?_
 rintro e u0 ⟨rfl, U0⟩
 have y0 := U0.xx.cell 0
 have f0 := U0.xx.free 0
 simp only [List.getElem?_toArray, List.getElem?_cons_zero] at y0
 have T1 := U0.put 0 (.string (str x.key))
 simp only [sA, List.set_cons_zero] at T1
 clear U0 T0
 go_upto_region 3 with (fail)
 generalize u0.setCell ⟨p, 0, none⟩ (.string (str x.key)) = w2 at *
 clear y0 f0
 go_wp2_with fail
 refine (T1.text (s := x.val) 4096 hx.val (by omega) (by simp only [List.length_append]; omega)).mono ?_
 rintro e u1 ⟨rfl, U1⟩
 have y1 := U1.xx.cell 1
 have f1 := U1.xx.free 1
 simp only [gA, gB, gC] at y1
 have T2 := U1.put 1 (.string (str x.val))
 simp only [sA, List.set_cons_zero, sC] at T2
 clear U1 T1
 go_upto_region 4 with (fail)
 generalize u1.setCell ⟨p, 1, none⟩ (.string (str x.val)) = w3 at *
 clear y1 f1
 go_wp2_with fail
 refine (T2.num (n := x.ver) 18446744073709551615 (by omega) (by omega) (by simp only [List.length_append]; omega)).mono ?_
 rintro e u2 ⟨rfl, U2⟩
 have y2 := U2.xx.cell 2
 have f2 := U2.xx.free 2
 simp only [gA, gB, gC] at y2
 have T3 := U2.put 2 (.int .u64 x.ver)
 simp only [sA, List.set_cons_zero, sC] at T3
 clear U2 T2
 go_upto_region 5 with (fail)
 generalize u2.setCell ⟨p, 2, none⟩ (.int .u64 x.ver) = w4 at *
 clear y2 f2
 go_wp2_with fail
 refine (T3.num (n := x.fin) 18446744073709551615 (by omega) (by omega) (by omega)).mono ?_
 rintro e u3 ⟨rfl, U3⟩
 have y3 := U3.xx.cell 3
 have f3 := U3.xx.free 3
 simp only [gA, gB, gC] at y3
 have T4 := U3.put 3 (.int .u64 x.fin)
 simp only [sA, List.set_cons_zero, sC] at T4
 clear U3 T3
 go_upto_region 6 with (fail)
 generalize u3.setCell ⟨p, 3, none⟩ (.int .u64 x.fin) = w5 at *
 clear y3 f3
 have x0 := T4.xx.cell 0
 have x1 := T4.xx.cell 1
 have x2 := T4.xx.cell 2
 have x3 := T4.xx.cell 3
 have y0 := T4.zz.cell 0
 have y1 := T4.zz.cell 1
 have y2 := T4.zz.cell 2
 have y3 := T4.zz.cell 3
 simp only [gA, gB, gC] at x0 x1 x2 x3 y0 y1 y2 y3
 have z0 := T4.zz.free 0
 have z1 := T4.zz.free 1
 have z2 := T4.zz.free 2
 have z3 := T4.zz.free 3
 have TZ := ((((T4.putz 0 (.string (str x.key))).putz 1 (.string (str x.val))).putz 2 (.int .u64 x.ver)).putz 3 (.int .u64 x.fin))
 simp only [sA, List.set_cons_zero, sC] at TZ
 go_wp2_with fail
 refine bodyPost_ret (results_cell_row rfl _ _ g 66 #[.string (str x.key), .string (str x.val), .int .u64 x.ver, .int .u64 x.fin] (0, 0) _ rfl TZ.zz Tryz.underlying66 rfl (by kernel_rfl)) rfl ⟨rfl, TZ.rs, TZ.kp⟩
def lastOf (l : List En) : List UInt8 := match l.getLast? with
 | some x => x.key
 | none => []
theorem ins_snoc {x : En} : ∀ {l : List En}, Rise (l ++ [x]) → ins x l = l ++ [x]
 | [], _ => rfl
 | y :: l, h => by
  obtain ⟨h1, h2⟩ := List.pairwise_cons.1 h
  rw [ins, if_pos (h1 x (by simp)), ins_snoc h2]
  rfl
theorem take_rise {l : List En} {j : Nat} {x : En} (hr : Rise l) (hx : l[j]? = some x) : ins x (l.take j) = l.take (j + 1) := by
 have e : l.take (j + 1) = l.take j ++ [x] := by rw [List.take_add_one, hx]; rfl
 rw [e]
 exact ins_snoc (e ▸ hr.sublist (List.take_sublist _ _))
theorem last_less {l : List En} {j : Nat} {x : En} (hr : Rise l) (hx : l[j]? = some x) (hj : 0 < j) : less (lastOf (l.take j)) x.key = true := by
 obtain ⟨i, rfl⟩ : ∃ i, j = i + 1 := ⟨j - 1, by omega⟩
 have hi : i < l.length := by have := (List.getElem?_eq_some_iff.1 hx).1; omega
 have e : l.take (i + 1) = l.take i ++ [l[i]] := by rw [List.take_add_one, List.getElem?_eq_getElem hi]; rfl
 have e2 : lastOf (l.take (i + 1)) = (l[i]).key := by rw [e]; unfold lastOf; rw [List.getLast?_concat]
 rw [e2]
 obtain ⟨h1, h2⟩ := List.getElem?_eq_some_iff.1 hx
 rw [← h2]
 exact List.pairwise_iff_getElem.1 hr i (i + 1) hi h1 (by omega)
theorem bodyB_drop {l : List En} {j : Nat} {x : En} (h : l[j]? = some x) : bodyB (l.drop j) = oneB x ++ bodyB (l.drop (j + 1)) := by
 obtain ⟨h1, h2⟩ := List.getElem?_eq_some_iff.1 h
 rw [List.drop_eq_getElem_cons h1, bodyB, h2]
theorem last_take {l : List En} {j : Nat} {x : En} (hx : l[j]? = some x) : lastOf (l.take (j + 1)) = x.key := by
 have e : l.take (j + 1) = l.take j ++ [x] := by rw [List.take_add_one, hx]; rfl
 rw [e]; unfold lastOf; rw [List.getLast?_concat]
structure Tn (w : World) (R O : Nat) (b M : Nat) (m : List En) (l : List UInt8) (W : World) : Prop where
 tab : TabAt W b M m
 rs : RS W R O l
 kp : Kp (fun k => k = R ∨ k = O) w W
 hb : w.heap.size ≤ b
 hM : w.heap.size ≤ M
 hR : R < w.heap.size
 hO : O < w.heap.size
section
variable {w W W' : World} {R O b M : Nat} {m m' : List En} {l l' : List UInt8}
theorem Tn.read (h : Tn w R O b M m l W) (hr : RS W' R O l') (hk : Kp (fun k => k = R ∨ k = O) W W') : Tn w R O b M m l' W' := by
 have h1 := h.hb; have h2 := h.hM; have h3 := h.hR; have h4 := h.hO
 exact ⟨h.tab.stay (hk.block b h.tab.hd.lt (by omega)) (hk.block M h.tab.ltM (by omega)), hr, h.kp.trans hk, h1, h2, h3, h4⟩
theorem Tn.below (h : Tn w R O b M m l W) (hb : Below W.heap.size W W') : Tn w R O b M m l W' := h.read (h.rs.below hb) (Kp.of_below hb)
theorem Tn.put (h : Tn w R O b M m l W) (ht : TabAt W' b M m') (hk : Kp (Tbl b M) W W') : Tn w R O b M m' l W' := by
 have h1 := h.hb; have h2 := h.hM; have h3 := h.hR; have h4 := h.hO
 exact ⟨ht, ⟨hk.blk h.rs.rd (by show ¬ (R = b ∨ R = M); omega), hk.blk h.rs.of (by show ¬ (O = b ∨ O = M); omega)⟩, ⟨hk.os.trans h.kp.os, hk.tape.trans h.kp.tape, hk.output.trans h.kp.output, Nat.le_trans h.kp.size hk.size, fun k hk1 hk2 => (hk.block k (Nat.lt_of_lt_of_le hk1 h.kp.size) (by show ¬ (k = b ∨ k = M); omega)).trans (h.kp.block k hk1 hk2)⟩, h1, h2, h3, h4⟩
end
section
variable {m : List En}
set_option maxHeartbeats 4000000 in
set_option maxRecDepth 100000 in
theorem takeT_c (hl : m.length ≤ 1000) (hrise : Rise m) (hok : ∀ x ∈ m, x.Ok) {R O : Nat} (rest : List UInt8) (hr : rest.length ≤ 4000000) (w : World) (h : RS w R O (allB m ++ rest)) :
  Calls Tryz.prog 39 #[.pointer (some ⟨R, 0, none⟩)] w fun e w' => ∃ b M, e = .returned (tp b) ∧ TabAt w' b M m ∧ w.heap.size ≤ b ∧ w.heap.size ≤ M ∧ RS w' R O rest ∧ Kp (fun k => k = R ∨ k = O) w w' := by
 have hbl := body_len hok
 have hen := enc_len (n := m.length) (by omega)
 have ha : allB m ++ rest = enc m.length ++ (bodyB m ++ rest) := by unfold allB; rw [List.append_assoc]
 have hlen : 0 < (allB m ++ rest).length := by rw [ha]; simp only [List.length_append]; omega
 have hleft := left_c w h
 have e0 : decide (((allB m ++ rest).length : Int) = 0) = false := decide_eq_false (by omega)
 rw [ha] at h
 generalize (allB m ++ rest).length = L at *
 have hRw := h.rd.lt
 have hOw := h.of.lt
 have htl := Wirey.toList_str
 go_enter Tryz.func39, Tryz.ntmps39
 go_wp2_with fail
 refine hleft.mono ?_
 rintro e w1 ⟨rfl, rfl⟩
 go_wp2_with fail
 refine (num_off (n := m.length) 1000 hl (by omega) (by simp only [List.length_append]; omega) w h).mono ?_
 rintro e w2 ⟨rfl, hr2, hk2⟩
 clear h hleft
 go_wp2_with fail
 refine (new_c w2).mono ?_
 rintro e w3 ⟨P, b, rfl, ⟨M, hT3, -, hb3, hM3⟩, hb2⟩
 have hws := hk2.size
 have hN : Tn w R O b M (m.take 0) (bodyB (m.drop 0) ++ rest) w3 := ⟨by rw [List.take_zero]; exact hT3, by rw [List.drop_zero]; exact hr2.below hb2, hk2.trans (Kp.of_below hb2), Nat.le_trans hws hb3, Nat.le_trans hws hM3, hRw, hOw⟩
 clear hT3 hb3 hM3 hb2 hr2 hk2
 go_wp2_with fail
 go_loopw [6, 17] (fun last i wr => ∃ j : Nat, j ≤ m.length ∧ i = .int .u64 j ∧ last = .string (str (lastOf (m.take j))) ∧ Tn w R O b M (m.take j) (bodyB (m.drop j) ++ rest) wr) (fun _ i _ => m.length - (intOf i).toNat)
 case atStart => exact ⟨0, by omega, rfl, rfl, hN⟩
 case round =>
  clear hN
  obtain ⟨j, hj, rfl, rfl, hN⟩ := hrel
  by_cases h3 : j < m.length
  ·obtain ⟨x, hx⟩ : ∃ x, m[j]? = some x := ⟨_, List.getElem?_eq_getElem h3⟩
   have hxm := List.mem_of_getElem? hx
   have hxo := hok x hxm
   have hlt : (j : Int) < (m.length : Int) := by omega
   have htr := take_rise hrise hx
   have hbd := bodyB_drop hx
   have hbl2 := body_len (l := m.drop (j + 1)) fun y hy => hok y (List.mem_of_mem_drop hy)
   rw [List.length_drop] at hbl2
   rw [hbd, List.append_assoc] at hN
   have htake := takeEntry_c hxo (bodyB (m.drop (j + 1)) ++ rest) (by simp only [List.length_append]; omega) wr hN.rs
   have hll : 0 < j → less (lastOf (m.take j)) x.key = true := fun h0 => last_less hrise hx h0
   have htlen : (m.take j).length ≤ 100000 := by rw [List.length_take]; omega
   clear hbd hbl2
   generalize lastOf (m.take j) = lst at *
   go_wp2_with fail
   refine htake.mono ?_
   rintro e w4 ⟨rfl, hr4, hk4⟩
   have hbX := (hN.read hr4 hk4).tab.hd.lt
   have hMX := (hN.read hr4 hk4).tab.ltM
   have hlast := last_take hx
   have hN4 := (hN.read hr4 hk4).below ((Below.refl _ w4).alloc (Nat.le_refl _) (.cells #[.string (str x.key), .string (str x.val), .int .u64 x.ver, .int .u64 x.fin] 66))
   have hX := Blk.new w4 66 #[.string (str x.key), .string (str x.val), .int .u64 x.ver, .int .u64 x.fin]
   clear hN hr4 hk4 htake
   go_upto_region 11 with (fail)
   generalize w4.alloc (.cells #[.string (str x.key), .string (str x.val), .int .u64 x.ver, .int .u64 x.fin] 66) = w5 at *
   generalize w4.heap.size = X at *
   have x0 := hX.cell 0
   have x1 := hX.cell 1
   have x2 := hX.cell 2
   have x3 := hX.cell 3
   simp only [gA, gB, gC] at x0 x1 x2 x3
   by_cases hj0 : j = 0
   ·have d0 : decide ((j : Int) = 0) = true := decide_eq_true (by omega)
    go_wp2_with fail
    refine (must_ok w5).mono ?_
    rintro e v8 ⟨rfl, rfl⟩
    go_wp2_with fail
    refine (put_t hxo htlen w5 hN4.tab).mono ?_
    rintro e w6 ⟨rfl, hT6, hk6⟩
    have hN6 := hN4.put hT6 hk6
    rw [htr] at hN6
    have hX6 := (hk6.blk hX (by show ¬ (X = b ∨ X = M); omega)).cell 0
    simp only [List.getElem?_toArray, List.getElem?_cons_zero] at hX6
    clear hN4 hX x0 x1 x2 x3 hT6 hk6
    have HN := Lib.hid hN6
    have HL := Lib.hid hlast
    clear hN6 hlast hll
    go_wp2_with fail
    go_roundw
    case rel => exact ⟨j + 1, by omega, by first | rfl | (simp; done) | (simp; omega), by rw [HL.out], HN.out⟩
    case measure => simp [intOf]; omega
   ·have d0 : decide ((j : Int) = 0) = false := decide_eq_false (by omega)
    have hls := hll (by omega)
    have g1 : Op.bytesLess x.key lst = false := less_no hls
    have g2 : (x.key == lst) = false := by simpa using (less_ne hls).symm
    go_wp2_with fail
    refine (must_ok w5).mono ?_
    rintro e v8 ⟨rfl, rfl⟩
    go_wp2_with fail
    refine (put_t hxo htlen w5 hN4.tab).mono ?_
    rintro e w6 ⟨rfl, hT6, hk6⟩
    have hN6 := hN4.put hT6 hk6
    rw [htr] at hN6
    have hX6 := (hk6.blk hX (by show ¬ (X = b ∨ X = M); omega)).cell 0
    simp only [List.getElem?_toArray, List.getElem?_cons_zero] at hX6
    clear hN4 hX x0 x1 x2 x3 hT6 hk6
    have HN := Lib.hid hN6
    have HL := Lib.hid hlast
    clear hN6 hlast hll
    go_wp2_with fail
    go_roundw
    case rel => exact ⟨j + 1, by omega, by first | rfl | (simp; done) | (simp; omega), by rw [HL.out], HN.out⟩
    case measure => simp [intOf]; omega
  ·obtain rfl : j = m.length := by omega
   rw [List.take_length, List.drop_length] at hN
   have HN := Lib.hid hN
   clear hN
   go_wp2_with fail
   (try simp only [Exit.inBlock, Exit.then])
   go_ret
   exact ⟨b, M, rfl, HN.out.tab, HN.out.hb, HN.out.hM, by simpa [bodyB] using HN.out.rs, HN.out.kp⟩
end
section
variable {m : List En}
end
end Go.Proofs.YtkiabladmgagdabGreatDoor.Taby
namespace Go.Proofs.YtkiabladmgagdabGreatDoor.Storey
open Go.ChangeShapes Go.WideShapes Go.ChangeAt Go.RowKit Go.ChangeMaps Go.Maps
open Wirey (Blk Row str str_size str_list str_cat Kp enc enc_len RS must_ok)
open Taby (En TabAt Tbl tp find ins drop size ended allB)
open Policyy (Pv HeldP StepP Tell NewP)
open Opy (num_off)
structure NewS (lo b T M C S : Nat) (H : Nat → Prop) (s : Sv) (x : World) : Prop where
 box : Blk x b 61 (s.cells T C S)
 tab : TabAt x T M s.m
 pol : NewP lo C s.p H x
 ses : ∃ D, SesAt x S s.ss D
 lb : lo ≤ b
 lT : lo ≤ T
 lM : lo ≤ M
 lS : lo ≤ S
 bT : b ≠ T
 bM : b ≠ M
 bS : b ≠ S
 ST : S ≠ T
 SM : S ≠ M
 Hb : ¬ H b
 HT : ¬ H T
 HM : ¬ H M
 HS : ¬ H S
section
variable {w0 w x y : World} {lo b T M C S : Nat} {H : Nat → Prop} {s : Sv}
theorem NewS.kp {O : Nat → Prop} (h : NewS lo b T M C S H s x) (hk : Kp O x y) (hO : ∀ q, O q → q < lo) : NewS lo b T M C S H s y := by
 have hn : ∀ q, lo ≤ q → ¬ O q := fun q hq ho => by have := hO q ho; omega
 obtain ⟨D, hD⟩ := h.ses
 exact ⟨hk.blk h.box (hn _ h.lb), h.tab.stay (hk.block T h.tab.hd.lt (hn _ h.lT)) (hk.block M h.tab.ltM (hn _ h.lM)), h.pol.kp hk hO, ⟨D, hD.stay (hk.block S hD.mp.lt (hn _ h.lS))⟩, h.lb, h.lT, h.lM, h.lS, h.bT, h.bM, h.bS, h.ST, h.SM, h.Hb, h.HT, h.HM, h.HS⟩
theorem NewS.low {lo' : Nat} (h : NewS lo b T M C S H s x) (hl : lo' ≤ lo) : NewS lo' b T M C S H s x :=
 ⟨h.box, h.tab, h.pol.low hl, h.ses, Nat.le_trans hl h.lb, Nat.le_trans hl h.lT, Nat.le_trans hl h.lM, Nat.le_trans hl h.lS, h.bT, h.bM, h.bS, h.ST, h.SM, h.Hb, h.HT, h.HM, h.HS⟩
theorem NewS.at_ (h : NewS lo b T M C S H s x) (hb : Below w.heap.size w x) (hl : w.heap.size ≤ lo) : At w x b T M C S H s :=
 ⟨h.box, h.tab, h.pol.held hb hl, h.ses, Nat.le_trans hl h.lb, Nat.le_trans hl h.lT, Nat.le_trans hl h.lM, Nat.le_trans hl h.lS, h.bT, h.bM, h.bS, h.ST, h.SM, h.Hb, h.HT, h.HM, h.HS⟩
structure Tg (w W : World) (q R O : Nat) (cs : Array Value) (rest : List UInt8) : Prop where
 xx : Blk W q 61 cs
 rs : RS W R O rest
 kp : Kp (fun k => k = R ∨ k = O) w W
 hq : w.heap.size ≤ q
 hR : R < w.heap.size
 hO : O < w.heap.size
variable {W W' : World} {q R O : Nat} {cs : Array Value} {l rest : List UInt8}
theorem Tg.step (h : Tg w W q R O cs l) (hr : RS W' R O rest) (hk : Kp (fun k => k = R ∨ k = O) W W') : Tg w W' q R O cs rest := by
 have h1 := h.hq; have h3 := h.hR; have h4 := h.hO
 exact ⟨hk.blk h.xx (by omega), hr, h.kp.trans hk, h1, h3, h4⟩
theorem Tg.below (h : Tg w W q R O cs l) (hb : Below W.heap.size W W') : Tg w W' q R O cs l := h.step (h.rs.below hb) (Kp.of_below hb)
theorem Tg.put (h : Tg w W q R O cs l) (i : Nat) (u : Value) : Tg w (W.setCell ⟨q, i, none⟩ u) q R O (cs.setIfInBounds i u) l := by
 have h1 := h.hq; have h3 := h.hR; have h4 := h.hO
 exact ⟨h.xx.put i u, ⟨h.rs.rd.far (by show R ≠ q; omega) _, h.rs.of.far (by show O ≠ q; omega) _⟩,
   ⟨h.kp.os, h.kp.tape, h.kp.output, Nat.le_trans h.kp.size (by simp [World.setCell]), fun k hk hS => (Below.heap_setCell _ _ _ _ (by show k ≠ q; omega)).trans (h.kp.block k hk hS)⟩, h1, h3, h4⟩
theorem Tg.num {n : Nat} (hn : n < 18446744073709551616) (hl : rest.length ≤ 10000000) (h : Tg w W q R O cs (enc n ++ rest)) :
  Calls Tryz.prog 37 #[.pointer (some ⟨R, 0, none⟩), .int .u64 18446744073709551615] W fun e W' => e = .returned (.int .u64 n) ∧ Tg w W' q R O cs rest := by
 have l1 := enc_len hn
 exact (num_off (n := n) 18446744073709551615 (by omega) (by omega) (by rw [List.length_append]; omega) W h.rs).mono fun _ _ ⟨a, b, c⟩ => ⟨a, h.step b c⟩
theorem may_ok (hO : s.Base) : mayB (s.kind : Int) (s.n : Int) (s.bytes : Int) = true := by
 have h1 := hO.n1; have h2 := hO.n2; have h3 := hO.b1; have h4 := hO.b2
 have e : (decide ((s.kind : Int) = 1) || decide ((s.kind : Int) = 2)) = true := by
  rcases hO.kind with e | e <;> rw [e] <;> rfl
 unfold mayB
 rw [e, decide_eq_true (p := (1 : Int) ≤ (s.n : Int)) (by omega), decide_eq_true (p := (s.n : Int) ≤ 1000) (by omega), decide_eq_true (p := (1 : Int) ≤ (s.bytes : Int)) (by omega), decide_eq_true (p := (s.bytes : Int) ≤ 1048576) (by omega)]
 rfl
set_option maxHeartbeats 8000000 in
set_option maxRecDepth 100000 in
theorem take_s (hO : s.Ok) (hP : s.p.Out) (h12 : s.ss.length ≤ 12) (w : World) (h : RS w R O s.all) :
  Calls Tryz.prog 17 #[.pointer (some ⟨R, 0, none⟩)] w fun e w' => ∃ b T M C S H, e = .returned (tp b) ∧ NewS w.heap.size b T M C S H s w' ∧ RS w' R O [] ∧ Kp (fun k => k = R ∨ k = O) w w' := by
 have k1 := hO.kind; have k2 := hO.n2; have k3 := hO.b2; have k4 := hO.hits; have k5 := hO.asked
 have l1 := allB_len hO
 have l2 := putP_len hP
 have l3 := allS_len hO
 have l4 := enc_len hO.seq
 have l5 := enc_len hO.now
 have l6 := enc_len hO.ver
 have l7 := enc_len (n := s.asked) (by omega)
 have l8 := enc_len (n := s.hits) (by omega)
 have hm := may_ok hO.toBase
 have hRw := h.rd.lt
 have hOw := h.of.lt
 have h1 : RS w R O (enc s.kind ++ (enc s.n ++ (enc s.bytes ++ (enc s.seed ++ (enc s.seq ++ (enc s.now ++ (enc s.ver ++ (enc s.asked ++ (enc s.hits ++ (allB s.m ++ (s.p.put ++ allS s.ss))))))))))) := by
  have := h
  unfold Sv.all Sv.numB at this
  simpa only [List.append_assoc] using this
 have hC := takeConfig_c (k := s.kind) (n := s.n) (b := s.bytes) (d := s.seed) (by omega) k2 k3 hO.seed hm (enc s.seq ++ (enc s.now ++ (enc s.ver ++ (enc s.asked ++ (enc s.hits ++ (allB s.m ++ (s.p.put ++ allS s.ss))))))) (by simp only [List.length_append]; omega) w h1
 have HTA := Lib.hid fun (W : World) (hW : RS W R O (enc s.asked ++ (enc s.hits ++ (allB s.m ++ (s.p.put ++ allS s.ss))))) => takeTally_c (a := s.asked) (b := s.hits) (by omega) k4 (allB s.m ++ (s.p.put ++ allS s.ss)) (by simp only [List.length_append]; omega) W hW
 have HTT := Lib.hid fun (W : World) (hW : RS W R O (allB s.m ++ (s.p.put ++ allS s.ss))) => Taby.takeT_c (by have := hO.toBase.len.2; omega) hO.rise hO.eok (s.p.put ++ allS s.ss) (by simp only [List.length_append]; omega) W hW
 have HTP := Lib.hid fun (W : World) (hW : RS W R O (s.p.put ++ allS s.ss)) => Policyy.takeP_r hP (allS s.ss) (by omega) W hW
 have HTS := Lib.hid fun (W : World) (hW : RS W R O (allS s.ss)) => takeSes_c h12 hO.up hO.sok W hW
 have b4 : (enc s.now ++ (enc s.ver ++ (enc s.asked ++ (enc s.hits ++ (allB s.m ++ (s.p.put ++ allS s.ss)))))).length ≤ 10000000 := by simp only [List.length_append]; omega
 have b5 : (enc s.ver ++ (enc s.asked ++ (enc s.hits ++ (allB s.m ++ (s.p.put ++ allS s.ss))))).length ≤ 10000000 := by simp only [List.length_append]; omega
 have b6 : (enc s.asked ++ (enc s.hits ++ (allB s.m ++ (s.p.put ++ allS s.ss)))).length ≤ 10000000 := by simp only [List.length_append]; omega
 clear l1 l2 l3 l4 l5 l6 l7 l8 hm k1 k2 k3 k4 k5 h1 h
 go_enter Tryz.func17, Tryz.ntmps17
 go_wp2_with fail
 refine hC.mono ?_
 rintro e v1 ⟨rfl, hr1, hk1⟩
 have hZ := Blk.new v1 61 #[.int .i64 s.kind, .int .i64 s.n, .int .i64 s.bytes, .int .u64 s.seed, .int .u64 0, .int .u64 0, .int .u64 0, .int .i64 0, .int .i64 0, .pointer none, .pointer none, .map none]
 have T0 : Tg w (v1.alloc (.cells #[.int .i64 s.kind, .int .i64 s.n, .int .i64 s.bytes, .int .u64 s.seed, .int .u64 0, .int .u64 0, .int .u64 0, .int .i64 0, .int .i64 0, .pointer none, .pointer none, .map none] 61)) v1.heap.size R O #[.int .i64 s.kind, .int .i64 s.n, .int .i64 s.bytes, .int .u64 s.seed, .int .u64 0, .int .u64 0, .int .u64 0, .int .i64 0, .int .i64 0, .pointer none, .pointer none, .map none] _ :=
  ⟨hZ, hr1.below ((Below.refl _ v1).alloc (Nat.le_refl _) _), hk1.alloc _, hk1.size, hRw, hOw⟩
 clear hC hZ hr1 hk1
 go_upto_region 2 with (fail)
 generalize v1.alloc (.cells #[.int .i64 s.kind, .int .i64 s.n, .int .i64 s.bytes, .int .u64 s.seed, .int .u64 0, .int .u64 0, .int .u64 0, .int .i64 0, .int .i64 0, .pointer none, .pointer none, .map none] 61) = w1 at *
 generalize v1.heap.size = q at *
 go_wp2_with fail
 refine (T0.num hO.seq b4).mono ?_
 rintro e u0 ⟨rfl, U0⟩
 have y := U0.xx.cell 4
 have f := U0.xx.free 4
 simp only [gA, gB, gC] at y
 have T1 := U0.put 4 (.int .u64 s.seq)
 simp only [sA, List.set_cons_zero, sC] at T1
 clear U0 T0 b4
 go_upto_region 3 with (fail)
 generalize u0.setCell ⟨q, 4, none⟩ (.int .u64 s.seq) = x1 at *
 clear y f
 go_wp2_with fail
 refine (T1.num hO.now b5).mono ?_
 rintro e u1 ⟨rfl, U1⟩
 have y := U1.xx.cell 5
 have f := U1.xx.free 5
 simp only [gA, gB, gC] at y
 have T2 := U1.put 5 (.int .u64 s.now)
 simp only [sA, List.set_cons_zero, sC] at T2
 clear U1 T1 b5
 go_upto_region 4 with (fail)
 generalize u1.setCell ⟨q, 5, none⟩ (.int .u64 s.now) = x2 at *
 clear y f
 go_wp2_with fail
 refine (T2.num hO.ver b6).mono ?_
 rintro e u2 ⟨rfl, U2⟩
 have y := U2.xx.cell 6
 have f := U2.xx.free 6
 simp only [gA, gB, gC] at y
 have T3 := U2.put 6 (.int .u64 s.ver)
 simp only [sA, List.set_cons_zero, sC] at T3
 clear U2 T2 b6
 go_upto_region 5 with (fail)
 generalize u2.setCell ⟨q, 6, none⟩ (.int .u64 s.ver) = x3 at *
 clear y f
 go_wp2_with fail
 refine (HTA.out _ T3.rs).mono ?_
 rintro e u3 ⟨rfl, hr, hk⟩
 have U3 := T3.step hr hk
 clear T3 hr hk HTA
 have y0 := U3.xx.cell 7
 have f0 := U3.xx.free 7
 have y1 := U3.xx.cell 8
 have f1 := U3.xx.free 8
 simp only [gA, gB, gC] at y0 y1
 have T4 := (U3.put 7 (.int .i64 s.asked)).put 8 (.int .i64 s.hits)
 simp only [sA, List.set_cons_zero, sC] at T4
 clear U3
 go_upto_region 6 with (fail)
 generalize (u3.setCell ⟨q, 7, none⟩ (.int .i64 s.asked)).setCell ⟨q, 8, none⟩ (.int .i64 s.hits) = x4 at *
 clear y0 y1 f0 f1
 go_wp2_with fail
 refine (HTT.out _ T4.rs).mono ?_
 rintro e u4 ⟨T, M, rfl, hT, hlT, hlM, hr, hk⟩
 have hql := T4.xx.lt
 have hwq := T4.kp.size
 have U4 := T4.step hr hk
 clear T4 hr hk HTT
 have y0 := U4.xx.cell 9
 have f0 := U4.xx.free 9
 simp only [gA, gB, gC] at y0
 have T5 := U4.put 9 (tp T)
 simp only [sA, List.set_cons_zero, sC] at T5
 have hT5 : TabAt (u4.setCell ⟨q, 9, none⟩ (tp T)) T M s.m := hT.stay (Below.heap_setCell u4 _ _ T (by show T ≠ q; omega)) (Below.heap_setCell u4 _ _ M (by show M ≠ q; omega))
 clear U4 hT
 go_upto_region 7 with (fail)
 generalize u4.setCell ⟨q, 9, none⟩ (tp T) = x5 at *
 clear y0 f0
 go_wp2_with fail
 refine (HTP.out _ T5.rs).mono ?_
 rintro e u5 ⟨C, H, rfl, hN, hr, hk⟩
 have hTl := hT5.hd.lt
 have hMl := hT5.ltM
 have hql5 := T5.xx.lt
 have hRR := T5.hR
 have hOO := T5.hO
 have hT6 := hT5.stay (hk.block T hTl (by omega)) (hk.block M hMl (by omega))
 have U5 := T5.step hr hk
 have hHlo := hN.own
 clear T5 hr hk HTP hT5
 have y0 := U5.xx.cell 10
 have f0 := U5.xx.free 10
 simp only [gA, gB, gC] at y0
 have T6 := U5.put 10 (tp C)
 simp only [sA, List.set_cons_zero, sC] at T6
 have hT7 : TabAt (u5.setCell ⟨q, 10, none⟩ (tp C)) T M s.m := hT6.stay (Below.heap_setCell u5 _ _ T (by show T ≠ q; omega)) (Below.heap_setCell u5 _ _ M (by show M ≠ q; omega))
 have hk6 : Kp (fun k => k = q) u5 (u5.setCell ⟨q, 10, none⟩ (tp C)) := ⟨rfl, rfl, rfl, by simp [World.setCell], fun k _ hk => Below.heap_setCell u5 _ _ k hk⟩
 have hN7 := hN.kp hk6 (fun k hk => by subst hk; exact hql5)
 clear U5 hT6 hN hk6
 go_upto_region 8 with (fail)
 generalize u5.setCell ⟨q, 10, none⟩ (tp C) = x6 at *
 clear y0 f0
 have hHf : Hf { x6 with heap := #[] } x6 q T M C (.map none) H s := ⟨T6.xx, hT7, hN7.h⟩
 go_wp2_with fail
 refine (agrees_h hO hHf).mono ?_
 rintro e u6 ⟨rfl, hb6⟩
 have T7 := T6.below hb6
 have hT8 := hT7.below hb6
 have hN8 := hN7.kp (O := fun _ => False) ⟨hb6.os, hb6.tape, hb6.output, hb6.size, fun k hk _ => hb6.block k hk⟩ (fun _ h => h.elim)
 clear T6 hT7 hN7 hHf hb6
 go_wp2_with fail
 refine (must_ok _).mono ?_
 rintro e w' ⟨rfl, rfl⟩
 go_wp2_with fail
 refine (HTS.out _ T7.rs).mono ?_
 rintro e u7 ⟨S, D, rfl, hD, hlS, hr, hk⟩
 have hTl2 := hT8.hd.lt
 have hMl2 := hT8.ltM
 have hql7 := T7.xx.lt
 have hHu := fun k hk => ((hN8.held (w0 := { u6 with heap := #[] }) (Policyy.any_below u6 u6 rfl rfl rfl) (by simp)).own k hk).2
 have hT9 := hT8.stay (hk.block T hTl2 (by omega)) (hk.block M hMl2 (by omega))
 have hN9 := hN8.kp hk (fun k hk => by omega)
 have U7 := T7.step hr hk
 clear T7 hr hk HTS hT8 hN8
 have y0 := U7.xx.cell 11
 have f0 := U7.xx.free 11
 simp only [gA, gB, gC] at y0
 have T8 := U7.put 11 (.map (some S))
 simp only [sA, List.set_cons_zero, sC] at T8
 have hT10 : TabAt (u7.setCell ⟨q, 11, none⟩ (.map (some S))) T M s.m := hT9.stay (Below.heap_setCell u7 _ _ T (by show T ≠ q; omega)) (Below.heap_setCell u7 _ _ M (by show M ≠ q; omega))
 have hD10 := hD.stay (w' := u7.setCell ⟨q, 11, none⟩ (.map (some S))) (Below.heap_setCell u7 _ _ S (by show S ≠ q; omega))
 have hk8 : Kp (fun k => k = q) u7 (u7.setCell ⟨q, 11, none⟩ (.map (some S))) := ⟨rfl, rfl, rfl, by simp [World.setCell], fun k _ hk => Below.heap_setCell u7 _ _ k hk⟩
 have hN10 := hN9.kp hk8 (fun k hk => by subst hk; exact hql5)
 have hwq2 := T8.hq
 have hNS := Lib.hid (show NewS w.heap.size q T M C S H s (u7.setCell ⟨q, 11, none⟩ (.map (some S))) from ⟨T8.xx, hT10, hN10.low (by omega), ⟨D, hD10⟩, hwq2, by omega, by omega, by omega, by omega, by omega, by omega, by omega, by omega, fun hh => by have := hHlo _ hh; omega, fun hh => by have := hHlo _ hh; omega, fun hh => by have := hHlo _ hh; omega, fun hh => by have := hHu _ hh; omega⟩)
 have hRS := T8.rs
 have hKP := Lib.hid T8.kp
 clear U7 hT9 hN9 hD hT10 hD10 hk8 hN10 T8 hHu hHlo
 go_wp2_with fail
 go_ret
 exact ⟨q, T, M, C, S, H, rfl, hNS.out, hRS, hKP.out⟩
theorem enters_importS : ∀ (args : Array Value) (w : World), (callFunc 16 args).run Tryz.prog w = .ok (.enter 16 args) w := fun _ _ => by kernel_rfl
set_option maxHeartbeats 4000000 in
set_option maxRecDepth 100000 in
theorem import1_s {P : Nat} (hO : s.Ok) (hP : s.p.Out) (h12 : s.ss.length ≤ 12) (w : World) (h : RS w R O s.all) (hX : Blk w P 26 #[.pointer none]) (hPR : P ≠ R) (hPO : P ≠ O) :
  Calls Tryz.prog 16 #[.pointer (some ⟨R, 0, none⟩), .pointer (some ⟨P, 0, none⟩)] w fun e w' => e = .returned (.tuple #[]) ∧ RS w' R O [] ∧ Kp (fun k => k = R ∨ k = O ∨ k = P) w w' ∧ ∃ b T M C S H, w'.cell? ⟨P, 0, none⟩ = some (tp b) ∧ NewS w.heap.size b T M C S H s w' := by
 have hPl := hX.lt
 have hT := take_s hO hP h12 w h
 clear h
 go_enter Tryz.func16, Tryz.ntmps16
 go_wp2_with fail
 refine hT.mono ?_
 rintro e v ⟨b, T, M, C, S, H, rfl, hN, hR, hK⟩
 have hP2 : Blk v P 26 #[.pointer none] := hK.blk hX (by rintro (e | e); exact hPR e; exact hPO e)
 have c0 : v.cell? ⟨P, 0, none⟩ = some (.pointer none) := hP2.cell 0
 have z0 := hP2.free 0
 have hP3 : (v.setCell ⟨P, 0, none⟩ (tp b)).cell? ⟨P, 0, none⟩ = some (tp b) := (hP2.put 0 (tp b)).cell 0
 have hR3 : RS (v.setCell ⟨P, 0, none⟩ (tp b)) R O [] := ⟨hR.rd.far (by show R ≠ P; exact Ne.symm hPR) _, hR.of.far (by show O ≠ P; exact Ne.symm hPO) _⟩
 have hN3 := Lib.hid (hN.kp (O := fun k => k = P) (y := v.setCell ⟨P, 0, none⟩ (tp b)) ⟨rfl, rfl, rfl, by simp [World.setCell], fun k _ hk => Below.heap_setCell v _ _ k hk⟩ (fun k hk => by subst hk; exact hPl))
 have hK3 : Kp (fun k => k = R ∨ k = O ∨ k = P) w (v.setCell ⟨P, 0, none⟩ (tp b)) :=
  Kp.set (S := fun k => k = R ∨ k = O ∨ k = P) ⟨hK.os, hK.tape, hK.output, hK.size, fun k hk hS => hK.block k hk (fun e => hS (by rcases e with e | e; exact .inl e; exact .inr (.inl e)))⟩ (p := ⟨P, 0, none⟩) (.inr (.inr rfl)) _
 clear hN hT hK hR hP2
 go_wp2_with fail
 go_end0
 exact ⟨rfl, hR3, hK3, b, T, M, C, S, H, hP3, hN3.out⟩
set_option maxHeartbeats 4000000 in
set_option maxRecDepth 100000 in
theorem import_s (hO : s.Ok) (hP : s.p.Out) (h12 : s.ss.length ≤ 12) (w : World) :
  Calls Tryz.prog 5 #[.string (str s.all)] w fun e w' => ∃ b T M C S H, e = .returned (.tuple #[tp b, .int .i64 0]) ∧ At w w' b T M C S H s ∧ Below w.heap.size w w' := by
 have hX := Blk.new w 26 #[.pointer none]
 have hb := (Below.refl w.heap.size w).alloc (Nat.le_refl _) (.cells #[.pointer none] 26)
 have hmf : ∀ (fn : Fn) (first cap : Array Value) (w : World), (Instr.makeFunc fn first cap).run Tryz.prog w = .ok (.func fn first cap) w := fun _ _ _ _ => rfl
 have hsz : (w.alloc (.cells #[.pointer none] 26)).heap.size = w.heap.size + 1 := by simp
 go_enter Tryz.func5, Tryz.ntmps5
 go_wp2_with fail
 generalize w.alloc (.cells #[.pointer none] 26) = w1 at hX hb hsz ⊢
 refine (Wirey.read_ok2 _ enters_importS #[.pointer (some ⟨w.heap.size, 0, none⟩)] s.all [] w1 (fun j => j = w.heap.size)
   (fun w2 => ∃ b T M C S H, w2.cell? ⟨w.heap.size, 0, none⟩ = some (tp b) ∧ NewS (w1.heap.size + 2) b T M C S H s w2)
   (fun j hj => by omega) ?_ ?_).mono ?_
 ·rintro w2 w3 hs ⟨b, T, M, C, S, H, h1, h2⟩ hk
  exact ⟨b, T, M, C, S, H, (World.cell?_of_block (hk.block w.heap.size (by omega) (by omega))).trans h1, h2.kp hk (fun k hk2 => by omega)⟩
 ·intro R O w2 hr hb2 hR hO'
  have hne := hr.ne
  have hRl := hr.rd.lt
  have hOl := hr.of.lt
  refine (import1_s hO hP h12 w2 hr (hX.below hb2 (by omega)) (by omega) (by omega)).mono ?_
  rintro e w3 ⟨rfl, h1, h2, b, T, M, C, S, H, h3, h4⟩
  exact ⟨rfl, h1, h2, b, T, M, C, S, H, h3, h4.low (by omega)⟩
 rintro e w2 ⟨rfl, hk, b, T, M, C, S, H, h1, h2⟩
 have hB : Below w.heap.size w w2 := ⟨hk.os.trans hb.os, hk.tape.trans hb.tape, hk.output.trans hb.output, Nat.le_trans hb.size hk.size, fun k hkl => (hk.block k (by omega) (by omega)).trans (hb.block k hkl)⟩
 rw [Wirey.endE_nil]
 have H2 := Lib.hid (h2.at_ hB (by omega))
 clear h2
 go_wp2_with fail
 go_ret2
 exact ⟨b, T, M, C, S, H, rfl, H2.out, hB⟩
end
end Go.Proofs.YtkiabladmgagdabGreatDoor.Storey
