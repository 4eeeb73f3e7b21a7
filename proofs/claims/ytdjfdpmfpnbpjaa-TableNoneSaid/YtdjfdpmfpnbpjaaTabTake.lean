/- The program's table: Take and Import of a table's own bytes. The only condition: there are not more entries than may be. -/
import Derived.Test.YtdjfdpmfpnbpjaaTabExport
import Derived.Test.YtdjfdpmfpnbpjaaTabMove
import Derived.Test.YtdjfdpmfpnbpjaaOpTk
namespace Go.Proofs.Ytdjfdpmfpnbpjaa.Taby
open Go.ChangeShapes Go.WideShapes Go.ChangeAt Go.RowKit Go.ChangeMaps Go.Maps
open Wirey (Blk Row str str_size str_list str_cat str_inj Kp RS enc enc_len txt must_ok left_c)
open Opy (Tk num_off text_off)
set_option maxHeartbeats 4000000 in
set_option maxRecDepth 100000 in
theorem takeEntry_c {x : En} (hx : x.Ok) {R O : Nat} (rest : List UInt8) (hr : rest.length ≤ 9000000) (w : World) (h : RS w R O (oneB x ++ rest)) :
    Calls Try.prog 50 #[.pointer (some ⟨R, 0, none⟩)] w fun e w' => e = .returned (.agg x.cs) ∧ RS w' R O rest ∧ Kp (fun k => k = R ∨ k = O) w w' := by
  have a3 := hx.ver
  have a4 := hx.fin
  have a1 := hx.key
  have a2 := hx.val
  have l1 := enc_len (n := x.key.length) (by omega)
  have l2 := enc_len (n := x.val.length) (by omega)
  have l3 := enc_len a3
  have l4 := enc_len a4
  have m1 : (txt x.key).length ≤ 100 := by unfold txt; rw [List.length_append]; omega
  have m2 : (txt x.val).length ≤ 5000 := by unfold txt; rw [List.length_append]; omega
  have hs : oneB x ++ rest = txt x.key ++ (txt x.val ++ (enc x.ver ++ (enc x.fin ++ rest))) := by unfold oneB; simp only [List.append_assoc]
  rw [hs] at h
  clear hs l1 l2
  have hz := Blk.new w 32 #[.string ⟨#[]⟩, .string ⟨#[]⟩, .int .u64 0, .int .u64 0]
  have hb0 := (Below.refl _ w).alloc (Nat.le_refl _) (.cells #[.string ⟨#[]⟩, .string ⟨#[]⟩, .int .u64 0, .int .u64 0] 32)
  have h1 := h.below hb0
  have hRw := h.rd.lt
  have hOw := h.of.lt
  clear h
  go_enter Try.func50, Try.ntmps50
  go_upto_region 1 with (fail)
  generalize w.alloc (.cells #[.string ⟨#[]⟩, .string ⟨#[]⟩, .int .u64 0, .int .u64 0] 32) = w1 at *
  have hlt := hz.lt
  have T0 : Tk 32 w (w1.alloc (.cells #[.string ⟨#[]⟩, .string ⟨#[]⟩, .int .u64 0, .int .u64 0] 32)) w.heap.size w1.heap.size R O #[.string ⟨#[]⟩, .string ⟨#[]⟩, .int .u64 0, .int .u64 0] #[.string ⟨#[]⟩, .string ⟨#[]⟩, .int .u64 0, .int .u64 0] _ :=
    ⟨hz.alloc _, Blk.new w1 32 #[.string ⟨#[]⟩, .string ⟨#[]⟩, .int .u64 0, .int .u64 0], h1.below ((Below.refl _ _).alloc (Nat.le_refl _) _), (Kp.of_below hb0).alloc _, Nat.le_refl _, hb0.size, Nat.ne_of_lt hlt, hRw, hOw⟩
  go_upto_region 2 with (fail)
  generalize w1.alloc (.cells #[.string ⟨#[]⟩, .string ⟨#[]⟩, .int .u64 0, .int .u64 0] 32) = w9 at *
  generalize w1.heap.size = p at *
  generalize hgg : w.heap.size = g at *
  clear hgg hz hb0 h1 hRw hOw hlt
  go_wp2_with fail
  refine (T0.text (s := x.key) 64 hx.key (by omega) (by simp only [List.length_append]; omega)).mono ?_
  rintro e u0 ⟨rfl, U0⟩
  have y0 := U0.xx.cell 0
  have f0 := U0.xx.free 0
  simp only [List.getElem?_toArray, List.getElem?_cons_zero] at y0
  have T1 := U0.put 0 (.string (str x.key))
  simp only [List.setIfInBounds_toArray, List.set_cons_zero] at T1
  clear U0 T0
  go_upto_region 3 with (fail)
  generalize u0.setCell ⟨p, 0, none⟩ (.string (str x.key)) = w2 at *
  clear y0 f0
  go_wp2_with fail
  refine (T1.text (s := x.val) 4096 hx.val (by omega) (by simp only [List.length_append]; omega)).mono ?_
  rintro e u1 ⟨rfl, U1⟩
  have y1 := U1.xx.cell 1
  have f1 := U1.xx.free 1
  simp only [List.getElem?_toArray, List.getElem?_cons_zero, List.getElem?_cons_succ] at y1
  have T2 := U1.put 1 (.string (str x.val))
  simp only [List.setIfInBounds_toArray, List.set_cons_zero, List.set_cons_succ] at T2
  clear U1 T1
  go_upto_region 4 with (fail)
  generalize u1.setCell ⟨p, 1, none⟩ (.string (str x.val)) = w3 at *
  clear y1 f1
  go_wp2_with fail
  refine (T2.num (n := x.ver) 18446744073709551615 (by omega) (by omega) (by simp only [List.length_append]; omega)).mono ?_
  rintro e u2 ⟨rfl, U2⟩
  have y2 := U2.xx.cell 2
  have f2 := U2.xx.free 2
  simp only [List.getElem?_toArray, List.getElem?_cons_zero, List.getElem?_cons_succ] at y2
  have T3 := U2.put 2 (.int .u64 (x.ver : Int))
  simp only [List.setIfInBounds_toArray, List.set_cons_zero, List.set_cons_succ] at T3
  clear U2 T2
  go_upto_region 5 with (fail)
  generalize u2.setCell ⟨p, 2, none⟩ (.int .u64 (x.ver : Int)) = w4 at *
  clear y2 f2
  go_wp2_with fail
  refine (T3.num (n := x.fin) 18446744073709551615 (by omega) (by omega) (by omega)).mono ?_
  rintro e u3 ⟨rfl, U3⟩
  have y3 := U3.xx.cell 3
  have f3 := U3.xx.free 3
  simp only [List.getElem?_toArray, List.getElem?_cons_zero, List.getElem?_cons_succ] at y3
  have T4 := U3.put 3 (.int .u64 (x.fin : Int))
  simp only [List.setIfInBounds_toArray, List.set_cons_zero, List.set_cons_succ] at T4
  clear U3 T3
  go_upto_region 6 with (fail)
  generalize u3.setCell ⟨p, 3, none⟩ (.int .u64 (x.fin : Int)) = w5 at *
  clear y3 f3
  have x0 := T4.xx.cell 0
  have x1 := T4.xx.cell 1
  have x2 := T4.xx.cell 2
  have x3 := T4.xx.cell 3
  have y0 := T4.zz.cell 0
  have y1 := T4.zz.cell 1
  have y2 := T4.zz.cell 2
  have y3 := T4.zz.cell 3
  simp only [List.getElem?_toArray, List.getElem?_cons_zero, List.getElem?_cons_succ] at x0 x1 x2 x3 y0 y1 y2 y3
  have z0 := T4.zz.free 0
  have z1 := T4.zz.free 1
  have z2 := T4.zz.free 2
  have z3 := T4.zz.free 3
  have TZ := ((((T4.putz 0 (.string (str x.key))).putz 1 (.string (str x.val))).putz 2 (.int .u64 (x.ver : Int))).putz 3 (.int .u64 (x.fin : Int)))
  simp only [List.setIfInBounds_toArray, List.set_cons_zero, List.set_cons_succ] at TZ
  go_wp2_with fail
  refine bodyPost_ret (results_cell_row rfl _ _ g 32 #[.string (str x.key), .string (str x.val), .int .u64 (x.ver : Int), .int .u64 (x.fin : Int)] (0, 0) _ rfl TZ.zz Try.underlying32 rfl (by kernel_rfl)) rfl ⟨rfl, TZ.rs, TZ.kp⟩
/-- The last one's key. -/
def lastOf (l : List En) : List UInt8 := match l.getLast? with
  | some x => x.key
  | none => []
theorem ins_snoc {x : En} : ∀ {l : List En}, Rise (l ++ [x]) → ins x l = l ++ [x]
  | [], _ => rfl
  | y :: l, h => by
    obtain ⟨h1, h2⟩ := List.pairwise_cons.1 h
    rw [ins, if_pos (h1 x (by simp)), ins_snoc h2]
    rfl
theorem take_rise {l : List En} {j : Nat} {x : En} (hr : Rise l) (hx : l[j]? = some x) : ins x (l.take j) = l.take (j + 1) := by
  have e : l.take (j + 1) = l.take j ++ [x] := by rw [List.take_add_one, hx]; rfl
  rw [e]
  exact ins_snoc (e ▸ hr.sublist (List.take_sublist _ _))
theorem last_less {l : List En} {j : Nat} {x : En} (hr : Rise l) (hx : l[j]? = some x) (hj : 0 < j) : less (lastOf (l.take j)) x.key = true := by
  obtain ⟨i, rfl⟩ : ∃ i, j = i + 1 := ⟨j - 1, by omega⟩
  have hi : i < l.length := by have := (List.getElem?_eq_some_iff.1 hx).1; omega
  have e : l.take (i + 1) = l.take i ++ [l[i]] := by rw [List.take_add_one, List.getElem?_eq_getElem hi]; rfl
  have e2 : lastOf (l.take (i + 1)) = (l[i]).key := by rw [e]; unfold lastOf; rw [List.getLast?_concat]
  rw [e2]
  obtain ⟨h1, h2⟩ := List.getElem?_eq_some_iff.1 hx
  rw [← h2]
  exact List.pairwise_iff_getElem.1 hr i (i + 1) hi h1 (by omega)
theorem bodyB_drop {l : List En} {j : Nat} {x : En} (h : l[j]? = some x) : bodyB (l.drop j) = oneB x ++ bodyB (l.drop (j + 1)) := by
  obtain ⟨h1, h2⟩ := List.getElem?_eq_some_iff.1 h
  rw [List.drop_eq_getElem_cons h1, bodyB, h2]
theorem last_take {l : List En} {j : Nat} {x : En} (hx : l[j]? = some x) : lastOf (l.take (j + 1)) = x.key := by
  have e : l.take (j + 1) = l.take j ++ [x] := by rw [List.take_add_one, hx]; rfl
  rw [e]; unfold lastOf; rw [List.getLast?_concat]
/-- While entries are taken. -/
structure Tn (w : World) (R O : Nat) (b M : Nat) (m : List En) (l : List UInt8) (W : World) : Prop where
  tab : TabAt W b M m
  rs : RS W R O l
  kp : Kp (fun k => k = R ∨ k = O) w W
  hb : w.heap.size ≤ b
  hM : w.heap.size ≤ M
  hR : R < w.heap.size
  hO : O < w.heap.size
section
variable {w W W' : World} {R O b M : Nat} {m m' : List En} {l l' : List UInt8}
theorem Tn.read (h : Tn w R O b M m l W) (hr : RS W' R O l') (hk : Kp (fun k => k = R ∨ k = O) W W') : Tn w R O b M m l' W' := by
  have h1 := h.hb; have h2 := h.hM; have h3 := h.hR; have h4 := h.hO
  exact ⟨h.tab.stay (hk.block b h.tab.hd.lt (by omega)) (hk.block M h.tab.ltM (by omega)), hr, h.kp.trans hk, h1, h2, h3, h4⟩
theorem Tn.below (h : Tn w R O b M m l W) (hb : Below W.heap.size W W') : Tn w R O b M m l W' := h.read (h.rs.below hb) (Kp.of_below hb)
theorem Tn.put (h : Tn w R O b M m l W) (ht : TabAt W' b M m') (hk : Kp (Tbl b M) W W') : Tn w R O b M m' l W' := by
  have h1 := h.hb; have h2 := h.hM; have h3 := h.hR; have h4 := h.hO
  exact ⟨ht, ⟨hk.blk h.rs.rd (by show ¬ (R = b ∨ R = M); omega), hk.blk h.rs.of (by show ¬ (O = b ∨ O = M); omega)⟩, ⟨hk.os.trans h.kp.os, hk.tape.trans h.kp.tape, hk.output.trans h.kp.output, Nat.le_trans h.kp.size hk.size, fun k hk1 hk2 => (hk.block k (Nat.lt_of_lt_of_le hk1 h.kp.size) (by show ¬ (k = b ∨ k = M); omega)).trans (h.kp.block k hk1 hk2)⟩, h1, h2, h3, h4⟩
end
section
variable {m : List En}
set_option maxHeartbeats 4000000 in
set_option maxRecDepth 100000 in
theorem takeT_c (hl : m.length ≤ 1000) (hrise : Rise m) (hok : ∀ x ∈ m, x.Ok) {R O : Nat} (rest : List UInt8) (hr : rest.length ≤ 1000000) (w : World) (h : RS w R O (allB m ++ rest)) :
    Calls Try.prog 36 #[.pointer (some ⟨R, 0, none⟩)] w fun e w' => ∃ b M, e = .returned (tp b) ∧ TabAt w' b M m ∧ w.heap.size ≤ b ∧ w.heap.size ≤ M ∧ RS w' R O rest ∧ Kp (fun k => k = R ∨ k = O) w w' := by
  have hbl := body_len hok
  have hen := enc_len (n := m.length) (by omega)
  have ha : allB m ++ rest = enc m.length ++ (bodyB m ++ rest) := by unfold allB; rw [List.append_assoc]
  have hlen : 0 < (allB m ++ rest).length := by rw [ha]; simp only [List.length_append]; omega
  have hleft := left_c w h
  have e0 : decide (((allB m ++ rest).length : Int) = 0) = false := decide_eq_false (by omega)
  rw [ha] at h
  generalize (allB m ++ rest).length = L at *
  have hRw := h.rd.lt
  have hOw := h.of.lt
  have htl := Wirey.toList_str
  go_enter Try.func36, Try.ntmps36
  go_wp2_with fail
  refine hleft.mono ?_
  rintro e w1 ⟨rfl, rfl⟩
  go_wp2_with fail
  refine (num_off (n := m.length) 1000 hl (by omega) (by simp only [List.length_append]; omega) w h).mono ?_
  rintro e w2 ⟨rfl, hr2, hk2⟩
  clear h hleft
  go_wp2_with fail
  refine (new_c w2).mono ?_
  rintro e w3 ⟨P, b, rfl, ⟨M, hT3, -, hb3, hM3⟩, hb2⟩
  have hws := hk2.size
  have hN : Tn w R O b M (m.take 0) (bodyB (m.drop 0) ++ rest) w3 := ⟨by rw [List.take_zero]; exact hT3, by rw [List.drop_zero]; exact hr2.below hb2, hk2.trans (Kp.of_below hb2), Nat.le_trans hws hb3, Nat.le_trans hws hM3, hRw, hOw⟩
  clear hT3 hb3 hM3 hb2 hr2 hk2
  go_wp2_with fail
  go_loopw [6, 17] (fun last i wr => ∃ j : Nat, j ≤ m.length ∧ i = .int .u64 j ∧ last = .string (str (lastOf (m.take j))) ∧ Tn w R O b M (m.take j) (bodyB (m.drop j) ++ rest) wr) (fun _ i _ => m.length - (intOf i).toNat)
  case atStart => exact ⟨0, by omega, rfl, rfl, hN⟩
  case round =>
    clear hN
    obtain ⟨j, hj, rfl, rfl, hN⟩ := hrel
    by_cases h3 : j < m.length
    · obtain ⟨x, hx⟩ : ∃ x, m[j]? = some x := ⟨_, List.getElem?_eq_getElem h3⟩
      have hxm := List.mem_of_getElem? hx
      have hxo := hok x hxm
      have hlt : (j : Int) < (m.length : Int) := by omega
      have htr := take_rise hrise hx
      have hbd := bodyB_drop hx
      have hbl2 := body_len (l := m.drop (j + 1)) fun y hy => hok y (List.mem_of_mem_drop hy)
      rw [List.length_drop] at hbl2
      rw [hbd, List.append_assoc] at hN
      have htake := takeEntry_c hxo (bodyB (m.drop (j + 1)) ++ rest) (by simp only [List.length_append]; omega) wr hN.rs
      have hll : 0 < j → less (lastOf (m.take j)) x.key = true := fun h0 => last_less hrise hx h0
      have htlen : (m.take j).length ≤ 100000 := by rw [List.length_take]; omega
      clear hbd hbl2
      generalize lastOf (m.take j) = lst at *
      go_wp2_with fail
      refine htake.mono ?_
      rintro e w4 ⟨rfl, hr4, hk4⟩
      have hbX := (hN.read hr4 hk4).tab.hd.lt
      have hMX := (hN.read hr4 hk4).tab.ltM
      have hlast := last_take hx
      have hN4 := (hN.read hr4 hk4).below ((Below.refl _ w4).alloc (Nat.le_refl _) (.cells #[.string (str x.key), .string (str x.val), .int .u64 (x.ver : Int), .int .u64 (x.fin : Int)] 32))
      have hX := Blk.new w4 32 #[.string (str x.key), .string (str x.val), .int .u64 (x.ver : Int), .int .u64 (x.fin : Int)]
      clear hN hr4 hk4 htake
      go_upto_region 11 with (fail)
      generalize w4.alloc (.cells #[.string (str x.key), .string (str x.val), .int .u64 (x.ver : Int), .int .u64 (x.fin : Int)] 32) = w5 at *
      generalize w4.heap.size = X at *
      have x0 := hX.cell 0
      have x1 := hX.cell 1
      have x2 := hX.cell 2
      have x3 := hX.cell 3
      simp only [List.getElem?_toArray, List.getElem?_cons_zero, List.getElem?_cons_succ] at x0 x1 x2 x3
      by_cases hj0 : j = 0
      · have d0 : decide ((j : Int) = 0) = true := decide_eq_true (by omega)
        go_wp2_with fail
        refine (must_ok w5).mono ?_
        rintro e v8 ⟨rfl, rfl⟩
        go_wp2_with fail
        refine (put_t hxo htlen w5 hN4.tab).mono ?_
        rintro e w6 ⟨rfl, hT6, hk6⟩
        have hN6 := hN4.put hT6 hk6
        rw [htr] at hN6
        have hX6 := (hk6.blk hX (by show ¬ (X = b ∨ X = M); omega)).cell 0
        simp only [List.getElem?_toArray, List.getElem?_cons_zero] at hX6
        clear hN4 hX x0 x1 x2 x3 hT6 hk6
        have HN := Lib.hid hN6
        have HL := Lib.hid hlast
        clear hN6 hlast hll
        go_wp2_with fail
        go_roundw
        case rel => exact ⟨j + 1, by omega, by first | rfl | (simp; done) | (simp; omega), by rw [HL.out], HN.out⟩
        case measure => simp [intOf]; omega
      · have d0 : decide ((j : Int) = 0) = false := decide_eq_false (by omega)
        have hls := hll (by omega)
        have g1 : Op.bytesLess x.key lst = false := less_no hls
        have g2 : (x.key == lst) = false := by simpa using (less_ne hls).symm
        go_wp2_with fail
        refine (must_ok w5).mono ?_
        rintro e v8 ⟨rfl, rfl⟩
        go_wp2_with fail
        refine (put_t hxo htlen w5 hN4.tab).mono ?_
        rintro e w6 ⟨rfl, hT6, hk6⟩
        have hN6 := hN4.put hT6 hk6
        rw [htr] at hN6
        have hX6 := (hk6.blk hX (by show ¬ (X = b ∨ X = M); omega)).cell 0
        simp only [List.getElem?_toArray, List.getElem?_cons_zero] at hX6
        clear hN4 hX x0 x1 x2 x3 hT6 hk6
        have HN := Lib.hid hN6
        have HL := Lib.hid hlast
        clear hN6 hlast hll
        go_wp2_with fail
        go_roundw
        case rel => exact ⟨j + 1, by omega, by first | rfl | (simp; done) | (simp; omega), by rw [HL.out], HN.out⟩
        case measure => simp [intOf]; omega
    · obtain rfl : j = m.length := by omega
      rw [List.take_length, List.drop_length] at hN
      have HN := Lib.hid hN
      clear hN
      go_wp2_with fail
      (try simp only [Exit.inBlock, Exit.then])
      go_ret
      exact ⟨b, M, rfl, HN.out.tab, HN.out.hb, HN.out.hM, by simpa [bodyB] using HN.out.rs, HN.out.kp⟩
end
section
variable {m : List En}
theorem enters_import : ∀ (args : Array Value) (w : World), (callFunc 35 args).run Try.prog w = .ok (.enter 35 args) w := fun _ _ => by kernel_rfl
set_option maxHeartbeats 4000000 in
theorem import1_c (hl : m.length ≤ 1000) (hrise : Rise m) (hok : ∀ x ∈ m, x.Ok) {R O P : Nat} (w : World) (h : RS w R O (allB m)) (hP : Blk w P 27 #[.pointer none]) (hPR : P ≠ R) (hPO : P ≠ O) :
    Calls Try.prog 35 #[.pointer (some ⟨R, 0, none⟩), .pointer (some ⟨P, 0, none⟩)] w fun e w' => e = .returned (.tuple #[]) ∧ RS w' R O [] ∧ Kp (fun k => k = R ∨ k = O ∨ k = P) w w' ∧ ∃ b M, w'.cell? ⟨P, 0, none⟩ = some (tp b) ∧ TabAt w' b M m ∧ w.heap.size ≤ b ∧ w.heap.size ≤ M := by
  have hPl := hP.lt
  rw [← List.append_nil (allB m)] at h
  go_enter Try.func35, Try.ntmps35
  go_wp2_with fail
  refine (takeT_c hl hrise hok [] (by simp) w h).mono ?_
  rintro e v ⟨b, M, rfl, hT, hb, hM, hR, hK⟩
  have hP2 : Blk v P 27 #[.pointer none] := hK.blk hP (by rintro (e | e); exact hPR e; exact hPO e)
  have c0 := hP2.cell 0
  have z0 := hP2.free 0
  have hP3 := (hP2.put 0 (tp b)).cell 0
  have hR3 : RS (v.setCell ⟨P, 0, none⟩ (tp b)) R O [] := ⟨hR.rd.far (by show R ≠ P; exact Ne.symm hPR) _, hR.of.far (by show O ≠ P; exact Ne.symm hPO) _⟩
  have hT3 : TabAt (v.setCell ⟨P, 0, none⟩ (tp b)) b M m := hT.stay (Below.heap_setCell _ _ _ _ (by show b ≠ P; omega)) (Below.heap_setCell _ _ _ _ (by show M ≠ P; omega))
  have hK3 : Kp (fun k => k = R ∨ k = O ∨ k = P) w (v.setCell ⟨P, 0, none⟩ (tp b)) :=
    Kp.set (S := fun k => k = R ∨ k = O ∨ k = P) ⟨hK.os, hK.tape, hK.output, hK.size, fun k hk hS => hK.block k hk (fun e => hS (by rcases e with e | e; exact .inl e; exact .inr (.inl e)))⟩ (p := ⟨P, 0, none⟩) (.inr (.inr rfl)) _
  have HT := Lib.hid hT3
  clear hT hT3
  go_wp2_with fail
  go_end0
  exact ⟨rfl, hR3, hK3, b, M, hP3, HT.out, hb, hM⟩
set_option maxHeartbeats 4000000 in
theorem import_t (hl : m.length ≤ 1000) (hrise : Rise m) (hok : ∀ x ∈ m, x.Ok) (w : World) :
    Calls Try.prog 17 #[.string (str (allB m))] w fun e w' => ∃ b M, e = .returned (.tuple #[tp b, .int .i64 0]) ∧ TabAt w' b M m ∧ w.heap.size ≤ b ∧ w.heap.size ≤ M ∧ Below w.heap.size w w' := by
  have hP := Blk.new w 27 #[.pointer none]
  have hb := (Below.refl w.heap.size w).alloc (Nat.le_refl _) (.cells #[.pointer none] 27)
  have hmf : ∀ (fn : Fn) (first cap : Array Value) (w : World), (Instr.makeFunc fn first cap).run Try.prog w = .ok (.func fn first cap) w := fun _ _ _ _ => rfl
  have hsz : (w.alloc (.cells #[.pointer none] 27)).heap.size = w.heap.size + 1 := by simp
  go_enter Try.func17, Try.ntmps17
  go_wp2_with fail
  generalize w.alloc (.cells #[.pointer none] 27) = w1 at hP hb hsz ⊢
  refine (Wirey.read_ok2 _ enters_import #[.pointer (some ⟨w.heap.size, 0, none⟩)] (allB m) [] w1 (fun j => j = w.heap.size)
    (fun w2 => ∃ b M, w2.cell? ⟨w.heap.size, 0, none⟩ = some (tp b) ∧ TabAt w2 b M m ∧ w1.heap.size + 2 ≤ b ∧ w1.heap.size + 2 ≤ M)
    (fun j hj => by omega) ?_ ?_).mono ?_
  · rintro w2 w3 hs ⟨b, M, h1, h2, h3, h4⟩ hk
    exact ⟨b, M, (World.cell?_of_block (hk.block w.heap.size (by omega) (by omega))).trans h1, h2.stay (hk.block b h2.hd.lt (by omega)) (hk.block M h2.ltM (by omega)), h3, h4⟩
  · intro R O w2 hr hb2 hR hO
    have hne := hr.ne
    have hRl := hr.rd.lt
    have hOl := hr.of.lt
    refine (import1_c hl hrise hok w2 hr (hP.below hb2 (by omega)) (by omega) (by omega)).mono ?_
    rintro e w3 ⟨rfl, h1, h2, b, M, h3, h4, h5, h6⟩
    exact ⟨rfl, h1, h2, b, M, h3, h4, by omega, by omega⟩
  rintro e w2 ⟨rfl, hk, b, M, h1, h2, h3, h4⟩
  have hB : Below w.heap.size w w2 := ⟨hk.os.trans hb.os, hk.tape.trans hb.tape, hk.output.trans hb.output, Nat.le_trans hb.size hk.size, fun k hkl => (hk.block k (by omega) (by omega)).trans (hb.block k hkl)⟩
  rw [Wirey.endE_nil]
  have H2 := Lib.hid h2
  clear h2
  go_wp2_with fail
  go_ret2
  exact ⟨b, M, rfl, H2.out, by omega, by omega, hB⟩
theorem import_c {w : World} (hl : m.length ≤ 1000) (hr : Rise m) (hok : ∀ x ∈ m, x.Ok) : Calls Try.prog 17 #[.string (str (allB m))] w fun e w' => ∃ P' b', e = .returned (.tuple #[tp b', .int .i64 0]) ∧ HeldT w w' P' b' m ∧ Below w.heap.size w w' := by
  refine (import_t hl hr hok w).mono ?_
  rintro e w' ⟨b, M, rfl, hT, h1, h2, hB⟩
  exact ⟨_, b, rfl, ⟨M, hT, fun k => Iff.rfl, h1, h2⟩, hB⟩
end
end Go.Proofs.Ytdjfdpmfpnbpjaa.Taby
