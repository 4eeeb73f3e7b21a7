/- The program's table: Export. The only condition: there are not too many entries. -/
import Derived.Test.YtdjfdpmfpnbpjaaTabKeys
import Derived.Test.YtdjfdpmfpnbpjaaTabBytes
import Derived.Test.YtdjfdpmfpnbpjaaBuildKept
namespace Go.Proofs.Ytdjfdpmfpnbpjaa.Taby
open Go.ChangeShapes Go.WideShapes Go.ChangeAt Go.RowKit Go.ChangeMaps Go.Maps
open Wirey (Blk Row str str_size str_list str_cat str_inj Kp Bld Kb bws_y bstr_y enc enc_len txt num_c text_c)
/-- While bytes are written: the builder in block q, the keys behind it. -/
structure Ex (w : World) (q B : Nat) (v : Value) (ks : List (List UInt8)) (l : List UInt8) (W : World) : Prop where
  bld : Bld W q l
  st : St W B v ks
  lo : q < B
  bel : Below q w W
section
variable {w W W' : World} {q B X : Nat} {v : Value} {ks : List (List UInt8)} {l l' : List UInt8} {cs : Array Value}
theorem Ex.below (h : Ex w q B v ks l W) (hb : Below W.heap.size W W') : Ex w q B v ks l W' :=
  ⟨h.bld.grown hb, h.st.below hb, h.lo, h.bel.trans (hb.mono (Nat.le_of_lt h.bld.lt))⟩
theorem Ex.kb (h : Ex w q B v ks l W) (hB : Bld W' q l') (hk : Kb q W W') : Ex w q B v ks l' W' := by
  refine ⟨hB, h.st.stay fun g hg => ?_, h.lo, h.bel.trans hk.below⟩
  have h1 := (h.st.lt g hg).1
  have h2 := h.lo
  obtain ⟨c, fz, hc⟩ := Wirey.own_kind h.st g hg
  exact (hk.oth g _ hc (fun e => by have := Option.some.inj e; omega) (fun c fz e => by injection e with _ e2; exact absurd e2 (by decide))).trans hc.symm
theorem blk_kb (h : Blk W X 32 cs) (hX : q < X) (hk : Kb q W W') : Blk W' X 32 cs :=
  hk.oth X _ h (fun e => by have := Option.some.inj e; omega) (fun c fz e => by injection e with _ e2; exact absurd e2 (by decide))
end
section
variable {w0 w : World} {P : Nat → Prop} {b M : Nat} {m : List En}
theorem body_len : ∀ {l : List En}, (∀ x ∈ l, x.Ok) → (bodyB l).length ≤ l.length * 4300
  | [], _ => Nat.zero_le _
  | x :: l, h => by
    have h1 := h x List.mem_cons_self
    have ih := body_len fun y hy => h y (List.mem_cons_of_mem _ hy)
    have a1 := h1.key
    have a2 := h1.val
    have l1 := enc_len (n := x.key.length) (by omega)
    have l2 := enc_len (n := x.val.length) (by omega)
    have l3 := enc_len h1.ver
    have l4 := enc_len h1.fin
    rw [bodyB, List.length_append, List.length_cons]
    unfold oneB txt
    simp only [List.length_append]
    omega
theorem len_t (w : World) (h : TabAt w b M m) : Calls Try.prog 25 #[tp b] w fun e w' => e = .returned (.int .i64 (m.length : Int)) ∧ Below w.heap.size w w' := by
  have c0 : w.cell? ⟨b, 0, none⟩ = some (.map (some M)) := h.hd.cell 0
  obtain ⟨D, hD⟩ := h.mp
  have hlen := hD.len
  clear hD h
  go_enter Try.func25, Try.ntmps25
  go_wp2_with fail
  go_ret
  exact ⟨rfl, Below.refl _ w⟩
set_option maxHeartbeats 4000000 in
set_option maxRecDepth 100000 in
theorem export_t (hl : m.length ≤ 100000) (w : World) (h : TabAt w b M m) : Calls Try.prog 18 #[tp b] w fun e w' => e = .returned (.string (str (allB m))) ∧ Below w.heap.size w w' := by
  have hrise := h.rise
  have hok := h.ok
  have hbl := body_len hok
  have hen := enc_len (n := m.length) (by omega)
  have hb0 := (Below.refl _ w).alloc (Nat.le_refl _) (.cells #[.pointer none, .slice none 0 0] 68)
  have hB0 := Bld.new w
  have hT0 := h.below hb0
  have hbq := h.hd.lt
  have hMq := h.ltM
  go_enter Try.func18, Try.ntmps18
  go_upto_region 4 with (fail)
  generalize w.alloc (.cells #[.pointer none, .slice none 0 0] 68) = w1 at *
  have HB0 := Lib.hid hb0
  have hbl1 : w.heap.size < w1.heap.size := hB0.lt
  clear hb0
  generalize hq : w.heap.size = q at *
  have HQ := Lib.hid hq
  clear hq
  go_wp2_with fail
  refine (len_t w1 hT0).mono ?_
  rintro e w2 ⟨rfl, hb2⟩
  have hb2q := HB0.out.trans (hb2.mono (Nat.le_of_lt hbl1))
  have hs2 := hb2.size
  go_wp2_with fail
  refine (num_c m.length (by omega) w2).mono ?_
  rintro e w3 ⟨rfl, hb3⟩
  have hb3q := hb2q.trans (hb3.mono (by omega))
  have hs3 := hb3.size
  have hB3 := (hB0.grown hb2).grown hb3
  go_wp2_with fail
  refine (bws_y q [] (enc m.length) w3 hB3 (by simp only [List.length_nil]; omega)).mono ?_
  rintro e w4 ⟨rfl, hB4, hk4⟩
  rw [List.nil_append] at hB4
  have hb4q := hb3q.trans hk4.below
  have hs4 := hk4.below.size
  have hT4 : TabAt w4 b M m := h.stay (hb4q.block b hbq) (hb4q.block M hMq)
  have hq4 : q < w4.heap.size := hB4.lt
  clear hB0 hB3 hT0 hb2 hb3 hk4 hb2q hb3q hs2 hs3 hs4 hbl1 HB0
  go_wp2_with fail
  refine (keys_t hl w4 hT4).mono ?_
  rintro e w5 ⟨vk, rfl, hS5, hb5⟩
  have hX5 : Ex w q w4.heap.size vk (keysOf m) (enc m.length ++ bodyB (m.take 0)) w5 := ⟨by rw [List.take_zero]; simpa [bodyB] using hB4.grown hb5, hS5, hq4, hb4q.trans (hb5.mono (Nat.le_of_lt hq4))⟩
  clear hS5 hB4 hb4q hT4 hb5
  generalize w4.heap.size = B at *
  obtain ⟨oa, oc, rfl⟩ := hX5.st.form
  rw [keysOf_len] at hX5 ⊢
  have hnn : m.length < 9223372036854775808 := by omega
  go_wp2_with fail
  go_loopw [17] (fun i wr => ∃ j : Nat, j ≤ m.length ∧ i = .int .i64 j ∧ Ex w q B (.slice oa m.length oc) (keysOf m) (enc m.length ++ bodyB (m.take j)) wr) (fun i _ => m.length - (intOf i).toNat)
  case atStart => exact ⟨0, by omega, rfl, hX5⟩
  case round =>
    clear hX5
    obtain ⟨j, hj, rfl, hE⟩ := hrel
    have hblj := body_len (l := m.take j) fun y hy => hok y (List.mem_of_mem_take hy)
    rw [List.length_take] at hblj
    by_cases h3 : j < m.length
    · obtain ⟨x, hx⟩ : ∃ x, m[j]? = some x := ⟨_, List.getElem?_eq_getElem h3⟩
      have hxm := List.mem_of_getElem? hx
      have hxo := hok x hxm
      have a1 := hxo.key
      have a2 := hxo.val
      have a3 := hxo.ver
      have a4 := hxo.fin
      have l1 := enc_len (n := x.key.length) (by omega)
      have l2 := enc_len (n := x.val.length) (by omega)
      have l3 := enc_len a3
      have l4 := enc_len a4
      have m1 : (txt x.key).length ≤ 100 := by unfold txt; rw [List.length_append]; omega
      have m2 : (txt x.val).length ≤ 5000 := by unfold txt; rw [List.length_append]; omega
      have hkx : (keysOf m)[j]? = some x.key := by unfold keysOf; rw [List.getElem?_map, hx]; rfl
      have hst := hE.st
      rw [← keysOf_len m] at hst
      obtain ⟨g, rfl, hBg, hg, hcell⟩ := hst.at_ hkx
      have c0 := hcell wr rfl
      clear hcell hst
      have hlt : (j : Int) < (m.length : Int) := by omega
      have hTr : TabAt wr b M m := h.stay (hE.bel.block b hbq) (hE.bel.block M hMq)
      have c1 : wr.cell? ⟨b, 0, none⟩ = some (.map (some M)) := hTr.hd.cell 0
      obtain ⟨D, hD⟩ := hTr.mp
      have hlook := hD.look (k := x.key) (by unfold maxLen; omega) false
      rw [find_of_mem hrise hxm] at hlook
      simp only [Bool.false_eq_true, if_false, Option.getD_some] at hlook
      have hX1 := Blk.new wr 32 #[.string (str x.key), .string (str x.val), .int .u64 (x.ver : Int), .int .u64 (x.fin : Int)]
      have hE1 := hE.below ((Below.refl _ wr).alloc (Nat.le_refl _) (.cells #[.string (str x.key), .string (str x.val), .int .u64 (x.ver : Int), .int .u64 (x.fin : Int)] 32))
      have hqX : q < wr.heap.size := hE.bld.lt
      clear hD hTr hE
      go_upto_region 9 with (fail)
      generalize wr.alloc (.cells #[.string (str x.key), .string (str x.val), .int .u64 (x.ver : Int), .int .u64 (x.fin : Int)] 32) = v1 at *
      generalize wr.heap.size = X at *
      clear hlook c0 c1 hBg hg
      have x0 := hX1.cell 0
      simp only [List.getElem?_toArray, List.getElem?_cons_zero] at x0
      go_wp2_with fail
      refine (text_c x.key (by omega) v1).mono ?_
      rintro e u1 ⟨rfl, hb1⟩
      have hE1b := hE1.below hb1
      have hX1b := hX1.below hb1 hX1.lt
      go_wp2_with fail
      refine (bws_y q (enc m.length ++ bodyB (m.take j)) (txt x.key) u1 hE1b.bld (by simp only [List.length_append]; omega)).mono ?_
      rintro e v2 ⟨rfl, hB2, hk2⟩
      have hE2 := hE1b.kb hB2 hk2
      have hX2 := blk_kb hX1b hqX hk2
      clear x0 hb1 hE1b hX1b hB2 hk2 hE1 hX1
      have x1 := hX2.cell 1
      simp only [List.getElem?_toArray, List.getElem?_cons_zero, List.getElem?_cons_succ] at x1
      go_wp2_with fail
      refine (text_c x.val (by omega) v2).mono ?_
      rintro e u2 ⟨rfl, hb2⟩
      have hE2b := hE2.below hb2
      have hX2b := hX2.below hb2 hX2.lt
      go_wp2_with fail
      refine (bws_y q (enc m.length ++ bodyB (m.take j) ++ txt x.key) (txt x.val) u2 hE2b.bld (by simp only [List.length_append]; omega)).mono ?_
      rintro e v3 ⟨rfl, hB3, hk3⟩
      have hE3 := hE2b.kb hB3 hk3
      have hX3 := blk_kb hX2b hqX hk3
      clear x1 hb2 hE2b hX2b hB3 hk3 hE2 hX2
      have x2 := hX3.cell 2
      simp only [List.getElem?_toArray, List.getElem?_cons_zero, List.getElem?_cons_succ] at x2
      go_wp2_with fail
      refine (num_c x.ver a3 v3).mono ?_
      rintro e u3 ⟨rfl, hb3⟩
      have hE3b := hE3.below hb3
      have hX3b := hX3.below hb3 hX3.lt
      go_wp2_with fail
      refine (bws_y q (enc m.length ++ bodyB (m.take j) ++ txt x.key ++ txt x.val) (enc x.ver) u3 hE3b.bld (by simp only [List.length_append]; omega)).mono ?_
      rintro e v4 ⟨rfl, hB4, hk4⟩
      have hE4 := hE3b.kb hB4 hk4
      have hX4 := blk_kb hX3b hqX hk4
      clear x2 hb3 hE3b hX3b hB4 hk4 hE3 hX3
      have x3 := hX4.cell 3
      simp only [List.getElem?_toArray, List.getElem?_cons_zero, List.getElem?_cons_succ] at x3
      go_wp2_with fail
      refine (num_c x.fin a4 v4).mono ?_
      rintro e u4 ⟨rfl, hb4⟩
      have hE4b := hE4.below hb4
      have hX4b := hX4.below hb4 hX4.lt
      go_wp2_with fail
      refine (bws_y q (enc m.length ++ bodyB (m.take j) ++ txt x.key ++ txt x.val ++ enc x.ver) (enc x.fin) u4 hE4b.bld (by simp only [List.length_append]; omega)).mono ?_
      rintro e v5 ⟨rfl, hB5, hk5⟩
      have hE5 := hE4b.kb hB5 hk5
      have hX5 := blk_kb hX4b hqX hk5
      clear x3 hb4 hE4b hX4b hB5 hk5 hE4 hX4
      have hE6 := Lib.hid hE5
      clear hE5 hX5 l1 l2 l3 l4 m1 m2 a1 a2 a3 a4
      go_wp2_with fail
      go_roundw
      case rel =>
        refine ⟨j + 1, by omega, rfl, ?_⟩
        rw [bodyB_take hx]
        unfold oneB
        simpa only [List.append_assoc] using hE6.out
      case measure => simp [intOf]; omega
    · obtain rfl : j = m.length := by omega
      rw [List.take_length] at hE hblj
      have hne : enc m.length ++ bodyB m ≠ [] := fun e => by have := congrArg List.length e; simp only [List.length_append, List.length_nil] at this; omega
      have hstr := bstr_y q _ wr hE.bld hne
      have hbel := hE.bel
      clear hE
      go_wp2_with fail
      refine hstr.mono ?_
      rintro e w9 ⟨rfl, hk9⟩
      go_wp2_with fail
      (try simp only [Exit.inBlock, Exit.then])
      go_ret
      refine ⟨rfl, ?_⟩
      have h9 := hbel.trans hk9.below
      rw [← HQ.out] at h9
      exact h9
theorem export_c (hl : m.length ≤ 100000) (h : HeldT w0 w P b m) : Calls Try.prog 18 #[tp b] w fun e w' => e = .returned (.string (str (allB m))) ∧ Below w.heap.size w w' :=
  let ⟨_, hT, _⟩ := h; export_t hl w hT
end
end Go.Proofs.Ytdjfdpmfpnbpjaa.Taby
