/- The program's table: Export. The only condition: there are not too many entries. The program's cache: its entries, as a slice of the caller's own; and what a session was told. The only condition: there are not more entries than may be. The program's cache: which may be, and a new one; what there is not. The only condition: numbers are of 64 bits. -/
import Derived.Test.YtahmpggaicjgoaaGreatDoorTabKeysAll
import Derived.Test.YtahmpggaicjgoaaGreatDoorTabBytesAll
import Derived.Test.YtahmpggaicjgoaaGreatDoorBuildKeptAll
import Derived.Test.YtahmpggaicjgoaaGreatDoorStoreCloneAll
import Derived.Laws.MakeOwn
import Derived.Test.YtahmpggaicjgoaaGreatDoorSq
namespace Go.Proofs.YtahmpggaicjgoaaGreatDoor.Taby
open Go.ChangeShapes Go.WideShapes Go.ChangeAt Go.RowKit Go.ChangeMaps Go.Maps
open Wirey (Blk Row str str_size str_list str_cat str_inj Kp Bld Kb bws_y bstr_y enc enc_len txt num_c text_c)
structure Ex (w : World) (q B : Nat) (v : Value) (ks : List (List UInt8)) (l : List UInt8) (W : World) : Prop where
 bld : Bld W q l
 st : St W B v ks
 lo : q < B
 bel : Below q w W
section
variable {w W W' : World} {q B X : Nat} {v : Value} {ks : List (List UInt8)} {l l' : List UInt8} {cs : Array Value}
theorem Ex.below (h : Ex w q B v ks l W) (hb : Below W.heap.size W W') : Ex w q B v ks l W' :=
 ⟨h.bld.grown hb, h.st.below hb, h.lo, h.bel.trans (hb.mono (Nat.le_of_lt h.bld.lt))⟩
theorem Ex.kb (h : Ex w q B v ks l W) (hB : Bld W' q l') (hk : Kb q W W') : Ex w q B v ks l' W' := by
 refine ⟨hB, h.st.stay fun g hg => ?_, h.lo, h.bel.trans hk.below⟩
 have h1 := (h.st.lt g hg).1
 have h2 := h.lo
 obtain ⟨c, fz, hc⟩ := Wirey.own_kind h.st g hg
 exact (hk.oth g _ hc (fun e => by have := Option.some.inj e; omega) (fun c fz e => by injection e with _ e2; exact absurd e2 (by decide))).trans hc.symm
theorem blk_kb (h : Blk W X 68 cs) (hX : q < X) (hk : Kb q W W') : Blk W' X 68 cs :=
 hk.oth X _ h (fun e => by have := Option.some.inj e; omega) (fun c fz e => by injection e with _ e2; exact absurd e2 (by decide))
end
section
variable {w0 w : World} {P : Nat → Prop} {b M : Nat} {m : List En}
theorem body_len : ∀ {l : List En}, (∀ x ∈ l, x.Ok) → (bodyB l).length ≤ l.length * 4300
 | [], _ => Nat.zero_le _
 | x :: l, h => by
  have h1 := h x List.mem_cons_self
  have ih := body_len fun y hy => h y (List.mem_cons_of_mem _ hy)
  have a1 := h1.key
  have a2 := h1.val
  have l1 := enc_len (n := x.key.length) (by omega)
  have l2 := enc_len (n := x.val.length) (by omega)
  have l3 := enc_len h1.ver
  have l4 := enc_len h1.fin
  rw [bodyB, List.length_append, List.length_cons]
  unfold oneB txt
  simp only [List.length_append]
  omega
theorem len_t (w : World) (h : TabAt w b M m) : Calls Tryz.prog 50 #[tp b] w fun e w' => e = .returned (.int .i64 m.length) ∧ Below w.heap.size w w' := by
 have c0 : w.cell? ⟨b, 0, none⟩ = some (.map (some M)) := h.hd.cell 0
 obtain ⟨D, hD⟩ := h.mp
 have hlen := hD.len
 clear hD h
 go_enter Tryz.func50, Tryz.ntmps50
 go_wp2_with fail
 go_ret
 exact ⟨rfl, Below.refl _ w⟩
set_option maxHeartbeats 4000000 in
set_option maxRecDepth 100000 in
theorem export_t (hl : m.length ≤ 100000) (w : World) (h : TabAt w b M m) : Calls Tryz.prog 22 #[tp b] w fun e w' => e = .returned (.string (str (allB m))) ∧ Below w.heap.size w w' := by
 have hrise := h.rise
 have hok := h.ok
 have hbl := body_len hok
 have hen := enc_len (n := m.length) (by omega)
 have hb0 := (Below.refl _ w).alloc (Nat.le_refl _) (.cells #[.pointer none, .slice none 0 0] 105)
 have hB0 := Bld.new w
 have hT0 := h.below hb0
 have hbq := h.hd.lt
 have hMq := h.ltM
 go_enter Tryz.func22, Tryz.ntmps22
 go_upto_region 4 with (fail)
 generalize w.alloc (.cells #[.pointer none, .slice none 0 0] 105) = w1 at *
 have HB0 := Lib.hid hb0
 have hbl1 : w.heap.size < w1.heap.size := hB0.lt
 clear hb0
 generalize hq : w.heap.size = q at *
 have HQ := Lib.hid hq
 clear hq
 go_wp2_with fail
 refine (len_t w1 hT0).mono ?_
 rintro e w2 ⟨rfl, hb2⟩
 have hb2q := HB0.out.trans (hb2.mono (Nat.le_of_lt hbl1))
 have hs2 := hb2.size
 go_wp2_with fail
 refine (num_c m.length (by omega) w2).mono ?_
 rintro e w3 ⟨rfl, hb3⟩
 have hb3q := hb2q.trans (hb3.mono (by omega))
 have hs3 := hb3.size
 have hB3 := (hB0.grown hb2).grown hb3
 go_wp2_with fail
 refine (bws_y q [] (enc m.length) w3 hB3 (by simp only [List.length_nil]; omega)).mono ?_
 rintro e w4 ⟨rfl, hB4, hk4⟩
 rw [List.nil_append] at hB4
 have hb4q := hb3q.trans hk4.below
 have hs4 := hk4.below.size
 have hT4 : TabAt w4 b M m := h.stay (hb4q.block b hbq) (hb4q.block M hMq)
 have hq4 : q < w4.heap.size := hB4.lt
 clear hB0 hB3 hT0 hb2 hb3 hk4 hb2q hb3q hs2 hs3 hs4 hbl1 HB0
 go_wp2_with fail
 refine (keys_t hl w4 hT4).mono ?_
 rintro e w5 ⟨vk, rfl, hS5, hb5⟩
 have hX5 : Ex w q w4.heap.size vk (keysOf m) (enc m.length ++ bodyB (m.take 0)) w5 := ⟨by rw [List.take_zero]; simpa [bodyB] using hB4.grown hb5, hS5, hq4, hb4q.trans (hb5.mono (Nat.le_of_lt hq4))⟩
 clear hS5 hB4 hb4q hT4 hb5
 generalize w4.heap.size = B at *
 obtain ⟨oa, oc, rfl⟩ := hX5.st.form
 rw [keysOf_len] at hX5 ⊢
 have hnn : m.length < 9223372036854775808 := by omega
 go_wp2_with fail
 go_loopw [17] (fun i wr => ∃ j : Nat, j ≤ m.length ∧ i = .int .i64 j ∧ Ex w q B (.slice oa m.length oc) (keysOf m) (enc m.length ++ bodyB (m.take j)) wr) (fun i _ => m.length - (intOf i).toNat)
 case atStart => exact ⟨0, by omega, rfl, hX5⟩
 case round =>
  clear hX5
  obtain ⟨j, hj, rfl, hE⟩ := hrel
  have hblj := body_len (l := m.take j) fun y hy => hok y (List.mem_of_mem_take hy)
  rw [List.length_take] at hblj
  by_cases h3 : j < m.length
  ·obtain ⟨x, hx⟩ : ∃ x, m[j]? = some x := ⟨_, List.getElem?_eq_getElem h3⟩
   have hxm := List.mem_of_getElem? hx
   have hxo := hok x hxm
   have a1 := hxo.key
   have a2 := hxo.val
   have a3 := hxo.ver
   have a4 := hxo.fin
   have l1 := enc_len (n := x.key.length) (by omega)
   have l2 := enc_len (n := x.val.length) (by omega)
   have l3 := enc_len a3
   have l4 := enc_len a4
   have m1 : (txt x.key).length ≤ 100 := by unfold txt; rw [List.length_append]; omega
   have m2 : (txt x.val).length ≤ 5000 := by unfold txt; rw [List.length_append]; omega
   have hkx : (keysOf m)[j]? = some x.key := by unfold keysOf; rw [List.getElem?_map, hx]; rfl
   have hst := hE.st
   rw [← keysOf_len m] at hst
   obtain ⟨g, rfl, hBg, hg, hcell⟩ := hst.at_ hkx
   have c0 := hcell wr rfl
   clear hcell hst
   have hlt : (j : Int) < (m.length : Int) := by omega
   have hTr : TabAt wr b M m := h.stay (hE.bel.block b hbq) (hE.bel.block M hMq)
   have c1 : wr.cell? ⟨b, 0, none⟩ = some (.map (some M)) := hTr.hd.cell 0
   obtain ⟨D, hD⟩ := hTr.mp
   have hlook := hD.look (k := x.key) (by unfold maxLen; omega) false
   rw [find_of_mem hrise hxm] at hlook
   simp only [Bool.false_eq_true, if_false, Option.getD_some] at hlook
   have hX1 := Blk.new wr 68 #[.string (str x.key), .string (str x.val), .int .u64 x.ver, .int .u64 x.fin]
   have hE1 := hE.below ((Below.refl _ wr).alloc (Nat.le_refl _) (.cells #[.string (str x.key), .string (str x.val), .int .u64 x.ver, .int .u64 x.fin] 68))
   have hqX : q < wr.heap.size := hE.bld.lt
   clear hD hTr hE
   go_upto_region 9 with (fail)
   generalize wr.alloc (.cells #[.string (str x.key), .string (str x.val), .int .u64 x.ver, .int .u64 x.fin] 68) = v1 at *
   generalize wr.heap.size = X at *
   clear hlook c0 c1 hBg hg
   have x0 := hX1.cell 0
   simp only [List.getElem?_toArray, List.getElem?_cons_zero] at x0
   go_wp2_with fail
   refine (text_c x.key (by omega) v1).mono ?_
   rintro e u1 ⟨rfl, hb1⟩
   have hE1b := hE1.below hb1
   have hX1b := hX1.below hb1 hX1.lt
   go_wp2_with fail
   refine (bws_y q (enc m.length ++ bodyB (m.take j)) (txt x.key) u1 hE1b.bld (by simp only [List.length_append]; omega)).mono ?_
   rintro e v2 ⟨rfl, hB2, hk2⟩
   have hE2 := hE1b.kb hB2 hk2
   have hX2 := blk_kb hX1b hqX hk2
   clear x0 hb1 hE1b hX1b hB2 hk2 hE1 hX1
   have x1 := hX2.cell 1
   simp only [gA, gB, gC] at x1
   go_wp2_with fail
   refine (text_c x.val (by omega) v2).mono ?_
   rintro e u2 ⟨rfl, hb2⟩
   have hE2b := hE2.below hb2
   have hX2b := hX2.below hb2 hX2.lt
   go_wp2_with fail
   refine (bws_y q (enc m.length ++ bodyB (m.take j) ++ txt x.key) (txt x.val) u2 hE2b.bld (by simp only [List.length_append]; omega)).mono ?_
   rintro e v3 ⟨rfl, hB3, hk3⟩
   have hE3 := hE2b.kb hB3 hk3
   have hX3 := blk_kb hX2b hqX hk3
   clear x1 hb2 hE2b hX2b hB3 hk3 hE2 hX2
   have x2 := hX3.cell 2
   simp only [gA, gB, gC] at x2
   go_wp2_with fail
   refine (num_c x.ver a3 v3).mono ?_
   rintro e u3 ⟨rfl, hb3⟩
   have hE3b := hE3.below hb3
   have hX3b := hX3.below hb3 hX3.lt
   go_wp2_with fail
   refine (bws_y q (enc m.length ++ bodyB (m.take j) ++ txt x.key ++ txt x.val) (enc x.ver) u3 hE3b.bld (by simp only [List.length_append]; omega)).mono ?_
   rintro e v4 ⟨rfl, hB4, hk4⟩
   have hE4 := hE3b.kb hB4 hk4
   have hX4 := blk_kb hX3b hqX hk4
   clear x2 hb3 hE3b hX3b hB4 hk4 hE3 hX3
   have x3 := hX4.cell 3
   simp only [gA, gB, gC] at x3
   go_wp2_with fail
   refine (num_c x.fin a4 v4).mono ?_
   rintro e u4 ⟨rfl, hb4⟩
   have hE4b := hE4.below hb4
   have hX4b := hX4.below hb4 hX4.lt
   go_wp2_with fail
   refine (bws_y q (enc m.length ++ bodyB (m.take j) ++ txt x.key ++ txt x.val ++ enc x.ver) (enc x.fin) u4 hE4b.bld (by simp only [List.length_append]; omega)).mono ?_
   rintro e v5 ⟨rfl, hB5, hk5⟩
   have hE5 := hE4b.kb hB5 hk5
   have hX5 := blk_kb hX4b hqX hk5
   clear x3 hb4 hE4b hX4b hB5 hk5 hE4 hX4
   have hE6 := Lib.hid hE5
   clear hE5 hX5 l1 l2 l3 l4 m1 m2 a1 a2 a3 a4
   go_wp2_with fail
   go_roundw
   case rel =>
    refine ⟨j + 1, by omega, rfl, ?_⟩
    rw [bodyB_take hx]
    unfold oneB
    simpa only [List.append_assoc] using hE6.out
   case measure => simp [intOf]; omega
  ·obtain rfl : j = m.length := by omega
   rw [List.take_length] at hE hblj
   have hne : enc m.length ++ bodyB m ≠ [] := fun e => by have := congrArg List.length e; simp only [List.length_append, List.length_nil] at this; omega
   have hstr := bstr_y q _ wr hE.bld hne
   have hbel := hE.bel
   clear hE
   go_wp2_with fail
   refine hstr.mono ?_
   rintro e w9 ⟨rfl, hk9⟩
   go_wp2_with fail
   (try simp only [Exit.inBlock, Exit.then])
   go_ret
   refine ⟨rfl, ?_⟩
   have h9 := hbel.trans hk9.below
   rw [← HQ.out] at h9
   exact h9
end
end Go.Proofs.YtahmpggaicjgoaaGreatDoor.Taby
namespace Go.Proofs.YtahmpggaicjgoaaGreatDoor.Storey
open Go.ChangeShapes Go.WideShapes Go.ChangeAt Go.RowKit
open Wirey (Blk Row str str_size str_list str_cat Kp)
open Taby (En TabAt Tbl tp find ins drop size ended St Sl rows keysOf)
open Policyy (Pv HeldP StepP Tell)
open Ringy (Key)
open Regy

section
variable {w0 w w' w'' : World} {B b T M C S : Nat} {H H' : Nat → Prop} {s t : Sv} {k : Key} {v : Value} {l : List Key} {o : Opn} {x : Rcd}
structure Col (w W : World) (v : Value) (l : List En) (kv : Value) (ks : List Key) : Prop where
 sl : Sl W w.heap.size v l
 st : St W w.heap.size kv ks
 no : ∀ g, v.ownBlock = some g → kv.ownBlock ≠ some g
 bel : Below w.heap.size w W
theorem Col.below {W W' : World} {kv : Value} {m : List En} (h : Col w W v m kv l) (hb : Below W.heap.size W W') : Col w W' v m kv l := ⟨h.sl.below hb, h.st.below hb, h.no, h.bel.trans (hb.mono h.bel.size)⟩
theorem Col.grown {W W' : World} {kv v' : Value} {m m' : List En} (h : Col w W v m kv l) (hs : Sl W' w.heap.size v' m') (hg : W.grownBy W' v.ownBlock) {g : Nat} (hv : v'.ownBlock = some g) (hat : v.ownBlock = some g ∨ g = W.heap.size) : Col w W' v' m' kv l := by
 have hrow := h.sl.lt
 refine ⟨hs, h.st.stay fun k hk => hg.block k (h.st.lt k hk).2 (fun e => h.no k e.symm hk), fun k hk hkv => ?_, ?_⟩
 ·rw [hv] at hk
  have e := Option.some.inj hk
  subst e
  rcases hat with e | e
  ·exact h.no g e hkv
  ·have := (h.st.lt g hkv).2; omega
 ·exact h.bel.trans ⟨hg.os, hg.tape, hg.output, hg.size, fun k hk => hg.block k (Nat.lt_of_lt_of_le hk h.bel.size) (fun e => by have := (hrow k e.symm).1; omega)⟩
set_option maxHeartbeats 4000000 in
set_option maxRecDepth 100000 in
theorem entries_s (hl : s.m.length ≤ 100000) (h : At w0 w b T M C S H s) :
  Calls Tryz.prog 26 #[tp b] w fun e w' => ∃ v, e = .returned v ∧ Sl w' w.heap.size v s.m ∧ Below w.heap.size w w' := by
 obtain ⟨i0, hi0, hz0, hz1, hz2⟩ : ∃ i0, Tryz.prog.info? 68 = some i0 ∧ i0.zero = some (.agg #[.string ⟨#[]⟩, .string ⟨#[]⟩, .int .u64 0, .int .u64 0]) ∧ i0.size = 4 ∧ i0.bytes = 48 := by
  have h := Taby.entry_info
  cases hh : Tryz.prog.info? 68 with
  | none => rw [hh] at h; cases h
  | some i => rw [hh] at h; injection h with h; injection h with h1 h2; injection h2 with h2 h3; exact ⟨i, rfl, h1, h2, h3⟩
 have hrise := h.tab.rise
 have hok := h.tab.ok
 have hmade := made_s h
 obtain ⟨-, -, -, -, -, -, -, -, -, c9, -, -⟩ := h.cs
 have hgt : ∀ {W : World} {x : En}, Below w.heap.size w W → x ∈ s.m → Calls Tryz.prog 58 #[tp T, .string (str x.key)] W fun e w' => e = .returned (.tuple #[.agg x.cs, .bool true]) ∧ Below W.heap.size W w' := fun hW hx => look_yes (hok _ hx).key (Taby.find_of_mem hrise hx) (h.later hW (Nat.le_refl _))
 have hcc : ∀ {W : World}, Below w.heap.size w W → W.cell? ⟨b, 9, none⟩ = some (tp T) := fun hW => (h.later hW (Nat.le_refl _)).c rfl
 have hkey : ∀ {W : World}, Below w.heap.size w W → Calls Tryz.prog 51 #[tp T] W fun e w' => ∃ v, e = .returned v ∧ St w' W.heap.size v (keysOf s.m) ∧ Below W.heap.size W w' := fun hW => Taby.keys_t hl _ (h.later hW (Nat.le_refl _)).tab
 have hlen := Taby.len_t w h.tab
 generalize hmm : s.m = m at *
 go_enter Tryz.func26, Tryz.ntmps26
 go_wp2_with fail
 refine hmade.mono ?_
 rintro e w1 ⟨rfl, rfl⟩
 go_wp2_with fail
 refine hlen.mono ?_
 rintro e w2 ⟨rfl, hb2⟩
 obtain ⟨w3, hrun, hown, hgr⟩ := run_make_own (P := Tryz.prog) w2 w.heap.size 65 68 i0 _ 4 Tryz.underlying65 hi0 hz0 hz1 .i64 .i64 m.length (by rw [hz2]; omega) (by unfold maxLen; omega) hb2.size
 have hb3 : Below w.heap.size w w3 := hb2.trans ⟨hgr.os, hgr.tape, hgr.output, hgr.size, fun k hk => hgr.block k (by have := hb2.size; omega) (by simp)⟩
 have hS3 : Sl w3 w.heap.size (.slice (some ⟨w2.heap.size, 0, none⟩) 0 m.length) [] := hown
 have hlt3 : w2.heap.size < w3.heap.size := (hS3.lt _ rfl).2
 have c93 := hcc hb3
 clear hlen hown hgr hmade c9
 go_wp2_with fail
 refine (hkey hb3).mono ?_
 rintro e w4 ⟨vk, rfl, hst, hb4⟩
 have hC4 : Col w w4 (.slice (some ⟨w2.heap.size, 0, none⟩) 0 m.length) (m.take 0) vk (keysOf m) := ⟨by rw [List.take_zero]; exact hS3.below hb4, hst.low hb3.size, fun g hg hk => by
   have e : w2.heap.size = g := Option.some.inj hg
   have := (hst.lt g hk).1
   omega, hb3.trans (hb4.mono hb3.size)⟩
 clear hst hb3 hb4 hS3 hb2 hrun hkey hlt3 c93
 generalize w2.heap.size = g0 at *
 obtain ⟨oa, oc, rfl⟩ := hC4.st.form
 rw [Taby.keysOf_len] at hC4 ⊢
 go_wp2_with fail
 go_loopw [3, 23] (fun v i wr => ∃ (j : Nat), j ≤ m.length ∧ i = .int .i64 j ∧ Col w wr v (m.take j) (.slice oa m.length oc) (keysOf m)) (fun v i _ => m.length - (intOf i).toNat)
 case atStart => exact ⟨0, by omega, rfl, hC4⟩
 case round =>
  clear hC4
  obtain ⟨j, hj, rfl, hC⟩ := hrel
  by_cases h3 : j < m.length
  ·obtain ⟨x, hx⟩ : ∃ x, m[j]? = some x := ⟨_, List.getElem?_eq_getElem h3⟩
   have hxm := List.mem_of_getElem? hx
   have hkx : (keysOf m)[j]? = some x.key := by unfold keysOf; rw [List.getElem?_map, hx]; rfl
   have hst := hC.st
   rw [← Taby.keysOf_len m] at hst
   obtain ⟨g, rfl, -, -, hcell⟩ := hst.at_ hkx
   have c0 := hcell wr rfl
   clear hcell hst
   have hlt : (j : Int) < (m.length : Int) := by omega
   have hcall := hgt hC.bel hxm
   have c9 := hcc hC.bel
   have hsx : m.take (j + 1) = m.take j ++ [x] := by rw [List.take_add_one, hx]; rfl
   have HX := Lib.hid hsx
   clear hx hkx hsx
   have hlj : (m.take j).length ≤ 100000 := by rw [List.length_take]; omega
   generalize hD : m.take j = D at *
   clear hD
   obtain ⟨va, vc, rfl⟩ := hC.sl.form
   go_wp2_with fail
   refine hcall.mono ?_
   rintro e w5 ⟨rfl, hb5⟩
   have hC5 := (hC.below hb5).below ((Below.refl _ w5).alloc (Nat.le_refl _) (.cells x.cs 68))
   clear hcall c0 c9 hC hb5
   have hX6 := Blk.new w5 68 x.cs
   go_upto_region 8 with (fail)
   generalize w5.alloc (.cells x.cs 68) = w6 at *
   generalize w5.heap.size = p at *
   have x0 : w6.cell? ⟨p, 0, none⟩ = some (.string (str x.key)) := hX6.cell 0
   have x1 : w6.cell? ⟨p, 1, none⟩ = some (.string (str x.val)) := hX6.cell 1
   have x2 : w6.cell? ⟨p, 2, none⟩ = some (.int .u64 x.ver) := hX6.cell 2
   have x3 : w6.cell? ⟨p, 3, none⟩ = some (.int .u64 x.fin) := hX6.cell 3
   have hC6 := hC5.below ((Below.refl _ w6).alloc (Nat.le_refl _) (.cells x.cs 68))
   have hwz := hC5.bel.size
   have HC := Lib.hid hC6
   have hsl := hC5.sl
   clear hC5 hC6 hX6 hgt hcc hok hrise
   go_wp2_with (first | (refine wpList_append_lies _ (by rfl) _ _ _ (by rfl) w.heap.size 68 i0 _ 4 48 Tryz.underlying65 hi0 hz0 hz1 hz2 rfl (by omega) (.slice va D.length vc) D.length (rows D) (by rfl) (hsl.alloc _) ⟨w6.heap.size, 0, none⟩ 1 1 [.string (str x.key), .string (str x.val), .int .u64 x.ver, .int .u64 x.fin] (by rfl) (by rfl) (World.news_of_block (cs := #[.string (str x.key), .string (str x.val), .int .u64 x.ver, .int .u64 x.fin]) (t := 68) (fr := (0, 0)) (heap_alloc_new w6 _)) (by simp [Value.oneCell']) (by omega) (by simp [maxLen]; omega) (by omega) (by simp; omega) (w6.heap.size + 1) (by simp) ?_; intro gg cp w7 hown hgrow hat hlt3))
   have hC7 := HC.out.grown (v' := .slice (some ⟨gg, 0, none⟩) (D.length + 1) cp) (m' := D ++ [x]) (Taby.Sl.snoc hown) hgrow rfl (hat.imp id fun e => by rw [e]; simp)
   go_roundw
   case rel => exact ⟨j + 1, by omega, rfl, by rw [HX.out]; exact hC7⟩
   case measure => simp [intOf]; omega
  ·obtain rfl : j = m.length := by omega
   rw [List.take_length] at hC
   obtain ⟨va, vc, rfl⟩ := hC.sl.form
   go_wp2_with fail
   (try simp only [Exit.inBlock, Exit.then])
   go_ret
   exact ⟨_, rfl, hC.sl, hC.bel⟩
end
end Go.Proofs.YtahmpggaicjgoaaGreatDoor.Storey
namespace Go.Proofs.YtahmpggaicjgoaaGreatDoor.Storey
open Go.ChangeShapes Go.WideShapes Go.ChangeAt Go.RowKit
open Wirey (Blk Row str str_size str_list str_cat Kp)
open Taby (En TabAt Tbl tp find ins drop size ended St)
open Policyy (Pv HeldP StepP Tell)
open Ringy (Key)
open Regy

section
variable {w0 w w' w'' : World} {B b T M C S : Nat} {H H' : Nat → Prop} {s t : Sv} {k : Key} {v : Value} {l : List Key} {o : Opn} {x : Rcd}
def mayB (k n bytes : Int) : Bool := (decide (k = 1) || decide (k = 2)) && decide (1 ≤ n) && decide (n ≤ 1000) && decide (1 ≤ bytes) && decide (bytes ≤ 1048576)
set_option maxHeartbeats 4000000 in
set_option maxRecDepth 100000 in
theorem check_c (k n bytes seed : Int) (w : World) : Calls Tryz.prog 36 #[.agg #[.int .i64 k, .int .i64 n, .int .i64 bytes, .int .u64 seed]] w fun e w' => e = .returned (.bool (mayB k n bytes)) ∧ Below w.heap.size w w' := by
 have hb := (Below.refl _ w).alloc (Nat.le_refl _) (.cells #[.int .i64 k, .int .i64 n, .int .i64 bytes, .int .u64 seed] 24)
 have HB := Lib.hid hb
 clear hb
 unfold mayB
 by_cases k1 : k = 1
 ·subst k1
  have e0 : decide ((1 : Int) = 1) = true := rfl
  rw [e0]
  by_cases a0 : 1 ≤ n
  case neg =>
   have da0 : decide (1 ≤ n) = false := decide_eq_false a0
   rw [da0]
   simp only [Bool.and_false, Bool.false_and]
   go_enter Tryz.func36, Tryz.ntmps36
   go_wp2_with fail
   go_ret
   exact ⟨rfl, HB.out⟩
  have da0 : decide (1 ≤ n) = true := decide_eq_true a0
  by_cases a1 : n ≤ 1000
  case neg =>
   have da1 : decide (n ≤ 1000) = false := decide_eq_false a1
   rw [da1]
   simp only [Bool.and_false, Bool.false_and]
   go_enter Tryz.func36, Tryz.ntmps36
   go_wp2_with fail
   go_ret
   exact ⟨rfl, HB.out⟩
  have da1 : decide (n ≤ 1000) = true := decide_eq_true a1
  by_cases a2 : 1 ≤ bytes
  case neg =>
   have da2 : decide (1 ≤ bytes) = false := decide_eq_false a2
   rw [da2]
   simp only [Bool.and_false, Bool.false_and]
   go_enter Tryz.func36, Tryz.ntmps36
   go_wp2_with fail
   go_ret
   exact ⟨rfl, HB.out⟩
  have da2 : decide (1 ≤ bytes) = true := decide_eq_true a2
  by_cases a3 : bytes ≤ 1048576
  case neg =>
   have da3 : decide (bytes ≤ 1048576) = false := decide_eq_false a3
   rw [da3]
   simp only [Bool.and_false]
   go_enter Tryz.func36, Tryz.ntmps36
   go_wp2_with fail
   go_ret
   exact ⟨rfl, HB.out⟩
  have da3 : decide (bytes ≤ 1048576) = true := decide_eq_true a3
  rw [da0, da1, da2, da3]
  simp only [Bool.and_true, Bool.true_or]
  go_enter Tryz.func36, Tryz.ntmps36
  go_wp2_with fail
  go_ret
  exact ⟨rfl, HB.out⟩
 have e1 : (k == 1) = false := beq_eq_false_iff_ne.2 k1
 have f1 : decide (k = 1) = false := decide_eq_false k1
 by_cases k2 : k = 2
 ·subst k2
  rw [f1]
  have e0 : decide ((2 : Int) = 2) = true := rfl
  rw [e0]
  by_cases a0 : 1 ≤ n
  case neg =>
   have da0 : decide (1 ≤ n) = false := decide_eq_false a0
   rw [da0]
   simp only [Bool.and_false, Bool.false_and]
   go_enter Tryz.func36, Tryz.ntmps36
   go_wp2_with fail
   go_ret
   exact ⟨rfl, HB.out⟩
  have da0 : decide (1 ≤ n) = true := decide_eq_true a0
  by_cases a1 : n ≤ 1000
  case neg =>
   have da1 : decide (n ≤ 1000) = false := decide_eq_false a1
   rw [da1]
   simp only [Bool.and_false, Bool.false_and]
   go_enter Tryz.func36, Tryz.ntmps36
   go_wp2_with fail
   go_ret
   exact ⟨rfl, HB.out⟩
  have da1 : decide (n ≤ 1000) = true := decide_eq_true a1
  by_cases a2 : 1 ≤ bytes
  case neg =>
   have da2 : decide (1 ≤ bytes) = false := decide_eq_false a2
   rw [da2]
   simp only [Bool.and_false, Bool.false_and]
   go_enter Tryz.func36, Tryz.ntmps36
   go_wp2_with fail
   go_ret
   exact ⟨rfl, HB.out⟩
  have da2 : decide (1 ≤ bytes) = true := decide_eq_true a2
  by_cases a3 : bytes ≤ 1048576
  case neg =>
   have da3 : decide (bytes ≤ 1048576) = false := decide_eq_false a3
   rw [da3]
   simp only [Bool.and_false]
   go_enter Tryz.func36, Tryz.ntmps36
   go_wp2_with fail
   go_ret
   exact ⟨rfl, HB.out⟩
  have da3 : decide (bytes ≤ 1048576) = true := decide_eq_true a3
  rw [da0, da1, da2, da3]
  simp only [Bool.and_true, Bool.or_true]
  go_enter Tryz.func36, Tryz.ntmps36
  go_wp2_with fail
  go_ret
  exact ⟨rfl, HB.out⟩
 have e2 : (k == 2) = false := beq_eq_false_iff_ne.2 k2
 have f2 : decide (k = 2) = false := decide_eq_false k2
 rw [f1, f2]
 simp only [Bool.or_false, Bool.false_and]
 go_enter Tryz.func36, Tryz.ntmps36
 go_wp2_with fail
 go_ret
 exact ⟨rfl, HB.out⟩
theorem new_at {W : World} {p : Pv} {D : DataW Unit} (hp : HeldP w0 C W p H) (hT : TabAt W T M []) (hS : SesAt W S [] D) (ep : s.p = p) (em : s.m = []) (es : s.ss = []) (lT : w0.heap.size ≤ T) (lM : w0.heap.size ≤ M) (lS : w0.heap.size ≤ S) (ST : S ≠ T) (SM : S ≠ M) (HT : ¬ H T) (HM : ¬ H M) (HS : ¬ H S) :
  At w0 (W.alloc (.cells (s.cells T C S) 63)) W.heap.size T M C S H s := by
 have hb := (Below.refl _ W).alloc (Nat.le_refl _) (.cells (s.cells T C S) 63)
 have l1 := hT.hd.lt
 have l2 := hT.ltM
 have l3 := hS.mp.lt
 subst ep
 exact ⟨Blk.new _ _ _, by rw [em]; exact hT.below hb, hp.alloc _, ⟨D, by rw [es]; exact hS.stay (hb.block _ l3)⟩, hp.below.size, lT, lM, lS, by omega, by omega, by omega, ST, SM, fun h => by have := (hp.own _ h).2; omega, HT, HM, HS⟩
set_option maxHeartbeats 4000000 in
set_option maxRecDepth 100000 in
theorem newS_c {kind n bytes seed : Nat} (hk : kind = 1 ∨ kind = 2) (h1 : 1 ≤ n) (h2 : n ≤ 1000) (b1 : 1 ≤ bytes) (b2 : bytes ≤ 1048576) (h3 : seed < 18446744073709551616) (w : World) :
  Calls Tryz.prog 15 #[.agg #[.int .i64 kind, .int .i64 n, .int .i64 bytes, .int .u64 seed]] w fun e w' => ∃ b T M C S H, e = .returned (.tuple #[tp b, .int .i64 0]) ∧ At w w' b T M C S H (Sv.new kind n bytes seed) := by
 have hm : mayB kind n bytes = true := by
  unfold mayB
  simp only [Bool.and_eq_true, Bool.or_eq_true, decide_eq_true_eq]
  omega
 have hc := fun W => check_c kind n bytes seed W
 rw [hm] at hc
 have hb0 := (Below.refl _ w).alloc (Nat.le_refl _) (.cells #[.int .i64 kind, .int .i64 n, .int .i64 bytes, .int .u64 seed] 24)
 have hL0 := Blk.new w 24 #[.int .i64 kind, .int .i64 n, .int .i64 bytes, .int .u64 seed]
 go_enter Tryz.func15, Tryz.ntmps15
 go_upto_region 1 with (fail)
 generalize w.alloc (.cells #[.int .i64 kind, .int .i64 n, .int .i64 bytes, .int .u64 seed] 24) = w1 at *
 have hqw : w.heap.size ≤ w.heap.size := Nat.le_refl _
 generalize hq : w.heap.size = q at hL0 hqw ⊢
 have c0 : w1.cell? ⟨q, 0, none⟩ = some (.int .i64 kind) := hL0.cell 0
 have c1 : w1.cell? ⟨q, 1, none⟩ = some (.int .i64 n) := hL0.cell 1
 have c2 : w1.cell? ⟨q, 2, none⟩ = some (.int .i64 bytes) := hL0.cell 2
 have c3 : w1.cell? ⟨q, 3, none⟩ = some (.int .u64 seed) := hL0.cell 3
 go_wp2_with fail
 refine (hc _).mono ?_
 rintro e w2 ⟨rfl, hb2⟩
 replace hL0 := hL0.below hb2 hL0.lt
 have hb2' := hb0.trans (hb2.mono hb0.size)
 clear c0 c1 c2 c3 hb2 hb0 hc
 have c0 : w2.cell? ⟨q, 0, none⟩ = some (.int .i64 kind) := hL0.cell 0
 have c1 : w2.cell? ⟨q, 1, none⟩ = some (.int .i64 n) := hL0.cell 1
 have c3 : w2.cell? ⟨q, 3, none⟩ = some (.int .u64 seed) := hL0.cell 3
 go_wp2_with fail
 refine (Policyy.newP_c hk h1 h2 h3 w2).mono ?_
 rintro e w3 ⟨C, H, rfl, hp⟩
 have hq2 : q < w2.heap.size := hL0.lt
 replace hL0 := hL0.below hp.below hL0.lt
 replace hp := hp.low hb2'
 have hps := hp.own
 clear c0 c1 c3
 go_upto_region 6 with (fail)
 have mk : ∀ W, Blk W q 24 #[.int .i64 kind, .int .i64 n, .int .i64 bytes, .int .u64 seed] → W.cell? ⟨q, 0, none⟩ = some (.int .i64 kind) ∧ W.cell? ⟨q, 1, none⟩ = some (.int .i64 n) ∧ W.cell? ⟨q, 2, none⟩ = some (.int .i64 bytes) ∧ W.cell? ⟨q, 3, none⟩ = some (.int .u64 seed) := fun W h => ⟨h.cell 0, h.cell 1, h.cell 2, h.cell 3⟩
 have hwl : w.heap.size ≤ w3.heap.size := hp.below.size
 refine region_only 8 #[false, false, false, false, false, false, false, false] (S := fun W => W.cell? ⟨q, 0, none⟩ = some (.int .i64 kind) ∧ W.cell? ⟨q, 1, none⟩ = some (.int .i64 n) ∧ W.cell? ⟨q, 2, none⟩ = some (.int .i64 bytes) ∧ W.cell? ⟨q, 3, none⟩ = some (.int .u64 seed)) rfl rfl (by kernel_rfl) (mk _ (show Blk w3.drew q _ _ from hL0)) (fun hSw => ?_)
 replace hp := hp.drewN 1
 replace hps : ∀ b, H b → w.heap.size ≤ b ∧ b < w3.drew.heap.size := hps
 replace hwl : w.heap.size ≤ w3.drew.heap.size := hwl
 replace hL0 : Blk w3.drew q _ _ := hL0
 change HeldP w C w3.drew _ H at hp
 generalize w3.drew = w4 at *
 refine tkA 0 22 7 ?_ rfl rfl ?_ hSw ?_
 rotate_left
 ·intro wx hSx; (try dsimp only at hSx); go_split_ands; go_simp; (try with_reducible rfl)
 simp only [sA, List.set_cons_zero, sC]
 refine tkA 2 24 6 ?_ rfl rfl ?_ hSw ?_
 rotate_left
 ·intro wx hSx; (try dsimp only at hSx); go_split_ands; go_simp; (try with_reducible rfl)
 simp only [sA, List.set_cons_zero, sC]
 refine wpAnyH_ready (fuel := 5) (rs := [1, 3]) (by kernel_rfl) (by simp) (AllReadyH.cons rfl (fun K hK => ?_) (AllReadyH.cons rfl (fun K hK => ?_) AllReadyH.nil))
 ·go_simp
  refine (Taby.new_c _).mono ?_
  rintro e wv ⟨P, T, rfl, ⟨M, hT, -, hTl, hMl⟩, hbv⟩
  have hLv := hL0.below hbv hL0.lt
  have hpv := hp.later hbv (Nat.le_refl _)
  refine hK.out _ _ (mk _ hLv) (fun hSw => ?_)
  clear hK K
  simp only [sA, List.set_cons_zero, sC]
  refine rdA 4 3 rfl fun K hK => ?_
  go_simp
  have hts := hT.hd.lt
  have htm := hT.ltM
  have hL2 := hLv.alloc (.map #[] 0)
  have hp2 := hpv.alloc (.map #[] 0)
  have hs2 := SesAt.new wv
  have hT2 := hT.below ((Below.refl _ wv).alloc (Nat.le_refl _) (.map #[] 0))
  refine hK.out _ _ (mk _ hL2) (fun hSw => ?_)
  clear hK K
  simp only [sA, List.set_cons_zero, sC]
  refine tkA 4 26 3 ?_ rfl rfl ?_ hSw ?_
  rotate_left
  ·intro wx hSx; (try dsimp only at hSx); go_split_ands; go_simp; (try with_reducible rfl)
  simp only [sA, List.set_cons_zero, sC]
  refine rdA 2 5 rfl fun K hK => ?_
  go_simp
  have hAt := new_at (s := Sv.new kind n bytes seed) hp2 hT2 hs2 rfl rfl rfl (by omega) (by omega) (by have := hbv.size; omega) (by omega) (by omega) (fun h => by have := (hps _ h).2; omega) (fun h => by have := (hps _ h).2; omega) (fun h => by have := (hps _ h).2; have := hbv.size; omega)
  rw [show (wv.alloc (.map #[] 0)).heap.size = wv.heap.size + 1 by simp] at hAt
  refine hK.out _ _ (mk _ (hL2.alloc _)) (fun hSw => ?_)
  clear hK K
  simp only [sA, List.set_cons_zero, sC]
  refine tkA 6 2 1 ?_ rfl rfl ?_ hSw ?_
  rotate_left
  ·intro wx hSx; (try dsimp only at hSx); go_split_ands; go_simp; (try with_reducible rfl)
  simp only [sA, List.set_cons_zero, sC]
  refine tkA 7 3 0 ?_ rfl rfl ?_ hSw ?_
  rotate_left
  ·intro wx hSx; (try dsimp only at hSx); go_split_ands; go_simp; (try with_reducible rfl)
  simp only [sA, List.set_cons_zero, sC]
  refine wpAnyH_done (by kernel_rfl) ⟨rfl, ?_⟩ 0
  go_wp2_with fail
  go_ret2
  exact ⟨_, _, _, _, _, _, rfl, hAt⟩
 ·go_simp
  have hL2 := hL0.alloc (.map #[] 0)
  have hp2 := hp.alloc (.map #[] 0)
  have hs2 := SesAt.new w4
  refine hK.out _ _ (mk _ hL2) (fun hSw => ?_)
  clear hK K
  simp only [sA, List.set_cons_zero, sC]
  refine rdA 4 1 rfl fun K hK => ?_
  go_simp
  refine (Taby.new_c _).mono ?_
  rintro e wv ⟨P, T, rfl, ⟨M, hT, -, hTl, hMl⟩, hbv⟩
  have hLv := hL2.below hbv hL2.lt
  have hpv := hp2.later hbv (Nat.le_refl _)
  have hsv := hs2.stay (hbv.block _ (by simp))
  have hts := hT.hd.lt
  have htm := hT.ltM
  simp only [World.size_alloc] at hTl hMl
  refine hK.out _ _ (mk _ hLv) (fun hSw => ?_)
  clear hK K
  simp only [sA, List.set_cons_zero, sC]
  refine tkA 4 26 3 ?_ rfl rfl ?_ hSw ?_
  rotate_left
  ·intro wx hSx; (try dsimp only at hSx); go_split_ands; go_simp; (try with_reducible rfl)
  simp only [sA, List.set_cons_zero, sC]
  refine rdA 2 5 rfl fun K hK => ?_
  go_simp
  have hAt := new_at (s := Sv.new kind n bytes seed) hpv hT hsv rfl rfl rfl (by omega) (by omega) (by omega) (by omega) (by omega) (fun h => by have := (hps _ h).2; omega) (fun h => by have := (hps _ h).2; omega) (fun h => by have := (hps _ h).2; omega)
  refine hK.out _ _ (mk _ (hLv.alloc _)) (fun hSw => ?_)
  clear hK K
  simp only [sA, List.set_cons_zero, sC]
  refine tkA 6 2 1 ?_ rfl rfl ?_ hSw ?_
  rotate_left
  ·intro wx hSx; (try dsimp only at hSx); go_split_ands; go_simp; (try with_reducible rfl)
  simp only [sA, List.set_cons_zero, sC]
  refine tkA 7 3 0 ?_ rfl rfl ?_ hSw ?_
  rotate_left
  ·intro wx hSx; (try dsimp only at hSx); go_split_ands; go_simp; (try with_reducible rfl)
  simp only [sA, List.set_cons_zero, sC]
  refine wpAnyH_done (by kernel_rfl) ⟨rfl, ?_⟩ 0
  go_wp2_with fail
  go_ret2
  exact ⟨_, _, _, _, _, _, rfl, hAt⟩
end
end Go.Proofs.YtahmpggaicjgoaaGreatDoor.Storey
