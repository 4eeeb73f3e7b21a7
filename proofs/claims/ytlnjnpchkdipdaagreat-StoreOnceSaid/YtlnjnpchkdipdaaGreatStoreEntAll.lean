/- The program's table: Export. The only condition: there are not too many entries. The program's cache: its entries, as a slice of the caller's own; and what a session was told. The only condition: there are not more entries than may be. -/
import Derived.Test.YtlnjnpchkdipdaaGreatTabKeys
import Derived.Test.YtlnjnpchkdipdaaGreatTabMemAll
import Derived.Test.YtlnjnpchkdipdaaGreatWireFlyAll
import Derived.Laws.Cover1
import Derived.BigQuiet
import Derived.Lib.Hide
import Derived.Test.YtlnjnpchkdipdaaGreatBuildKeptAll
import Derived.Test.YtlnjnpchkdipdaaGreatStoreApply
import Derived.Laws.MakeOwn
namespace Go.Proofs.YtlnjnpchkdipdaaGreat.Taby
open Go.ChangeShapes Go.WideShapes Go.ChangeAt Go.RowKit Go.ChangeMaps Go.Maps
open Wirey (Blk Row str str_size str_list str_inj Kp Bld Kb enc txt)
/-- While bytes are written: the builder in block q, the keys behind it. -/
structure Ex (w : World) (q B : Nat) (v : Value) (ks : List (List UInt8)) (l : List UInt8) (W : World) : Prop where
  bld : Bld W q l
  st : St W B v ks
  lo : q < B
  bel : Below q w W
section
variable {w W W' : World} {q B X : Nat} {v : Value} {ks : List (List UInt8)} {l l' : List UInt8} {cs : Array Value}
theorem Ex.below (h : Ex w q B v ks l W) (hb : Below W.heap.size W W') : Ex w q B v ks l W' :=
  ⟨h.bld.grown hb, h.st.below hb, h.lo, h.bel.trans (hb.mono (Nat.le_of_lt h.bld.lt))⟩
end
section
variable {w0 w : World} {P : Nat → Prop} {b M : Nat} {m : List En}
theorem len_t (w : World) (h : TabAt w b M m) : Calls Tryz.prog 45 #[tp b] w fun e w' => e = .returned (.int .i64 (m.length : Int)) ∧ Below w.heap.size w w' := by
  have c0 : w.cell? ⟨b, 0, none⟩ = some (.map (some M)) := h.hd.cell 0
  obtain ⟨D, hD⟩ := h.mp
  have hlen := hD.len
  clear hD h
  go_enter Tryz.func45, Tryz.ntmps45
  go_wp2_with fail
  go_ret
  exact ⟨rfl, Below.refl _ w⟩
end
end Go.Proofs.YtlnjnpchkdipdaaGreat.Taby
namespace Go.Proofs.YtlnjnpchkdipdaaGreat.Storey
open Go.ChangeShapes Go.WideShapes Go.ChangeAt Go.RowKit
open Wirey (Blk Row str str_size str_list Kp)
open Taby (En TabAt Tbl tp find ins drop size ended St Sl rows keysOf)
open Policyy (Pv HeldP StepP Tell)
open Ringy (Key)
open Regy

section
variable {w0 w w' w'' : World} {B b T M C S : Nat} {H H' : Nat → Prop} {s t : Sv} {k : Key} {v : Value} {l : List Key} {o : Opn} {x : Rcd}
/-- Entries that are gathered, and the row of all keys beside them. -/
structure Col (w W : World) (v : Value) (l : List En) (kv : Value) (ks : List Key) : Prop where
  sl : Sl W w.heap.size v l
  st : St W w.heap.size kv ks
  no : ∀ g, v.ownBlock = some g → kv.ownBlock ≠ some g
  bel : Below w.heap.size w W
theorem Col.below {W W' : World} {kv : Value} {m : List En} (h : Col w W v m kv l) (hb : Below W.heap.size W W') : Col w W' v m kv l := ⟨h.sl.below hb, h.st.below hb, h.no, h.bel.trans (hb.mono h.bel.size)⟩
theorem Col.grown {W W' : World} {kv v' : Value} {m m' : List En} (h : Col w W v m kv l) (hs : Sl W' w.heap.size v' m') (hg : W.grownBy W' v.ownBlock) {g : Nat} (hv : v'.ownBlock = some g) (hat : v.ownBlock = some g ∨ g = W.heap.size) : Col w W' v' m' kv l := by
  have hrow := h.sl.lt
  refine ⟨hs, h.st.stay fun k hk => hg.block k (h.st.lt k hk).2 (fun e => h.no k e.symm hk), fun k hk hkv => ?_, ?_⟩
  · rw [hv] at hk
    have e := Option.some.inj hk
    subst e
    rcases hat with e | e
    · exact h.no g e hkv
    · have := (h.st.lt g hkv).2; omega
  · exact h.bel.trans ⟨hg.os, hg.tape, hg.output, hg.size, fun k hk => hg.block k (Nat.lt_of_lt_of_le hk h.bel.size) (fun e => by have := (hrow k e.symm).1; omega)⟩
set_option maxHeartbeats 4000000 in
set_option maxRecDepth 100000 in
theorem entries_s (hl : s.m.length ≤ 100000) (h : At w0 w b T M C S H s) :
    Calls Tryz.prog 21 #[tp b] w fun e w' => ∃ v, e = .returned v ∧ Sl w' w.heap.size v s.m ∧ Below w.heap.size w w' := by
  obtain ⟨i0, hi0, hz0, hz1, hz2⟩ : ∃ i0, Tryz.prog.info? 81 = some i0 ∧ i0.zero = some (.agg #[.string ⟨#[]⟩, .string ⟨#[]⟩, .int .u64 0, .int .u64 0]) ∧ i0.size = 4 ∧ i0.bytes = 48 := by
    have h := Taby.entry_info
    cases hh : Tryz.prog.info? 81 with
    | none => rw [hh] at h; cases h
    | some i => rw [hh] at h; injection h with h; injection h with h1 h2; injection h2 with h2 h3; exact ⟨i, rfl, h1, h2, h3⟩
  have hrise := h.tab.rise
  have hok := h.tab.ok
  have hmade := made_s h
  obtain ⟨-, -, -, -, -, -, -, -, -, c9, -, -⟩ := h.cs
  have hgt : ∀ {W : World} {x : En}, Below w.heap.size w W → x ∈ s.m → Calls Tryz.prog 47 #[tp T, .string (str x.key)] W fun e w' => e = .returned (.tuple #[.agg x.cs, .bool true]) ∧ Below W.heap.size W w' := fun hW hx => look_yes (hok _ hx).key (Taby.find_of_mem hrise hx) (h.later hW (Nat.le_refl _))
  have hcc : ∀ {W : World}, Below w.heap.size w W → W.cell? ⟨b, 9, none⟩ = some (tp T) := fun hW => (h.later hW (Nat.le_refl _)).c rfl
  have hkey : ∀ {W : World}, Below w.heap.size w W → Calls Tryz.prog 46 #[tp T] W fun e w' => ∃ v, e = .returned v ∧ St w' W.heap.size v (keysOf s.m) ∧ Below W.heap.size W w' := fun hW => Taby.keys_t hl _ (h.later hW (Nat.le_refl _)).tab
  have hlen := Taby.len_t w h.tab
  generalize hmm : s.m = m at *
  go_enter Tryz.func21, Tryz.ntmps21
  go_wp2_with fail
  refine hmade.mono ?_
  rintro e w1 ⟨rfl, rfl⟩
  go_wp2_with fail
  refine hlen.mono ?_
  rintro e w2 ⟨rfl, hb2⟩
  obtain ⟨w3, hrun, hown, hgr⟩ := run_make_own (P := Tryz.prog) w2 w.heap.size 31 81 i0 _ 4 Tryz.underlying31 hi0 hz0 hz1 .i64 .i64 m.length (by rw [hz2]; omega) (by unfold maxLen; omega) hb2.size
  have hb3 : Below w.heap.size w w3 := hb2.trans ⟨hgr.os, hgr.tape, hgr.output, hgr.size, fun k hk => hgr.block k (by have := hb2.size; omega) (by simp)⟩
  have hS3 : Sl w3 w.heap.size (.slice (some ⟨w2.heap.size, 0, none⟩) 0 m.length) [] := hown
  have hlt3 : w2.heap.size < w3.heap.size := (hS3.lt _ rfl).2
  have c93 := hcc hb3
  clear hlen hown hgr hmade c9
  go_wp2_with fail
  refine (hkey hb3).mono ?_
  rintro e w4 ⟨vk, rfl, hst, hb4⟩
  have hC4 : Col w w4 (.slice (some ⟨w2.heap.size, 0, none⟩) 0 m.length) (m.take 0) vk (keysOf m) := ⟨by rw [List.take_zero]; exact hS3.below hb4, hst.low hb3.size, fun g hg hk => by
    have e : w2.heap.size = g := Option.some.inj hg
    have := (hst.lt g hk).1
    omega, hb3.trans (hb4.mono hb3.size)⟩
  clear hst hb3 hb4 hS3 hb2 hrun hkey hlt3 c93
  generalize w2.heap.size = g0 at *
  obtain ⟨oa, oc, rfl⟩ := hC4.st.form
  rw [Taby.keysOf_len] at hC4 ⊢
  go_wp2_with fail
  go_loopw [3, 23] (fun v i wr => ∃ (j : Nat), j ≤ m.length ∧ i = .int .i64 j ∧ Col w wr v (m.take j) (.slice oa m.length oc) (keysOf m)) (fun v i _ => m.length - (intOf i).toNat)
  case atStart => exact ⟨0, by omega, rfl, hC4⟩
  case round =>
    clear hC4
    obtain ⟨j, hj, rfl, hC⟩ := hrel
    by_cases h3 : j < m.length
    · obtain ⟨x, hx⟩ : ∃ x, m[j]? = some x := ⟨_, List.getElem?_eq_getElem h3⟩
      have hxm := List.mem_of_getElem? hx
      have hkx : (keysOf m)[j]? = some x.key := by unfold keysOf; rw [List.getElem?_map, hx]; rfl
      have hst := hC.st
      rw [← Taby.keysOf_len m] at hst
      obtain ⟨g, rfl, -, -, hcell⟩ := hst.at_ hkx
      have c0 := hcell wr rfl
      clear hcell hst
      have hlt : (j : Int) < (m.length : Int) := by omega
      have hcall := hgt hC.bel hxm
      have c9 := hcc hC.bel
      have hsx : m.take (j + 1) = m.take j ++ [x] := by rw [List.take_add_one, hx]; rfl
      have HX := Lib.hid hsx
      clear hx hkx hsx
      have hlj : (m.take j).length ≤ 100000 := by rw [List.length_take]; omega
      generalize hD : m.take j = D at *
      clear hD
      obtain ⟨va, vc, rfl⟩ := hC.sl.form
      go_wp2_with fail
      refine hcall.mono ?_
      rintro e w5 ⟨rfl, hb5⟩
      have hC5 := (hC.below hb5).below ((Below.refl _ w5).alloc (Nat.le_refl _) (.cells x.cs 81))
      clear hcall c0 c9 hC hb5
      have hX6 := Blk.new w5 81 x.cs
      go_upto_region 8 with (fail)
      generalize w5.alloc (.cells x.cs 81) = w6 at *
      generalize w5.heap.size = p at *
      have x0 : w6.cell? ⟨p, 0, none⟩ = some (.string (str x.key)) := hX6.cell 0
      have x1 : w6.cell? ⟨p, 1, none⟩ = some (.string (str x.val)) := hX6.cell 1
      have x2 : w6.cell? ⟨p, 2, none⟩ = some (.int .u64 (x.ver : Int)) := hX6.cell 2
      have x3 : w6.cell? ⟨p, 3, none⟩ = some (.int .u64 (x.fin : Int)) := hX6.cell 3
      have hC6 := hC5.below ((Below.refl _ w6).alloc (Nat.le_refl _) (.cells x.cs 81))
      have hwz := hC5.bel.size
      have HC := Lib.hid hC6
      have hsl := hC5.sl
      clear hC5 hC6 hX6 hgt hcc hok hrise
      go_wp2_with (first | (refine wpList_append_lies _ (by rfl) _ _ _ (by rfl) w.heap.size 81 i0 _ 4 48 Tryz.underlying31 hi0 hz0 hz1 hz2 rfl (by omega) (.slice va D.length vc) D.length (rows D) (by rfl) (hsl.alloc _) ⟨w6.heap.size, 0, none⟩ 1 1 [.string (str x.key), .string (str x.val), .int .u64 (x.ver : Int), .int .u64 (x.fin : Int)] (by rfl) (by rfl) (World.news_of_block (cs := #[.string (str x.key), .string (str x.val), .int .u64 (x.ver : Int), .int .u64 (x.fin : Int)]) (t := 81) (fr := (0, 0)) (heap_alloc_new w6 _)) (by simp [Value.oneCell']) (by omega) (by simp [maxLen]; omega) (by omega) (by simp; omega) (w6.heap.size + 1) (by simp) ?_; intro gg cp w7 hown hgrow hat hlt3))
      have hC7 := HC.out.grown (v' := .slice (some ⟨gg, 0, none⟩) (D.length + 1) cp) (m' := D ++ [x]) (Taby.Sl.snoc hown) hgrow rfl (hat.imp id fun e => by rw [e]; simp)
      go_roundw
      case rel => exact ⟨j + 1, by omega, rfl, by rw [HX.out]; exact hC7⟩
      case measure => simp [intOf]; omega
    · obtain rfl : j = m.length := by omega
      rw [List.take_length] at hC
      obtain ⟨va, vc, rfl⟩ := hC.sl.form
      go_wp2_with fail
      (try simp only [Exit.inBlock, Exit.then])
      go_ret
      exact ⟨_, rfl, hC.sl, hC.bel⟩
end
end Go.Proofs.YtlnjnpchkdipdaaGreat.Storey
