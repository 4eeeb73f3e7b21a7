/- The program's cache moves to a tick: all that ended by then is taken away, key by key. The only condition: there are not more entries than may be. -/
import Derived.Test.YtlnjnpchkdipdaaGreatStoreOpsAll
import Derived.Test.YtlnjnpchkdipdaaGreatRegionKAll
namespace Go.Proofs.YtlnjnpchkdipdaaGreat.Storey
open Go.ChangeShapes Go.WideShapes Go.ChangeAt Go.RowKit
open Wirey (Blk Row str str_size str_list Kp)
open Taby (En TabAt Tbl tp find ins drop size ended St)
open Policyy (Pv HeldP StepP Tell)
open Ringy (Key)
open Regy

/-- A row of keys that lies beside the cache. -/
structure Kys (B : Nat) (b T M S : Nat) (H : Nat → Prop) (v : Value) (l : List Key) (W : World) : Prop where
  st : St W B v l
  no : ∀ g, v.ownBlock = some g → ¬ Own b T M S H g
section
variable {w0 w w' w'' : World} {B b T M C S : Nat} {H H' : Nat → Prop} {s t : Sv} {k : Key} {v : Value} {l : List Key}
theorem Kys.step (h : Kys B b T M S H v l w) (hs : Stp b T M S w H w' H') : Kys B b T M S H' v l w' :=
  ⟨h.st.stay fun g hg => hs.kp.block g (h.st.lt g hg).2 (h.no g hg), fun g hg ho => by
    rcases ho with h1 | h1 | h1 | h1 | h1
    · exact h.no g hg (.inl h1)
    · exact h.no g hg (.inr (.inl h1))
    · exact h.no g hg (.inr (.inr (.inl h1)))
    · exact h.no g hg (.inr (.inr (.inr (.inl h1))))
    · rcases hs.new g h1 with h2 | h2
      · exact h.no g hg (.inr (.inr (.inr (.inr h2))))
      · have := (h.st.lt g hg).2; omega⟩
theorem Kys.new (h : At w0 w b T M C S H s) (hs : St w' w.heap.size v l) : Kys w.heap.size b T M S H v l w' :=
  ⟨hs, fun g hg ho => by have := (h.low g ho).2; have := (hs.lt g hg).1; omega⟩
theorem Kys.at_ {a : Option Addr} {n c : Nat} (h : Kys B b T M S H (.slice a n c) l w) {i : Nat} {x : Key} (hx : l[i]? = some x) : ∃ g, a = some ⟨g, 0, none⟩ ∧ w.cell? ⟨g, i, none⟩ = some (.string (str x)) := by
  have hn : n = l.length := by obtain ⟨a', c', e⟩ := h.st.form; injection e
  subst hn
  obtain ⟨g, rfl, -, -, hc⟩ := h.st.at_ hx
  exact ⟨g, rfl, hc w rfl⟩
theorem away_len : ∀ (L : List Key) (s : Sv), (L.foldl Sv.away s).m.length ≤ s.m.length
  | [], _ => Nat.le_refl _
  | a :: L, s => Nat.le_trans (away_len L (s.away a)) Taby.drop_len
theorem ended_ok {now : Nat} {m : List En} (hok : ∀ x ∈ m, x.Ok) : ∀ k ∈ ended now m, k.length ≤ 64 := fun k hk => by
  unfold ended at hk
  obtain ⟨x, hx, rfl⟩ := List.mem_map.1 hk
  exact (hok x (List.mem_filter.1 hx).1).key
theorem ended_le {now : Nat} {m : List En} : (ended now m).length ≤ m.length := by
  unfold ended; rw [List.length_map]; exact List.length_filter_le _ _
set_option maxRecDepth 100000 in
theorem moveTo_s {now : Nat} (hn : now < 18446744073709551616) (hs : s.now < 18446744073709551616) (hl : s.m.length ≤ 100000) (h : At w0 w b T M C S H s) :
    Calls Tryz.prog 30 #[tp b, .int .u64 (now : Int)] w fun e w' => e = .returned (.tuple #[]) ∧ ∃ H', At w0 w' b T M C S H' (s.moveTo now) ∧ Stp b T M S w H w' H' := by
  obtain ⟨-, -, -, -, -, c5, -, -, -, -, -, -⟩ := h.cs
  have f5 := h.box.free 5
  have hmx : ((max s.now now : Nat) : Int) = max (s.now : Int) (now : Int) := by omega
  have hmlt : max s.now now < 18446744073709551616 := by omega
  obtain ⟨h1, s1⟩ := h.cell (s' := s.tick now) 5 (.int .u64 (max (s.now : Int) (now : Int))) (by rw [← hmx]; rfl) rfl rfl rfl
  have hok := ended_ok (now := max s.now now) h.tab.ok
  have hle := ended_le (now := max s.now now) (m := s.m)
  have HM := Lib.hid hmx
  clear hmx
  go_enter Tryz.func30, Tryz.ntmps30
  go_wp2_with fail
  generalize w.setCell ⟨b, 5, none⟩ (.int .u64 (max (s.now : Int) (now : Int))) = w1 at *
  clear c5 f5
  have mk : ∀ W, At w0 W b T M C S H (s.tick now) → Stp b T M S w H W H → W.cell? ⟨b, 9, none⟩ = some (tp T) ∧ W.cell? ⟨b, 5, none⟩ = some (.int .u64 ((max s.now now : Nat) : Int)) ∧ At w0 W b T M C S H (s.tick now) ∧ Stp b T M S w H W H := fun W h hs => ⟨h.c rfl, h.c rfl, h, hs⟩
  refine region_only 11 #[false, false, false, false, false, false, false, false, false, false, false] (S := fun W => W.cell? ⟨b, 9, none⟩ = some (tp T) ∧ W.cell? ⟨b, 5, none⟩ = some (.int .u64 ((max s.now now : Nat) : Int)) ∧ At w0 W b T M C S H (s.tick now) ∧ Stp b T M S w H W H) rfl rfl (by kernel_rfl) (mk _ h1.drew (s1.later (D := w1.heap.size) ⟨rfl, rfl, rfl, Nat.le_refl _, fun _ _ => rfl⟩ (Nat.le_refl _))) (fun hSw => ?_)
  refine take_at 0 15 (fuel := 10) ?_ rfl rfl (by kernel_rfl) (by kernel_rfl) (by kernel_rfl) (Or.inl ⟨by rfl, ?_⟩) hSw ?_
  rotate_left
  · intro wx hSx
    (try dsimp only at hSx)
    go_split_ands
    go_simp
    (try with_reducible rfl)
  simp only [List.setIfInBounds_toArray, List.set_cons_zero, List.set_cons_succ]
  refine take_at 1 16 (fuel := 9) ?_ rfl rfl (by kernel_rfl) (by kernel_rfl) (by kernel_rfl) (Or.inl ⟨by rfl, ?_⟩) hSw ?_
  rotate_left
  · intro wx hSx
    (try dsimp only at hSx)
    go_split_ands
    go_simp
    (try with_reducible rfl)
  simp only [List.setIfInBounds_toArray, List.set_cons_zero, List.set_cons_succ]
  refine take_at 2 17 (fuel := 8) ?_ rfl rfl (by kernel_rfl) (by kernel_rfl) (by kernel_rfl) (Or.inl ⟨by rfl, ?_⟩) hSw ?_
  rotate_left
  · intro wx hSx
    (try dsimp only at hSx)
    go_split_ands
    go_simp
    (try with_reducible rfl)
  simp only [List.setIfInBounds_toArray, List.set_cons_zero, List.set_cons_succ]
  refine take_at 3 18 (fuel := 7) ?_ rfl rfl (by kernel_rfl) (by kernel_rfl) (by kernel_rfl) (Or.inl ⟨by rfl, ?_⟩) hSw ?_
  rotate_left
  · intro wx hSx
    (try dsimp only at hSx)
    go_split_ands
    go_simp
    (try with_reducible rfl)
  simp only [List.setIfInBounds_toArray, List.set_cons_zero, List.set_cons_succ]
  refine take_at 4 19 (fuel := 6) ?_ rfl rfl (by kernel_rfl) (by kernel_rfl) (by kernel_rfl) (Or.inl ⟨by rfl, ?_⟩) hSw ?_
  rotate_left
  · intro wx hSx
    (try dsimp only at hSx)
    go_split_ands
    go_simp
    (try with_reducible rfl)
  simp only [List.setIfInBounds_toArray, List.set_cons_zero, List.set_cons_succ]
  refine take_at 5 20 (fuel := 5) ?_ rfl rfl (by kernel_rfl) (by kernel_rfl) (by kernel_rfl) (Or.inl ⟨by rfl, ?_⟩) hSw ?_
  rotate_left
  · intro wx hSx
    (try dsimp only at hSx)
    go_split_ands
    go_simp
    (try with_reducible rfl)
  simp only [List.setIfInBounds_toArray, List.set_cons_zero, List.set_cons_succ]
  refine take_at 6 21 (fuel := 4) ?_ rfl rfl (by kernel_rfl) (by kernel_rfl) (by kernel_rfl) (Or.inl ⟨by rfl, ?_⟩) hSw ?_
  rotate_left
  · intro wx hSx
    (try dsimp only at hSx)
    go_split_ands
    go_simp
    (try with_reducible rfl)
  simp only [List.setIfInBounds_toArray, List.set_cons_zero, List.set_cons_succ]
  refine take_at 7 22 (fuel := 3) ?_ rfl rfl (by kernel_rfl) (by kernel_rfl) (by kernel_rfl) (Or.inl ⟨by rfl, ?_⟩) hSw ?_
  rotate_left
  · intro wx hSx
    (try dsimp only at hSx)
    go_split_ands
    go_simp
    (try with_reducible rfl)
  simp only [List.setIfInBounds_toArray, List.set_cons_zero, List.set_cons_succ]
  refine take_at 10 25 (fuel := 2) ?_ rfl rfl (by kernel_rfl) (by kernel_rfl) (by kernel_rfl) (Or.inl ⟨by rfl, ?_⟩) hSw ?_
  rotate_left
  · intro wx hSx
    (try dsimp only at hSx)
    go_split_ands
    go_simp
    (try with_reducible rfl)
  simp only [List.setIfInBounds_toArray, List.set_cons_zero, List.set_cons_succ]
  refine wpAnyH_ready (fuel := 1) (rs := [8]) (by kernel_rfl) (by simp) (AllReadyH.cons rfl (fun K hK => ?_) AllReadyH.nil)
  go_simp
  refine Calls.mono (Taby.ended_t (max s.now now) hmlt hl _ hSw.2.2.1.tab) ?_
  rintro e wv ⟨vk, rfl, hst, hbv⟩
  have hky := Kys.new hSw.2.2.1 hst
  obtain ⟨oa, oc, rfl⟩ := hst.form
  clear hst
  refine hK.out _ _ (mk _ (hSw.2.2.1.below hbv) (hSw.2.2.2.later hbv (Nat.le_refl _))) (fun hSw => ?_)
  clear hK K
  simp only [List.setIfInBounds_toArray, List.set_cons_zero, List.set_cons_succ]
  refine take_at 9 24 (fuel := 0) ?_ rfl rfl (by kernel_rfl) (by kernel_rfl) (by kernel_rfl) (Or.inl ⟨by rfl, ?_⟩) hSw ?_
  rotate_left
  · intro wx hSx
    (try dsimp only at hSx)
    go_split_ands
    go_simp
    (try with_reducible rfl)
  simp only [List.setIfInBounds_toArray, List.set_cons_zero, List.set_cons_succ]
  refine wpAnyH_done (by kernel_rfl) ⟨rfl, ?_⟩ 0
  obtain ⟨-, -, h2, s2⟩ := hSw
  clear mk h1 s1
  have hfin : s.moveTo now = (ended (max s.now now) s.m).foldl Sv.away (s.tick now) := rfl
  have HF := Lib.hid hfin
  clear hfin
  have hlL : (ended (max s.now now) s.m).length < 1000000 := by omega
  generalize ended (max s.now now) s.m = L at *
  generalize w1.drew.heap.size = B at *
  go_wp2_with fail
  go_loopw [25] (fun i wr => ∃ (j : Nat) (H' : Nat → Prop), j ≤ L.length ∧ i = .int .i64 j ∧ At w0 wr b T M C S H' ((L.take j).foldl Sv.away (s.tick now)) ∧ Stp b T M S w H wr H' ∧ Kys B b T M S H' (.slice oa L.length oc) L wr) (fun i _ => L.length - (intOf i).toNat)
  case atStart => exact ⟨0, H, by omega, rfl, h2, s2, hky⟩
  case round =>
    clear h2 s2 hky
    obtain ⟨j, H1, hj, rfl, hA, hS, hK⟩ := hrel
    by_cases h3 : j < L.length
    · obtain ⟨x, hx⟩ : ∃ x, L[j]? = some x := ⟨_, List.getElem?_eq_getElem h3⟩
      have hx64 := hok x (List.mem_of_getElem? hx)
      have hml := Nat.le_trans (away_len (L.take j) (s.tick now)) (show (s.tick now).m.length ≤ 100000 from hl)
      obtain ⟨g, rfl, hc⟩ := hK.at_ hx
      have hlt : (j : Int) < (L.length : Int) := by omega
      have hnx : (L.take (j + 1)).foldl Sv.away (s.tick now) = ((L.take j).foldl Sv.away (s.tick now)).away x := Taby.foldl_take _ _ _ hx
      have hcall := away_s hx64 hml hA
      have HX := Lib.hid hx
      clear hx
      go_wp2_with fail
      refine hcall.mono ?_
      rintro e w3 ⟨rfl, H2, h3a, h3s⟩
      have hK3 := hK.step h3s
      have hS3 := hS.trans h3s
      rw [← hnx] at h3a
      clear hcall hnx hA hS hK hc
      go_wp2_with fail
      go_roundw
      case rel => exact ⟨j + 1, H2, by omega, rfl, h3a, hS3, hK3⟩
      case measure => simp [intOf]; omega
    · obtain rfl : j = L.length := by omega
      rw [List.take_length] at hA
      go_wp2_with fail
      (try simp only [Exit.inBlock, Exit.then])
      exact bodyPost_end (v := .tuple #[]) (results_none rfl _ _ _) rfl ⟨rfl, H1, by rw [HF.out]; exact hA, hS⟩
end
end Go.Proofs.YtlnjnpchkdipdaaGreat.Storey
