/- Contracts of New and of Back. No condition. -/
import Derived.Test.YtlnjnpchkdipdaaGreatRingFront
import Derived.Laws.MakeOwn
namespace Go.Proofs.YtlnjnpchkdipdaaGreat.Ringy
open Go.ChangeShapes Go.WideShapes Go.ChangeAt Go.RowKit
open Wirey (Blk Row str str_size str_list Kp)
open Go.ChangeMaps Go.Maps

theorem mk_lens {n : Nat} (h : n ≤ 100) (w : World) : (Instr.makeSlice 195 (.int .i64 (n : Int)) (.int .i64 (n : Int))).run Tryz.prog w = .ok (.slice (some ⟨w.heap.size, 0, none⟩) n n) (w.alloc (.cells (intsV (List.replicate n 0)).toArray 3)) := by
  obtain ⟨i0, hi, hz0, hz1, hz2⟩ := info_parts int_info
  have h := run_make (P := Tryz.prog) w 195 3 i0 (.int .i64 0) Tryz.underlying195 hi hz0 .i64 .i64 (n : Int) (n : Int) (by omega) (by omega) (by rw [hz2]; omega) (by omega)
  rw [h, hz1, Int.toNat_natCast, Nat.mul_one]
  have e : madeCells (Value.int .i64 0).cells n = (intsV (List.replicate n 0)).toArray := by
    show madeCells #[Value.int .i64 0] n = _
    apply Array.ext'
    rw [toList_madeCells_one]
    simp [intsV, iv]
  rw [e]

/-- New lists that have no slots yet. -/
theorem raw_start (w : World) (places n : Nat) :
    let w1 := ((w.alloc (.cells (intsV (List.replicate n 0)).toArray 3)).alloc (.map #[] 0)).alloc (.cells #[.int .i64 (places : Int), .slice (some ⟨w.heap.size, 0, none⟩) n n, .slice none 0 0, .map (some (w.heap.size + 1)), .slice none 0 0] 224)
    RawAt w1 ⟨w.heap.size + 2, w.heap.size, w.heap.size + 1, .slice none 0 0, .slice none 0 0⟩ places (List.replicate n 0) [] [] (.map []) ∧ Below w.heap.size w w1 := by
  intro w1
  have s1 : (w.alloc (.cells (intsV (List.replicate n 0)).toArray 3)).heap.size = w.heap.size + 1 := by simp
  have s2 : ((w.alloc (.cells (intsV (List.replicate n 0)).toArray 3)).alloc (.map #[] 0)).heap.size = w.heap.size + 2 := by simp
  refine ⟨⟨?_, ?_, World.ownsRow_nil _ _ _ _, ?_, World.ownsRow_nil _ _ _ _, by simp [Value.ownBlock]⟩, ((((Below.refl _ w).alloc (Nat.le_refl _) _).alloc (by omega) _).alloc (by omega) _)⟩
  · have := Blk.new ((w.alloc (.cells (intsV (List.replicate n 0)).toArray 3)).alloc (.map #[] 0)) 224 #[.int .i64 (places : Int), .slice (some ⟨w.heap.size, 0, none⟩) n n, .slice none 0 0, .map (some (w.heap.size + 1)), .slice none 0 0]
    rw [s2] at this
    simp only [List.length_replicate]
    exact this
  · exact ((Blk.new w 3 (intsV (List.replicate n 0)).toArray).alloc _).alloc _
  · have := (World.ownsMap_made (w.alloc (.cells (intsV (List.replicate n 0)).toArray 3)) Tryz.prog 9 (plainElem (H := Unit) Tryz.prog 3)).alloc (.cells #[.int .i64 (places : Int), .slice (some ⟨w.heap.size, 0, none⟩) n n, .slice none 0 0, .map (some (w.heap.size + 1)), .slice none 0 0] 224)
    rw [s1] at this
    exact this

/-- New, whole. -/
theorem full_start {w : World} {m : Rm} {places n : Nat} (h : RawAt w m places (List.replicate n 0) (newS n) [] (.map [])) (h1 : 1 ≤ n) (h2 : n ≤ 100) (h3 : places ≤ 4096) : At w m (Rg.new n places) := by
  have hno : ∀ k, ¬ (Rg.new n places).has k := fun k hk => by obtain ⟨_, _, h⟩ := hk; exact absurd h List.not_mem_nil
  refine ⟨_, _, _, _, fun _ => 0, h, lay_new n places _, Rg.new_wf h1 h2 h3, ⟨fun k hk => absurd hk (hno k), fun k _ => rfl, by rw [many_new]; rfl⟩, ⟨List.nodup_nil, by simp, ?_, ?_⟩⟩
  · rw [newS_len, many_new]; rfl
  · rw [many_new]; exact Nat.zero_le _
set_option maxHeartbeats 2000000 in
set_option maxRecDepth 100000 in
theorem empty_c {n places : Nat} (h1 : 1 ≤ n) (h2 : n ≤ 100) (h3 : places ≤ 4096) (w : World) :
    Calls Tryz.prog 112 #[.int .i64 (n : Int), .int .i64 (places : Int)] w fun e w' => e = .returned (.pointer (some ⟨w.heap.size + 2, 0, none⟩)) ∧ ∃ m, m.R = w.heap.size + 2 ∧ At w' m (Rg.new n places) ∧ Below w.heap.size w w' ∧ ∀ b, m.own b → w.heap.size ≤ b := by
  have hmk := fun W => mk_lens h2 W
  have hmm := @run_makeMap Tryz.prog
  obtain ⟨i0, hi0, hz0, hz1, hz2⟩ := info_parts slot_info
  obtain ⟨hA0, hb0⟩ := raw_start w places n
  go_enter Tryz.func112, Tryz.ntmps112
  go_wp2_with fail
  generalize ((w.alloc (.cells (intsV (List.replicate n 0)).toArray 3)).alloc (.map #[] 0)).alloc (.cells #[.int .i64 (places : Int), .slice (some ⟨w.heap.size, 0, none⟩) n n, .slice none 0 0, .map (some (w.heap.size + 1)), .slice none 0 0] 224) = w1 at *
  go_loopw [14] (fun i wr => ∃ j : Nat, j ≤ n ∧ i = .int .i64 j ∧ ∃ m : Rm, m.R = w.heap.size + 2 ∧ RawAt wr m places (List.replicate n 0) (newS j) [] (.map []) ∧ Below w.heap.size w wr ∧ ∀ b, m.own b → w.heap.size ≤ b) (fun i _ => n - (intOf i).toNat)
  case atStart =>
    refine ⟨0, by omega, rfl, _, rfl, hA0, hb0, ?_⟩
    rintro b (hb | hb | hb | hb | hb)
    · rw [hb]; show w.heap.size ≤ w.heap.size + 2; omega
    · rw [hb]; exact Nat.le_refl _
    · rw [hb]; show w.heap.size ≤ w.heap.size + 1; omega
    · cases hb
    · cases hb
  case round =>
    obtain ⟨j, hj, rfl, m, hR, hA, hb, hO⟩ := hrel
    clear hA0 hb0
    by_cases hn : j < n
    · obtain ⟨-, -, c2, -, -⟩ := hA.cells
      have z := hA.hd.free 2
      have hsl := hA.sl
      rw [newS_len] at hsl
      have hRl := hA.hd.lt
      have hRs : m.vS.ownBlock ≠ some m.R := fun e => by obtain ⟨c, hb⟩ := owned_blk hA.sl e; exact hb.ne_ hA.hd (by decide) rfl
      have hc2 : ∀ o, (wr.alloc o).cell? ⟨m.R, 2, none⟩ = some m.vS := fun o => (hA.alloc o).hd.cell 2
      have hz3 := fun o => (hA.alloc o).hd.free 2
      have HP := Lib.hid (fun (o : Obj) (w1 : World) (g' cap' : Nat) (s : Sl) hgr hown hat => hA.moreS (o := o) (w1 := w1) (g' := g') (cap' := cap') (s := s) hgr hown hat)
      have HO := Lib.hid hO
      have HB := Lib.hid hb
      have hbs := hb.size
      clear hA hO hb
      rw [newS_len] at HP
      have HRe := Lib.hid hR
      rw [hR] at c2 z hRl hRs hc2 hz3
      clear hR
      generalize hvs : m.vS = vs at *
      clear hvs
      go_wp2_with (first | (refine wpList_append_lies _ (by rfl) _ _ _ (by rfl) 0 226 i0 _ 4 40 Tryz.underlying222 hi0 hz0 hz1 hz2 rfl (by omega) vs j (flat (newS j)) (by rfl) (hsl.alloc _) ⟨wr.heap.size, 0, none⟩ 1 1 (slc ⟨[], j, j, j⟩) (by rfl) (by rfl) (World.news_of_block (cs := #[.string ⟨#[]⟩, .int .i64 (j : Int), .int .i64 (j : Int), .int .i64 (j : Int)]) (t := 226) (fr := (0, 0)) (heap_alloc_new wr _)) (by simp [Value.oneCell', slc, iv]) (by omega) (by simp [maxLen]; omega) (by omega) (by omega) (wr.heap.size + 1) (by simp) ?_; intro gg cp w3 hown1 hgrow hat3 hlt3; have x4 := (hgrow.cell_far ⟨w.heap.size + 2, 2, none⟩ (by simp; omega) (Ne.symm hRs)).trans (hc2 _); have y4 := (hgrow.frozen_far ⟨w.heap.size + 2, 2, none⟩ (by simp; omega) (Ne.symm hRs)).trans (hz3 _)))
      go_roundw
      case rel =>
        obtain ⟨hA4, hK4, hO4⟩ := HP.out _ _ _ _ _ hgrow hown1 hat3
        rw [← newS_snoc] at hA4
        refine ⟨j + 1, by omega, rfl, { m with vS := .slice (some ⟨gg, 0, none⟩) (j + 1) cp }, HRe.out, ?_, ?_, ?_⟩
        · rw [← HRe.out]; exact hA4
        · have hx : ∀ b, m.own b → w.heap.size ≤ b := HO.out
          have hK : Kp m.own wr (w3.setCell ⟨w.heap.size + 2, 2, none⟩ (.slice (some ⟨gg, 0, none⟩) (j + 1) cp)) := by rw [← HRe.out]; exact hK4
          exact HB.out.trans ⟨hK.os, hK.tape, hK.output, hK.size, fun k hk => hK.block k (Nat.lt_of_lt_of_le hk HB.out.size) (fun ho => by have := hx k ho; omega)⟩
        · intro b hb
          rcases hO4 b hb with h | h
          · exact HO.out b h
          · exact Nat.le_trans HB.out.size h
      case measure => simp [intOf]; omega
    · obtain rfl : j = n := by omega
      go_wp2_with fail
      go_ret
      exact ⟨rfl, m, hR, full_start hA h1 h2 h3, hb, hO⟩
set_option maxHeartbeats 2000000 in
theorem new_c {n places : Nat} (h1 : 1 ≤ n) (h2 : n ≤ 8) (h3 : places ≤ 4096) (w : World) :
    Calls Tryz.prog 78 #[.int .i64 (n : Int), .int .i64 (places : Int)] w fun e w' => e = .returned (.tuple #[.pointer (some ⟨w.heap.size + 2, 0, none⟩), .int .i64 0]) ∧ ∃ m, m.R = w.heap.size + 2 ∧ At w' m (Rg.new n places) ∧ Below w.heap.size w w' ∧ ∀ b, m.own b → w.heap.size ≤ b := by
  have hE := empty_c (n := n) (places := places) h1 (by omega) h3 w
  go_enter Tryz.func78, Tryz.ntmps78
  go_wp2_with fail
  refine hE.mono ?_
  rintro e w' ⟨rfl, hp⟩
  go_wp2_with fail
  go_ret2
  exact ⟨rfl, hp⟩
/-! Back -/
section
variable {m : Rm} {r : Rg}
set_option maxHeartbeats 1000000 in
theorem back_none {j : Nat} (w : World) (hA : At w m r) (hj : j < r.n) (h : r.l j = []) :
    Calls Tryz.prog 238 #[.pointer (some ⟨m.R, 0, none⟩), .int .i64 (j : Int)] w fun e w' => e = .returned (.tuple #[.string ⟨#[]⟩, .bool false]) ∧ w' = w := by
  have hl := len_c' w hA hj
  rw [h] at hl
  clear h
  go_enter Tryz.func238, Tryz.ntmps238
  go_wp2_with fail
  refine hl.mono ?_
  rintro e w' ⟨rfl, rfl⟩
  go_wp2_with fail
  go_ret2
  exact ⟨rfl, rfl⟩
theorem Lk.end_ {nx pv : Nat → Nat} : ∀ {a : Nat} {s : List Nat} {x z : Nat}, Lk nx pv a (s ++ [x]) z → pv z = x
  | _, [], _, _, h => h.2.2
  | _, b :: t, _, _, h => Lk.end_ (a := b) (s := t) h.2
set_option maxHeartbeats 1000000 in
theorem back_yes {j : Nat} {s : List Key} {k : Key} (w : World) (hA : At w m r) (hj : j < r.n) (h : r.l j = s ++ [k]) :
    Calls Tryz.prog 238 #[.pointer (some ⟨m.R, 0, none⟩), .int .i64 (j : Int)] w fun e w' => e = .returned (.tuple #[.string (str k), .bool true]) ∧ w' = w := by
  have hl := len_c' w hA hj
  rw [h, List.length_append, List.length_singleton] at hl
  obtain ⟨lens, S, F, D, pos, hF⟩ := hA
  obtain ⟨p1, p2, hk, -⟩ := hF.lay.at_ j k hj (by rw [h]; simp)
  have hlk := hF.lay.lk j hj
  rw [h, List.map_append] at hlk
  have hah : (gt S j).ahead = pos k := hlk.end_
  have hjS : j < S.length := Nat.lt_of_lt_of_le hj hF.lay.sz
  obtain ⟨g, cap, hv⟩ := hF.raw.form (by omega)
  obtain ⟨-, -, c2, -, -⟩ := hF.raw.cells
  rw [hv] at c2
  obtain ⟨-, -, s2, -⟩ := hF.raw.slotAt hv hjS
  obtain ⟨s0, -, -, -⟩ := hF.raw.slotAt hv p2
  rw [hk] at s0
  rw [hah] at s2
  have hz : (((s.length + 1 : Nat) : Int) == 0) = false := by rw [beq_eq_false_iff_ne]; omega
  clear hF hlk hah h hk
  generalize pos k = p at *
  go_enter Tryz.func238, Tryz.ntmps238
  go_wp2_with fail
  refine hl.mono ?_
  rintro e w' ⟨rfl, rfl⟩
  go_wp2_with fail
  go_ret2
  exact ⟨rfl, rfl⟩
end
end Go.Proofs.YtlnjnpchkdipdaaGreat.Ringy
