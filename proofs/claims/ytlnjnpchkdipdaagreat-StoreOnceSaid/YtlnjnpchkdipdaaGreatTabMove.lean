/- The program's table: Drop and Put. The only condition: an entry may be, and there are not too many. -/
import Derived.Test.YtlnjnpchkdipdaaGreatTabOpsAll
import Derived.Test.YtlnjnpchkdipdaaGreatRegionKAll
import Derived.WalkSpells
namespace Go.Proofs.YtlnjnpchkdipdaaGreat.Taby
open Go.ChangeShapes Go.WideShapes Go.ChangeAt Go.RowKit Go.ChangeMaps Go.Maps
open Wirey (Blk Row str str_size str_list str_inj Kp)
open Regy
section
variable {w0 w : World} {P : Nat → Prop} {b M : Nat} {m : List En}
theorem wrap_is (z : Int) : IntKind.i64.wrap z = wrap64 z := by rw [IntKind.wrap_i64, wrap64]
/-- What is one of the table's two blocks may turn. -/
abbrev Tbl (b M : Nat) : Nat → Prop := fun j => j = b ∨ j = M
theorem TabAt.kpBelow {w w' : World} (hb : Below w.heap.size w w') : Kp (Tbl b M) w w' := ⟨hb.os, hb.tape, hb.output, hb.size, fun k hk _ => hb.block k hk⟩
set_option maxHeartbeats 4000000 in
set_option maxRecDepth 100000 in
theorem drop_t (k : List UInt8) (hk : k.length ≤ 64) (hl : m.length ≤ 100000) (w : World) (h : TabAt w b M m) : Calls Tryz.prog 88 #[tp b, .string (str k)] w fun e w' => e = .returned (.bool (find k m).isSome) ∧ TabAt w' b M (drop k m) ∧ Kp (Tbl b M) w w' := by
  cases hf : find k m with
  | none =>
    have hget := get_t k hk w h
    rw [hf] at hget
    have hd := drop_none hf
    rw [hd]
    go_enter Tryz.func88, Tryz.ntmps88
    go_wp2_with fail
    refine hget.mono ?_
    rintro e w1 ⟨rfl, hb⟩
    have hb2 := hb.alloc hb.size (.cells #[.string ⟨#[]⟩, .string ⟨#[]⟩, .int .u64 0, .int .u64 0] 81)
    have hT := h.below hb2
    go_wp2_with fail
    go_ret
    exact ⟨rfl, hT, TabAt.kpBelow hb2⟩
  | some x =>
  have hx : x.Ok := h.ok x (find_mem hf).1
  have hget := get_t k hk w h
  rw [hf] at hget
  simp only [Option.getD_some, Option.isSome_some] at hget
  obtain ⟨hn1, hn2⟩ := drop_one h.rise hf
  have hsl := size_le h.ok
  go_enter Tryz.func88, Tryz.ntmps88
  go_wp2_with fail
  refine hget.mono ?_
  rintro e w1 ⟨rfl, hb⟩
  have hb2 := hb.alloc hb.size (.cells #[.string (str x.key), .string (str x.val), .int .u64 (x.ver : Int), .int .u64 (x.fin : Int)] 81)
  have hT := h.below hb2
  have hX := Blk.new w1 81 #[.string (str x.key), .string (str x.val), .int .u64 (x.ver : Int), .int .u64 (x.fin : Int)]
  have hw1 := hb.size
  go_upto_region 4 with (fail)
  generalize w1.alloc (.cells #[.string (str x.key), .string (str x.val), .int .u64 (x.ver : Int), .int .u64 (x.fin : Int)] 81) = w2 at *
  generalize w1.heap.size = X at *
  obtain ⟨D, hD⟩ := hT.mp
  obtain ⟨wa, D', hrun, hD', hgr, hsz⟩ := hD.drop h.rise (k := k) (by unfold maxLen; omega) 0
  have c0 : w2.cell? ⟨b, 0, none⟩ = some (.map (some M)) := hT.hd.cell 0
  have hbX := hT.hd.lt
  have hMX := hT.ltM
  have hbw := h.hd.lt
  have hMw := h.ltM
  have hbk : Blk wa b 125 #[.map (some M), .int .i64 (size m : Int)] := hT.hd.grown hgr (fun e => h.ne (by injection e))
  have hxk : Blk wa X 81 #[.string (str x.key), .string (str x.val), .int .u64 (x.ver : Int), .int .u64 (x.fin : Int)] := hX.grown hgr (fun e => absurd (Option.some.inj e) (by omega))
  have hXb : X ≠ b := by omega
  have hKp : Kp (Tbl b M) w wa := (TabAt.kpBelow hb2).trans ⟨hgr.os, hgr.tape, hgr.output, hgr.size, fun k hk hn => hgr.block k hk (fun e => hn (.inr (Option.some.inj e)))⟩
  go_upto_region 5 with (fail)
  clear hrun c0 hD hT hX hgr hb2 hb hget
  generalize hnm : size m = n at *
  have HN := Lib.hid hnm
  clear hnm
  have cs : ∀ {W : World}, Below wa.heap.size wa W → (fun W : World => W.cell? ⟨b, 1, none⟩ = some (.int .i64 (n : Int)) ∧ W.cell? ⟨X, 0, none⟩ = some (.string (str x.key)) ∧ W.cell? ⟨X, 1, none⟩ = some (.string (str x.val)) ∧ W.cell? ⟨X, 2, none⟩ = some (.int .u64 (x.ver : Int)) ∧ W.cell? ⟨X, 3, none⟩ = some (.int .u64 (x.fin : Int))) W := fun {W} hW => by
    have q0 := (hbk.below hW hbk.lt).cell 1
    have q1 := hxk.below hW hxk.lt
    exact ⟨q0, q1.cell 0, q1.cell 1, q1.cell 2, q1.cell 3⟩
  have hb0 : Below wa.heap.size wa wa.drew := (Below.refl _ _).drew
  refine regionK_only 10 #[false, false, false, false, false, false, false, false, false, false] 9 (V := (fun W : World => W.cell? ⟨b, 1, none⟩ = some (.int .i64 (n : Int)) ∧ W.cell? ⟨X, 0, none⟩ = some (.string (str x.key)) ∧ W.cell? ⟨X, 1, none⟩ = some (.string (str x.val)) ∧ W.cell? ⟨X, 2, none⟩ = some (.int .u64 (x.ver : Int)) ∧ W.cell? ⟨X, 3, none⟩ = some (.int .u64 (x.fin : Int)))) rfl rfl (by kernel_rfl) (cs hb0) (fun hSw => ?_)
  generalize wa.drew = w20 at hb0 hSw ⊢
  have hb20 := hb0
  clear hb0
  refine early_at 9 0 20 (fuel := 9) ?_ rfl rfl (by kernel_rfl) (by kernel_rfl) (by kernel_rfl) (by decide) rfl (by kernel_rfl) (by kernel_rfl) (Or.inl ⟨by rfl, ?_⟩) hSw ?_
  rotate_left
  · intro wx hSx
    (try dsimp only at hSx)
    go_split_ands
    go_simp
    (try with_reducible rfl)
  simp only [List.setIfInBounds_toArray, List.set_cons_zero, List.set_cons_succ]
  refine early_at 9 1 21 (fuel := 8) ?_ rfl rfl (by kernel_rfl) (by kernel_rfl) (by kernel_rfl) (by decide) rfl (by kernel_rfl) (by kernel_rfl) (Or.inl ⟨by rfl, ?_⟩) hSw ?_
  rotate_left
  · intro wx hSx
    (try dsimp only at hSx)
    go_split_ands
    go_simp
    (try with_reducible rfl)
  simp only [List.setIfInBounds_toArray, List.set_cons_zero, List.set_cons_succ]
  refine early_at 9 2 22 (fuel := 7) ?_ rfl rfl (by kernel_rfl) (by kernel_rfl) (by kernel_rfl) (by decide) rfl (by kernel_rfl) (by kernel_rfl) (Or.inl ⟨by rfl, ?_⟩) hSw ?_
  rotate_left
  · intro wx hSx
    (try dsimp only at hSx)
    go_split_ands
    go_simp
    (try with_reducible rfl)
  simp only [List.setIfInBounds_toArray, List.set_cons_zero, List.set_cons_succ]
  refine early_at 9 3 23 (fuel := 6) ?_ rfl rfl (by kernel_rfl) (by kernel_rfl) (by kernel_rfl) (by decide) rfl (by kernel_rfl) (by kernel_rfl) (Or.inl ⟨by rfl, ?_⟩) hSw ?_
  rotate_left
  · intro wx hSx
    (try dsimp only at hSx)
    go_split_ands
    go_simp
    (try with_reducible rfl)
  simp only [List.setIfInBounds_toArray, List.set_cons_zero, List.set_cons_succ]
  refine early_at 9 4 24 (fuel := 5) ?_ rfl rfl (by kernel_rfl) (by kernel_rfl) (by kernel_rfl) (by decide) rfl (by kernel_rfl) (by kernel_rfl) (Or.inl ⟨by rfl, ?_⟩) hSw ?_
  rotate_left
  · intro wx hSx
    (try dsimp only at hSx)
    go_split_ands
    go_simp
    (try with_reducible rfl)
  simp only [List.setIfInBounds_toArray, List.set_cons_zero, List.set_cons_succ]
  refine Wirey.wpAnyK_one 5 (by kernel_rfl) rfl (fun K hK => ?_)
  go_simp
  refine Calls.mono (size_c hx _) ?_
  rintro e wb ⟨rfl, hb1⟩
  have hb2 : Below wa.heap.size wa wb := hb20.trans (hb1.mono hb20.size)
  refine hK.out _ _ trivial (fun _ => cs hb2) ?_
  have hSw := cs hb2
  clear hK K
  simp only [List.setIfInBounds_toArray, List.set_cons_zero, List.set_cons_succ]
  refine early_at 9 6 26 (fuel := 3) ?_ rfl rfl (by kernel_rfl) (by kernel_rfl) (by kernel_rfl) (by decide) rfl (by kernel_rfl) (by kernel_rfl) (Or.inl ⟨by rfl, ?_⟩) hSw ?_
  rotate_left
  · intro wx hSx
    (try dsimp only at hSx)
    go_split_ands
    go_simp
    (try with_reducible rfl)
  simp only [List.setIfInBounds_toArray, List.set_cons_zero, List.set_cons_succ]
  refine takeK_at 9 7 27 (fuel := 2) ?_ rfl rfl (by kernel_rfl) (by kernel_rfl) (by kernel_rfl) (by decide) (Or.inl ⟨by rfl, ?_⟩) hSw ?_
  rotate_left
  · intro wx hSx
    (try dsimp only at hSx)
    go_split_ands
    go_simp
    (try with_reducible rfl)
  simp only [List.setIfInBounds_toArray, List.set_cons_zero, List.set_cons_succ]
  refine early_at 9 8 28 (fuel := 1) ?_ rfl rfl (by kernel_rfl) (by kernel_rfl) (by kernel_rfl) (by decide) rfl (by kernel_rfl) (by kernel_rfl) (Or.inl ⟨by rfl, ?_⟩) hSw ?_
  rotate_left
  · intro wx hSx
    (try dsimp only at hSx)
    go_split_ands
    go_simp
    (try with_reducible rfl)
  simp only [List.setIfInBounds_toArray, List.set_cons_zero, List.set_cons_succ]
  refine Wirey.wpAnyK_one 9 (by kernel_rfl) rfl (fun K hK => ?_)
  have y1 := (hbk.below hb2 hbk.lt).cell 1
  have f1 := (hbk.below hb2 hbk.lt).free 1
  simp only [List.getElem?_toArray, List.getElem?_cons_zero, List.getElem?_cons_succ] at y1
  go_simp
  refine hK.out _ _ trivial (fun h9 => absurd h9 (by decide)) ?_
  clear hK K
  refine Wirey.wpAnyK_done (by kernel_rfl) ⟨rfl, ?_⟩
  have hw2 : wrap64 ((n : Int) - ((x.key.length + x.val.length : Nat) : Int)) = ((size (drop k m) : Nat) : Int) := by unfold wrap64; omega
  go_wp2_with fail
  go_ret
  refine ⟨rfl, ⟨?_, ⟨D', ?_⟩, h.ne, drop_rise h.rise, drop_ok h.ok⟩, ?_⟩
  · have hp := (hbk.below hb2 hbk.lt).put 1 (.int .i64 (wrap64 ((n : Int) - ((x.key.length + x.val.length : Nat) : Int))))
    simp only [List.setIfInBounds_toArray, List.set_cons_zero, List.set_cons_succ] at hp
    rw [hw2] at hp
    rw [wrap_is, ← Int.natCast_add, hw2]
    exact hp
  · refine hD'.stay ((Below.heap_setCell _ _ _ _ (by show M ≠ b; exact fun e => h.ne e.symm)).trans (hb2.block M hD'.mp.lt))
  · exact hKp.trans ((TabAt.kpBelow hb2).trans ((Kp.refl _ _).set (p := ⟨b, 1, none⟩) (.inl rfl) _))
set_option maxHeartbeats 4000000 in
set_option maxRecDepth 100000 in
theorem put_t {x : En} (hx : x.Ok) (hl : m.length ≤ 100000) (w : World) (h : TabAt w b M m) : Calls Tryz.prog 121 #[tp b, .agg x.cs] w fun e w' => e = .returned (.tuple #[]) ∧ TabAt w' b M (ins x m) ∧ Kp (Tbl b M) w w' := by
  have hbB := (Below.refl _ w).alloc (Nat.le_refl _) (.cells #[.string (str x.key), .string (str x.val), .int .u64 (x.ver : Int), .int .u64 (x.fin : Int)] 81)
  have hX0 := Blk.new w 81 #[.string (str x.key), .string (str x.val), .int .u64 (x.ver : Int), .int .u64 (x.fin : Int)]
  have hT := h.below hbB
  have hbw := h.hd.lt
  have hMw := h.ltM
  have hne := h.ne
  have hrise := h.rise
  have hok := h.ok
  have hsl := size_le (drop_ok (k := x.key) hok)
  have hdl := drop_len (k := x.key) (l := m)
  have hfd : find x.key (drop x.key m) = Option.none := by rw [find_drop, if_pos rfl]
  have e1 := ins_drop x hrise
  have e2 := size_new hfd
  rw [e1] at e2
  have hx1 := hx.key
  have hx2 := hx.val
  have hnm : ∀ W : World, (binOp .eql 123 (.map (some M)) (.map none)).run Tryz.prog W = .ok (.bool false) W := fun W => run_eql_map_nil W 123 9 81 (some M) Tryz.underlying123
  go_enter Tryz.func121, Tryz.ntmps121
  go_upto_region 2 with (fail)
  generalize w.alloc (.cells #[.string (str x.key), .string (str x.val), .int .u64 (x.ver : Int), .int .u64 (x.fin : Int)] 81) = w1 at *
  have x0 := hX0.cell 0
  simp only [List.getElem?_toArray, List.getElem?_cons_zero] at x0
  go_upto_region 3 with (go_at_call 88; refine (drop_t x.key hx.key hl w1 hT).mono ?_; rintro e w2 ⟨rfl, hT2, hk2⟩)
  have hltX := hX0.lt
  have hX2 : Blk w2 w.heap.size 81 #[.string (str x.key), .string (str x.val), .int .u64 (x.ver : Int), .int .u64 (x.fin : Int)] := (hk2.block _ hltX (by rintro (e | e) <;> omega)).trans hX0
  have hKp := (TabAt.kpBelow (b := b) (M := M) hbB).trans hk2
  have c0 : w2.cell? ⟨b, 0, none⟩ = some (.map (some M)) := hT2.hd.cell 0
  generalize w.heap.size = X at *
  go_upto_region 5 with (fail)
  clear x0 hX0 hT hbB hk2
  have cs : ∀ {W : World}, Below w2.heap.size w2 W → (fun W : World => W.cell? ⟨b, 0, none⟩ = some (.map (some M)) ∧ W.cell? ⟨X, 0, none⟩ = some (.string (str x.key)) ∧ W.cell? ⟨X, 1, none⟩ = some (.string (str x.val)) ∧ W.cell? ⟨X, 2, none⟩ = some (.int .u64 (x.ver : Int)) ∧ W.cell? ⟨X, 3, none⟩ = some (.int .u64 (x.fin : Int))) W := fun {W} hW => by
    have q0 := (hT2.hd.below hW hT2.hd.lt).cell 0
    have q1 := hX2.below hW hX2.lt
    exact ⟨q0, q1.cell 0, q1.cell 1, q1.cell 2, q1.cell 3⟩
  have hb0 : Below w2.heap.size w2 w2.drew := (Below.refl _ _).drew
  obtain ⟨D, hD⟩ := (hT2.below hb0).mp
  obtain ⟨wa, D', hrun, hD', hgr, hsz⟩ := hD.put (drop_rise hrise) hx hfd (by omega)
  rw [e1] at hD'
  refine regionK_only 8 #[false, false, false, false, false, false, false, false] 7 (V := (fun W : World => W.cell? ⟨b, 0, none⟩ = some (.map (some M)) ∧ W.cell? ⟨X, 0, none⟩ = some (.string (str x.key)) ∧ W.cell? ⟨X, 1, none⟩ = some (.string (str x.val)) ∧ W.cell? ⟨X, 2, none⟩ = some (.int .u64 (x.ver : Int)) ∧ W.cell? ⟨X, 3, none⟩ = some (.int .u64 (x.fin : Int)))) rfl rfl (by kernel_rfl) (cs hb0) (fun hSw => ?_)
  refine early_at 7 0 19 (fuel := 7) ?_ rfl rfl (by kernel_rfl) (by kernel_rfl) (by kernel_rfl) (by decide) rfl (by kernel_rfl) (by kernel_rfl) (Or.inl ⟨by rfl, ?_⟩) hSw ?_
  rotate_left
  · intro wx hSx
    (try dsimp only at hSx)
    go_split_ands
    go_simp
    (try with_reducible rfl)
  simp only [List.setIfInBounds_toArray, List.set_cons_zero, List.set_cons_succ]
  refine early_at 7 1 20 (fuel := 6) ?_ rfl rfl (by kernel_rfl) (by kernel_rfl) (by kernel_rfl) (by decide) rfl (by kernel_rfl) (by kernel_rfl) (Or.inl ⟨by rfl, ?_⟩) hSw ?_
  rotate_left
  · intro wx hSx
    (try dsimp only at hSx)
    go_split_ands
    go_simp
    (try with_reducible rfl)
  simp only [List.setIfInBounds_toArray, List.set_cons_zero, List.set_cons_succ]
  refine early_at 7 2 21 (fuel := 5) ?_ rfl rfl (by kernel_rfl) (by kernel_rfl) (by kernel_rfl) (by decide) rfl (by kernel_rfl) (by kernel_rfl) (Or.inl ⟨by rfl, ?_⟩) hSw ?_
  rotate_left
  · intro wx hSx
    (try dsimp only at hSx)
    go_split_ands
    go_simp
    (try with_reducible rfl)
  simp only [List.setIfInBounds_toArray, List.set_cons_zero, List.set_cons_succ]
  refine early_at 7 3 22 (fuel := 4) ?_ rfl rfl (by kernel_rfl) (by kernel_rfl) (by kernel_rfl) (by decide) rfl (by kernel_rfl) (by kernel_rfl) (Or.inl ⟨by rfl, ?_⟩) hSw ?_
  rotate_left
  · intro wx hSx
    (try dsimp only at hSx)
    go_split_ands
    go_simp
    (try with_reducible rfl)
  simp only [List.setIfInBounds_toArray, List.set_cons_zero, List.set_cons_succ]
  refine early_at 7 4 23 (fuel := 3) ?_ rfl rfl (by kernel_rfl) (by kernel_rfl) (by kernel_rfl) (by decide) rfl (by kernel_rfl) (by kernel_rfl) (Or.inl ⟨by rfl, ?_⟩) hSw ?_
  rotate_left
  · intro wx hSx
    (try dsimp only at hSx)
    go_split_ands
    go_simp
    (try with_reducible rfl)
  simp only [List.setIfInBounds_toArray, List.set_cons_zero, List.set_cons_succ]
  refine early_at 7 5 24 (fuel := 2) ?_ rfl rfl (by kernel_rfl) (by kernel_rfl) (by kernel_rfl) (by decide) rfl (by kernel_rfl) (by kernel_rfl) (Or.inl ⟨by rfl, ?_⟩) hSw ?_
  rotate_left
  · intro wx hSx
    (try dsimp only at hSx)
    go_split_ands
    go_simp
    (try with_reducible rfl)
  simp only [List.setIfInBounds_toArray, List.set_cons_zero, List.set_cons_succ]
  refine early_at 7 6 25 (fuel := 1) ?_ rfl rfl (by kernel_rfl) (by kernel_rfl) (by kernel_rfl) (by decide) rfl (by kernel_rfl) (by kernel_rfl) (Or.inl ⟨by rfl, ?_⟩) hSw ?_
  rotate_left
  · intro wx hSx
    (try dsimp only at hSx)
    go_split_ands
    go_simp
    (try with_reducible rfl)
  simp only [List.setIfInBounds_toArray, List.set_cons_zero, List.set_cons_succ]
  refine Wirey.wpAnyK_one 7 (by kernel_rfl) rfl (fun K hK => ?_)
  go_simp
  refine hK.out _ _ trivial (fun h9 => absurd h9 (by decide)) ?_
  clear hK K
  refine Wirey.wpAnyK_done (by kernel_rfl) ⟨rfl, ?_⟩
  have hbk : Blk wa b 125 #[.map (some M), .int .i64 (size (drop x.key m) : Int)] := (hT2.below hb0).hd.grown hgr (fun e => hne (by injection e))
  have hxk : Blk wa X 81 #[.string (str x.key), .string (str x.val), .int .u64 (x.ver : Int), .int .u64 (x.fin : Int)] := Blk.grown (w := w2.drew) hX2 hgr (fun e => absurd (Option.some.inj e) (by omega))
  replace hKp : Kp (Tbl b M) w wa := hKp.trans ((TabAt.kpBelow hb0).trans ⟨hgr.os, hgr.tape, hgr.output, hgr.size, fun k hk hn => hgr.block k hk (fun e => hn (.inr (Option.some.inj e)))⟩)
  clear hrun c0 hD hT2 hX2 hgr hb0 cs hSw
  generalize hnm : size (drop x.key m) = n at *
  have HN := Lib.hid hnm
  clear hnm
  go_upto_region 6 with (fail)
  have cs : ∀ {W : World}, Below wa.heap.size wa W → (fun W : World => W.cell? ⟨b, 1, none⟩ = some (.int .i64 (n : Int)) ∧ W.cell? ⟨X, 0, none⟩ = some (.string (str x.key)) ∧ W.cell? ⟨X, 1, none⟩ = some (.string (str x.val)) ∧ W.cell? ⟨X, 2, none⟩ = some (.int .u64 (x.ver : Int)) ∧ W.cell? ⟨X, 3, none⟩ = some (.int .u64 (x.fin : Int))) W := fun {W} hW => by
    have q0 := (hbk.below hW hbk.lt).cell 1
    have q1 := hxk.below hW hxk.lt
    exact ⟨q0, q1.cell 0, q1.cell 1, q1.cell 2, q1.cell 3⟩
  have hb0 : Below wa.heap.size wa wa.drew := (Below.refl _ _).drew
  refine regionK_only 10 #[false, false, false, false, false, false, false, false, false, false] 9 (V := (fun W : World => W.cell? ⟨b, 1, none⟩ = some (.int .i64 (n : Int)) ∧ W.cell? ⟨X, 0, none⟩ = some (.string (str x.key)) ∧ W.cell? ⟨X, 1, none⟩ = some (.string (str x.val)) ∧ W.cell? ⟨X, 2, none⟩ = some (.int .u64 (x.ver : Int)) ∧ W.cell? ⟨X, 3, none⟩ = some (.int .u64 (x.fin : Int)))) rfl rfl (by kernel_rfl) (cs hb0) (fun hSw => ?_)
  generalize wa.drew = w20 at hb0 hSw ⊢
  have hb20 := hb0
  clear hb0
  refine early_at 9 0 26 (fuel := 9) ?_ rfl rfl (by kernel_rfl) (by kernel_rfl) (by kernel_rfl) (by decide) rfl (by kernel_rfl) (by kernel_rfl) (Or.inl ⟨by rfl, ?_⟩) hSw ?_
  rotate_left
  · intro wx hSx
    (try dsimp only at hSx)
    go_split_ands
    go_simp
    (try with_reducible rfl)
  simp only [List.setIfInBounds_toArray, List.set_cons_zero, List.set_cons_succ]
  refine early_at 9 1 27 (fuel := 8) ?_ rfl rfl (by kernel_rfl) (by kernel_rfl) (by kernel_rfl) (by decide) rfl (by kernel_rfl) (by kernel_rfl) (Or.inl ⟨by rfl, ?_⟩) hSw ?_
  rotate_left
  · intro wx hSx
    (try dsimp only at hSx)
    go_split_ands
    go_simp
    (try with_reducible rfl)
  simp only [List.setIfInBounds_toArray, List.set_cons_zero, List.set_cons_succ]
  refine early_at 9 2 28 (fuel := 7) ?_ rfl rfl (by kernel_rfl) (by kernel_rfl) (by kernel_rfl) (by decide) rfl (by kernel_rfl) (by kernel_rfl) (Or.inl ⟨by rfl, ?_⟩) hSw ?_
  rotate_left
  · intro wx hSx
    (try dsimp only at hSx)
    go_split_ands
    go_simp
    (try with_reducible rfl)
  simp only [List.setIfInBounds_toArray, List.set_cons_zero, List.set_cons_succ]
  refine early_at 9 3 29 (fuel := 6) ?_ rfl rfl (by kernel_rfl) (by kernel_rfl) (by kernel_rfl) (by decide) rfl (by kernel_rfl) (by kernel_rfl) (Or.inl ⟨by rfl, ?_⟩) hSw ?_
  rotate_left
  · intro wx hSx
    (try dsimp only at hSx)
    go_split_ands
    go_simp
    (try with_reducible rfl)
  simp only [List.setIfInBounds_toArray, List.set_cons_zero, List.set_cons_succ]
  refine early_at 9 4 30 (fuel := 5) ?_ rfl rfl (by kernel_rfl) (by kernel_rfl) (by kernel_rfl) (by decide) rfl (by kernel_rfl) (by kernel_rfl) (Or.inl ⟨by rfl, ?_⟩) hSw ?_
  rotate_left
  · intro wx hSx
    (try dsimp only at hSx)
    go_split_ands
    go_simp
    (try with_reducible rfl)
  simp only [List.setIfInBounds_toArray, List.set_cons_zero, List.set_cons_succ]
  refine Wirey.wpAnyK_one 5 (by kernel_rfl) rfl (fun K hK => ?_)
  go_simp
  refine Calls.mono (size_c hx _) ?_
  rintro e wb ⟨rfl, hb1⟩
  have hb2 : Below wa.heap.size wa wb := hb20.trans (hb1.mono hb20.size)
  refine hK.out _ _ trivial (fun _ => cs hb2) ?_
  have hSw := cs hb2
  clear hK K
  simp only [List.setIfInBounds_toArray, List.set_cons_zero, List.set_cons_succ]
  refine early_at 9 6 32 (fuel := 3) ?_ rfl rfl (by kernel_rfl) (by kernel_rfl) (by kernel_rfl) (by decide) rfl (by kernel_rfl) (by kernel_rfl) (Or.inl ⟨by rfl, ?_⟩) hSw ?_
  rotate_left
  · intro wx hSx
    (try dsimp only at hSx)
    go_split_ands
    go_simp
    (try with_reducible rfl)
  simp only [List.setIfInBounds_toArray, List.set_cons_zero, List.set_cons_succ]
  refine takeK_at 9 7 33 (fuel := 2) ?_ rfl rfl (by kernel_rfl) (by kernel_rfl) (by kernel_rfl) (by decide) (Or.inl ⟨by rfl, ?_⟩) hSw ?_
  rotate_left
  · intro wx hSx
    (try dsimp only at hSx)
    go_split_ands
    go_simp
    (try with_reducible rfl)
  simp only [List.setIfInBounds_toArray, List.set_cons_zero, List.set_cons_succ]
  refine early_at 9 8 34 (fuel := 1) ?_ rfl rfl (by kernel_rfl) (by kernel_rfl) (by kernel_rfl) (by decide) rfl (by kernel_rfl) (by kernel_rfl) (Or.inl ⟨by rfl, ?_⟩) hSw ?_
  rotate_left
  · intro wx hSx
    (try dsimp only at hSx)
    go_split_ands
    go_simp
    (try with_reducible rfl)
  simp only [List.setIfInBounds_toArray, List.set_cons_zero, List.set_cons_succ]
  refine Wirey.wpAnyK_one 9 (by kernel_rfl) rfl (fun K hK => ?_)
  have y1 := (hbk.below hb2 hbk.lt).cell 1
  have f1 := (hbk.below hb2 hbk.lt).free 1
  simp only [List.getElem?_toArray, List.getElem?_cons_zero, List.getElem?_cons_succ] at y1
  go_simp
  refine hK.out _ _ trivial (fun h9 => absurd h9 (by decide)) ?_
  clear hK K
  refine Wirey.wpAnyK_done (by kernel_rfl) ⟨rfl, ?_⟩
  have hw2 : wrap64 ((n : Int) + ((x.key.length + x.val.length : Nat) : Int)) = ((size (ins x m) : Nat) : Int) := by unfold wrap64; omega
  go_wp2_with fail
  refine bodyPost_end (v := .tuple #[]) (results_none rfl _ _ _) rfl ⟨rfl, ⟨?_, ⟨D', ?_⟩, hne, ins_rise hrise, ins_ok hx hok⟩, ?_⟩
  · have hp := (hbk.below hb2 hbk.lt).put 1 (.int .i64 (wrap64 ((n : Int) + ((x.key.length + x.val.length : Nat) : Int))))
    simp only [List.setIfInBounds_toArray, List.set_cons_zero, List.set_cons_succ] at hp
    rw [hw2] at hp
    rw [wrap_is, ← Int.natCast_add, hw2]
    exact hp
  · have hs2 := hD'.stay (hb2.block M hD'.mp.lt)
    exact hs2.stay (Below.heap_setCell _ _ _ _ (by show M ≠ b; exact fun e => hne e.symm))
  · exact hKp.trans ((TabAt.kpBelow hb2).trans ((Kp.refl _ _).set (p := ⟨b, 1, none⟩) (.inl rfl) _))
theorem put_c {x : En} (hx : x.Ok) (hl : m.length ≤ 100000) (h : HeldT w0 w P b m) : Calls Tryz.prog 121 #[tp b, .agg x.cs] w fun e w' => e = .returned (.tuple #[]) ∧ ∃ P', HeldT w0 w' P' b (ins x m) ∧ Mv P P' w w' := by
  obtain ⟨M, hT, hP, h1, h2⟩ := h
  refine (put_t hx hl w hT).mono ?_
  rintro e w' ⟨rfl, hT', hk⟩
  have e1 : P = Tbl b M := funext fun k => propext (hP k)
  subst e1
  exact ⟨rfl, _, ⟨M, hT', hP, h1, h2⟩, hk, fun k hk => .inl hk⟩
end
end Go.Proofs.YtlnjnpchkdipdaaGreat.Taby
