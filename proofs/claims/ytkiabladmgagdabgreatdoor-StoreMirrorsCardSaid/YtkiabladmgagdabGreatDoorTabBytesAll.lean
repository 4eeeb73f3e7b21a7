/- The program's cache tells its numbers as bytes. The only condition: its nine cells hold counts and numbers of 64 bits. Layer 11: the document's own table: a slice of entries; what each of its calls tells. No condition but bounds that the laws lay. -/
import Derived.Test.YtkiabladmgagdabGreatDoorWireReadAll
import Derived.Test.YtkiabladmgagdabGreatDoorOpPutAll
import Derived.Lib.Hide
import Derived.BigQuiet
import Derived.Test.YtkiabladmgagdabGreatDoorTabMemAll
import Derived.Laws.Cover1
import Derived.Test.YtkiabladmgagdabGreatDoorSq
namespace Go.Proofs.YtkiabladmgagdabGreatDoor.Expy
open Go.ChangeShapes Go.WideShapes Go.ChangeAt Go.RowKit
open Wirey (Blk Row str str_size str_list str_cat)
open Regy
set_option maxHeartbeats 4000000 in
set_option maxRecDepth 100000 in
theorem nums_c {w : World} {b v0 v1 v2 v3 v4 v5 v6 v7 v8 : Nat} (h0 : v0 < 9223372036854775808) (h1 : v1 < 9223372036854775808) (h2 : v2 < 9223372036854775808) (h3 : v3 < 18446744073709551616) (h4 : v4 < 18446744073709551616) (h5 : v5 < 18446744073709551616) (h6 : v6 < 18446744073709551616) (h7 : v7 < 9223372036854775808) (h8 : v8 < 9223372036854775808)
  (c0 : w.cell? ⟨b, 0, none⟩ = some (.int .i64 v0)) (c1 : w.cell? ⟨b, 1, none⟩ = some (.int .i64 v1)) (c2 : w.cell? ⟨b, 2, none⟩ = some (.int .i64 v2)) (c3 : w.cell? ⟨b, 3, none⟩ = some (.int .u64 v3)) (c4 : w.cell? ⟨b, 4, none⟩ = some (.int .u64 v4)) (c5 : w.cell? ⟨b, 5, none⟩ = some (.int .u64 v5)) (c6 : w.cell? ⟨b, 6, none⟩ = some (.int .u64 v6)) (c7 : w.cell? ⟨b, 7, none⟩ = some (.int .i64 v7)) (c8 : w.cell? ⟨b, 8, none⟩ = some (.int .i64 v8)) :
  Calls Tryz.prog 19 #[.pointer (some ⟨b, 0, none⟩)] w fun e w' => e = .returned (.string (str (Wirey.enc v0 ++ Wirey.enc v1 ++ Wirey.enc v2 ++ Wirey.enc v3 ++ Wirey.enc v4 ++ Wirey.enc v5 ++ Wirey.enc v6 ++ Wirey.enc v7 ++ Wirey.enc v8))) ∧ Below w.heap.size w w' := by
 have n0 := fun W => Wirey.num_c v0 (by omega) W
 have w0 : IntKind.u64.wrap (v0 : Int) = (v0 : Int) := IntWalk.u64_in _ (by omega)
 have l0 : (Wirey.enc v0).length ≤ 10 := (Wirey.enc_len (by omega)).2
 generalize Wirey.enc v0 = t0 at *
 have n1 := fun W => Wirey.num_c v1 (by omega) W
 have w1 : IntKind.u64.wrap (v1 : Int) = (v1 : Int) := IntWalk.u64_in _ (by omega)
 have l1 : (Wirey.enc v1).length ≤ 10 := (Wirey.enc_len (by omega)).2
 generalize Wirey.enc v1 = t1 at *
 have n2 := fun W => Wirey.num_c v2 (by omega) W
 have w2 : IntKind.u64.wrap (v2 : Int) = (v2 : Int) := IntWalk.u64_in _ (by omega)
 have l2 : (Wirey.enc v2).length ≤ 10 := (Wirey.enc_len (by omega)).2
 generalize Wirey.enc v2 = t2 at *
 have n3 := fun W => Wirey.num_c v3 (by omega) W
 have l3 : (Wirey.enc v3).length ≤ 10 := (Wirey.enc_len (by omega)).2
 generalize Wirey.enc v3 = t3 at *
 have n4 := fun W => Wirey.num_c v4 (by omega) W
 have l4 : (Wirey.enc v4).length ≤ 10 := (Wirey.enc_len (by omega)).2
 generalize Wirey.enc v4 = t4 at *
 have n5 := fun W => Wirey.num_c v5 (by omega) W
 have l5 : (Wirey.enc v5).length ≤ 10 := (Wirey.enc_len (by omega)).2
 generalize Wirey.enc v5 = t5 at *
 have n6 := fun W => Wirey.num_c v6 (by omega) W
 have l6 : (Wirey.enc v6).length ≤ 10 := (Wirey.enc_len (by omega)).2
 generalize Wirey.enc v6 = t6 at *
 have n7 := fun W => Wirey.num_c v7 (by omega) W
 have w7 : IntKind.u64.wrap (v7 : Int) = (v7 : Int) := IntWalk.u64_in _ (by omega)
 have l7 : (Wirey.enc v7).length ≤ 10 := (Wirey.enc_len (by omega)).2
 generalize Wirey.enc v7 = t7 at *
 have n8 := fun W => Wirey.num_c v8 (by omega) W
 have w8 : IntKind.u64.wrap (v8 : Int) = (v8 : Int) := IntWalk.u64_in _ (by omega)
 have l8 : (Wirey.enc v8).length ≤ 10 := (Wirey.enc_len (by omega)).2
 generalize Wirey.enc v8 = t8 at *
 have m1 : ¬ (9223372036854775807 < t0.length + t1.length) := by omega
 have m2 : ¬ (9223372036854775807 < t0.length + t1.length + t2.length) := by omega
 have m3 : ¬ (9223372036854775807 < t0.length + (t1.length + t2.length) + t3.length) := by omega
 have m4 : ¬ (9223372036854775807 < t0.length + (t1.length + (t2.length + t3.length)) + t4.length) := by omega
 have m5 : ¬ (9223372036854775807 < t0.length + (t1.length + (t2.length + (t3.length + t4.length))) + t5.length) := by omega
 have m6 : ¬ (9223372036854775807 < t0.length + (t1.length + (t2.length + (t3.length + (t4.length + t5.length)))) + t6.length) := by omega
 have m7 : ¬ (9223372036854775807 < t0.length + (t1.length + (t2.length + (t3.length + (t4.length + (t5.length + t6.length))))) + t7.length) := by omega
 have m8 : ¬ (9223372036854775807 < t0.length + (t1.length + (t2.length + (t3.length + (t4.length + (t5.length + (t6.length + t7.length)))))) + t8.length) := by omega
 have hcat := str_cat
 have hsz := str_size
 have mk : ∀ W, Below w.heap.size w W → (fun W => W.cell? ⟨b, 0, none⟩ = some (.int .i64 v0) ∧ W.cell? ⟨b, 1, none⟩ = some (.int .i64 v1) ∧ W.cell? ⟨b, 2, none⟩ = some (.int .i64 v2) ∧ W.cell? ⟨b, 3, none⟩ = some (.int .u64 v3) ∧ W.cell? ⟨b, 4, none⟩ = some (.int .u64 v4) ∧ W.cell? ⟨b, 5, none⟩ = some (.int .u64 v5) ∧ W.cell? ⟨b, 6, none⟩ = some (.int .u64 v6) ∧ W.cell? ⟨b, 7, none⟩ = some (.int .i64 v7) ∧ W.cell? ⟨b, 8, none⟩ = some (.int .i64 v8) ∧ Below w.heap.size w W) W := fun W hb => by
  have hlt : b < w.heap.size := by
   rcases Nat.lt_or_ge b w.heap.size with h | h
   ·exact h
   ·simp [World.cell?, Array.getElem?_eq_none h] at c0
  exact ⟨(World.cell?_of_block (hb.block b hlt)).trans c0, (World.cell?_of_block (hb.block b hlt)).trans c1, (World.cell?_of_block (hb.block b hlt)).trans c2, (World.cell?_of_block (hb.block b hlt)).trans c3, (World.cell?_of_block (hb.block b hlt)).trans c4, (World.cell?_of_block (hb.block b hlt)).trans c5, (World.cell?_of_block (hb.block b hlt)).trans c6, (World.cell?_of_block (hb.block b hlt)).trans c7, (World.cell?_of_block (hb.block b hlt)).trans c8, hb⟩
 go_enter Tryz.func19, Tryz.ntmps19
 go_wp2_with fail
 (try simp only [List.append])
 refine region_only 65 #[false, false, false, false, false, false, false, false, false, false, false, false, false, false, false, false, false, false, false, false, false, false, false, false, false, false, false, false, false, false, false, false, false, false, false, false, false, false, false, false, false, false, false, false, false, false, false, false, false, false, false, false, false, false, false, false, false, false, false, false, false, false, false, false, false] (S := (fun W => W.cell? ⟨b, 0, none⟩ = some (.int .i64 v0) ∧ W.cell? ⟨b, 1, none⟩ = some (.int .i64 v1) ∧ W.cell? ⟨b, 2, none⟩ = some (.int .i64 v2) ∧ W.cell? ⟨b, 3, none⟩ = some (.int .u64 v3) ∧ W.cell? ⟨b, 4, none⟩ = some (.int .u64 v4) ∧ W.cell? ⟨b, 5, none⟩ = some (.int .u64 v5) ∧ W.cell? ⟨b, 6, none⟩ = some (.int .u64 v6) ∧ W.cell? ⟨b, 7, none⟩ = some (.int .i64 v7) ∧ W.cell? ⟨b, 8, none⟩ = some (.int .i64 v8) ∧ Below w.heap.size w W)) rfl rfl (by kernel_rfl) (mk _ (Below.refl _ _).drew) (fun hSw => ?_)
 refine tkA 0 3 64 ?_ rfl rfl ?_ hSw ?_
 rotate_left
 ·intro wx hSx; (try dsimp only at hSx); go_split_ands; go_simp; (try with_reducible rfl)
 simp only [sA, List.set_cons_zero, sC]
 refine tkA 1 4 63 ?_ rfl rfl ?_ hSw ?_
 rotate_left
 ·intro wx hSx; (try dsimp only at hSx); go_split_ands; go_simp; (try with_reducible rfl)
 simp only [sA, List.set_cons_zero, sC]
 refine tkA 2 5 62 ?_ rfl rfl ?_ hSw ?_
 rotate_left
 ·intro wx hSx; (try dsimp only at hSx); go_split_ands; go_simp; (try with_reducible rfl)
 simp only [sA, List.set_cons_zero, sC]
 refine tkA 3 6 61 ?_ rfl rfl ?_ hSw ?_
 rotate_left
 ·intro wx hSx; (try dsimp only at hSx); go_split_ands; go_simp; (try with_reducible rfl)
 simp only [sA, List.set_cons_zero, sC]
 refine tkA 4 7 60 ?_ rfl rfl ?_ hSw ?_
 rotate_left
 ·intro wx hSx; (try dsimp only at hSx); go_split_ands; go_simp; (try with_reducible rfl)
 simp only [sA, List.set_cons_zero, sC]
 refine tkA 5 8 59 ?_ rfl rfl ?_ hSw ?_
 rotate_left
 ·intro wx hSx; (try dsimp only at hSx); go_split_ands; go_simp; (try with_reducible rfl)
 simp only [sA, List.set_cons_zero, sC]
 refine tkA 7 10 58 ?_ rfl rfl ?_ hSw ?_
 rotate_left
 ·intro wx hSx; (try dsimp only at hSx); go_split_ands; go_simp; (try with_reducible rfl)
 simp only [sA, List.set_cons_zero, sC]
 refine tkA 8 11 57 ?_ rfl rfl ?_ hSw ?_
 rotate_left
 ·intro wx hSx; (try dsimp only at hSx); go_split_ands; go_simp; (try with_reducible rfl)
 simp only [sA, List.set_cons_zero, sC]
 refine tkA 9 12 56 ?_ rfl rfl ?_ hSw ?_
 rotate_left
 ·intro wx hSx; (try dsimp only at hSx); go_split_ands; go_simp; (try with_reducible rfl)
 simp only [sA, List.set_cons_zero, sC]
 refine tkA 10 13 55 ?_ rfl rfl ?_ hSw ?_
 rotate_left
 ·intro wx hSx; (try dsimp only at hSx); go_split_ands; go_simp; (try with_reducible rfl)
 simp only [sA, List.set_cons_zero, sC]
 refine tkA 11 14 54 ?_ rfl rfl ?_ hSw ?_
 rotate_left
 ·intro wx hSx; (try dsimp only at hSx); go_split_ands; go_simp; (try with_reducible rfl)
 simp only [sA, List.set_cons_zero, sC]
 refine tkA 12 15 53 ?_ rfl rfl ?_ hSw ?_
 rotate_left
 ·intro wx hSx; (try dsimp only at hSx); go_split_ands; go_simp; (try with_reducible rfl)
 simp only [sA, List.set_cons_zero, sC]
 refine tkA 15 18 52 ?_ rfl rfl ?_ hSw ?_
 rotate_left
 ·intro wx hSx; (try dsimp only at hSx); go_split_ands; go_simp; (try with_reducible rfl)
 simp only [sA, List.set_cons_zero, sC]
 refine tkA 16 19 51 ?_ rfl rfl ?_ hSw ?_
 rotate_left
 ·intro wx hSx; (try dsimp only at hSx); go_split_ands; go_simp; (try with_reducible rfl)
 simp only [sA, List.set_cons_zero, sC]
 refine tkA 17 20 50 ?_ rfl rfl ?_ hSw ?_
 rotate_left
 ·intro wx hSx; (try dsimp only at hSx); go_split_ands; go_simp; (try with_reducible rfl)
 simp only [sA, List.set_cons_zero, sC]
 refine tkA 18 21 49 ?_ rfl rfl ?_ hSw ?_
 rotate_left
 ·intro wx hSx; (try dsimp only at hSx); go_split_ands; go_simp; (try with_reducible rfl)
 simp only [sA, List.set_cons_zero, sC]
 refine tkA 19 22 48 ?_ rfl rfl ?_ hSw ?_
 rotate_left
 ·intro wx hSx; (try dsimp only at hSx); go_split_ands; go_simp; (try with_reducible rfl)
 simp only [sA, List.set_cons_zero, sC]
 refine tkA 20 23 47 ?_ rfl rfl ?_ hSw ?_
 rotate_left
 ·intro wx hSx; (try dsimp only at hSx); go_split_ands; go_simp; (try with_reducible rfl)
 simp only [sA, List.set_cons_zero, sC]
 refine tkA 23 26 46 ?_ rfl rfl ?_ hSw ?_
 rotate_left
 ·intro wx hSx; (try dsimp only at hSx); go_split_ands; go_simp; (try with_reducible rfl)
 simp only [sA, List.set_cons_zero, sC]
 refine tkA 24 27 45 ?_ rfl rfl ?_ hSw ?_
 rotate_left
 ·intro wx hSx; (try dsimp only at hSx); go_split_ands; go_simp; (try with_reducible rfl)
 simp only [sA, List.set_cons_zero, sC]
 refine tkA 25 28 44 ?_ rfl rfl ?_ hSw ?_
 rotate_left
 ·intro wx hSx; (try dsimp only at hSx); go_split_ands; go_simp; (try with_reducible rfl)
 simp only [sA, List.set_cons_zero, sC]
 refine tkA 26 29 43 ?_ rfl rfl ?_ hSw ?_
 rotate_left
 ·intro wx hSx; (try dsimp only at hSx); go_split_ands; go_simp; (try with_reducible rfl)
 simp only [sA, List.set_cons_zero, sC]
 refine tkA 27 30 42 ?_ rfl rfl ?_ hSw ?_
 rotate_left
 ·intro wx hSx; (try dsimp only at hSx); go_split_ands; go_simp; (try with_reducible rfl)
 simp only [sA, List.set_cons_zero, sC]
 refine tkA 30 33 41 ?_ rfl rfl ?_ hSw ?_
 rotate_left
 ·intro wx hSx; (try dsimp only at hSx); go_split_ands; go_simp; (try with_reducible rfl)
 simp only [sA, List.set_cons_zero, sC]
 refine tkA 31 34 40 ?_ rfl rfl ?_ hSw ?_
 rotate_left
 ·intro wx hSx; (try dsimp only at hSx); go_split_ands; go_simp; (try with_reducible rfl)
 simp only [sA, List.set_cons_zero, sC]
 refine tkA 32 35 39 ?_ rfl rfl ?_ hSw ?_
 rotate_left
 ·intro wx hSx; (try dsimp only at hSx); go_split_ands; go_simp; (try with_reducible rfl)
 simp only [sA, List.set_cons_zero, sC]
 refine tkA 33 36 38 ?_ rfl rfl ?_ hSw ?_
 rotate_left
 ·intro wx hSx; (try dsimp only at hSx); go_split_ands; go_simp; (try with_reducible rfl)
 simp only [sA, List.set_cons_zero, sC]
 refine tkA 36 39 37 ?_ rfl rfl ?_ hSw ?_
 rotate_left
 ·intro wx hSx; (try dsimp only at hSx); go_split_ands; go_simp; (try with_reducible rfl)
 simp only [sA, List.set_cons_zero, sC]
 refine tkA 37 40 36 ?_ rfl rfl ?_ hSw ?_
 rotate_left
 ·intro wx hSx; (try dsimp only at hSx); go_split_ands; go_simp; (try with_reducible rfl)
 simp only [sA, List.set_cons_zero, sC]
 refine tkA 38 41 35 ?_ rfl rfl ?_ hSw ?_
 rotate_left
 ·intro wx hSx; (try dsimp only at hSx); go_split_ands; go_simp; (try with_reducible rfl)
 simp only [sA, List.set_cons_zero, sC]
 refine tkA 39 42 34 ?_ rfl rfl ?_ hSw ?_
 rotate_left
 ·intro wx hSx; (try dsimp only at hSx); go_split_ands; go_simp; (try with_reducible rfl)
 simp only [sA, List.set_cons_zero, sC]
 refine tkA 42 45 33 ?_ rfl rfl ?_ hSw ?_
 rotate_left
 ·intro wx hSx; (try dsimp only at hSx); go_split_ands; go_simp; (try with_reducible rfl)
 simp only [sA, List.set_cons_zero, sC]
 refine tkA 43 46 32 ?_ rfl rfl ?_ hSw ?_
 rotate_left
 ·intro wx hSx; (try dsimp only at hSx); go_split_ands; go_simp; (try with_reducible rfl)
 simp only [sA, List.set_cons_zero, sC]
 refine tkA 44 47 31 ?_ rfl rfl ?_ hSw ?_
 rotate_left
 ·intro wx hSx; (try dsimp only at hSx); go_split_ands; go_simp; (try with_reducible rfl)
 simp only [sA, List.set_cons_zero, sC]
 refine tkA 45 48 30 ?_ rfl rfl ?_ hSw ?_
 rotate_left
 ·intro wx hSx; (try dsimp only at hSx); go_split_ands; go_simp; (try with_reducible rfl)
 simp only [sA, List.set_cons_zero, sC]
 refine tkA 48 51 29 ?_ rfl rfl ?_ hSw ?_
 rotate_left
 ·intro wx hSx; (try dsimp only at hSx); go_split_ands; go_simp; (try with_reducible rfl)
 simp only [sA, List.set_cons_zero, sC]
 refine tkA 49 52 28 ?_ rfl rfl ?_ hSw ?_
 rotate_left
 ·intro wx hSx; (try dsimp only at hSx); go_split_ands; go_simp; (try with_reducible rfl)
 simp only [sA, List.set_cons_zero, sC]
 refine tkA 50 53 27 ?_ rfl rfl ?_ hSw ?_
 rotate_left
 ·intro wx hSx; (try dsimp only at hSx); go_split_ands; go_simp; (try with_reducible rfl)
 simp only [sA, List.set_cons_zero, sC]
 refine tkA 51 54 26 ?_ rfl rfl ?_ hSw ?_
 rotate_left
 ·intro wx hSx; (try dsimp only at hSx); go_split_ands; go_simp; (try with_reducible rfl)
 simp only [sA, List.set_cons_zero, sC]
 refine tkA 52 55 25 ?_ rfl rfl ?_ hSw ?_
 rotate_left
 ·intro wx hSx; (try dsimp only at hSx); go_split_ands; go_simp; (try with_reducible rfl)
 simp only [sA, List.set_cons_zero, sC]
 refine tkA 53 56 24 ?_ rfl rfl ?_ hSw ?_
 rotate_left
 ·intro wx hSx; (try dsimp only at hSx); go_split_ands; go_simp; (try with_reducible rfl)
 simp only [sA, List.set_cons_zero, sC]
 refine tkA 56 59 23 ?_ rfl rfl ?_ hSw ?_
 rotate_left
 ·intro wx hSx; (try dsimp only at hSx); go_split_ands; go_simp; (try with_reducible rfl)
 simp only [sA, List.set_cons_zero, sC]
 refine tkA 57 60 22 ?_ rfl rfl ?_ hSw ?_
 rotate_left
 ·intro wx hSx; (try dsimp only at hSx); go_split_ands; go_simp; (try with_reducible rfl)
 simp only [sA, List.set_cons_zero, sC]
 refine tkA 58 61 21 ?_ rfl rfl ?_ hSw ?_
 rotate_left
 ·intro wx hSx; (try dsimp only at hSx); go_split_ands; go_simp; (try with_reducible rfl)
 simp only [sA, List.set_cons_zero, sC]
 refine tkA 59 62 20 ?_ rfl rfl ?_ hSw ?_
 rotate_left
 ·intro wx hSx; (try dsimp only at hSx); go_split_ands; go_simp; (try with_reducible rfl)
 simp only [sA, List.set_cons_zero, sC]
 refine tkA 60 63 19 ?_ rfl rfl ?_ hSw ?_
 rotate_left
 ·intro wx hSx; (try dsimp only at hSx); go_split_ands; go_simp; (try with_reducible rfl)
 simp only [sA, List.set_cons_zero, sC]
 refine tkA 61 64 18 ?_ rfl rfl ?_ hSw ?_
 rotate_left
 ·intro wx hSx; (try dsimp only at hSx); go_split_ands; go_simp; (try with_reducible rfl)
 simp only [sA, List.set_cons_zero, sC]
 refine rdA 17 6 rfl fun K hK => ?_
 go_simp
 refine Calls.mono (n0 _) ?_
 rintro e wv ⟨rfl, hbv⟩
 refine hK.out _ _ (mk _ (hSw.2.2.2.2.2.2.2.2.2.trans (hbv.mono hSw.2.2.2.2.2.2.2.2.2.size))) (fun hSw => ?_)
 clear hK K
 simp only [sA, List.set_cons_zero, sC]
 refine rdA 16 13 rfl fun K hK => ?_
 go_simp
 refine Calls.mono (n1 _) ?_
 rintro e wv ⟨rfl, hbv⟩
 refine hK.out _ _ (mk _ (hSw.2.2.2.2.2.2.2.2.2.trans (hbv.mono hSw.2.2.2.2.2.2.2.2.2.size))) (fun hSw => ?_)
 clear hK K
 simp only [sA, List.set_cons_zero, sC]
 refine tkA 14 17 15 ?_ rfl rfl ?_ hSw ?_
 rotate_left
 ·intro wx hSx; (try dsimp only at hSx); go_split_ands; go_simp; (try with_reducible rfl)
 simp only [sA, List.set_cons_zero, sC]
 refine rdA 14 21 rfl fun K hK => ?_
 go_simp
 refine Calls.mono (n2 _) ?_
 rintro e wv ⟨rfl, hbv⟩
 refine hK.out _ _ (mk _ (hSw.2.2.2.2.2.2.2.2.2.trans (hbv.mono hSw.2.2.2.2.2.2.2.2.2.size))) (fun hSw => ?_)
 clear hK K
 simp only [sA, List.set_cons_zero, sC]
 refine tkA 22 25 13 ?_ rfl rfl ?_ hSw ?_
 rotate_left
 ·intro wx hSx; (try dsimp only at hSx); go_split_ands; go_simp; (try with_reducible rfl)
 simp only [sA, List.set_cons_zero, sC]
 refine rdA 12 28 rfl fun K hK => ?_
 go_simp
 refine Calls.mono (n3 _) ?_
 rintro e wv ⟨rfl, hbv⟩
 refine hK.out _ _ (mk _ (hSw.2.2.2.2.2.2.2.2.2.trans (hbv.mono hSw.2.2.2.2.2.2.2.2.2.size))) (fun hSw => ?_)
 clear hK K
 simp only [sA, List.set_cons_zero, sC]
 refine tkA 29 32 11 ?_ rfl rfl ?_ hSw ?_
 rotate_left
 ·intro wx hSx; (try dsimp only at hSx); go_split_ands; go_simp; (try with_reducible rfl)
 simp only [sA, List.set_cons_zero, sC]
 refine rdA 10 34 rfl fun K hK => ?_
 go_simp
 refine Calls.mono (n4 _) ?_
 rintro e wv ⟨rfl, hbv⟩
 refine hK.out _ _ (mk _ (hSw.2.2.2.2.2.2.2.2.2.trans (hbv.mono hSw.2.2.2.2.2.2.2.2.2.size))) (fun hSw => ?_)
 clear hK K
 simp only [sA, List.set_cons_zero, sC]
 refine tkA 35 38 9 ?_ rfl rfl ?_ hSw ?_
 rotate_left
 ·intro wx hSx; (try dsimp only at hSx); go_split_ands; go_simp; (try with_reducible rfl)
 simp only [sA, List.set_cons_zero, sC]
 refine rdA 8 40 rfl fun K hK => ?_
 go_simp
 refine Calls.mono (n5 _) ?_
 rintro e wv ⟨rfl, hbv⟩
 refine hK.out _ _ (mk _ (hSw.2.2.2.2.2.2.2.2.2.trans (hbv.mono hSw.2.2.2.2.2.2.2.2.2.size))) (fun hSw => ?_)
 clear hK K
 simp only [sA, List.set_cons_zero, sC]
 refine tkA 41 44 7 ?_ rfl rfl ?_ hSw ?_
 rotate_left
 ·intro wx hSx; (try dsimp only at hSx); go_split_ands; go_simp; (try with_reducible rfl)
 simp only [sA, List.set_cons_zero, sC]
 refine rdA 6 46 rfl fun K hK => ?_
 go_simp
 refine Calls.mono (n6 _) ?_
 rintro e wv ⟨rfl, hbv⟩
 refine hK.out _ _ (mk _ (hSw.2.2.2.2.2.2.2.2.2.trans (hbv.mono hSw.2.2.2.2.2.2.2.2.2.size))) (fun hSw => ?_)
 clear hK K
 simp only [sA, List.set_cons_zero, sC]
 refine tkA 47 50 5 ?_ rfl rfl ?_ hSw ?_
 rotate_left
 ·intro wx hSx; (try dsimp only at hSx); go_split_ands; go_simp; (try with_reducible rfl)
 simp only [sA, List.set_cons_zero, sC]
 refine rdA 4 54 rfl fun K hK => ?_
 go_simp
 refine Calls.mono (n7 _) ?_
 rintro e wv ⟨rfl, hbv⟩
 refine hK.out _ _ (mk _ (hSw.2.2.2.2.2.2.2.2.2.trans (hbv.mono hSw.2.2.2.2.2.2.2.2.2.size))) (fun hSw => ?_)
 clear hK K
 simp only [sA, List.set_cons_zero, sC]
 refine tkA 55 58 3 ?_ rfl rfl ?_ hSw ?_
 rotate_left
 ·intro wx hSx; (try dsimp only at hSx); go_split_ands; go_simp; (try with_reducible rfl)
 simp only [sA, List.set_cons_zero, sC]
 refine rdA 2 62 rfl fun K hK => ?_
 go_simp
 refine Calls.mono (n8 _) ?_
 rintro e wv ⟨rfl, hbv⟩
 refine hK.out _ _ (mk _ (hSw.2.2.2.2.2.2.2.2.2.trans (hbv.mono hSw.2.2.2.2.2.2.2.2.2.size))) (fun hSw => ?_)
 clear hK K
 simp only [sA, List.set_cons_zero, sC]
 refine tkA 63 66 1 ?_ rfl rfl ?_ hSw ?_
 rotate_left
 ·intro wx hSx; (try dsimp only at hSx); go_split_ands; go_simp; (try with_reducible rfl)
 simp only [sA, List.set_cons_zero, sC]
 refine tkA 64 2 0 ?_ rfl rfl ?_ hSw ?_
 rotate_left
 ·intro wx hSx; (try dsimp only at hSx); go_split_ands; go_simp; (try with_reducible rfl)
 simp only [sA, List.set_cons_zero, sC]
 refine wpAnyH_done (by kernel_rfl) ⟨rfl, ?_⟩ 0
 have hbf := hSw.2.2.2.2.2.2.2.2.2
 clear hSw mk
 go_wp2_with fail
 go_ret
 exact ⟨by simp [List.append_assoc], hbf⟩
end Go.Proofs.YtkiabladmgagdabGreatDoor.Expy
namespace Go.Proofs.YtkiabladmgagdabGreatDoor.Taby
open Go.ChangeShapes Go.WideShapes Go.ChangeAt Go.RowKit
open Wirey (Blk Row str str_size str_list str_cat enc enc_len txt)
open Regy

def oneB (x : En) : List UInt8 := txt x.key ++ (txt x.val ++ (enc x.ver ++ enc x.fin))
def bodyB : List En → List UInt8
 | [] => []
 | x :: l => oneB x ++ bodyB l
def allB (l : List En) : List UInt8 := enc l.length ++ bodyB l
theorem bodyB_append : ∀ a b : List En, bodyB (a ++ b) = bodyB a ++ bodyB b
 | [], b => rfl
 | x :: a, b => by rw [List.cons_append, bodyB, bodyB, bodyB_append a b, List.append_assoc]
theorem bodyB_take {l : List En} {j : Nat} {x : En} (h : l[j]? = some x) : bodyB (l.take (j + 1)) = bodyB (l.take j) ++ oneB x := by
 rw [List.take_add_one, h, bodyB_append]; simp [bodyB]
end Go.Proofs.YtkiabladmgagdabGreatDoor.Taby
