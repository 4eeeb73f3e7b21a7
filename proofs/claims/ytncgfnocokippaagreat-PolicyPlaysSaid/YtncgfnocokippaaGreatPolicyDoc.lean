/- The document's policy: what each of its calls makes of it, of whichever kind it is. The only condition: it is as chapters 7 and 8 have it. -/
import Derived.Test.YtncgfnocokippaaGreatPolicyAwakeAll
import Derived.Test.YtncgfnocokippaaGreatArcRefPutAll
import Derived.Test.YtncgfnocokippaaGreatTinyDoingAll
import Derived.Test.YtncgfnocokippaaGreatSq
namespace Go.Proofs.YtncgfnocokippaaGreat.Policyy
open Go.ChangeShapes Go.WideShapes Go.ChangeAt Go.RowKit
open Wirey (Blk Row str str_size str_list str_take str_cat Kp)
open Ringy hiding fewL fewL_le
open Arcy (Av Dat)
open Tinyy (Tv Dt Ad)

section
variable {x y : World} {b q : Nat} {t : TypeId} {cs : Array Value} {p : Addr}
theorem blkA {u0 u1 u2 u3 u4 u5 u6 u7 u8 u9 u10 u11 u12 : Value} (h : Blk x b t #[u0, u1, u2, u3, u4, u5, u6, u7, u8, u9, u10, u11, u12]) (e1 e2 e3 e4 : Value) : Blk ((((x.setCell ⟨b, 1, none⟩ e1).setCell ⟨b, 2, none⟩ e2).setCell ⟨b, 3, none⟩ e3).setCell ⟨b, 4, none⟩ e4) b t #[u0, e1, e2, e3, e4, u5, u6, u7, u8, u9, u10, u11, u12] := by
 have h9 := ((((h.put 1 e1).put 2 e2).put 3 e3).put 4 e4)
 simpa using h9
theorem kpA (x : World) (b : Nat) (e1 e2 e3 e4 : Value) : Kp (fun q => q = b) x ((((x.setCell ⟨b, 1, none⟩ e1).setCell ⟨b, 2, none⟩ e2).setCell ⟨b, 3, none⟩ e3).setCell ⟨b, 4, none⟩ e4) :=
 (((((Kp.refl (fun q => q = b) x).set (p := ⟨b, 1, none⟩) rfl e1).set (p := ⟨b, 2, none⟩) rfl e2).set (p := ⟨b, 3, none⟩) rfl e3).set (p := ⟨b, 4, none⟩) rfl e4)
theorem blkT {u0 u1 u2 u3 u4 u5 u6 u7 u8 u9 u10 u11 u12 : Value} (h : Blk x b t #[u0, u1, u2, u3, u4, u5, u6, u7, u8, u9, u10, u11, u12]) (e5 e6 e7 e8 e9 e10 e11 e12 : Value) : Blk ((((((((x.setCell ⟨b, 5, none⟩ e5).setCell ⟨b, 6, none⟩ e6).setCell ⟨b, 7, none⟩ e7).setCell ⟨b, 8, none⟩ e8).setCell ⟨b, 9, none⟩ e9).setCell ⟨b, 10, none⟩ e10).setCell ⟨b, 11, none⟩ e11).setCell ⟨b, 12, none⟩ e12) b t #[u0, u1, u2, u3, u4, e5, e6, e7, e8, e9, e10, e11, e12] := by
 have h9 := ((((((((h.put 5 e5).put 6 e6).put 7 e7).put 8 e8).put 9 e9).put 10 e10).put 11 e11).put 12 e12)
 simpa using h9
theorem kpT (x : World) (b : Nat) (e5 e6 e7 e8 e9 e10 e11 e12 : Value) : Kp (fun q => q = b) x ((((((((x.setCell ⟨b, 5, none⟩ e5).setCell ⟨b, 6, none⟩ e6).setCell ⟨b, 7, none⟩ e7).setCell ⟨b, 8, none⟩ e8).setCell ⟨b, 9, none⟩ e9).setCell ⟨b, 10, none⟩ e10).setCell ⟨b, 11, none⟩ e11).setCell ⟨b, 12, none⟩ e12) :=
 (((((((((Kp.refl (fun q => q = b) x).set (p := ⟨b, 5, none⟩) rfl e5).set (p := ⟨b, 6, none⟩) rfl e6).set (p := ⟨b, 7, none⟩) rfl e7).set (p := ⟨b, 8, none⟩) rfl e8).set (p := ⟨b, 9, none⟩) rfl e9).set (p := ⟨b, 10, none⟩) rfl e10).set (p := ⟨b, 11, none⟩) rfl e11).set (p := ⟨b, 12, none⟩) rfl e12)
set_option maxHeartbeats 2000000 in
theorem blk13 {u0 u1 u2 u3 u4 u5 u6 u7 u8 u9 u10 u11 u12 : Value} (h : Blk x b t #[u0, u1, u2, u3, u4, u5, u6, u7, u8, u9, u10, u11, u12]) (e0 e1 e2 e3 e4 e5 e6 e7 e8 e9 e10 e11 e12 : Value) : Blk (((((((((((((x.setCell ⟨b, 0, none⟩ e0).setCell ⟨b, 1, none⟩ e1).setCell ⟨b, 2, none⟩ e2).setCell ⟨b, 3, none⟩ e3).setCell ⟨b, 4, none⟩ e4).setCell ⟨b, 5, none⟩ e5).setCell ⟨b, 6, none⟩ e6).setCell ⟨b, 7, none⟩ e7).setCell ⟨b, 8, none⟩ e8).setCell ⟨b, 9, none⟩ e9).setCell ⟨b, 10, none⟩ e10).setCell ⟨b, 11, none⟩ e11).setCell ⟨b, 12, none⟩ e12) b t #[e0, e1, e2, e3, e4, e5, e6, e7, e8, e9, e10, e11, e12] := by
 have h9 := (((((((((((((h.put 0 e0).put 1 e1).put 2 e2).put 3 e3).put 4 e4).put 5 e5).put 6 e6).put 7 e7).put 8 e8).put 9 e9).put 10 e10).put 11 e11).put 12 e12)
 simpa using h9
theorem kp13 (x : World) (b : Nat) (e0 e1 e2 e3 e4 e5 e6 e7 e8 e9 e10 e11 e12 : Value) : Kp (fun q => q = b) x (((((((((((((x.setCell ⟨b, 0, none⟩ e0).setCell ⟨b, 1, none⟩ e1).setCell ⟨b, 2, none⟩ e2).setCell ⟨b, 3, none⟩ e3).setCell ⟨b, 4, none⟩ e4).setCell ⟨b, 5, none⟩ e5).setCell ⟨b, 6, none⟩ e6).setCell ⟨b, 7, none⟩ e7).setCell ⟨b, 8, none⟩ e8).setCell ⟨b, 9, none⟩ e9).setCell ⟨b, 10, none⟩ e10).setCell ⟨b, 11, none⟩ e11).setCell ⟨b, 12, none⟩ e12) :=
 ((((((((((((((Kp.refl (fun q => q = b) x).set (p := ⟨b, 0, none⟩) rfl e0).set (p := ⟨b, 1, none⟩) rfl e1).set (p := ⟨b, 2, none⟩) rfl e2).set (p := ⟨b, 3, none⟩) rfl e3).set (p := ⟨b, 4, none⟩) rfl e4).set (p := ⟨b, 5, none⟩) rfl e5).set (p := ⟨b, 6, none⟩) rfl e6).set (p := ⟨b, 7, none⟩) rfl e7).set (p := ⟨b, 8, none⟩) rfl e8).set (p := ⟨b, 9, none⟩) rfl e9).set (p := ⟨b, 10, none⟩) rfl e10).set (p := ⟨b, 11, none⟩) rfl e11).set (p := ⟨b, 12, none⟩) rfl e12)
theorem kp_to {S : Nat → Prop} {q : Nat} (h : Kp (fun k => k = q) x y) (hq : S q) : Kp S x y := ⟨h.os, h.tape, h.output, h.size, fun k hk hn => h.block k hk (fun e => hn (by rw [e]; exact hq))⟩
end
def One (c : Nat → Value) : Prop := ∀ i, (c i).oneCell' = true
def cA (v : Av) (G : Nat) : Nat → Value
 | 0 => .int .i64 1
 | 1 => .int .i64 v.most
 | 2 => .int .i64 v.tgt
 | 3 => .slice (some ⟨G, 0, none⟩) 4 4
 | 4 => .int .i64 v.pl
 | 5 => .int .i64 0
 | 6 => .int .i64 0
 | 7 => .int .u64 0
 | 8 => .slice none 0 0
 | 9 => .slice none 0 0
 | 10 => .int .i64 0
 | 11 => .slice none 0 0
 | 12 => .int .i64 0
 | _ => .bool false
def cT (v : Tv) (a : Ad) : Nat → Value
 | 0 => .int .i64 2
 | 1 => .int .i64 0
 | 2 => .int .i64 0
 | 3 => .slice none 0 0
 | 4 => .int .i64 0
 | 5 => .int .i64 v.most
 | 6 => .int .i64 v.sk.wide
 | 7 => .int .u64 v.sk.seed
 | 8 => .slice (some ⟨a.R, 0, none⟩) 4 a.c
 | 9 => .slice (some ⟨a.D, 0, none⟩) v.sk.wide v.sk.wide
 | 10 => .int .i64 v.sk.added
 | 11 => .slice (some ⟨a.G, 0, none⟩) 3 3
 | 12 => .int .i64 v.pl
 | _ => .bool false
theorem cA_one (v : Av) (G : Nat) : One (cA v G) := fun i => by
 unfold cA
 split <;> rfl
theorem cT_one (v : Tv) (a : Ad) : One (cT v a) := fun i => by
 unfold cT
 split <;> rfl
set_option maxHeartbeats 4000000 in
set_option maxRecDepth 100000 in
theorem dTouchA {c : Nat → Value} {k : Key} (ho : One c) (w : World) {Q : (Nat → Value) → Value → World → Prop}
  (hc : ∀ W, Below w.heap.size w W → w.heap.size + 2 ≤ W.heap.size → Calls Tryz.prog 54 #[.agg #[c 1, c 2, c 3, c 4], .string (str k)] W fun e W' => ∃ (d : Nat → Value) (r : Value), e = .returned (.tuple #[.agg #[d 1, d 2, d 3, d 4], r]) ∧ One d ∧ Below W.heap.size W W' ∧ Q d r W') :
  Calls Tryz.prog 28 #[.agg #[.int .i64 1, c 1, c 2, c 3, c 4, c 5, c 6, c 7, c 8, c 9, c 10, c 11, c 12], .string (str k)] w fun e w' => ∃ (d : Nat → Value) (r : Value) (W' : World), e = .returned (.tuple #[.agg #[.int .i64 1, d 1, d 2, d 3, d 4, c 5, c 6, c 7, c 8, c 9, c 10, c 11, c 12], r]) ∧ Q d r W' ∧ Kp (fun q => q = w.heap.size ∨ q = w.heap.size + 1) W' w' ∧ Below w.heap.size w W' ∧ w.heap.size + 2 ≤ W'.heap.size := by
 have hb1 := (Below.refl _ w).alloc (Nat.le_refl _) (.cells #[.int .i64 1, c 1, c 2, c 3, c 4, c 5, c 6, c 7, c 8, c 9, c 10, c 11, c 12] 40)
 have hx1 := Blk.new w 40 #[.int .i64 1, c 1, c 2, c 3, c 4, c 5, c 6, c 7, c 8, c 9, c 10, c 11, c 12]
 have s1 : (w.alloc (.cells #[.int .i64 1, c 1, c 2, c 3, c 4, c 5, c 6, c 7, c 8, c 9, c 10, c 11, c 12] 40)).heap.size = w.heap.size + 1 := by simp
 have hs := fun (i : Nat) (a : Addr) (m : Mode) (W : World) => run_store Tryz.prog W a (c i) m (ho i)
 go_enter Tryz.func28, Tryz.ntmps28
 go_upto_region 1 with (fail)
 generalize w.alloc (.cells #[.int .i64 1, c 1, c 2, c 3, c 4, c 5, c 6, c 7, c 8, c 9, c 10, c 11, c 12] 40) = w1 at *
 have hb2 := hb1.alloc (by omega) (.cells #[.int .i64 0, .int .i64 0, .int .i64 0, .slice none 0 0, .int .i64 0, .int .i64 0, .int .i64 0, .int .u64 0, .slice none 0 0, .slice none 0 0, .int .i64 0, .slice none 0 0, .int .i64 0] 40)
 have hx2 := hx1.alloc (.cells #[.int .i64 0, .int .i64 0, .int .i64 0, .slice none 0 0, .int .i64 0, .int .i64 0, .int .i64 0, .int .u64 0, .slice none 0 0, .slice none 0 0, .int .i64 0, .slice none 0 0, .int .i64 0] 40)
 have hr := Blk.new w1 40 #[.int .i64 0, .int .i64 0, .int .i64 0, .slice none 0 0, .int .i64 0, .int .i64 0, .int .i64 0, .int .u64 0, .slice none 0 0, .slice none 0 0, .int .i64 0, .slice none 0 0, .int .i64 0]
 have s2 : (w1.alloc (.cells #[.int .i64 0, .int .i64 0, .int .i64 0, .slice none 0 0, .int .i64 0, .int .i64 0, .int .i64 0, .int .u64 0, .slice none 0 0, .slice none 0 0, .int .i64 0, .slice none 0 0, .int .i64 0] 40)).heap.size = w.heap.size + 2 := by simp [s1]
 rw [s1] at hr
 generalize w1.alloc (.cells #[.int .i64 0, .int .i64 0, .int .i64 0, .slice none 0 0, .int .i64 0, .int .i64 0, .int .i64 0, .int .u64 0, .slice none 0 0, .slice none 0 0, .int .i64 0, .slice none 0 0, .int .i64 0] 40) = w2 at *
 clear hx1 hb1 s1
 have x0 := hx2.cell 0
 have x1 := hx2.cell 1
 have x2 := hx2.cell 2
 have x3 := hx2.cell 3
 have x4 := hx2.cell 4
 have x5 := hx2.cell 5
 have x6 := hx2.cell 6
 have x7 := hx2.cell 7
 have x8 := hx2.cell 8
 have x9 := hx2.cell 9
 have x10 := hx2.cell 10
 have x11 := hx2.cell 11
 have x12 := hx2.cell 12
 simp only [gA, gB, gC] at x0 x1 x2 x3 x4 x5 x6 x7 x8 x9 x10 x11 x12
 have hx2' := hx2
 have hr' := hr
 have hb2' := hb2
 have s2' : w.heap.size + 2 ≤ w2.heap.size := Nat.le_of_eq s2.symm
 clear hx2 hr hb2 s2
 have hcc := hc _ hb2' s2'
 clear hc
 go_wp2_with fail
 refine hcc.mono ?_
 rintro e w4 ⟨d, r, rfl, od, hb4, hQ⟩
 have hx4 := hx2'.below hb4 hx2'.lt
 have hr4 := hr'.below hb4 hr'.lt
 have hB4 := hb2'.trans (hb4.mono hb2'.size)
 have s4 : w.heap.size + 2 ≤ w4.heap.size := Nat.le_trans s2' hb4.size
 have hd := fun (i : Nat) (a : Addr) (m : Mode) (W : World) => run_store Tryz.prog W a (d i) m (od i)
 clear hx2' hr' hb2' s2' hb4 hcc x0 x1 x2 x3 x4 x5 x6 x7 x8 x9 x10 x11 x12
 have x0 := hx4.cell 0
 have x1 := hx4.cell 1
 have x2 := hx4.cell 2
 have x3 := hx4.cell 3
 have x4 := hx4.cell 4
 have x5 := hx4.cell 5
 have x6 := hx4.cell 6
 have x7 := hx4.cell 7
 have x8 := hx4.cell 8
 have x9 := hx4.cell 9
 have x10 := hx4.cell 10
 have x11 := hx4.cell 11
 have x12 := hx4.cell 12
 simp only [gA, gB, gC] at x0 x1 x2 x3 x4 x5 x6 x7 x8 x9 x10 x11 x12
 have xf1 := hx4.free 1
 have xf2 := hx4.free 2
 have xf3 := hx4.free 3
 have xf4 := hx4.free 4
 go_upto_region 5 with (fail)
 have hx5 := blkA hx4 (d 1) (d 2) (d 3) (d 4)
 have hk5 := kpA w4 w.heap.size (d 1) (d 2) (d 3) (d 4)
 have hr5 := hk5.blk hr4 (by omega)
 generalize ((((w4.setCell ⟨w.heap.size, 1, none⟩ (d 1)).setCell ⟨w.heap.size, 2, none⟩ (d 2)).setCell ⟨w.heap.size, 3, none⟩ (d 3)).setCell ⟨w.heap.size, 4, none⟩ (d 4)) = w5 at *
 clear hx4 hr4 x0 x1 x2 x3 x4 x5 x6 x7 x8 x9 x10 x11 x12 xf1 xf2 xf3 xf4
 have x0 := hx5.cell 0
 have x1 := hx5.cell 1
 have x2 := hx5.cell 2
 have x3 := hx5.cell 3
 have x4 := hx5.cell 4
 have x5 := hx5.cell 5
 have x6 := hx5.cell 6
 have x7 := hx5.cell 7
 have x8 := hx5.cell 8
 have x9 := hx5.cell 9
 have x10 := hx5.cell 10
 have x11 := hx5.cell 11
 have x12 := hx5.cell 12
 simp only [gA, gB, gC] at x0 x1 x2 x3 x4 x5 x6 x7 x8 x9 x10 x11 x12
 have z0 := hr5.cell 0
 have z1 := hr5.cell 1
 have z2 := hr5.cell 2
 have z3 := hr5.cell 3
 have z4 := hr5.cell 4
 have z5 := hr5.cell 5
 have z6 := hr5.cell 6
 have z7 := hr5.cell 7
 have z8 := hr5.cell 8
 have z9 := hr5.cell 9
 have z10 := hr5.cell 10
 have z11 := hr5.cell 11
 have z12 := hr5.cell 12
 have zf0 := hr5.free 0
 have zf1 := hr5.free 1
 have zf2 := hr5.free 2
 have zf3 := hr5.free 3
 have zf4 := hr5.free 4
 have zf5 := hr5.free 5
 have zf6 := hr5.free 6
 have zf7 := hr5.free 7
 have zf8 := hr5.free 8
 have zf9 := hr5.free 9
 have zf10 := hr5.free 10
 have zf11 := hr5.free 11
 have zf12 := hr5.free 12
 simp only [gA, gB, gC] at z0 z1 z2 z3 z4 z5 z6 z7 z8 z9 z10 z11 z12
 have hr6 := blk13 hr5 (.int .i64 1) (d 1) (d 2) (d 3) (d 4) (c 5) (c 6) (c 7) (c 8) (c 9) (c 10) (c 11) (c 12)
 have hk6 := kp13 w5 (w.heap.size + 1) (.int .i64 1) (d 1) (d 2) (d 3) (d 4) (c 5) (c 6) (c 7) (c 8) (c 9) (c 10) (c 11) (c 12)
 go_wp2_with fail
 refine bodyPost_ret (Tinyy.results_row_tmp rfl _ _ (w.heap.size + 1) rfl (run_loadVar_row _ _ _ _ _ _ _ hr6 Tryz.underlying40 rfl (by kernel_rfl))) rfl ⟨d, r, w4, rfl, hQ, (kp_to hk5 (.inl rfl)).trans (kp_to hk6 (.inr rfl)), hB4, s4⟩
set_option maxHeartbeats 4000000 in
set_option maxRecDepth 100000 in
theorem dTouchT {c : Nat → Value} {k : Key} (ho : One c) (w : World) {Q : (Nat → Value) → Value → World → Prop}
  (hc : ∀ W, Below w.heap.size w W → w.heap.size + 2 ≤ W.heap.size → Calls Tryz.prog 55 #[.agg #[c 5, c 6, c 7, c 8, c 9, c 10, c 11, c 12], .string (str k)] W fun e W' => ∃ (d : Nat → Value) (r : Value), e = .returned (.tuple #[.agg #[d 5, d 6, d 7, d 8, d 9, d 10, d 11, d 12], r]) ∧ One d ∧ Below W.heap.size W W' ∧ Q d r W') :
  Calls Tryz.prog 28 #[.agg #[.int .i64 2, c 1, c 2, c 3, c 4, c 5, c 6, c 7, c 8, c 9, c 10, c 11, c 12], .string (str k)] w fun e w' => ∃ (d : Nat → Value) (r : Value) (W' : World), e = .returned (.tuple #[.agg #[.int .i64 2, c 1, c 2, c 3, c 4, d 5, d 6, d 7, d 8, d 9, d 10, d 11, d 12], r]) ∧ Q d r W' ∧ Kp (fun q => q = w.heap.size ∨ q = w.heap.size + 1) W' w' ∧ Below w.heap.size w W' ∧ w.heap.size + 2 ≤ W'.heap.size := by
 have hb1 := (Below.refl _ w).alloc (Nat.le_refl _) (.cells #[.int .i64 2, c 1, c 2, c 3, c 4, c 5, c 6, c 7, c 8, c 9, c 10, c 11, c 12] 40)
 have hx1 := Blk.new w 40 #[.int .i64 2, c 1, c 2, c 3, c 4, c 5, c 6, c 7, c 8, c 9, c 10, c 11, c 12]
 have s1 : (w.alloc (.cells #[.int .i64 2, c 1, c 2, c 3, c 4, c 5, c 6, c 7, c 8, c 9, c 10, c 11, c 12] 40)).heap.size = w.heap.size + 1 := by simp
 have hs := fun (i : Nat) (a : Addr) (m : Mode) (W : World) => run_store Tryz.prog W a (c i) m (ho i)
 go_enter Tryz.func28, Tryz.ntmps28
 go_upto_region 1 with (fail)
 generalize w.alloc (.cells #[.int .i64 2, c 1, c 2, c 3, c 4, c 5, c 6, c 7, c 8, c 9, c 10, c 11, c 12] 40) = w1 at *
 have hb2 := hb1.alloc (by omega) (.cells #[.int .i64 0, .int .i64 0, .int .i64 0, .slice none 0 0, .int .i64 0, .int .i64 0, .int .i64 0, .int .u64 0, .slice none 0 0, .slice none 0 0, .int .i64 0, .slice none 0 0, .int .i64 0] 40)
 have hx2 := hx1.alloc (.cells #[.int .i64 0, .int .i64 0, .int .i64 0, .slice none 0 0, .int .i64 0, .int .i64 0, .int .i64 0, .int .u64 0, .slice none 0 0, .slice none 0 0, .int .i64 0, .slice none 0 0, .int .i64 0] 40)
 have hr := Blk.new w1 40 #[.int .i64 0, .int .i64 0, .int .i64 0, .slice none 0 0, .int .i64 0, .int .i64 0, .int .i64 0, .int .u64 0, .slice none 0 0, .slice none 0 0, .int .i64 0, .slice none 0 0, .int .i64 0]
 have s2 : (w1.alloc (.cells #[.int .i64 0, .int .i64 0, .int .i64 0, .slice none 0 0, .int .i64 0, .int .i64 0, .int .i64 0, .int .u64 0, .slice none 0 0, .slice none 0 0, .int .i64 0, .slice none 0 0, .int .i64 0] 40)).heap.size = w.heap.size + 2 := by simp [s1]
 rw [s1] at hr
 generalize w1.alloc (.cells #[.int .i64 0, .int .i64 0, .int .i64 0, .slice none 0 0, .int .i64 0, .int .i64 0, .int .i64 0, .int .u64 0, .slice none 0 0, .slice none 0 0, .int .i64 0, .slice none 0 0, .int .i64 0] 40) = w2 at *
 clear hx1 hb1 s1
 have x0 := hx2.cell 0
 have x1 := hx2.cell 1
 have x2 := hx2.cell 2
 have x3 := hx2.cell 3
 have x4 := hx2.cell 4
 have x5 := hx2.cell 5
 have x6 := hx2.cell 6
 have x7 := hx2.cell 7
 have x8 := hx2.cell 8
 have x9 := hx2.cell 9
 have x10 := hx2.cell 10
 have x11 := hx2.cell 11
 have x12 := hx2.cell 12
 simp only [gA, gB, gC] at x0 x1 x2 x3 x4 x5 x6 x7 x8 x9 x10 x11 x12
 have hx2' := hx2
 have hr' := hr
 have hb2' := hb2
 have s2' : w.heap.size + 2 ≤ w2.heap.size := Nat.le_of_eq s2.symm
 clear hx2 hr hb2 s2
 have hcc := hc _ hb2' s2'
 clear hc
 go_wp2_with fail
 refine hcc.mono ?_
 rintro e w4 ⟨d, r, rfl, od, hb4, hQ⟩
 have hx4 := hx2'.below hb4 hx2'.lt
 have hr4 := hr'.below hb4 hr'.lt
 have hB4 := hb2'.trans (hb4.mono hb2'.size)
 have s4 : w.heap.size + 2 ≤ w4.heap.size := Nat.le_trans s2' hb4.size
 have hd := fun (i : Nat) (a : Addr) (m : Mode) (W : World) => run_store Tryz.prog W a (d i) m (od i)
 clear hx2' hr' hb2' s2' hb4 hcc x0 x1 x2 x3 x4 x5 x6 x7 x8 x9 x10 x11 x12
 have x0 := hx4.cell 0
 have x1 := hx4.cell 1
 have x2 := hx4.cell 2
 have x3 := hx4.cell 3
 have x4 := hx4.cell 4
 have x5 := hx4.cell 5
 have x6 := hx4.cell 6
 have x7 := hx4.cell 7
 have x8 := hx4.cell 8
 have x9 := hx4.cell 9
 have x10 := hx4.cell 10
 have x11 := hx4.cell 11
 have x12 := hx4.cell 12
 simp only [gA, gB, gC] at x0 x1 x2 x3 x4 x5 x6 x7 x8 x9 x10 x11 x12
 have xf5 := hx4.free 5
 have xf6 := hx4.free 6
 have xf7 := hx4.free 7
 have xf8 := hx4.free 8
 have xf9 := hx4.free 9
 have xf10 := hx4.free 10
 have xf11 := hx4.free 11
 have xf12 := hx4.free 12
 go_upto_region 5 with (fail)
 have hx5 := blkT hx4 (d 5) (d 6) (d 7) (d 8) (d 9) (d 10) (d 11) (d 12)
 have hk5 := kpT w4 w.heap.size (d 5) (d 6) (d 7) (d 8) (d 9) (d 10) (d 11) (d 12)
 have hr5 := hk5.blk hr4 (by omega)
 generalize ((((((((w4.setCell ⟨w.heap.size, 5, none⟩ (d 5)).setCell ⟨w.heap.size, 6, none⟩ (d 6)).setCell ⟨w.heap.size, 7, none⟩ (d 7)).setCell ⟨w.heap.size, 8, none⟩ (d 8)).setCell ⟨w.heap.size, 9, none⟩ (d 9)).setCell ⟨w.heap.size, 10, none⟩ (d 10)).setCell ⟨w.heap.size, 11, none⟩ (d 11)).setCell ⟨w.heap.size, 12, none⟩ (d 12)) = w5 at *
 clear hx4 hr4 x0 x1 x2 x3 x4 x5 x6 x7 x8 x9 x10 x11 x12 xf5 xf6 xf7 xf8 xf9 xf10 xf11 xf12
 have x0 := hx5.cell 0
 have x1 := hx5.cell 1
 have x2 := hx5.cell 2
 have x3 := hx5.cell 3
 have x4 := hx5.cell 4
 have x5 := hx5.cell 5
 have x6 := hx5.cell 6
 have x7 := hx5.cell 7
 have x8 := hx5.cell 8
 have x9 := hx5.cell 9
 have x10 := hx5.cell 10
 have x11 := hx5.cell 11
 have x12 := hx5.cell 12
 simp only [gA, gB, gC] at x0 x1 x2 x3 x4 x5 x6 x7 x8 x9 x10 x11 x12
 have z0 := hr5.cell 0
 have z1 := hr5.cell 1
 have z2 := hr5.cell 2
 have z3 := hr5.cell 3
 have z4 := hr5.cell 4
 have z5 := hr5.cell 5
 have z6 := hr5.cell 6
 have z7 := hr5.cell 7
 have z8 := hr5.cell 8
 have z9 := hr5.cell 9
 have z10 := hr5.cell 10
 have z11 := hr5.cell 11
 have z12 := hr5.cell 12
 have zf0 := hr5.free 0
 have zf1 := hr5.free 1
 have zf2 := hr5.free 2
 have zf3 := hr5.free 3
 have zf4 := hr5.free 4
 have zf5 := hr5.free 5
 have zf6 := hr5.free 6
 have zf7 := hr5.free 7
 have zf8 := hr5.free 8
 have zf9 := hr5.free 9
 have zf10 := hr5.free 10
 have zf11 := hr5.free 11
 have zf12 := hr5.free 12
 simp only [gA, gB, gC] at z0 z1 z2 z3 z4 z5 z6 z7 z8 z9 z10 z11 z12
 have hr6 := blk13 hr5 (.int .i64 2) (c 1) (c 2) (c 3) (c 4) (d 5) (d 6) (d 7) (d 8) (d 9) (d 10) (d 11) (d 12)
 have hk6 := kp13 w5 (w.heap.size + 1) (.int .i64 2) (c 1) (c 2) (c 3) (c 4) (d 5) (d 6) (d 7) (d 8) (d 9) (d 10) (d 11) (d 12)
 go_wp2_with fail
 refine bodyPost_ret (Tinyy.results_row_tmp rfl _ _ (w.heap.size + 1) rfl (run_loadVar_row _ _ _ _ _ _ _ hr6 Tryz.underlying40 rfl (by kernel_rfl))) rfl ⟨d, r, w4, rfl, hQ, (kp_to hk5 (.inl rfl)).trans (kp_to hk6 (.inr rfl)), hB4, s4⟩
set_option maxHeartbeats 4000000 in
set_option maxRecDepth 100000 in
theorem dRemoveA {c : Nat → Value} {k : Key} (ho : One c) (w : World) {Q : (Nat → Value) → Value → World → Prop}
  (hc : ∀ W, Below w.heap.size w W → w.heap.size + 2 ≤ W.heap.size → Calls Tryz.prog 56 #[.agg #[c 1, c 2, c 3, c 4], .string (str k)] W fun e W' => ∃ (d : Nat → Value) (r : Value), e = .returned (.tuple #[.agg #[d 1, d 2, d 3, d 4], r]) ∧ One d ∧ Below W.heap.size W W' ∧ Q d r W') :
  Calls Tryz.prog 29 #[.agg #[.int .i64 1, c 1, c 2, c 3, c 4, c 5, c 6, c 7, c 8, c 9, c 10, c 11, c 12], .string (str k)] w fun e w' => ∃ (d : Nat → Value) (r : Value) (W' : World), e = .returned (.tuple #[.agg #[.int .i64 1, d 1, d 2, d 3, d 4, c 5, c 6, c 7, c 8, c 9, c 10, c 11, c 12], r]) ∧ Q d r W' ∧ Kp (fun q => q = w.heap.size ∨ q = w.heap.size + 1) W' w' ∧ Below w.heap.size w W' ∧ w.heap.size + 2 ≤ W'.heap.size := by
 have hb1 := (Below.refl _ w).alloc (Nat.le_refl _) (.cells #[.int .i64 1, c 1, c 2, c 3, c 4, c 5, c 6, c 7, c 8, c 9, c 10, c 11, c 12] 40)
 have hx1 := Blk.new w 40 #[.int .i64 1, c 1, c 2, c 3, c 4, c 5, c 6, c 7, c 8, c 9, c 10, c 11, c 12]
 have s1 : (w.alloc (.cells #[.int .i64 1, c 1, c 2, c 3, c 4, c 5, c 6, c 7, c 8, c 9, c 10, c 11, c 12] 40)).heap.size = w.heap.size + 1 := by simp
 have hs := fun (i : Nat) (a : Addr) (m : Mode) (W : World) => run_store Tryz.prog W a (c i) m (ho i)
 go_enter Tryz.func29, Tryz.ntmps29
 go_upto_region 1 with (fail)
 generalize w.alloc (.cells #[.int .i64 1, c 1, c 2, c 3, c 4, c 5, c 6, c 7, c 8, c 9, c 10, c 11, c 12] 40) = w1 at *
 have hb2 := hb1.alloc (by omega) (.cells #[.int .i64 0, .int .i64 0, .int .i64 0, .slice none 0 0, .int .i64 0, .int .i64 0, .int .i64 0, .int .u64 0, .slice none 0 0, .slice none 0 0, .int .i64 0, .slice none 0 0, .int .i64 0] 40)
 have hx2 := hx1.alloc (.cells #[.int .i64 0, .int .i64 0, .int .i64 0, .slice none 0 0, .int .i64 0, .int .i64 0, .int .i64 0, .int .u64 0, .slice none 0 0, .slice none 0 0, .int .i64 0, .slice none 0 0, .int .i64 0] 40)
 have hr := Blk.new w1 40 #[.int .i64 0, .int .i64 0, .int .i64 0, .slice none 0 0, .int .i64 0, .int .i64 0, .int .i64 0, .int .u64 0, .slice none 0 0, .slice none 0 0, .int .i64 0, .slice none 0 0, .int .i64 0]
 have s2 : (w1.alloc (.cells #[.int .i64 0, .int .i64 0, .int .i64 0, .slice none 0 0, .int .i64 0, .int .i64 0, .int .i64 0, .int .u64 0, .slice none 0 0, .slice none 0 0, .int .i64 0, .slice none 0 0, .int .i64 0] 40)).heap.size = w.heap.size + 2 := by simp [s1]
 rw [s1] at hr
 generalize w1.alloc (.cells #[.int .i64 0, .int .i64 0, .int .i64 0, .slice none 0 0, .int .i64 0, .int .i64 0, .int .i64 0, .int .u64 0, .slice none 0 0, .slice none 0 0, .int .i64 0, .slice none 0 0, .int .i64 0] 40) = w2 at *
 clear hx1 hb1 s1
 have x0 := hx2.cell 0
 have x1 := hx2.cell 1
 have x2 := hx2.cell 2
 have x3 := hx2.cell 3
 have x4 := hx2.cell 4
 have x5 := hx2.cell 5
 have x6 := hx2.cell 6
 have x7 := hx2.cell 7
 have x8 := hx2.cell 8
 have x9 := hx2.cell 9
 have x10 := hx2.cell 10
 have x11 := hx2.cell 11
 have x12 := hx2.cell 12
 simp only [gA, gB, gC] at x0 x1 x2 x3 x4 x5 x6 x7 x8 x9 x10 x11 x12
 have hx2' := hx2
 have hr' := hr
 have hb2' := hb2
 have s2' : w.heap.size + 2 ≤ w2.heap.size := Nat.le_of_eq s2.symm
 clear hx2 hr hb2 s2
 have hcc := hc _ hb2' s2'
 clear hc
 go_wp2_with fail
 refine hcc.mono ?_
 rintro e w4 ⟨d, r, rfl, od, hb4, hQ⟩
 have hx4 := hx2'.below hb4 hx2'.lt
 have hr4 := hr'.below hb4 hr'.lt
 have hB4 := hb2'.trans (hb4.mono hb2'.size)
 have s4 : w.heap.size + 2 ≤ w4.heap.size := Nat.le_trans s2' hb4.size
 have hd := fun (i : Nat) (a : Addr) (m : Mode) (W : World) => run_store Tryz.prog W a (d i) m (od i)
 clear hx2' hr' hb2' s2' hb4 hcc x0 x1 x2 x3 x4 x5 x6 x7 x8 x9 x10 x11 x12
 have x0 := hx4.cell 0
 have x1 := hx4.cell 1
 have x2 := hx4.cell 2
 have x3 := hx4.cell 3
 have x4 := hx4.cell 4
 have x5 := hx4.cell 5
 have x6 := hx4.cell 6
 have x7 := hx4.cell 7
 have x8 := hx4.cell 8
 have x9 := hx4.cell 9
 have x10 := hx4.cell 10
 have x11 := hx4.cell 11
 have x12 := hx4.cell 12
 simp only [gA, gB, gC] at x0 x1 x2 x3 x4 x5 x6 x7 x8 x9 x10 x11 x12
 have xf1 := hx4.free 1
 have xf2 := hx4.free 2
 have xf3 := hx4.free 3
 have xf4 := hx4.free 4
 go_upto_region 5 with (fail)
 have hx5 := blkA hx4 (d 1) (d 2) (d 3) (d 4)
 have hk5 := kpA w4 w.heap.size (d 1) (d 2) (d 3) (d 4)
 have hr5 := hk5.blk hr4 (by omega)
 generalize ((((w4.setCell ⟨w.heap.size, 1, none⟩ (d 1)).setCell ⟨w.heap.size, 2, none⟩ (d 2)).setCell ⟨w.heap.size, 3, none⟩ (d 3)).setCell ⟨w.heap.size, 4, none⟩ (d 4)) = w5 at *
 clear hx4 hr4 x0 x1 x2 x3 x4 x5 x6 x7 x8 x9 x10 x11 x12 xf1 xf2 xf3 xf4
 have x0 := hx5.cell 0
 have x1 := hx5.cell 1
 have x2 := hx5.cell 2
 have x3 := hx5.cell 3
 have x4 := hx5.cell 4
 have x5 := hx5.cell 5
 have x6 := hx5.cell 6
 have x7 := hx5.cell 7
 have x8 := hx5.cell 8
 have x9 := hx5.cell 9
 have x10 := hx5.cell 10
 have x11 := hx5.cell 11
 have x12 := hx5.cell 12
 simp only [gA, gB, gC] at x0 x1 x2 x3 x4 x5 x6 x7 x8 x9 x10 x11 x12
 have z0 := hr5.cell 0
 have z1 := hr5.cell 1
 have z2 := hr5.cell 2
 have z3 := hr5.cell 3
 have z4 := hr5.cell 4
 have z5 := hr5.cell 5
 have z6 := hr5.cell 6
 have z7 := hr5.cell 7
 have z8 := hr5.cell 8
 have z9 := hr5.cell 9
 have z10 := hr5.cell 10
 have z11 := hr5.cell 11
 have z12 := hr5.cell 12
 have zf0 := hr5.free 0
 have zf1 := hr5.free 1
 have zf2 := hr5.free 2
 have zf3 := hr5.free 3
 have zf4 := hr5.free 4
 have zf5 := hr5.free 5
 have zf6 := hr5.free 6
 have zf7 := hr5.free 7
 have zf8 := hr5.free 8
 have zf9 := hr5.free 9
 have zf10 := hr5.free 10
 have zf11 := hr5.free 11
 have zf12 := hr5.free 12
 simp only [gA, gB, gC] at z0 z1 z2 z3 z4 z5 z6 z7 z8 z9 z10 z11 z12
 have hr6 := blk13 hr5 (.int .i64 1) (d 1) (d 2) (d 3) (d 4) (c 5) (c 6) (c 7) (c 8) (c 9) (c 10) (c 11) (c 12)
 have hk6 := kp13 w5 (w.heap.size + 1) (.int .i64 1) (d 1) (d 2) (d 3) (d 4) (c 5) (c 6) (c 7) (c 8) (c 9) (c 10) (c 11) (c 12)
 go_wp2_with fail
 refine bodyPost_ret (Tinyy.results_row_tmp rfl _ _ (w.heap.size + 1) rfl (run_loadVar_row _ _ _ _ _ _ _ hr6 Tryz.underlying40 rfl (by kernel_rfl))) rfl ⟨d, r, w4, rfl, hQ, (kp_to hk5 (.inl rfl)).trans (kp_to hk6 (.inr rfl)), hB4, s4⟩
set_option maxHeartbeats 4000000 in
set_option maxRecDepth 100000 in
theorem dRemoveT {c : Nat → Value} {k : Key} (ho : One c) (w : World) {Q : (Nat → Value) → Value → World → Prop}
  (hc : ∀ W, Below w.heap.size w W → w.heap.size + 2 ≤ W.heap.size → Calls Tryz.prog 57 #[.agg #[c 5, c 6, c 7, c 8, c 9, c 10, c 11, c 12], .string (str k)] W fun e W' => ∃ (d : Nat → Value) (r : Value), e = .returned (.tuple #[.agg #[d 5, d 6, d 7, d 8, d 9, d 10, d 11, d 12], r]) ∧ One d ∧ Below W.heap.size W W' ∧ Q d r W') :
  Calls Tryz.prog 29 #[.agg #[.int .i64 2, c 1, c 2, c 3, c 4, c 5, c 6, c 7, c 8, c 9, c 10, c 11, c 12], .string (str k)] w fun e w' => ∃ (d : Nat → Value) (r : Value) (W' : World), e = .returned (.tuple #[.agg #[.int .i64 2, c 1, c 2, c 3, c 4, d 5, d 6, d 7, d 8, d 9, d 10, d 11, d 12], r]) ∧ Q d r W' ∧ Kp (fun q => q = w.heap.size ∨ q = w.heap.size + 1) W' w' ∧ Below w.heap.size w W' ∧ w.heap.size + 2 ≤ W'.heap.size := by
 have hb1 := (Below.refl _ w).alloc (Nat.le_refl _) (.cells #[.int .i64 2, c 1, c 2, c 3, c 4, c 5, c 6, c 7, c 8, c 9, c 10, c 11, c 12] 40)
 have hx1 := Blk.new w 40 #[.int .i64 2, c 1, c 2, c 3, c 4, c 5, c 6, c 7, c 8, c 9, c 10, c 11, c 12]
 have s1 : (w.alloc (.cells #[.int .i64 2, c 1, c 2, c 3, c 4, c 5, c 6, c 7, c 8, c 9, c 10, c 11, c 12] 40)).heap.size = w.heap.size + 1 := by simp
 have hs := fun (i : Nat) (a : Addr) (m : Mode) (W : World) => run_store Tryz.prog W a (c i) m (ho i)
 go_enter Tryz.func29, Tryz.ntmps29
 go_upto_region 1 with (fail)
 generalize w.alloc (.cells #[.int .i64 2, c 1, c 2, c 3, c 4, c 5, c 6, c 7, c 8, c 9, c 10, c 11, c 12] 40) = w1 at *
 have hb2 := hb1.alloc (by omega) (.cells #[.int .i64 0, .int .i64 0, .int .i64 0, .slice none 0 0, .int .i64 0, .int .i64 0, .int .i64 0, .int .u64 0, .slice none 0 0, .slice none 0 0, .int .i64 0, .slice none 0 0, .int .i64 0] 40)
 have hx2 := hx1.alloc (.cells #[.int .i64 0, .int .i64 0, .int .i64 0, .slice none 0 0, .int .i64 0, .int .i64 0, .int .i64 0, .int .u64 0, .slice none 0 0, .slice none 0 0, .int .i64 0, .slice none 0 0, .int .i64 0] 40)
 have hr := Blk.new w1 40 #[.int .i64 0, .int .i64 0, .int .i64 0, .slice none 0 0, .int .i64 0, .int .i64 0, .int .i64 0, .int .u64 0, .slice none 0 0, .slice none 0 0, .int .i64 0, .slice none 0 0, .int .i64 0]
 have s2 : (w1.alloc (.cells #[.int .i64 0, .int .i64 0, .int .i64 0, .slice none 0 0, .int .i64 0, .int .i64 0, .int .i64 0, .int .u64 0, .slice none 0 0, .slice none 0 0, .int .i64 0, .slice none 0 0, .int .i64 0] 40)).heap.size = w.heap.size + 2 := by simp [s1]
 rw [s1] at hr
 generalize w1.alloc (.cells #[.int .i64 0, .int .i64 0, .int .i64 0, .slice none 0 0, .int .i64 0, .int .i64 0, .int .i64 0, .int .u64 0, .slice none 0 0, .slice none 0 0, .int .i64 0, .slice none 0 0, .int .i64 0] 40) = w2 at *
 clear hx1 hb1 s1
 have x0 := hx2.cell 0
 have x1 := hx2.cell 1
 have x2 := hx2.cell 2
 have x3 := hx2.cell 3
 have x4 := hx2.cell 4
 have x5 := hx2.cell 5
 have x6 := hx2.cell 6
 have x7 := hx2.cell 7
 have x8 := hx2.cell 8
 have x9 := hx2.cell 9
 have x10 := hx2.cell 10
 have x11 := hx2.cell 11
 have x12 := hx2.cell 12
 simp only [gA, gB, gC] at x0 x1 x2 x3 x4 x5 x6 x7 x8 x9 x10 x11 x12
 have hx2' := hx2
 have hr' := hr
 have hb2' := hb2
 have s2' : w.heap.size + 2 ≤ w2.heap.size := Nat.le_of_eq s2.symm
 clear hx2 hr hb2 s2
 have hcc := hc _ hb2' s2'
 clear hc
 go_wp2_with fail
 refine hcc.mono ?_
 rintro e w4 ⟨d, r, rfl, od, hb4, hQ⟩
 have hx4 := hx2'.below hb4 hx2'.lt
 have hr4 := hr'.below hb4 hr'.lt
 have hB4 := hb2'.trans (hb4.mono hb2'.size)
 have s4 : w.heap.size + 2 ≤ w4.heap.size := Nat.le_trans s2' hb4.size
 have hd := fun (i : Nat) (a : Addr) (m : Mode) (W : World) => run_store Tryz.prog W a (d i) m (od i)
 clear hx2' hr' hb2' s2' hb4 hcc x0 x1 x2 x3 x4 x5 x6 x7 x8 x9 x10 x11 x12
 have x0 := hx4.cell 0
 have x1 := hx4.cell 1
 have x2 := hx4.cell 2
 have x3 := hx4.cell 3
 have x4 := hx4.cell 4
 have x5 := hx4.cell 5
 have x6 := hx4.cell 6
 have x7 := hx4.cell 7
 have x8 := hx4.cell 8
 have x9 := hx4.cell 9
 have x10 := hx4.cell 10
 have x11 := hx4.cell 11
 have x12 := hx4.cell 12
 simp only [gA, gB, gC] at x0 x1 x2 x3 x4 x5 x6 x7 x8 x9 x10 x11 x12
 have xf5 := hx4.free 5
 have xf6 := hx4.free 6
 have xf7 := hx4.free 7
 have xf8 := hx4.free 8
 have xf9 := hx4.free 9
 have xf10 := hx4.free 10
 have xf11 := hx4.free 11
 have xf12 := hx4.free 12
 go_upto_region 5 with (fail)
 have hx5 := blkT hx4 (d 5) (d 6) (d 7) (d 8) (d 9) (d 10) (d 11) (d 12)
 have hk5 := kpT w4 w.heap.size (d 5) (d 6) (d 7) (d 8) (d 9) (d 10) (d 11) (d 12)
 have hr5 := hk5.blk hr4 (by omega)
 generalize ((((((((w4.setCell ⟨w.heap.size, 5, none⟩ (d 5)).setCell ⟨w.heap.size, 6, none⟩ (d 6)).setCell ⟨w.heap.size, 7, none⟩ (d 7)).setCell ⟨w.heap.size, 8, none⟩ (d 8)).setCell ⟨w.heap.size, 9, none⟩ (d 9)).setCell ⟨w.heap.size, 10, none⟩ (d 10)).setCell ⟨w.heap.size, 11, none⟩ (d 11)).setCell ⟨w.heap.size, 12, none⟩ (d 12)) = w5 at *
 clear hx4 hr4 x0 x1 x2 x3 x4 x5 x6 x7 x8 x9 x10 x11 x12 xf5 xf6 xf7 xf8 xf9 xf10 xf11 xf12
 have x0 := hx5.cell 0
 have x1 := hx5.cell 1
 have x2 := hx5.cell 2
 have x3 := hx5.cell 3
 have x4 := hx5.cell 4
 have x5 := hx5.cell 5
 have x6 := hx5.cell 6
 have x7 := hx5.cell 7
 have x8 := hx5.cell 8
 have x9 := hx5.cell 9
 have x10 := hx5.cell 10
 have x11 := hx5.cell 11
 have x12 := hx5.cell 12
 simp only [gA, gB, gC] at x0 x1 x2 x3 x4 x5 x6 x7 x8 x9 x10 x11 x12
 have z0 := hr5.cell 0
 have z1 := hr5.cell 1
 have z2 := hr5.cell 2
 have z3 := hr5.cell 3
 have z4 := hr5.cell 4
 have z5 := hr5.cell 5
 have z6 := hr5.cell 6
 have z7 := hr5.cell 7
 have z8 := hr5.cell 8
 have z9 := hr5.cell 9
 have z10 := hr5.cell 10
 have z11 := hr5.cell 11
 have z12 := hr5.cell 12
 have zf0 := hr5.free 0
 have zf1 := hr5.free 1
 have zf2 := hr5.free 2
 have zf3 := hr5.free 3
 have zf4 := hr5.free 4
 have zf5 := hr5.free 5
 have zf6 := hr5.free 6
 have zf7 := hr5.free 7
 have zf8 := hr5.free 8
 have zf9 := hr5.free 9
 have zf10 := hr5.free 10
 have zf11 := hr5.free 11
 have zf12 := hr5.free 12
 simp only [gA, gB, gC] at z0 z1 z2 z3 z4 z5 z6 z7 z8 z9 z10 z11 z12
 have hr6 := blk13 hr5 (.int .i64 2) (c 1) (c 2) (c 3) (c 4) (d 5) (d 6) (d 7) (d 8) (d 9) (d 10) (d 11) (d 12)
 have hk6 := kp13 w5 (w.heap.size + 1) (.int .i64 2) (c 1) (c 2) (c 3) (c 4) (d 5) (d 6) (d 7) (d 8) (d 9) (d 10) (d 11) (d 12)
 go_wp2_with fail
 refine bodyPost_ret (Tinyy.results_row_tmp rfl _ _ (w.heap.size + 1) rfl (run_loadVar_row _ _ _ _ _ _ _ hr6 Tryz.underlying40 rfl (by kernel_rfl))) rfl ⟨d, r, w4, rfl, hQ, (kp_to hk5 (.inl rfl)).trans (kp_to hk6 (.inr rfl)), hB4, s4⟩
set_option maxHeartbeats 4000000 in
set_option maxRecDepth 100000 in
theorem dEvictA {c : Nat → Value} (ho : One c) (w : World) {Q : (Nat → Value) → Value → Value → World → Prop}
  (hc : ∀ W, Below w.heap.size w W → w.heap.size + 2 ≤ W.heap.size → Calls Tryz.prog 58 #[.agg #[c 1, c 2, c 3, c 4]] W fun e W' => ∃ (d : Nat → Value) (r : Value) (s : Value), e = .returned (.tuple #[.agg #[d 1, d 2, d 3, d 4], r, s]) ∧ One d ∧ Below W.heap.size W W' ∧ Q d r s W') :
  Calls Tryz.prog 30 #[.agg #[.int .i64 1, c 1, c 2, c 3, c 4, c 5, c 6, c 7, c 8, c 9, c 10, c 11, c 12]] w fun e w' => ∃ (d : Nat → Value) (r : Value) (s : Value) (W' : World), e = .returned (.tuple #[.agg #[.int .i64 1, d 1, d 2, d 3, d 4, c 5, c 6, c 7, c 8, c 9, c 10, c 11, c 12], r, s]) ∧ Q d r s W' ∧ Kp (fun q => q = w.heap.size ∨ q = w.heap.size + 1) W' w' ∧ Below w.heap.size w W' ∧ w.heap.size + 2 ≤ W'.heap.size := by
 have hb1 := (Below.refl _ w).alloc (Nat.le_refl _) (.cells #[.int .i64 1, c 1, c 2, c 3, c 4, c 5, c 6, c 7, c 8, c 9, c 10, c 11, c 12] 40)
 have hx1 := Blk.new w 40 #[.int .i64 1, c 1, c 2, c 3, c 4, c 5, c 6, c 7, c 8, c 9, c 10, c 11, c 12]
 have s1 : (w.alloc (.cells #[.int .i64 1, c 1, c 2, c 3, c 4, c 5, c 6, c 7, c 8, c 9, c 10, c 11, c 12] 40)).heap.size = w.heap.size + 1 := by simp
 have hs := fun (i : Nat) (a : Addr) (m : Mode) (W : World) => run_store Tryz.prog W a (c i) m (ho i)
 go_enter Tryz.func30, Tryz.ntmps30
 go_upto_region 1 with (fail)
 generalize w.alloc (.cells #[.int .i64 1, c 1, c 2, c 3, c 4, c 5, c 6, c 7, c 8, c 9, c 10, c 11, c 12] 40) = w1 at *
 have hb2 := hb1.alloc (by omega) (.cells #[.int .i64 0, .int .i64 0, .int .i64 0, .slice none 0 0, .int .i64 0, .int .i64 0, .int .i64 0, .int .u64 0, .slice none 0 0, .slice none 0 0, .int .i64 0, .slice none 0 0, .int .i64 0] 40)
 have hx2 := hx1.alloc (.cells #[.int .i64 0, .int .i64 0, .int .i64 0, .slice none 0 0, .int .i64 0, .int .i64 0, .int .i64 0, .int .u64 0, .slice none 0 0, .slice none 0 0, .int .i64 0, .slice none 0 0, .int .i64 0] 40)
 have hr := Blk.new w1 40 #[.int .i64 0, .int .i64 0, .int .i64 0, .slice none 0 0, .int .i64 0, .int .i64 0, .int .i64 0, .int .u64 0, .slice none 0 0, .slice none 0 0, .int .i64 0, .slice none 0 0, .int .i64 0]
 have s2 : (w1.alloc (.cells #[.int .i64 0, .int .i64 0, .int .i64 0, .slice none 0 0, .int .i64 0, .int .i64 0, .int .i64 0, .int .u64 0, .slice none 0 0, .slice none 0 0, .int .i64 0, .slice none 0 0, .int .i64 0] 40)).heap.size = w.heap.size + 2 := by simp [s1]
 rw [s1] at hr
 generalize w1.alloc (.cells #[.int .i64 0, .int .i64 0, .int .i64 0, .slice none 0 0, .int .i64 0, .int .i64 0, .int .i64 0, .int .u64 0, .slice none 0 0, .slice none 0 0, .int .i64 0, .slice none 0 0, .int .i64 0] 40) = w2 at *
 clear hx1 hb1 s1
 have x0 := hx2.cell 0
 have x1 := hx2.cell 1
 have x2 := hx2.cell 2
 have x3 := hx2.cell 3
 have x4 := hx2.cell 4
 have x5 := hx2.cell 5
 have x6 := hx2.cell 6
 have x7 := hx2.cell 7
 have x8 := hx2.cell 8
 have x9 := hx2.cell 9
 have x10 := hx2.cell 10
 have x11 := hx2.cell 11
 have x12 := hx2.cell 12
 simp only [gA, gB, gC] at x0 x1 x2 x3 x4 x5 x6 x7 x8 x9 x10 x11 x12
 have hx2' := hx2
 have hr' := hr
 have hb2' := hb2
 have s2' : w.heap.size + 2 ≤ w2.heap.size := Nat.le_of_eq s2.symm
 clear hx2 hr hb2 s2
 have hcc := hc _ hb2' s2'
 clear hc
 go_wp2_with fail
 refine hcc.mono ?_
 rintro e w4 ⟨d, r, s, rfl, od, hb4, hQ⟩
 have hx4 := hx2'.below hb4 hx2'.lt
 have hr4 := hr'.below hb4 hr'.lt
 have hB4 := hb2'.trans (hb4.mono hb2'.size)
 have s4 : w.heap.size + 2 ≤ w4.heap.size := Nat.le_trans s2' hb4.size
 have hd := fun (i : Nat) (a : Addr) (m : Mode) (W : World) => run_store Tryz.prog W a (d i) m (od i)
 clear hx2' hr' hb2' s2' hb4 hcc x0 x1 x2 x3 x4 x5 x6 x7 x8 x9 x10 x11 x12
 have x0 := hx4.cell 0
 have x1 := hx4.cell 1
 have x2 := hx4.cell 2
 have x3 := hx4.cell 3
 have x4 := hx4.cell 4
 have x5 := hx4.cell 5
 have x6 := hx4.cell 6
 have x7 := hx4.cell 7
 have x8 := hx4.cell 8
 have x9 := hx4.cell 9
 have x10 := hx4.cell 10
 have x11 := hx4.cell 11
 have x12 := hx4.cell 12
 simp only [gA, gB, gC] at x0 x1 x2 x3 x4 x5 x6 x7 x8 x9 x10 x11 x12
 have xf1 := hx4.free 1
 have xf2 := hx4.free 2
 have xf3 := hx4.free 3
 have xf4 := hx4.free 4
 go_upto_region 5 with (fail)
 have hx5 := blkA hx4 (d 1) (d 2) (d 3) (d 4)
 have hk5 := kpA w4 w.heap.size (d 1) (d 2) (d 3) (d 4)
 have hr5 := hk5.blk hr4 (by omega)
 generalize ((((w4.setCell ⟨w.heap.size, 1, none⟩ (d 1)).setCell ⟨w.heap.size, 2, none⟩ (d 2)).setCell ⟨w.heap.size, 3, none⟩ (d 3)).setCell ⟨w.heap.size, 4, none⟩ (d 4)) = w5 at *
 clear hx4 hr4 x0 x1 x2 x3 x4 x5 x6 x7 x8 x9 x10 x11 x12 xf1 xf2 xf3 xf4
 have x0 := hx5.cell 0
 have x1 := hx5.cell 1
 have x2 := hx5.cell 2
 have x3 := hx5.cell 3
 have x4 := hx5.cell 4
 have x5 := hx5.cell 5
 have x6 := hx5.cell 6
 have x7 := hx5.cell 7
 have x8 := hx5.cell 8
 have x9 := hx5.cell 9
 have x10 := hx5.cell 10
 have x11 := hx5.cell 11
 have x12 := hx5.cell 12
 simp only [gA, gB, gC] at x0 x1 x2 x3 x4 x5 x6 x7 x8 x9 x10 x11 x12
 have z0 := hr5.cell 0
 have z1 := hr5.cell 1
 have z2 := hr5.cell 2
 have z3 := hr5.cell 3
 have z4 := hr5.cell 4
 have z5 := hr5.cell 5
 have z6 := hr5.cell 6
 have z7 := hr5.cell 7
 have z8 := hr5.cell 8
 have z9 := hr5.cell 9
 have z10 := hr5.cell 10
 have z11 := hr5.cell 11
 have z12 := hr5.cell 12
 have zf0 := hr5.free 0
 have zf1 := hr5.free 1
 have zf2 := hr5.free 2
 have zf3 := hr5.free 3
 have zf4 := hr5.free 4
 have zf5 := hr5.free 5
 have zf6 := hr5.free 6
 have zf7 := hr5.free 7
 have zf8 := hr5.free 8
 have zf9 := hr5.free 9
 have zf10 := hr5.free 10
 have zf11 := hr5.free 11
 have zf12 := hr5.free 12
 simp only [gA, gB, gC] at z0 z1 z2 z3 z4 z5 z6 z7 z8 z9 z10 z11 z12
 have hr6 := blk13 hr5 (.int .i64 1) (d 1) (d 2) (d 3) (d 4) (c 5) (c 6) (c 7) (c 8) (c 9) (c 10) (c 11) (c 12)
 have hk6 := kp13 w5 (w.heap.size + 1) (.int .i64 1) (d 1) (d 2) (d 3) (d 4) (c 5) (c 6) (c 7) (c 8) (c 9) (c 10) (c 11) (c 12)
 go_wp2_with fail
 refine bodyPost_ret (Tinyy.results_row_tmp2 rfl _ _ (w.heap.size + 1) rfl (run_loadVar_row _ _ _ _ _ _ _ hr6 Tryz.underlying40 rfl (by kernel_rfl))) rfl ⟨d, r, s, w4, rfl, hQ, (kp_to hk5 (.inl rfl)).trans (kp_to hk6 (.inr rfl)), hB4, s4⟩
set_option maxHeartbeats 4000000 in
set_option maxRecDepth 100000 in
theorem dEvictT {c : Nat → Value} (ho : One c) (w : World) {Q : (Nat → Value) → Value → Value → World → Prop}
  (hc : ∀ W, Below w.heap.size w W → w.heap.size + 2 ≤ W.heap.size → Calls Tryz.prog 59 #[.agg #[c 5, c 6, c 7, c 8, c 9, c 10, c 11, c 12]] W fun e W' => ∃ (d : Nat → Value) (r : Value) (s : Value), e = .returned (.tuple #[.agg #[d 5, d 6, d 7, d 8, d 9, d 10, d 11, d 12], r, s]) ∧ One d ∧ Below W.heap.size W W' ∧ Q d r s W') :
  Calls Tryz.prog 30 #[.agg #[.int .i64 2, c 1, c 2, c 3, c 4, c 5, c 6, c 7, c 8, c 9, c 10, c 11, c 12]] w fun e w' => ∃ (d : Nat → Value) (r : Value) (s : Value) (W' : World), e = .returned (.tuple #[.agg #[.int .i64 2, c 1, c 2, c 3, c 4, d 5, d 6, d 7, d 8, d 9, d 10, d 11, d 12], r, s]) ∧ Q d r s W' ∧ Kp (fun q => q = w.heap.size ∨ q = w.heap.size + 1) W' w' ∧ Below w.heap.size w W' ∧ w.heap.size + 2 ≤ W'.heap.size := by
 have hb1 := (Below.refl _ w).alloc (Nat.le_refl _) (.cells #[.int .i64 2, c 1, c 2, c 3, c 4, c 5, c 6, c 7, c 8, c 9, c 10, c 11, c 12] 40)
 have hx1 := Blk.new w 40 #[.int .i64 2, c 1, c 2, c 3, c 4, c 5, c 6, c 7, c 8, c 9, c 10, c 11, c 12]
 have s1 : (w.alloc (.cells #[.int .i64 2, c 1, c 2, c 3, c 4, c 5, c 6, c 7, c 8, c 9, c 10, c 11, c 12] 40)).heap.size = w.heap.size + 1 := by simp
 have hs := fun (i : Nat) (a : Addr) (m : Mode) (W : World) => run_store Tryz.prog W a (c i) m (ho i)
 go_enter Tryz.func30, Tryz.ntmps30
 go_upto_region 1 with (fail)
 generalize w.alloc (.cells #[.int .i64 2, c 1, c 2, c 3, c 4, c 5, c 6, c 7, c 8, c 9, c 10, c 11, c 12] 40) = w1 at *
 have hb2 := hb1.alloc (by omega) (.cells #[.int .i64 0, .int .i64 0, .int .i64 0, .slice none 0 0, .int .i64 0, .int .i64 0, .int .i64 0, .int .u64 0, .slice none 0 0, .slice none 0 0, .int .i64 0, .slice none 0 0, .int .i64 0] 40)
 have hx2 := hx1.alloc (.cells #[.int .i64 0, .int .i64 0, .int .i64 0, .slice none 0 0, .int .i64 0, .int .i64 0, .int .i64 0, .int .u64 0, .slice none 0 0, .slice none 0 0, .int .i64 0, .slice none 0 0, .int .i64 0] 40)
 have hr := Blk.new w1 40 #[.int .i64 0, .int .i64 0, .int .i64 0, .slice none 0 0, .int .i64 0, .int .i64 0, .int .i64 0, .int .u64 0, .slice none 0 0, .slice none 0 0, .int .i64 0, .slice none 0 0, .int .i64 0]
 have s2 : (w1.alloc (.cells #[.int .i64 0, .int .i64 0, .int .i64 0, .slice none 0 0, .int .i64 0, .int .i64 0, .int .i64 0, .int .u64 0, .slice none 0 0, .slice none 0 0, .int .i64 0, .slice none 0 0, .int .i64 0] 40)).heap.size = w.heap.size + 2 := by simp [s1]
 rw [s1] at hr
 generalize w1.alloc (.cells #[.int .i64 0, .int .i64 0, .int .i64 0, .slice none 0 0, .int .i64 0, .int .i64 0, .int .i64 0, .int .u64 0, .slice none 0 0, .slice none 0 0, .int .i64 0, .slice none 0 0, .int .i64 0] 40) = w2 at *
 clear hx1 hb1 s1
 have x0 := hx2.cell 0
 have x1 := hx2.cell 1
 have x2 := hx2.cell 2
 have x3 := hx2.cell 3
 have x4 := hx2.cell 4
 have x5 := hx2.cell 5
 have x6 := hx2.cell 6
 have x7 := hx2.cell 7
 have x8 := hx2.cell 8
 have x9 := hx2.cell 9
 have x10 := hx2.cell 10
 have x11 := hx2.cell 11
 have x12 := hx2.cell 12
 simp only [gA, gB, gC] at x0 x1 x2 x3 x4 x5 x6 x7 x8 x9 x10 x11 x12
 have hx2' := hx2
 have hr' := hr
 have hb2' := hb2
 have s2' : w.heap.size + 2 ≤ w2.heap.size := Nat.le_of_eq s2.symm
 clear hx2 hr hb2 s2
 have hcc := hc _ hb2' s2'
 clear hc
 go_wp2_with fail
 refine hcc.mono ?_
 rintro e w4 ⟨d, r, s, rfl, od, hb4, hQ⟩
 have hx4 := hx2'.below hb4 hx2'.lt
 have hr4 := hr'.below hb4 hr'.lt
 have hB4 := hb2'.trans (hb4.mono hb2'.size)
 have s4 : w.heap.size + 2 ≤ w4.heap.size := Nat.le_trans s2' hb4.size
 have hd := fun (i : Nat) (a : Addr) (m : Mode) (W : World) => run_store Tryz.prog W a (d i) m (od i)
 clear hx2' hr' hb2' s2' hb4 hcc x0 x1 x2 x3 x4 x5 x6 x7 x8 x9 x10 x11 x12
 have x0 := hx4.cell 0
 have x1 := hx4.cell 1
 have x2 := hx4.cell 2
 have x3 := hx4.cell 3
 have x4 := hx4.cell 4
 have x5 := hx4.cell 5
 have x6 := hx4.cell 6
 have x7 := hx4.cell 7
 have x8 := hx4.cell 8
 have x9 := hx4.cell 9
 have x10 := hx4.cell 10
 have x11 := hx4.cell 11
 have x12 := hx4.cell 12
 simp only [gA, gB, gC] at x0 x1 x2 x3 x4 x5 x6 x7 x8 x9 x10 x11 x12
 have xf5 := hx4.free 5
 have xf6 := hx4.free 6
 have xf7 := hx4.free 7
 have xf8 := hx4.free 8
 have xf9 := hx4.free 9
 have xf10 := hx4.free 10
 have xf11 := hx4.free 11
 have xf12 := hx4.free 12
 go_upto_region 5 with (fail)
 have hx5 := blkT hx4 (d 5) (d 6) (d 7) (d 8) (d 9) (d 10) (d 11) (d 12)
 have hk5 := kpT w4 w.heap.size (d 5) (d 6) (d 7) (d 8) (d 9) (d 10) (d 11) (d 12)
 have hr5 := hk5.blk hr4 (by omega)
 generalize ((((((((w4.setCell ⟨w.heap.size, 5, none⟩ (d 5)).setCell ⟨w.heap.size, 6, none⟩ (d 6)).setCell ⟨w.heap.size, 7, none⟩ (d 7)).setCell ⟨w.heap.size, 8, none⟩ (d 8)).setCell ⟨w.heap.size, 9, none⟩ (d 9)).setCell ⟨w.heap.size, 10, none⟩ (d 10)).setCell ⟨w.heap.size, 11, none⟩ (d 11)).setCell ⟨w.heap.size, 12, none⟩ (d 12)) = w5 at *
 clear hx4 hr4 x0 x1 x2 x3 x4 x5 x6 x7 x8 x9 x10 x11 x12 xf5 xf6 xf7 xf8 xf9 xf10 xf11 xf12
 have x0 := hx5.cell 0
 have x1 := hx5.cell 1
 have x2 := hx5.cell 2
 have x3 := hx5.cell 3
 have x4 := hx5.cell 4
 have x5 := hx5.cell 5
 have x6 := hx5.cell 6
 have x7 := hx5.cell 7
 have x8 := hx5.cell 8
 have x9 := hx5.cell 9
 have x10 := hx5.cell 10
 have x11 := hx5.cell 11
 have x12 := hx5.cell 12
 simp only [gA, gB, gC] at x0 x1 x2 x3 x4 x5 x6 x7 x8 x9 x10 x11 x12
 have z0 := hr5.cell 0
 have z1 := hr5.cell 1
 have z2 := hr5.cell 2
 have z3 := hr5.cell 3
 have z4 := hr5.cell 4
 have z5 := hr5.cell 5
 have z6 := hr5.cell 6
 have z7 := hr5.cell 7
 have z8 := hr5.cell 8
 have z9 := hr5.cell 9
 have z10 := hr5.cell 10
 have z11 := hr5.cell 11
 have z12 := hr5.cell 12
 have zf0 := hr5.free 0
 have zf1 := hr5.free 1
 have zf2 := hr5.free 2
 have zf3 := hr5.free 3
 have zf4 := hr5.free 4
 have zf5 := hr5.free 5
 have zf6 := hr5.free 6
 have zf7 := hr5.free 7
 have zf8 := hr5.free 8
 have zf9 := hr5.free 9
 have zf10 := hr5.free 10
 have zf11 := hr5.free 11
 have zf12 := hr5.free 12
 simp only [gA, gB, gC] at z0 z1 z2 z3 z4 z5 z6 z7 z8 z9 z10 z11 z12
 have hr6 := blk13 hr5 (.int .i64 2) (c 1) (c 2) (c 3) (c 4) (d 5) (d 6) (d 7) (d 8) (d 9) (d 10) (d 11) (d 12)
 have hk6 := kp13 w5 (w.heap.size + 1) (.int .i64 2) (c 1) (c 2) (c 3) (c 4) (d 5) (d 6) (d 7) (d 8) (d 9) (d 10) (d 11) (d 12)
 go_wp2_with fail
 refine bodyPost_ret (Tinyy.results_row_tmp2 rfl _ _ (w.heap.size + 1) rfl (run_loadVar_row _ _ _ _ _ _ _ hr6 Tryz.underlying40 rfl (by kernel_rfl))) rfl ⟨d, r, s, w4, rfl, hQ, (kp_to hk5 (.inl rfl)).trans (kp_to hk6 (.inr rfl)), hB4, s4⟩
set_option maxHeartbeats 4000000 in
set_option maxRecDepth 100000 in
theorem dInsertA {c : Nat → Value} {k : Key} (ho : One c) (w : World) {Q : (Nat → Value) → Value → World → Prop}
  (hc : ∀ W, Below w.heap.size w W → w.heap.size + 2 ≤ W.heap.size → Calls Tryz.prog 61 #[.agg #[c 1, c 2, c 3, c 4], .string (str k)] W fun e W' => ∃ (d : Nat → Value) (r : Value), e = .returned (.tuple #[.agg #[d 1, d 2, d 3, d 4], r]) ∧ One d ∧ Below W.heap.size W W' ∧ Q d r W') :
  Calls Tryz.prog 32 #[.agg #[.int .i64 1, c 1, c 2, c 3, c 4, c 5, c 6, c 7, c 8, c 9, c 10, c 11, c 12], .string (str k)] w fun e w' => ∃ (d : Nat → Value) (r : Value) (W' : World), e = .returned (.tuple #[.agg #[.int .i64 1, d 1, d 2, d 3, d 4, c 5, c 6, c 7, c 8, c 9, c 10, c 11, c 12], r]) ∧ Q d r W' ∧ Kp (fun q => q = w.heap.size ∨ q = w.heap.size + 1) W' w' ∧ Below w.heap.size w W' ∧ w.heap.size + 2 ≤ W'.heap.size := by
 have hb1 := (Below.refl _ w).alloc (Nat.le_refl _) (.cells #[.int .i64 1, c 1, c 2, c 3, c 4, c 5, c 6, c 7, c 8, c 9, c 10, c 11, c 12] 40)
 have hx1 := Blk.new w 40 #[.int .i64 1, c 1, c 2, c 3, c 4, c 5, c 6, c 7, c 8, c 9, c 10, c 11, c 12]
 have s1 : (w.alloc (.cells #[.int .i64 1, c 1, c 2, c 3, c 4, c 5, c 6, c 7, c 8, c 9, c 10, c 11, c 12] 40)).heap.size = w.heap.size + 1 := by simp
 have hs := fun (i : Nat) (a : Addr) (m : Mode) (W : World) => run_store Tryz.prog W a (c i) m (ho i)
 go_enter Tryz.func32, Tryz.ntmps32
 go_upto_region 1 with (fail)
 generalize w.alloc (.cells #[.int .i64 1, c 1, c 2, c 3, c 4, c 5, c 6, c 7, c 8, c 9, c 10, c 11, c 12] 40) = w1 at *
 have hb2 := hb1.alloc (by omega) (.cells #[.int .i64 0, .int .i64 0, .int .i64 0, .slice none 0 0, .int .i64 0, .int .i64 0, .int .i64 0, .int .u64 0, .slice none 0 0, .slice none 0 0, .int .i64 0, .slice none 0 0, .int .i64 0] 40)
 have hx2 := hx1.alloc (.cells #[.int .i64 0, .int .i64 0, .int .i64 0, .slice none 0 0, .int .i64 0, .int .i64 0, .int .i64 0, .int .u64 0, .slice none 0 0, .slice none 0 0, .int .i64 0, .slice none 0 0, .int .i64 0] 40)
 have hr := Blk.new w1 40 #[.int .i64 0, .int .i64 0, .int .i64 0, .slice none 0 0, .int .i64 0, .int .i64 0, .int .i64 0, .int .u64 0, .slice none 0 0, .slice none 0 0, .int .i64 0, .slice none 0 0, .int .i64 0]
 have s2 : (w1.alloc (.cells #[.int .i64 0, .int .i64 0, .int .i64 0, .slice none 0 0, .int .i64 0, .int .i64 0, .int .i64 0, .int .u64 0, .slice none 0 0, .slice none 0 0, .int .i64 0, .slice none 0 0, .int .i64 0] 40)).heap.size = w.heap.size + 2 := by simp [s1]
 rw [s1] at hr
 generalize w1.alloc (.cells #[.int .i64 0, .int .i64 0, .int .i64 0, .slice none 0 0, .int .i64 0, .int .i64 0, .int .i64 0, .int .u64 0, .slice none 0 0, .slice none 0 0, .int .i64 0, .slice none 0 0, .int .i64 0] 40) = w2 at *
 clear hx1 hb1 s1
 have x0 := hx2.cell 0
 have x1 := hx2.cell 1
 have x2 := hx2.cell 2
 have x3 := hx2.cell 3
 have x4 := hx2.cell 4
 have x5 := hx2.cell 5
 have x6 := hx2.cell 6
 have x7 := hx2.cell 7
 have x8 := hx2.cell 8
 have x9 := hx2.cell 9
 have x10 := hx2.cell 10
 have x11 := hx2.cell 11
 have x12 := hx2.cell 12
 simp only [gA, gB, gC] at x0 x1 x2 x3 x4 x5 x6 x7 x8 x9 x10 x11 x12
 have hb3 := (Below.refl _ w2).alloc (Nat.le_refl _) (.cells #[] 9)
 have hx3 := hx2.alloc (.cells #[] 9)
 have hr3 := hr.alloc (.cells #[] 9)
 have s3 : (w2.alloc (.cells #[] 9)).heap.size = w.heap.size + 3 := by simp [s2]
 clear x0 x1 x2 x3 x4 x5 x6 x7 x8 x9 x10 x11 x12
 go_upto_region 2 with (fail)
 generalize w2.alloc (.cells #[] 9) = w3 at *
 have x0 := hx3.cell 0
 have x1 := hx3.cell 1
 have x2 := hx3.cell 2
 have x3 := hx3.cell 3
 have x4 := hx3.cell 4
 have x5 := hx3.cell 5
 have x6 := hx3.cell 6
 have x7 := hx3.cell 7
 have x8 := hx3.cell 8
 have x9 := hx3.cell 9
 have x10 := hx3.cell 10
 have x11 := hx3.cell 11
 have x12 := hx3.cell 12
 simp only [gA, gB, gC] at x0 x1 x2 x3 x4 x5 x6 x7 x8 x9 x10 x11 x12
 have hb2' := hb2.trans (hb3.mono hb2.size)
 have hx2' := hx3
 have hr' := hr3
 have s2' : w.heap.size + 2 ≤ w3.heap.size := by omega
 clear hx2 hr hb2 s2 hx3 hr3 hb3 s3
 have hcc := hc _ hb2' s2'
 clear hc
 go_wp2_with fail
 refine hcc.mono ?_
 rintro e w4 ⟨d, r, rfl, od, hb4, hQ⟩
 have hx4 := hx2'.below hb4 hx2'.lt
 have hr4 := hr'.below hb4 hr'.lt
 have hB4 := hb2'.trans (hb4.mono hb2'.size)
 have s4 : w.heap.size + 2 ≤ w4.heap.size := Nat.le_trans s2' hb4.size
 have hd := fun (i : Nat) (a : Addr) (m : Mode) (W : World) => run_store Tryz.prog W a (d i) m (od i)
 clear hx2' hr' hb2' s2' hb4 hcc x0 x1 x2 x3 x4 x5 x6 x7 x8 x9 x10 x11 x12
 have x0 := hx4.cell 0
 have x1 := hx4.cell 1
 have x2 := hx4.cell 2
 have x3 := hx4.cell 3
 have x4 := hx4.cell 4
 have x5 := hx4.cell 5
 have x6 := hx4.cell 6
 have x7 := hx4.cell 7
 have x8 := hx4.cell 8
 have x9 := hx4.cell 9
 have x10 := hx4.cell 10
 have x11 := hx4.cell 11
 have x12 := hx4.cell 12
 simp only [gA, gB, gC] at x0 x1 x2 x3 x4 x5 x6 x7 x8 x9 x10 x11 x12
 have xf1 := hx4.free 1
 have xf2 := hx4.free 2
 have xf3 := hx4.free 3
 have xf4 := hx4.free 4
 go_upto_region 5 with (fail)
 have hx5 := blkA hx4 (d 1) (d 2) (d 3) (d 4)
 have hk5 := kpA w4 w.heap.size (d 1) (d 2) (d 3) (d 4)
 have hr5 := hk5.blk hr4 (by omega)
 generalize ((((w4.setCell ⟨w.heap.size, 1, none⟩ (d 1)).setCell ⟨w.heap.size, 2, none⟩ (d 2)).setCell ⟨w.heap.size, 3, none⟩ (d 3)).setCell ⟨w.heap.size, 4, none⟩ (d 4)) = w5 at *
 clear hx4 hr4 x0 x1 x2 x3 x4 x5 x6 x7 x8 x9 x10 x11 x12 xf1 xf2 xf3 xf4
 have x0 := hx5.cell 0
 have x1 := hx5.cell 1
 have x2 := hx5.cell 2
 have x3 := hx5.cell 3
 have x4 := hx5.cell 4
 have x5 := hx5.cell 5
 have x6 := hx5.cell 6
 have x7 := hx5.cell 7
 have x8 := hx5.cell 8
 have x9 := hx5.cell 9
 have x10 := hx5.cell 10
 have x11 := hx5.cell 11
 have x12 := hx5.cell 12
 simp only [gA, gB, gC] at x0 x1 x2 x3 x4 x5 x6 x7 x8 x9 x10 x11 x12
 have z0 := hr5.cell 0
 have z1 := hr5.cell 1
 have z2 := hr5.cell 2
 have z3 := hr5.cell 3
 have z4 := hr5.cell 4
 have z5 := hr5.cell 5
 have z6 := hr5.cell 6
 have z7 := hr5.cell 7
 have z8 := hr5.cell 8
 have z9 := hr5.cell 9
 have z10 := hr5.cell 10
 have z11 := hr5.cell 11
 have z12 := hr5.cell 12
 have zf0 := hr5.free 0
 have zf1 := hr5.free 1
 have zf2 := hr5.free 2
 have zf3 := hr5.free 3
 have zf4 := hr5.free 4
 have zf5 := hr5.free 5
 have zf6 := hr5.free 6
 have zf7 := hr5.free 7
 have zf8 := hr5.free 8
 have zf9 := hr5.free 9
 have zf10 := hr5.free 10
 have zf11 := hr5.free 11
 have zf12 := hr5.free 12
 simp only [gA, gB, gC] at z0 z1 z2 z3 z4 z5 z6 z7 z8 z9 z10 z11 z12
 have hr6 := blk13 hr5 (.int .i64 1) (d 1) (d 2) (d 3) (d 4) (c 5) (c 6) (c 7) (c 8) (c 9) (c 10) (c 11) (c 12)
 have hk6 := kp13 w5 (w.heap.size + 1) (.int .i64 1) (d 1) (d 2) (d 3) (d 4) (c 5) (c 6) (c 7) (c 8) (c 9) (c 10) (c 11) (c 12)
 go_wp2_with fail
 refine bodyPost_ret (Tinyy.results_row_tmp rfl _ _ (w.heap.size + 1) rfl (run_loadVar_row _ _ _ _ _ _ _ hr6 Tryz.underlying40 rfl (by kernel_rfl))) rfl ⟨d, r, w4, rfl, hQ, (kp_to hk5 (.inl rfl)).trans (kp_to hk6 (.inr rfl)), hB4, s4⟩
set_option maxHeartbeats 4000000 in
set_option maxRecDepth 100000 in
theorem dInsertT {c : Nat → Value} {k : Key} (ho : One c) (w : World) {Q : (Nat → Value) → Value → World → Prop}
  (hc : ∀ W, Below w.heap.size w W → w.heap.size + 2 ≤ W.heap.size → Calls Tryz.prog 62 #[.agg #[c 5, c 6, c 7, c 8, c 9, c 10, c 11, c 12], .string (str k)] W fun e W' => ∃ (d : Nat → Value) (r : Value), e = .returned (.tuple #[.agg #[d 5, d 6, d 7, d 8, d 9, d 10, d 11, d 12], r]) ∧ One d ∧ Below W.heap.size W W' ∧ Q d r W') :
  Calls Tryz.prog 32 #[.agg #[.int .i64 2, c 1, c 2, c 3, c 4, c 5, c 6, c 7, c 8, c 9, c 10, c 11, c 12], .string (str k)] w fun e w' => ∃ (d : Nat → Value) (r : Value) (W' : World), e = .returned (.tuple #[.agg #[.int .i64 2, c 1, c 2, c 3, c 4, d 5, d 6, d 7, d 8, d 9, d 10, d 11, d 12], r]) ∧ Q d r W' ∧ Kp (fun q => q = w.heap.size ∨ q = w.heap.size + 1) W' w' ∧ Below w.heap.size w W' ∧ w.heap.size + 2 ≤ W'.heap.size := by
 have hb1 := (Below.refl _ w).alloc (Nat.le_refl _) (.cells #[.int .i64 2, c 1, c 2, c 3, c 4, c 5, c 6, c 7, c 8, c 9, c 10, c 11, c 12] 40)
 have hx1 := Blk.new w 40 #[.int .i64 2, c 1, c 2, c 3, c 4, c 5, c 6, c 7, c 8, c 9, c 10, c 11, c 12]
 have s1 : (w.alloc (.cells #[.int .i64 2, c 1, c 2, c 3, c 4, c 5, c 6, c 7, c 8, c 9, c 10, c 11, c 12] 40)).heap.size = w.heap.size + 1 := by simp
 have hs := fun (i : Nat) (a : Addr) (m : Mode) (W : World) => run_store Tryz.prog W a (c i) m (ho i)
 go_enter Tryz.func32, Tryz.ntmps32
 go_upto_region 1 with (fail)
 generalize w.alloc (.cells #[.int .i64 2, c 1, c 2, c 3, c 4, c 5, c 6, c 7, c 8, c 9, c 10, c 11, c 12] 40) = w1 at *
 have hb2 := hb1.alloc (by omega) (.cells #[.int .i64 0, .int .i64 0, .int .i64 0, .slice none 0 0, .int .i64 0, .int .i64 0, .int .i64 0, .int .u64 0, .slice none 0 0, .slice none 0 0, .int .i64 0, .slice none 0 0, .int .i64 0] 40)
 have hx2 := hx1.alloc (.cells #[.int .i64 0, .int .i64 0, .int .i64 0, .slice none 0 0, .int .i64 0, .int .i64 0, .int .i64 0, .int .u64 0, .slice none 0 0, .slice none 0 0, .int .i64 0, .slice none 0 0, .int .i64 0] 40)
 have hr := Blk.new w1 40 #[.int .i64 0, .int .i64 0, .int .i64 0, .slice none 0 0, .int .i64 0, .int .i64 0, .int .i64 0, .int .u64 0, .slice none 0 0, .slice none 0 0, .int .i64 0, .slice none 0 0, .int .i64 0]
 have s2 : (w1.alloc (.cells #[.int .i64 0, .int .i64 0, .int .i64 0, .slice none 0 0, .int .i64 0, .int .i64 0, .int .i64 0, .int .u64 0, .slice none 0 0, .slice none 0 0, .int .i64 0, .slice none 0 0, .int .i64 0] 40)).heap.size = w.heap.size + 2 := by simp [s1]
 rw [s1] at hr
 generalize w1.alloc (.cells #[.int .i64 0, .int .i64 0, .int .i64 0, .slice none 0 0, .int .i64 0, .int .i64 0, .int .i64 0, .int .u64 0, .slice none 0 0, .slice none 0 0, .int .i64 0, .slice none 0 0, .int .i64 0] 40) = w2 at *
 clear hx1 hb1 s1
 have x0 := hx2.cell 0
 have x1 := hx2.cell 1
 have x2 := hx2.cell 2
 have x3 := hx2.cell 3
 have x4 := hx2.cell 4
 have x5 := hx2.cell 5
 have x6 := hx2.cell 6
 have x7 := hx2.cell 7
 have x8 := hx2.cell 8
 have x9 := hx2.cell 9
 have x10 := hx2.cell 10
 have x11 := hx2.cell 11
 have x12 := hx2.cell 12
 simp only [gA, gB, gC] at x0 x1 x2 x3 x4 x5 x6 x7 x8 x9 x10 x11 x12
 have hb3 := (Below.refl _ w2).alloc (Nat.le_refl _) (.cells #[] 9)
 have hx3 := hx2.alloc (.cells #[] 9)
 have hr3 := hr.alloc (.cells #[] 9)
 have s3 : (w2.alloc (.cells #[] 9)).heap.size = w.heap.size + 3 := by simp [s2]
 clear x0 x1 x2 x3 x4 x5 x6 x7 x8 x9 x10 x11 x12
 go_upto_region 2 with (fail)
 generalize w2.alloc (.cells #[] 9) = w3 at *
 have x0 := hx3.cell 0
 have x1 := hx3.cell 1
 have x2 := hx3.cell 2
 have x3 := hx3.cell 3
 have x4 := hx3.cell 4
 have x5 := hx3.cell 5
 have x6 := hx3.cell 6
 have x7 := hx3.cell 7
 have x8 := hx3.cell 8
 have x9 := hx3.cell 9
 have x10 := hx3.cell 10
 have x11 := hx3.cell 11
 have x12 := hx3.cell 12
 simp only [gA, gB, gC] at x0 x1 x2 x3 x4 x5 x6 x7 x8 x9 x10 x11 x12
 have hb2' := hb2.trans (hb3.mono hb2.size)
 have hx2' := hx3
 have hr' := hr3
 have s2' : w.heap.size + 2 ≤ w3.heap.size := by omega
 clear hx2 hr hb2 s2 hx3 hr3 hb3 s3
 have hcc := hc _ hb2' s2'
 clear hc
 go_wp2_with fail
 refine hcc.mono ?_
 rintro e w4 ⟨d, r, rfl, od, hb4, hQ⟩
 have hx4 := hx2'.below hb4 hx2'.lt
 have hr4 := hr'.below hb4 hr'.lt
 have hB4 := hb2'.trans (hb4.mono hb2'.size)
 have s4 : w.heap.size + 2 ≤ w4.heap.size := Nat.le_trans s2' hb4.size
 have hd := fun (i : Nat) (a : Addr) (m : Mode) (W : World) => run_store Tryz.prog W a (d i) m (od i)
 clear hx2' hr' hb2' s2' hb4 hcc x0 x1 x2 x3 x4 x5 x6 x7 x8 x9 x10 x11 x12
 have x0 := hx4.cell 0
 have x1 := hx4.cell 1
 have x2 := hx4.cell 2
 have x3 := hx4.cell 3
 have x4 := hx4.cell 4
 have x5 := hx4.cell 5
 have x6 := hx4.cell 6
 have x7 := hx4.cell 7
 have x8 := hx4.cell 8
 have x9 := hx4.cell 9
 have x10 := hx4.cell 10
 have x11 := hx4.cell 11
 have x12 := hx4.cell 12
 simp only [gA, gB, gC] at x0 x1 x2 x3 x4 x5 x6 x7 x8 x9 x10 x11 x12
 have xf5 := hx4.free 5
 have xf6 := hx4.free 6
 have xf7 := hx4.free 7
 have xf8 := hx4.free 8
 have xf9 := hx4.free 9
 have xf10 := hx4.free 10
 have xf11 := hx4.free 11
 have xf12 := hx4.free 12
 go_upto_region 5 with (fail)
 have hx5 := blkT hx4 (d 5) (d 6) (d 7) (d 8) (d 9) (d 10) (d 11) (d 12)
 have hk5 := kpT w4 w.heap.size (d 5) (d 6) (d 7) (d 8) (d 9) (d 10) (d 11) (d 12)
 have hr5 := hk5.blk hr4 (by omega)
 generalize ((((((((w4.setCell ⟨w.heap.size, 5, none⟩ (d 5)).setCell ⟨w.heap.size, 6, none⟩ (d 6)).setCell ⟨w.heap.size, 7, none⟩ (d 7)).setCell ⟨w.heap.size, 8, none⟩ (d 8)).setCell ⟨w.heap.size, 9, none⟩ (d 9)).setCell ⟨w.heap.size, 10, none⟩ (d 10)).setCell ⟨w.heap.size, 11, none⟩ (d 11)).setCell ⟨w.heap.size, 12, none⟩ (d 12)) = w5 at *
 clear hx4 hr4 x0 x1 x2 x3 x4 x5 x6 x7 x8 x9 x10 x11 x12 xf5 xf6 xf7 xf8 xf9 xf10 xf11 xf12
 have x0 := hx5.cell 0
 have x1 := hx5.cell 1
 have x2 := hx5.cell 2
 have x3 := hx5.cell 3
 have x4 := hx5.cell 4
 have x5 := hx5.cell 5
 have x6 := hx5.cell 6
 have x7 := hx5.cell 7
 have x8 := hx5.cell 8
 have x9 := hx5.cell 9
 have x10 := hx5.cell 10
 have x11 := hx5.cell 11
 have x12 := hx5.cell 12
 simp only [gA, gB, gC] at x0 x1 x2 x3 x4 x5 x6 x7 x8 x9 x10 x11 x12
 have z0 := hr5.cell 0
 have z1 := hr5.cell 1
 have z2 := hr5.cell 2
 have z3 := hr5.cell 3
 have z4 := hr5.cell 4
 have z5 := hr5.cell 5
 have z6 := hr5.cell 6
 have z7 := hr5.cell 7
 have z8 := hr5.cell 8
 have z9 := hr5.cell 9
 have z10 := hr5.cell 10
 have z11 := hr5.cell 11
 have z12 := hr5.cell 12
 have zf0 := hr5.free 0
 have zf1 := hr5.free 1
 have zf2 := hr5.free 2
 have zf3 := hr5.free 3
 have zf4 := hr5.free 4
 have zf5 := hr5.free 5
 have zf6 := hr5.free 6
 have zf7 := hr5.free 7
 have zf8 := hr5.free 8
 have zf9 := hr5.free 9
 have zf10 := hr5.free 10
 have zf11 := hr5.free 11
 have zf12 := hr5.free 12
 simp only [gA, gB, gC] at z0 z1 z2 z3 z4 z5 z6 z7 z8 z9 z10 z11 z12
 have hr6 := blk13 hr5 (.int .i64 2) (c 1) (c 2) (c 3) (c 4) (d 5) (d 6) (d 7) (d 8) (d 9) (d 10) (d 11) (d 12)
 have hk6 := kp13 w5 (w.heap.size + 1) (.int .i64 2) (c 1) (c 2) (c 3) (c 4) (d 5) (d 6) (d 7) (d 8) (d 9) (d 10) (d 11) (d 12)
 go_wp2_with fail
 refine bodyPost_ret (Tinyy.results_row_tmp rfl _ _ (w.heap.size + 1) rfl (run_loadVar_row _ _ _ _ _ _ _ hr6 Tryz.underlying40 rfl (by kernel_rfl))) rfl ⟨d, r, w4, rfl, hQ, (kp_to hk5 (.inl rfl)).trans (kp_to hk6 (.inr rfl)), hB4, s4⟩
set_option maxHeartbeats 4000000 in
set_option maxRecDepth 100000 in
theorem dMissT {c : Nat → Value} {k : Key} (ho : One c) (w : World) {Q : (Nat → Value) → World → Prop}
  (hh : ∀ W, Below w.heap.size w W → Calls Tryz.prog 37 #[.agg #[c 5, c 6, c 7, c 8, c 9, c 10, c 11, c 12], .string (str k)] W fun e W' => e = .returned (.bool false) ∧ Below W.heap.size W W')
  (hc : ∀ W, Below w.heap.size w W → w.heap.size + 2 ≤ W.heap.size → Calls Tryz.prog 60 #[.agg #[c 5, c 6, c 7, c 8, c 9, c 10, c 11, c 12], .string (str k)] W fun e W' => ∃ (d : Nat → Value), e = .returned (.agg #[d 5, d 6, d 7, d 8, d 9, d 10, d 11, d 12]) ∧ One d ∧ Below W.heap.size W W' ∧ Q d W') :
  Calls Tryz.prog 31 #[.agg #[.int .i64 2, c 1, c 2, c 3, c 4, c 5, c 6, c 7, c 8, c 9, c 10, c 11, c 12], .string (str k)] w fun e w' => ∃ (d : Nat → Value) (W' : World), e = .returned (.agg #[.int .i64 2, c 1, c 2, c 3, c 4, d 5, d 6, d 7, d 8, d 9, d 10, d 11, d 12]) ∧ Q d W' ∧ Kp (fun q => q = w.heap.size ∨ q = w.heap.size + 1) W' w' ∧ Below w.heap.size w W' ∧ w.heap.size + 2 ≤ W'.heap.size := by
 have hb1 := (Below.refl _ w).alloc (Nat.le_refl _) (.cells #[.int .i64 2, c 1, c 2, c 3, c 4, c 5, c 6, c 7, c 8, c 9, c 10, c 11, c 12] 40)
 have hx1 := Blk.new w 40 #[.int .i64 2, c 1, c 2, c 3, c 4, c 5, c 6, c 7, c 8, c 9, c 10, c 11, c 12]
 have s1 : (w.alloc (.cells #[.int .i64 2, c 1, c 2, c 3, c 4, c 5, c 6, c 7, c 8, c 9, c 10, c 11, c 12] 40)).heap.size = w.heap.size + 1 := by simp
 have hs := fun (i : Nat) (a : Addr) (m : Mode) (W : World) => run_store Tryz.prog W a (c i) m (ho i)
 go_enter Tryz.func31, Tryz.ntmps31
 go_upto_region 1 with (fail)
 generalize w.alloc (.cells #[.int .i64 2, c 1, c 2, c 3, c 4, c 5, c 6, c 7, c 8, c 9, c 10, c 11, c 12] 40) = w1 at *
 have hb2 := hb1.alloc (by omega) (.cells #[.int .i64 0, .int .i64 0, .int .i64 0, .slice none 0 0, .int .i64 0, .int .i64 0, .int .i64 0, .int .u64 0, .slice none 0 0, .slice none 0 0, .int .i64 0, .slice none 0 0, .int .i64 0] 40)
 have hx2 := hx1.alloc (.cells #[.int .i64 0, .int .i64 0, .int .i64 0, .slice none 0 0, .int .i64 0, .int .i64 0, .int .i64 0, .int .u64 0, .slice none 0 0, .slice none 0 0, .int .i64 0, .slice none 0 0, .int .i64 0] 40)
 have hr := Blk.new w1 40 #[.int .i64 0, .int .i64 0, .int .i64 0, .slice none 0 0, .int .i64 0, .int .i64 0, .int .i64 0, .int .u64 0, .slice none 0 0, .slice none 0 0, .int .i64 0, .slice none 0 0, .int .i64 0]
 have s2 : (w1.alloc (.cells #[.int .i64 0, .int .i64 0, .int .i64 0, .slice none 0 0, .int .i64 0, .int .i64 0, .int .i64 0, .int .u64 0, .slice none 0 0, .slice none 0 0, .int .i64 0, .slice none 0 0, .int .i64 0] 40)).heap.size = w.heap.size + 2 := by simp [s1]
 rw [s1] at hr
 generalize w1.alloc (.cells #[.int .i64 0, .int .i64 0, .int .i64 0, .slice none 0 0, .int .i64 0, .int .i64 0, .int .i64 0, .int .u64 0, .slice none 0 0, .slice none 0 0, .int .i64 0, .slice none 0 0, .int .i64 0] 40) = w2 at *
 clear hx1 hb1 s1
 have x0 := hx2.cell 0
 have x1 := hx2.cell 1
 have x2 := hx2.cell 2
 have x3 := hx2.cell 3
 have x4 := hx2.cell 4
 have x5 := hx2.cell 5
 have x6 := hx2.cell 6
 have x7 := hx2.cell 7
 have x8 := hx2.cell 8
 have x9 := hx2.cell 9
 have x10 := hx2.cell 10
 have x11 := hx2.cell 11
 have x12 := hx2.cell 12
 simp only [gA, gB, gC] at x0 x1 x2 x3 x4 x5 x6 x7 x8 x9 x10 x11 x12
 have hhc := hh _ hb2
 clear hh
 go_wp2_with fail
 refine hhc.mono ?_
 rintro e w2' ⟨rfl, hbh⟩
 have hx2' := hx2.below hbh hx2.lt
 have hr' := hr.below hbh hr.lt
 have hb2' := hb2.trans (hbh.mono hb2.size)
 have s2' : w.heap.size + 2 ≤ w2'.heap.size := by have := hbh.size; omega
 clear hx2 hr hb2 s2 hbh hhc x0 x1 x2 x3 x4 x5 x6 x7 x8 x9 x10 x11 x12
 have x0 := hx2'.cell 0
 have x1 := hx2'.cell 1
 have x2 := hx2'.cell 2
 have x3 := hx2'.cell 3
 have x4 := hx2'.cell 4
 have x5 := hx2'.cell 5
 have x6 := hx2'.cell 6
 have x7 := hx2'.cell 7
 have x8 := hx2'.cell 8
 have x9 := hx2'.cell 9
 have x10 := hx2'.cell 10
 have x11 := hx2'.cell 11
 have x12 := hx2'.cell 12
 simp only [gA, gB, gC] at x0 x1 x2 x3 x4 x5 x6 x7 x8 x9 x10 x11 x12
 have hcc := hc _ hb2' s2'
 clear hc
 go_wp2_with fail
 refine hcc.mono ?_
 rintro e w4 ⟨d, rfl, od, hb4, hQ⟩
 have hx4 := hx2'.below hb4 hx2'.lt
 have hr4 := hr'.below hb4 hr'.lt
 have hB4 := hb2'.trans (hb4.mono hb2'.size)
 have s4 : w.heap.size + 2 ≤ w4.heap.size := Nat.le_trans s2' hb4.size
 have hd := fun (i : Nat) (a : Addr) (m : Mode) (W : World) => run_store Tryz.prog W a (d i) m (od i)
 clear hx2' hr' hb2' s2' hb4 hcc x0 x1 x2 x3 x4 x5 x6 x7 x8 x9 x10 x11 x12
 have x0 := hx4.cell 0
 have x1 := hx4.cell 1
 have x2 := hx4.cell 2
 have x3 := hx4.cell 3
 have x4 := hx4.cell 4
 have x5 := hx4.cell 5
 have x6 := hx4.cell 6
 have x7 := hx4.cell 7
 have x8 := hx4.cell 8
 have x9 := hx4.cell 9
 have x10 := hx4.cell 10
 have x11 := hx4.cell 11
 have x12 := hx4.cell 12
 simp only [gA, gB, gC] at x0 x1 x2 x3 x4 x5 x6 x7 x8 x9 x10 x11 x12
 have xf5 := hx4.free 5
 have xf6 := hx4.free 6
 have xf7 := hx4.free 7
 have xf8 := hx4.free 8
 have xf9 := hx4.free 9
 have xf10 := hx4.free 10
 have xf11 := hx4.free 11
 have xf12 := hx4.free 12
 go_upto_region 3 with (fail)
 have hx5 := blkT hx4 (d 5) (d 6) (d 7) (d 8) (d 9) (d 10) (d 11) (d 12)
 have hk5 := kpT w4 w.heap.size (d 5) (d 6) (d 7) (d 8) (d 9) (d 10) (d 11) (d 12)
 have hr5 := hk5.blk hr4 (by omega)
 generalize ((((((((w4.setCell ⟨w.heap.size, 5, none⟩ (d 5)).setCell ⟨w.heap.size, 6, none⟩ (d 6)).setCell ⟨w.heap.size, 7, none⟩ (d 7)).setCell ⟨w.heap.size, 8, none⟩ (d 8)).setCell ⟨w.heap.size, 9, none⟩ (d 9)).setCell ⟨w.heap.size, 10, none⟩ (d 10)).setCell ⟨w.heap.size, 11, none⟩ (d 11)).setCell ⟨w.heap.size, 12, none⟩ (d 12)) = w5 at *
 clear hx4 hr4 x0 x1 x2 x3 x4 x5 x6 x7 x8 x9 x10 x11 x12 xf5 xf6 xf7 xf8 xf9 xf10 xf11 xf12
 have x0 := hx5.cell 0
 have x1 := hx5.cell 1
 have x2 := hx5.cell 2
 have x3 := hx5.cell 3
 have x4 := hx5.cell 4
 have x5 := hx5.cell 5
 have x6 := hx5.cell 6
 have x7 := hx5.cell 7
 have x8 := hx5.cell 8
 have x9 := hx5.cell 9
 have x10 := hx5.cell 10
 have x11 := hx5.cell 11
 have x12 := hx5.cell 12
 simp only [gA, gB, gC] at x0 x1 x2 x3 x4 x5 x6 x7 x8 x9 x10 x11 x12
 have z0 := hr5.cell 0
 have z1 := hr5.cell 1
 have z2 := hr5.cell 2
 have z3 := hr5.cell 3
 have z4 := hr5.cell 4
 have z5 := hr5.cell 5
 have z6 := hr5.cell 6
 have z7 := hr5.cell 7
 have z8 := hr5.cell 8
 have z9 := hr5.cell 9
 have z10 := hr5.cell 10
 have z11 := hr5.cell 11
 have z12 := hr5.cell 12
 have zf0 := hr5.free 0
 have zf1 := hr5.free 1
 have zf2 := hr5.free 2
 have zf3 := hr5.free 3
 have zf4 := hr5.free 4
 have zf5 := hr5.free 5
 have zf6 := hr5.free 6
 have zf7 := hr5.free 7
 have zf8 := hr5.free 8
 have zf9 := hr5.free 9
 have zf10 := hr5.free 10
 have zf11 := hr5.free 11
 have zf12 := hr5.free 12
 simp only [gA, gB, gC] at z0 z1 z2 z3 z4 z5 z6 z7 z8 z9 z10 z11 z12
 have hr6 := blk13 hr5 (.int .i64 2) (c 1) (c 2) (c 3) (c 4) (d 5) (d 6) (d 7) (d 8) (d 9) (d 10) (d 11) (d 12)
 have hk6 := kp13 w5 (w.heap.size + 1) (.int .i64 2) (c 1) (c 2) (c 3) (c 4) (d 5) (d 6) (d 7) (d 8) (d 9) (d 10) (d 11) (d 12)
 go_wp2_with fail
 refine bodyPost_ret (results_cell_row rfl _ _ (w.heap.size + 1) 40 _ _ _ rfl hr6 Tryz.underlying40 rfl (by kernel_rfl)) rfl ⟨d, w4, rfl, hQ, (kp_to hk5 (.inl rfl)).trans (kp_to hk6 (.inr rfl)), hB4, s4⟩
end Go.Proofs.YtncgfnocokippaaGreat.Policyy
