/- The document's own sketch in memory (layer 5), and the contracts of what makes and reads one: New, place. Nothing that was there turns. -/
import Derived.Test.YtncgfnocokippaaGreatSketchOpsAll
import Derived.Test.YtncgfnocokippaaGreatSketchAwakeAll
import Derived.Deep.AppendLies
import Derived.Deep.RegionLaw
import Derived.Deep.RegionHeld3
import Derived.Test.YtncgfnocokippaaGreatSq
namespace Go.Proofs.YtncgfnocokippaaGreat.Sketchy
open Go.ChangeShapes Go.WideShapes Go.ChangeAt Go.RowKit
open Wirey (Blk Row str str_size str_list Kp)

def intsV (l : List Nat) : Array Value := (l.map fun n : Nat => Value.int .i64 n).toArray
structure Ref (w : World) (R D : Nat) (G : Nat → Nat) (s : Sk) : Prop where
 lt : R < w.heap.size
 rows : ∀ i, i < 4 → w.cell? ⟨R, i, none⟩ = some (.slice (some ⟨G i, 0, none⟩) s.wide s.wide)
 row : ∀ i, i < 4 → Blk w (G i) 3 (intsV (s.r i))
 door : Blk w D 4 (boolsV s.door)
def refV (R cap D : Nat) (s : Sk) : Value := .agg #[.int .i64 s.wide, .int .u64 s.seed, .slice (some ⟨R, 0, none⟩) 4 cap, .slice (some ⟨D, 0, none⟩) s.wide s.wide, .int .i64 s.added]
structure Apart (B R D : Nat) (G : Nat → Nat) : Prop where
 hR : B ≤ R
 hD : B ≤ D
 hG : ∀ i, i < 4 → B ≤ G i
 RD : R ≠ D
 RG : ∀ i, i < 4 → R ≠ G i
 DG : ∀ i, i < 4 → D ≠ G i
 GG : ∀ i j, i < 4 → j < 4 → i ≠ j → G i ≠ G j
section
variable {w w' : World} {R D : Nat} {G : Nat → Nat} {s : Sk}
theorem Ref.below {C : Nat} (h : Ref w R D G s) (hb : Below C w w') (hC : w.heap.size ≤ C) : Ref w' R D G s :=
 ⟨Nat.lt_of_lt_of_le h.lt hb.size, fun i hi => (World.cell?_of_block (hb.block R (Nat.lt_of_lt_of_le h.lt hC))).trans (h.rows i hi), fun i hi => (h.row i hi).below hb (Nat.lt_of_lt_of_le (h.row i hi).lt hC), h.door.below hb (Nat.lt_of_lt_of_le h.door.lt hC)⟩
theorem Ref.drew (h : Ref w R D G s) : Ref w.drew R D G s := ⟨h.lt, h.rows, h.row, h.door⟩
theorem Ref.alloc (h : Ref w R D G s) (o : Obj) : Ref (w.alloc o) R D G s := h.below ((Below.refl w.heap.size w).alloc (Nat.le_refl _) o) (Nat.le_refl _)
theorem Ref.far (h : Ref w R D G s) {p : Addr} (h1 : R ≠ p.block) (h2 : ∀ i, i < 4 → G i ≠ p.block) (h3 : D ≠ p.block) (u : Value) : Ref (w.setCell p u) R D G s :=
 ⟨by have := h.lt; simpa [World.setCell] using this, fun i hi => (World.cell?_of_block (Below.heap_setCell w p u R h1)).trans (h.rows i hi), fun i hi => (h.row i hi).far (h2 i hi) u, h.door.far h3 u⟩
theorem intsV_at {l : List Nat} {k : Nat} (hk : k < l.length) : (intsV l)[k]? = some (.int .i64 ((l[k]?.getD 0 : Nat) : Int)) := by
 unfold intsV
 rw [List.getElem?_toArray, List.getElem?_map, List.getElem?_eq_getElem hk]
 rfl
theorem intsV_put {l : List Nat} (k v : Nat) : (intsV l).setIfInBounds k (.int .i64 v) = intsV (l.set k v) := by
 unfold intsV
 rw [List.setIfInBounds_toArray, List.map_set]
theorem Ref.cnt (h : Ref w R D G s) (hf : s.Pre) {ks : Nat → Nat} {i : Nat} (hi : i < 4) (hk : ks i < s.wide) : w.cell? ⟨G i, ks i, none⟩ = some (.int .i64 (s.cnt ks i : Int)) :=
 ((h.row i hi).cell _).trans (intsV_at (by rw [hf.len i hi]; exact hk))
theorem Ref.bit (h : Ref w R D G s) (hf : s.Pre) {ks : Nat → Nat} (hk : ks 4 < s.wide) : w.cell? ⟨D, ks 4, none⟩ = some (.bool (s.bit ks)) :=
 (h.door.cell _).trans (boolsV_at (by rw [hf.dlen]; exact hk))
end
theorem int_info : (Tryz.prog.info? 3).map (fun i => (i.zero, i.size, i.bytes)) = some (some (.int .i64 0), 1, 8) := by kernel_rfl
theorem slice_info : (Tryz.prog.info? 130).map (fun i => (i.zero, i.size, i.bytes)) = some (some (.slice none 0 0), 1, 24) := by kernel_rfl
theorem mk_ints {n : Nat} (hn : n ≤ 4096) (w : World) : (Instr.makeSlice 130 (.int .i64 n) (.int .i64 n)).run Tryz.prog w = .ok (.slice (some ⟨w.heap.size, 0, none⟩) n n) (w.alloc (.cells (intsV (List.replicate n 0)) 3)) := by
 obtain ⟨i0, hi, hz0, hz1, hz2⟩ := info_parts int_info
 have h := run_make (P := Tryz.prog) w 130 3 i0 (.int .i64 0) Tryz.underlying130 hi hz0 .i64 .i64 (n : Int) (n : Int) (by omega) (by omega) (by rw [hz2]; omega) (by omega)
 rw [h, hz1, Int.toNat_natCast, Nat.mul_one]
 have e : madeCells (Value.int .i64 0).cells n = intsV (List.replicate n 0) := by
  show madeCells #[Value.int .i64 0] n = _
  rw [mk_cells, intsV, List.map_replicate]
  rfl
 rw [e]

theorem refplace_c {h n : Nat} (hn : 1 ≤ n) (hn2 : n ≤ 4096) (i : Nat) (w : World) :
  Calls Tryz.prog 125 #[.int .u64 h, .int .i64 i, .int .i64 n] w fun e w' => e = .returned (.int .i64 (ksOf h n i : Int)) ∧ w' = w :=
 (Mixy.refplace_yes h (i : Int) n hn (by omega) w).mono fun _ _ ⟨a, b⟩ => ⟨a, b.symm⟩
set_option maxHeartbeats 4000000 in
set_option maxRecDepth 100000 in
theorem rplace_c {s : Sk} (hf : s.Pre) (R cap D : Nat) (l : List UInt8) (hl : l.length ≤ 1099511627776) (i : Nat) (w : World) :
  Calls Tryz.prog 104 #[refV R cap D s, .string (str l), .int .i64 i] w fun e w' => e = .returned (.int .i64 (ksOf (Mixy.text s.seed l) s.wide i : Int)) ∧ Below w.heap.size w w' := by
 obtain ⟨h, hh⟩ : ∃ h, h = Mixy.text s.seed l := ⟨_, rfl⟩
 have hof : ∀ W : World, Calls Tryz.prog 126 #[.int .u64 s.seed, .string (str l)] W fun e w' => e = .returned (.int .u64 h) ∧ w' = W := fun W => by
  have := Mixy.refof_c s.seed hf.seed (str l) (by rw [str_size]; unfold maxLen; omega) W
  rw [str_list, ← hh] at this
  exact this.mono fun _ _ ⟨a, b⟩ => ⟨a, b.symm⟩
 have hpl := fun W : World => refplace_c (h := h) hf.w1 hf.w2 i W
 rw [← hh]
 clear hh
 have hB := (Below.refl w.heap.size w).alloc (Nat.le_refl _) (.cells #[.int .i64 s.wide, .int .u64 s.seed, .slice (some ⟨R, 0, none⟩) 4 cap, .slice (some ⟨D, 0, none⟩) s.wide s.wide, .int .i64 s.added] 36)
 unfold refV
 go_enter Tryz.func104, Tryz.ntmps104
 go_wp2_with fail
 go_quiet (first | (go_at_call 126; exact Calls.quiet_of_same (hof _)) | (go_at_call 125; exact Calls.quiet_of_same (hpl _)))
 go_wp2_with fail
 go_ret
 exact ⟨rfl, hB.os, hB.tape, hB.output, hB.size, hB.block⟩

def fill5 (w : World) (B : Nat) (a b c d e : Value) : World := (((((w.setCell ⟨B, 0, none⟩ a).setCell ⟨B, 1, none⟩ b).setCell ⟨B, 2, none⟩ c).setCell ⟨B, 3, none⟩ d).setCell ⟨B, 4, none⟩ e)
theorem fill5_blk {w : World} {B : Nat} {t : TypeId} {x0 x1 x2 x3 x4 : Value} (h : Blk w B t #[x0, x1, x2, x3, x4]) (a b c d e : Value) : Blk (fill5 w B a b c d e) B t #[a, b, c, d, e] :=
 ((((h.put 0 a).put 1 b).put 2 c).put 3 d).put 4 e
theorem fill5_ref {w : World} {B R D : Nat} {G : Nat → Nat} {s : Sk} (h : Ref w R D G s) (h1 : R ≠ B) (h2 : ∀ i, i < 4 → G i ≠ B) (h3 : D ≠ B) (a b c d e : Value) : Ref (fill5 w B a b c d e) R D G s :=
 ((((h.far (p := ⟨B, 0, none⟩) h1 h2 h3 a).far (p := ⟨B, 1, none⟩) h1 h2 h3 b).far (p := ⟨B, 2, none⟩) h1 h2 h3 c).far (p := ⟨B, 3, none⟩) h1 h2 h3 d).far (p := ⟨B, 4, none⟩) h1 h2 h3 e
theorem fill5_below {C : Nat} {w v : World} {B : Nat} (h : Below C w v) (hB : C ≤ B) (a b c d e : Value) : Below C w (fill5 v B a b c d e) :=
 ((((h.setCell (p := ⟨B, 0, none⟩) hB a).setCell (p := ⟨B, 1, none⟩) hB b).setCell (p := ⟨B, 2, none⟩) hB c).setCell (p := ⟨B, 3, none⟩) hB d).setCell (p := ⟨B, 4, none⟩) hB e
def rowsL (G : Nat → Nat) (n j : Nat) : List Value := (List.range j).map fun i => Value.slice (some ⟨G i, 0, none⟩) n n
structure NewAt (B n seed j : Nat) (v : Value) (G : Nat → Nat) (w : World) : Prop where
 box : Blk w (B + 2) 36 #[.int .i64 n, .int .u64 seed, v, .slice (some ⟨B + 1, 0, none⟩) n n, .int .i64 0]
 res : Blk w B 36 #[.int .i64 0, .int .u64 0, .slice none 0 0, .slice none 0 0, .int .i64 0]
 door : Blk w (B + 1) 4 (boolsV (List.replicate n false))
 own : w.ownsRow (B + 3) 130 1 v j (rowsL G n j)
 row : ∀ i, i < j → Blk w (G i) 3 (intsV (List.replicate n 0))
 low : ∀ i, i < j → B + 3 ≤ G i
 far : ∀ i, i < j → v.ownBlock ≠ some (G i)
 GG : ∀ i k, i < j → k < j → i ≠ k → G i ≠ G k
theorem own_far {w : World} {base : Nat} {e : TypeId} {v : Value} {n : Nat} {xs : List Value} (h : w.ownsRow base e 1 v n xs) {k : Nat} (hk : k < base) : v.ownBlock ≠ some k := fun e => by
 have := (h.lt k e).1
 omega
theorem NewAt.start (n seed : Nat) (w : World) : NewAt w.heap.size n seed 0 (.slice none 0 0) (fun _ => 0)
  (((w.alloc (.cells #[.int .i64 0, .int .u64 0, .slice none 0 0, .slice none 0 0, .int .i64 0] 36)).alloc (.cells (boolsV (List.replicate n false)) 4)).alloc (.cells #[.int .i64 n, .int .u64 seed, .slice none 0 0, .slice (some ⟨w.heap.size + 1, 0, none⟩) n n, .int .i64 0] 36)) := by
 have b1 := Blk.new w 36 #[.int .i64 0, .int .u64 0, .slice none 0 0, .slice none 0 0, .int .i64 0]
 have b2 := Blk.new (w.alloc (.cells #[.int .i64 0, .int .u64 0, .slice none 0 0, .slice none 0 0, .int .i64 0] 36)) 4 (boolsV (List.replicate n false))
 have b3 := Blk.new ((w.alloc (.cells #[.int .i64 0, .int .u64 0, .slice none 0 0, .slice none 0 0, .int .i64 0] 36)).alloc (.cells (boolsV (List.replicate n false)) 4)) 36 #[.int .i64 n, .int .u64 seed, .slice none 0 0, .slice (some ⟨w.heap.size + 1, 0, none⟩) n n, .int .i64 0]
 rw [World.size_alloc] at b2
 rw [World.size_alloc, World.size_alloc] at b3
 exact ⟨b3, (b1.alloc _).alloc _, b2.alloc _, World.ownsRow_nil _ _ _ _, fun i hi => by omega, fun i hi => by omega, fun i hi => by omega, fun i k hi => by omega⟩
theorem NewAt.next {B n seed j : Nat} {v : Value} {G : Nat → Nat} {w w1 : World} {gg cp : Nat} {x : Obj} (h : NewAt B n seed j v G w)
  (hown : w1.ownsRow (B + 3) 130 1 (.slice (some ⟨gg, 0, none⟩) (j + 1) cp) (j + 1) (rowsL G n j ++ [.slice (some ⟨w.heap.size, 0, none⟩) n n]))
  (hgrow : (((w.alloc (.cells (intsV (List.replicate n 0)) 3)).alloc x).drew).grownBy w1 v.ownBlock) (hat : v.ownBlock = some gg ∨ gg = w.heap.size + 2) :
  NewAt B n seed (j + 1) (.slice (some ⟨gg, 0, none⟩) (j + 1) cp) (fun i => if i = j then w.heap.size else G i) (w1.setCell ⟨B + 2, 2, none⟩ (.slice (some ⟨gg, 0, none⟩) (j + 1) cp)) := by
 have hnew : Blk ((w.alloc (.cells (intsV (List.replicate n 0)) 3)).alloc x).drew w.heap.size 3 (intsV (List.replicate n 0)) := (Blk.new w _ _).alloc _
 have hvl : ∀ k, v.ownBlock = some k → k < w.heap.size := fun k hk => (h.own.lt k hk).2
 have g1 : Blk w1 w.heap.size 3 (intsV (List.replicate n 0)) := hnew.grown hgrow (fun e => by have := hvl _ e.symm; omega)
 have old : ∀ {g : Nat} {t : TypeId} {cs : Array Value}, Blk w g t cs → v.ownBlock ≠ some g → Blk w1 g t cs := fun hb hne =>
  Blk.grown (w := ((w.alloc (.cells (intsV (List.replicate n 0)) 3)).alloc x).drew) ((hb.alloc _).alloc _) hgrow (fun e => hne e.symm)
 have hlo : B + 3 ≤ w.heap.size := by have := h.box.lt; omega
 have hgg : gg ≠ B + 2 := by
  rcases hat with e | e
  ·have := (h.own.lt gg e).1; omega
  ·omega
 refine ⟨?_, ?_, ?_, ?_, fun i hi => ?_, fun i hi => ?_, fun i hi => ?_, fun i k hi hk hne => ?_⟩
 ·exact (old h.box (own_far h.own (by omega))).put 2 _
 ·exact (old h.res (own_far h.own (by omega))).far (by show B ≠ B + 2; omega) _
 ·exact (old h.door (own_far h.own (by omega))).far (by show B + 1 ≠ B + 2; omega) _
 ·have e : rowsL (fun i => if i = j then w.heap.size else G i) n (j + 1) = rowsL G n j ++ [.slice (some ⟨w.heap.size, 0, none⟩) n n] := by
   unfold rowsL
   rw [List.range_succ, List.map_append]
   congr 1
   ·refine List.map_congr_left fun i hi => ?_
    show Value.slice (some ⟨if i = j then w.heap.size else G i, 0, none⟩) n n = _
    rw [if_neg (by have := List.mem_range.1 hi; omega)]
   ·simp
  rw [e]
  exact hown.kept (row := some (B + 2)) ⟨rfl, rfl, rfl, by simp [World.setCell], fun k _ hk => Below.heap_setCell _ _ _ _ (fun e => hk (by simp [e]))⟩ (Or.inr (by simp [Value.ownBlock]; exact hgg))
 ·show Blk _ (if i = j then w.heap.size else G i) _ _
  by_cases e : i = j
  ·rw [if_pos e]
   exact g1.far (by show w.heap.size ≠ B + 2; omega) _
  ·rw [if_neg e]
   exact (old (h.row i (by omega)) (h.far i (by omega))).far (by show G i ≠ B + 2; have := h.low i (by omega); omega) _
 ·show B + 3 ≤ (if i = j then w.heap.size else G i)
  by_cases e : i = j
  ·rw [if_pos e]; exact hlo
  ·rw [if_neg e]; exact h.low i (by omega)
 ·show (some gg : Option Nat) ≠ some (if i = j then w.heap.size else G i)
  by_cases e : i = j
  ·rw [if_pos e]
   rcases hat with e2 | e2
   ·have := hvl _ e2
    simp; omega
   ·simp; omega
  ·rw [if_neg e]
   rcases hat with e2 | e2
   ·rw [← e2]; exact h.far i (by omega)
   ·have := (h.row i (by omega)).lt
    simp; omega
 ·show (if i = j then w.heap.size else G i) ≠ (if k = j then w.heap.size else G k)
  by_cases e1 : i = j
  ·rw [if_pos e1, if_neg (by omega)]
   have := (h.row k (by omega)).lt
   omega
  ·rw [if_neg e1]
   by_cases e2 : k = j
   ·rw [if_pos e2]
    have := (h.row i (by omega)).lt
    omega
   ·rw [if_neg e2]
    exact h.GG i k (by omega) (by omega) hne
theorem below_grow {B C : Nat} {w v w1 : World} {u : Value} {o x : Obj} (h : Below B w v) (hB : B ≤ v.heap.size) (hg : (((v.alloc o).alloc x).drew).grownBy w1 u.ownBlock) (hu : ∀ k, u.ownBlock = some k → B ≤ k) (hC : B ≤ C) (z : Value) : Below B w (w1.setCell ⟨C, 2, none⟩ z) :=
 (((h.alloc hB o).alloc (by simp; omega) x).drew.grown hg (by simp; omega) hu).setCell (p := ⟨C, 2, none⟩) hC z
set_option maxHeartbeats 4000000 in
set_option maxRecDepth 100000 in
theorem rnew_c {n seed : Nat} (h2 : n ≤ 4096) (w : World) :
  Calls Tryz.prog 52 #[.int .i64 n, .int .u64 seed] w fun e w' => ∃ R cap D G, e = .returned (refV R cap D (Sk.new n seed)) ∧ Ref w' R D G (Sk.new n seed) ∧ Apart w.heap.size R D G ∧ Below w.heap.size w w' := by
 have m1 := fun W => mk_ints h2 W
 have m2 := fun W => mk_bools h2 W
 go_enter Tryz.func52, Tryz.ntmps52
 go_wp2_with fail
 go_loopw [6] (fun i wr => ∃ (j : Nat) (v : Value) (G : Nat → Nat), j ≤ 4 ∧ i = .int .i64 j ∧ NewAt w.heap.size n seed j v G wr ∧ Below w.heap.size w wr) (fun i _ => 4 - (intOf i).toNat)
 case atStart => exact ⟨0, _, _, by omega, rfl, NewAt.start n seed w, (((Below.refl _ w).alloc (Nat.le_refl _) _).alloc (by simp) _).alloc (by simp; omega) _⟩
 case round =>
  obtain ⟨j, v, G, hj, rfl, hN, hW⟩ := hrel
  by_cases h4 : j < 4
  ·obtain ⟨i0, hi0, hz0, hz1, hz2⟩ := info_parts slice_info
   have hbs : w.heap.size + 3 ≤ wr.heap.size := by have := hN.box.lt; omega
   have x0 := hN.box.cell 2
   have x1 : ∀ o, (wr.alloc o).cell? ⟨w.heap.size + 2, 2, none⟩ = some v := fun o => (hN.box.alloc o).cell 2
   have x2 : ∀ o o', ((wr.alloc o).alloc o').cell? ⟨w.heap.size + 2, 2, none⟩ = some v := fun o o' => ((hN.box.alloc o).alloc o').cell 2
   simp only [gA, gB, gC] at x0
   have hvf : v.ownBlock ≠ some (w.heap.size + 2) := own_far hN.own (by omega)
   have hxl := hN.box.lt
   have hown := hN.own
   have hvb : ∀ k, v.ownBlock = some k → w.heap.size ≤ k := fun k hk => by have := (hown.lt k hk).1; omega
   have HN := Lib.hid hN
   have HW := Lib.hid hW
   have hb4 : Blk wr (w.heap.size + 2) 36 #[.int .i64 n, .int .u64 seed, v, .slice (some ⟨w.heap.size + 1, 0, none⟩) n n, .int .i64 0] := hN.box
   have HB4 := Lib.hid hb4
   clear hN hW hb4
   go_wp2_with fail
   go_region_law (first
     | (refine step_append_lies _ (by rfl) _ _ _ (by rfl) (w.heap.size + 3) 130 i0 _ 1 24 Tryz.underlying33 hi0 hz0 hz1 hz2 rfl (by omega) v j (rowsL G n j) (by rfl) (((hown.alloc _).alloc _).drew)
         ⟨wr.heap.size + 1, 0, none⟩ 1 1 [.slice (some ⟨wr.heap.size, 0, none⟩) n n] (by rfl) (by rfl) (World.news_of_block (cs := #[.slice (some ⟨wr.heap.size, 0, none⟩) n n]) (t := 130) (fr := (0, 0)) (by have := heap_alloc_new (wr.alloc (.cells (intsV (List.replicate n 0)) 3)) (.cells #[.slice (some ⟨wr.heap.size, 0, none⟩) n n] 130); rw [World.size_alloc] at this; exact this)) (by simp [Value.oneCell'])
         (by omega) (by simp [maxLen]; omega) (by omega) (by simp; omega) (wr.heap.size + 2) (by simp) ?_; intro gg cp w1 hown1 hgrow hat hlt
        have hb5 := (((HB4.out.alloc (.cells (intsV (List.replicate n 0)) 3)).alloc (.cells #[.slice (some ⟨wr.heap.size, 0, none⟩) n n] 130)).grown (w := ((wr.alloc (.cells (intsV (List.replicate n 0)) 3)).alloc (.cells #[.slice (some ⟨wr.heap.size, 0, none⟩) n n] 130)).drew) hgrow (fun e => hvf e.symm))
        have x6 := hb5.cell 2
        have z6 := hb5.free 2))
   all_goals
    have hN2 := HN.out.next hown1 hgrow hat
    have hW2 := below_grow (C := w.heap.size + 2) HW.out HW.out.size hgrow hvb (by omega) (.slice (some ⟨gg, 0, none⟩) (j + 1) cp)
    clear x6 z6 hb5 hown1 hgrow hat hlt
    go_wp2_with fail
    go_roundw
    case measure => simp only [intOf] at *; omega
    case rel => exact ⟨j + 1, _, _, by omega, rfl, hN2, hW2⟩
  ·obtain rfl : j = 4 := by omega
   obtain ⟨R, cap, hv⟩ : ∃ R cap, v = .slice (some ⟨R, 0, none⟩) 4 cap := by
    rcases hN.own.2 with ⟨_, h0⟩ | ⟨g, cap, cur, hv, _⟩
    ·omega
    ·exact ⟨g, cap, hv⟩
   subst hv
   have x0 := hN.box.cell 0
   have x1 := hN.box.cell 1
   have x2 := hN.box.cell 2
   have x3 := hN.box.cell 3
   have x4 := hN.box.cell 4
   have r0 := hN.res.cell 0
   have r1 := hN.res.cell 1
   have r2 := hN.res.cell 2
   have r3 := hN.res.cell 3
   have r4 := hN.res.cell 4
   have z0 := hN.res.free 0
   have z1 := hN.res.free 1
   have z2 := hN.res.free 2
   have z3 := hN.res.free 3
   have z4 := hN.res.free 4
   simp only [gA, gB, gC] at x0 x1 x2 x3 x4 r0 r1 r2 r3 r4
   have hR := hN.own.lt R rfl
   have hrows : ∀ i, i < 4 → wr.cell? ⟨R, i, none⟩ = some (.slice (some ⟨G i, 0, none⟩) n n) := fun i hi => by
    have := hN.own.cells (g := R) rfl i (.slice (some ⟨G i, 0, none⟩) n n) (by unfold rowsL; rw [List.getElem?_map, List.getElem?_range hi]; rfl)
    have e : (⟨R, 0, none⟩ : Addr).add i = ⟨R, i, none⟩ := by unfold Addr.add; by_cases h : i = 0 <;> simp [h]
    rw [e] at this
    exact this
   have hRef : Ref wr R (w.heap.size + 1) G (Sk.new n seed) := ⟨hR.2, hrows, fun i hi => hN.row i hi, hN.door⟩
   have hAp : Apart w.heap.size R (w.heap.size + 1) G := ⟨by omega, by omega, fun i hi => by have := hN.low i hi; omega, by omega,
     fun i hi e => hN.far i hi (congrArg some e), fun i hi => by have := hN.low i hi; omega, fun i j hi hj hne => hN.GG i j hi hj hne⟩
   have hRF := fill5_ref hRef (B := w.heap.size) (by omega) (fun i hi => by have := hN.low i hi; omega) (by omega) (.int .i64 n) (.int .u64 seed) (.slice (some ⟨R, 0, none⟩) 4 cap) (.slice (some ⟨w.heap.size + 1, 0, none⟩) n n) (.int .i64 0)
   have hBF := fill5_below hW (B := w.heap.size) (Nat.le_refl _) (.int .i64 n) (.int .u64 seed) (.slice (some ⟨R, 0, none⟩) 4 cap) (.slice (some ⟨w.heap.size + 1, 0, none⟩) n n) (.int .i64 0)
   have hCF := fill5_blk hN.res (.int .i64 n) (.int .u64 seed) (.slice (some ⟨R, 0, none⟩) 4 cap) (.slice (some ⟨w.heap.size + 1, 0, none⟩) n n) (.int .i64 0)
   generalize hu : fill5 wr w.heap.size (.int .i64 n) (.int .u64 seed) (.slice (some ⟨R, 0, none⟩) 4 cap) (.slice (some ⟨w.heap.size + 1, 0, none⟩) n n) (.int .i64 0) = u at hRF hBF hCF
   have HU := Lib.hid hu
   unfold fill5 at HU
   clear hu
   go_wp2_with fail
   rw [HU.out]
   have q0 := hCF.cell 0
   have q1 := hCF.cell 1
   have q2 := hCF.cell 2
   have q3 := hCF.cell 3
   have q4 := hCF.cell 4
   simp only [gA, gB, gC] at q0 q1 q2 q3 q4
   refine bodyPost_ret (v := refV R cap (w.heap.size + 1) (Sk.new n seed)) (by simp [results, Tryz.results52, go_sem, q0, q1, q2, q3, q4]; rfl) rfl ?_
   exact ⟨R, cap, w.heap.size + 1, G, rfl, hRF, hAp, hBF⟩
end Go.Proofs.YtncgfnocokippaaGreat.Sketchy
