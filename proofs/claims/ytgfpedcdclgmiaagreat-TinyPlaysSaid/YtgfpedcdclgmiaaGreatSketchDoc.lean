/- The document's counting sketch: its rows, adding, ageing, telling. No condition but that the blocks lie apart. -/
import Derived.Test.YtgfpedcdclgmiaaGreatSketchMem
import Derived.Test.YtgfpedcdclgmiaaGreatSketchAwake
import Derived.Deep.AppendLies
import Derived.Deep.RegionLaw
import Derived.Deep.RegionHeld3
import Derived.Deep.DeepCutAuto
import Derived.Test.YtgfpedcdclgmiaaGreatSketchGrow
import Derived.StillTailTactics
import Derived.Laws.CopyRow
import Derived.Deep.CutRange
namespace Go.Proofs.YtgfpedcdclgmiaaGreat.Sketchy
open Go.ChangeShapes Go.WideShapes Go.ChangeAt Go.RowKit
open Wirey (Blk Row str str_size str_list Kp)

def intsV (l : List Nat) : Array Value := (l.map fun n : Nat => Value.int .i64 (n : Int)).toArray
/-- The document's sketch: its rows' slices lie in block R, its rows in the blocks G, its door in D. -/
structure Ref (w : World) (R D : Nat) (G : Nat → Nat) (s : Sk) : Prop where
  lt : R < w.heap.size
  rows : ∀ i, i < 4 → w.cell? ⟨R, i, none⟩ = some (.slice (some ⟨G i, 0, none⟩) s.wide s.wide)
  row : ∀ i, i < 4 → Blk w (G i) 3 (intsV (s.r i))
  door : Blk w D 4 (boolsV s.door)
/-- Its value. -/
def refV (R cap D : Nat) (s : Sk) : Value := .agg #[.int .i64 (s.wide : Int), .int .u64 (s.seed : Int), .slice (some ⟨R, 0, none⟩) 4 cap, .slice (some ⟨D, 0, none⟩) s.wide s.wide, .int .i64 (s.added : Int)]
/-- All its blocks are new ones, and no two are one. -/
structure Apart (B R D : Nat) (G : Nat → Nat) : Prop where
  hR : B ≤ R
  hD : B ≤ D
  hG : ∀ i, i < 4 → B ≤ G i
  RD : R ≠ D
  RG : ∀ i, i < 4 → R ≠ G i
  DG : ∀ i, i < 4 → D ≠ G i
  GG : ∀ i j, i < 4 → j < 4 → i ≠ j → G i ≠ G j
section
variable {w w' : World} {R D : Nat} {G : Nat → Nat} {s : Sk}
theorem Ref.below {C : Nat} (h : Ref w R D G s) (hb : Below C w w') (hC : w.heap.size ≤ C) : Ref w' R D G s :=
  ⟨Nat.lt_of_lt_of_le h.lt hb.size, fun i hi => (World.cell?_of_block (hb.block R (Nat.lt_of_lt_of_le h.lt hC))).trans (h.rows i hi), fun i hi => (h.row i hi).below hb (Nat.lt_of_lt_of_le (h.row i hi).lt hC), h.door.below hb (Nat.lt_of_lt_of_le h.door.lt hC)⟩
theorem Ref.drew (h : Ref w R D G s) : Ref w.drew R D G s := ⟨h.lt, h.rows, h.row, h.door⟩
theorem Ref.drewN (h : Ref w R D G s) (n : Nat) : Ref (w.drewN n) R D G s := ⟨h.lt, h.rows, h.row, h.door⟩
theorem Ref.alloc (h : Ref w R D G s) (o : Obj) : Ref (w.alloc o) R D G s := h.below ((Below.refl w.heap.size w).alloc (Nat.le_refl _) o) (Nat.le_refl _)
/-- A cell of another block is set. -/
theorem Ref.far (h : Ref w R D G s) {p : Addr} (h1 : R ≠ p.block) (h2 : ∀ i, i < 4 → G i ≠ p.block) (h3 : D ≠ p.block) (u : Value) : Ref (w.setCell p u) R D G s :=
  ⟨by have := h.lt; simpa [World.setCell] using this, fun i hi => (World.cell?_of_block (Below.heap_setCell w p u R h1)).trans (h.rows i hi), fun i hi => (h.row i hi).far (h2 i hi) u, h.door.far h3 u⟩
theorem intsV_at {l : List Nat} {k : Nat} (hk : k < l.length) : (intsV l)[k]? = some (.int .i64 ((l[k]?.getD 0 : Nat) : Int)) := by
  unfold intsV
  rw [List.getElem?_toArray, List.getElem?_map, List.getElem?_eq_getElem hk]
  rfl
theorem intsV_put {l : List Nat} (k v : Nat) : (intsV l).setIfInBounds k (.int .i64 (v : Int)) = intsV (l.set k v) := by
  unfold intsV
  rw [List.setIfInBounds_toArray, List.map_set]
theorem Ref.cnt (h : Ref w R D G s) (hf : s.Pre) {ks : Nat → Nat} {i : Nat} (hi : i < 4) (hk : ks i < s.wide) : w.cell? ⟨G i, ks i, none⟩ = some (.int .i64 (s.cnt ks i : Int)) :=
  ((h.row i hi).cell _).trans (intsV_at (by rw [hf.len i hi]; exact hk))
theorem Ref.bit (h : Ref w R D G s) (hf : s.Pre) {ks : Nat → Nat} (hk : ks 4 < s.wide) : w.cell? ⟨D, ks 4, none⟩ = some (.bool (s.bit ks)) :=
  (h.door.cell _).trans (boolsV_at (by rw [hf.dlen]; exact hk))
end
theorem int_info : (Tryz.prog.info? 3).map (fun i => (i.zero, i.size, i.bytes)) = some (some (.int .i64 0), 1, 8) := by kernel_rfl
theorem slice_info : (Tryz.prog.info? 84).map (fun i => (i.zero, i.size, i.bytes)) = some (some (.slice none 0 0), 1, 24) := by kernel_rfl
theorem mk_ints {n : Nat} (hn : n ≤ 4096) (w : World) : (Instr.makeSlice 84 (.int .i64 (n : Int)) (.int .i64 (n : Int))).run Tryz.prog w = .ok (.slice (some ⟨w.heap.size, 0, none⟩) n n) (w.alloc (.cells (intsV (List.replicate n 0)) 3)) := by
  obtain ⟨i0, hi, hz0, hz1, hz2⟩ := info_parts int_info
  have h := run_make (P := Tryz.prog) w 84 3 i0 (.int .i64 0) Tryz.underlying84 hi hz0 .i64 .i64 (n : Int) (n : Int) (by omega) (by omega) (by rw [hz2]; omega) (by omega)
  rw [h, hz1, Int.toNat_natCast, Nat.mul_one]
  have e : madeCells (Value.int .i64 0).cells n = intsV (List.replicate n 0) := by
    show madeCells #[Value.int .i64 0] n = _
    rw [mk_cells, intsV, List.map_replicate]
    rfl
  rw [e]

theorem refplace_c {h n : Nat} (hn : 1 ≤ n) (hn2 : n ≤ 4096) (i : Nat) (w : World) :
    Calls Tryz.prog 77 #[.int .u64 (h : Int), .int .i64 (i : Int), .int .i64 (n : Int)] w fun e w' => e = .returned (.int .i64 (ksOf h n i : Int)) ∧ w' = w :=
  (Mixy.refplace_yes h (i : Int) n hn (by omega) w).mono fun _ _ ⟨a, b⟩ => ⟨a, b.symm⟩
set_option maxHeartbeats 4000000 in
set_option maxRecDepth 100000 in
theorem rplace_c {s : Sk} (hf : s.Pre) (R cap D : Nat) (l : List UInt8) (hl : l.length ≤ 1099511627776) (i : Nat) (w : World) :
    Calls Tryz.prog 44 #[refV R cap D s, .string (str l), .int .i64 (i : Int)] w fun e w' => e = .returned (.int .i64 (ksOf (Mixy.text s.seed l) s.wide i : Int)) ∧ Below w.heap.size w w' := by
  obtain ⟨h, hh⟩ : ∃ h, h = Mixy.text s.seed l := ⟨_, rfl⟩
  have hof : ∀ W : World, Calls Tryz.prog 78 #[.int .u64 (s.seed : Int), .string (str l)] W fun e w' => e = .returned (.int .u64 (h : Int)) ∧ w' = W := fun W => by
    have := Mixy.refof_c s.seed hf.seed (str l) (by rw [str_size]; unfold maxLen; omega) W
    rw [str_list, ← hh] at this
    exact this.mono fun _ _ ⟨a, b⟩ => ⟨a, b.symm⟩
  have hpl := fun W : World => refplace_c (h := h) hf.w1 hf.w2 i W
  rw [← hh]
  clear hh
  have hB := (Below.refl w.heap.size w).alloc (Nat.le_refl _) (.cells #[.int .i64 (s.wide : Int), .int .u64 (s.seed : Int), .slice (some ⟨R, 0, none⟩) 4 cap, .slice (some ⟨D, 0, none⟩) s.wide s.wide, .int .i64 (s.added : Int)] 31)
  unfold refV
  go_enter Tryz.func44, Tryz.ntmps44
  go_wp2_with fail
  go_quiet (first | (go_at_call 78; exact Calls.quiet_of_same (hof _)) | (go_at_call 77; exact Calls.quiet_of_same (hpl _)))
  go_wp2_with fail
  go_ret
  exact ⟨rfl, hB.os, hB.tape, hB.output, hB.size, hB.block⟩

/-- Five cells of a block are set. -/
def fill5 (w : World) (B : Nat) (a b c d e : Value) : World := (((((w.setCell ⟨B, 0, none⟩ a).setCell ⟨B, 1, none⟩ b).setCell ⟨B, 2, none⟩ c).setCell ⟨B, 3, none⟩ d).setCell ⟨B, 4, none⟩ e)
theorem fill5_blk {w : World} {B : Nat} {t : TypeId} {x0 x1 x2 x3 x4 : Value} (h : Blk w B t #[x0, x1, x2, x3, x4]) (a b c d e : Value) : Blk (fill5 w B a b c d e) B t #[a, b, c, d, e] :=
  ((((h.put 0 a).put 1 b).put 2 c).put 3 d).put 4 e
theorem fill5_ref {w : World} {B R D : Nat} {G : Nat → Nat} {s : Sk} (h : Ref w R D G s) (h1 : R ≠ B) (h2 : ∀ i, i < 4 → G i ≠ B) (h3 : D ≠ B) (a b c d e : Value) : Ref (fill5 w B a b c d e) R D G s :=
  ((((h.far (p := ⟨B, 0, none⟩) h1 h2 h3 a).far (p := ⟨B, 1, none⟩) h1 h2 h3 b).far (p := ⟨B, 2, none⟩) h1 h2 h3 c).far (p := ⟨B, 3, none⟩) h1 h2 h3 d).far (p := ⟨B, 4, none⟩) h1 h2 h3 e
theorem fill5_below {C : Nat} {w v : World} {B : Nat} (h : Below C w v) (hB : C ≤ B) (a b c d e : Value) : Below C w (fill5 v B a b c d e) :=
  ((((h.setCell (p := ⟨B, 0, none⟩) hB a).setCell (p := ⟨B, 1, none⟩) hB b).setCell (p := ⟨B, 2, none⟩) hB c).setCell (p := ⟨B, 3, none⟩) hB d).setCell (p := ⟨B, 4, none⟩) hB e
def rowsL (G : Nat → Nat) (n j : Nat) : List Value := (List.range j).map fun i => Value.slice (some ⟨G i, 0, none⟩) n n
/-- New, when j rows are made. -/
structure NewAt (B n seed j : Nat) (v : Value) (G : Nat → Nat) (w : World) : Prop where
  box : Blk w (B + 2) 31 #[.int .i64 (n : Int), .int .u64 (seed : Int), v, .slice (some ⟨B + 1, 0, none⟩) n n, .int .i64 0]
  res : Blk w B 31 #[.int .i64 0, .int .u64 0, .slice none 0 0, .slice none 0 0, .int .i64 0]
  door : Blk w (B + 1) 4 (boolsV (List.replicate n false))
  own : w.ownsRow (B + 3) 84 1 v j (rowsL G n j)
  row : ∀ i, i < j → Blk w (G i) 3 (intsV (List.replicate n 0))
  low : ∀ i, i < j → B + 3 ≤ G i
  far : ∀ i, i < j → v.ownBlock ≠ some (G i)
  GG : ∀ i k, i < j → k < j → i ≠ k → G i ≠ G k
theorem own_far {w : World} {base : Nat} {e : TypeId} {v : Value} {n : Nat} {xs : List Value} (h : w.ownsRow base e 1 v n xs) {k : Nat} (hk : k < base) : v.ownBlock ≠ some k := fun e => by
  have := (h.lt k e).1
  omega
theorem NewAt.start (n seed : Nat) (w : World) : NewAt w.heap.size n seed 0 (.slice none 0 0) (fun _ => 0)
    (((w.alloc (.cells #[.int .i64 0, .int .u64 0, .slice none 0 0, .slice none 0 0, .int .i64 0] 31)).alloc (.cells (boolsV (List.replicate n false)) 4)).alloc (.cells #[.int .i64 (n : Int), .int .u64 (seed : Int), .slice none 0 0, .slice (some ⟨w.heap.size + 1, 0, none⟩) n n, .int .i64 0] 31)) := by
  have b1 := Blk.new w 31 #[.int .i64 0, .int .u64 0, .slice none 0 0, .slice none 0 0, .int .i64 0]
  have b2 := Blk.new (w.alloc (.cells #[.int .i64 0, .int .u64 0, .slice none 0 0, .slice none 0 0, .int .i64 0] 31)) 4 (boolsV (List.replicate n false))
  have b3 := Blk.new ((w.alloc (.cells #[.int .i64 0, .int .u64 0, .slice none 0 0, .slice none 0 0, .int .i64 0] 31)).alloc (.cells (boolsV (List.replicate n false)) 4)) 31 #[.int .i64 (n : Int), .int .u64 (seed : Int), .slice none 0 0, .slice (some ⟨w.heap.size + 1, 0, none⟩) n n, .int .i64 0]
  rw [World.size_alloc] at b2
  rw [World.size_alloc, World.size_alloc] at b3
  exact ⟨b3, (b1.alloc _).alloc _, b2.alloc _, World.ownsRow_nil _ _ _ _, fun i hi => by omega, fun i hi => by omega, fun i hi => by omega, fun i k hi => by omega⟩
/-- A row more. -/
theorem NewAt.next {B n seed j : Nat} {v : Value} {G : Nat → Nat} {w w1 : World} {gg cp : Nat} {x : Obj} (h : NewAt B n seed j v G w)
    (hown : w1.ownsRow (B + 3) 84 1 (.slice (some ⟨gg, 0, none⟩) (j + 1) cp) (j + 1) (rowsL G n j ++ [.slice (some ⟨w.heap.size, 0, none⟩) n n]))
    (hgrow : (((w.alloc (.cells (intsV (List.replicate n 0)) 3)).alloc x).drew).grownBy w1 v.ownBlock) (hat : v.ownBlock = some gg ∨ gg = w.heap.size + 2) :
    NewAt B n seed (j + 1) (.slice (some ⟨gg, 0, none⟩) (j + 1) cp) (fun i => if i = j then w.heap.size else G i) (w1.setCell ⟨B + 2, 2, none⟩ (.slice (some ⟨gg, 0, none⟩) (j + 1) cp)) := by
  have hnew : Blk ((w.alloc (.cells (intsV (List.replicate n 0)) 3)).alloc x).drew w.heap.size 3 (intsV (List.replicate n 0)) := (Blk.new w _ _).alloc _
  have hvl : ∀ k, v.ownBlock = some k → k < w.heap.size := fun k hk => (h.own.lt k hk).2
  have g1 : Blk w1 w.heap.size 3 (intsV (List.replicate n 0)) := hnew.grown hgrow (fun e => by have := hvl _ e.symm; omega)
  have old : ∀ {g : Nat} {t : TypeId} {cs : Array Value}, Blk w g t cs → v.ownBlock ≠ some g → Blk w1 g t cs := fun hb hne =>
    Blk.grown (w := ((w.alloc (.cells (intsV (List.replicate n 0)) 3)).alloc x).drew) ((hb.alloc _).alloc _) hgrow (fun e => hne e.symm)
  have hlo : B + 3 ≤ w.heap.size := by have := h.box.lt; omega
  have hgg : gg ≠ B + 2 := by
    rcases hat with e | e
    · have := (h.own.lt gg e).1; omega
    · omega
  refine ⟨?_, ?_, ?_, ?_, fun i hi => ?_, fun i hi => ?_, fun i hi => ?_, fun i k hi hk hne => ?_⟩
  · exact (old h.box (own_far h.own (by omega))).put 2 _
  · exact (old h.res (own_far h.own (by omega))).far (by show B ≠ B + 2; omega) _
  · exact (old h.door (own_far h.own (by omega))).far (by show B + 1 ≠ B + 2; omega) _
  · have e : rowsL (fun i => if i = j then w.heap.size else G i) n (j + 1) = rowsL G n j ++ [.slice (some ⟨w.heap.size, 0, none⟩) n n] := by
      unfold rowsL
      rw [List.range_succ, List.map_append]
      congr 1
      · refine List.map_congr_left fun i hi => ?_
        show Value.slice (some ⟨if i = j then w.heap.size else G i, 0, none⟩) n n = _
        rw [if_neg (by have := List.mem_range.1 hi; omega)]
      · simp
    rw [e]
    exact hown.kept (row := some (B + 2)) ⟨rfl, rfl, rfl, by simp [World.setCell], fun k _ hk => Below.heap_setCell _ _ _ _ (fun e => hk (by simp [e]))⟩ (Or.inr (by simp [Value.ownBlock]; exact hgg))
  · show Blk _ (if i = j then w.heap.size else G i) _ _
    by_cases e : i = j
    · rw [if_pos e]
      exact g1.far (by show w.heap.size ≠ B + 2; omega) _
    · rw [if_neg e]
      exact (old (h.row i (by omega)) (h.far i (by omega))).far (by show G i ≠ B + 2; have := h.low i (by omega); omega) _
  · show B + 3 ≤ (if i = j then w.heap.size else G i)
    by_cases e : i = j
    · rw [if_pos e]; exact hlo
    · rw [if_neg e]; exact h.low i (by omega)
  · show (some gg : Option Nat) ≠ some (if i = j then w.heap.size else G i)
    by_cases e : i = j
    · rw [if_pos e]
      rcases hat with e2 | e2
      · have := hvl _ e2
        simp; omega
      · simp; omega
    · rw [if_neg e]
      rcases hat with e2 | e2
      · rw [← e2]; exact h.far i (by omega)
      · have := (h.row i (by omega)).lt
        simp; omega
  · show (if i = j then w.heap.size else G i) ≠ (if k = j then w.heap.size else G k)
    by_cases e1 : i = j
    · rw [if_pos e1, if_neg (by omega)]
      have := (h.row k (by omega)).lt
      omega
    · rw [if_neg e1]
      by_cases e2 : k = j
      · rw [if_pos e2]
        have := (h.row i (by omega)).lt
        omega
      · rw [if_neg e2]
        exact h.GG i k (by omega) (by omega) hne
theorem below_grow {B C : Nat} {w v w1 : World} {u : Value} {o x : Obj} (h : Below B w v) (hB : B ≤ v.heap.size) (hg : (((v.alloc o).alloc x).drew).grownBy w1 u.ownBlock) (hu : ∀ k, u.ownBlock = some k → B ≤ k) (hC : B ≤ C) (z : Value) : Below B w (w1.setCell ⟨C, 2, none⟩ z) :=
  (((h.alloc hB o).alloc (by simp; omega) x).drew.grown hg (by simp; omega) hu).setCell (p := ⟨C, 2, none⟩) hC z
set_option maxHeartbeats 4000000 in
set_option maxRecDepth 100000 in
theorem rnew_c {n seed : Nat} (h2 : n ≤ 4096) (w : World) :
    Calls Tryz.prog 21 #[.int .i64 (n : Int), .int .u64 (seed : Int)] w fun e w' => ∃ R cap D G, e = .returned (refV R cap D (Sk.new n seed)) ∧ Ref w' R D G (Sk.new n seed) ∧ Apart w.heap.size R D G ∧ Below w.heap.size w w' := by
  have m1 := fun W => mk_ints h2 W
  have m2 := fun W => mk_bools h2 W
  go_enter Tryz.func21, Tryz.ntmps21
  go_wp2_with fail
  go_loopw [6] (fun i wr => ∃ (j : Nat) (v : Value) (G : Nat → Nat), j ≤ 4 ∧ i = .int .i64 j ∧ NewAt w.heap.size n seed j v G wr ∧ Below w.heap.size w wr) (fun i _ => 4 - (intOf i).toNat)
  case atStart => exact ⟨0, _, _, by omega, rfl, NewAt.start n seed w, (((Below.refl _ w).alloc (Nat.le_refl _) _).alloc (by simp) _).alloc (by simp; omega) _⟩
  case round =>
    obtain ⟨j, v, G, hj, rfl, hN, hW⟩ := hrel
    by_cases h4 : j < 4
    · obtain ⟨i0, hi0, hz0, hz1, hz2⟩ := info_parts slice_info
      have hbs : w.heap.size + 3 ≤ wr.heap.size := by have := hN.box.lt; omega
      have x0 := hN.box.cell 2
      have x1 : ∀ o, (wr.alloc o).cell? ⟨w.heap.size + 2, 2, none⟩ = some v := fun o => (hN.box.alloc o).cell 2
      have x2 : ∀ o o', ((wr.alloc o).alloc o').cell? ⟨w.heap.size + 2, 2, none⟩ = some v := fun o o' => ((hN.box.alloc o).alloc o').cell 2
      simp only [List.getElem?_toArray, List.getElem?_cons_zero, List.getElem?_cons_succ] at x0
      have hvf : v.ownBlock ≠ some (w.heap.size + 2) := own_far hN.own (by omega)
      have hxl := hN.box.lt
      have hown := hN.own
      have hvb : ∀ k, v.ownBlock = some k → w.heap.size ≤ k := fun k hk => by have := (hown.lt k hk).1; omega
      have HN := Lib.hid hN
      have HW := Lib.hid hW
      have hb4 : Blk wr (w.heap.size + 2) 31 #[.int .i64 (n : Int), .int .u64 (seed : Int), v, .slice (some ⟨w.heap.size + 1, 0, none⟩) n n, .int .i64 0] := hN.box
      have HB4 := Lib.hid hb4
      clear hN hW hb4
      go_wp2_with fail
      go_region_law (first
        | (refine step_append_lies _ (by rfl) _ _ _ (by rfl) (w.heap.size + 3) 84 i0 _ 1 24 Tryz.underlying28 hi0 hz0 hz1 hz2 rfl (by omega) v j (rowsL G n j) (by rfl) (((hown.alloc _).alloc _).drew)
            ⟨wr.heap.size + 1, 0, none⟩ 1 1 [.slice (some ⟨wr.heap.size, 0, none⟩) n n] (by rfl) (by rfl) (World.news_of_block (cs := #[.slice (some ⟨wr.heap.size, 0, none⟩) n n]) (t := 84) (fr := (0, 0)) (by have := heap_alloc_new (wr.alloc (.cells (intsV (List.replicate n 0)) 3)) (.cells #[.slice (some ⟨wr.heap.size, 0, none⟩) n n] 84); rw [World.size_alloc] at this; exact this)) (by simp [Value.oneCell'])
            (by omega) (by simp [maxLen]; omega) (by omega) (by simp; omega) (wr.heap.size + 2) (by simp) ?_; intro gg cp w1 hown1 hgrow hat hlt
           have hb5 := (((HB4.out.alloc (.cells (intsV (List.replicate n 0)) 3)).alloc (.cells #[.slice (some ⟨wr.heap.size, 0, none⟩) n n] 84)).grown (w := ((wr.alloc (.cells (intsV (List.replicate n 0)) 3)).alloc (.cells #[.slice (some ⟨wr.heap.size, 0, none⟩) n n] 84)).drew) hgrow (fun e => hvf e.symm))
           have x6 := hb5.cell 2
           have z6 := hb5.free 2))
      all_goals
        have hN2 := HN.out.next hown1 hgrow hat
        have hW2 := below_grow (C := w.heap.size + 2) HW.out HW.out.size hgrow hvb (by omega) (.slice (some ⟨gg, 0, none⟩) (j + 1) cp)
        clear x6 z6 hb5 hown1 hgrow hat hlt
        go_wp2_with fail
        go_roundw
        case measure => simp only [intOf] at *; omega
        case rel => exact ⟨j + 1, _, _, by omega, rfl, hN2, hW2⟩
    · obtain rfl : j = 4 := by omega
      obtain ⟨R, cap, hv⟩ : ∃ R cap, v = .slice (some ⟨R, 0, none⟩) 4 cap := by
        rcases hN.own.2 with ⟨_, h0⟩ | ⟨g, cap, cur, hv, _⟩
        · omega
        · exact ⟨g, cap, hv⟩
      subst hv
      have x0 := hN.box.cell 0
      have x1 := hN.box.cell 1
      have x2 := hN.box.cell 2
      have x3 := hN.box.cell 3
      have x4 := hN.box.cell 4
      have r0 := hN.res.cell 0
      have r1 := hN.res.cell 1
      have r2 := hN.res.cell 2
      have r3 := hN.res.cell 3
      have r4 := hN.res.cell 4
      have z0 := hN.res.free 0
      have z1 := hN.res.free 1
      have z2 := hN.res.free 2
      have z3 := hN.res.free 3
      have z4 := hN.res.free 4
      simp only [List.getElem?_toArray, List.getElem?_cons_zero, List.getElem?_cons_succ] at x0 x1 x2 x3 x4 r0 r1 r2 r3 r4
      have hR := hN.own.lt R rfl
      have hrows : ∀ i, i < 4 → wr.cell? ⟨R, i, none⟩ = some (.slice (some ⟨G i, 0, none⟩) n n) := fun i hi => by
        have := hN.own.cells (g := R) rfl i (.slice (some ⟨G i, 0, none⟩) n n) (by unfold rowsL; rw [List.getElem?_map, List.getElem?_range hi]; rfl)
        have e : (⟨R, 0, none⟩ : Addr).add i = ⟨R, i, none⟩ := by unfold Addr.add; by_cases h : i = 0 <;> simp [h]
        rw [e] at this
        exact this
      have hRef : Ref wr R (w.heap.size + 1) G (Sk.new n seed) := ⟨hR.2, hrows, fun i hi => hN.row i hi, hN.door⟩
      have hAp : Apart w.heap.size R (w.heap.size + 1) G := ⟨by omega, by omega, fun i hi => by have := hN.low i hi; omega, by omega,
        fun i hi e => hN.far i hi (congrArg some e), fun i hi => by have := hN.low i hi; omega, fun i j hi hj hne => hN.GG i j hi hj hne⟩
      have hRF := fill5_ref hRef (B := w.heap.size) (by omega) (fun i hi => by have := hN.low i hi; omega) (by omega) (.int .i64 (n : Int)) (.int .u64 (seed : Int)) (.slice (some ⟨R, 0, none⟩) 4 cap) (.slice (some ⟨w.heap.size + 1, 0, none⟩) n n) (.int .i64 0)
      have hBF := fill5_below hW (B := w.heap.size) (Nat.le_refl _) (.int .i64 (n : Int)) (.int .u64 (seed : Int)) (.slice (some ⟨R, 0, none⟩) 4 cap) (.slice (some ⟨w.heap.size + 1, 0, none⟩) n n) (.int .i64 0)
      have hCF := fill5_blk hN.res (.int .i64 (n : Int)) (.int .u64 (seed : Int)) (.slice (some ⟨R, 0, none⟩) 4 cap) (.slice (some ⟨w.heap.size + 1, 0, none⟩) n n) (.int .i64 0)
      generalize hu : fill5 wr w.heap.size (.int .i64 (n : Int)) (.int .u64 (seed : Int)) (.slice (some ⟨R, 0, none⟩) 4 cap) (.slice (some ⟨w.heap.size + 1, 0, none⟩) n n) (.int .i64 0) = u at hRF hBF hCF
      have HU := Lib.hid hu
      unfold fill5 at HU
      clear hu
      go_wp2_with fail
      rw [HU.out]
      have q0 := hCF.cell 0
      have q1 := hCF.cell 1
      have q2 := hCF.cell 2
      have q3 := hCF.cell 3
      have q4 := hCF.cell 4
      simp only [List.getElem?_toArray, List.getElem?_cons_zero, List.getElem?_cons_succ] at q0 q1 q2 q3 q4
      refine bodyPost_ret (v := refV R cap (w.heap.size + 1) (Sk.new n seed)) (by simp [results, Tryz.results21, go_sem, q0, q1, q2, q3, q4]; rfl) rfl ?_
      exact ⟨R, cap, w.heap.size + 1, G, rfl, hRF, hAp, hBF⟩
end Go.Proofs.YtgfpedcdclgmiaaGreat.Sketchy

namespace Go.Proofs.YtgfpedcdclgmiaaGreat.Sketchy
open Go.ChangeShapes Go.WideShapes Go.ChangeAt Go.RowKit
open Wirey (Blk Row str str_size str_list Kp)

theorem keep_c {x y : World} {b i : Nat} {v : Value} (h : x.cell? ⟨b, i, none⟩ = some v) (hb : Below x.heap.size x y) : y.cell? ⟨b, i, none⟩ = some v :=
  (World.cell?_of_block (hb.block b (World.block_lt_of_cell? x _ h))).trans h
theorem below_step {w x y : World} (h : Below w.heap.size w x) (hb : Below x.heap.size x y) : Below w.heap.size w y := h.trans (hb.mono h.size)
theorem keep7 {w x y : World} {b0 b1 b2 b3 b4 b5 b6 i0 i1 i2 i3 i4 i5 i6 : Nat} {u0 u1 u2 u3 u4 u5 u6 : Value}
    (hS : x.cell? ⟨b0, i0, none⟩ = some u0 ∧ x.cell? ⟨b1, i1, none⟩ = some u1 ∧ x.cell? ⟨b2, i2, none⟩ = some u2 ∧ x.cell? ⟨b3, i3, none⟩ = some u3 ∧ x.cell? ⟨b4, i4, none⟩ = some u4 ∧ x.cell? ⟨b5, i5, none⟩ = some u5 ∧ x.cell? ⟨b6, i6, none⟩ = some u6 ∧ Below w.heap.size w x)
    (hb : Below x.heap.size x y) :
    y.cell? ⟨b0, i0, none⟩ = some u0 ∧ y.cell? ⟨b1, i1, none⟩ = some u1 ∧ y.cell? ⟨b2, i2, none⟩ = some u2 ∧ y.cell? ⟨b3, i3, none⟩ = some u3 ∧ y.cell? ⟨b4, i4, none⟩ = some u4 ∧ y.cell? ⟨b5, i5, none⟩ = some u5 ∧ y.cell? ⟨b6, i6, none⟩ = some u6 ∧ Below w.heap.size w y :=
  ⟨keep_c hS.1 hb, keep_c hS.2.1 hb, keep_c hS.2.2.1 hb, keep_c hS.2.2.2.1 hb, keep_c hS.2.2.2.2.1 hb, keep_c hS.2.2.2.2.2.1 hb, keep_c hS.2.2.2.2.2.2.1 hb, below_step hS.2.2.2.2.2.2.2 hb⟩
theorem keep7d {w x : World} {b0 b1 b2 b3 b4 b5 b6 i0 i1 i2 i3 i4 i5 i6 : Nat} {u0 u1 u2 u3 u4 u5 u6 : Value}
    (hS : x.cell? ⟨b0, i0, none⟩ = some u0 ∧ x.cell? ⟨b1, i1, none⟩ = some u1 ∧ x.cell? ⟨b2, i2, none⟩ = some u2 ∧ x.cell? ⟨b3, i3, none⟩ = some u3 ∧ x.cell? ⟨b4, i4, none⟩ = some u4 ∧ x.cell? ⟨b5, i5, none⟩ = some u5 ∧ x.cell? ⟨b6, i6, none⟩ = some u6 ∧ Below w.heap.size w x) :
    x.drew.cell? ⟨b0, i0, none⟩ = some u0 ∧ x.drew.cell? ⟨b1, i1, none⟩ = some u1 ∧ x.drew.cell? ⟨b2, i2, none⟩ = some u2 ∧ x.drew.cell? ⟨b3, i3, none⟩ = some u3 ∧ x.drew.cell? ⟨b4, i4, none⟩ = some u4 ∧ x.drew.cell? ⟨b5, i5, none⟩ = some u5 ∧ x.drew.cell? ⟨b6, i6, none⟩ = some u6 ∧ Below w.heap.size w x.drew :=
  ⟨hS.1, hS.2.1, hS.2.2.1, hS.2.2.2.1, hS.2.2.2.2.1, hS.2.2.2.2.2.1, hS.2.2.2.2.2.2.1, hS.2.2.2.2.2.2.2.drew⟩
theorem keep7b {w x : World} {b0 b1 b2 b3 b4 b5 b6 i0 i1 i2 i3 i4 i5 i6 : Nat} {u0 u1 u2 u3 u4 u5 u6 : Value}
    (hS : x.cell? ⟨b0, i0, none⟩ = some u0 ∧ x.cell? ⟨b1, i1, none⟩ = some u1 ∧ x.cell? ⟨b2, i2, none⟩ = some u2 ∧ x.cell? ⟨b3, i3, none⟩ = some u3 ∧ x.cell? ⟨b4, i4, none⟩ = some u4 ∧ x.cell? ⟨b5, i5, none⟩ = some u5 ∧ x.cell? ⟨b6, i6, none⟩ = some u6 ∧ Below w.heap.size w x) : Below w.heap.size w x := hS.2.2.2.2.2.2.2

/-- The cells of a sketch's value. -/
def boxV (R cap D : Nat) (s : Sk) : Array Value := #[.int .i64 (s.wide : Int), .int .u64 (s.seed : Int), .slice (some ⟨R, 0, none⟩) 4 cap, .slice (some ⟨D, 0, none⟩) s.wide s.wide, .int .i64 (s.added : Int)]
theorem box_cells {w : World} {X R cap D : Nat} {s : Sk} (h : Blk w X 31 (boxV R cap D s)) :
    w.cell? ⟨X, 0, none⟩ = some (.int .i64 (s.wide : Int)) ∧ w.cell? ⟨X, 1, none⟩ = some (.int .u64 (s.seed : Int)) ∧ w.cell? ⟨X, 2, none⟩ = some (.slice (some ⟨R, 0, none⟩) 4 cap) ∧ w.cell? ⟨X, 3, none⟩ = some (.slice (some ⟨D, 0, none⟩) s.wide s.wide) ∧ w.cell? ⟨X, 4, none⟩ = some (.int .i64 (s.added : Int)) :=
  ⟨h.cell 0, h.cell 1, h.cell 2, h.cell 3, h.cell 4⟩

set_option maxHeartbeats 8000000 in
set_option maxRecDepth 100000 in
theorem rleast_c {s : Sk} (hf : s.Pre) {R cap D : Nat} {G : Nat → Nat} (l : List UInt8) (hl : l.length ≤ 1099511627776) (w : World) (hR : Ref w R D G s) :
    Calls Tryz.prog 43 #[refV R cap D s, .string (str l)] w fun e w' => e = .returned (.int .i64 (s.lst (ksOf (Mixy.text s.seed l) s.wide) 4 : Int)) ∧ Below w.heap.size w w' := by
  have hpl := fun (i : Nat) (W : World) => rplace_c hf R cap D l hl i W
  have hkl := fun i => ksOf_lt (h := Mixy.text s.seed l) hf.w1 i
  obtain ⟨ks, hks⟩ : ∃ ks, ks = ksOf (Mixy.text s.seed l) s.wide := ⟨_, rfl⟩
  rw [← hks] at hpl hkl ⊢
  clear hks
  have hbx := (Blk.new w 31 (boxV R cap D s))
  have hbw := (Below.refl w.heap.size w).alloc (Nat.le_refl _) (.cells (boxV R cap D s) 31)
  have hRx := hR.alloc (.cells (boxV R cap D s) 31)
  unfold refV at hpl ⊢
  go_enter Tryz.func43, Tryz.ntmps43
  go_wp2_with fail
  go_loopw [5, 6] (fun m i wr => ∃ j : Nat, j ≤ 4 ∧ i = .int .i64 j ∧ m = .int .i64 (s.lst ks j : Int) ∧ Blk wr w.heap.size 31 (boxV R cap D s) ∧ Below w.heap.size w wr ∧ Ref wr R D G s) (fun _ i _ => 4 - (intOf i).toNat)
  case atStart => exact ⟨0, by omega, rfl, rfl, hbx, hbw, hRx⟩
  case round =>
    obtain ⟨j, hj, rfl, rfl, hX, hW, hU⟩ := hrel
    have hlst := Sk.lst_le (s := s) (ks := ks) j
    by_cases h4 : j < 4
    · have hc := hU.cnt hf (ks := ks) h4 (hkl j)
      have hr := hU.rows j h4
      have hcl := hf.cnt_le (ks := ks) h4
      have hkj := hkl j
      have hw2 := hf.w2
      obtain ⟨x0, x1, x2, x3, x4⟩ := box_cells hX
      have hmin : s.lst ks (j + 1) = min (s.lst ks j) (s.cnt ks j) := rfl
      have HM := Lib.hid hmin
      have HX := Lib.hid hX
      have HU := Lib.hid hU
      have HW := Lib.hid hW
      have hbr := (Below.refl wr.heap.size wr).drew
      have hp := fun W => hpl j W
      clear hpl hkl hmin hX hU hW hR hRx hbx hbw
      generalize ks j = k at hc hkj hp
      go_wp2_with fail
      go_region_held3 (fun w' => w'.cell? ⟨w.heap.size, 0, none⟩ = some (.int .i64 (s.wide : Int)) ∧ w'.cell? ⟨w.heap.size, 1, none⟩ = some (.int .u64 (s.seed : Int)) ∧ w'.cell? ⟨w.heap.size, 2, none⟩ = some (.slice (some ⟨R, 0, none⟩) 4 cap) ∧ w'.cell? ⟨w.heap.size, 3, none⟩ = some (.slice (some ⟨D, 0, none⟩) s.wide s.wide) ∧ w'.cell? ⟨w.heap.size, 4, none⟩ = some (.int .i64 (s.added : Int)) ∧ w'.cell? ⟨R, j, none⟩ = some (.slice (some ⟨G j, 0, none⟩) s.wide s.wide) ∧ w'.cell? ⟨G j, k, none⟩ = some (.int .i64 (s.cnt ks j : Int)) ∧ Below wr.heap.size wr w')
        (first | exact ⟨x0, x1, x2, x3, x4, hr, hc, hbr⟩ | exact keep7 (by assumption) (by assumption) | exact keep7d (by assumption) | go_keep)
        (first | (go_at_call 44; refine (hp _).mono ?_; rintro e v ⟨rfl, hv⟩))
      have hbv : Below wr.heap.size wr v := keep7b (by assumption)
      have hX2 := HX.out.below hbv HX.out.lt
      have hU2 := HU.out.below hbv (Nat.le_refl _)
      have hW2 := below_step HW.out hbv
      have hj1 : j + 1 ≤ 4 := by omega
      by_cases hlt : s.cnt ks j < s.lst ks j
      · have hm : s.lst ks (j + 1) = s.cnt ks j := by rw [HM.out]; omega
        have HM2 := Lib.hid hm
        have hlt2 : (s.cnt ks j : Int) < (s.lst ks j : Int) := by omega
        clear hm
        go_wp2_with fail
        go_roundw
        case rel => exact ⟨j + 1, hj1, rfl, by rw [HM2.out], hX2, hW2, hU2⟩
        case measure => simp [intOf]; omega
      · have hm : s.lst ks (j + 1) = s.lst ks j := by rw [HM.out]; omega
        have HM2 := Lib.hid hm
        have hlt2 : ¬ (s.cnt ks j : Int) < (s.lst ks j : Int) := by omega
        clear hm
        go_wp2_with fail
        go_roundw
        case rel => exact ⟨j + 1, hj1, rfl, by rw [HM2.out], hX2, hW2, hU2⟩
        case measure => simp [intOf]; omega
    · obtain rfl : j = 4 := by omega
      go_wp2_with fail
      go_ret
      exact ⟨rfl, hW⟩

set_option maxHeartbeats 8000000 in
set_option maxRecDepth 100000 in
theorem rseen_c {s : Sk} (hf : s.Pre) {R cap D : Nat} {G : Nat → Nat} (l : List UInt8) (hl : l.length ≤ 1099511627776) (w : World) (hR : Ref w R D G s) :
    Calls Tryz.prog 13 #[refV R cap D s, .string (str l)] w fun e w' => e = .returned (.int .i64 (s.seen (ksOf (Mixy.text s.seed l) s.wide) : Int)) ∧ Below w.heap.size w w' := by
  have hpl := fun (W : World) => rplace_c hf R cap D l hl 4 W
  have hkl := ksOf_lt (h := Mixy.text s.seed l) hf.w1 4
  have hle := fun (W : World) (h : Ref W R D G s) => rleast_c hf (cap := cap) l hl W h
  obtain ⟨ks, hks⟩ : ∃ ks, ks = ksOf (Mixy.text s.seed l) s.wide := ⟨_, rfl⟩
  rw [← hks] at hpl hkl hle ⊢
  clear hks
  have hbx := (Blk.new w 31 (boxV R cap D s))
  have hbw := (Below.refl w.heap.size w).alloc (Nat.le_refl _) (.cells (boxV R cap D s) 31)
  have hRx := hR.alloc (.cells (boxV R cap D s) 31)
  have hlst := Sk.lst_le (s := s) (ks := ks) 4
  have hs0 : s.bit ks = false → s.seen ks = s.lst ks 4 := fun hb => by rw [Sk.seen, hb]; rfl
  have hs1 : s.bit ks = true → s.seen ks = s.lst ks 4 + 1 := fun hb => by rw [Sk.seen, hb]; rfl
  have HS0 := Lib.hid hs0
  have HS1 := Lib.hid hs1
  have hw2 := hf.w2
  unfold refV at hpl hle ⊢
  clear hs0 hs1
  go_enter Tryz.func13, Tryz.ntmps13
  go_wp2_with fail
  refine (hle _ hRx).mono ?_
  rintro e wr ⟨rfl, hb1⟩
  have hU := hRx.below hb1 (Nat.le_refl _)
  have hX := hbx.below hb1 hbx.lt
  have hW := hbw.trans (hb1.mono hbw.size)
  obtain ⟨x0, x1, x2, x3, x4⟩ := box_cells hX
  have hc := hU.bit hf (ks := ks) hkl
  have hbr := (Below.refl wr.heap.size wr).drew
  have HX := Lib.hid hX
  have HU := Lib.hid hU
  have HW := Lib.hid hW
  clear hle hX hU hW hR hRx hbx hbw hb1
  generalize ks 4 = k at hc hkl hpl
  rcases Bool.eq_false_or_eq_true (s.bit ks) with hb | hb
  · have HS := Lib.hid (HS1.out hb)
    rw [hb] at hc
    clear hb
    go_wp2_with fail
    go_region_held3 (fun w' => w'.cell? ⟨w.heap.size, 0, none⟩ = some (.int .i64 (s.wide : Int)) ∧ w'.cell? ⟨w.heap.size, 1, none⟩ = some (.int .u64 (s.seed : Int)) ∧ w'.cell? ⟨w.heap.size, 2, none⟩ = some (.slice (some ⟨R, 0, none⟩) 4 cap) ∧ w'.cell? ⟨w.heap.size, 3, none⟩ = some (.slice (some ⟨D, 0, none⟩) s.wide s.wide) ∧ w'.cell? ⟨w.heap.size, 4, none⟩ = some (.int .i64 (s.added : Int)) ∧ w'.cell? ⟨D, k, none⟩ = some (.bool true) ∧ w'.cell? ⟨D, k, none⟩ = some (.bool true) ∧ Below wr.heap.size wr w')
      (first | exact ⟨x0, x1, x2, x3, x4, hc, hc, hbr⟩ | exact keep7 (by assumption) (by assumption) | exact keep7d (by assumption) | go_keep)
      (first | (go_at_call 44; refine (hpl _).mono ?_; rintro e v ⟨rfl, hv⟩))
    have hbv : Below wr.heap.size wr v := keep7b (by assumption)
    have hW2 := below_step HW.out hbv
    go_wp2_with fail
    go_ret
    exact ⟨by rw [HS.out]; rfl, hW2⟩
  · have HS := Lib.hid (HS0.out hb)
    rw [hb] at hc
    clear hb
    go_wp2_with fail
    go_region_held3 (fun w' => w'.cell? ⟨w.heap.size, 0, none⟩ = some (.int .i64 (s.wide : Int)) ∧ w'.cell? ⟨w.heap.size, 1, none⟩ = some (.int .u64 (s.seed : Int)) ∧ w'.cell? ⟨w.heap.size, 2, none⟩ = some (.slice (some ⟨R, 0, none⟩) 4 cap) ∧ w'.cell? ⟨w.heap.size, 3, none⟩ = some (.slice (some ⟨D, 0, none⟩) s.wide s.wide) ∧ w'.cell? ⟨w.heap.size, 4, none⟩ = some (.int .i64 (s.added : Int)) ∧ w'.cell? ⟨D, k, none⟩ = some (.bool false) ∧ w'.cell? ⟨D, k, none⟩ = some (.bool false) ∧ Below wr.heap.size wr w')
      (first | exact ⟨x0, x1, x2, x3, x4, hc, hc, hbr⟩ | exact keep7 (by assumption) (by assumption) | exact keep7d (by assumption) | go_keep)
      (first | (go_at_call 44; refine (hpl _).mono ?_; rintro e v ⟨rfl, hv⟩))
    have hbv : Below wr.heap.size wr v := keep7b (by assumption)
    have hW2 := below_step HW.out hbv
    go_wp2_with fail
    go_ret
    exact ⟨by rw [HS.out]; rfl, hW2⟩
end Go.Proofs.YtgfpedcdclgmiaaGreat.Sketchy

namespace Go.Proofs.YtgfpedcdclgmiaaGreat.Sketchy
open Go.ChangeShapes Go.WideShapes Go.ChangeAt Go.RowKit
open Wirey (Blk Row str str_size str_list Kp)

/-- The first k halved, the others none yet. -/
def halfZ (l : List Nat) (k : Nat) : List Nat := (l.take k).map (· / 2) ++ List.replicate (l.length - k) 0
theorem halfZ_0 (l : List Nat) : halfZ l 0 = List.replicate l.length 0 := rfl
theorem halfZ_all {l : List Nat} {k : Nat} (h : l.length ≤ k) : halfZ l k = l.map (· / 2) := by
  rw [halfZ, List.take_of_length_le h, Nat.sub_eq_zero_of_le h, List.replicate_zero, List.append_nil]
theorem halfZ_length {l : List Nat} {k : Nat} (hk : k ≤ l.length) : (halfZ l k).length = l.length := by
  unfold halfZ
  rw [List.length_append, List.length_map, List.length_take, List.length_replicate]
  omega
theorem halfZ_set {l : List Nat} {k : Nat} (hk : k < l.length) : (halfZ l k).set k (l[k] / 2) = halfZ l (k + 1) := by
  unfold halfZ
  obtain ⟨m, hm⟩ : ∃ m, l.length - k = m + 1 := ⟨l.length - k - 1, by omega⟩
  have hm2 : l.length - (k + 1) = m := by omega
  rw [hm, hm2, List.replicate_succ, List.set_append_right _ _ (by rw [List.length_map, List.length_take]; omega), List.length_map, List.length_take, Nat.min_eq_left (by omega), Nat.sub_self, List.set_cons_zero, List.take_succ_eq_append_getElem hk, List.map_append, List.append_assoc]
  rfl
/-- Rows 0 to j - 1 are halved, and the first k of row j; the others are none yet. -/
def Sk.zalf (s : Sk) (j k : Nat) : Sk := ⟨s.wide, s.seed, 0, fun i => if i < j then (s.r i).map (· / 2) else if i = j then halfZ (s.r i) k else List.replicate s.wide 0, List.replicate s.wide false⟩
theorem zalf_r (s : Sk) (j k i : Nat) : (s.zalf j k).r i = if i < j then (s.r i).map (· / 2) else if i = j then halfZ (s.r i) k else List.replicate s.wide 0 := rfl
section
variable {w : World} {R D : Nat} {G : Nat → Nat} {s : Sk}
theorem Ref.like {t u : Sk} (h : Ref w R D G t) (hw : t.wide = u.wide) (hr : ∀ i, i < 4 → t.r i = u.r i) (hd : t.door = u.door) : Ref w R D G u :=
  ⟨h.lt, fun i hi => by rw [← hw]; exact h.rows i hi, fun i hi => by rw [← hr i hi]; exact h.row i hi, by rw [← hd]; exact h.door⟩
theorem zalf_0 (hf : s.Pre) (h : Ref w R D G (Sk.new s.wide s.seed)) : Ref w R D G (s.zalf 0 0) := by
  refine h.like rfl (fun i hi => ?_) rfl
  rw [zalf_r, if_neg (by omega)]
  split
  · rw [halfZ_0, hf.len i hi]; rfl
  · rfl
theorem zalf_next (hf : s.Pre) {j k : Nat} (hk : s.wide ≤ k) (h : Ref w R D G (s.zalf j k)) : Ref w R D G (s.zalf (j + 1) 0) := by
  refine h.like rfl (fun i hi => ?_) rfl
  rw [zalf_r, zalf_r]
  by_cases e : i < j
  · rw [if_pos e, if_pos (by omega)]
  · rw [if_neg e]
    by_cases e2 : i = j
    · rw [if_pos e2, if_pos (by omega), halfZ_all (by rw [hf.len i hi]; exact hk)]
    · rw [if_neg e2, if_neg (by omega)]
      split
      · rw [halfZ_0, hf.len i hi]
      · rfl
theorem zalf_4 {k : Nat} (h : Ref w R D G (s.zalf 4 k)) : Ref w R D G s.age := by
  refine h.like rfl (fun i hi => ?_) rfl
  rw [zalf_r, if_pos hi]
  rfl
theorem zalf_put {B j k : Nat} (hA : Apart B R D G) (h : Ref w R D G (s.zalf j k)) (hj : j < 4) (hk : k < (s.r j).length) : Ref (w.setCell ⟨G j, k, none⟩ (.int .i64 (((s.r j)[k] / 2 : Nat) : Int))) R D G (s.zalf j (k + 1)) := by
  refine ⟨by have := h.lt; simpa [World.setCell] using this, fun i hi => (World.cell?_of_block (Below.heap_setCell w _ _ R (hA.RG j hj))).trans (h.rows i hi), fun i hi => ?_, h.door.far (hA.DG j hj) _⟩
  have hr := h.row i hi
  rw [zalf_r] at hr ⊢
  by_cases e : i = j
  · subst e
    rw [if_neg (by omega), if_pos rfl] at hr ⊢
    have hp := hr.put k (.int .i64 (((s.r i)[k] / 2 : Nat) : Int))
    rw [intsV_put, halfZ_set hk] at hp
    exact hp
  · have hp := hr.far (p := ⟨G j, k, none⟩) (hA.GG i j hi hj e) (.int .i64 (((s.r j)[k] / 2 : Nat) : Int))
    rw [if_neg e] at hp ⊢
    exact hp
end
theorem Apart.low {B C R D : Nat} {G : Nat → Nat} (h : Apart C R D G) (hB : B ≤ C) : Apart B R D G :=
  ⟨Nat.le_trans hB h.hR, Nat.le_trans hB h.hD, fun i hi => Nat.le_trans hB (h.hG i hi), h.RD, h.RG, h.DG, h.GG⟩

/-- What ageing holds: the old sketch, the box of it, the result's cell, the new one's box, the new one. -/
structure Aging (w : World) (R cap D : Nat) (G : Nat → Nat) (s : Sk) (Y R' cap' D' : Nat) (G' : Nat → Nat) (j k : Nat) (v : World) : Prop where
  old : Ref v R D G s
  x : Blk v w.heap.size 31 (boxV R cap D s)
  res : Blk v (w.heap.size + 1) 31 #[.int .i64 0, .int .u64 0, .slice none 0 0, .slice none 0 0, .int .i64 0]
  y : Blk v Y 31 (boxV R' cap' D' (Sk.new s.wide s.seed))
  new : Ref v R' D' G' (s.zalf j k)
  below : Below w.heap.size w v

theorem Aging.drew {w : World} {R cap D : Nat} {G : Nat → Nat} {s : Sk} {Y R' cap' D' : Nat} {G' : Nat → Nat} {j k : Nat} {v : World} (h : Aging w R cap D G s Y R' cap' D' G' j k v) : Aging w R cap D G s Y R' cap' D' G' j k v.drew :=
  ⟨h.old.drew, h.x, h.res, h.y, h.new.drew, h.below.drew⟩
set_option maxHeartbeats 8000000 in
set_option maxRecDepth 100000 in
theorem rage_c {s : Sk} (hf : s.Pre) {R cap D : Nat} {G : Nat → Nat} (w : World) (hR : Ref w R D G s) :
    Calls Tryz.prog 95 #[refV R cap D s] w fun e w' => ∃ R' cap' D' G', e = .returned (refV R' cap' D' s.age) ∧ Ref w' R' D' G' s.age ∧ Apart w.heap.size R' D' G' ∧ Below w.heap.size w w' := by
  have hw2 := hf.w2
  have hnew := fun W => rnew_c (seed := s.seed) hf.w2 W
  have hbx := (Blk.new w 31 (boxV R cap D s)).alloc (.cells #[.int .i64 0, .int .u64 0, .slice none 0 0, .slice none 0 0, .int .i64 0] 31)
  have hby := Blk.new (w.alloc (.cells (boxV R cap D s) 31)) 31 #[.int .i64 0, .int .u64 0, .slice none 0 0, .slice none 0 0, .int .i64 0]
  rw [World.size_alloc] at hby
  have hbw := ((Below.refl w.heap.size w).alloc (Nat.le_refl _) (.cells (boxV R cap D s) 31)).alloc (by simp) (.cells #[.int .i64 0, .int .u64 0, .slice none 0 0, .slice none 0 0, .int .i64 0] 31)
  have hRx := (hR.alloc (.cells (boxV R cap D s) 31)).alloc (.cells #[.int .i64 0, .int .u64 0, .slice none 0 0, .slice none 0 0, .int .i64 0] 31)
  have hsz : ((w.alloc (.cells (boxV R cap D s) 31)).alloc (.cells #[.int .i64 0, .int .u64 0, .slice none 0 0, .slice none 0 0, .int .i64 0] 31)).heap.size = w.heap.size + 2 := by simp
  unfold refV at hnew ⊢
  go_enter Tryz.func95, Tryz.ntmps95
  go_wp2_with fail
  refine (hnew _).mono ?_
  rintro e v1 ⟨R', cap', D', G', rfl, hN, hA, hb1⟩
  have hsz2 := hb1.size
  change ((w.alloc (.cells (boxV R cap D s) 31)).alloc (.cells #[.int .i64 0, .int .u64 0, .slice none 0 0, .slice none 0 0, .int .i64 0] 31)).heap.size ≤ v1.heap.size at hsz2
  change Apart ((w.alloc (.cells (boxV R cap D s) 31)).alloc (.cells #[.int .i64 0, .int .u64 0, .slice none 0 0, .slice none 0 0, .int .i64 0] 31)).heap.size R' D' G' at hA
  rw [hsz] at hsz2 hA
  have hAg : Aging w R cap D G s v1.heap.size R' cap' D' G' 0 0 (v1.alloc (.cells (boxV R' cap' D' (Sk.new s.wide s.seed)) 31)) :=
    ⟨(hRx.below hb1 (Nat.le_refl _)).alloc _, (hbx.below hb1 hbx.lt).alloc _, (hby.below hb1 hby.lt).alloc _, Blk.new _ _ _, (zalf_0 hf hN).alloc _, (hbw.trans (hb1.mono hbw.size)).alloc (by omega) _⟩
  have hYN : R' < v1.heap.size ∧ D' < v1.heap.size ∧ ∀ i, i < 4 → G' i < v1.heap.size := ⟨hN.lt, hN.door.lt, fun i hi => (hN.row i hi).lt⟩
  have hIn : R < w.heap.size ∧ D < w.heap.size ∧ ∀ i, i < 4 → G i < w.heap.size := ⟨hR.lt, hR.door.lt, fun i hi => (hR.row i hi).lt⟩
  clear hbx hby hbw hRx hN hb1 hnew hR
  go_wp2_with fail
  go_loopw [4] (fun i wr => ∃ j : Nat, j ≤ 4 ∧ i = .int .i64 j ∧ Aging w R cap D G s v1.heap.size R' cap' D' G' j 0 wr) (fun i _ => 4 - (intOf i).toNat)
  case atStart => exact ⟨0, by omega, rfl, hAg⟩
  case round =>
    obtain ⟨j, hj, rfl, hG⟩ := hrel
    by_cases h4 : j < 4
    · go_wp2_with fail
      go_loopw [5] (fun i wq => ∃ k : Nat, k ≤ s.wide ∧ i = .int .i64 k ∧ Aging w R cap D G s v1.heap.size R' cap' D' G' j k wq) (fun i _ => s.wide - (intOf i).toNat)
      case atStart => exact ⟨0, by omega, rfl, hG⟩
      case round =>
        obtain ⟨k, hk, rfl, hH⟩ := hrel
        obtain ⟨x0, x1, x2, x3, x4⟩ := box_cells hH.x
        by_cases hkw : k < s.wide
        · have hlen := hf.len j h4
          have hkl : k < (s.r j).length := by omega
          obtain ⟨y0, y1, y2, y3, y4⟩ := box_cells hH.y
          have hr := hH.old.rows j h4
          have hr' := hH.new.rows j h4
          have hwz : (s.zalf j k).wide = s.wide := rfl
          rw [hwz] at hr'
          have hc := ((hH.old.row j h4).cell k).trans (intsV_at hkl)
          have hg : (s.r j)[k]?.getD 0 = (s.r j)[k] := by rw [List.getElem?_eq_getElem hkl]; rfl
          rw [hg] at hc
          have hc' : ∃ u, wr.cell? ⟨G' j, k, none⟩ = some u := by
            have h1 := (hH.new.row j h4).cell k
            rw [zalf_r, if_neg (by omega), if_pos rfl] at h1
            exact ⟨_, h1.trans (intsV_at (by rw [halfZ_length (by omega)]; exact hkl))⟩
          obtain ⟨u, hc'⟩ := hc'
          have hz := (hH.new.row j h4).free k
          have htop := hf.top j h4 _ (List.getElem_mem hkl)
          have hGj := hA.hG j h4
          have hP : Aging w R cap D G s v1.heap.size R' cap' D' G' j (k + 1) (wr.setCell ⟨G' j, k, none⟩ (.int .i64 (((s.r j)[k] / 2 : Nat) : Int))) :=
            ⟨hH.old.far (by show R ≠ G' j; have := hIn.1; omega) (fun i hi => by show G i ≠ G' j; have := hIn.2.2 i hi; omega) (by show D ≠ G' j; have := hIn.2.1; omega) _,
              hH.x.far (by show w.heap.size ≠ G' j; omega) _, hH.res.far (by show w.heap.size + 1 ≠ G' j; omega) _, hH.y.far (by show v1.heap.size ≠ G' j; have := hYN.2.2 j h4; omega) _,
              zalf_put hA hH.new h4 hkl, hH.below.setCell (p := ⟨G' j, k, none⟩) (by show w.heap.size ≤ G' j; omega) _⟩
          generalize (s.r j)[k] = c at hc hP htop
          have hq : (((c / 2 : Nat)) : Int) = (c : Int) / 2 := by omega
          rw [hq] at hP
          clear hq hg hlen hkl hH hG
          go_wp2_with fail
          go_region
          go_wp2_with fail
          go_roundw
          case rel => exact ⟨k + 1, by omega, rfl, hP.drew⟩
          case measure => simp [intOf]; omega
        · have hN : Aging w R cap D G s v1.heap.size R' cap' D' G' (j + 1) 0 wr := ⟨hH.old, hH.x, hH.res, hH.y, zalf_next hf (by omega) hH.new, hH.below⟩
          clear hH hG
          go_wp2_with fail
          go_roundw
          case rel => exact ⟨j + 1, by omega, rfl, hN⟩
          case measure => simp [intOf]; omega
    · obtain rfl : j = 4 := by omega
      obtain ⟨x0, x1, x2, x3, x4⟩ := box_cells hG.x
      have hdiv : ((s.added / 2 : Nat) : Int) = (s.added : Int) / 2 := by omega
      have hadd := hf.added
      have y4 := hG.y.cell 4
      have z4 := hG.y.free 4
      have hY2 := hG.y.put 4 (.int .i64 ((s.added / 2 : Nat) : Int))
      have hX2 : Blk (wr.setCell ⟨v1.heap.size, 4, none⟩ (.int .i64 ((s.added / 2 : Nat) : Int))) (w.heap.size + 1) 31 #[.int .i64 0, .int .u64 0, .slice none 0 0, .slice none 0 0, .int .i64 0] := hG.res.far (by show w.heap.size + 1 ≠ v1.heap.size; omega) _
      have hB2 := hG.below.setCell (p := ⟨v1.heap.size, 4, none⟩) (by show w.heap.size ≤ v1.heap.size; omega) (.int .i64 ((s.added / 2 : Nat) : Int))
      have hN2 := (zalf_4 hG.new).far (p := ⟨v1.heap.size, 4, none⟩) (by show R' ≠ v1.heap.size; have := hYN.1; omega) (fun i hi => by show G' i ≠ v1.heap.size; have := hYN.2.2 i hi; omega) (by show D' ≠ v1.heap.size; have := hYN.2.1; omega) (.int .i64 ((s.added / 2 : Nat) : Int))
      rw [hdiv] at hY2 hX2 hB2 hN2
      clear hG hdiv hAg
      generalize hu : wr.setCell ⟨v1.heap.size, 4, none⟩ (.int .i64 ((s.added : Int) / 2)) = u at hY2 hX2 hB2 hN2
      have HU := Lib.hid hu
      clear hu
      have q0 := hY2.cell 0
      have q1 := hY2.cell 1
      have q2 := hY2.cell 2
      have q3 := hY2.cell 3
      have q4 := hY2.cell 4
      have r0 := hX2.cell 0
      have r1 := hX2.cell 1
      have r2 := hX2.cell 2
      have r3 := hX2.cell 3
      have r4 := hX2.cell 4
      have f0 := hX2.free 0
      have f1 := hX2.free 1
      have f2 := hX2.free 2
      have f3 := hX2.free 3
      have f4 := hX2.free 4
      unfold boxV at q0 q1 q2 q3 q4 y4
      simp only [List.getElem?_toArray, List.getElem?_cons_zero, List.getElem?_cons_succ, List.setIfInBounds_toArray, List.set_cons_zero, List.set_cons_succ] at q0 q1 q2 q3 q4 r0 r1 r2 r3 r4 y4
      have ew : (Sk.new s.wide s.seed).wide = s.wide := rfl
      have es : (Sk.new s.wide s.seed).seed = s.seed := rfl
      rw [ew] at q0 q3
      rw [es] at q1
      have hRF := fill5_ref hN2 (B := w.heap.size + 1) (by have := hA.hR; omega) (fun i hi => by have := hA.hG i hi; omega) (by have := hA.hD; omega) (.int .i64 (s.wide : Int)) (.int .u64 (s.seed : Int)) (.slice (some ⟨R', 0, none⟩) 4 cap') (.slice (some ⟨D', 0, none⟩) s.wide s.wide) (.int .i64 ((s.added : Int) / 2))
      have hBF := fill5_below hB2 (B := w.heap.size + 1) (by omega) (.int .i64 (s.wide : Int)) (.int .u64 (s.seed : Int)) (.slice (some ⟨R', 0, none⟩) 4 cap') (.slice (some ⟨D', 0, none⟩) s.wide s.wide) (.int .i64 ((s.added : Int) / 2))
      have hCF := fill5_blk hX2 (.int .i64 (s.wide : Int)) (.int .u64 (s.seed : Int)) (.slice (some ⟨R', 0, none⟩) 4 cap') (.slice (some ⟨D', 0, none⟩) s.wide s.wide) (.int .i64 ((s.added : Int) / 2))
      generalize hu : fill5 u (w.heap.size + 1) (.int .i64 (s.wide : Int)) (.int .u64 (s.seed : Int)) (.slice (some ⟨R', 0, none⟩) 4 cap') (.slice (some ⟨D', 0, none⟩) s.wide s.wide) (.int .i64 ((s.added : Int) / 2)) = u2 at hRF hBF hCF
      have HU2 := Lib.hid hu
      unfold fill5 at HU2
      clear hu
      go_upto_region 10 with (fail)
      rw [HU.out]
      go_wp2_with fail
      rw [HU2.out]
      have p0 := hCF.cell 0
      have p1 := hCF.cell 1
      have p2 := hCF.cell 2
      have p3 := hCF.cell 3
      have p4 := hCF.cell 4
      simp only [List.getElem?_toArray, List.getElem?_cons_zero, List.getElem?_cons_succ] at p0 p1 p2 p3 p4
      refine bodyPost_ret (v := refV R' cap' D' s.age) (by simp [results, Tryz.results95, go_sem, p0, p1, p2, p3, p4]; rfl) rfl ?_
      exact ⟨R', cap', D', G', rfl, hRF, hA.low (by omega), hBF⟩
end Go.Proofs.YtgfpedcdclgmiaaGreat.Sketchy

namespace Go.Proofs.YtgfpedcdclgmiaaGreat.Sketchy
open Go.ChangeShapes Go.WideShapes Go.ChangeAt Go.RowKit
open Wirey (Blk Row str str_size str_list Kp)

section
variable {w : World} {R D : Nat} {G : Nat → Nat} {s : Sk}
theorem blk_row {w : World} {g : Nat} {t : TypeId} {cs : Array Value} (h : Blk w g t cs) (ds : Array Value) : Blk (w.setRow g ds) g t ds := setRow_heap w g cs ds t (0, 0) h
theorem blk_rowfar {w : World} {g b : Nat} {t : TypeId} {cs : Array Value} (h : Blk w g t cs) (hne : g ≠ b) (ds : Array Value) : Blk (w.setRow b ds) g t cs := (setRow_other w b g ds hne).trans h
theorem row_below {C : Nat} {w v : World} {b : Nat} (h : Below C w v) (hb : C ≤ b) (ds : Array Value) : Below C w (v.setRow b ds) :=
  ⟨h.os, h.tape, h.output, by rw [setRow_size]; exact h.size, fun k hk => (setRow_other v b k ds (by omega)).trans (h.block k hk)⟩
theorem Ref.rowfar (h : Ref w R D G s) {b : Nat} (h1 : R ≠ b) (h2 : ∀ i, i < 4 → G i ≠ b) (h3 : D ≠ b) (ds : Array Value) : Ref (w.setRow b ds) R D G s :=
  ⟨by rw [setRow_size]; exact h.lt, fun i hi => (World.cell?_of_block (setRow_other w b R ds h1)).trans (h.rows i hi), fun i hi => blk_rowfar (h.row i hi) (h2 i hi) ds, blk_rowfar h.door h3 ds⟩
/-- The first j rows are another's. -/
def Sk.with_ (t : Sk) (u : Sk) (j : Nat) : Sk := { t with r := fun i => if i < j then u.r i else t.r i, door := u.door }
theorem with_r (t u : Sk) (j i : Nat) : (t.with_ u j).r i = if i < j then u.r i else t.r i := rfl
theorem Ref.door_set {B : Nat} (hA : Apart B R D G) (h : Ref w R D G s) (u : Sk) : Ref (w.setRow D (boolsV u.door)) R D G (s.with_ u 0) :=
  ⟨by rw [setRow_size]; exact h.lt, fun i hi => (World.cell?_of_block (setRow_other w D R _ hA.RD)).trans (h.rows i hi), fun i hi => by rw [with_r, if_neg (by omega)]; exact blk_rowfar (h.row i hi) (Ne.symm (hA.DG i hi)) _, blk_row h.door _⟩
theorem Ref.row_set {B j : Nat} (hA : Apart B R D G) {u : Sk} (h : Ref w R D G (s.with_ u j)) (hj : j < 4) : Ref (w.setRow (G j) (intsV (u.r j))) R D G (s.with_ u (j + 1)) := by
  refine ⟨by rw [setRow_size]; exact h.lt, fun i hi => (World.cell?_of_block (setRow_other w (G j) R _ (hA.RG j hj))).trans (h.rows i hi), fun i hi => ?_, blk_rowfar h.door (hA.DG j hj) _⟩
  have hr := h.row i hi
  rw [with_r] at hr ⊢
  by_cases e : i = j
  · subst e
    rw [if_pos (by omega)]
    exact blk_row hr _
  · have := blk_rowfar hr (hA.GG i j hi hj e) (intsV (u.r j))
    by_cases e2 : i < j
    · rw [if_pos e2] at this
      rw [if_pos (by omega)]
      exact this
    · rw [if_neg e2] at this
      rw [if_neg (by omega)]
      exact this
end
theorem copy_all {w : World} {g a n cap cap' : Nat} {dT elem t : TypeId} {cur cs : Array Value} (hu : Tryz.prog.underlying dT = some (.slice elem)) (hs : (Tryz.prog.info? elem).map (·.size) = some 1) (hg : Blk w g t cur) (hsrc : Blk w a t cs) (hc : cur.size = n) (hd : cs.size = n) (h1 : ∀ v ∈ cs.toList, v.oneCell' = true) :
    (Builtin.copy_ #[dT, dT] 3 #[.slice (some ⟨g, 0, none⟩) n cap, .slice (some ⟨a, 0, none⟩) n cap']).run Tryz.prog w = .ok (.int .i64 (n : Int)) (w.setRow g cs) := by
  have h := run_copy_row (P := Tryz.prog) w dT dT 3 elem g 0 n cap ⟨a, 0, none⟩ n cap' cur t cs.toList hu hs hg (by rw [Array.length_toList, hd]; exact (Nat.min_self n).symm) (fun j v hv => by
    have e : (⟨a, 0, none⟩ : Addr).add j = ⟨a, j, none⟩ := by unfold Addr.add; by_cases h : j = 0 <;> simp [h]
    rw [e, hsrc.cell j, ← hv]
    simp) (by rw [Array.length_toList]; omega) h1
  rw [h, List.take_zero, List.nil_append, Array.length_toList, List.drop_of_length_le (by rw [Array.length_toList]; omega), List.append_nil, Array.toArray_toList, hd]
  rfl
theorem boolsV_size (l : List Bool) : (boolsV l).size = l.length := by unfold boolsV; simp
theorem intsV_size (l : List Nat) : (intsV l).size = l.length := by unfold intsV; simp
theorem boolsV_one (l : List Bool) : ∀ v ∈ (boolsV l).toList, v.oneCell' = true := by
  intro v hv
  unfold boolsV at hv
  obtain ⟨x, _, rfl⟩ := List.mem_map.1 hv
  rfl
theorem intsV_one (l : List Nat) : ∀ v ∈ (intsV l).toList, v.oneCell' = true := by
  intro v hv
  unfold intsV at hv
  obtain ⟨x, _, rfl⟩ := List.mem_map.1 hv
  rfl
theorem bool_one : (Tryz.prog.info? 4).map (·.size) = some 1 := by kernel_rfl
theorem int_one : (Tryz.prog.info? 3).map (·.size) = some 1 := by kernel_rfl

/-- What an addition holds: the old sketch, the box of it, the result's cell, the new one's box, the new one. -/
structure Adding (w : World) (R cap D : Nat) (G : Nat → Nat) (s : Sk) (Y R' cap' D' : Nat) (G' : Nat → Nat) (t : Sk) (v : World) : Prop where
  old : Ref v R D G s
  x : Blk v w.heap.size 31 (boxV R cap D s)
  res : Blk v (w.heap.size + 1) 31 #[.int .i64 0, .int .u64 0, .slice none 0 0, .slice none 0 0, .int .i64 0]
  y : Blk v Y 31 (boxV R' cap' D' t)
  new : Ref v R' D' G' t
  below : Below w.heap.size w v
/-- Where all lies. -/
structure Lies (w : World) (R D : Nat) (G : Nat → Nat) (Y R' D' : Nat) (G' : Nat → Nat) : Prop where
  apart : Apart (w.heap.size + 2) R' D' G'
  R1 : R < w.heap.size
  D1 : D < w.heap.size
  G1 : ∀ i, i < 4 → G i < w.heap.size
  R2 : R' < Y
  D2 : D' < Y
  G2 : ∀ i, i < 4 → G' i < Y
section
variable {w v : World} {R cap D : Nat} {G : Nat → Nat} {s : Sk} {Y R' cap' D' : Nat} {G' : Nat → Nat} {t : Sk}
theorem Adding.drew (h : Adding w R cap D G s Y R' cap' D' G' t v) : Adding w R cap D G s Y R' cap' D' G' t v.drew := ⟨h.old.drew, h.x, h.res, h.y, h.new.drew, h.below.drew⟩
theorem Adding.onto (h : Adding w R cap D G s Y R' cap' D' G' t v) {v' : World} (hb : Below v.heap.size v v') : Adding w R cap D G s Y R' cap' D' G' t v' :=
  ⟨h.old.below hb (Nat.le_refl _), h.x.below hb h.x.lt, h.res.below hb h.res.lt, h.y.below hb h.y.lt, h.new.below hb (Nat.le_refl _), below_step h.below hb⟩
theorem Adding.door_set (h : Adding w R cap D G s Y R' cap' D' G' t v) (L : Lies w R D G Y R' D' G') (u : Sk) : Adding w R cap D G s Y R' cap' D' G' (t.with_ u 0) (v.setRow D' (boolsV u.door)) :=
  ⟨h.old.rowfar (by have := L.R1; have := L.apart.hD; omega) (fun i hi => by have := L.G1 i hi; have := L.apart.hD; omega) (by have := L.D1; have := L.apart.hD; omega) _,
    blk_rowfar h.x (by have := L.apart.hD; omega) _, blk_rowfar h.res (by have := L.apart.hD; omega) _, blk_rowfar h.y (by have := L.D2; omega) _, h.new.door_set L.apart u, row_below h.below (by have := L.apart.hD; omega) _⟩
theorem Adding.row_set {u : Sk} {j : Nat} (h : Adding w R cap D G s Y R' cap' D' G' (t.with_ u j) v) (L : Lies w R D G Y R' D' G') (hj : j < 4) : Adding w R cap D G s Y R' cap' D' G' (t.with_ u (j + 1)) (v.setRow (G' j) (intsV (u.r j))) :=
  ⟨h.old.rowfar (by have := L.R1; have := L.apart.hG j hj; omega) (fun i hi => by have := L.G1 i hi; have := L.apart.hG j hj; omega) (by have := L.D1; have := L.apart.hG j hj; omega) _,
    blk_rowfar h.x (by have := L.apart.hG j hj; omega) _, blk_rowfar h.res (by have := L.apart.hG j hj; omega) _, blk_rowfar h.y (by have := L.G2 j hj; omega) _, h.new.row_set L.apart hj, row_below h.below (by have := L.apart.hG j hj; omega) _⟩
/-- A cell of the new sketch is set. -/
theorem Adding.put (h : Adding w R cap D G s Y R' cap' D' G' t v) (L : Lies w R D G Y R' D' G') {b k : Nat} (hb : w.heap.size + 2 ≤ b) (hY : b < Y) (z : Value) {t' : Sk} (ht : Ref (v.setCell ⟨b, k, none⟩ z) R' D' G' t') (hw : boxV R' cap' D' t' = boxV R' cap' D' t) : Adding w R cap D G s Y R' cap' D' G' t' (v.setCell ⟨b, k, none⟩ z) :=
  ⟨h.old.far (by show R ≠ b; have := L.R1; omega) (fun i hi => by show G i ≠ b; have := L.G1 i hi; omega) (by show D ≠ b; have := L.D1; omega) _,
    h.x.far (by show w.heap.size ≠ b; omega) _, h.res.far (by show w.heap.size + 1 ≠ b; omega) _, by rw [hw]; exact h.y.far (by show Y ≠ b; omega) _, ht, h.below.setCell (p := ⟨b, k, none⟩) (by show w.heap.size ≤ b; omega) _⟩
end

/-- All rows are copied, and an addition more is counted. -/
theorem Adding.count {w v : World} {R cap D : Nat} {G : Nat → Nat} {s : Sk} {Y R' cap' D' : Nat} {G' : Nat → Nat} (h : Adding w R cap D G s Y R' cap' D' G' ((Sk.new s.wide s.seed).with_ s 4) v) (L : Lies w R D G Y R' D' G') :
    Adding w R cap D G s Y R' cap' D' G' s.count (v.setCell ⟨Y, 4, none⟩ (.int .i64 ((s.added + 1 : Nat) : Int))) ∧ v.frozen? ⟨Y, 4, none⟩ = false := by
  have hz := L.apart.hD
  have hY := L.D2
  refine ⟨⟨h.old.far (by show R ≠ Y; have := L.R1; omega) (fun i hi => by show G i ≠ Y; have := L.G1 i hi; omega) (by show D ≠ Y; have := L.D1; omega) _,
    h.x.far (by show w.heap.size ≠ Y; omega) _, h.res.far (by show w.heap.size + 1 ≠ Y; omega) _, h.y.put 4 _, ?_, h.below.setCell (p := ⟨Y, 4, none⟩) (by show w.heap.size ≤ Y; omega) _⟩, h.y.free 4⟩
  have hn := h.new.far (p := ⟨Y, 4, none⟩) (by show R' ≠ Y; have := L.R2; omega) (fun i hi => by show G' i ≠ Y; have := L.G2 i hi; omega) (by show D' ≠ Y; omega) (.int .i64 ((s.added + 1 : Nat) : Int))
  exact hn.like rfl (fun i hi => by rw [with_r, if_pos hi]; rfl) rfl
theorem Ref.mark {w : World} {B R D : Nat} {G : Nat → Nat} {s : Sk} {ks : Nat → Nat} (h : Ref w R D G s.count) (hA : Apart B R D G) : Ref (w.setCell ⟨D, ks 4, none⟩ (.bool true)) R D G (s.mark ks).count := by
  refine ⟨by have := h.lt; simpa [World.setCell] using this, fun i hi => (World.cell?_of_block (Below.heap_setCell w _ _ R hA.RD)).trans (h.rows i hi), fun i hi => (h.row i hi).far (Ne.symm (hA.DG i hi)) _, ?_⟩
  have := h.door.put (ks 4) (.bool true)
  rw [boolsV_put] at this
  exact this
/-- The first j of a key's counters are grown, if they may. -/
def Sk.upTo (s : Sk) (ks : Nat → Nat) (j : Nat) : Sk := if s.lst ks 4 = 15 then s else s.up ks j
theorem Sk.upTo_zero {s : Sk} {ks : Nat → Nat} : s.upTo ks 0 = s := by
  unfold Sk.upTo
  rw [Sk.up_zero]
  split <;> rfl
theorem upTo_box {s : Sk} {ks : Nat → Nat} {j : Nat} (R cap D : Nat) : boxV R cap D (s.upTo ks j).count = boxV R cap D s.count := by
  unfold Sk.upTo
  split <;> rfl
theorem upTo_wide {s : Sk} {ks : Nat → Nat} {j : Nat} : (s.upTo ks j).count.wide = s.wide := by
  unfold Sk.upTo
  split <;> rfl
theorem upTo_r {s : Sk} {ks : Nat → Nat} {j : Nat} : (s.upTo ks j).count.r j = s.r j := by
  unfold Sk.upTo
  split
  · rfl
  · show (if j < j then _ else s.r j) = _
    rw [if_neg (by omega)]
theorem upTo_stay {s : Sk} {ks : Nat → Nat} {j : Nat} (h : s.lst ks 4 = 15 ∨ s.cnt ks j ≠ s.lst ks 4) : s.upTo ks (j + 1) = s.upTo ks j := by
  unfold Sk.upTo
  by_cases h15 : s.lst ks 4 = 15
  · rw [if_pos h15, if_pos h15]
  · rw [if_neg h15, if_neg h15]
    have hne : s.cnt ks j ≠ s.lst ks 4 := by
      rcases h with h | h
      · exact absurd h h15
      · exact h
    unfold Sk.up
    have : (fun i => if i < j + 1 then upRow (s.r i) (ks i) (s.lst ks 4) else s.r i) = (fun i => if i < j then upRow (s.r i) (ks i) (s.lst ks 4) else s.r i) := by
      funext i
      by_cases e : i = j
      · subst e
        rw [if_pos (by omega), if_neg (by omega), upRow, if_neg (show ¬ (s.r i)[ks i]?.getD 0 = s.lst ks 4 from hne)]
      · by_cases e2 : i < j
        · rw [if_pos e2, if_pos (by omega)]
        · rw [if_neg e2, if_neg (by omega)]
    rw [this]
theorem Ref.upSet {w : World} {B R D : Nat} {G : Nat → Nat} {s : Sk} {ks : Nat → Nat} {j : Nat} (h : Ref w R D G (s.upTo ks j).count) (hA : Apart B R D G) (hj : j < 4) (h15 : s.lst ks 4 ≠ 15) (heq : s.cnt ks j = s.lst ks 4) :
    Ref (w.setCell ⟨G j, ks j, none⟩ (.int .i64 ((s.lst ks 4 + 1 : Nat) : Int))) R D G (s.upTo ks (j + 1)).count := by
  have e1 : ∀ k, s.upTo ks k = s.up ks k := fun k => if_neg h15
  rw [e1] at h ⊢
  refine ⟨by have := h.lt; simpa [World.setCell] using this, fun i hi => (World.cell?_of_block (Below.heap_setCell w _ _ R (hA.RG j hj))).trans (h.rows i hi), fun i hi => ?_, h.door.far (hA.DG j hj) _⟩
  have hr := h.row i hi
  show Blk _ (G i) _ (intsV (if i < j + 1 then upRow (s.r i) (ks i) (s.lst ks 4) else s.r i))
  replace hr : Blk w (G i) 3 (intsV (if i < j then upRow (s.r i) (ks i) (s.lst ks 4) else s.r i)) := hr
  by_cases e : i = j
  · subst e
    rw [if_neg (by omega)] at hr
    have hp := hr.put (ks i) (.int .i64 ((s.lst ks 4 + 1 : Nat) : Int))
    rw [intsV_put] at hp
    rw [if_pos (by omega), upRow, if_pos (show (s.r i)[ks i]?.getD 0 = s.lst ks 4 from heq)]
    exact hp
  · have hp := hr.far (p := ⟨G j, ks j, none⟩) (hA.GG i j hi hj e) (.int .i64 ((s.lst ks 4 + 1 : Nat) : Int))
    by_cases e2 : i < j
    · rw [if_pos e2] at hp
      rw [if_pos (by omega)]
      exact hp
    · rw [if_neg e2] at hp
      rw [if_neg (by omega)]
      exact hp
theorem Sk.upTo_4 {s : Sk} {ks : Nat → Nat} : s.upTo ks 4 = s.grow ks := rfl
set_option maxHeartbeats 8000000 in
set_option maxRecDepth 100000 in
theorem radd_c {s : Sk} (hf : s.Wf) {R cap D : Nat} {G : Nat → Nat} (l : List UInt8) (hl : l.length ≤ 1099511627776) (w : World) (hR : Ref w R D G s) :
    Calls Tryz.prog 60 #[refV R cap D s, .string (str l)] w fun e w' => ∃ R' cap' D' G', e = .returned (refV R' cap' D' (s.add (ksOf (Mixy.text s.seed l) s.wide))) ∧ Ref w' R' D' G' (s.add (ksOf (Mixy.text s.seed l) s.wide)) ∧ Apart w.heap.size R' D' G' ∧ Below w.heap.size w w' := by
  have hw2 := hf.w2
  have hnew := fun W => rnew_c (seed := s.seed) hf.w2 W
  have hpl := fun (i : Nat) (W : World) => rplace_c hf.pre R cap D l hl i W
  have hle := fun (W : World) (h : Ref W R D G s) => rleast_c hf.pre (cap := cap) l hl W h
  have hkl := fun i => ksOf_lt (h := Mixy.text s.seed l) hf.w1 i
  obtain ⟨ks, hks⟩ : ∃ ks, ks = ksOf (Mixy.text s.seed l) s.wide := ⟨_, rfl⟩
  rw [← hks] at hpl hkl hle ⊢
  clear hks
  have hbx := (Blk.new w 31 (boxV R cap D s)).alloc (.cells #[.int .i64 0, .int .u64 0, .slice none 0 0, .slice none 0 0, .int .i64 0] 31)
  have hby := Blk.new (w.alloc (.cells (boxV R cap D s) 31)) 31 #[.int .i64 0, .int .u64 0, .slice none 0 0, .slice none 0 0, .int .i64 0]
  rw [World.size_alloc] at hby
  have hbw := ((Below.refl w.heap.size w).alloc (Nat.le_refl _) (.cells (boxV R cap D s) 31)).alloc (by simp) (.cells #[.int .i64 0, .int .u64 0, .slice none 0 0, .slice none 0 0, .int .i64 0] 31)
  have hRx := (hR.alloc (.cells (boxV R cap D s) 31)).alloc (.cells #[.int .i64 0, .int .u64 0, .slice none 0 0, .slice none 0 0, .int .i64 0] 31)
  have hsz : ((w.alloc (.cells (boxV R cap D s) 31)).alloc (.cells #[.int .i64 0, .int .u64 0, .slice none 0 0, .slice none 0 0, .int .i64 0] 31)).heap.size = w.heap.size + 2 := by simp
  unfold refV at hnew hpl hle ⊢
  go_enter Tryz.func60, Tryz.ntmps60
  go_wp2_with fail
  refine (hnew _).mono ?_
  rintro e v1 ⟨R', cap', D', G', rfl, hN, hA, hb1⟩
  have hsz2 := hb1.size
  change ((w.alloc (.cells (boxV R cap D s) 31)).alloc (.cells #[.int .i64 0, .int .u64 0, .slice none 0 0, .slice none 0 0, .int .i64 0] 31)).heap.size ≤ v1.heap.size at hsz2
  change Apart ((w.alloc (.cells (boxV R cap D s) 31)).alloc (.cells #[.int .i64 0, .int .u64 0, .slice none 0 0, .slice none 0 0, .int .i64 0] 31)).heap.size R' D' G' at hA
  rw [hsz] at hsz2 hA
  have hAd : Adding w R cap D G s v1.heap.size R' cap' D' G' (Sk.new s.wide s.seed) (v1.alloc (.cells (boxV R' cap' D' (Sk.new s.wide s.seed)) 31)) :=
    ⟨(hRx.below hb1 (Nat.le_refl _)).alloc _, (hbx.below hb1 hbx.lt).alloc _, (hby.below hb1 hby.lt).alloc _, Blk.new _ _ _, hN.alloc _, (hbw.trans (hb1.mono hbw.size)).alloc (by omega) _⟩
  have L : Lies w R D G v1.heap.size R' D' G' := ⟨hA, hR.lt, hR.door.lt, fun i hi => (hR.row i hi).lt, hN.lt, hN.door.lt, fun i hi => (hN.row i hi).lt⟩
  generalize hv2 : v1.alloc (.cells (boxV R' cap' D' (Sk.new s.wide s.seed)) 31) = v2 at hAd
  have HV2 := Lib.hid hv2
  clear hbx hby hbw hRx hN hb1 hnew hR hv2
  go_upto_region 2 with (fail)
  unfold boxV at HV2
  rw [HV2.out]
  have hdc := copy_all (w := v2) (n := s.wide) (cap := s.wide) (cap' := s.wide) Tryz.underlying29 bool_one hAd.new.door hAd.old.door (by rw [boolsV_size]; exact List.length_replicate ..) (by rw [boolsV_size]; exact hf.dlen) (boolsV_one _)
  obtain ⟨x0, x1, x2, x3, x4⟩ := box_cells hAd.x
  obtain ⟨y0, y1, y2, y3, y4⟩ := box_cells hAd.y
  have ew : (Sk.new s.wide s.seed).wide = s.wide := rfl
  rw [ew] at y3
  clear ew y0 y1 y4
  have hA1 := hAd.door_set L s
  generalize v2.setRow D' (boolsV s.door) = v3 at hdc hA1
  go_upto_region 3 with (fail)
  clear hdc HV2 hAd x0 x1 x2 x3 x4 y2 y3
  go_wp2_with fail
  go_loopw [6] (fun i wr => ∃ j : Nat, j ≤ 4 ∧ i = .int .i64 j ∧ Adding w R cap D G s v1.heap.size R' cap' D' G' ((Sk.new s.wide s.seed).with_ s j) wr) (fun i _ => 4 - (intOf i).toNat)
  case atStart => exact ⟨0, by omega, rfl, hA1⟩
  case round =>
    obtain ⟨j, hj, rfl, hG⟩ := hrel
    obtain ⟨x0, x1, x2, x3, x4⟩ := box_cells hG.x
    obtain ⟨y0, y1, y2, y3, y4⟩ := box_cells hG.y
    by_cases h4 : j < 4
    · have hr := hG.old.rows j h4
      have hr' := hG.new.rows j h4
      have ew : ((Sk.new s.wide s.seed).with_ s j).wide = s.wide := rfl
      rw [ew] at hr'
      have hnl : (((Sk.new s.wide s.seed).with_ s j).r j).length = s.wide := by rw [with_r, if_neg (by omega)]; exact List.length_replicate ..
      have hcp := copy_all (w := wr.drew) (n := s.wide) (cap := s.wide) (cap' := s.wide) Tryz.underlying84 int_one (hG.new.row j h4) (hG.old.row j h4) (by rw [intsV_size]; exact hnl) (by rw [intsV_size]; exact hf.len j h4) (intsV_one _)
      have hN := hG.drew.row_set L h4
      generalize hu : wr.drew.setRow (G' j) (intsV (s.r j)) = u at hcp hN
      clear hu hnl ew hG y0 y1 y3 y4 x0 x1 x3 x4
      go_wp2_with fail
      go_region
      go_wp2_with fail
      go_roundw
      case rel => exact ⟨j + 1, by omega, rfl, hN⟩
      case measure => simp [intOf]; omega
    · obtain rfl : j = 4 := by omega
      have hadd := hf.added
      have HC := Lib.hid (hG.count L)
      clear hG hA1 y0 y1 y2 y3 h4 hj
      go_upto_region 7 with (fail)
      have z4 : wr.frozen? ⟨v1.heap.size, 4, none⟩ = false := HC.out.2
      have HC1 := Lib.hid HC.out.1
      clear HC
      go_upto_region 8 with (fail)
      have hC := HC1.out
      have hq : ((s.added + 1 : Nat) : Int) = (s.added : Int) + 1 := by omega
      rw [hq] at hC
      clear HC1 x0 x1 x2 x3 x4 y4 z4
      generalize hv4 : wr.setCell ⟨v1.heap.size, 4, none⟩ (.int .i64 ((s.added : Int) + 1)) = v4 at hC
      clear hv4
      obtain ⟨x0, x1, x2, x3, x4⟩ := box_cells hC.x
      have hp4 := hpl 4
      go_wp2_with fail
      refine (hp4 _).mono ?_
      rintro e v5 ⟨rfl, hb5⟩
      have hC5 := hC.onto hb5
      have hbit := hC5.old.bit hf.pre (ks := ks) (hkl 4)
      clear x0 x1 x2 x3 x4 hC hb5
      obtain ⟨x0, x1, x2, x3, x4⟩ := box_cells hC5.x
      have hk4 := hkl 4
      go_upto_if 48 with (fail)
      go_cut [8, 9, 10] from 47 (fun _ _ _ wx => Adding w R cap D G s v1.heap.size R' cap' D' G' (s.note ks).count wx)
      case first =>
        rcases Bool.eq_false_or_eq_true (s.bit ks) with hb | hb
        · rw [hb] at hbit ⊢
          have hnote : s.note ks = s.grow ks := by rw [Sk.note, if_pos hb]
          have hl5 := fun (W : World) (h : Ref W R D G s) => hle W h
          have hlst := Sk.lst_le (s := s) (ks := ks) 4
          have HNT := Lib.hid hnote
          clear hb hnote
          go_wp2_with fail
          refine (hl5 _ hC5.old).mono ?_
          rintro e v6 ⟨rfl, hb6⟩
          have hC6 := hC5.onto hb6
          clear hbit x0 x1 x2 x3 x4 hC5 hb6
          go_wp2_with fail
          go_loopw [9] (fun i wr => ∃ j : Nat, j ≤ 4 ∧ i = .int .i64 j ∧ Adding w R cap D G s v1.heap.size R' cap' D' G' (s.upTo ks j).count wr) (fun i _ => 4 - (intOf i).toNat)
          case atStart => exact ⟨0, by omega, rfl, by rw [Sk.upTo_zero]; exact hC6⟩
          case round =>
            obtain ⟨j, hj, rfl, hG⟩ := hrel
            by_cases h4 : j < 4
            · obtain ⟨x0, x1, x2, x3, x4⟩ := box_cells hG.x
              have hpj := hpl j
              go_wp2_with fail
              refine (hpj _).mono ?_
              rintro e v7 ⟨rfl, hb7⟩
              have hG7 := hG.onto hb7
              clear x0 x1 x2 x3 x4 hG hb7 hC6
              obtain ⟨x0, x1, x2, x3, x4⟩ := box_cells hG7.x
              have hr := hG7.old.rows j h4
              have hc := hG7.old.cnt hf.pre (ks := ks) h4 (hkl j)
              have hcl := hf.pre.cnt_le (ks := ks) h4
              have hkj := hkl j
              by_cases hup : s.lst ks 4 ≠ 15 ∧ s.cnt ks j = s.lst ks 4
              · obtain ⟨h15, heq⟩ := hup
                have y2 := (box_cells hG7.y).2.2.1
                have hr' := hG7.new.rows j h4
                have ew := upTo_wide (s := s) (ks := ks) (j := j)
                rw [ew] at hr'
                have hrow := hG7.new.row j h4
                rw [upTo_r] at hrow
                have hc' := (hrow.cell (ks j)).trans (intsV_at (by rw [hf.len j h4]; exact hkj))
                have hz := hrow.free (ks j)
                have eg : (s.r j)[ks j]?.getD 0 = s.lst ks 4 := heq
                rw [eg] at hc'
                have hP := hG7.put L (b := G' j) (k := ks j) (by have := hA.hG j h4; omega) (L.G2 j h4) (.int .i64 ((s.lst ks 4 + 1 : Nat) : Int)) (t' := (s.upTo ks (j + 1)).count) (hG7.new.upSet hA h4 h15 heq) (by rw [upTo_box, upTo_box])
                have hq : ((s.lst ks 4 + 1 : Nat) : Int) = (s.lst ks 4 : Int) + 1 := by omega
                rw [hq] at hP
                rw [heq] at hc
                have hlt15 : (s.lst ks 4 : Int) < 15 := by omega
                clear hq eg hrow ew hG7
                go_wp2_with fail
                go_roundw
                case rel => exact ⟨j + 1, by omega, rfl, hP⟩
                case measure => simp [intOf]; omega
              · have hst := upTo_stay (s := s) (ks := ks) (j := j) (by by_cases h15 : s.lst ks 4 = 15; exact .inl h15; exact .inr (fun e => hup ⟨h15, e⟩))
                rw [← hst] at hG7
                by_cases heq : s.cnt ks j = s.lst ks 4
                · have hlt15 : ¬ (s.lst ks 4 : Int) < 15 := by have : s.lst ks 4 = 15 := by (by_cases h15 : s.lst ks 4 = 15; exact h15; exact absurd ⟨h15, heq⟩ hup)
                                                               omega
                  have hd : decide ((s.lst ks 4 : Int) < 15) = false := decide_eq_false hlt15
                  rw [heq] at hc
                  clear hst hup
                  go_wp2_with fail
                  go_roundw
                  case rel => exact ⟨j + 1, by omega, rfl, hG7⟩
                  case measure => simp [intOf]; omega
                · have hd : ((s.cnt ks j : Int) == (s.lst ks 4 : Int)) = false := by rw [beq_eq_false_iff_ne]; omega
                  clear hst hup
                  go_wp2_with fail
                  go_roundw
                  case rel => exact ⟨j + 1, by omega, rfl, hG7⟩
                  case measure => simp [intOf]; omega
            · obtain rfl : j = 4 := by omega
              rw [Sk.upTo_4] at hG
              go_wp2_with fail
              go_meet
              rw [HNT.out]
              exact hG
        · rw [hb] at hbit ⊢
          have hnote : s.note ks = s.mark ks := by rw [Sk.note, if_neg (by rw [hb]; decide)]
          have HNT := Lib.hid hnote
          obtain ⟨y0, y1, y2, y3, y4⟩ := box_cells hC5.y
          have ew : s.count.wide = s.wide := rfl
          rw [ew] at y3
          have hd := (hC5.new.door.cell (ks 4)).trans (boolsV_at (by show ks 4 < s.door.length; rw [hf.dlen]; exact hk4))
          have hz := hC5.new.door.free (ks 4)
          have hP := hC5.put L (b := D') (k := ks 4) (by have := hA.hD; omega) L.D2 (.bool true) (t' := (s.mark ks).count) (hC5.new.mark hA) rfl
          clear hb hnote ew y0 y1 y2 y4 hC5
          go_wp2_with fail
          go_meet
          rw [HNT.out]
          exact hP
      case rest =>
        have hfix := Sk.note_fix (s := s) (ks := ks)
        have hpre := hf.count (ks := ks)
        have hw10 : s.wide * 10 ≤ 40960 := by omega
        obtain ⟨T, hT⟩ : ∃ T, T = (s.note ks).count := ⟨_, rfl⟩
        have e1 : T.wide = s.wide := by rw [hT]; exact hfix.1
        have e2 : T.seed = s.seed := by rw [hT]; exact hfix.2.2
        have e3 : T.added = s.added + 1 := by rw [hT]; show (s.note ks).added + 1 = _; rw [hfix.2.1]
        rw [← hT] at hcut hpre
        have hyoung : s.added + 1 < 10 * s.wide → s.add ks = T := fun h => by rw [Sk.add, if_neg (by omega), hT]
        have hold : ¬ s.added + 1 < 10 * s.wide → s.add ks = T.age := fun h => by rw [Sk.add, if_pos (by omega), hT]
        have HE := Lib.hid (And.intro hyoung hold)
        have HQ := Lib.hid (And.intro e1 (And.intro e2 e3))
        have hage := fun (W : World) (h : Ref W R' D' G' T) => rage_c (s := T) hpre (cap := cap') W h
        unfold refV at hage
        rw [e1, e2, e3] at hage
        clear hyoung hold hfix hT
        obtain ⟨x0, -, -, -, -⟩ := box_cells hcut.x
        obtain ⟨y0, y1, y2, y3, y4⟩ := box_cells hcut.y
        rw [e1] at y0 y3
        rw [e2] at y1
        rw [e3] at y4
        have hq : ((s.added + 1 : Nat) : Int) = (s.added : Int) + 1 := by omega
        rw [hq] at y4 hage
        have HQ2 := Lib.hid hq
        clear e1 e2 e3 hq
        have r0 := hcut.res.cell 0
        have r1 := hcut.res.cell 1
        have r2 := hcut.res.cell 2
        have r3 := hcut.res.cell 3
        have r4 := hcut.res.cell 4
        have f0 := hcut.res.free 0
        have f1 := hcut.res.free 1
        have f2 := hcut.res.free 2
        have f3 := hcut.res.free 3
        have f4 := hcut.res.free 4
        simp only [List.getElem?_toArray, List.getElem?_cons_zero, List.getElem?_cons_succ] at r0 r1 r2 r3 r4
        by_cases hlt : s.added + 1 < 10 * s.wide
        · have hlt2 : (s.added : Int) + 1 < 10 * (s.wide : Int) := by omega
          have hRF := fill5_ref hcut.new (B := w.heap.size + 1) (by have := hA.hR; omega) (fun i hi => by have := hA.hG i hi; omega) (by have := hA.hD; omega) (.int .i64 (s.wide : Int)) (.int .u64 (s.seed : Int)) (.slice (some ⟨R', 0, none⟩) 4 cap') (.slice (some ⟨D', 0, none⟩) s.wide s.wide) (.int .i64 ((s.added : Int) + 1))
          have hBF := fill5_below hcut.below (B := w.heap.size + 1) (by omega) (.int .i64 (s.wide : Int)) (.int .u64 (s.seed : Int)) (.slice (some ⟨R', 0, none⟩) 4 cap') (.slice (some ⟨D', 0, none⟩) s.wide s.wide) (.int .i64 ((s.added : Int) + 1))
          have hCF := fill5_blk hcut.res (.int .i64 (s.wide : Int)) (.int .u64 (s.seed : Int)) (.slice (some ⟨R', 0, none⟩) 4 cap') (.slice (some ⟨D', 0, none⟩) s.wide s.wide) (.int .i64 ((s.added : Int) + 1))
          generalize hu : fill5 wc (w.heap.size + 1) (.int .i64 (s.wide : Int)) (.int .u64 (s.seed : Int)) (.slice (some ⟨R', 0, none⟩) 4 cap') (.slice (some ⟨D', 0, none⟩) s.wide s.wide) (.int .i64 ((s.added : Int) + 1)) = u2 at hRF hBF hCF
          have HU2 := Lib.hid hu
          unfold fill5 at HU2
          clear hu hcut
          go_wp2_with fail
          rw [HU2.out]
          have p0 := hCF.cell 0
          have p1 := hCF.cell 1
          have p2 := hCF.cell 2
          have p3 := hCF.cell 3
          have p4 := hCF.cell 4
          simp only [List.getElem?_toArray, List.getElem?_cons_zero, List.getElem?_cons_succ] at p0 p1 p2 p3 p4
          refine bodyPost_ret (v := refV R' cap' D' T) (by unfold refV; rw [HQ.out.1, HQ.out.2.1, HQ.out.2.2, HQ2.out]; simp [results, Tryz.results60, go_sem, p0, p1, p2, p3, p4]) rfl ?_
          rw [HE.out.1 hlt]
          exact ⟨R', cap', D', G', rfl, hRF, hA.low (by omega), hBF⟩
        · have hlt2 : ¬ (s.added : Int) + 1 < 10 * (s.wide : Int) := by omega
          go_wp2_with fail
          refine (hage _ hcut.new).mono ?_
          rintro e v6 ⟨R2, cap2, D2, G2, rfl, hN2, hA2, hb6⟩
          have hres := hcut.res.below hb6 hcut.res.lt
          have hbel := below_step hcut.below hb6
          have hlow : w.heap.size + 2 ≤ wc.heap.size := hcut.res.lt
          have a1 : (T.age).wide = s.wide := HQ.out.1
          have a2 : (T.age).seed = s.seed := HQ.out.2.1
          clear r0 r1 r2 r3 r4 f0 f1 f2 f3 f4 hcut
          have r0 := hres.cell 0
          have r1 := hres.cell 1
          have r2 := hres.cell 2
          have r3 := hres.cell 3
          have r4 := hres.cell 4
          have f0 := hres.free 0
          have f1 := hres.free 1
          have f2 := hres.free 2
          have f3 := hres.free 3
          have f4 := hres.free 4
          simp only [List.getElem?_toArray, List.getElem?_cons_zero, List.getElem?_cons_succ] at r0 r1 r2 r3 r4
          have hRF := fill5_ref hN2 (B := w.heap.size + 1) (by have := hA2.hR; omega) (fun i hi => by have := hA2.hG i hi; omega) (by have := hA2.hD; omega) (.int .i64 (T.age.wide : Int)) (.int .u64 (T.age.seed : Int)) (.slice (some ⟨R2, 0, none⟩) 4 cap2) (.slice (some ⟨D2, 0, none⟩) T.age.wide T.age.wide) (.int .i64 (T.age.added : Int))
          have hBF := fill5_below hbel (B := w.heap.size + 1) (by omega) (.int .i64 (T.age.wide : Int)) (.int .u64 (T.age.seed : Int)) (.slice (some ⟨R2, 0, none⟩) 4 cap2) (.slice (some ⟨D2, 0, none⟩) T.age.wide T.age.wide) (.int .i64 (T.age.added : Int))
          have hCF := fill5_blk hres (.int .i64 (T.age.wide : Int)) (.int .u64 (T.age.seed : Int)) (.slice (some ⟨R2, 0, none⟩) 4 cap2) (.slice (some ⟨D2, 0, none⟩) T.age.wide T.age.wide) (.int .i64 (T.age.added : Int))
          generalize hu : fill5 v6 (w.heap.size + 1) (.int .i64 (T.age.wide : Int)) (.int .u64 (T.age.seed : Int)) (.slice (some ⟨R2, 0, none⟩) 4 cap2) (.slice (some ⟨D2, 0, none⟩) T.age.wide T.age.wide) (.int .i64 (T.age.added : Int)) = u2 at hRF hBF hCF
          have HU2 := Lib.hid hu
          unfold fill5 at HU2
          clear hu a1 a2
          go_wp2_with fail
          rw [HU2.out]
          have p0 := hCF.cell 0
          have p1 := hCF.cell 1
          have p2 := hCF.cell 2
          have p3 := hCF.cell 3
          have p4 := hCF.cell 4
          simp only [List.getElem?_toArray, List.getElem?_cons_zero, List.getElem?_cons_succ] at p0 p1 p2 p3 p4
          refine bodyPost_ret (v := refV R2 cap2 D2 T.age) (by unfold refV; simp [results, Tryz.results60, go_sem, p0, p1, p2, p3, p4]) rfl ?_
          rw [HE.out.2 hlt]
          exact ⟨R2, cap2, D2, G2, rfl, hRF, hA2.low (by omega), hBF⟩
end Go.Proofs.YtgfpedcdclgmiaaGreat.Sketchy
