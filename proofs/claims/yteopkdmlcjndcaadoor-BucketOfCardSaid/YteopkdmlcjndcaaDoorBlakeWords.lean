/- Contract of layer 4's program (blake): a block's words out of at most 64 bytes, by value. No condition. -/
import Derived.Test.YteopkdmlcjndcaaDoorBlakeArr
import Derived.Test.YteopkdmlcjndcaaDoorBlakeIn
namespace Go.Proofs.YteopkdmlcjndcaaDoor.Wirey
open Go.ChangeShapes Go.WideShapes Go.ChangeAt Go.RowKit

theorem copy_padt (t : TypeId) {d : List UInt8} (hd : d.length ≤ 64) (w : World) :
    ∃ wp, (Builtin.copy_ #[37, 9] 3 #[.slice (some ⟨w.heap.size, 0, none⟩) 64 64, .string (str d)]).run Tryd.prog (w.alloc (.cells (noughts 64) t)) = .ok (.int .i64 (d.length : Int)) wp ∧ Row wp w.heap.size (u8s (pad d)) ∧ Below w.heap.size w wp := by
  have hnew : (w.alloc (.cells (noughts 64) t)).heap[w.heap.size]? = some (.cells (noughts 64) t (0, 0)) := heap_alloc_new w _
  have hsz : (noughts 64).size = 64 := by simp [noughts, u8s]
  have h := Lib.run_copy_row_string (P := Tryd.prog) (w.alloc (.cells (noughts 64) t)) 37 9 3 5 w.heap.size 0 64 64 (str d) (noughts 64) t Tryd.underlying37 u8_size hnew (by rw [str_size]; exact hd) (by rw [hsz, str_size]; omega)
  rw [str_size] at h
  refine ⟨_, h, ?_, below_setRow ((Below.refl _ _).alloc (Nat.le_refl _) _) (Nat.le_refl _) _⟩
  have hb := setRow_heap _ _ _ ((noughts 64).toList.take 0 ++ Lib.byteCells (str d).data.toList ++ (noughts 64).toList.drop (0 + d.length)).toArray _ _ hnew
  have := Row.of_blk hb
  have e : ((noughts 64).toList.take 0 ++ Lib.byteCells (str d).data.toList ++ (noughts 64).toList.drop (0 + d.length)).toArray.toList = u8s (pad d) := by
    rw [List.take_zero, List.nil_append, Nat.zero_add]
    rw [noughts_list, List.drop_replicate]
    unfold pad u8s str Lib.byteCells
    rw [List.map_append, List.map_replicate]
    rfl
  rw [e] at this
  exact this
def z16 : Array Value := (u32s (List.replicate 16 0)).toArray
def z8 : Array Value := (u32s (List.replicate 8 0)).toArray
/-- A byte is laid into a word by or, above what is there. -/
theorem wacc_bits {p : List Nat} (h : ∀ i, nat_ p i < 256) {i j : Nat} (hi : i < 16) (hj : j < 4) :
    bits BinOp.or IntKind.u32 (nat_ (wacc p (i * 4 + j)) i : Int) ((nat_ p (i * 4 + j) : Int) % 4294967296 * 2 ^ (8 * j) % 4294967296) = ((nat_ (wacc p (i * 4 + j)) i + nat_ p (i * 4 + j) * 256 ^ j : Nat) : Int) := by
  have e1 : (i * 4 + j) / 4 = i := by omega
  have e2 : (i * 4 + j) % 4 = j := by omega
  have h1 := wacc_or h (k := i * 4 + j) (by omega)
  have h2 := wacc_step h (k := i * 4 + j) (by omega)
  rw [e1, e2] at h1 h2
  have hb := h (i * 4 + j)
  generalize nat_ (wacc p (i * 4 + j)) i = a at h1 h2 ⊢
  generalize nat_ p (i * 4 + j) = c at h1 h2 hb ⊢
  have e : (c : Int) % 4294967296 * 2 ^ (8 * j) % 4294967296 = ((c * 256 ^ j : Nat) : Int) := by
    have e3 : (c : Int) * 2 ^ (8 * j) = ((c * 256 ^ j : Nat) : Int) := by
      rw [show (256 : Nat) = 2 ^ 8 from rfl, ← Nat.pow_mul]; simp
    rw [show (c : Int) % 4294967296 = (c : Int) by omega, e3]
    omega
  rw [e, u32_or_nat a (c * 256 ^ j) (by omega) (by omega), h1]
theorem arr_put {w : World} {g : Nat} {t : TypeId} {l : List Nat} (h : Blk w g t (u32s l).toArray) (i x : Nat) : Blk (w.setCell ⟨g, i, none⟩ (.int .u32 (x : Int))) g t (u32s (l.set i x)).toArray := by
  have := h.put i (.int .u32 (x : Int))
  rw [List.setIfInBounds_toArray, u32s_set] at this
  exact this
theorem Blk.drew {w : World} {g : Nat} {t : TypeId} {cs : Array Value} (h : Blk w g t cs) : Blk w.drew g t cs := h
theorem arr_load {w : World} {g : Nat} {l : List Nat} (h : Row w g (u32s l)) {n : Nat} (hn : l.length = n) : (loadCellsFrom ⟨g, 0, none⟩ 0 n #[]).run Tryd.prog w = .ok (u32s l).toArray w := by
  have := run_loadCells_list (P := Tryd.prog) w ⟨g, 0, none⟩ (u32s l) (fun j v hv => h.adds j v hv)
  rw [u32s_len, hn] at this
  exact this
theorem info8 : (Tryd.prog.info? 58).map (·.size) = some 8 := by kernel_rfl
theorem info16 : (Tryd.prog.info? 60).map (·.size) = some 16 := by kernel_rfl
theorem under8 : Tryd.prog.underlying 58 = some (.array 8 57) := by kernel_rfl
theorem under16 : Tryd.prog.underlying 60 = some (.array 16 57) := by kernel_rfl
/-- A row of cells, in block g from its head on, of which nothing is said but what it holds. -/
structure Seen (w : World) (g : Nat) (vs : List Value) : Prop where
  lt : g < w.heap.size
  cell : ∀ i u, vs[i]? = some u → w.cell? ⟨g, i, none⟩ = some u
theorem Row.seen {w : World} {g : Nat} {vs : List Value} (h : Row w g vs) : Seen w g vs := ⟨h.lt, h.cell⟩
theorem Seen.drew {w : World} {g : Nat} {vs : List Value} (h : Seen w g vs) : Seen w.drew g vs := ⟨h.lt, h.cell⟩
theorem Seen.below {w w' : World} {B g : Nat} {vs : List Value} (h : Seen w g vs) (hb : Below B w w') (hg : g < B) : Seen w' g vs :=
  ⟨Nat.lt_of_lt_of_le h.lt hb.size, fun i u hu => (World.cell?_of_block (hb.block g hg)).trans (h.cell i u hu)⟩
theorem Seen.adds {w : World} {g : Nat} {vs : List Value} (h : Seen w g vs) : ∀ j u, vs[j]? = some u → w.cell? ((⟨g, 0, none⟩ : Addr).add j) = some u := by
  intro j u hu
  have e : (⟨g, 0, none⟩ : Addr).add j = ⟨g, j, none⟩ := by unfold Addr.add; by_cases h : j = 0 <;> simp [h]
  rw [e]; exact h.cell j u hu
/-- A whole array out of a row of cells. -/
theorem load_arr {w : World} {g : Nat} {vs : List Value} (ty : TypeId) (n : Nat) (e : TypeId) (h : Seen w g vs) (hu : Tryd.prog.underlying ty = some (.array n e)) (hi : (Tryd.prog.info? ty).map (·.size) = some vs.length) :
    (loadVar ty ⟨g, 0, none⟩).run Tryd.prog w = .ok (.agg vs.toArray) w := by
  have hl := run_loadCells_list (P := Tryd.prog) w ⟨g, 0, none⟩ vs (fun j v hv => h.adds j v hv)
  cases hq : Tryd.prog.info? ty with
  | none => simp [hq] at hi
  | some i =>
    have hs : i.size = vs.length := by simpa [hq] using hi
    have hagg : (isAgg ty).run Tryd.prog w = .ok true w := by
      unfold isAgg
      rw [Sem.run_bind, run_underlying hu w]
      rfl
    simp [loadVar, Sem.run_bind, hagg, sizeOf, typeInfo, hq, hs, hl]
theorem wpList_load_seen {ops : Array Oper} {rest : List Oper} {o : Oper} {a : Act} {w : World} {Q : Exit → Act → World → Prop} (hgd : o.guard = none) (ty : TypeId) (x : Operand) (ho : o.op = .load ty x)
    (g : Nat) (hx : a.eval x = .pointer (some ⟨g, 0, none⟩)) (vs : List Value) (n : Nat) (e : TypeId) (hg : Seen w g vs) (hu : Tryd.prog.underlying ty = some (.array n e)) (hi : (Tryd.prog.info? ty).map (·.size) = some vs.length)
    (h : wpList Tryd.prog ops Q rest (a.put o.dst (.agg vs.toArray)) w) : wpList Tryd.prog ops Q (o :: rest) a w :=
  wpList_plain hgd fun _ hK => by
    unfold Oper.wp execOp
    simp only [ho, hx, Instr.loadAt, Instr.sureAddr, Sem.run_bind, Sem.run_pure, Result.andThen_ok, load_arr ty n e hg hu hi]
    exact hK _ _ h
theorem wpList_load_arr {ops : Array Oper} {rest : List Oper} {o : Oper} {a : Act} {w : World} {Q : Exit → Act → World → Prop} (hgd : o.guard = none) (ty : TypeId) (x : Operand) (ho : o.op = .load ty x)
    (g : Nat) (hx : a.eval x = .pointer (some ⟨g, 0, none⟩)) (vs : List Value) (n : Nat) (e : TypeId) (hg : Row w g vs) (hu : Tryd.prog.underlying ty = some (.array n e)) (hi : (Tryd.prog.info? ty).map (·.size) = some vs.length)
    (h : wpList Tryd.prog ops Q rest (a.put o.dst (.agg vs.toArray)) w) : wpList Tryd.prog ops Q (o :: rest) a w :=
  wpList_load_seen hgd ty x ho g hx vs n e hg.seen hu hi h
theorem store_arr {w : World} {g : Nat} {t : TypeId} {old : Array Value} {l : List Nat} (h : Blk w g t old) (ho : old.size = l.length) : (storeCells ⟨g, 0, none⟩ (u32s l) 0).run Tryd.prog w = .ok () (w.setRow g (u32s l).toArray) := by
  have := run_storeCells_from (P := Tryd.prog) g t (u32s l) 0 old w h (by rw [u32s_len]; omega) (u32s_one l)
  rw [List.take_zero, List.nil_append] at this
  exact this
theorem Blk.set_ {w : World} {g : Nat} {t : TypeId} {old cs : Array Value} (h : Blk w g t old) : Blk (w.setRow g cs) g t cs := setRow_heap w g old cs t (0, 0) h
theorem Row.far_ {w : World} {g g' : Nat} {vs : List Value} (h : Row w g vs) (hne : g ≠ g') (cs : Array Value) : Row (w.setRow g' cs) g vs := h.of_block (by simp) (setRow_other w g' g cs hne)
theorem Blk.far_ {w : World} {g g' : Nat} {t : TypeId} {vs : Array Value} (h : Blk w g t vs) (hne : g ≠ g') (cs : Array Value) : Blk (w.setRow g' cs) g t vs := (setRow_other w g' g cs hne).trans h
set_option maxHeartbeats 4000000 in
set_option maxRecDepth 100000 in
theorem blockP_c {d : List UInt8} (hd : d.length ≤ 64) (w : World) :
    Calls Tryd.prog 31 #[.string (str d)] w fun e w' => e = .returned (.agg (u32s (wds (nums (pad d)))).toArray) ∧ Below w.heap.size w w' := by
  go_enter Tryd.func31, Tryd.ntmps31
  go_upto_region 1 with fail
  change Code.wp _ _ _ _ (w.alloc (.cells z16 60))
  have hR := Blk.new w 60 z16
  have hW := (Below.refl w.heap.size w).alloc (Nat.le_refl _) (.cells z16 60)
  have hs : (w.alloc (.cells z16 60)).heap.size = w.heap.size + 1 := World.size_alloc ..
  generalize w.alloc (.cells z16 60) = w1 at hR hW hs ⊢
  obtain ⟨wp, hrun, hP, hbp⟩ := copy_padt 75 hd w1
  rw [hs] at hrun hP
  have HR := Lib.hid hrun
  go_upto_region 2 with fail
  change Code.wp _ _ _ _ (w1.alloc (.cells (noughts 64) 75))
  have hrun2 := HR.out
  go_upto_region 3 with fail
  have hR2 := hR.below hbp hR.lt
  have hW2 := hW.trans (hbp.mono hW.size)
  have hPl := hP.lt
  clear hrun hrun2 HR hbp hR hW hs
  generalize wp = w2 at hP hR2 hW2 hPl ⊢
  go_upto_region 4 with fail
  change Code.wp _ _ _ _ (w2.alloc (.cells z16 60))
  have hM := Blk.new w2 60 z16
  have hP := hP.alloc (.cells z16 60)
  have hR := hR2.alloc (.cells z16 60)
  have hW := hW2.alloc hW2.size (.cells z16 60)
  have hg2 : w.heap.size + 1 < w2.heap.size := hPl
  clear hR2 hW2 hPl
  obtain ⟨g, hg⟩ : ∃ g, g = w2.heap.size := ⟨_, rfl⟩
  rw [← hg] at hM hg2 ⊢
  generalize w2.alloc (.cells z16 60) = w3 at hM hP hR hW ⊢
  clear hg
  have hpl : (nums (pad d)).length = 64 := by rw [nums_len]; exact pad_len hd
  have hpb := nums_lt (pad d)
  have hp64 := pad_len hd
  change Blk w3 g 60 (u32s (wacc (nums (pad d)) 0)).toArray at hM
  obtain ⟨p, hp⟩ : ∃ p, p = pad d := ⟨_, rfl⟩
  rw [← hp] at hM hP hpl hpb hp64
  have HPD := Lib.hid hp
  clear hp
  go_upto_region 5 with fail
  go_loopw [10] (fun iv wr => ∃ i : Nat, i ≤ 16 ∧ iv = .int .i64 i ∧ Blk wr g 60 (u32s (wacc (nums p) (i * 4))).toArray ∧ Row wr (w.heap.size + 1) (u8s p) ∧ Blk wr w.heap.size 60 z16 ∧ Below w.heap.size w wr) (fun iv _ => 16 - (intOf iv).toNat)
  case atStart => exact ⟨0, by omega, rfl, hM, hP, hR, hW⟩
  case round =>
    clear hM hP hR hW
    obtain ⟨i, hi, rfl, hM, hP, hR, hW⟩ := hrel
    by_cases hilt : i < 16
    · have hrd : decide ((i : Int) < 16) = true := by rw [decide_eq_true_eq]; omega
      go_wp2_with fail
      go_loopw [13] (fun jv wr => ∃ j : Nat, j ≤ 4 ∧ jv = .int .i64 j ∧ Blk wr g 60 (u32s (wacc (nums p) (i * 4 + j))).toArray ∧ Row wr (w.heap.size + 1) (u8s p) ∧ Blk wr w.heap.size 60 z16 ∧ Below w.heap.size w wr) (fun jv _ => 4 - (intOf jv).toNat)
      case atStart => exact ⟨0, by omega, rfl, hM, hP, hR, hW⟩
      case round =>
        clear hM hP hR hW
        obtain ⟨j, hj, rfl, hM, hP, hR, hW⟩ := hrel
        by_cases hjlt : j < 4
        · have hrow : Row wr g (u32s (wacc (nums p) (i * 4 + j))) := Row.blk hM
          have c1 := hrow.word (i := i) (by rw [wacc_len]; exact hilt)
          have f1 := hrow.wfree (i := i) (by rw [wacc_len]; exact hilt)
          have c2 := hP.cell (i * 4 + j) _ (u8s_at (by omega))
          go_wp2_with fail
          go_region
          rw [wacc_bits hpb hilt hjlt]
          have hM2 := (arr_put hM i (nat_ (wacc (nums p) (i * 4 + j)) i + nat_ (nums p) (i * 4 + j) * 256 ^ j)).drew
          have hP2 := (hP.far (p := ⟨g, i, none⟩) (by show w.heap.size + 1 ≠ g; omega) (.int .u32 ((nat_ (wacc (nums p) (i * 4 + j)) i + nat_ (nums p) (i * 4 + j) * 256 ^ j : Nat) : Int))).drew
          have hR2 := (hR.far (p := ⟨g, i, none⟩) (by show w.heap.size ≠ g; omega) (.int .u32 ((nat_ (wacc (nums p) (i * 4 + j)) i + nat_ (nums p) (i * 4 + j) * 256 ^ j : Nat) : Int))).drew
          have hW2 := (hW.setCell (p := ⟨g, i, none⟩) (by show w.heap.size ≤ g; omega) (.int .u32 ((nat_ (wacc (nums p) (i * 4 + j)) i + nat_ (nums p) (i * 4 + j) * 256 ^ j : Nat) : Int))).drew
          have hw : (wacc (nums p) (i * 4 + j)).set i (nat_ (wacc (nums p) (i * 4 + j)) i + nat_ (nums p) (i * 4 + j) * 256 ^ j) = wacc (nums p) (i * 4 + (j + 1)) := by
            show _ = (wacc (nums p) (i * 4 + j)).set ((i * 4 + j) / 4) (nat_ (wacc (nums p) (i * 4 + j)) ((i * 4 + j) / 4) + nat_ (nums p) (i * 4 + j) * 256 ^ ((i * 4 + j) % 4))
            rw [show (i * 4 + j) / 4 = i by omega, show (i * 4 + j) % 4 = j by omega]
          rw [hw] at hM2
          clear hM hP hR hW hw hrow c1 c2 f1
          generalize (World.setCell wr ⟨g, i, none⟩ (.int .u32 ((nat_ (wacc (nums p) (i * 4 + j)) i + nat_ (nums p) (i * 4 + j) * 256 ^ j : Nat) : Int))).drew = wn at hM2 hP2 hR2 hW2 ⊢
          go_wp2_with fail
          go_roundw
          case rel => first | exact ⟨j + 1, by omega, by go_num, hM2, hP2, hR2, hW2⟩ | ((repeat apply Exists.intro); refine ⟨⟨j + 1, by omega, ?_, hM2, hP2, hR2, hW2⟩, rfl⟩; go_num)
          case measure => simp [intOf]; omega
        · obtain rfl : j = 4 := by omega
          rw [show i * 4 + 4 = (i + 1) * 4 by omega] at hM
          go_wp2_with fail
          go_roundw
          case rel => first | exact ⟨i + 1, by omega, by go_num, hM, hP, hR, hW⟩ | ((repeat apply Exists.intro); refine ⟨⟨i + 1, by omega, ?_, hM, hP, hR, hW⟩, rfl⟩; go_num)
          case measure => simp [intOf]; omega
    · obtain rfl : i = 16 := by omega
      rw [show 16 * 4 = 64 from rfl, wacc_all] at hM
      have hrow : Row wr g (u32s (wds (nums p))) := Row.blk hM
      have hst := store_arr hR (l := wds (nums p)) (by rw [wds_len]; rfl)
      go_wp2_with (refine wpList_load_arr rfl 60 (.tmp 4) rfl g rfl (u32s (wds (nums p))) 16 57 hrow under16 (by rw [info16, u32s_len, wds_len]) ?_)
      refine bodyPost_ret (results_cell_row rfl _ _ w.heap.size 60 (u32s (wds (nums p))).toArray (0, 0) (.array 16 57) rfl hR.set_ under16 rfl (by rw [info16, List.size_toArray, u32s_len, wds_len])) rfl ?_
      rw [← HPD.out]
      exact ⟨rfl, below_setRow hW (Nat.le_refl _) _⟩
end Go.Proofs.YteopkdmlcjndcaaDoor.Wirey
