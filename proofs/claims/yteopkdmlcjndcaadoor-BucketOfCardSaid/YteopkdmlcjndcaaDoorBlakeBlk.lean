/- The contract of the document's own block of layer 4 (blake): what eight words come to behind sixteen words of a block. Nothing that was there turns. -/
import Derived.Test.YteopkdmlcjndcaaDoorBlakeRef
import Derived.Maps.AppendAt
import Derived.OwnWalk
import Derived.StillTailTactics
import Derived.Deep.QuietTactic
import Derived.BigQuiet
namespace Go.Proofs.YteopkdmlcjndcaaDoor.Wirey
open Go.ChangeShapes Go.WideShapes Go.ChangeAt Go.RowKit

theorem u32_info : (Tryd.prog.info? 57).map (fun i => (i.zero, i.size, i.bytes)) = some (some (.int .u32 0), 1, 4) := by kernel_rfl
theorem u32s_one (l : List Nat) : ∀ u ∈ u32s l, u.oneCell' = true := by
  intro u hu
  obtain ⟨n, _, rfl⟩ := List.mem_map.1 hu
  rfl
theorem Row.adds {w : World} {g : Nat} {vs : List Value} (h : Row w g vs) : ∀ j u, vs[j]? = some u → w.cell? ((⟨g, 0, none⟩ : Addr).add j) = some u := by
  intro j u hu
  have e : (⟨g, 0, none⟩ : Addr).add j = ⟨g, j, none⟩ := by unfold Addr.add; by_cases h : j = 0 <;> simp [h]
  rw [e]; exact h.cell j u hu
theorem Row.of_own {w : World} {base g n cap : Nat} {e : TypeId} {xs : List Value} (h : w.ownsRow base e 1 (.slice (some ⟨g, 0, none⟩) n cap) n xs) : Row w g xs ∧ base ≤ g := by
  have hl := h.1
  refine ⟨⟨(h.lt g rfl).2, fun i u hu => ?_, fun i _ => h.frozenAt i⟩, (h.lt g rfl).1⟩
  have hi : i < xs.length := by
    rcases Nat.lt_or_ge i xs.length with h | h
    · exact h
    · rw [List.getElem?_eq_none h] at hu; cases hu
  rw [h.cellAt i (by omega)]; exact hu
theorem own_is {w : World} {base n : Nat} {e : TypeId} {xs : List Value} {v : Value} (h : w.ownsRow base e 1 v n xs) (hn : 0 < n) : ∃ g cap, v = .slice (some ⟨g, 0, none⟩) n cap := by
  rcases h.2 with ⟨_, h0⟩ | ⟨g, cap, _, hv, _⟩
  · omega
  · exact ⟨g, cap, hv⟩
theorem own_below {w w' : World} {base n size : Nat} {e : TypeId} {xs : List Value} {v : Value} (h : w.ownsRow base e size v n xs) (hb : Below w.heap.size w w') : w'.ownsRow base e size v n xs :=
  h.kept (row := none) ⟨hb.os, hb.tape, hb.output, hb.size, fun k hk _ => hb.block k hk⟩ (by
    rcases h.2 with ⟨rfl, _⟩ | ⟨g, cap, _, rfl, _⟩
    · exact .inl rfl
    · exact .inr (by simp [Value.ownBlock]))
/-- The slices of the places. -/
def colS (C : Nat) : List Value := [.slice (some ⟨C, 0, none⟩) 4 4, .slice (some ⟨C + 1, 0, none⟩) 4 4, .slice (some ⟨C + 2, 0, none⟩) 4 4, .slice (some ⟨C + 3, 0, none⟩) 4 4, .slice (some ⟨C + 4, 0, none⟩) 4 4, .slice (some ⟨C + 5, 0, none⟩) 4 4, .slice (some ⟨C + 6, 0, none⟩) 4 4, .slice (some ⟨C + 7, 0, none⟩) 4 4]
theorem colS_at (C : Nat) {i : Nat} (h : i < 8) : (colS C)[i]? = some (.slice (some ⟨C + i, 0, none⟩) 4 4) := by
  rcases (by omega : i = 0 ∨ i = 1 ∨ i = 2 ∨ i = 3 ∨ i = 4 ∨ i = 5 ∨ i = 6 ∨ i = 7) with rfl | rfl | rfl | rfl | rfl | rfl | rfl | rfl <;> rfl
def i64s (l : List Nat) : List Value := l.map fun (n : Nat) => Value.int .i64 (n : Int)
theorem cols_at {i j : Nat} (hi : i < 8) (hj : j < 4) : (i64s (cols.getD i []))[j]? = some (.int .i64 (col i j : Int)) := by
  have h : ∀ i : Fin 8, ∀ j : Fin 4, (i64s (cols.getD i.val []))[j.val]? = some (.int .i64 (col i.val j.val : Int)) := by
    intro i j
    have hl : ∀ i : Fin 8, (cols.getD i.val []).length = 4 := by decide +kernel
    have := hl i
    unfold i64s col nat_
    rw [List.getElem?_map, List.getElem?_eq_getElem (by omega), List.getD_eq_getElem?_getD (i := j.val), List.getElem?_eq_getElem (by omega)]
    rfl
  exact h ⟨i, hi⟩ ⟨j, hj⟩
/-- A block under way: what is handed in, the places, the orders, and the sixteen words. -/
structure BS (w0 : World) (g gm g3 C go : Nat) (h m st : List Nat) (w : World) : Prop where
  hB : Below w0.heap.size w0 w
  hH : Row w g (u32s h)
  hM : Row w gm (u32s m)
  hV : Row w g3 (u32s st)
  hT : Row w (C + 8) (colS C)
  hC : ∀ i, i < 8 → Row w (C + i) (i64s (cols.getD i []))
  hO : Row w go (ordT.map fun l => Value.string (str l))
structure BN (w0 : World) (g gm g3 C go : Nat) : Prop where
  n1 : g ≠ g3
  n2 : gm ≠ g3
  n3 : g3 < C
  n4 : C < go
  n5 : w0.heap.size ≤ g3
theorem BS.put {w0 : World} {g gm g3 C go : Nat} {h m st : List Nat} {w : World} (k : BS w0 g gm g3 C go h m st w) (n : BN w0 g gm g3 C go) {i : Nat} (hi : i < st.length) (x : Nat) : BS w0 g gm g3 C go h m (st.set i x) (w.setCell ⟨g3, i, none⟩ (.int .u32 (x : Int))).drew := by
  have := n.n3
  have := n.n4
  exact ⟨(k.hB.setCell n.n5 _).drew, (k.hH.far n.n1 _).drew, (k.hM.far n.n2 _).drew, (k.hV.wput hi x).drew, (k.hT.far (by show C + 8 ≠ g3; omega) _).drew, fun j hj => ((k.hC j hj).far (by show C + j ≠ g3; omega) _).drew, (k.hO.far (by show go ≠ g3; omega) _).drew⟩
theorem BS.put0 {w0 : World} {g gm g3 C go : Nat} {h m st : List Nat} {w : World} (k : BS w0 g gm g3 C go h m st w) (n : BN w0 g gm g3 C go) {i : Nat} (hi : i < st.length) (x : Nat) : BS w0 g gm g3 C go h m (st.set i x) (w.setCell ⟨g3, i, none⟩ (.int .u32 (x : Int))) := by
  have := n.n3
  have := n.n4
  exact ⟨k.hB.setCell n.n5 _, k.hH.far n.n1 _, k.hM.far n.n2 _, k.hV.wput hi x, k.hT.far (by show C + 8 ≠ g3; omega) _, fun j hj => (k.hC j hj).far (by show C + j ≠ g3; omega) _, k.hO.far (by show go ≠ g3; omega) _⟩
theorem BS.draw {w0 : World} {g gm g3 C go : Nat} {h m st : List Nat} {w : World} (k : BS w0 g gm g3 C go h m st w) : BS w0 g gm g3 C go h m st w.drew :=
  ⟨k.hB.drew, k.hH.drew, k.hM.drew, k.hV.drew, k.hT.drew, fun j hj => (k.hC j hj).drew, k.hO.drew⟩
theorem BS.draws {w0 : World} {g gm g3 C go : Nat} {h m st : List Nat} {w : World} (k : BS w0 g gm g3 C go h m st w) (n : Nat) : BS w0 g gm g3 C go h m st (w.drewN n) :=
  ⟨⟨k.hB.os, k.hB.tape, k.hB.output, k.hB.size, k.hB.block⟩, k.hH.drewN n, k.hM.drewN n, k.hV.drewN n, k.hT.drewN n, fun j hj => (k.hC j hj).drewN n, k.hO.drewN n⟩
/-- The places as the call lays them. -/
def colW (w : World) : World := ((((((((w.alloc (.cells #[.int .i64 0, .int .i64 4, .int .i64 8, .int .i64 12] 3)).alloc (.cells #[.int .i64 1, .int .i64 5, .int .i64 9, .int .i64 13] 3)).alloc (.cells #[.int .i64 2, .int .i64 6, .int .i64 10, .int .i64 14] 3)).alloc (.cells #[.int .i64 3, .int .i64 7, .int .i64 11, .int .i64 15] 3)).alloc (.cells #[.int .i64 0, .int .i64 5, .int .i64 10, .int .i64 15] 3)).alloc (.cells #[.int .i64 1, .int .i64 6, .int .i64 11, .int .i64 12] 3)).alloc (.cells #[.int .i64 2, .int .i64 7, .int .i64 8, .int .i64 13] 3)).alloc (.cells #[.int .i64 3, .int .i64 4, .int .i64 9, .int .i64 14] 3))
def colX (w : World) : World := (colW w).alloc (.cells (colS w.heap.size).toArray 26)
theorem colW_size (w : World) : (colW w).heap.size = w.heap.size + 8 := by simp [colW]
theorem colX_below (w : World) : Below w.heap.size w (colX w) := by
  unfold colX colW
  exact ((((((((((Below.refl _ _).alloc (Nat.le_refl _) _).alloc (by simp only [World.size_alloc]; omega) _).alloc (by simp only [World.size_alloc]; omega) _).alloc (by simp only [World.size_alloc]; omega) _).alloc (by simp only [World.size_alloc]; omega) _).alloc (by simp only [World.size_alloc]; omega) _).alloc (by simp only [World.size_alloc]; omega) _).alloc (by simp only [World.size_alloc]; omega) _).alloc (by simp only [World.size_alloc]; omega) _)
theorem row_new {w : World} {n : Nat} (hn : w.heap.size = n) (t : TypeId) (cs : Array Value) : Row (w.alloc (.cells cs t)) n cs.toList := hn ▸ Row.of_blk (Blk.new w t cs)
theorem colX_rows (w : World) : Row (colX w) (w.heap.size + 8) (colS w.heap.size) ∧ ∀ i, i < 8 → Row (colX w) (w.heap.size + i) (i64s (cols.getD i [])) := by
  refine ⟨?_, fun i hi => ?_⟩
  · have := Row.of_blk (Blk.new (colW w) 26 (colS w.heap.size).toArray)
    rw [colW_size] at this
    exact this
  · unfold colX
    refine Row.alloc ?_ _
    unfold colW
    rcases (by omega : i = 0 ∨ i = 1 ∨ i = 2 ∨ i = 3 ∨ i = 4 ∨ i = 5 ∨ i = 6 ∨ i = 7) with rfl | rfl | rfl | rfl | rfl | rfl | rfl | rfl
    all_goals repeat (first | exact row_new (by simp) _ _ | refine Row.alloc ?_ _)
theorem ord_str {r : Nat} (h : r < 10) : (ordT.map fun l => Value.string (str l))[r]? = some (.string (str (ordS r))) := by
  have hl : ordT.length = 10 := rfl
  unfold ordS
  rw [List.getElem?_map, List.getElem?_eq_getElem (by omega), List.getD_eq_getElem?_getD, List.getElem?_eq_getElem (by omega)]; rfl
/-- A digit of an order. -/
def ordC (r k : Nat) : Nat := ((ordS r).getD k 0).toNat
theorem ord_index {r k : Nat} (hr : r < 10) (hk : k < 16) (x : Int) (hx : x = (k : Int)) (w : World) :
    (Instr.index 9 (.string (str (ordS r))) (.int .i64 x)).run Tryd.prog w = .ok (.int .u8 (ordC r k : Int)) w := by
  have hl := (ordS_facts hr).1
  subst hx
  have hs : (str (ordS r)).size = 16 := by rw [str_size]; exact hl
  rw [run_index_string (P := Tryd.prog) (w := w) 9 _ _ _ Tryd.underlying9, dif_pos ⟨by omega, by omega⟩]
  have e : (ordS r).getD k 0 = (str (ordS r))[k]'(by omega) := by
    rw [List.getD_eq_getElem?_getD, List.getElem?_eq_getElem (by omega)]; rfl
  unfold ordC
  rw [e]
  rfl
theorem addE (a b x : Nat) : ((a : Int) + ((b : Int) + (x : Int))) % 4294967296 = (((a + b + x) % 4294967296 : Nat) : Int) := by omega
theorem addF (a b : Nat) : ((a : Int) + (b : Int)) % 4294967296 = (((a + b + 0) % 4294967296 : Nat) : Int) := by omega
/-- Both rows put together, in new memory. -/
def Both (h : List Nat) (w : World) (v : Value) (w' : World) : Prop := ∃ g cap, v = .slice (some ⟨g, 0, none⟩) 16 cap ∧ w.heap.size ≤ g ∧ Row w' g (u32s (h ++ ivs)) ∧ Below w.heap.size w w'

/-- What a block comes to: eight words, in new memory. -/
def BlkEnd (h m : List Nat) (many : Nat) (last : Bool) (w : World) (e : Ending) (w' : World) : Prop :=
  ∃ g', e = .returned (sl g' 8) ∧ w.heap.size ≤ g' ∧ Row w' g' (u32s (blk h m many last)) ∧ Below w.heap.size w w'
theorem outs_set (h V : List Nat) {k : Nat} (hk : k < 8) : (outs h V k ++ List.replicate (8 - k) 0).set k (nat_ h k ^^^ nat_ V k ^^^ nat_ V (k + 8)) = outs h V (k + 1) ++ List.replicate (8 - (k + 1)) 0 := by
  obtain ⟨j, hj⟩ : ∃ j, 8 - k = j + 1 := ⟨7 - k, by omega⟩
  have hj2 : 8 - (k + 1) = j := by omega
  have hl := outs_len h V k
  rw [hj, hj2, List.set_append, if_neg (by omega), hl, Nat.sub_self, List.replicate_succ]
  show _ = (outs h V k ++ [_]) ++ _
  simp
end Go.Proofs.YteopkdmlcjndcaaDoor.Wirey
