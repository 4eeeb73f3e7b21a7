/- The contract of the document's own block of layer 4 (blake): what eight words come to behind sixteen words of a block. Nothing that was there turns. -/
import Derived.Test.YtccaomaobokldaaDoorBlakeRef
import Derived.Maps.AppendAt
import Derived.OwnWalk
import Derived.StillTailTactics
import Derived.Deep.QuietTactic
import Derived.BigQuiet
namespace Go.Proofs.YtccaomaobokldaaDoor.Wirey
open Go.ChangeShapes Go.WideShapes Go.ChangeAt Go.RowKit

theorem u32_info : (Tryd.prog.info? 55).map (fun i => (i.zero, i.size, i.bytes)) = some (some (.int .u32 0), 1, 4) := by kernel_rfl
theorem u32s_one (l : List Nat) : ∀ u ∈ u32s l, u.oneCell' = true := by
  intro u hu
  obtain ⟨n, _, rfl⟩ := List.mem_map.1 hu
  rfl
theorem Row.adds {w : World} {g : Nat} {vs : List Value} (h : Row w g vs) : ∀ j u, vs[j]? = some u → w.cell? ((⟨g, 0, none⟩ : Addr).add j) = some u := by
  intro j u hu
  have e : (⟨g, 0, none⟩ : Addr).add j = ⟨g, j, none⟩ := by unfold Addr.add; by_cases h : j = 0 <;> simp [h]
  rw [e]; exact h.cell j u hu
theorem Row.of_own {w : World} {base g n cap : Nat} {e : TypeId} {xs : List Value} (h : w.ownsRow base e 1 (.slice (some ⟨g, 0, none⟩) n cap) n xs) : Row w g xs ∧ base ≤ g := by
  have hl := h.1
  refine ⟨⟨(h.lt g rfl).2, fun i u hu => ?_, fun i _ => h.frozenAt i⟩, (h.lt g rfl).1⟩
  have hi : i < xs.length := by
    rcases Nat.lt_or_ge i xs.length with h | h
    · exact h
    · rw [List.getElem?_eq_none h] at hu; cases hu
  rw [h.cellAt i (by omega)]; exact hu
theorem own_is {w : World} {base n : Nat} {e : TypeId} {xs : List Value} {v : Value} (h : w.ownsRow base e 1 v n xs) (hn : 0 < n) : ∃ g cap, v = .slice (some ⟨g, 0, none⟩) n cap := by
  rcases h.2 with ⟨_, h0⟩ | ⟨g, cap, _, hv, _⟩
  · omega
  · exact ⟨g, cap, hv⟩
theorem own_below {w w' : World} {base n size : Nat} {e : TypeId} {xs : List Value} {v : Value} (h : w.ownsRow base e size v n xs) (hb : Below w.heap.size w w') : w'.ownsRow base e size v n xs :=
  h.kept (row := none) ⟨hb.os, hb.tape, hb.output, hb.size, fun k hk _ => hb.block k hk⟩ (by
    rcases h.2 with ⟨rfl, _⟩ | ⟨g, cap, _, rfl, _⟩
    · exact .inl rfl
    · exact .inr (by simp [Value.ownBlock]))
theorem turn_still (n k : Nat) (hn : n < 4294967296) (h1 : 1 ≤ k) (h2 : k ≤ 31) (w : World) :
    Calls Tryd.prog 33 #[.int .u32 (n : Int), .int .u64 (k : Int)] w fun e w' => e = .returned (.int .u32 (rot n k : Int)) ∧ w' = w :=
  (turn_c n k hn h1 h2 w).mono fun _ _ h => ⟨h.1, h.2.symm⟩
/-- The slices of the places. -/
def colS (C : Nat) : List Value := [.slice (some ⟨C, 0, none⟩) 4 4, .slice (some ⟨C + 1, 0, none⟩) 4 4, .slice (some ⟨C + 2, 0, none⟩) 4 4, .slice (some ⟨C + 3, 0, none⟩) 4 4, .slice (some ⟨C + 4, 0, none⟩) 4 4, .slice (some ⟨C + 5, 0, none⟩) 4 4, .slice (some ⟨C + 6, 0, none⟩) 4 4, .slice (some ⟨C + 7, 0, none⟩) 4 4]
theorem colS_at (C : Nat) {i : Nat} (h : i < 8) : (colS C)[i]? = some (.slice (some ⟨C + i, 0, none⟩) 4 4) := by
  rcases (by omega : i = 0 ∨ i = 1 ∨ i = 2 ∨ i = 3 ∨ i = 4 ∨ i = 5 ∨ i = 6 ∨ i = 7) with rfl | rfl | rfl | rfl | rfl | rfl | rfl | rfl <;> rfl
def i64s (l : List Nat) : List Value := l.map fun (n : Nat) => Value.int .i64 (n : Int)
theorem cols_at {i j : Nat} (hi : i < 8) (hj : j < 4) : (i64s (cols.getD i []))[j]? = some (.int .i64 (col i j : Int)) := by
  have h : ∀ i : Fin 8, ∀ j : Fin 4, (i64s (cols.getD i.val []))[j.val]? = some (.int .i64 (col i.val j.val : Int)) := by
    intro i j
    have hl : ∀ i : Fin 8, (cols.getD i.val []).length = 4 := by decide +kernel
    have := hl i
    unfold i64s col nat_
    rw [List.getElem?_map, List.getElem?_eq_getElem (by omega), List.getD_eq_getElem?_getD (i := j.val), List.getElem?_eq_getElem (by omega)]
    rfl
  exact h ⟨i, hi⟩ ⟨j, hj⟩
/-- A block under way: what is handed in, the places, the orders, and the sixteen words. -/
structure BS (w0 : World) (g gm g3 C go : Nat) (h m st : List Nat) (w : World) : Prop where
  hB : Below w0.heap.size w0 w
  hH : Row w g (u32s h)
  hM : Row w gm (u32s m)
  hV : Row w g3 (u32s st)
  hT : Row w (C + 8) (colS C)
  hC : ∀ i, i < 8 → Row w (C + i) (i64s (cols.getD i []))
  hO : Row w go (ordT.map fun l => Value.string (str l))
structure BN (w0 : World) (g gm g3 C go : Nat) : Prop where
  n1 : g ≠ g3
  n2 : gm ≠ g3
  n3 : g3 < C
  n4 : C < go
  n5 : w0.heap.size ≤ g3
theorem BS.put {w0 : World} {g gm g3 C go : Nat} {h m st : List Nat} {w : World} (k : BS w0 g gm g3 C go h m st w) (n : BN w0 g gm g3 C go) {i : Nat} (hi : i < st.length) (x : Nat) : BS w0 g gm g3 C go h m (st.set i x) (w.setCell ⟨g3, i, none⟩ (.int .u32 (x : Int))).drew := by
  have := n.n3
  have := n.n4
  exact ⟨(k.hB.setCell n.n5 _).drew, (k.hH.far n.n1 _).drew, (k.hM.far n.n2 _).drew, (k.hV.wput hi x).drew, (k.hT.far (by show C + 8 ≠ g3; omega) _).drew, fun j hj => ((k.hC j hj).far (by show C + j ≠ g3; omega) _).drew, (k.hO.far (by show go ≠ g3; omega) _).drew⟩
theorem BS.put0 {w0 : World} {g gm g3 C go : Nat} {h m st : List Nat} {w : World} (k : BS w0 g gm g3 C go h m st w) (n : BN w0 g gm g3 C go) {i : Nat} (hi : i < st.length) (x : Nat) : BS w0 g gm g3 C go h m (st.set i x) (w.setCell ⟨g3, i, none⟩ (.int .u32 (x : Int))) := by
  have := n.n3
  have := n.n4
  exact ⟨k.hB.setCell n.n5 _, k.hH.far n.n1 _, k.hM.far n.n2 _, k.hV.wput hi x, k.hT.far (by show C + 8 ≠ g3; omega) _, fun j hj => (k.hC j hj).far (by show C + j ≠ g3; omega) _, k.hO.far (by show go ≠ g3; omega) _⟩
theorem BS.draw {w0 : World} {g gm g3 C go : Nat} {h m st : List Nat} {w : World} (k : BS w0 g gm g3 C go h m st w) : BS w0 g gm g3 C go h m st w.drew :=
  ⟨k.hB.drew, k.hH.drew, k.hM.drew, k.hV.drew, k.hT.drew, fun j hj => (k.hC j hj).drew, k.hO.drew⟩
theorem BS.draws {w0 : World} {g gm g3 C go : Nat} {h m st : List Nat} {w : World} (k : BS w0 g gm g3 C go h m st w) (n : Nat) : BS w0 g gm g3 C go h m st (w.drewN n) :=
  ⟨⟨k.hB.os, k.hB.tape, k.hB.output, k.hB.size, k.hB.block⟩, k.hH.drewN n, k.hM.drewN n, k.hV.drewN n, k.hT.drewN n, fun j hj => (k.hC j hj).drewN n, k.hO.drewN n⟩
/-- The places as the call lays them. -/
def colW (w : World) : World := ((((((((w.alloc (.cells #[.int .i64 0, .int .i64 4, .int .i64 8, .int .i64 12] 3)).alloc (.cells #[.int .i64 1, .int .i64 5, .int .i64 9, .int .i64 13] 3)).alloc (.cells #[.int .i64 2, .int .i64 6, .int .i64 10, .int .i64 14] 3)).alloc (.cells #[.int .i64 3, .int .i64 7, .int .i64 11, .int .i64 15] 3)).alloc (.cells #[.int .i64 0, .int .i64 5, .int .i64 10, .int .i64 15] 3)).alloc (.cells #[.int .i64 1, .int .i64 6, .int .i64 11, .int .i64 12] 3)).alloc (.cells #[.int .i64 2, .int .i64 7, .int .i64 8, .int .i64 13] 3)).alloc (.cells #[.int .i64 3, .int .i64 4, .int .i64 9, .int .i64 14] 3))
def colX (w : World) : World := (colW w).alloc (.cells (colS w.heap.size).toArray 22)
theorem colW_size (w : World) : (colW w).heap.size = w.heap.size + 8 := by simp [colW]
theorem colX_below (w : World) : Below w.heap.size w (colX w) := by
  unfold colX colW
  exact ((((((((((Below.refl _ _).alloc (Nat.le_refl _) _).alloc (by simp only [World.size_alloc]; omega) _).alloc (by simp only [World.size_alloc]; omega) _).alloc (by simp only [World.size_alloc]; omega) _).alloc (by simp only [World.size_alloc]; omega) _).alloc (by simp only [World.size_alloc]; omega) _).alloc (by simp only [World.size_alloc]; omega) _).alloc (by simp only [World.size_alloc]; omega) _).alloc (by simp only [World.size_alloc]; omega) _)
theorem row_new {w : World} {n : Nat} (hn : w.heap.size = n) (t : TypeId) (cs : Array Value) : Row (w.alloc (.cells cs t)) n cs.toList := hn ▸ Row.of_blk (Blk.new w t cs)
theorem colX_rows (w : World) : Row (colX w) (w.heap.size + 8) (colS w.heap.size) ∧ ∀ i, i < 8 → Row (colX w) (w.heap.size + i) (i64s (cols.getD i [])) := by
  refine ⟨?_, fun i hi => ?_⟩
  · have := Row.of_blk (Blk.new (colW w) 22 (colS w.heap.size).toArray)
    rw [colW_size] at this
    exact this
  · unfold colX
    refine Row.alloc ?_ _
    unfold colW
    rcases (by omega : i = 0 ∨ i = 1 ∨ i = 2 ∨ i = 3 ∨ i = 4 ∨ i = 5 ∨ i = 6 ∨ i = 7) with rfl | rfl | rfl | rfl | rfl | rfl | rfl | rfl
    all_goals repeat (first | exact row_new (by simp) _ _ | refine Row.alloc ?_ _)
theorem ord_str {r : Nat} (h : r < 10) : (ordT.map fun l => Value.string (str l))[r]? = some (.string (str (ordS r))) := by
  have hl : ordT.length = 10 := rfl
  unfold ordS
  rw [List.getElem?_map, List.getElem?_eq_getElem (by omega), List.getD_eq_getElem?_getD, List.getElem?_eq_getElem (by omega)]; rfl
/-- A digit of an order. -/
def ordC (r k : Nat) : Nat := ((ordS r).getD k 0).toNat
theorem digit_ord {r k : Nat} (hr : r < 10) (hk : k < 16) (w : World) :
    Calls Tryd.prog 32 #[.int .u8 (ordC r k : Int)] w fun e w' => e = .returned (.int .i64 (ord r k : Int)) ∧ w' = w := by
  obtain ⟨hl, hf⟩ := ordS_facts hr
  obtain ⟨h1, h2, h3⟩ := hf k hk
  rw [← h3]
  exact (digit_c _ h1 h2 (UInt8.toNat_lt _) w).mono fun _ _ h => ⟨h.1, h.2.symm⟩
theorem ord_index {r k : Nat} (hr : r < 10) (hk : k < 16) (x : Int) (hx : x = (k : Int)) (w : World) :
    (Instr.index 9 (.string (str (ordS r))) (.int .i64 x)).run Tryd.prog w = .ok (.int .u8 (ordC r k : Int)) w := by
  have hl := (ordS_facts hr).1
  subst hx
  have hs : (str (ordS r)).size = 16 := by rw [str_size]; exact hl
  rw [run_index_string (P := Tryd.prog) (w := w) 9 _ _ _ Tryd.underlying9, dif_pos ⟨by omega, by omega⟩]
  have e : (ordS r).getD k 0 = (str (ordS r))[k]'(by omega) := by
    rw [List.getD_eq_getElem?_getD, List.getElem?_eq_getElem (by omega)]; rfl
  unfold ordC
  rw [e]
  rfl
theorem addE (a b x : Nat) : ((a : Int) + ((b : Int) + (x : Int))) % 4294967296 = (((a + b + x) % 4294967296 : Nat) : Int) := by omega
theorem addF (a b : Nat) : ((a : Int) + (b : Int)) % 4294967296 = (((a + b + 0) % 4294967296 : Nat) : Int) := by omega
/-- Both rows put together, in new memory. -/
def Both (h : List Nat) (w : World) (v : Value) (w' : World) : Prop := ∃ g cap, v = .slice (some ⟨g, 0, none⟩) 16 cap ∧ w.heap.size ≤ g ∧ Row w' g (u32s (h ++ ivs)) ∧ Below w.heap.size w w'

/-- What a block comes to: eight words, in new memory. -/
def BlkEnd (h m : List Nat) (many : Nat) (last : Bool) (w : World) (e : Ending) (w' : World) : Prop :=
  ∃ g', e = .returned (sl g' 8) ∧ w.heap.size ≤ g' ∧ Row w' g' (u32s (blk h m many last)) ∧ Below w.heap.size w w'
theorem outs_set (h V : List Nat) {k : Nat} (hk : k < 8) : (outs h V k ++ List.replicate (8 - k) 0).set k (nat_ h k ^^^ nat_ V k ^^^ nat_ V (k + 8)) = outs h V (k + 1) ++ List.replicate (8 - (k + 1)) 0 := by
  obtain ⟨j, hj⟩ : ∃ j, 8 - k = j + 1 := ⟨7 - k, by omega⟩
  have hj2 : 8 - (k + 1) = j := by omega
  have hl := outs_len h V k
  rw [hj, hj2, List.set_append, if_neg (by omega), hl, Nat.sub_self, List.replicate_succ]
  show _ = (outs h V k ++ [_]) ++ _
  simp
set_option maxHeartbeats 16000000 in
set_option maxRecDepth 100000 in
theorem block_c {g gm : Nat} {h m : List Nat} (hl : h.length = 8) (hlm : m.length = 16) (hwd : Wd h) (hwm : Wd m) (many : Nat) (hm : many < 18446744073709551616) (last : Bool) (w : World) (hH : Row w g (u32s h)) (hM : Row w gm (u32s m)) :
    Calls Tryd.prog 22 #[sl g 8, sl gm 16, .int .u64 (many : Int), .bool last] w (BlkEnd h m many last w) := by
  have hg := hH.lt
  have hgm := hM.lt
  obtain ⟨i0, hi, hz0, hz1, hz2⟩ := info_parts u32_info
  go_enter Tryd.func22, Tryd.ntmps22
  unfold sl
  have H1 : (w.alloc (.cells #[] 55)).ownsRow w.heap.size 55 1 (.slice (some ⟨w.heap.size, 0, none⟩) 0 0) 0 [] := World.ownsRow_made w #[] 0 (Nat.le_refl _) (by unfold maxLen; omega) rfl
  have HH := (hH.alloc (.cells #[] 55)).adds
  have hb0 : Below w.heap.size w (w.alloc (.cells #[] 55)) := (Below.refl _ _).alloc (Nat.le_refl _) _
  have hlu : (u32s h).length = 8 := by rw [u32s_len]; exact hl
  go_wp2_with (at_builtin; refine wpList_append_own _ rfl (.tmp 22) (.tmp 23) 53 rfl w.heap.size 55 i0 (.int .u32 0) 1 4 Tryd.underlying53 hi hz0 hz1 hz2 rfl (by decide) _ 0 [] rfl H1 ⟨g, 0, none⟩ 8 8 (u32s h) rfl (by rw [hlu]) HH (u32s_one h) (by unfold maxLen; omega) (by omega) (by simp) ?_; intro v1 w1 hown1 hgr1 _)
  have hgr1 : (w.alloc (.cells #[] 55)).grownBy w1 (some w.heap.size) := hgr1
  have hb1 : Below w.heap.size w w1 := hb0.grown hgr1 (by simp) (fun k e => by have := Option.some.inj e; omega)
  rw [List.nil_append, Nat.zero_add] at hown1
  clear H1 HH hb0 hgr1
  refine (begin_c _).mono ?_
  rintro e w2 ⟨rfl, hI, hb2⟩
  have hown2 := own_below hown1 hb2
  have hI' := hI.adds
  have hlt2 := hI.lt
  have hb2 := hb1.trans (hb2.mono hb1.size)
  clear hown1 hb1
  unfold sl
  go_upto_region 2 with (at_builtin; refine wpList_append_own _ rfl (.tmp 24) (.tmp 25) 53 rfl w.heap.size 55 i0 (.int .u32 0) 1 4 Tryd.underlying53 hi hz0 hz1 hz2 rfl (by decide) v1 8 (u32s h) rfl hown2 ⟨w1.heap.size, 0, none⟩ 8 8 (u32s ivs) rfl rfl hI' (u32s_one ivs) (by unfold maxLen; omega) (by omega) hb2.size ?_; intro v3 w3 hown3 hgr3 _)
  have hgr3 : w2.grownBy w3 v1.ownBlock := hgr3
  have hb3 : Below w.heap.size w w3 := hb2.grown hgr3 hb2.size (fun k e => (hown2.lt k e).1)
  have hown3 : w3.ownsRow w.heap.size 55 1 v3 16 (u32s h ++ u32s ivs) := hown3
  obtain ⟨g3, cap3, rfl⟩ := own_is hown3 (by omega)
  have hap : u32s h ++ u32s ivs = u32s (h ++ ivs) := by unfold u32s; rw [List.map_append]
  rw [hap] at hown3
  obtain ⟨hV, hg3⟩ := Row.of_own hown3
  have hH3 := hH.below hb3 hg
  have hM3 := hM.below hb3 hgm
  clear hown3 hap hgr3 hown2 hI hI' hlt2 hb2 hlu hi hz0 hz1 hz2 hH hM
  have hlv : (h ++ ivs).length = 16 := by simp [ivs, hl]
  have hwv := app_wd hwd
  have c12 := hV.word (i := 12) (by omega)
  have f12 := hV.wfree (i := 12) (by omega)
  have hx12 : bits .xor .u32 (nat_ (h ++ ivs) 12 : Int) ((many : Int) % 4294967296) = ((nat_ (h ++ ivs) 12 ^^^ many % 4294967296 : Nat) : Int) := by
    rw [← u32_xor_nat _ _ (nat_lt hwv 12) (Nat.mod_lt _ (by omega))]; simp
  have hV12 := Lib.hid (hV.wput (i := 12) (by omega) (nat_ (h ++ ivs) 12 ^^^ many % 4294967296))
  go_upto_region 3 with fail
  have hb4 := hb3.setCell (p := ⟨g3, 12, none⟩) hg3 (.int .u32 ((nat_ (h ++ ivs) 12 ^^^ many % 4294967296 : Nat) : Int))
  have hH4 := hH3.far (p := ⟨g3, 12, none⟩) (by show g ≠ g3; omega) (.int .u32 ((nat_ (h ++ ivs) 12 ^^^ many % 4294967296 : Nat) : Int))
  have hM4 := hM3.far (p := ⟨g3, 12, none⟩) (by show gm ≠ g3; omega) (.int .u32 ((nat_ (h ++ ivs) 12 ^^^ many % 4294967296 : Nat) : Int))
  have hV4 : Row (w3.setCell ⟨g3, 12, none⟩ (.int .u32 ((nat_ (h ++ ivs) 12 ^^^ many % 4294967296 : Nat) : Int))) g3 (u32s (s12 h many)) := hV12.out
  generalize w3.setCell ⟨g3, 12, none⟩ (.int .u32 ((nat_ (h ++ ivs) 12 ^^^ many % 4294967296 : Nat) : Int)) = w4 at hb4 hH4 hM4 hV4 ⊢
  clear hb3 hH3 hM3 hV hV12 c12 f12 hx12
  have hl12 : (s12 h many).length = 16 := by unfold s12; rw [List.length_set]; exact hlv
  have hw12 := s12_wd (many := many) hwd
  have c13 := hV4.word (i := 13) (by omega)
  have f13 := hV4.wfree (i := 13) (by omega)
  have hx13 : bits .xor .u32 (nat_ (s12 h many) 13 : Int) ((many : Int) / 4294967296) = ((nat_ (s12 h many) 13 ^^^ many / 4294967296 : Nat) : Int) := by
    rw [← u32_xor_nat _ _ (nat_lt hw12 13) (by omega)]; simp
  have hV13 := Lib.hid (hV4.wput (i := 13) (by omega) (nat_ (s12 h many) 13 ^^^ many / 4294967296))
  go_upto_if 43 with fail
  have hb5 := hb4.setCell (p := ⟨g3, 13, none⟩) hg3 (.int .u32 ((nat_ (s12 h many) 13 ^^^ many / 4294967296 : Nat) : Int))
  have hH5 := hH4.far (p := ⟨g3, 13, none⟩) (by show g ≠ g3; omega) (.int .u32 ((nat_ (s12 h many) 13 ^^^ many / 4294967296 : Nat) : Int))
  have hM5 := hM4.far (p := ⟨g3, 13, none⟩) (by show gm ≠ g3; omega) (.int .u32 ((nat_ (s12 h many) 13 ^^^ many / 4294967296 : Nat) : Int))
  have hV5 : Row (w4.setCell ⟨g3, 13, none⟩ (.int .u32 ((nat_ (s12 h many) 13 ^^^ many / 4294967296 : Nat) : Int))) g3 (u32s (s13 h many)) := hV13.out
  generalize w4.setCell ⟨g3, 13, none⟩ (.int .u32 ((nat_ (s12 h many) 13 ^^^ many / 4294967296 : Nat) : Int)) = w5 at hb5 hH5 hM5 hV5 ⊢
  clear hb4 hH4 hM4 hV4 hV13 c13 f13 hx13
  go_cut [9] from 44 to 49 (fun s9 wc => s9 = .slice (some ⟨g3, 0, none⟩) 16 cap3 ∧ Row wc g (u32s h) ∧ Row wc gm (u32s m) ∧ Row wc g3 (u32s (s14 h many last)) ∧ Below w.heap.size w wc)
  case first =>
    cases last
    · go_wp2_with fail
      go_meet
      exact ⟨rfl, hH5, hM5, hV5, hb5⟩
    · have hl13 : (s13 h many).length = 16 := by unfold s13; rw [List.length_set]; exact hl12
      have hw13 := nat_lt (s13_wd (many := many) hwd hm) 14
      have c14 := hV5.word (i := 14) (by omega)
      have f14 := hV5.wfree (i := 14) (by omega)
      have hV14 := hV5.wput (i := 14) (by omega) (4294967295 - nat_ (s13 h many) 14)
      have e14 : ((4294967295 - nat_ (s13 h many) 14 : Nat) : Int) = 4294967295 - (nat_ (s13 h many) 14 : Int) := by omega
      have hH6 := hH5.far (p := ⟨g3, 14, none⟩) (by show g ≠ g3; omega) (.int .u32 ((4294967295 - nat_ (s13 h many) 14 : Nat) : Int))
      have hM6 := hM5.far (p := ⟨g3, 14, none⟩) (by show gm ≠ g3; omega) (.int .u32 ((4294967295 - nat_ (s13 h many) 14 : Nat) : Int))
      have hb6 := hb5.setCell (p := ⟨g3, 14, none⟩) hg3 (.int .u32 ((4294967295 - nat_ (s13 h many) 14 : Nat) : Int))
      rw [e14] at hV14 hH6 hM6 hb6
      have HV := Lib.hid hV14
      have HH := Lib.hid hH6
      have HM := Lib.hid hM6
      have HB := Lib.hid hb6
      clear hV14 hH6 hM6 hb6 e14
      go_wp2_with fail
      go_meet
      exact ⟨rfl, HH.out, HM.out, HV.out, HB.out⟩
  case rest =>
    obtain ⟨rfl, hH6, hM6, hV6, hb6⟩ := hcut
    clear hH5 hM5 hV5 hb5
    clear hgr1 hgr3 hown3 hw12 hl12 hwv hlv
    go_upto_region 7 with fail
    have hR := colX_rows wc
    have hBX := colX_below wc
    change Code.wp _ _ _ _ (colX wc)
    have hXs : (colX wc).heap.size = wc.heap.size + 9 := by unfold colX; rw [World.size_alloc, colW_size]
    have hXb := hb6.trans (hBX.mono hb6.size)
    have hXH := hH6.below hBX hH6.lt
    have hXM := hM6.below hBX hM6.lt
    have hXV := hV6.below hBX hV6.lt
    have hg3C := hV6.lt
    rw [show wc.heap.size + 1 + 1 + 1 + 1 + 1 + 1 + 1 + 1 = wc.heap.size + 8 from rfl]
    generalize colX wc = wx at hR hBX hXs hXb hXH hXM hXV ⊢
    obtain ⟨hXT, hXC⟩ := hR
    have hBC := hb6.size
    generalize hCe : wc.heap.size = C at hXT hXC hBX hXs hg3C hBC ⊢
    clear hH6 hM6 hV6 hb6 hCe
    go_wp2_with fail
    refine (orders_c _).mono ?_
    rintro e wo ⟨rfl, hO, hbo⟩
    have n : BN w g gm g3 C wx.heap.size := ⟨by omega, by omega, hg3C, by omega, hg3⟩
    have hBo := hXb.trans (hbo.mono hXb.size)
    have k0 : BS w g gm g3 C wx.heap.size h m (s14 h many last) wo :=
      ⟨hBo, hXH.below hbo hXH.lt, hXM.below hbo hXM.lt, hXV.below hbo hXV.lt, hXT.below hbo hXT.lt, fun i hi => (hXC i hi).below hbo (hXC i hi).lt, hO⟩
    have hls : (s14 h many last).length = 16 := s14_len many last hl
    have hws : Wd (s14 h many last) := s14_wd last hwd hm
    obtain ⟨st, HST⟩ : ∃ st, Hid (st = s14 h many last) := ⟨_, Lib.hid rfl⟩
    rw [← HST.out] at k0 hls hws
    generalize wx.heap.size = go at n k0 ⊢
    clear hXH hXM hXV hXT hXC hO hbo hXb hBX hXs hg3C hBC
    unfold sl
    have N := Lib.hid n
    have WS := Lib.hid hws
    clear n hws
    go_wp2_with fail
    go_loopw [12] (fun r wr => ∃ k : Nat, k ≤ 10 ∧ r = .int .i64 k ∧ BS w g gm g3 C go h m (mixes m st (8 * k)) wr) (fun r _ => 10 - (intOf r).toNat)
    case atStart => exact ⟨0, by omega, rfl, k0⟩
    case round =>
      obtain ⟨r, hr, rfl, hk⟩ := hrel
      by_cases hrlt : r < 10
      · have hrd : decide ((r : Int) < 10) = true := by rw [decide_eq_true_eq]; omega
        go_wp2_with fail
        go_loopw [13] (fun i wr => ∃ k : Nat, k ≤ 8 ∧ i = .int .i64 k ∧ BS w g gm g3 C go h m (mixes m st (8 * r + k)) wr) (fun i _ => 8 - (intOf i).toNat)
        case atStart => exact ⟨0, by omega, rfl, hk⟩
        case round =>
          clear hk
          obtain ⟨i, hi, rfl, hk⟩ := hrel
          by_cases hilt : i < 8
          · have hlm' : (mixes m st (8 * r + i)).length = 16 := by rw [mixes_len]; exact hls
            have hwm' : Wd (mixes m st (8 * r + i)) := mixes_wd m WS.out _
            have hnext := Lib.hid (mixes_at m st (r := r) hilt)
            generalize mixes m st (8 * r + i) = s0 at hk hlm' hwm' hnext
            have t0 := hk.hT.cell i _ (colS_at C hilt)
            have p0 := (hk.hC i hilt).cell 0 _ (cols_at hilt (by omega))
            have p1 := (hk.hC i hilt).cell 1 _ (cols_at hilt (by omega))
            have p2 := (hk.hC i hilt).cell 2 _ (cols_at hilt (by omega))
            have p3 := (hk.hC i hilt).cell 3 _ (cols_at hilt (by omega))
            go_wp2_with fail
            go_quiet (fail)
            replace hk := hk.draws nq
            generalize wr.drewN nq = wq at hk ⊢
            clear t0 p0 p1 p2 p3
            have ha := col_lt i 0
            have hb := col_lt i 1
            have hc := col_lt i 2
            have hd := col_lt i 3
            generalize col i 0 = a at ha hnext ⊢
            generalize col i 1 = b at hb hnext ⊢
            generalize col i 2 = c at hc hnext ⊢
            generalize col i 3 = d at hd hnext ⊢
            have ho1 := ord_lt (r := r) (j := 2 * i) hrlt (by omega)
            have ho2 := ord_lt (r := r) (j := 2 * i + 1) hrlt (by omega)
            have q0 := hk.hO.cell r (.string (str (ordS r))) (ord_str hrlt)
            have q1 := hk.hM.word (i := ord r (2 * i)) (by omega)
            have q2 := hk.hM.word (i := ord r (2 * i + 1)) (by omega)
            have e1 : IntKind.i64.wrap (2 * (i : Int)) = 2 * (i : Int) := IntWalk.i64_in _ (by omega)
            have e2 : IntKind.i64.wrap (2 * (i : Int) + 1) = 2 * (i : Int) + 1 := IntWalk.i64_in _ (by omega)
            have x1 := fun W => ord_index (k := 2 * i) hrlt (by omega) (2 * (i : Int)) (by omega) W
            have x2 := fun W => ord_index (k := 2 * i + 1) hrlt (by omega) (2 * (i : Int) + 1) (by omega) W
            go_wp2_with fail
            go_quiet ((go_at_call 32; exact Calls.quiet_of_same (digit_ord hrlt (by omega) _)))
            replace hk := hk.draws nq
            generalize wq.drewN nq = w6 at hk ⊢
            clear q0 q1 q2 e1 e2 x1 x2
            have hx := nat_lt hwm (ord r (2 * i))
            have hy := nat_lt hwm (ord r (2 * i + 1))
            generalize nat_ m (ord r (2 * i)) = x at hx hnext ⊢
            generalize nat_ m (ord r (2 * i + 1)) = y at hy hnext ⊢
            clear ho1 ho2
            have haI : (a : Int) < 16 := by omega
            have hbI : (b : Int) < 16 := by omega
            have hcI : (c : Int) < 16 := by omega
            have hdI : (d : Int) < 16 := by omega
            have c1 := hk.hV.word (i := a) (by omega)
            have c2 := hk.hV.word (i := b) (by omega)
            have f1 := hk.hV.wfree (i := a) (by omega)
            have l1 := nat_lt hwm' a
            have l2 := nat_lt hwm' b
            go_wp2_with fail
            go_region
            rw [addE (nat_ s0 a) (nat_ s0 b) x]
            replace hk := hk.put N.out (i := a) (by omega) ((nat_ s0 a + nat_ s0 b + x) % 4294967296)
            replace hwm' := gA_wd hwm' a b x
            replace hlm' := (gA_len s0 a b x).trans hlm'
            generalize (World.setCell w6 ⟨g3, a, none⟩ (.int .u32 (((nat_ s0 a + nat_ s0 b + x) % 4294967296 : Nat) : Int))).drew = w7 at hk ⊢
            change BS w g gm g3 C go h m (gA s0 a b x) w7 at hk
            obtain ⟨s1, HL1⟩ : ∃ l, Hid (l = gA s0 a b x) := ⟨_, Lib.hid rfl⟩
            rw [← HL1.out] at hk hwm' hlm'
            clear c1 c2 f1 l1 l2
            have c1 := hk.hV.word (i := d) (by omega)
            have c2 := hk.hV.word (i := a) (by omega)
            have f1 := hk.hV.wfree (i := d) (by omega)
            have l1 := nat_lt hwm' d
            have l2 := nat_lt hwm' a
            have hxx := u32_xor_nat (nat_ s1 d) (nat_ s1 a) l1 l2
            have HT := Lib.hid (fun W => turn_still (nat_ s1 d ^^^ nat_ s1 a) 16 (xor_lt l1 l2) (by omega) (by omega) W)
            go_wp2_with fail
            refine wp_region_still_tail 13 (by kernel_rfl) (by kernel_rfl) ?_
            simp only [List.take_succ_cons, List.take_zero, List.drop_succ_cons, List.drop_zero]
            repeat still_step
            refine wpStill_step (fun K hK => ?_)
            go_simp
            refine ⟨_, HT.out _, hK _ ?_⟩
            clear hK K
            repeat still_step
            refine wpStill_nil ?_
            replace hk := hk.draw
            change wpList _ _ _ _ _ w7.drew
            generalize w7.drew = wd8 at hk ⊢
            clear c1 c2 f1 hxx HT
            have f1 := hk.hV.wfree (i := d) (by omega)
            have c1 := hk.hV.word (i := d) (by omega)
            go_upto_region 18 with fail
            replace hk := hk.put0 N.out (i := d) (by omega) (rot (nat_ s1 d ^^^ nat_ s1 a) 16)
            replace hwm' := gX_wd hwm' d a 16
            replace hlm' := (gX_len s1 d a 16).trans hlm'
            generalize World.setCell wd8 ⟨g3, d, none⟩ (.int .u32 (rot (nat_ s1 d ^^^ nat_ s1 a) 16 : Int)) = w8 at hk ⊢
            change BS w g gm g3 C go h m (gX s1 d a 16) w8 at hk
            obtain ⟨s2, HL2⟩ : ∃ l, Hid (l = gX s1 d a 16) := ⟨_, Lib.hid rfl⟩
            rw [← HL2.out] at hk hwm' hlm'
            clear c1 f1 l1 l2
            have c1 := hk.hV.word (i := c) (by omega)
            have c2 := hk.hV.word (i := d) (by omega)
            have f1 := hk.hV.wfree (i := c) (by omega)
            have l1 := nat_lt hwm' c
            have l2 := nat_lt hwm' d
            go_wp2_with fail
            go_region
            rw [addF (nat_ s2 c) (nat_ s2 d)]
            replace hk := hk.put N.out (i := c) (by omega) ((nat_ s2 c + nat_ s2 d + 0) % 4294967296)
            replace hwm' := gA_wd hwm' c d 0
            replace hlm' := (gA_len s2 c d 0).trans hlm'
            generalize (World.setCell w8 ⟨g3, c, none⟩ (.int .u32 (((nat_ s2 c + nat_ s2 d + 0) % 4294967296 : Nat) : Int))).drew = w9 at hk ⊢
            change BS w g gm g3 C go h m (gA s2 c d 0) w9 at hk
            obtain ⟨s3, HL3⟩ : ∃ l, Hid (l = gA s2 c d 0) := ⟨_, Lib.hid rfl⟩
            rw [← HL3.out] at hk hwm' hlm'
            clear c1 c2 f1 l1 l2
            have c1 := hk.hV.word (i := b) (by omega)
            have c2 := hk.hV.word (i := c) (by omega)
            have f1 := hk.hV.wfree (i := b) (by omega)
            have l1 := nat_lt hwm' b
            have l2 := nat_lt hwm' c
            have hxx := u32_xor_nat (nat_ s3 b) (nat_ s3 c) l1 l2
            have HT := Lib.hid (fun W => turn_still (nat_ s3 b ^^^ nat_ s3 c) 12 (xor_lt l1 l2) (by omega) (by omega) W)
            go_wp2_with fail
            refine wp_region_still_tail 13 (by kernel_rfl) (by kernel_rfl) ?_
            simp only [List.take_succ_cons, List.take_zero, List.drop_succ_cons, List.drop_zero]
            repeat still_step
            refine wpStill_step (fun K hK => ?_)
            go_simp
            refine ⟨_, HT.out _, hK _ ?_⟩
            clear hK K
            repeat still_step
            refine wpStill_nil ?_
            replace hk := hk.draw
            change wpList _ _ _ _ _ w9.drew
            generalize w9.drew = wd10 at hk ⊢
            clear c1 c2 f1 hxx HT
            have f1 := hk.hV.wfree (i := b) (by omega)
            have c1 := hk.hV.word (i := b) (by omega)
            go_upto_region 20 with fail
            replace hk := hk.put0 N.out (i := b) (by omega) (rot (nat_ s3 b ^^^ nat_ s3 c) 12)
            replace hwm' := gX_wd hwm' b c 12
            replace hlm' := (gX_len s3 b c 12).trans hlm'
            generalize World.setCell wd10 ⟨g3, b, none⟩ (.int .u32 (rot (nat_ s3 b ^^^ nat_ s3 c) 12 : Int)) = w10 at hk ⊢
            change BS w g gm g3 C go h m (gX s3 b c 12) w10 at hk
            obtain ⟨s4, HL4⟩ : ∃ l, Hid (l = gX s3 b c 12) := ⟨_, Lib.hid rfl⟩
            rw [← HL4.out] at hk hwm' hlm'
            clear c1 f1 l1 l2
            have c1 := hk.hV.word (i := a) (by omega)
            have c2 := hk.hV.word (i := b) (by omega)
            have f1 := hk.hV.wfree (i := a) (by omega)
            have l1 := nat_lt hwm' a
            have l2 := nat_lt hwm' b
            go_wp2_with fail
            go_region
            rw [addE (nat_ s4 a) (nat_ s4 b) y]
            replace hk := hk.put N.out (i := a) (by omega) ((nat_ s4 a + nat_ s4 b + y) % 4294967296)
            replace hwm' := gA_wd hwm' a b y
            replace hlm' := (gA_len s4 a b y).trans hlm'
            generalize (World.setCell w10 ⟨g3, a, none⟩ (.int .u32 (((nat_ s4 a + nat_ s4 b + y) % 4294967296 : Nat) : Int))).drew = w11 at hk ⊢
            change BS w g gm g3 C go h m (gA s4 a b y) w11 at hk
            obtain ⟨s5, HL5⟩ : ∃ l, Hid (l = gA s4 a b y) := ⟨_, Lib.hid rfl⟩
            rw [← HL5.out] at hk hwm' hlm'
            clear c1 c2 f1 l1 l2
            have c1 := hk.hV.word (i := d) (by omega)
            have c2 := hk.hV.word (i := a) (by omega)
            have f1 := hk.hV.wfree (i := d) (by omega)
            have l1 := nat_lt hwm' d
            have l2 := nat_lt hwm' a
            have hxx := u32_xor_nat (nat_ s5 d) (nat_ s5 a) l1 l2
            have HT := Lib.hid (fun W => turn_still (nat_ s5 d ^^^ nat_ s5 a) 8 (xor_lt l1 l2) (by omega) (by omega) W)
            go_wp2_with fail
            refine wp_region_still_tail 13 (by kernel_rfl) (by kernel_rfl) ?_
            simp only [List.take_succ_cons, List.take_zero, List.drop_succ_cons, List.drop_zero]
            repeat still_step
            refine wpStill_step (fun K hK => ?_)
            go_simp
            refine ⟨_, HT.out _, hK _ ?_⟩
            clear hK K
            repeat still_step
            refine wpStill_nil ?_
            replace hk := hk.draw
            change wpList _ _ _ _ _ w11.drew
            generalize w11.drew = wd12 at hk ⊢
            clear c1 c2 f1 hxx HT
            have f1 := hk.hV.wfree (i := d) (by omega)
            have c1 := hk.hV.word (i := d) (by omega)
            go_upto_region 22 with fail
            replace hk := hk.put0 N.out (i := d) (by omega) (rot (nat_ s5 d ^^^ nat_ s5 a) 8)
            replace hwm' := gX_wd hwm' d a 8
            replace hlm' := (gX_len s5 d a 8).trans hlm'
            generalize World.setCell wd12 ⟨g3, d, none⟩ (.int .u32 (rot (nat_ s5 d ^^^ nat_ s5 a) 8 : Int)) = w12 at hk ⊢
            change BS w g gm g3 C go h m (gX s5 d a 8) w12 at hk
            obtain ⟨s6, HL6⟩ : ∃ l, Hid (l = gX s5 d a 8) := ⟨_, Lib.hid rfl⟩
            rw [← HL6.out] at hk hwm' hlm'
            clear c1 f1 l1 l2
            have c1 := hk.hV.word (i := c) (by omega)
            have c2 := hk.hV.word (i := d) (by omega)
            have f1 := hk.hV.wfree (i := c) (by omega)
            have l1 := nat_lt hwm' c
            have l2 := nat_lt hwm' d
            go_wp2_with fail
            go_region
            rw [addF (nat_ s6 c) (nat_ s6 d)]
            replace hk := hk.put N.out (i := c) (by omega) ((nat_ s6 c + nat_ s6 d + 0) % 4294967296)
            replace hwm' := gA_wd hwm' c d 0
            replace hlm' := (gA_len s6 c d 0).trans hlm'
            generalize (World.setCell w12 ⟨g3, c, none⟩ (.int .u32 (((nat_ s6 c + nat_ s6 d + 0) % 4294967296 : Nat) : Int))).drew = w13 at hk ⊢
            change BS w g gm g3 C go h m (gA s6 c d 0) w13 at hk
            obtain ⟨s7, HL7⟩ : ∃ l, Hid (l = gA s6 c d 0) := ⟨_, Lib.hid rfl⟩
            rw [← HL7.out] at hk hwm' hlm'
            clear c1 c2 f1 l1 l2
            have c1 := hk.hV.word (i := b) (by omega)
            have c2 := hk.hV.word (i := c) (by omega)
            have f1 := hk.hV.wfree (i := b) (by omega)
            have l1 := nat_lt hwm' b
            have l2 := nat_lt hwm' c
            have hxx := u32_xor_nat (nat_ s7 b) (nat_ s7 c) l1 l2
            have HT := Lib.hid (fun W => turn_still (nat_ s7 b ^^^ nat_ s7 c) 7 (xor_lt l1 l2) (by omega) (by omega) W)
            go_wp2_with fail
            refine wp_region_still_tail 13 (by kernel_rfl) (by kernel_rfl) ?_
            simp only [List.take_succ_cons, List.take_zero, List.drop_succ_cons, List.drop_zero]
            repeat still_step
            refine wpStill_step (fun K hK => ?_)
            go_simp
            refine ⟨_, HT.out _, hK _ ?_⟩
            clear hK K
            repeat still_step
            refine wpStill_nil ?_
            replace hk := hk.draw
            change wpList _ _ _ _ _ w13.drew
            generalize w13.drew = wd14 at hk ⊢
            clear c1 c2 f1 hxx HT
            have f1 := hk.hV.wfree (i := b) (by omega)
            have c1 := hk.hV.word (i := b) (by omega)
            go_upto_region 13 with fail
            replace hk := hk.put0 N.out (i := b) (by omega) (rot (nat_ s7 b ^^^ nat_ s7 c) 7)
            replace hwm' := gX_wd hwm' b c 7
            replace hlm' := (gX_len s7 b c 7).trans hlm'
            generalize World.setCell wd14 ⟨g3, b, none⟩ (.int .u32 (rot (nat_ s7 b ^^^ nat_ s7 c) 7 : Int)) = w14 at hk ⊢
            change BS w g gm g3 C go h m (gX s7 b c 7) w14 at hk
            obtain ⟨s8, HL8⟩ : ∃ l, Hid (l = gX s7 b c 7) := ⟨_, Lib.hid rfl⟩
            rw [← HL8.out] at hk hwm' hlm'
            clear c1 f1 l1 l2
            have hfin : Hid (mixes m st (8 * r + (i + 1)) = s8) := Lib.hid (by
              show mixes m st (8 * r + i + 1) = s8
              rw [hnext.out]; unfold mixG; rw [← HL1.out, ← HL2.out, ← HL3.out, ← HL4.out, ← HL5.out, ← HL6.out, ← HL7.out, ← HL8.out])
            rw [← hfin.out] at hk
            go_wp2_with fail
            go_roundw
            case rel => first | exact ⟨i + 1, by omega, by go_num, hk⟩ | ((repeat apply Exists.intro); refine ⟨⟨i + 1, by omega, ?_, hk⟩, rfl⟩; go_num)
            case measure => simp [intOf]; omega
          · obtain rfl : i = 8 := by omega
            rw [show 8 * r + 8 = 8 * (r + 1) by omega] at hk
            go_wp2_with fail
            go_roundw
            case rel => first | exact ⟨r + 1, by omega, by go_num, hk⟩ | ((repeat apply Exists.intro); refine ⟨⟨r + 1, by omega, ?_, hk⟩, rfl⟩; go_num)
            case measure => simp [intOf]; omega
      · obtain rfl : r = 10 := by omega
        have hV := mixes_wd m WS.out 80
        have hVl : (mixes m st 80).length = 16 := by rw [mixes_len]; exact hls
        change BS w g gm g3 C go h m (mixes m st 80) wr at hk
        obtain ⟨V, HV⟩ : ∃ V, Hid (V = mixes m st 80) := ⟨_, Lib.hid rfl⟩
        rw [← HV.out] at hk hV hVl
        have h1 := hk.hH
        have h2 := hk.hV
        have h3 := hk.hB
        have hg3w := hk.hV.lt
        have hgw := hk.hH.lt
        clear hk k0
        generalize wr = w20 at *
        have hm8 := make8 w20
        go_wp2_with fail
        go_loopw [21] (fun i wl => ∃ k : Nat, k ≤ 8 ∧ i = .int .i64 k ∧ Row wl g (u32s h) ∧ Row wl g3 (u32s V) ∧ Row wl w20.heap.size (u32s (outs h V k ++ List.replicate (8 - k) 0)) ∧ Below w.heap.size w wl) (fun i _ => 8 - (intOf i).toNat)
        case atStart => exact ⟨0, by omega, rfl, h1.alloc _, h2.alloc _, Row.of_blk (Blk.new _ _ _), h3.alloc h3.size _⟩
        case round =>
          clear h1 h2 hm8
          obtain ⟨k, hk, rfl, h1, h2, h4, h5⟩ := hrel
          by_cases hlt : k < 8
          · have c1 := h1.word (i := k) (by omega)
            have c2 := h2.word (i := k) (by omega)
            have c3 := h2.word (i := k + 8) (by omega)
            have hlo : (outs h V k ++ List.replicate (8 - k) 0).length = 8 := by rw [List.length_append, outs_len, List.length_replicate]; omega
            have c4 := h4.word (i := k) (by omega)
            have f4 := h4.wfree (i := k) (by omega)
            have x1 := u32_xor_nat (nat_ h k) (nat_ V k) (nat_lt hwd k) (nat_lt hV k)
            have x2 := u32_xor_nat (nat_ h k ^^^ nat_ V k) (nat_ V (k + 8)) (xor_lt (nat_lt hwd k) (nat_lt hV k)) (nat_lt hV (k + 8))
            have hst := Lib.hid (outs_set h V hlt)
            have hgne : w20.heap.size ≠ g3 := by omega
            have hgne2 : w20.heap.size ≠ g := by omega
            go_wp2_with fail
            go_region
            have h1 := (h1.far (p := ⟨w20.heap.size, k, none⟩) (fun e => hgne2 e.symm) (.int .u32 ((nat_ h k ^^^ nat_ V k ^^^ nat_ V (k + 8) : Nat) : Int))).drew
            have h2 := (h2.far (p := ⟨w20.heap.size, k, none⟩) (fun e => hgne e.symm) (.int .u32 ((nat_ h k ^^^ nat_ V k ^^^ nat_ V (k + 8) : Nat) : Int))).drew
            have h4 := (h4.wput (i := k) (by omega) (nat_ h k ^^^ nat_ V k ^^^ nat_ V (k + 8))).drew
            rw [hst.out] at h4
            have h5 := (h5.setCell (p := ⟨w20.heap.size, k, none⟩) h3.size (.int .u32 ((nat_ h k ^^^ nat_ V k ^^^ nat_ V (k + 8) : Nat) : Int))).drew
            generalize (World.setCell wr ⟨w20.heap.size, k, none⟩ (.int .u32 ((nat_ h k ^^^ nat_ V k ^^^ nat_ V (k + 8) : Nat) : Int))).drew = wn at h1 h2 h4 h5 ⊢
            clear c1 c2 c3 c4 f4 x1 x2 hlo
            go_wp2_with fail
            go_roundw
            case rel => first | exact ⟨k + 1, by omega, by go_num, h1, h2, h4, h5⟩ | ((repeat apply Exists.intro); refine ⟨⟨k + 1, by omega, ?_, h1, h2, h4, h5⟩, rfl⟩; go_num)
            case measure => simp [intOf]; omega
          · obtain rfl : k = 8 := by omega
            have hR : Row wr w20.heap.size (u32s (outs h V 8)) := by
              have := h4
              rw [show outs h V 8 ++ List.replicate (8 - 8) 0 = outs h V 8 from List.append_nil _] at this
              exact this
            have hEnd : BlkEnd h m many last w (.returned (sl w20.heap.size 8)) wr := ⟨w20.heap.size, rfl, h3.size, by rw [HV.out, HST.out] at hR; exact hR, h5⟩
            go_wp2_with fail
            go_ret
            exact hEnd
end Go.Proofs.YtccaomaobokldaaDoor.Wirey
