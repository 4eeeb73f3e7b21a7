/- Layer 4: what the row's condition on the three variables gives to the walks, and the world that meets it. -/
import Derived.Test.YtkiabladmgagdabGreatDoorMemAll
import Derived.Test.YtkiabladmgagdabGreatDoorTie
import Derived.Test.YtkiabladmgagdabGreatDoorCards
import Derived.Test.YtkiabladmgagdabGreatDoorBlakeSumPAll
import Derived.LaidMore
import Derived.Stop.Joined
import Derived.Lib.LaidU8
import Derived.Test.YtkiabladmgagdabGreatDoorSq
namespace Go.Proofs.YtkiabladmgagdabGreatDoor.Wirey
open Go.ChangeShapes Go.WideShapes Go.ChangeAt Go.RowKit Go.ChangeMaps

abbrev laidAll : List (String × DataW Unit) := [("hawthorn/blake.first", Rows.laid_hawthorn_blake_first), ("hawthorn/blake.orders", Rows.laid_hawthorn_blake_orders), ("hawthorn/blake.columns", Rows.laid_hawthorn_blake_columns)]
theorem gFirst : Tryz.prog.globalNamed "hawthorn/blake.first" = some 0 := by kernel_rfl
theorem gOrders : Tryz.prog.globalNamed "hawthorn/blake.orders" = some 1 := by kernel_rfl
theorem gColumns : Tryz.prog.globalNamed "hawthorn/blake.columns" = some 2 := by kernel_rfl
theorem tFirst : (Tryz.prog.globals[0]?).map (·.type) = some 128 := by kernel_rfl
theorem tOrders : (Tryz.prog.globals[1]?).map (·.type) = some 163 := by kernel_rfl
theorem tColumns : (Tryz.prog.globals[2]?).map (·.type) = some 192 := by kernel_rfl
theorem cells8 : Tryz.prog.cellsOf 128 = 8 := by kernel_rfl
theorem cells10 : Tryz.prog.cellsOf 163 = 10 := by kernel_rfl
theorem cells4 : Tryz.prog.cellsOf 191 = 4 := by kernel_rfl
theorem cellsU32 : Tryz.prog.cellsOf 127 = 1 := by kernel_rfl
theorem cellsU64 : Tryz.prog.cellsOf 22 = 1 := by kernel_rfl
theorem cellsInt : Tryz.prog.cellsOf 3 = 1 := by kernel_rfl
theorem seen_of_var {W : World} {name : String} {g : Nat} {vs : List Value} (hg : Tryz.prog.globalNamed name = some g) (h : W.var? Tryz.prog name = some vs.toArray) (h0 : 0 < vs.length) : Seen W g vs := by
 have hc : ∀ i u, vs[i]? = some u → W.cell? ⟨g, i, none⟩ = some u := fun i u hu => by
  rw [World.var?_cell hg h i, ← hu]; simp
 exact ⟨block_lt_of_cell (hc 0 _ (List.getElem?_eq_getElem h0)), hc⟩
theorem seen_ints {W : World} {name : String} {g : Nat} {t e : TypeId} {n : Nat} {k : IntKind} {zs : List Int} (hg : Tryz.prog.globalNamed name = some g) (hty : (Tryz.prog.globals[g]?).map (·.type) = some t)
  (ht : Tryz.prog.underlying t = some (.array n e)) (he : Tryz.prog.underlying e = some (.int k)) (hce : Tryz.prog.cellsOf e = 1) (hct : Tryz.prog.cellsOf t = n) (h : Lib.VarReads Tryz.prog W name (Lib.tabData k zs)) (h0 : 0 < zs.length) : Seen W g (zs.map fun z => Value.int k z) := by
 obtain ⟨g', t', cs, fuel, p, hg', ht', hvar, hd⟩ := h
 obtain rfl := Option.some.inj (hg.symm.trans hg')
 obtain rfl := Option.some.inj (hty.symm.trans ht')
 have hcs := Lib.cells_of_tab ht he hce hct hd
 refine seen_of_var hg ?_ (by simpa using h0)
 rw [hvar, ← hcs]
def firstZ : List Int := [1779033703, 3144134277, 1013904242, 2773480762, 1359893119, 2600822924, 528734635, 1541459225]
def ordersZ : List Int := [81985529216486895, 16881918945140062035, 13312731748010193300, 8733003861693448440, 10400822202260547645, 3200383143768358425, 14204332651957162635, 15816291393287259690, 8064173457993569445, 11710614767857974480]
def colsZ : List (List Int) := [[0, 4, 8, 12], [1, 5, 9, 13], [2, 6, 10, 14], [3, 7, 11, 15], [0, 5, 10, 15], [1, 6, 11, 12], [2, 7, 8, 13], [3, 4, 9, 14]]
theorem glob_of {W : World} (h : laidMetH Tryz.prog laidAll W) : Glob W := by
 rw [MakeChecks.laidMetH_plain _ _ _ (by kernel_rfl)] at h
 have hL : laidMet Tryz.prog [("hawthorn/blake.first", Lib.tabData .u32 firstZ), ("hawthorn/blake.orders", Lib.tabData .u64 ordersZ), ("hawthorn/blake.columns", .agg (colsZ.map (Lib.tabData .i64)))] W := h
 have h1 := Lib.laidMet.reads hL (.head _)
 have h2 := Lib.laidMet.reads hL (.tail _ (.head _))
 have h3 := Lib.laidMet.reads hL (.tail _ (.tail _ (.head _)))
 refine ⟨?_, ?_, ?_⟩
 ·exact seen_ints gFirst tFirst under8 Tryz.underlying127 cellsU32 cells8 h1 (by decide)
 ·exact seen_ints gOrders tOrders Tryz.underlying163 Tryz.underlying22 cellsU64 cells10 h2 (by decide)
 ·obtain ⟨g', t', cs, fuel, p, hg', ht', hvar, hd⟩ := h3
  obtain rfl := Option.some.inj (gColumns.symm.trans hg')
  obtain rfl := Option.some.inj (tColumns.symm.trans ht')
  have hrow : ∀ i, i < 8 → (cs.toList.drop (i * 4)).take 4 = colV i := by
   intro i hi
   obtain ⟨f', d, q, hds, hdi⟩ := Lib.array_elem under51 hd i hi
   rw [cells4] at hdi
   have hd4 : d = Lib.tabData .i64 (colsZ.getD i []) := by
    rw [List.getElem?_map, List.getElem?_eq_getElem (show i < colsZ.length from hi)] at hds
    rw [List.getD_eq_getElem?_getD, List.getElem?_eq_getElem (show i < colsZ.length from hi)]
    exact (Option.some.inj hds).symm
   rw [hd4] at hdi
   rw [Lib.cells_of_tab Tryz.underlying191 Tryz.underlying3 cellsInt cells4 hdi]
   rcases (by omega : i = 0 ∨ i = 1 ∨ i = 2 ∨ i = 3 ∨ i = 4 ∨ i = 5 ∨ i = 6 ∨ i = 7) with rfl | rfl | rfl | rfl | rfl | rfl | rfl | rfl <;> rfl
  have hc : ∀ i u, colsL[i]? = some u → W.cell? ⟨2, i, none⟩ = some u := by
   intro i u hu
   have hi : i < 32 := by
    rcases Nat.lt_or_ge i 32 with h | h
    ·exact h
    ·rw [List.getElem?_eq_none (by show 32 ≤ i; exact h)] at hu; cases hu
   rw [World.var?_cell gColumns hvar i]
   have h4 := hrow (i / 4) (by omega)
   have h5 : ((cs.toList.drop (i / 4 * 4)).take 4)[i % 4]? = (colV (i / 4))[i % 4]? := by rw [h4]
   rw [List.getElem?_take, if_pos (by omega), List.getElem?_drop, show i / 4 * 4 + i % 4 = i by omega, colV_at (by omega) (by omega)] at h5
   have h6 : colsL[i]? = some (.int .i64 (col (i / 4) (i % 4) : Int)) := by
    unfold colsL
    rw [List.getElem?_map, List.getElem?_range hi]; rfl
   rw [← hu, h6, ← h5]
   simp
  exact ⟨block_lt_of_cell (hc 0 _ rfl), hc⟩
theorem door_met (os : Os) (args : Array Value) : laidMetH Tryz.prog laidAll ((World.doorLaid Tryz.prog 400 os).forCall (fun _ _ => 0) ⟨#[], args, []⟩).memory :=
 laidMetH_of_parts3 (fuel := 8) (laidMet_of_run' 8 (by kernel_rfl) (by kernel_rfl)) (by kernel_rfl) (by kernel_rfl)
end Go.Proofs.YtkiabladmgagdabGreatDoor.Wirey
