/- What takes a sketch off its own bytes (layer 5): Take and Import give the sketch that was written. Nothing that was there turns but the Reader. -/
import Derived.Test.YtgfpedcdclgmiaaGreatSketchExport
import Derived.Test.YtgfpedcdclgmiaaGreatSketchDoc
import Derived.Test.YtgfpedcdclgmiaaGreatWireFly
import Derived.Lib.BufferWrite
import Derived.Deep.RegionWith
namespace Go.Proofs.YtgfpedcdclgmiaaGreat.Sketchy
open Go.ChangeShapes Go.WideShapes Go.ChangeAt Go.RowKit
open Wirey (Blk Row str str_size str_list str_cat Kp Kept RS Took enc enc_len numR_enc num_ok must_ok bytes_ok toList_str)

section
variable {w w' : World} {B R O : Nat} {s : Sk}
theorem At.kept (h : At w B s) (hk : Kept w w' R O) (hR : R < B) (hO : O < B) : At w' B s :=
  ⟨(hk.block _ h.hd.lt (by omega) (by omega)).trans h.hd, (hk.block _ h.door.lt (by omega) (by omega)).trans h.door, fun i hi => (hk.block _ (h.row i hi).lt (by omega) (by omega)).trans (h.row i hi)⟩
theorem At.kp {S : Nat → Prop} (h : At w B s) (hk : Kp S w w') (hS : ∀ k, B ≤ k → ¬ S k) : At w' B s :=
  ⟨hk.blk h.hd (hS _ (by omega)), hk.blk h.door (hS _ (by omega)), fun i hi => hk.blk (h.row i hi) (hS _ (by omega))⟩
theorem RS.six {l : List UInt8} (h : RS w R O l) (hk : Kp (Six B) w w') (hR : R < B) (hO : O < B) : RS w' R O l :=
  ⟨hk.blk h.rd (fun e => by have := e.1; omega), hk.blk h.of (fun e => by have := e.1; omega)⟩
end

set_option maxHeartbeats 4000000 in
theorem tflag_c {R O : Nat} {l : List UInt8} (c : Bool) (hl : l.length < 549755813888) (w : World) (h : RS w R O (flagB c :: l)) :
    Calls Tryz.prog 118 #[.pointer (some ⟨R, 0, none⟩)] w (Took w R O (.bool c) l) := by
  have htl := toList_str
  have hbo := bytes_ok 1 (by simp) (by rw [List.length_cons]; omega) _ h
  rw [List.drop_succ_cons, List.drop_zero, List.take_succ_cons, List.take_zero] at hbo
  have wt := fun W => flag_c true W
  have wf := fun W => flag_c false W
  cases c
  · go_enter Tryz.func118, Tryz.ntmps118
    go_wp2_with fail
    refine hbo.mono ?_
    rintro e w1 ⟨rfl, hk1, hr1⟩
    unfold flagB at wt wf ⊢
    go_wp2_with fail
    refine (wt _).mono ?_
    rintro e w' ⟨rfl, rfl⟩
    go_wp2_with fail
    refine (wf _).mono ?_
    rintro e w' ⟨rfl, rfl⟩
    go_wp2_with fail
    refine (must_ok _).mono ?_
    rintro e w' ⟨rfl, rfl⟩
    go_wp2_with fail
    refine (wt _).mono ?_
    rintro e w' ⟨rfl, rfl⟩
    go_wp2_with fail
    go_ret
    exact ⟨rfl, hk1, hr1⟩
  · go_enter Tryz.func118, Tryz.ntmps118
    go_wp2_with fail
    refine hbo.mono ?_
    rintro e w1 ⟨rfl, hk1, hr1⟩
    unfold flagB at wt ⊢
    go_wp2_with fail
    refine (wt _).mono ?_
    rintro e w' ⟨rfl, rfl⟩
    go_wp2_with fail
    refine (must_ok _).mono ?_
    rintro e w' ⟨rfl, rfl⟩
    go_wp2_with fail
    refine (wt _).mono ?_
    rintro e w' ⟨rfl, rfl⟩
    go_wp2_with fail
    go_ret
    exact ⟨rfl, hk1, hr1⟩

set_option maxHeartbeats 4000000 in
theorem maybe_c {l : List Nat} (hl : ∀ c ∈ l, c ≤ 15) (hn : l.length ≤ 4096) (g cap : Nat) (w : World) (hb : Blk w g 5 (bytesV l)) :
    Calls Tryz.prog 117 #[.slice (some ⟨g, 0, none⟩) l.length cap] w fun e w' => e = .returned (.bool true) ∧ w = w' := by
  go_enter Tryz.func117, Tryz.ntmps117
  go_wp2_with fail
  go_loopw [7] (fun i wr => ∃ k : Nat, k ≤ l.length ∧ i = .int .i64 k ∧ wr = w) (fun i _ => l.length - (intOf i).toNat)
  case atStart => exact ⟨0, by omega, rfl, rfl⟩
  case round =>
    obtain ⟨k, hk, rfl, rfl⟩ := hrel
    by_cases hlt : k < l.length
    · have hc := (hb.cell k).trans (bytesV_at hlt)
      have hg : l[k]?.getD 0 = l[k] := by rw [List.getElem?_eq_getElem hlt]; rfl
      rw [hg] at hc
      have hle := hl _ (List.getElem_mem hlt)
      generalize l[k] = c at hc hle
      go_wp2_with fail
      go_roundw
      case rel => exact ⟨k + 1, by omega, rfl, trivial⟩
      case measure => simp [intOf]; omega
    · go_wp2_with fail
      go_ret
      exact ⟨rfl, rfl⟩

/-! What is taken so far -/
def Sk.got (s : Sk) (j : Nat) : Sk := ⟨s.wide, s.seed, s.added, fun i => if i < j then s.r i else List.replicate s.wide 0, List.replicate s.wide false⟩
theorem got_r (s : Sk) (j i : Nat) : (s.got j).r i = if i < j then s.r i else List.replicate s.wide 0 := rfl
def Sk.gotD (s : Sk) (k : Nat) : Sk := { s with door := s.door.take k ++ List.replicate (s.wide - k) false }
theorem got_0 {w : World} {B : Nat} {s : Sk} (h : At w B (Sk.new s.wide s.seed)) : At (w.setCell ⟨B + 1, 1, none⟩ (.int .i64 (s.added : Int))) B (s.got 0) :=
  ⟨h.hd.put 1 _, h.door.far (by show B ≠ B + 1; omega) _, fun i hi => by rw [got_r, if_neg (by omega)]; exact (h.row i hi).far (by show B + 2 + i ≠ B + 1; omega) _⟩
theorem got_row {w : World} {B j : Nat} {s : Sk} (h : At w B (s.got j)) (hj : j < 4) : At (w.setRow (B + 2 + j) (bytesV (s.r j))) B (s.got (j + 1)) := by
  refine ⟨blk_rowfar h.hd (by omega) _, blk_rowfar h.door (by omega) _, fun i hi => ?_⟩
  have hr := h.row i hi
  rw [got_r] at hr ⊢
  by_cases e : i = j
  · subst e
    rw [if_pos (by omega)]
    exact blk_row hr _
  · have := blk_rowfar hr (b := B + 2 + j) (by omega) (bytesV (s.r j))
    by_cases e2 : i < j
    · rw [if_pos e2] at this
      rw [if_pos (by omega)]
      exact this
    · rw [if_neg e2] at this
      rw [if_neg (by omega)]
      exact this
theorem got_4 {w : World} {B : Nat} {s : Sk} (h : At w B (s.got 4)) : At w B (s.gotD 0) := by
  refine ⟨h.hd, ?_, fun i hi => ?_⟩
  · show Blk w B _ (boolsV (s.door.take 0 ++ List.replicate (s.wide - 0) false))
    rw [List.take_zero, List.nil_append, Nat.sub_zero]
    exact h.door
  · have hr := h.row i hi
    rw [got_r, if_pos hi] at hr
    exact hr
theorem gotD_set {w : World} {B k : Nat} {s : Sk} (hd : s.door.length = s.wide) (hk : k < s.door.length) (h : At w B (s.gotD k)) : At (w.setCell ⟨B, k, none⟩ (.bool s.door[k])) B (s.gotD (k + 1)) := by
  refine ⟨h.hd.far (by show B + 1 ≠ B; omega) _, ?_, fun i hi => (h.row i hi).far (by show B + 2 + i ≠ B; omega) _⟩
  have hp := h.door.put k (.bool s.door[k])
  rw [boolsV_put] at hp
  have e : (s.door.take k ++ List.replicate (s.wide - k) false).set k s.door[k] = s.door.take (k + 1) ++ List.replicate (s.wide - (k + 1)) false := by
    obtain ⟨m, hm⟩ : ∃ m, s.wide - k = m + 1 := ⟨s.wide - k - 1, by omega⟩
    have hm2 : s.wide - (k + 1) = m := by omega
    rw [hm, hm2, List.replicate_succ, List.set_append_right _ _ (by rw [List.length_take]; omega), List.length_take, Nat.min_eq_left (by omega), Nat.sub_self, List.set_cons_zero, List.take_succ_eq_append_getElem hk, List.append_assoc]
    rfl
  show Blk _ B _ (boolsV (s.door.take (k + 1) ++ List.replicate (s.wide - (k + 1)) false))
  rw [← e]
  exact hp
theorem gotD_all {w : World} {B : Nat} {s : Sk} (hd : s.door.length = s.wide) (h : At w B (s.gotD s.wide)) : At w B s := by
  refine ⟨h.hd, ?_, h.row⟩
  have := h.door
  replace this : Blk w B 4 (boolsV (s.door.take s.wide ++ List.replicate (s.wide - s.wide) false)) := this
  rw [List.take_of_length_le (by omega), Nat.sub_self, List.replicate_zero, List.append_nil] at this
  exact this
theorem rows_split (s : Sk) {j : Nat} (hj : j < 4) : ∃ tail, rowsTo s 4 = rowsTo s j ++ (rowB (s.r j) ++ tail) := by
  rcases (by omega : j = 0 ∨ j = 1 ∨ j = 2 ∨ j = 3) with rfl | rfl | rfl | rfl
  · exact ⟨rowB (s.r 1) ++ rowB (s.r 2) ++ rowB (s.r 3), by simp [rowsTo]⟩
  · exact ⟨rowB (s.r 2) ++ rowB (s.r 3), by simp [rowsTo]⟩
  · exact ⟨rowB (s.r 3), by simp [rowsTo]⟩
  · exact ⟨[], by simp [rowsTo]⟩
theorem byteCells_row {l : List Nat} (h : ∀ c ∈ l, c ≤ 15) : (Lib.byteCells (rowB l)).toArray = bytesV l := by
  unfold bytesV Lib.byteCells rowB
  rw [List.map_map]
  congr 1
  refine List.map_congr_left fun c hc => ?_
  have := h c hc
  show Value.int .u8 ((UInt8.ofNat c).toNat : Int) = _
  rw [Wirey.toNat_of (by omega)]
theorem copy_row {w : World} {g n : Nat} {l : List Nat} {cur : Array Value} (h : ∀ c ∈ l, c ≤ 15) (hn : l.length = n) (hg : Blk w g 5 cur) (hc : cur.size = n) :
    (Builtin.copy_ #[112, 9] 3 #[.slice (some ⟨g, 0, none⟩) n n, .string (str (rowB l))]).run Tryz.prog w = .ok (.int .i64 (n : Int)) (w.setRow g (bytesV l)) := by
  have hsz : (str (rowB l)).size = n := by rw [str_size, rowB, List.length_map, hn]
  have hr := Lib.run_copy_row_string (P := Tryz.prog) w 112 9 3 5 g 0 n n (str (rowB l)) cur 5 Tryz.underlying112 (by kernel_rfl) hg (by omega) (by omega)
  rw [hr, hsz, List.take_zero, List.nil_append, Nat.zero_add, List.drop_of_length_le (by rw [Array.length_toList]; omega), List.append_nil, str_list, byteCells_row h]
  rfl
end Go.Proofs.YtgfpedcdclgmiaaGreat.Sketchy
