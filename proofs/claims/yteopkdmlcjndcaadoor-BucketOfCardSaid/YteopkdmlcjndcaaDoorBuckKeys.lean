/- Layer 15: entries by their keys, for none and for one. No condition. -/
import Derived.Test.YteopkdmlcjndcaaDoorBuckOf
import Derived.Test.YteopkdmlcjndcaaDoorSls
import Derived.Lib.SliceRun
import Derived.Laws.OwnMore
namespace Go.Proofs.YteopkdmlcjndcaaDoor.Bucky
open Go.ChangeShapes Go.WideShapes Go.ChangeAt Go.RowKit
open Wirey Regy Slsy

def zE : Value := .agg #[.string ⟨#[]⟩, .string ⟨#[]⟩, .int .u64 0, .int .u64 0]
theorem ent_parts : (Tryd.prog.info? ET).map (fun i => (i.zero, i.size, i.bytes)) = some (some zE, 4, 48) := by kernel_rfl
/-- slices.Clone of one entry. -/
theorem clone1 {w : World} (p : Addr) (c : Nat) (x0 x1 x2 x3 : Value) (h1 : x0.oneCell' = true) (h2 : x1.oneCell' = true) (h3 : x2.oneCell' = true) (h4 : x3.oneCell' = true) (hp : p.block < w.heap.size) (hnews : ∀ j u, [x0, x1, x2, x3][j]? = some u → w.cell? (p.add j) = some u) :
    Calls Tryd.prog 23 #[.slice (some p) 1 c] w fun e w' => ∃ g cap cur, e = .returned (.slice (some ⟨g, 0, none⟩) 1 cap) ∧ w.heap.size ≤ g ∧ Blk w' g ET cur ∧ cur.toList.take 4 = [x0, x1, x2, x3] ∧ Below w.heap.size w w' := by
  obtain ⟨i0, hi0, hz0, hz1, hz2⟩ := info_parts ent_parts
  have q : ∀ (w : World) (a : Option Addr) (n c n' c' : Nat), (binOp .eql 33 (.slice a n c) (.slice none n' c')).run Tryd.prog w = .ok (.bool a.isNone) w := fun w a n c n' c' => Lib.run_eql_slice_nil w _ _ a n c n' c' Tryd.underlying33
  have A := Lib.hid hnews
  clear hnews
  go_enter Tryd.func23, Tryd.ntmps23
  go_wp2_with (at_builtin; refine wpList_append_own _ rfl _ _ 33 rfl w.heap.size ET i0 zE 4 48 Tryd.underlying33 hi0 hz0 hz1 hz2 rfl (by decide) _ _ _ rfl (World.ownsRow_made w #[] 0 (Nat.le_refl _) (Nat.zero_le _) rfl) p 1 c [x0, x1, x2, x3] rfl ?qc1 ?qc2 ?qc3 ?qc4 ?qc5 ?qc6 ?_)
  case qc1 => rfl
  case qc2 =>
    intro j u hj
    have h := A.out j u hj
    rw [← h]
    have e : (p.add j).block = p.block := by unfold Addr.add; split <;> rfl
    exact World.cell?_of_block (Below.heap_alloc w _ _ (by rw [e]; exact hp))
  case qc3 =>
    intro u hu
    simp only [List.mem_cons, List.not_mem_nil, or_false] at hu
    rcases hu with rfl | rfl | rfl | rfl <;> assumption
  case qc4 => unfold maxLen; omega
  case qc5 => omega
  case qc6 => simp
  intro v' w1 hown hgrow hnil
  go_wp2
  go_ret
  have hb : Below w.heap.size w w1 := ((Below.refl _ w).alloc (Nat.le_refl _) _).grown hgrow (by simp) (by intro k hk; simp [Value.ownBlock] at hk; omega)
  rcases hown.2 with ⟨_, hz⟩ | ⟨g, cap, cur, rfl, hg, hbk, _, _, _, ht⟩
  · exact absurd hz (by simp)
  · exact ⟨g, cap, cur, rfl, hg, hbk, by simpa using ht, hb⟩
theorem cloneN (n c : Nat) (w : World) : Calls Tryd.prog 23 #[.slice none n c] w fun e w' => e = .returned (.slice none 0 0) ∧ w = w' := by
  have q : ∀ (w : World) (a : Option Addr) (n c n' c' : Nat), (binOp .eql 33 (.slice a n c) (.slice none n' c')).run Tryd.prog w = .ok (.bool a.isNone) w := fun w a n c n' c' => Lib.run_eql_slice_nil w _ _ a n c n' c' Tryd.underlying33
  go_enter Tryd.func23, Tryd.ntmps23
  go_wp2
  go_ret
  exact ⟨rfl, rfl⟩
set_option maxHeartbeats 1000000 in
theorem ins_c (a : Option Addr) (n c : Nat) (hn : n ≤ 1) (f : Value) (w : World) :
    Calls Tryd.prog 41 #[.slice a n c, .int .i64 0, .int .i64 (n : Int), f] w fun e w' => e = .returned (.tuple #[]) ∧ w = w' := by
  have h1 : ¬ ((1 : Int) < (n : Int)) := by omega
  go_enter Tryd.func41, Tryd.ntmps41
  go_wp2_with fail
  go_loopw [8] (fun s wr => s = .int .i64 1 ∧ w = wr) (fun _ _ => 0)
  case atStart => exact ⟨rfl, rfl⟩
  case round =>
    obtain ⟨rfl, rfl⟩ := hrel
    go_wp2_with fail
    go_end0
    exact ⟨rfl, rfl⟩
set_option maxHeartbeats 2000000 in
theorem stab_c (a : Option Addr) (n c : Nat) (hn : n ≤ 1) (f : Value) (w : World) :
    Calls Tryd.prog 36 #[.slice a n c, .int .i64 (n : Int), f] w fun e w' => e = .returned (.tuple #[]) ∧ w = w' := by
  have h1 : ¬ ((20 : Int) ≤ (n : Int)) := by omega
  have h2 : ¬ ((20 : Int) < (n : Int)) := by omega
  go_enter Tryd.func36, Tryd.ntmps36
  go_wp2_with fail
  go_loopw [7, 8] (fun s7 s wr => s7 = .int .i64 0 ∧ s = .int .i64 20 ∧ w = wr) (fun _ _ _ => 0)
  case atStart => exact ⟨rfl, rfl, rfl⟩
  case round =>
    obtain ⟨rfl, rfl, rfl⟩ := hrel
    go_wp2_with fail
    refine (ins_c a n c hn f _).mono ?_
    rintro e w1 ⟨rfl, rfl⟩
    go_wp2_with fail
    go_loopw [6] (fun s wr => s = .int .i64 20 ∧ w = wr) (fun _ _ => 0)
    case atStart => exact ⟨rfl, rfl⟩
    case round =>
      obtain ⟨rfl, rfl⟩ := hrel
      go_wp2_with fail
      go_end0
      exact ⟨rfl, rfl⟩
theorem sort_c (a : Option Addr) (n c : Nat) (hn : n ≤ 1) (f : Value) (w : World) :
    Calls Tryd.prog 24 #[.slice a n c, f] w fun e w' => e = .returned (.tuple #[]) ∧ w = w' := by
  go_enter Tryd.func24, Tryd.ntmps24
  go_wp2_with fail
  refine (stab_c a n c hn f _).mono ?_
  rintro e w1 ⟨rfl, rfl⟩
  go_wp2_with fail
  go_end0
  exact ⟨rfl, rfl⟩
theorem keysN (n c : Nat) (w : World) : Calls Tryd.prog 14 #[.slice none n c] w fun e w' => e = .returned (.slice none 0 0) ∧ w = w' := by
  go_enter Tryd.func14, Tryd.ntmps14
  go_wp2_with fail
  refine (cloneN n c _).mono ?_
  rintro e w1 ⟨rfl, rfl⟩
  go_wp2_with fail
  refine (sort_c none 0 0 (by omega) _ _).mono ?_
  rintro e w1 ⟨rfl, rfl⟩
  go_wp2_with fail
  go_ret
  exact ⟨rfl, rfl⟩
theorem keys1 {w : World} (p : Addr) (c : Nat) (x0 x1 x2 x3 : Value) (h1 : x0.oneCell' = true) (h2 : x1.oneCell' = true) (h3 : x2.oneCell' = true) (h4 : x3.oneCell' = true) (hp : p.block < w.heap.size) (hnews : ∀ j u, [x0, x1, x2, x3][j]? = some u → w.cell? (p.add j) = some u) :
    Calls Tryd.prog 14 #[.slice (some p) 1 c] w fun e w' => ∃ g cap cur, e = .returned (.slice (some ⟨g, 0, none⟩) 1 cap) ∧ w.heap.size ≤ g ∧ Blk w' g ET cur ∧ cur.toList.take 4 = [x0, x1, x2, x3] ∧ Below w.heap.size w w' := by
  have hC := clone1 p c x0 x1 x2 x3 h1 h2 h3 h4 hp hnews
  clear hnews
  go_enter Tryd.func14, Tryd.ntmps14
  go_wp2_with fail
  refine hC.mono ?_
  rintro e w1 ⟨g, cap, cur, rfl, hg, hB, ht, hb⟩
  clear hC
  go_wp2_with fail
  refine (sort_c _ 1 cap (by omega) _ _).mono ?_
  rintro e w2 ⟨rfl, rfl⟩
  go_wp2_with fail
  go_ret
  exact ⟨g, cap, cur, rfl, hg, hB, ht, hb⟩
end Go.Proofs.YteopkdmlcjndcaaDoor.Bucky
