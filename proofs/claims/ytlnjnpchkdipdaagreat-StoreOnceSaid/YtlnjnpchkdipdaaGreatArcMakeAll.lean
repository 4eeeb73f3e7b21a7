/- Contracts of the program's Insert, Remove, Evict. The only condition: a key is no longer than a text may be. Contracts of the program's New, and of what the laws of layer 7 begin with. No condition. -/
import Derived.Test.YtlnjnpchkdipdaaGreatArcIns
namespace Go.Proofs.YtlnjnpchkdipdaaGreat.Arcy
open Go.ChangeShapes Go.WideShapes Go.ChangeAt Go.RowKit
open Wirey (Blk Row str str_size str_list Kp)
open Ringy

section
variable {w0 w w' w'' : World} {A P : Nat} {m m' m'' : Rm} {v : Av} {k : Key}
theorem StepA.undrew (h : StepA A w.drew m w' m') : StepA A w m w' m' := ⟨⟨h.kp.os, h.kp.tape, h.kp.output, h.kp.size, h.kp.block⟩, h.own⟩
theorem div_nat (a b : Nat) (ha : a ≤ 2000) : wrap64 ((a : Int) / (b : Int)) = ((a / b : Nat) : Int) := by
  rw [← Int.natCast_ediv]
  have : a / b ≤ a := Nat.div_le_self _ _
  generalize a / b = q at *
  unfold wrap64
  omega
set_option maxHeartbeats 1000000 in
theorem step_c {i j : Nat} (hi : i < 4) (hj : j < 4) (hpos : 0 < v.len j) (h : HeldA w0 A P w m v) :
    Calls Tryz.prog 233 #[.pointer (some ⟨A, 0, none⟩), .int .i64 (i : Int), .int .i64 (j : Int)] w fun e w' => e = .returned (.int .i64 ((max 1 (v.len i / v.len j) : Nat) : Int)) ∧ Beside w0 A P w m v w' := by
  have h1 := onto ((Beside.of h).alloc (.cells #[.int .i64 (i : Int)] 3)) (count1 (i := i) rfl hi (Blk.new w 3 #[.int .i64 (i : Int)]) (h.alloc _))
  have hl1 := h.ok.len_le hi
  have hl2 := h.ok.len_le hj
  have hd := Lib.hid (div_nat (v.len i) (v.len j) hl1)
  have hdl : v.len i / v.len j ≤ v.len i := Nat.div_le_self _ _
  clear h
  go_enter Tryz.func233, Tryz.ntmps233
  go_wp2_with fail
  refine h1.mono ?_
  rintro e w1 ⟨rfl, hB⟩
  have h2 := onto (hB.alloc (.cells #[.int .i64 (j : Int)] 3)) (count1 (i := j) rfl hj (Blk.new w1 3 #[.int .i64 (j : Int)]) (hB.h.alloc _))
  clear h1
  go_wp2_with fail
  refine h2.mono ?_
  rintro e w2 ⟨rfl, hB2⟩
  have hne : (v.len j : Int) ≠ 0 := by omega
  go_wp2_with fail
  all_goals
    go_ret
    refine ⟨?_, hB2⟩
    refine congrArg Ending.returned (congrArg (Value.int .i64) ?_)
    have hd := hd.out
    generalize wrap64 ((v.len i : Int) / (v.len j : Int)) = z at *
    subst hd
    generalize v.len i / v.len j = q at *
    omega
set_option maxHeartbeats 1000000 in
theorem insertAgain_c (b : Bool) {i : Nat} (hi : i = 2 ∨ i = 3) (hm : k ∈ v.rg.l i) (h : HeldA w0 A P w m v) :
    Calls Tryz.prog 234 #[.pointer (some ⟨A, 0, none⟩), .string (str k), .bool b] w fun e w' => ∃ val m', e = .returned val ∧ HeldA w0 A P w' m' ((v.room b).fr 1 k) ∧ StepA A w m w' m' ∧ Tell w.heap.size A m' val (v.roomK b) w' := by
  have hr := makeRoom_c b h
  have hok := (Av.again_ins h.ok b hi hm).ok
  have hkl := h.ok.klen (by omega) hm
  clear h
  go_enter Tryz.func234, Tryz.ntmps234
  go_wp2_with fail
  refine hr.mono ?_
  rintro e w1 ⟨val, m1, rfl, h1, hS1, hT1⟩
  obtain ⟨c0, c1, c2⟩ := h1.cells
  go_wp2_with fail
  refine (front_a (j := 1) (by omega) hkl h1 hok).mono ?_
  rintro e w2 ⟨rfl, m2, h2, hS2⟩
  go_wp2_with fail
  go_ret
  exact ⟨_, m2, rfl, h2, hS1.trans hS2, hT1.step hS2⟩
set_option maxHeartbeats 1000000 in
theorem insertNew_c (hk : k.length ≤ 64) (e : v.at_ k = none) (h : HeldA w0 A P w m v) :
    Calls Tryz.prog 232 #[.pointer (some ⟨A, 0, none⟩), .string (str k)] w fun e w' => ∃ val m', e = .returned val ∧ HeldA w0 A P w' m' (v.fresh.fr 0 k) ∧ StepA A w m w' m' ∧ Tell w.heap.size A m' val v.freshK w' := by
  have hr := roomForNew_c h
  have hok := (Av.ins_spec h.ok hk).ok
  rw [show v.ins k = v.fresh.fr 0 k by unfold Av.ins; rw [e]] at hok
  clear h e
  go_enter Tryz.func232, Tryz.ntmps232
  go_wp2_with fail
  refine hr.mono ?_
  rintro e w1 ⟨val, m1, rfl, h1, hS1, hT1⟩
  obtain ⟨c0, c1, c2⟩ := h1.cells
  go_wp2_with fail
  refine (front_a (j := 0) (by omega) hk h1 hok).mono ?_
  rintro e w2 ⟨rfl, m2, h2, hS2⟩
  go_wp2_with fail
  go_ret
  exact ⟨_, m2, rfl, h2, hS1.trans hS2, hT1.step hS2⟩
set_option maxHeartbeats 2000000 in
set_option maxRecDepth 100000 in
theorem insert_known (hk : k.length ≤ 64) {i : Nat} (hi : i < 2) (e : v.at_ k = some i) (h : HeldA w0 A P w m v) :
    Calls Tryz.prog 225 #[.pointer (some ⟨A, 0, none⟩), .string (str k)] w fun e w' => ∃ val m', e = .returned val ∧ HeldA w0 A P w' m' (v.fr 1 k) ∧ StepA A w m w' m' ∧ Tell w.heap.size A m' val [] w' := by
  have hm := made_c h
  have hin := in_some (by unfold maxLen; omega) e h
  have ht := touch_c (k := k) (by unfold maxLen; omega) h
  have hh : v.has k = true := by
    rw [Av.at_has h.ok, e]
    rcases (by omega : i = 0 ∨ i = 1) with rfl | rfl <;> rfl
  rw [show v.touch k = v.fr 1 k by unfold Av.touch; rw [if_pos hh]] at ht
  obtain ⟨c0, c1, c2⟩ := h.cells
  have hsz := str_size k
  clear h e hh
  rcases (by omega : i = 0 ∨ i = 1) with rfl | rfl
  all_goals
    go_enter Tryz.func225, Tryz.ntmps225
    go_wp2_with fail
    refine hm.mono ?_
    rintro e w' ⟨rfl, rfl⟩
    go_wp2_with fail
    refine hin.mono ?_
    rintro e w' ⟨rfl, rfl⟩
    go_wp2_with fail
    refine ht.mono ?_
    rintro e w2 ⟨rfl, m2, h2, hS2⟩
    go_wp2_with fail
    go_ret
    exact ⟨_, m2, rfl, h2, hS2, Tell.nil _ _ _ _⟩
set_option maxHeartbeats 2000000 in
set_option maxRecDepth 100000 in
theorem insert_new (hk : k.length ≤ 64) (e : v.at_ k = none) (h : HeldA w0 A P w m v) :
    Calls Tryz.prog 225 #[.pointer (some ⟨A, 0, none⟩), .string (str k)] w fun e w' => ∃ val m', e = .returned val ∧ HeldA w0 A P w' m' (v.fresh.fr 0 k) ∧ StepA A w m w' m' ∧ Tell w.heap.size A m' val v.freshK w' := by
  have hm := made_c h
  have hin := in_none (by unfold maxLen; omega) e h
  have ht := insertNew_c hk e h
  obtain ⟨c0, c1, c2⟩ := h.cells
  have hsz := str_size k
  clear h e
  go_enter Tryz.func225, Tryz.ntmps225
  go_wp2_with fail
  refine hm.mono ?_
  rintro e w' ⟨rfl, rfl⟩
  go_wp2_with fail
  refine hin.mono ?_
  rintro e w' ⟨rfl, rfl⟩
  go_wp2_with fail
  refine ht.mono ?_
  rintro e w2 ⟨val, m2, rfl, h2, hS2, hT2⟩
  go_wp2_with fail
  go_ret
  exact ⟨_, m2, rfl, h2, hS2, hT2⟩
set_option maxHeartbeats 2000000 in
set_option maxRecDepth 100000 in
theorem insert_b1 (hk : k.length ≤ 64) (e : v.at_ k = some 2) (h : HeldA w0 A P w m v) :
    Calls Tryz.prog 225 #[.pointer (some ⟨A, 0, none⟩), .string (str k)] w fun e w' => ∃ val m', e = .returned val ∧ HeldA w0 A P w' m' ((v.up.room false).fr 1 k) ∧ StepA A w m w' m' ∧ Tell w.heap.size A m' val (v.up.roomK false) w' := by
  have hm := made_c h
  have hin := in_some (by unfold maxLen; omega) e h
  obtain ⟨-, hmem⟩ := Av.at_some e
  have hpos : 0 < v.len 2 := List.length_pos_of_mem hmem
  have hst := fun W (hW : HeldA w0 A P W m v) => step_c (i := 3) (j := 2) (by omega) (by omega) hpos hW
  have hag := fun W (hW : HeldA w0 A P W m v.up) => insertAgain_c (v := v.up) (k := k) false (.inl rfl) hmem hW
  obtain ⟨c0, c1, c2⟩ := h.cells
  have hsz := str_size k
  have hB := Beside.of h
  have hd := hB.drew
  have ht := h.ok.t
  have hm2 := h.ok.m2
  have hl3 := h.ok.len_le (i := 3) (by omega)
  have hdl : v.len 3 / v.len 2 ≤ v.len 3 := Nat.div_le_self _ _
  have hup : v.up.tgt = min (v.tgt + max 1 (v.len 3 / v.len 2)) v.most := rfl
  have hv : (if (v.most : Int) < (v.tgt : Int) + ((max 1 (v.len 3 / v.len 2) : Nat) : Int) then (v.most : Int) else (v.tgt : Int) + ((max 1 (v.len 3 / v.len 2) : Nat) : Int)) = (v.up.tgt : Int) := by
    rw [hup]
    generalize max 1 (v.len 3 / v.len 2) = z at *
    split <;> omega
  have HV := Lib.hid hv
  clear hv
  have HT : Hid (∀ W, HeldA w0 A P W m v → HeldA w0 A P (W.setCell ⟨A, 1, none⟩ (.int .i64 (v.up.tgt : Int))) m v.up ∧ StepA A W m (W.setCell ⟨A, 1, none⟩ (.int .i64 (v.up.tgt : Int))) m) := Lib.hid fun W hW => hW.tgt (Nat.min_le_right _ _)
  clear h e hup
  have hz : 1 ≤ max 1 (v.len 3 / v.len 2) ∧ max 1 (v.len 3 / v.len 2) ≤ 2000 := by generalize v.len 3 / v.len 2 = q at *; omega
  clear hdl
  generalize max 1 (v.len 3 / v.len 2) = z at *
  have u5 : IntKind.i64.wrap ((v.tgt : Int) + (z : Int)) = (v.tgt : Int) + (z : Int) := by rw [IntKind.wrap_i64]; omega
  go_enter Tryz.func225, Tryz.ntmps225
  go_wp2_with fail
  refine hm.mono ?_
  rintro e w' ⟨rfl, rfl⟩
  go_wp2_with fail
  refine hin.mono ?_
  rintro e w' ⟨rfl, rfl⟩
  go_wp2_with fail
  go_region_with (first | (go_at_call 233; refine (hst _ hd.h).mono ?_; rintro e wv ⟨rfl, hbv⟩; obtain ⟨k0, k1, k2⟩ := hbv.h.cells; have kf := hbv.h.box.free 1))
  all_goals
    rw [HV.out]
    obtain ⟨hU, hSU⟩ := HT.out _ hbv.h
    have hS := (StepA.undrew hbv.s).trans hSU
    clear k0 k1 k2 kf hbv
    go_wp2_with fail
    refine (hag _ hU).mono ?_
    rintro e w2 ⟨val, m2, rfl, h2, hS2, hT2⟩
    go_wp2_with fail
    go_ret
    exact ⟨_, m2, rfl, h2, hS.trans hS2, ⟨own_mono hT2.row hS.kp.size, hT2.no⟩⟩
set_option maxHeartbeats 2000000 in
set_option maxRecDepth 100000 in
theorem insert_b2 (hk : k.length ≤ 64) (e : v.at_ k = some 3) (h : HeldA w0 A P w m v) :
    Calls Tryz.prog 225 #[.pointer (some ⟨A, 0, none⟩), .string (str k)] w fun e w' => ∃ val m', e = .returned val ∧ HeldA w0 A P w' m' ((v.down.room true).fr 1 k) ∧ StepA A w m w' m' ∧ Tell w.heap.size A m' val (v.down.roomK true) w' := by
  have hm := made_c h
  have hin := in_some (by unfold maxLen; omega) e h
  obtain ⟨-, hmem⟩ := Av.at_some e
  have hpos : 0 < v.len 3 := List.length_pos_of_mem hmem
  have hst := fun W (hW : HeldA w0 A P W m v) => step_c (i := 2) (j := 3) (by omega) (by omega) hpos hW
  have hag := fun W (hW : HeldA w0 A P W m v.down) => insertAgain_c (v := v.down) (k := k) true (.inr rfl) hmem hW
  obtain ⟨c0, c1, c2⟩ := h.cells
  have hsz := str_size k
  have hB := Beside.of h
  have hd := hB.drew
  have ht := h.ok.t
  have hm2 := h.ok.m2
  have hl3 := h.ok.len_le (i := 2) (by omega)
  have hdl : v.len 2 / v.len 3 ≤ v.len 2 := Nat.div_le_self _ _
  have hup : v.down.tgt = v.tgt - max 1 (v.len 2 / v.len 3) := rfl
  have hv : (if (v.tgt : Int) - ((max 1 (v.len 2 / v.len 3) : Nat) : Int) < 0 then 0 else (v.tgt : Int) - ((max 1 (v.len 2 / v.len 3) : Nat) : Int)) = (v.down.tgt : Int) := by
    rw [hup]
    generalize max 1 (v.len 2 / v.len 3) = z at *
    split <;> omega
  have HV := Lib.hid hv
  clear hv
  have HT : Hid (∀ W, HeldA w0 A P W m v → HeldA w0 A P (W.setCell ⟨A, 1, none⟩ (.int .i64 (v.down.tgt : Int))) m v.down ∧ StepA A W m (W.setCell ⟨A, 1, none⟩ (.int .i64 (v.down.tgt : Int))) m) := Lib.hid fun W hW => hW.tgt (Nat.le_trans (Nat.sub_le _ _) hW.ok.t)
  clear h e hup
  have hz : 1 ≤ max 1 (v.len 2 / v.len 3) ∧ max 1 (v.len 2 / v.len 3) ≤ 2000 := by generalize v.len 2 / v.len 3 = q at *; omega
  clear hdl
  generalize max 1 (v.len 2 / v.len 3) = z at *
  have u5 : IntKind.i64.wrap ((v.tgt : Int) - (z : Int)) = (v.tgt : Int) - (z : Int) := by rw [IntKind.wrap_i64]; omega
  go_enter Tryz.func225, Tryz.ntmps225
  go_wp2_with fail
  refine hm.mono ?_
  rintro e w' ⟨rfl, rfl⟩
  go_wp2_with fail
  refine hin.mono ?_
  rintro e w' ⟨rfl, rfl⟩
  go_wp2_with fail
  go_region_with (first | (go_at_call 233; refine (hst _ hd.h).mono ?_; rintro e wv ⟨rfl, hbv⟩; obtain ⟨k0, k1, k2⟩ := hbv.h.cells; have kf := hbv.h.box.free 1))
  all_goals
    rw [HV.out]
    obtain ⟨hU, hSU⟩ := HT.out _ hbv.h
    have hS := (StepA.undrew hbv.s).trans hSU
    clear k0 k1 k2 kf hbv
    go_wp2_with fail
    refine (hag _ hU).mono ?_
    rintro e w2 ⟨val, m2, rfl, h2, hS2, hT2⟩
    go_wp2_with fail
    go_ret
    exact ⟨_, m2, rfl, h2, hS.trans hS2, ⟨own_mono hT2.row hS.kp.size, hT2.no⟩⟩
theorem insert_c (hk : k.length ≤ maxLen) (h : HeldA w0 A P w m v) :
    Calls Tryz.prog 225 #[.pointer (some ⟨A, 0, none⟩), .string (str k)] w fun e w' => ∃ val m', e = .returned val ∧ HeldA w0 A P w' m' (v.insert k) ∧ StepA A w m w' m' ∧ Tell w.heap.size A m' val (v.insertK k) w' := by
  unfold Av.insert Av.insertK
  by_cases hl : 64 < k.length
  · rw [if_pos hl, if_pos hl]
    have hm := made_c h
    have HH := Lib.hid h
    have hsz := str_size k
    clear h
    unfold maxLen at hk
    go_enter Tryz.func225, Tryz.ntmps225
    go_wp2_with fail
    refine hm.mono ?_
    rintro e w' ⟨rfl, rfl⟩
    go_wp2_with fail
    go_ret
    exact ⟨_, m, rfl, HH.out, StepA.refl _ _ _, Tell.nil _ _ _ _⟩
  · rw [if_neg hl, if_neg hl]
    unfold Av.ins Av.insK
    cases e : v.at_ k with
    | none => exact insert_new (by omega) e h
    | some i =>
      obtain ⟨hi, -⟩ := Av.at_some e
      rcases (by omega : i = 0 ∨ i = 1 ∨ i = 2 ∨ i = 3) with rfl | rfl | rfl | rfl
      · exact insert_known (by omega) (by omega) e h
      · exact insert_known (by omega) (by omega) e h
      · exact insert_b1 (by omega) e h
      · exact insert_b2 (by omega) e h
theorem remove_c (hk : k.length ≤ maxLen) (h : HeldA w0 A P w m v) :
    Calls Tryz.prog 226 #[.pointer (some ⟨A, 0, none⟩), .string (str k)] w fun e w' => e = .returned (.bool (v.has k)) ∧ ∃ m', HeldA w0 A P w' m' (v.remove k) ∧ StepA A w m w' m' := by
  have hm := made_c h
  have hh := has_c hk h
  have hd := drop_a hk h
  obtain ⟨c0, c1, c2⟩ := h.cells
  clear h
  generalize v.has k = b at *
  go_enter Tryz.func226, Tryz.ntmps226
  go_wp2_with fail
  refine hm.mono ?_
  rintro e w' ⟨rfl, rfl⟩
  go_wp2_with fail
  refine hh.mono ?_
  rintro e w' ⟨rfl, rfl⟩
  go_wp2_with fail
  refine hd.mono ?_
  rintro e w2 ⟨⟨_, rfl⟩, hp⟩
  go_wp2_with fail
  go_ret
  exact ⟨rfl, hp⟩
theorem evict_c (h : HeldA w0 A P w m v) :
    Calls Tryz.prog 222 #[.pointer (some ⟨A, 0, none⟩)] w fun e w' => e = .returned (.tuple #[.string (str ((v.last (v.src false)).getD [])), .bool (v.last (v.src false)).isSome]) ∧ ∃ m', HeldA w0 A P w' m' (v.repl false) ∧ StepA A w m w' m' := by
  have hm := made_c h
  have hr := replace_c false h
  clear h
  generalize (v.last (v.src false)).getD [] = x at *
  generalize (v.last (v.src false)).isSome = b at *
  go_enter Tryz.func222, Tryz.ntmps222
  go_wp2_with fail
  refine hm.mono ?_
  rintro e w' ⟨rfl, rfl⟩
  go_wp2_with fail
  refine hr.mono ?_
  rintro e w2 ⟨rfl, hp⟩
  go_wp2_with fail
  go_ret2
  exact ⟨rfl, hp⟩
end
end Go.Proofs.YtlnjnpchkdipdaaGreat.Arcy
namespace Go.Proofs.YtlnjnpchkdipdaaGreat.Arcy
open Go.ChangeShapes Go.WideShapes Go.ChangeAt Go.RowKit
open Wirey (Blk Row str str_size str_list str_take Kp)
open Ringy

set_option maxHeartbeats 1000000 in
theorem newA_c {n : Nat} (h1 : 1 ≤ n) (h2 : n ≤ 1000) (w : World) :
    Calls Tryz.prog 48 #[.int .i64 (n : Int)] w fun e w' => ∃ A m, e = .returned (.tuple #[.pointer (some ⟨A, 0, none⟩), .int .i64 0]) ∧ HeldA w A (w.heap.size + 2) w' m (Av.new n) := by
  have hN := new_h (n := 4) (places := 2 * n + 1) (by omega) (by omega) (by omega) w
  have hpl : Calls Tryz.prog 79 #[.int .i64 (n : Int)] w fun e w' => e = .returned (.int .i64 ((2 * n + 1 : Nat) : Int)) ∧ w = w' := by
    go_enter Tryz.func79, Tryz.ntmps79
    go_wp2_with fail
    go_ret
    exact ⟨by simp, rfl⟩
  go_enter Tryz.func48, Tryz.ntmps48
  go_wp2_with fail
  refine hpl.mono ?_
  rintro e w' ⟨rfl, rfl⟩
  go_wp2_with fail
  refine hN.mono ?_
  rintro e w1 ⟨rfl, m, hH⟩
  go_wp2_with fail
  go_ret2
  refine ⟨w1.heap.size, m, rfl, hH.alloc _, Blk.new w1 _ _, hH.below.size, fun ho => by have := hH.lt _ ho; omega, Av.new_ok h1 h2⟩
section
variable {w : World} {B A : Nat} {m : Rm} {val : Value} {k : Key} {l : List Key}
theorem Tell.form (h : Tell B A m val l w) : ∃ a c, val = .slice a l.length c := own_form h.row
theorem Tell.first (h : Tell B A m val (k :: l) w) : ∃ g c, val = .slice (some ⟨g, 0, none⟩) (l.length + 1) c ∧ w.cell? ⟨g, 0, none⟩ = some (.string (str k)) := by
  have hr := h.row
  obtain ⟨g, c, hv, -, -⟩ := hr.form (by simp)
  refine ⟨g, c, hv, ?_⟩
  rw [hv] at hr
  rw [hr.cellAt 0 (by simp)]
  rfl
end

/-! No policy -/
end Go.Proofs.YtlnjnpchkdipdaaGreat.Arcy
