/- Contracts of the functions that are handed to Read, and of what calls Read: a number off bytes; a frame opened, whatever bytes there are. Nothing that was there turns. Condition: the table of halves holds what the program's text lays (Open). -/
import Derived.Test.YtmoammadibepkaaDoorWireFly
import Derived.Deep.QuietTactic
import Derived.BigQuiet
namespace Go.Proofs.YtmoammadibepkaaDoor.Wirey
open Go.ChangeShapes Go.WideShapes Go.ChangeAt Go.RowKit

theorem Kept.cell {w w' : World} {R O : Nat} (h : Kept w w' R O) {p : Addr} {u : Value} (hc : w.cell? p = some u) (hR : p.block ≠ R) (hO : p.block ≠ O) : w'.cell? p = some u :=
  (World.cell?_of_block (w := w) (h.block p.block (World.block_lt_of_cell? w _ hc) hR hO)).trans hc
theorem Kept.free {w w' : World} {R O : Nat} (h : Kept w w' R O) {p : Addr} {u : Value} (hc : w.cell? p = some u) (hR : p.block ≠ R) (hO : p.block ≠ O) : w'.frozen? p = w.frozen? p :=
  World.frozen?_of_block (w := w) (h.block p.block (World.block_lt_of_cell? w _ hc) hR hO)

set_option maxHeartbeats 2000000 in
theorem take_num_ok {R O T N : Nat} {l : List UInt8} {n k : Nat} {u : Value} (top : Nat) (hR : numR l = (n, k, 0)) (ht : n ≤ top) (hl : l.length < 1099511627776) (w : World) (h : RS w R O l)
    (hT : w.cell? ⟨T, 0, none⟩ = some (.int .u64 (top : Int))) (hN : w.cell? ⟨N, 0, none⟩ = some u) (hf : w.frozen? ⟨N, 0, none⟩ = false) (hNR : N ≠ R) (hNO : N ≠ O) :
    Calls Tryd.prog 42 #[.pointer (some ⟨R, 0, none⟩), .pointer (some ⟨T, 0, none⟩), .pointer (some ⟨N, 0, none⟩)] w fun e w2 =>
      e = .returned (.tuple #[]) ∧ RS w2 R O (l.drop k) ∧ Kp (fun j => j = R ∨ j = O ∨ j = N) w w2 ∧ w2.cell? ⟨N, 0, none⟩ = some (.int .u64 (n : Int)) := by
  have HR := Lib.hid hR
  clear hR
  go_enter Tryd.func42, Tryd.ntmps42
  go_wp2_with fail
  refine (num_ok top HR.out ht hl _ h).mono ?_
  rintro e w1 ⟨rfl, hk, hr⟩
  have hN1 := hk.cell hN hNR hNO
  have hf1 := (hk.free hN hNR hNO).trans hf
  go_wp2_with fail
  go_end0
  exact ⟨rfl, ⟨hr.rd.far (fun e => hNR e.symm) _, hr.of.far (fun e => hNO e.symm) _⟩, (Kp.of_kept hk (.inl rfl) (.inr (.inl rfl))).set (.inr (.inr rfl)) _, World.cell?_setCell_same _ _ _ hN1⟩

theorem two_start (w : World) (t1 t2 : TypeId) (c1 c2 : Array Value) :
    Below w.heap.size w ((w.alloc (.cells c1 t1)).alloc (.cells c2 t2)) ∧ Blk ((w.alloc (.cells c1 t1)).alloc (.cells c2 t2)) w.heap.size t1 c1 ∧
    Blk ((w.alloc (.cells c1 t1)).alloc (.cells c2 t2)) (w.heap.size + 1) t2 c2 ∧ ((w.alloc (.cells c1 t1)).alloc (.cells c2 t2)).heap.size = w.heap.size + 2 := by
  have s1 : ∀ (v : World) (o : Obj), (v.alloc o).heap.size = v.heap.size + 1 := fun v o => by show (v.heap.push o).size = _; simp
  refine ⟨((Below.refl _ _).alloc (Nat.le_refl _) _).alloc (by rw [s1]; omega) _, (Blk.new w _ _).alloc _, ?_, by rw [s1, s1]⟩
  have := Blk.new (w.alloc (.cells c1 t1)) t2 c2
  rw [s1] at this; exact this
theorem Kp.below {S : Nat → Prop} {w w1 w' : World} (h1 : Below w.heap.size w w1) (h : Kp S w1 w') (hS : ∀ k, k < w.heap.size → ¬ S k) : Below w.heap.size w w' :=
  ⟨h.os.trans h1.os, h.tape.trans h1.tape, h.output.trans h1.output, Nat.le_trans h1.size h.size, fun k hk => (h.block k (Nat.lt_of_lt_of_le hk h1.size) (hS k hk)).trans (h1.block k hk)⟩
theorem cell_keep {p : Addr} {u : Value} {B : Nat} (hp : p.block < B) {w2 w3 : World} (h : w2.cell? p = some u) (hb : Below B w2 w3) : w3.cell? p = some u := (hb.cell hp).trans h
theorem enters_num : ∀ (args : Array Value) (w : World), (callFunc 42 args).run Tryd.prog w = .ok (.enter 42 args) w := fun _ _ => by kernel_rfl
set_option maxHeartbeats 2000000 in
theorem fnum_ok {l : List UInt8} {n k : Nat} (top : Nat) (hR : numR l = (n, k, 0)) (ht : n ≤ top) (hl : l.length < 1099511627776) (w : World) :
    Calls Tryd.prog 11 #[.string (str l), .int .u64 (top : Int)] w fun e w' => e = .returned (.tuple #[.int .u64 (n : Int), .int .i64 (endE (l.drop k) : Int)]) ∧ Below w.heap.size w w' := by
  have HR := Lib.hid hR
  clear hR
  have hmf : ∀ (fn : Fn) (first cap : Array Value) (w : World), (Instr.makeFunc fn first cap).run Tryd.prog w = .ok (.func fn first cap) w := fun _ _ _ _ => rfl
  go_enter Tryd.func11, Tryd.ntmps11
  go_wp2_with fail
  obtain ⟨h1, b0, b1, hs⟩ := two_start w 22 22 #[.int .u64 (top : Int)] #[.int .u64 0]
  generalize ((w.alloc (.cells #[.int .u64 (top : Int)] 22)).alloc (.cells #[.int .u64 0] 22)) = w1 at h1 b0 b1 hs ⊢
  refine (read_ok _ enters_num #[.pointer (some ⟨w.heap.size, 0, none⟩), .pointer (some ⟨w.heap.size + 1, 0, none⟩)] l (l.drop k) w1 (fun j => j = w.heap.size + 1) (fun w2 => w2.cell? ⟨w.heap.size + 1, 0, none⟩ = some (.int .u64 (n : Int)))
    (fun j hj => by omega) (fun w2 w3 h hb => cell_keep (by show w.heap.size + 1 < _; omega) h hb) ?_).mono ?_
  · intro R O w2 hr hb hR hO
    have c0 := b0.below hb (by omega)
    have c1 := b1.below hb (by omega)
    exact take_num_ok top HR.out ht hl w2 hr (c0.cell 0) (c1.cell 0) (c1.free 0) (by omega) (by omega)
  rintro e w2 ⟨rfl, hk, hq⟩
  have hB := hk.below h1 (fun j hj => by omega)
  go_wp2_with fail
  go_ret2
  exact ⟨rfl, hB⟩

theorem RS.drewN {w : World} {R O : Nat} {l : List UInt8} (h : RS w R O l) (n : Nat) : RS (w.drewN n) R O l := ⟨h.rd, h.of⟩
theorem left_q {R O : Nat} {l : List UInt8} (w : World) (h : RS w R O l) :
    Calls Tryd.prog 38 #[.pointer (some ⟨R, 0, none⟩)] w fun e w' => e = .returned (.int .i64 (l.length : Int)) ∧ w' = w := (left_c w h).mono fun _ _ ⟨a, b⟩ => ⟨a, b.symm⟩
theorem Kp.drewN {S : Nat → Prop} {a w : World} (h : Kp S a w) (n : Nat) : Kp S a (w.drewN n) := ⟨h.os, h.tape, h.output, h.size, h.block⟩
theorem toList_str (l : List UInt8) : (str l).toList = l := ByteArray.toList_mk l
set_option maxHeartbeats 4000000 in
theorem take_open_ok {R O S F : Nat} {l1 : List UInt8} {n k : Nat} {u : Value} (w : World) (h : RS w R O (49 :: l1)) (hl : l1.length < 549755813888)
    (hF : w.cell? ⟨F, 0, none⟩ = some (.string (str (49 :: l1)))) (hS : w.cell? ⟨S, 0, none⟩ = some u) (hSf : w.frozen? ⟨S, 0, none⟩ = false) (hSR : S ≠ R) (hSO : S ≠ O) (hFR : F ≠ R) (hFO : F ≠ O) (hFS : F ≠ S) (hT : Halves w) (hgR : 0 ≠ R) (hgO : 0 ≠ O) (hgS : 0 ≠ S)
    (hR : numR l1 = (n, k, 0)) (ht : n ≤ 65536) (hn : k + n ≤ l1.length) (h4 : 4 ≤ (l1.drop (k + n)).length)
    (hck : (l1.drop (k + n)).take 4 = four (chk ((49 :: l1).take (l1.length + 1 - (l1.drop (k + n)).length)))) :
    Calls Tryd.prog 46 #[.pointer (some ⟨R, 0, none⟩), .pointer (some ⟨S, 0, none⟩), .pointer (some ⟨F, 0, none⟩)] w fun e w2 =>
      e = .returned (.tuple #[]) ∧ RS w2 R O ((l1.drop (k + n)).drop 4) ∧ Kp (fun j => j = R ∨ j = O ∨ j = S) w w2 ∧ w2.cell? ⟨S, 0, none⟩ = some (.string (str ((l1.drop k).take n))) := by
  have hsz := str_size
  have htl := toList_str
  have HR := Lib.hid hR
  clear hR
  have hv : ∀ hh, (str [49])[0]'hh = 49 := fun _ => rfl
  go_enter Tryd.func46, Tryd.ntmps46
  go_wp2_with fail
  refine (bytes_ok 1 (by simp) (by simp; omega) _ h).mono ?_
  rintro e w1 ⟨rfl, hk1, hr1⟩
  simp only [List.take_succ_cons, List.take_zero, List.drop_succ_cons, List.drop_zero] at hr1 ⊢
  go_wp2_with fail
  refine (must_ok _).mono ?_
  rintro e w' ⟨rfl, rfl⟩
  go_wp2_with fail
  refine (rtext_ok 65536 (by omega) HR.out ht hn (by omega) _ hr1).mono ?_
  rintro e w2 ⟨rfl, hk2, hr2⟩
  have hS1 := hk2.cell (hk1.cell hS hSR hSO) hSR hSO
  have hf1 : w2.frozen? ⟨S, 0, none⟩ = false := by rw [hk2.free (hk1.cell hS hSR hSO) hSR hSO, hk1.free hS hSR hSO]; exact hSf
  go_wp2_with fail
  have hr3 : RS (w2.setCell ⟨S, 0, none⟩ (.string (str (List.take n (List.drop k l1))))) R O (l1.drop (k + n)) := ⟨hr2.rd.far (fun e => hSR e.symm) _, hr2.of.far (fun e => hSO e.symm) _⟩
  have hF3 : (w2.setCell ⟨S, 0, none⟩ (.string (str (List.take n (List.drop k l1))))).cell? ⟨F, 0, none⟩ = some (.string (str (49 :: l1))) := by
    rw [World.cell?_setCell_other _ _ _ _ (by intro e; injection e with e1 e2; exact hFS e1.symm)]
    exact hk2.cell (hk1.cell hF hFR hFO) hFR hFO
  generalize hw3 : (w2.setCell ⟨S, 0, none⟩ (.string (str (List.take n (List.drop k l1))))) = w3 at hr3 hF3 ⊢
  have hlen : (l1.drop (k + n)).length ≤ l1.length := by rw [List.length_drop]; omega
  obtain ⟨l2, hl2⟩ : ∃ l2, l2 = l1.drop (k + n) := ⟨_, rfl⟩
  rw [← hl2] at hlen hr3 h4 hck
  have HCK := Lib.hid hck
  have HL := Lib.hid hl2
  have HW := Lib.hid hw3
  have hx := str_take (49 :: l1) (l1.length + 1 - l2.length)
  clear hl2 hw3 hck
  go_quiet ((go_at_call 38; exact Calls.quiet_of_same (left_q _ (RS.drewN hr3 _))))
  go_wp2_with fail
  refine (bytes_ok 4 h4 (by omega) _ (RS.drewN hr3 nq)).mono ?_
  rintro e w4 ⟨rfl, hk4, hr4⟩
  go_wp2_with fail
  have hT4 : Halves w4 := by
    intro i hi
    have e1 := hk2.cell (hk1.cell (hT i hi) hgR hgO) hgR hgO
    have e3 : w3.cell? ⟨0, i, none⟩ = some (.int .u32 (tab i : Int)) := by
      rw [← HW.out, World.cell?_setCell_other _ _ _ _ (by intro e; injection e with e1 e2; exact hgS e1.symm)]; exact e1
    exact hk4.cell (show (w3.drewN nq).cell? _ = _ from e3) hgR hgO
  refine (seal_c _ (by rw [List.length_take, List.length_cons]; omega) _ hT4).mono ?_
  clear hT4
  rintro e w5 ⟨rfl, hb5⟩
  have hcb : (List.take 4 l2 == four (chk (List.take (l1.length + 1 - l2.length) (49 :: l1)))) = true := by rw [beq_iff_eq]; exact HCK.out
  go_wp2_with fail
  refine (must_ok _).mono ?_
  rintro e w6 ⟨rfl, rfl⟩
  clear hcb
  go_wp2_with fail
  go_end0
  have k3 : Kp (fun j => j = R ∨ j = O ∨ j = S) w w3 := by
    rw [← HW.out]; exact (Kp.of_kept (hk1.trans hk2) (.inl rfl) (.inr (.inl rfl))).set (.inr (.inr rfl)) _
  have s3 : w3.cell? ⟨S, 0, none⟩ = some (.string (str ((l1.drop k).take n))) := by
    rw [← HW.out]; exact World.cell?_setCell_same _ _ _ hS1
  have s4 := hk4.cell (show (w3.drewN nq).cell? ⟨S, 0, none⟩ = _ from s3) hSR hSO
  refine ⟨rfl, by rw [← HL.out]; exact hr4.below hb5, ((k3.drewN nq).trans (Kp.of_kept hk4 (.inl rfl) (.inr (.inl rfl)))).trans (Kp.of_below hb5), ?_⟩
  exact (hb5.cell (World.block_lt_of_cell? _ _ s4)).trans s4
set_option maxHeartbeats 4000000 in
theorem take_open_none {R O S F : Nat}  (w : World) (h : RS w R O []) 
     :
    Calls Tryd.prog 46 #[.pointer (some ⟨R, 0, none⟩), .pointer (some ⟨S, 0, none⟩), .pointer (some ⟨F, 0, none⟩)] w fun e w2 =>
      e = .panicked (flt O) ∧ Wrong w2 O 4 ∧ Kp (fun j => j = R ∨ j = O ∨ j = S) w w2 := by
  have hsz := str_size
  go_enter Tryd.func46, Tryd.ntmps46
  go_wp2_with fail
  refine (bytes_short 1 (.inr (by simp)) _ h).mono ?_
  rintro e w1 ⟨rfl, hk1, hr1⟩
  exact ⟨rfl, rfl, hr1, Kp.of_kept hk1 (.inl rfl) (.inr (.inl rfl))⟩
set_option maxHeartbeats 4000000 in
theorem take_open_version {R O S F : Nat} {l1 : List UInt8} {v : UInt8} (w : World) (h : RS w R O (v :: l1)) (hl : l1.length < 549755813888)
    (hv9 : v ≠ 49) :
    Calls Tryd.prog 46 #[.pointer (some ⟨R, 0, none⟩), .pointer (some ⟨S, 0, none⟩), .pointer (some ⟨F, 0, none⟩)] w fun e w2 =>
      e = .panicked (flt O) ∧ Wrong w2 O 6 ∧ Kp (fun j => j = R ∨ j = O ∨ j = S) w w2 := by
  have hsz := str_size
  have hv : ∀ hh, (str [v])[0]'hh = v := fun _ => rfl
  have hv2 : ((v.toNat : Int) == 49) = false := by
    rw [beq_eq_false_iff_ne]; intro e; exact hv9 (UInt8.toNat_inj.1 (by show v.toNat = 49; omega))
  go_enter Tryd.func46, Tryd.ntmps46
  go_wp2_with fail
  refine (bytes_ok 1 (by simp) (by simp; omega) _ h).mono ?_
  rintro e w1 ⟨rfl, hk1, hr1⟩
  simp only [List.take_succ_cons, List.take_zero, List.drop_succ_cons, List.drop_zero] at hr1 ⊢
  go_wp2_with fail
  refine (must_no _ hr1).mono ?_
  rintro e w2 ⟨rfl, hk2, hr2⟩
  exact ⟨rfl, rfl, hr2, Kp.of_kept (hk1.trans hk2) (.inl rfl) (.inr (.inl rfl))⟩
set_option maxHeartbeats 4000000 in
theorem take_open_text {R O S F : Nat} {l1 : List UInt8} (w : World) (h : RS w R O (49 :: l1)) (hl : l1.length < 549755813888)
    (e0 : Nat) (hX : ∀ w1, RS w1 R O l1 → Calls Tryd.prog 34 #[.pointer (some ⟨R, 0, none⟩), .int .i64 65536] w1 (Fell w1 R O e0)) :
    Calls Tryd.prog 46 #[.pointer (some ⟨R, 0, none⟩), .pointer (some ⟨S, 0, none⟩), .pointer (some ⟨F, 0, none⟩)] w fun e w2 =>
      e = .panicked (flt O) ∧ Wrong w2 O e0 ∧ Kp (fun j => j = R ∨ j = O ∨ j = S) w w2 := by
  have hsz := str_size
  have hv : ∀ hh, (str [49])[0]'hh = 49 := fun _ => rfl
  have HX := Lib.hid hX
  clear hX
  go_enter Tryd.func46, Tryd.ntmps46
  go_wp2_with fail
  refine (bytes_ok 1 (by simp) (by simp; omega) _ h).mono ?_
  rintro e w1 ⟨rfl, hk1, hr1⟩
  simp only [List.take_succ_cons, List.take_zero, List.drop_succ_cons, List.drop_zero] at hr1 ⊢
  go_wp2_with fail
  refine (must_ok _).mono ?_
  rintro e w' ⟨rfl, rfl⟩
  go_wp2_with fail
  refine (HX.out _ hr1).mono ?_
  rintro e w2 ⟨rfl, hk2, hr2⟩
  exact ⟨rfl, rfl, hr2, Kp.of_kept (hk1.trans hk2) (.inl rfl) (.inr (.inl rfl))⟩
set_option maxHeartbeats 4000000 in
theorem take_open_short {R O S F : Nat} {l1 : List UInt8} {n k : Nat} {u : Value} (w : World) (h : RS w R O (49 :: l1)) (hl : l1.length < 549755813888)
    (hF : w.cell? ⟨F, 0, none⟩ = some (.string (str (49 :: l1)))) (hS : w.cell? ⟨S, 0, none⟩ = some u) (hSf : w.frozen? ⟨S, 0, none⟩ = false) (hSR : S ≠ R) (hSO : S ≠ O) (hFR : F ≠ R) (hFO : F ≠ O) (hFS : F ≠ S)
    (hR : numR l1 = (n, k, 0)) (ht : n ≤ 65536) (hn : k + n ≤ l1.length) (h4 : (l1.drop (k + n)).length < 4) :
    Calls Tryd.prog 46 #[.pointer (some ⟨R, 0, none⟩), .pointer (some ⟨S, 0, none⟩), .pointer (some ⟨F, 0, none⟩)] w fun e w2 =>
      e = .panicked (flt O) ∧ Wrong w2 O 4 ∧ Kp (fun j => j = R ∨ j = O ∨ j = S) w w2 := by
  have hsz := str_size
  have HR := Lib.hid hR
  clear hR
  have hv : ∀ hh, (str [49])[0]'hh = 49 := fun _ => rfl
  go_enter Tryd.func46, Tryd.ntmps46
  go_wp2_with fail
  refine (bytes_ok 1 (by simp) (by simp; omega) _ h).mono ?_
  rintro e w1 ⟨rfl, hk1, hr1⟩
  simp only [List.take_succ_cons, List.take_zero, List.drop_succ_cons, List.drop_zero] at hr1 ⊢
  go_wp2_with fail
  refine (must_ok _).mono ?_
  rintro e w' ⟨rfl, rfl⟩
  go_wp2_with fail
  refine (rtext_ok 65536 (by omega) HR.out ht hn (by omega) _ hr1).mono ?_
  rintro e w2 ⟨rfl, hk2, hr2⟩
  have hS1 := hk2.cell (hk1.cell hS hSR hSO) hSR hSO
  have hf1 : w2.frozen? ⟨S, 0, none⟩ = false := by rw [hk2.free (hk1.cell hS hSR hSO) hSR hSO, hk1.free hS hSR hSO]; exact hSf
  go_wp2_with fail
  have hr3 : RS (w2.setCell ⟨S, 0, none⟩ (.string (str (List.take n (List.drop k l1))))) R O (l1.drop (k + n)) := ⟨hr2.rd.far (fun e => hSR e.symm) _, hr2.of.far (fun e => hSO e.symm) _⟩
  have hF3 : (w2.setCell ⟨S, 0, none⟩ (.string (str (List.take n (List.drop k l1))))).cell? ⟨F, 0, none⟩ = some (.string (str (49 :: l1))) := by
    rw [World.cell?_setCell_other _ _ _ _ (by intro e; injection e with e1 e2; exact hFS e1.symm)]
    exact hk2.cell (hk1.cell hF hFR hFO) hFR hFO
  generalize hw3 : (w2.setCell ⟨S, 0, none⟩ (.string (str (List.take n (List.drop k l1))))) = w3 at hr3 hF3 ⊢
  have hlen : (l1.drop (k + n)).length ≤ l1.length := by rw [List.length_drop]; omega
  obtain ⟨l2, hl2⟩ : ∃ l2, l2 = l1.drop (k + n) := ⟨_, rfl⟩
  rw [← hl2] at hlen hr3 h4
  have HL := Lib.hid hl2
  have HW := Lib.hid hw3
  have hx := str_take (49 :: l1) (l1.length + 1 - l2.length)
  clear hl2 hw3
  go_quiet ((go_at_call 38; exact Calls.quiet_of_same (left_q _ (RS.drewN hr3 _))))
  go_wp2_with fail
  refine (bytes_short 4 (.inr (by omega)) _ (RS.drewN hr3 nq)).mono ?_
  rintro e w4 ⟨rfl, hk4, hr4⟩
  have k3 : Kp (fun j => j = R ∨ j = O ∨ j = S) w w3 := by
    rw [← HW.out]; exact (Kp.of_kept (hk1.trans hk2) (.inl rfl) (.inr (.inl rfl))).set (.inr (.inr rfl)) _
  exact ⟨rfl, rfl, hr4, (k3.drewN nq).trans (Kp.of_kept hk4 (.inl rfl) (.inr (.inl rfl)))⟩
set_option maxHeartbeats 4000000 in
theorem take_open_check {R O S F : Nat} {l1 : List UInt8} {n k : Nat} {u : Value} (w : World) (h : RS w R O (49 :: l1)) (hl : l1.length < 549755813888)
    (hF : w.cell? ⟨F, 0, none⟩ = some (.string (str (49 :: l1)))) (hS : w.cell? ⟨S, 0, none⟩ = some u) (hSf : w.frozen? ⟨S, 0, none⟩ = false) (hSR : S ≠ R) (hSO : S ≠ O) (hFR : F ≠ R) (hFO : F ≠ O) (hFS : F ≠ S) (hT : Halves w) (hgR : 0 ≠ R) (hgO : 0 ≠ O) (hgS : 0 ≠ S)
    (hR : numR l1 = (n, k, 0)) (ht : n ≤ 65536) (hn : k + n ≤ l1.length) (h4 : 4 ≤ (l1.drop (k + n)).length)
    (hck : (l1.drop (k + n)).take 4 ≠ four (chk ((49 :: l1).take (l1.length + 1 - (l1.drop (k + n)).length)))) :
    Calls Tryd.prog 46 #[.pointer (some ⟨R, 0, none⟩), .pointer (some ⟨S, 0, none⟩), .pointer (some ⟨F, 0, none⟩)] w fun e w2 =>
      e = .panicked (flt O) ∧ Wrong w2 O 6 ∧ Kp (fun j => j = R ∨ j = O ∨ j = S) w w2 := by
  have hsz := str_size
  have htl := toList_str
  have HR := Lib.hid hR
  clear hR
  have hv : ∀ hh, (str [49])[0]'hh = 49 := fun _ => rfl
  go_enter Tryd.func46, Tryd.ntmps46
  go_wp2_with fail
  refine (bytes_ok 1 (by simp) (by simp; omega) _ h).mono ?_
  rintro e w1 ⟨rfl, hk1, hr1⟩
  simp only [List.take_succ_cons, List.take_zero, List.drop_succ_cons, List.drop_zero] at hr1 ⊢
  go_wp2_with fail
  refine (must_ok _).mono ?_
  rintro e w' ⟨rfl, rfl⟩
  go_wp2_with fail
  refine (rtext_ok 65536 (by omega) HR.out ht hn (by omega) _ hr1).mono ?_
  rintro e w2 ⟨rfl, hk2, hr2⟩
  have hS1 := hk2.cell (hk1.cell hS hSR hSO) hSR hSO
  have hf1 : w2.frozen? ⟨S, 0, none⟩ = false := by rw [hk2.free (hk1.cell hS hSR hSO) hSR hSO, hk1.free hS hSR hSO]; exact hSf
  go_wp2_with fail
  have hr3 : RS (w2.setCell ⟨S, 0, none⟩ (.string (str (List.take n (List.drop k l1))))) R O (l1.drop (k + n)) := ⟨hr2.rd.far (fun e => hSR e.symm) _, hr2.of.far (fun e => hSO e.symm) _⟩
  have hF3 : (w2.setCell ⟨S, 0, none⟩ (.string (str (List.take n (List.drop k l1))))).cell? ⟨F, 0, none⟩ = some (.string (str (49 :: l1))) := by
    rw [World.cell?_setCell_other _ _ _ _ (by intro e; injection e with e1 e2; exact hFS e1.symm)]
    exact hk2.cell (hk1.cell hF hFR hFO) hFR hFO
  generalize hw3 : (w2.setCell ⟨S, 0, none⟩ (.string (str (List.take n (List.drop k l1))))) = w3 at hr3 hF3 ⊢
  have hlen : (l1.drop (k + n)).length ≤ l1.length := by rw [List.length_drop]; omega
  obtain ⟨l2, hl2⟩ : ∃ l2, l2 = l1.drop (k + n) := ⟨_, rfl⟩
  rw [← hl2] at hlen hr3 h4 hck
  have HCK := Lib.hid hck
  have HL := Lib.hid hl2
  have HW := Lib.hid hw3
  have hx := str_take (49 :: l1) (l1.length + 1 - l2.length)
  clear hl2 hw3 hck
  go_quiet ((go_at_call 38; exact Calls.quiet_of_same (left_q _ (RS.drewN hr3 _))))
  go_wp2_with fail
  refine (bytes_ok 4 h4 (by omega) _ (RS.drewN hr3 nq)).mono ?_
  rintro e w4 ⟨rfl, hk4, hr4⟩
  go_wp2_with fail
  have hT4 : Halves w4 := by
    intro i hi
    have e1 := hk2.cell (hk1.cell (hT i hi) hgR hgO) hgR hgO
    have e3 : w3.cell? ⟨0, i, none⟩ = some (.int .u32 (tab i : Int)) := by
      rw [← HW.out, World.cell?_setCell_other _ _ _ _ (by intro e; injection e with e1 e2; exact hgS e1.symm)]; exact e1
    exact hk4.cell (show (w3.drewN nq).cell? _ = _ from e3) hgR hgO
  refine (seal_c _ (by rw [List.length_take, List.length_cons]; omega) _ hT4).mono ?_
  clear hT4
  rintro e w5 ⟨rfl, hb5⟩
  have hcb : (List.take 4 l2 == four (chk (List.take (l1.length + 1 - l2.length) (49 :: l1)))) = false := by rw [beq_eq_false_iff_ne]; exact HCK.out
  go_wp2_with fail
  refine (must_no _ (hr4.below hb5)).mono ?_
  rintro e w6 ⟨rfl, hk6, hr6⟩
  have k3 : Kp (fun j => j = R ∨ j = O ∨ j = S) w w3 := by
    rw [← HW.out]; exact (Kp.of_kept (hk1.trans hk2) (.inl rfl) (.inr (.inl rfl))).set (.inr (.inr rfl)) _
  exact ⟨rfl, rfl, hr6, (((k3.drewN nq).trans (Kp.of_kept hk4 (.inl rfl) (.inr (.inl rfl)))).trans (Kp.of_below hb5)).trans (Kp.of_kept hk6 (.inl rfl) (.inr (.inl rfl)))⟩
end Go.Proofs.YtmoammadibepkaaDoor.Wirey
