/- Contracts of the laws' own num, text and flag (layer 3): whatever bytes. Nothing that was there turns. -/
import Derived.Test.YtmoammadibepkaaDoorWireAsk
import Derived.Test.YtmoammadibepkaaDoorWireTake
namespace Go.Proofs.YtmoammadibepkaaDoor.Wirey
open Go.ChangeShapes Go.WideShapes Go.ChangeAt Go.RowKit

theorem enters_text : ∀ (args : Array Value) (w : World), (callFunc 43 args).run Tryd.prog w = .ok (.enter 43 args) w := fun _ _ => by kernel_rfl
theorem enters_flag : ∀ (args : Array Value) (w : World), (callFunc 44 args).run Tryd.prog w = .ok (.enter 44 args) w := fun _ _ => by kernel_rfl

set_option maxHeartbeats 2000000 in
theorem take_num2 {R O T N : Nat} {l m : List UInt8} {u : Value} (v : Nat) (top : Nat) (w : World) (_ : RS w R O l) (hT : w.cell? ⟨T, 0, none⟩ = some (.int .u64 (top : Int))) (hN : w.cell? ⟨N, 0, none⟩ = some u) (hf : w.frozen? ⟨N, 0, none⟩ = false) (hNR : N ≠ R) (hNO : N ≠ O)
    (hX : Calls Tryd.prog 33 #[.pointer (some ⟨R, 0, none⟩), .int .u64 (top : Int)] w (Took w R O (.int .u64 (v : Int)) m)) :
    Calls Tryd.prog 42 #[.pointer (some ⟨R, 0, none⟩), .pointer (some ⟨T, 0, none⟩), .pointer (some ⟨N, 0, none⟩)] w fun e w2 =>
      e = .returned (.tuple #[]) ∧ RS w2 R O m ∧ Kp (fun j => j = R ∨ j = O ∨ j = N) w w2 ∧ w2.cell? ⟨N, 0, none⟩ = some (.int .u64 (v : Int)) := by
  have HX := Lib.hid hX
  clear hX
  go_enter Tryd.func42, Tryd.ntmps42
  go_wp2_with fail
  refine (HX.out).mono ?_
  rintro e w1 ⟨rfl, hk, hr⟩
  have hN1 := hk.cell hN hNR hNO
  have hf1 := (hk.free hN hNR hNO).trans hf
  go_wp2_with fail
  go_end0
  exact ⟨rfl, ⟨hr.rd.far (fun e => hNR e.symm) _, hr.of.far (fun e => hNO e.symm) _⟩, (Kp.of_kept hk (.inl rfl) (.inr (.inl rfl))).set (.inr (.inr rfl)) _, World.cell?_setCell_same _ _ _ hN1⟩
set_option maxHeartbeats 2000000 in
theorem take_num2_wrong {R O T N : Nat} {l : List UInt8} {u : Value} (top : Nat) (w : World) (_ : RS w R O l) (hT : w.cell? ⟨T, 0, none⟩ = some (.int .u64 (top : Int))) (hN : w.cell? ⟨N, 0, none⟩ = some u) (hNR : N ≠ R) (hNO : N ≠ O) (e0 : Nat)
    (hX : Calls Tryd.prog 33 #[.pointer (some ⟨R, 0, none⟩), .int .u64 (top : Int)] w (Fell w R O e0)) :
    Calls Tryd.prog 42 #[.pointer (some ⟨R, 0, none⟩), .pointer (some ⟨T, 0, none⟩), .pointer (some ⟨N, 0, none⟩)] w fun e w2 =>
      e = .panicked (flt O) ∧ Wrong w2 O e0 ∧ Kp (fun j => j = R ∨ j = O ∨ j = N) w w2 ∧ w2.cell? ⟨N, 0, none⟩ = some u := by
  have HX := Lib.hid hX
  clear hX
  go_enter Tryd.func42, Tryd.ntmps42
  go_wp2_with fail
  refine (HX.out).mono ?_
  rintro e w1 ⟨rfl, hk, hr⟩
  exact ⟨rfl, rfl, hr, Kp.of_kept hk (.inl rfl) (.inr (.inl rfl)), hk.cell hN hNR hNO⟩

set_option maxHeartbeats 2000000 in
theorem take_text2 {R O T N : Nat} {l m : List UInt8} {u : Value} (v : List UInt8) (top : Int) (w : World) (_ : RS w R O l) (hT : w.cell? ⟨T, 0, none⟩ = some (.int .i64 top)) (hN : w.cell? ⟨N, 0, none⟩ = some u) (hf : w.frozen? ⟨N, 0, none⟩ = false) (hNR : N ≠ R) (hNO : N ≠ O)
    (hX : Calls Tryd.prog 34 #[.pointer (some ⟨R, 0, none⟩), .int .i64 top] w (Took w R O (.string (str v)) m)) :
    Calls Tryd.prog 43 #[.pointer (some ⟨R, 0, none⟩), .pointer (some ⟨T, 0, none⟩), .pointer (some ⟨N, 0, none⟩)] w fun e w2 =>
      e = .returned (.tuple #[]) ∧ RS w2 R O m ∧ Kp (fun j => j = R ∨ j = O ∨ j = N) w w2 ∧ w2.cell? ⟨N, 0, none⟩ = some (.string (str v)) := by
  have HX := Lib.hid hX
  clear hX
  go_enter Tryd.func43, Tryd.ntmps43
  go_wp2_with fail
  refine (HX.out).mono ?_
  rintro e w1 ⟨rfl, hk, hr⟩
  have hN1 := hk.cell hN hNR hNO
  have hf1 := (hk.free hN hNR hNO).trans hf
  go_wp2_with fail
  go_end0
  exact ⟨rfl, ⟨hr.rd.far (fun e => hNR e.symm) _, hr.of.far (fun e => hNO e.symm) _⟩, (Kp.of_kept hk (.inl rfl) (.inr (.inl rfl))).set (.inr (.inr rfl)) _, World.cell?_setCell_same _ _ _ hN1⟩
set_option maxHeartbeats 2000000 in
theorem take_text2_wrong {R O T N : Nat} {l : List UInt8} {u : Value} (top : Int) (w : World) (_ : RS w R O l) (hT : w.cell? ⟨T, 0, none⟩ = some (.int .i64 top)) (hN : w.cell? ⟨N, 0, none⟩ = some u) (hNR : N ≠ R) (hNO : N ≠ O) (e0 : Nat)
    (hX : Calls Tryd.prog 34 #[.pointer (some ⟨R, 0, none⟩), .int .i64 top] w (Fell w R O e0)) :
    Calls Tryd.prog 43 #[.pointer (some ⟨R, 0, none⟩), .pointer (some ⟨T, 0, none⟩), .pointer (some ⟨N, 0, none⟩)] w fun e w2 =>
      e = .panicked (flt O) ∧ Wrong w2 O e0 ∧ Kp (fun j => j = R ∨ j = O ∨ j = N) w w2 ∧ w2.cell? ⟨N, 0, none⟩ = some u := by
  have HX := Lib.hid hX
  clear hX
  go_enter Tryd.func43, Tryd.ntmps43
  go_wp2_with fail
  refine (HX.out).mono ?_
  rintro e w1 ⟨rfl, hk, hr⟩
  exact ⟨rfl, rfl, hr, Kp.of_kept hk (.inl rfl) (.inr (.inl rfl)), hk.cell hN hNR hNO⟩

set_option maxHeartbeats 2000000 in
theorem take_flag2 {R O N : Nat} {l m : List UInt8} {u : Value} (v : Bool) (w : World) (_ : RS w R O l) (hN : w.cell? ⟨N, 0, none⟩ = some u) (hf : w.frozen? ⟨N, 0, none⟩ = false) (hNR : N ≠ R) (hNO : N ≠ O)
    (hX : Calls Tryd.prog 35 #[.pointer (some ⟨R, 0, none⟩)] w (Took w R O (.bool v) m)) :
    Calls Tryd.prog 44 #[.pointer (some ⟨R, 0, none⟩), .pointer (some ⟨N, 0, none⟩)] w fun e w2 =>
      e = .returned (.tuple #[]) ∧ RS w2 R O m ∧ Kp (fun j => j = R ∨ j = O ∨ j = N) w w2 ∧ w2.cell? ⟨N, 0, none⟩ = some (.bool v) := by
  have HX := Lib.hid hX
  clear hX
  go_enter Tryd.func44, Tryd.ntmps44
  go_wp2_with fail
  refine (HX.out).mono ?_
  rintro e w1 ⟨rfl, hk, hr⟩
  have hN1 := hk.cell hN hNR hNO
  have hf1 := (hk.free hN hNR hNO).trans hf
  go_wp2_with fail
  go_end0
  exact ⟨rfl, ⟨hr.rd.far (fun e => hNR e.symm) _, hr.of.far (fun e => hNO e.symm) _⟩, (Kp.of_kept hk (.inl rfl) (.inr (.inl rfl))).set (.inr (.inr rfl)) _, World.cell?_setCell_same _ _ _ hN1⟩
set_option maxHeartbeats 2000000 in
theorem take_flag2_wrong {R O N : Nat} {l : List UInt8} {u : Value} (w : World) (_ : RS w R O l) (hN : w.cell? ⟨N, 0, none⟩ = some u) (hNR : N ≠ R) (hNO : N ≠ O) (e0 : Nat)
    (hX : Calls Tryd.prog 35 #[.pointer (some ⟨R, 0, none⟩)] w (Fell w R O e0)) :
    Calls Tryd.prog 44 #[.pointer (some ⟨R, 0, none⟩), .pointer (some ⟨N, 0, none⟩)] w fun e w2 =>
      e = .panicked (flt O) ∧ Wrong w2 O e0 ∧ Kp (fun j => j = R ∨ j = O ∨ j = N) w w2 ∧ w2.cell? ⟨N, 0, none⟩ = some u := by
  have HX := Lib.hid hX
  clear hX
  go_enter Tryd.func44, Tryd.ntmps44
  go_wp2_with fail
  refine (HX.out).mono ?_
  rintro e w1 ⟨rfl, hk, hr⟩
  exact ⟨rfl, rfl, hr, Kp.of_kept hk (.inl rfl) (.inr (.inl rfl)), hk.cell hN hNR hNO⟩

set_option maxHeartbeats 2000000 in
theorem lnum_good {l m : List UInt8} (v : Nat) (top : Nat) (w : World)
    (hX : ∀ R O w1, RS w1 R O l → Calls Tryd.prog 33 #[.pointer (some ⟨R, 0, none⟩), .int .u64 (top : Int)] w1 (Took w1 R O (.int .u64 (v : Int)) m)) :
    Calls Tryd.prog 11 #[.string (str l), .int .u64 (top : Int)] w fun e w' => e = .returned (.tuple #[.int .u64 (v : Int), .int .i64 (endE m : Int)]) ∧ Below w.heap.size w w' := by
  have HX := Lib.hid hX
  clear hX
  have hmf : ∀ (fn : Fn) (first cap : Array Value) (w : World), (Instr.makeFunc fn first cap).run Tryd.prog w = .ok (.func fn first cap) w := fun _ _ _ _ => rfl
  go_enter Tryd.func11, Tryd.ntmps11
  go_wp2_with fail
  obtain ⟨h1, b0, b1, hs⟩ := two_start w 22 22 #[.int .u64 (top : Int)] #[.int .u64 0]
  generalize ((w.alloc (.cells #[.int .u64 (top : Int)] 22)).alloc (.cells #[.int .u64 0] 22)) = w1 at h1 b0 b1 hs ⊢
  refine (read_ok _ enters_num #[.pointer (some ⟨w.heap.size, 0, none⟩), .pointer (some ⟨w.heap.size + 1, 0, none⟩)] l m w1 (fun j => j = w.heap.size + 1) (fun w2 => w2.cell? ⟨w.heap.size + 1, 0, none⟩ = some (.int .u64 (v : Int)))
    (fun j hj => by omega) (fun w2 w3 h hb => cell_keep (by show w.heap.size + 1 < _; omega) h hb) ?_).mono ?_
  · intro R O w2 hr hb hR hO
    have c0 := b0.below hb (by omega)
    have c1 := b1.below hb (by omega)
    exact take_num2 v top w2 hr (c0.cell 0) (c1.cell 0) (c1.free 0) (by omega) (by omega) (HX.out R O w2 hr)
  rintro e w2 ⟨rfl, hk, hq⟩
  have hB := hk.below h1 (fun j hj => by omega)
  go_wp2_with fail
  go_ret2
  exact ⟨rfl, hB⟩
set_option maxHeartbeats 2000000 in
theorem lnum_wrong {l : List UInt8} (top : Nat) (w : World) (e0 : Nat)
    (hX : ∀ R O w1, RS w1 R O l → Calls Tryd.prog 33 #[.pointer (some ⟨R, 0, none⟩), .int .u64 (top : Int)] w1 (Fell w1 R O e0)) :
    Calls Tryd.prog 11 #[.string (str l), .int .u64 (top : Int)] w fun e w' => e = .returned (.tuple #[.int .u64 0, .int .i64 (e0 : Int)]) ∧ Below w.heap.size w w' := by
  have HX := Lib.hid hX
  clear hX
  have hmf : ∀ (fn : Fn) (first cap : Array Value) (w : World), (Instr.makeFunc fn first cap).run Tryd.prog w = .ok (.func fn first cap) w := fun _ _ _ _ => rfl
  go_enter Tryd.func11, Tryd.ntmps11
  go_wp2_with fail
  obtain ⟨h1, b0, b1, hs⟩ := two_start w 22 22 #[.int .u64 (top : Int)] #[.int .u64 0]
  generalize ((w.alloc (.cells #[.int .u64 (top : Int)] 22)).alloc (.cells #[.int .u64 0] 22)) = w1 at h1 b0 b1 hs ⊢
  refine (read_wrong _ enters_num #[.pointer (some ⟨w.heap.size, 0, none⟩), .pointer (some ⟨w.heap.size + 1, 0, none⟩)] l e0 w1 (fun j => j = w.heap.size + 1) (fun w2 => w2.cell? ⟨w.heap.size + 1, 0, none⟩ = some (.int .u64 0))
    (fun j hj => by omega) (fun w2 w3 h hb => cell_keep (by show w.heap.size + 1 < _; omega) h hb) ?_).mono ?_
  · intro R O w2 hr hb hR hO
    have c0 := b0.below hb (by omega)
    have c1 := b1.below hb (by omega)
    exact take_num2_wrong top w2 hr (c0.cell 0) (c1.cell 0) (by omega) (by omega) e0 (HX.out R O w2 hr)
  rintro e w2 ⟨rfl, hk, hq⟩
  have hB := hk.below h1 (fun j hj => by omega)
  go_wp2_with fail
  go_ret2
  exact ⟨rfl, hB⟩

set_option maxHeartbeats 2000000 in
theorem ltext_good {l m : List UInt8} (v : List UInt8) (top : Int) (w : World)
    (hX : ∀ R O w1, RS w1 R O l → Calls Tryd.prog 34 #[.pointer (some ⟨R, 0, none⟩), .int .i64 top] w1 (Took w1 R O (.string (str v)) m)) :
    Calls Tryd.prog 18 #[.string (str l), .int .i64 top] w fun e w' => e = .returned (.tuple #[.string (str v), .int .i64 (endE m : Int)]) ∧ Below w.heap.size w w' := by
  have HX := Lib.hid hX
  clear hX
  have hmf : ∀ (fn : Fn) (first cap : Array Value) (w : World), (Instr.makeFunc fn first cap).run Tryd.prog w = .ok (.func fn first cap) w := fun _ _ _ _ => rfl
  go_enter Tryd.func18, Tryd.ntmps18
  go_wp2_with fail
  obtain ⟨h1, b0, b1, hs⟩ := two_start w 3 9 #[.int .i64 top] #[.string ⟨#[]⟩]
  generalize ((w.alloc (.cells #[.int .i64 top] 3)).alloc (.cells #[.string ⟨#[]⟩] 9)) = w1 at h1 b0 b1 hs ⊢
  refine (read_ok _ enters_text #[.pointer (some ⟨w.heap.size, 0, none⟩), .pointer (some ⟨w.heap.size + 1, 0, none⟩)] l m w1 (fun j => j = w.heap.size + 1) (fun w2 => w2.cell? ⟨w.heap.size + 1, 0, none⟩ = some (.string (str v)))
    (fun j hj => by omega) (fun w2 w3 h hb => cell_keep (by show w.heap.size + 1 < _; omega) h hb) ?_).mono ?_
  · intro R O w2 hr hb hR hO
    have c0 := b0.below hb (by omega)
    have c1 := b1.below hb (by omega)
    exact take_text2 v top w2 hr (c0.cell 0) (c1.cell 0) (c1.free 0) (by omega) (by omega) (HX.out R O w2 hr)
  rintro e w2 ⟨rfl, hk, hq⟩
  have hB := hk.below h1 (fun j hj => by omega)
  go_wp2_with fail
  go_ret2
  exact ⟨rfl, hB⟩
set_option maxHeartbeats 2000000 in
theorem ltext_wrong {l : List UInt8} (top : Int) (w : World) (e0 : Nat)
    (hX : ∀ R O w1, RS w1 R O l → Calls Tryd.prog 34 #[.pointer (some ⟨R, 0, none⟩), .int .i64 top] w1 (Fell w1 R O e0)) :
    Calls Tryd.prog 18 #[.string (str l), .int .i64 top] w fun e w' => e = .returned (.tuple #[.string ⟨#[]⟩, .int .i64 (e0 : Int)]) ∧ Below w.heap.size w w' := by
  have HX := Lib.hid hX
  clear hX
  have hmf : ∀ (fn : Fn) (first cap : Array Value) (w : World), (Instr.makeFunc fn first cap).run Tryd.prog w = .ok (.func fn first cap) w := fun _ _ _ _ => rfl
  go_enter Tryd.func18, Tryd.ntmps18
  go_wp2_with fail
  obtain ⟨h1, b0, b1, hs⟩ := two_start w 3 9 #[.int .i64 top] #[.string ⟨#[]⟩]
  generalize ((w.alloc (.cells #[.int .i64 top] 3)).alloc (.cells #[.string ⟨#[]⟩] 9)) = w1 at h1 b0 b1 hs ⊢
  refine (read_wrong _ enters_text #[.pointer (some ⟨w.heap.size, 0, none⟩), .pointer (some ⟨w.heap.size + 1, 0, none⟩)] l e0 w1 (fun j => j = w.heap.size + 1) (fun w2 => w2.cell? ⟨w.heap.size + 1, 0, none⟩ = some (.string ⟨#[]⟩))
    (fun j hj => by omega) (fun w2 w3 h hb => cell_keep (by show w.heap.size + 1 < _; omega) h hb) ?_).mono ?_
  · intro R O w2 hr hb hR hO
    have c0 := b0.below hb (by omega)
    have c1 := b1.below hb (by omega)
    exact take_text2_wrong top w2 hr (c0.cell 0) (c1.cell 0) (by omega) (by omega) e0 (HX.out R O w2 hr)
  rintro e w2 ⟨rfl, hk, hq⟩
  have hB := hk.below h1 (fun j hj => by omega)
  go_wp2_with fail
  go_ret2
  exact ⟨rfl, hB⟩

set_option maxHeartbeats 2000000 in
theorem lflag_good {l m : List UInt8} (v : Bool) (w : World)
    (hX : ∀ R O w1, RS w1 R O l → Calls Tryd.prog 35 #[.pointer (some ⟨R, 0, none⟩)] w1 (Took w1 R O (.bool v) m)) :
    Calls Tryd.prog 19 #[.string (str l)] w fun e w' => e = .returned (.tuple #[.bool v, .int .i64 (endE m : Int)]) ∧ Below w.heap.size w w' := by
  have HX := Lib.hid hX
  clear hX
  have hmf : ∀ (fn : Fn) (first cap : Array Value) (w : World), (Instr.makeFunc fn first cap).run Tryd.prog w = .ok (.func fn first cap) w := fun _ _ _ _ => rfl
  go_enter Tryd.func19, Tryd.ntmps19
  go_wp2_with fail
  have h1 : Below w.heap.size w (w.alloc (.cells #[.bool false] 4)) := (Below.refl _ _).alloc (Nat.le_refl _) _
  have b1 : Blk (w.alloc (.cells #[.bool false] 4)) w.heap.size 4 #[.bool false] := Blk.new _ _ _
  have hs : (w.alloc (.cells #[.bool false] 4)).heap.size = w.heap.size + 1 := World.size_alloc ..
  generalize (w.alloc (.cells #[.bool false] 4)) = w1 at h1 b1 hs ⊢
  refine (read_ok _ enters_flag #[.pointer (some ⟨w.heap.size, 0, none⟩)] l m w1 (fun j => j = w.heap.size) (fun w2 => w2.cell? ⟨w.heap.size, 0, none⟩ = some (.bool v))
    (fun j hj => by omega) (fun w2 w3 h hb => cell_keep (by show w.heap.size < _; omega) h hb) ?_).mono ?_
  · intro R O w2 hr hb hR hO
    have c1 := b1.below hb (by omega)
    exact take_flag2 v w2 hr (c1.cell 0) (c1.free 0) (by omega) (by omega) (HX.out R O w2 hr)
  rintro e w2 ⟨rfl, hk, hq⟩
  have hB := hk.below h1 (fun j hj => by omega)
  go_wp2_with fail
  go_ret2
  exact ⟨rfl, hB⟩
set_option maxHeartbeats 2000000 in
theorem lflag_wrong {l : List UInt8} (w : World) (e0 : Nat)
    (hX : ∀ R O w1, RS w1 R O l → Calls Tryd.prog 35 #[.pointer (some ⟨R, 0, none⟩)] w1 (Fell w1 R O e0)) :
    Calls Tryd.prog 19 #[.string (str l)] w fun e w' => e = .returned (.tuple #[.bool false, .int .i64 (e0 : Int)]) ∧ Below w.heap.size w w' := by
  have HX := Lib.hid hX
  clear hX
  have hmf : ∀ (fn : Fn) (first cap : Array Value) (w : World), (Instr.makeFunc fn first cap).run Tryd.prog w = .ok (.func fn first cap) w := fun _ _ _ _ => rfl
  go_enter Tryd.func19, Tryd.ntmps19
  go_wp2_with fail
  have h1 : Below w.heap.size w (w.alloc (.cells #[.bool false] 4)) := (Below.refl _ _).alloc (Nat.le_refl _) _
  have b1 : Blk (w.alloc (.cells #[.bool false] 4)) w.heap.size 4 #[.bool false] := Blk.new _ _ _
  have hs : (w.alloc (.cells #[.bool false] 4)).heap.size = w.heap.size + 1 := World.size_alloc ..
  generalize (w.alloc (.cells #[.bool false] 4)) = w1 at h1 b1 hs ⊢
  refine (read_wrong _ enters_flag #[.pointer (some ⟨w.heap.size, 0, none⟩)] l e0 w1 (fun j => j = w.heap.size) (fun w2 => w2.cell? ⟨w.heap.size, 0, none⟩ = some (.bool false))
    (fun j hj => by omega) (fun w2 w3 h hb => cell_keep (by show w.heap.size < _; omega) h hb) ?_).mono ?_
  · intro R O w2 hr hb hR hO
    have c1 := b1.below hb (by omega)
    exact take_flag2_wrong w2 hr (c1.cell 0) (by omega) (by omega) e0 (HX.out R O w2 hr)
  rintro e w2 ⟨rfl, hk, hq⟩
  have hB := hk.below h1 (fun j hj => by omega)
  go_wp2_with fail
  go_ret2
  exact ⟨rfl, hB⟩

end Go.Proofs.YtmoammadibepkaaDoor.Wirey
