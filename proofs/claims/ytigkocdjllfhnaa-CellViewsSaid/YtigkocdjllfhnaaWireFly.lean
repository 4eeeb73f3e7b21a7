/- The contract of layer 3's Read around each of the functions that are handed to it: what it comes to when that one returns, and when it ends by the reading's panic. -/
import Derived.Test.YtigkocdjllfhnaaWireOps
import Derived.Lib.Builder
namespace Go.Proofs.Ytigkocdjllfhnaa.Wirey
open Go.ChangeShapes Go.WideShapes Go.ChangeAt Go.RowKit

theorem look {w : World} {O : Nat} {u x : Value} {b i : Nat} (o : Obj) (h : w.cell? ⟨b, i, none⟩ = some x) (hne : b ≠ O ∨ i ≠ 0) : ((w.setCell ⟨O, 0, none⟩ u).alloc o).cell? ⟨b, i, none⟩ = some x := by
  have hlt : b < w.heap.size := World.block_lt_of_cell? w _ h
  rw [World.cell?_alloc_lt _ _ _ (by simpa [World.setCell] using hlt), World.cell?_setCell_other _ _ _ _ (by intro e; injection e with e1 e2; omega)]
  exact h
theorem look_free {w : World} {O : Nat} {u x : Value} {b i : Nat} (o : Obj) (hc : w.cell? ⟨b, i, none⟩ = some x) (h : w.frozen? ⟨b, i, none⟩ = false) (hne : b ≠ O) : ((w.setCell ⟨O, 0, none⟩ u).alloc o).frozen? ⟨b, i, none⟩ = false := by
  have hlt : b < w.heap.size := World.block_lt_of_cell? w _ hc
  rw [← h]
  refine World.frozen?_of_block ?_
  rw [Below.heap_alloc _ _ _ (by simpa [World.setCell] using hlt), Below.heap_setCell _ _ _ _ hne]

set_option maxHeartbeats 2000000 in
/-- What Read defers, where its function returned. -/
theorem end_idle (V E O : Nat) (w : World) (hv : w.cell? ⟨V, 0, none⟩ = some (.pointer (some ⟨O, 0, none⟩))) (ho : w.cell? ⟨O, 0, none⟩ = some (.bool false)) (hz : w.frozen? ⟨O, 0, none⟩ = false) :
    CallsD Try.prog 26 #[.pointer (some ⟨V, 0, none⟩), .pointer (some ⟨E, 0, none⟩)] .returning w fun e u' w' => e = .returned (.tuple #[]) ∧ u' = .returning ∧ w' = w.setCell ⟨O, 0, none⟩ (.bool true) := by
  refine callsD_of_wpS Try.func26 rfl fun c₀ cs hu => ?_
  simp only [Try.ntmps26, List.size_toArray, List.length_cons, List.length_nil, Nat.reduceAdd, Nat.reduceSub, Array.replicate_succ, Array.replicate_zero, List.push_toArray, List.append_toArray, List.nil_append, List.cons_append]
  refine wpS_seq ?_
  refine wpS_of_wp ?_
  go_wp2
  refine wpS_seq ?_
  refine wpS_region ?_
  simp [wpOpsS, go_sem, recoverD, hu, Exit.thenS]
  refine wpS_of_wp ?_
  go_wp2
  exact ⟨rfl, .returning, by rw [← hu], _, results_none rfl _ _ _, rfl, rfl, rfl⟩
set_option maxHeartbeats 2000000 in
/-- What Read defers, where its function ended by the reading's panic. -/
theorem end_wrong (V E O : Nat) (k : Int) (w : World) (hv : w.cell? ⟨V, 0, none⟩ = some (.pointer (some ⟨O, 0, none⟩))) (ho : w.cell? ⟨O, 0, none⟩ = some (.bool false)) (hz : w.frozen? ⟨O, 0, none⟩ = false)
    (hk : w.cell? ⟨O, 1, none⟩ = some (.int .i64 k)) (he : w.cell? ⟨E, 0, none⟩ = some (.int .i64 0)) (hez : w.frozen? ⟨E, 0, none⟩ = false) (hVO : V ≠ O) (hEO : E ≠ O) :
    CallsD Try.prog 26 #[.pointer (some ⟨V, 0, none⟩), .pointer (some ⟨E, 0, none⟩)] (.panicking (flt O)) w fun e u' w' => e = .returned (.tuple #[]) ∧ settle u' = .returning ∧ ∃ o, w' = ((w.setCell ⟨O, 0, none⟩ (.bool true)).alloc o).setCell ⟨E, 0, none⟩ (.int .i64 k) := by
  refine callsD_of_wpS Try.func26 rfl fun c₀ cs hu => ?_
  simp only [Try.ntmps26, List.size_toArray, List.length_cons, List.length_nil, Nat.reduceAdd, Nat.reduceSub, Array.replicate_succ, Array.replicate_zero, List.push_toArray, List.append_toArray, List.nil_append, List.cons_append]
  refine wpS_seq ?_
  refine wpS_of_wp ?_
  go_wp2
  refine wpS_seq ?_
  refine wpS_region ?_
  unfold flt at hu
  have lv := look (O := O) (u := .bool true) (.cells #[.pointer (some ⟨O, 0, none⟩)] 56) hv (.inl hVO)
  have le := look (O := O) (u := .bool true) (.cells #[.pointer (some ⟨O, 0, none⟩)] 56) he (.inl hEO)
  have lk := look (O := O) (u := .bool true) (.cells #[.pointer (some ⟨O, 0, none⟩)] 56) hk (.inr (by decide))
  have lf := look_free (O := O) (u := .bool true) (.cells #[.pointer (some ⟨O, 0, none⟩)] 56) he hez hEO
  obtain ⟨j, hj⟩ : ∃ j, Try.prog.info? 52 = some j := Option.isSome_iff_exists.1 (by kernel_rfl)
  have hne := fun W : World => Lib.run_neq_ptr_same (P := Try.prog) W (tp := 50) ⟨O, 0, none⟩ Try.underlying50 hj
  have hta : ∀ (v : Value) (w : World), (Instr.typeAssert (.iface 56 v) 20 56 true).run Try.prog w = .ok (.tuple #[v, .bool true]) w := fun _ _ => by kernel_rfl
  simp [wpOpsS, go_sem, recoverD, hu, Exit.thenS]
  refine wpS_of_wp ?_
  go_wp2
  exact ⟨rfl, .panicking [{ v := .iface 56 (.agg #[.pointer (some ⟨O, 0, none⟩)]), recovered := true }], rfl, _, results_none rfl _ _ _, rfl, rfl, _, rfl⟩

/-- Nothing that was there has turned but the blocks of S. -/
structure Kp (S : Nat → Prop) (w w' : World) : Prop where
  os : w'.os = w.os
  tape : w'.tape = w.tape
  output : w'.output = w.output
  size : w.heap.size ≤ w'.heap.size
  block : ∀ k, k < w.heap.size → ¬ S k → w'.heap[k]? = w.heap[k]?
theorem Kp.refl (S : Nat → Prop) (w : World) : Kp S w w := ⟨rfl, rfl, rfl, Nat.le_refl _, fun _ _ _ => rfl⟩
theorem Kp.trans {S : Nat → Prop} {a b c : World} (h : Kp S a b) (k : Kp S b c) : Kp S a c :=
  ⟨k.os.trans h.os, k.tape.trans h.tape, k.output.trans h.output, Nat.le_trans h.size k.size, fun i hi hS => (k.block i (Nat.lt_of_lt_of_le hi h.size) hS).trans (h.block i hi hS)⟩
theorem Kp.of_kept {S : Nat → Prop} {w w' : World} {R O : Nat} (h : Kept w w' R O) (hR : S R) (hO : S O) : Kp S w w' :=
  ⟨h.os, h.tape, h.output, h.size, fun k hk hS => h.block k hk (fun e => hS (e ▸ hR)) (fun e => hS (e ▸ hO))⟩
theorem Kp.of_below {S : Nat → Prop} {w w' : World} (h : Below w.heap.size w w') : Kp S w w' := ⟨h.os, h.tape, h.output, h.size, fun k hk _ => h.block k hk⟩
theorem Kp.set {S : Nat → Prop} {a w : World} (h : Kp S a w) {p : Addr} (hp : S p.block) (u : Value) : Kp S a (w.setCell p u) :=
  h.trans ⟨rfl, rfl, rfl, by simp [World.setCell], fun k hk hS => Below.heap_setCell _ _ _ _ (fun e => hS (by rw [e]; exact hp))⟩
theorem Kp.alloc {S : Nat → Prop} {a w : World} (h : Kp S a w) (o : Obj) : Kp S a (w.alloc o) :=
  h.trans ⟨rfl, rfl, rfl, by show w.heap.size ≤ (w.heap.push o).size; simp, fun k hk _ => Below.heap_alloc w o k hk⟩
theorem Kp.blk {S : Nat → Prop} {w w' : World} {g : Nat} {t : TypeId} {cs : Array Value} (h : Kp S w w') (hb : Blk w g t cs) (hg : ¬ S g) : Blk w' g t cs := (h.block g hb.lt hg).trans hb
/-- Of what was there when Read began, what its function left stands at the end. -/
theorem Kp.then_ {S C : Nat → Prop} {w w1 w2 w3 : World} (h1 : Below w.heap.size w w1) (h2 : Kp S w1 w2) (h3 : Below w.heap.size w2 w3) (hS : ∀ k, k < w.heap.size → S k → C k) : Kp C w w3 :=
  ⟨h3.os.trans (h2.os.trans h1.os), h3.tape.trans (h2.tape.trans h1.tape), h3.output.trans (h2.output.trans h1.output), Nat.le_trans h1.size (Nat.le_trans h2.size h3.size),
    fun k hk hC => (h3.block k hk).trans ((h2.block k (Nat.lt_of_lt_of_le hk h1.size) (fun s => hC (hS k hk s))).trans (h1.block k hk))⟩

/-- What is told of bytes that are left. -/
def endE (m : List UInt8) : Nat := if m = [] then 0 else 5
theorem endE_nil : endE [] = 0 := rfl
theorem endE_some {m : List UInt8} (h : m ≠ []) : (endE m : Int) = 5 := by unfold endE; rw [if_neg h]; rfl
theorem read_start (w : World) (l : List UInt8) :
    let w1 := ((((w.alloc (.cells #[.int .i64 0] 27)).alloc (.cells #[.bool false, .int .i64 0] 52)).alloc (.cells #[.pointer (some ⟨w.heap.size + 1, 0, none⟩)] 50)).alloc (.cells #[.string (str l), .pointer (some ⟨w.heap.size + 1, 0, none⟩)] 54))
    Below w.heap.size w w1 ∧ Blk w1 w.heap.size 27 #[.int .i64 0] ∧ Blk w1 (w.heap.size + 1) 52 #[.bool false, .int .i64 0] ∧
    Blk w1 (w.heap.size + 1 + 1) 50 #[.pointer (some ⟨w.heap.size + 1, 0, none⟩)] ∧ Blk w1 (w.heap.size + 1 + 1 + 1) 54 #[.string (str l), .pointer (some ⟨w.heap.size + 1, 0, none⟩)] := by
  intro w1
  have s1 : ∀ (v : World) (o : Obj), (v.alloc o).heap.size = v.heap.size + 1 := fun v o => by show (v.heap.push o).size = _; simp
  refine ⟨((((Below.refl _ _).alloc (Nat.le_refl _) _).alloc (by rw [s1]; omega) _).alloc (by rw [s1, s1]; omega) _).alloc (by rw [s1, s1, s1]; omega) _, ?_, ?_, ?_, ?_⟩
  · exact (((Blk.new w _ _).alloc _).alloc _).alloc _
  · have := ((Blk.new (w.alloc (.cells #[.int .i64 0] 27)) 52 #[.bool false, .int .i64 0]).alloc (.cells #[.pointer (some ⟨w.heap.size + 1, 0, none⟩)] 50)).alloc (.cells #[.string (str l), .pointer (some ⟨w.heap.size + 1, 0, none⟩)] 54)
    rw [s1] at this; exact this
  · have := (Blk.new ((w.alloc (.cells #[.int .i64 0] 27)).alloc (.cells #[.bool false, .int .i64 0] 52)) 50 #[.pointer (some ⟨w.heap.size + 1, 0, none⟩)]).alloc (.cells #[.string (str l), .pointer (some ⟨w.heap.size + 1, 0, none⟩)] 54)
    rw [s1, s1] at this; exact this
  · have := Blk.new (((w.alloc (.cells #[.int .i64 0] 27)).alloc (.cells #[.bool false, .int .i64 0] 52)).alloc (.cells #[.pointer (some ⟨w.heap.size + 1, 0, none⟩)] 50)) 54 #[.string (str l), .pointer (some ⟨w.heap.size + 1, 0, none⟩)]
    rw [s1, s1, s1] at this; exact this

set_option maxHeartbeats 4000000 in
theorem read_ok2 (K : FuncId) (hcf : ∀ (args : Array Value) (w : World), (callFunc K args).run Try.prog w = .ok (.enter K args) w) (cap : Array Value) (l m : List UInt8) (w : World) (C : Nat → Prop) (Q : World → Prop)
    (hC : ∀ k, C k → k < w.heap.size) (hQ : ∀ w2 w3, w.heap.size + 3 < w2.heap.size → Q w2 → Kp (fun k => k = w.heap.size ∨ k = w.heap.size + 1) w2 w3 → Q w3)
    (htake : ∀ R O w1, RS w1 R O l → Below w.heap.size w w1 → w.heap.size ≤ R → w.heap.size ≤ O →
      Calls Try.prog K (#[.pointer (some ⟨R, 0, none⟩)] ++ cap) w1 fun e w2 => e = .returned (.tuple #[]) ∧ RS w2 R O m ∧ Kp (fun k => k = R ∨ k = O ∨ C k) w1 w2 ∧ Q w2) :
    Calls Try.prog 14 #[.string (str l), .func (.func K) #[] cap] w fun e w' => e = .returned (.int .i64 (endE m : Int)) ∧ Kp C w w' ∧ Q w' := by
  have hmf : ∀ (fn : Fn) (first cap : Array Value) (w : World), (Instr.makeFunc fn first cap).run Try.prog w = .ok (.func fn first cap) w := fun _ _ _ _ => rfl
  have hnf : ∀ (fn : Fn) (first cap : Array Value) (w : World), (binOp .neq 41 (.func fn first cap) .nilFunc).run Try.prog w = .ok (.bool true) w := fun _ _ _ _ => by kernel_rfl
  have HT := Lib.hid htake
  have HC := Lib.hid hC
  have HQ := Lib.hid hQ
  clear htake hC hQ
  go_enter_defers Try.func14, Try.ntmps14
  go_wp2_with fail
  obtain ⟨h1, b0, b1, b2, b3⟩ := read_start w l
  generalize ((((w.alloc (.cells #[.int .i64 0] 27)).alloc (.cells #[.bool false, .int .i64 0] 52)).alloc (.cells #[.pointer (some ⟨w.heap.size + 1, 0, none⟩)] 50)).alloc (.cells #[.string (str l), .pointer (some ⟨w.heap.size + 1, 0, none⟩)] 54)) = w1 at h1 b0 b1 b2 b3 ⊢
  refine (HT.out _ (w.heap.size + 1) w1 ⟨b3, b1⟩ h1 (by omega) (by omega)).mono ?_
  rintro e w2 ⟨rfl, hr, hk, hq⟩
  have HN : ∀ k, C k → k < w.heap.size := HC.out
  have c0 := hk.blk b0 (by rintro (h | h | h); omega; omega; have := HN _ h; omega)
  have c2 := hk.blk b2 (by rintro (h | h | h); omega; omega; have := HN _ h; omega)
  clear HN
  have e0 := c0.cell 0
  have f0 := c0.free 0
  have e2 := c2.cell 0
  obtain ⟨r1, r2, r3, r4, r5, r6⟩ := hr.cells
  have r7 := hr.of.free 0
  simp only [List.getElem?_toArray, List.getElem?_cons_zero] at e0 e2
  have HD : ∀ k : Int, Hid (∀ w3, w3 = (w2.setCell ⟨w.heap.size, 0, none⟩ (.int .i64 k)).setCell ⟨w.heap.size + 1, 0, none⟩ (.bool true) → Kp C w w3 ∧ Q w3) := by
    intro k w3 e
    subst e
    have h3 : Below w.heap.size w2 ((w2.setCell ⟨w.heap.size, 0, none⟩ (.int .i64 k)).setCell ⟨w.heap.size + 1, 0, none⟩ (.bool true)) :=
      Below.setCell (p := ⟨w.heap.size + 1, 0, none⟩) (Below.setCell (p := ⟨w.heap.size, 0, none⟩) (Below.refl _ _) (Nat.le_refl _) _) (Nat.le_succ _) _
    exact ⟨Kp.then_ h1 hk h3 (by rintro x hx (h | h | h); omega; omega; exact h), HQ.out _ _ (by have := b3.lt; have := hk.size; omega) hq (((Kp.refl _ _).set (p := ⟨w.heap.size, 0, none⟩) (.inl rfl) _).set (p := ⟨w.heap.size + 1, 0, none⟩) (.inr rfl) _)⟩
  by_cases hm : m = []
  · subst hm
    have hm1 : ¬ (0 : Int) < (([] : List UInt8).length : Int) := by simp
    go_wp2_with fail
    refine (left_c _ hr).mono ?_
    rintro e w3 ⟨rfl, rfl⟩
    go_wp2_with fail
    refine leaves_cons (f := 26) (args := #[.pointer (some ⟨w.heap.size + 1 + 1, 0, none⟩), .pointer (some ⟨w.heap.size, 0, none⟩)]) (by simp) (by simp [go_sem]) ?_
    refine (end_idle (w.heap.size + 1 + 1) w.heap.size (w.heap.size + 1) _ ?_ ?_ ?_).mono ?_
    · rw [World.cell?_setCell_other _ _ _ _ (by intro e; injection e with e1 e2; omega)]; exact e2
    · rw [World.cell?_setCell_other _ _ _ _ (by intro e; injection e with e1 e2; omega)]; exact r3
    · rw [World.frozen?_setCell]; exact r7
    rintro e u' w3 ⟨rfl, rfl, rfl⟩
    obtain ⟨d1, d2⟩ := (HD 0).out _ rfl
    have hc5 : ((w2.setCell ⟨w.heap.size, 0, none⟩ (.int .i64 0)).setCell ⟨w.heap.size + 1, 0, none⟩ (.bool true)).cell? ⟨w.heap.size, 0, none⟩ = some (.int .i64 0) := by
      rw [World.cell?_setCell_other _ _ _ _ (by intro e; injection e with e1 e2; omega)]
      exact World.cell?_setCell_same _ _ _ e0
    refine ⟨.int .i64 0, by simp [results, Try.results14, go_sem, hc5], rfl, d1, d2⟩
  · have hm1 : 0 < m.length := List.length_pos_iff.2 hm
    go_wp2_with fail
    refine (left_c _ hr).mono ?_
    rintro e w3 ⟨rfl, rfl⟩
    go_wp2_with fail
    refine leaves_cons (f := 26) (args := #[.pointer (some ⟨w.heap.size + 1 + 1, 0, none⟩), .pointer (some ⟨w.heap.size, 0, none⟩)]) (by simp) (by simp [go_sem]) ?_
    refine (end_idle (w.heap.size + 1 + 1) w.heap.size (w.heap.size + 1) _ ?_ ?_ ?_).mono ?_
    · rw [World.cell?_setCell_other _ _ _ _ (by intro e; injection e with e1 e2; omega)]; exact e2
    · rw [World.cell?_setCell_other _ _ _ _ (by intro e; injection e with e1 e2; omega)]; exact r3
    · rw [World.frozen?_setCell]; exact r7
    rintro e u' w3 ⟨rfl, rfl, rfl⟩
    obtain ⟨d1, d2⟩ := (HD 5).out _ rfl
    have hc5 : ((w2.setCell ⟨w.heap.size, 0, none⟩ (.int .i64 5)).setCell ⟨w.heap.size + 1, 0, none⟩ (.bool true)).cell? ⟨w.heap.size, 0, none⟩ = some (.int .i64 5) := by
      rw [World.cell?_setCell_other _ _ _ _ (by intro e; injection e with e1 e2; omega)]
      exact World.cell?_setCell_same _ _ _ e0
    refine ⟨.int .i64 5, by simp [results, Try.results14, go_sem, hc5], by rw [endE_some hm], d1, d2⟩

set_option maxHeartbeats 4000000 in
theorem read_wrong2 (K : FuncId) (hcf : ∀ (args : Array Value) (w : World), (callFunc K args).run Try.prog w = .ok (.enter K args) w) (cap : Array Value) (l : List UInt8) (k0 : Nat) (w : World) (C : Nat → Prop) (Q : World → Prop)
    (hC : ∀ k, C k → k < w.heap.size) (hQ : ∀ w2 w3, w.heap.size + 3 < w2.heap.size → Q w2 → Kp (fun k => k = w.heap.size ∨ k = w.heap.size + 1) w2 w3 → Q w3)
    (htake : ∀ R O w1, RS w1 R O l → Below w.heap.size w w1 → w.heap.size ≤ R → w.heap.size ≤ O →
      Calls Try.prog K (#[.pointer (some ⟨R, 0, none⟩)] ++ cap) w1 fun e w2 => e = .panicked (flt O) ∧ Wrong w2 O k0 ∧ Kp (fun k => k = R ∨ k = O ∨ C k) w1 w2 ∧ Q w2) :
    Calls Try.prog 14 #[.string (str l), .func (.func K) #[] cap] w fun e w' => e = .returned (.int .i64 (k0 : Int)) ∧ Kp C w w' ∧ Q w' := by
  have hmf : ∀ (fn : Fn) (first cap : Array Value) (w : World), (Instr.makeFunc fn first cap).run Try.prog w = .ok (.func fn first cap) w := fun _ _ _ _ => rfl
  have hnf : ∀ (fn : Fn) (first cap : Array Value) (w : World), (binOp .neq 41 (.func fn first cap) .nilFunc).run Try.prog w = .ok (.bool true) w := fun _ _ _ _ => by kernel_rfl
  have HT := Lib.hid htake
  have HC := Lib.hid hC
  have HQ := Lib.hid hQ
  clear htake hC hQ
  go_enter_defers Try.func14, Try.ntmps14
  go_wp2_with fail
  obtain ⟨h1, b0, b1, b2, b3⟩ := read_start w l
  generalize ((((w.alloc (.cells #[.int .i64 0] 27)).alloc (.cells #[.bool false, .int .i64 0] 52)).alloc (.cells #[.pointer (some ⟨w.heap.size + 1, 0, none⟩)] 50)).alloc (.cells #[.string (str l), .pointer (some ⟨w.heap.size + 1, 0, none⟩)] 54)) = w1 at h1 b0 b1 b2 b3 ⊢
  refine (HT.out _ (w.heap.size + 1) w1 ⟨b3, b1⟩ h1 (by omega) (by omega)).mono ?_
  rintro e w2 ⟨rfl, hr, hk, hq⟩
  have HN : ∀ k, C k → k < w.heap.size := HC.out
  have c0 := hk.blk b0 (by rintro (h | h | h); omega; omega; have := HN _ h; omega)
  have c2 := hk.blk b2 (by rintro (h | h | h); omega; omega; have := HN _ h; omega)
  clear HN
  have e0 := c0.cell 0
  have f0 := c0.free 0
  have e2 := c2.cell 0
  have r3 := Blk.cell hr 0
  have r4 := Blk.cell hr 1
  have r7 := Blk.free hr 0
  simp only [List.getElem?_toArray, List.getElem?_cons_zero, List.getElem?_cons_succ] at e0 e2 r3 r4
  refine leaves_cons (f := 26) (args := #[.pointer (some ⟨w.heap.size + 1 + 1, 0, none⟩), .pointer (some ⟨w.heap.size, 0, none⟩)]) (by simp) (by simp [go_sem]) ?_
  refine (end_wrong (w.heap.size + 1 + 1) w.heap.size (w.heap.size + 1) (k0 : Int) _ e2 r3 r7 r4 e0 f0 (by omega) (by omega)).mono ?_
  rintro e u' w3 ⟨rfl, hu', o, rfl⟩
  have h3 : Below w.heap.size w2 (((w2.setCell ⟨w.heap.size + 1, 0, none⟩ (.bool true)).alloc o).setCell ⟨w.heap.size, 0, none⟩ (.int .i64 (k0 : Int))) :=
    Below.setCell (p := ⟨w.heap.size, 0, none⟩) ((Below.setCell (p := ⟨w.heap.size + 1, 0, none⟩) (Below.refl _ _) (Nat.le_succ _) _).alloc (by simpa [World.setCell] using Nat.le_of_lt c0.lt) o) (Nat.le_refl _) _
  have hc5 : (((w2.setCell ⟨w.heap.size + 1, 0, none⟩ (.bool true)).alloc o).setCell ⟨w.heap.size, 0, none⟩ (.int .i64 (k0 : Int))).cell? ⟨w.heap.size, 0, none⟩ = some (.int .i64 (k0 : Int)) :=
    World.cell?_setCell_same _ _ _ (look o e0 (.inl (by omega)))
  show Leaves _ _ _ _ [] (settle u') _
  rw [hu']
  refine ⟨.int .i64 (k0 : Int), by simp [results, Try.results14, go_sem, hc5], rfl, Kp.then_ h1 hk h3 (by rintro x hx (h | h | h); omega; omega; exact h), HQ.out _ _ (by have := b3.lt; have := hk.size; omega) hq ((((Kp.refl _ _).set (p := ⟨w.heap.size + 1, 0, none⟩) (.inr rfl) _).alloc o).set (p := ⟨w.heap.size, 0, none⟩) (.inl rfl) _)⟩
theorem read_ok (K : FuncId) (hcf : ∀ (args : Array Value) (w : World), (callFunc K args).run Try.prog w = .ok (.enter K args) w) (cap : Array Value) (l m : List UInt8) (w : World) (C : Nat → Prop) (Q : World → Prop)
    (hC : ∀ k, C k → k < w.heap.size) (hQ : ∀ w2 w3, Q w2 → Below w.heap.size w2 w3 → Q w3)
    (htake : ∀ R O w1, RS w1 R O l → Below w.heap.size w w1 → w.heap.size ≤ R → w.heap.size ≤ O →
      Calls Try.prog K (#[.pointer (some ⟨R, 0, none⟩)] ++ cap) w1 fun e w2 => e = .returned (.tuple #[]) ∧ RS w2 R O m ∧ Kp (fun k => k = R ∨ k = O ∨ C k) w1 w2 ∧ Q w2) :
    Calls Try.prog 14 #[.string (str l), .func (.func K) #[] cap] w fun e w' => e = .returned (.int .i64 (endE m : Int)) ∧ Kp C w w' ∧ Q w' :=
  read_ok2 K hcf cap l m w C Q hC (fun w2 w3 hs h hk => hQ w2 w3 h ⟨hk.os, hk.tape, hk.output, hk.size, fun k hkl => by
    by_cases hk2 : k < w2.heap.size
    · exact hk.block k hk2 (by omega)
    · exact absurd hkl (by omega)⟩) htake
theorem read_wrong (K : FuncId) (hcf : ∀ (args : Array Value) (w : World), (callFunc K args).run Try.prog w = .ok (.enter K args) w) (cap : Array Value) (l : List UInt8) (k0 : Nat) (w : World) (C : Nat → Prop) (Q : World → Prop)
    (hC : ∀ k, C k → k < w.heap.size) (hQ : ∀ w2 w3, Q w2 → Below w.heap.size w2 w3 → Q w3)
    (htake : ∀ R O w1, RS w1 R O l → Below w.heap.size w w1 → w.heap.size ≤ R → w.heap.size ≤ O →
      Calls Try.prog K (#[.pointer (some ⟨R, 0, none⟩)] ++ cap) w1 fun e w2 => e = .panicked (flt O) ∧ Wrong w2 O k0 ∧ Kp (fun k => k = R ∨ k = O ∨ C k) w1 w2 ∧ Q w2) :
    Calls Try.prog 14 #[.string (str l), .func (.func K) #[] cap] w fun e w' => e = .returned (.int .i64 (k0 : Int)) ∧ Kp C w w' ∧ Q w' :=
  read_wrong2 K hcf cap l k0 w C Q hC (fun w2 w3 hs h hk => hQ w2 w3 h ⟨hk.os, hk.tape, hk.output, hk.size, fun k hkl => by
    by_cases hk2 : k < w2.heap.size
    · exact hk.block k hk2 (by omega)
    · exact absurd hkl (by omega)⟩) htake
end Go.Proofs.Ytigkocdjllfhnaa.Wirey
