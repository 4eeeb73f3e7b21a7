/- Layer 10: the program's operations, records and replies taken off their own bytes. The only condition: what is read may be. -/
import Derived.Test.YtpjmkgomilnhnaaOpPut
import Derived.Test.YtpjmkgomilnhnaaOpCheck
import Derived.Test.YtpjmkgomilnhnaaOpRead
import Derived.BigQuiet
namespace Go.Proofs.Ytpjmkgomilnhnaa.Opy
open Go.ChangeShapes Go.WideShapes Go.ChangeAt Go.RowKit
open Wirey (Blk Row str str_size str_list str_cat enc enc_len txt RS Kp must_ok)
open Regy

/-- What is taken lies in a struct p, the result's cell at g is still empty, the reader stands ahead of the rest. -/
structure Tk (T : TypeId) (w W : World) (g p R O : Nat) (zs cs : Array Value) (rest : List UInt8) : Prop where
  zz : Blk W g T zs
  xx : Blk W p T cs
  rs : RS W R O rest
  kp : Kp (fun k => k = R ∨ k = O) w W
  hg : w.heap.size ≤ g
  hp : w.heap.size ≤ p
  gp : g ≠ p
  hR : R < w.heap.size
  hO : O < w.heap.size
section
variable {T : TypeId} {w W W' : World} {g p R O : Nat} {zs cs : Array Value} {l rest : List UInt8}
theorem Tk.step (h : Tk T w W g p R O zs cs l) (hr : RS W' R O rest) (hk : Kp (fun k => k = R ∨ k = O) W W') : Tk T w W' g p R O zs cs rest := by
  have h1 := h.hg; have h2 := h.hp; have h3 := h.hR; have h4 := h.hO
  exact ⟨hk.blk h.zz (by omega), hk.blk h.xx (by omega), hr, h.kp.trans hk, h1, h2, h.gp, h3, h4⟩
theorem Tk.below (h : Tk T w W g p R O zs cs l) (hb : Below W.heap.size W W') : Tk T w W' g p R O zs cs l := h.step (h.rs.below hb) (Kp.of_below hb)
theorem Tk.put (h : Tk T w W g p R O zs cs l) (i : Nat) (u : Value) : Tk T w (W.setCell ⟨p, i, none⟩ u) g p R O zs (cs.setIfInBounds i u) l := by
  have h1 := h.hg; have h2 := h.hp; have h3 := h.hR; have h4 := h.hO
  exact ⟨h.zz.far h.gp _, h.xx.put i u, ⟨h.rs.rd.far (by show R ≠ p; omega) _, h.rs.of.far (by show O ≠ p; omega) _⟩,
    ⟨h.kp.os, h.kp.tape, h.kp.output, Nat.le_trans h.kp.size (by simp [World.setCell]), fun k hk hS => (Below.heap_setCell _ _ _ _ (by show k ≠ p; omega)).trans (h.kp.block k hk hS)⟩, h1, h2, h.gp, h3, h4⟩
theorem Tk.putz (h : Tk T w W g p R O zs cs l) (i : Nat) (u : Value) : Tk T w (W.setCell ⟨g, i, none⟩ u) g p R O (zs.setIfInBounds i u) cs l := by
  have h1 := h.hg; have h2 := h.hp; have h3 := h.hR; have h4 := h.hO
  exact ⟨h.zz.put i u, h.xx.far (fun e => h.gp e.symm) _, ⟨h.rs.rd.far (by show R ≠ g; omega) _, h.rs.of.far (by show O ≠ g; omega) _⟩,
    ⟨h.kp.os, h.kp.tape, h.kp.output, Nat.le_trans h.kp.size (by simp [World.setCell]), fun k hk hS => (Below.heap_setCell _ _ _ _ (by show k ≠ g; omega)).trans (h.kp.block k hk hS)⟩, h1, h2, h.gp, h3, h4⟩
theorem Tk.num {n : Nat} (top : Nat) (ht : n ≤ top) (h64 : top < 18446744073709551616) (hl : rest.length ≤ 10000000) (h : Tk T w W g p R O zs cs (enc n ++ rest)) :
    Calls Try.prog 29 #[.pointer (some ⟨R, 0, none⟩), .int .u64 (top : Int)] W fun e W' => e = .returned (.int .u64 (n : Int)) ∧ Tk T w W' g p R O zs cs rest := by
  have l1 := enc_len (n := n) (by omega)
  exact (num_off top ht h64 (by rw [List.length_append]; omega) W h.rs).mono fun _ _ ⟨a, b, c⟩ => ⟨a, h.step b c⟩
theorem Tk.text {s : List UInt8} (top : Nat) (ht : s.length ≤ top) (h40 : top < 1000000) (hl : rest.length ≤ 10000000) (h : Tk T w W g p R O zs cs (txt s ++ rest)) :
    Calls Try.prog 31 #[.pointer (some ⟨R, 0, none⟩), .int .i64 (top : Int)] W fun e W' => e = .returned (.string (str s)) ∧ Tk T w W' g p R O zs cs rest := by
  have l1 := enc_len (n := s.length) (by omega)
  exact (text_off top ht (by omega) (by unfold txt; rw [List.length_append, List.length_append]; omega) W h.rs).mono fun _ _ ⟨a, b, c⟩ => ⟨a, h.step b c⟩
end
theorem chk_le {k : Int} {key val : List UInt8} {t v : Nat} (h : chk k key val t v = true) : key.length ≤ 64 ∧ val.length ≤ 4096 ∧ t ≤ 1073741824 := by
  unfold chk at h
  split at h
  · cases h
  · omega
theorem chk_13 {k : Int} {key val : List UInt8} {t v : Nat} (hk : k = 1 ∨ k = 3) (h : chk k key val t v = true) : val = [] ∧ t = 0 ∧ v = 0 := by
  unfold chk at h
  split at h
  · cases h
  · (try rw [if_pos hk] at h)
    simp only [Bool.and_eq_true, List.isEmpty_iff, decide_eq_true_eq] at h
    exact ⟨h.1.2.1, h.1.2.2, h.2⟩
theorem chk_2 {key val : List UInt8} {t v : Nat} (h : chk 2 key val t v = true) : v = 0 := by
  unfold chk at h
  split at h
  · cases h
  · rw [if_neg (by decide), if_pos rfl] at h
    simp only [Bool.and_eq_true, decide_eq_true_eq] at h
    exact h.2
theorem chk_5 {key val : List UInt8} {t v : Nat} (h : chk 5 key val t v = true) : key = [] ∧ val = [] ∧ t = 0 ∧ v = 0 := by
  unfold chk at h
  split at h
  · cases h
  · rw [if_neg (by decide), if_neg (by decide), if_neg (by decide), if_pos rfl] at h
    simp only [Bool.and_eq_true, List.isEmpty_iff, decide_eq_true_eq] at h
    exact ⟨h.1.1, h.1.2.1, h.1.2.2, h.2⟩
theorem chk_kind {k : Int} {key val : List UInt8} {t v : Nat} (h : chk k key val t v = true) : 1 ≤ k ∧ k ≤ 5 := by
  refine Classical.byContradiction fun hn => ?_
  unfold chk at h
  split at h
  · cases h
  · rw [if_neg (by omega), if_neg (by omega), if_neg (by omega), if_neg (by omega)] at h
    cases h

set_option maxHeartbeats 2000000 in
set_option maxRecDepth 100000 in
theorem take1 {R O : Nat} {key val : List UInt8} {t v : Nat} (hc : chk 1 key val t v = true) (hv : v < 18446744073709551616) (rest : List UInt8) (hr : rest.length ≤ 1000000) (w : World) (h : RS w R O (opB 1 key val t v ++ rest)) :
    Calls Try.prog 12 #[.pointer (some ⟨R, 0, none⟩)] w fun e w' => e = .returned (.agg #[.int .i64 1, .string (str key), .string (str val), .int .u64 (t : Int), .int .u64 (v : Int)]) ∧ RS w' R O rest ∧ Kp (fun k => k = R ∨ k = O) w w' := by
  obtain ⟨hk, hl, ht⟩ := chk_le hc
  have hs : opB 1 key val t v ++ rest = enc 1 ++ (txt key ++ rest) := by simp [opB, List.append_assoc]
  rw [hs] at h
  clear hs
  have l1 := enc_len (n := key.length) (by omega)
  have l2 := enc_len (n := val.length) (by omega)
  have l3 := enc_len (n := t) (by omega)
  have l4 := enc_len (n := v) hv
  have l5 := enc_len (n := 1) (by omega)
  have m1 : (txt key).length ≤ 1000 := by unfold txt; rw [List.length_append]; omega
  have m2 : (txt val).length ≤ 10000 := by unfold txt; rw [List.length_append]; omega
  clear l1 l2
  have hck : ∀ W, Calls Try.prog 7 #[.agg #[.int .i64 1, .string (str key), .string (str val), .int .u64 (t : Int), .int .u64 (v : Int)]] W fun e W' => e = .returned (.bool true) ∧ Below W.heap.size W W' := fun W => by rw [← hc]; exact pcheck_c 1 key val t v (by unfold maxLen; omega) (by unfold maxLen; omega) W
  have hge : w.heap.size ≤ w.heap.size := Nat.le_refl _
  have hRw := h.rd.lt
  have hOw := h.of.lt
  have hz := Blk.new w 24 #[.int .i64 0, .string ⟨#[]⟩, .string ⟨#[]⟩, .int .u64 0, .int .u64 0]
  have hb0 := (Below.refl _ w).alloc (Nat.le_refl _) (.cells #[.int .i64 0, .string ⟨#[]⟩, .string ⟨#[]⟩, .int .u64 0, .int .u64 0] 24)
  have h1 := h.below hb0
  have hk0 := Kp.of_below (S := fun k => k = R ∨ k = O) hb0
  clear hb0 h
  go_enter Try.func12, Try.ntmps12
  go_upto_region 1 with (fail)
  generalize w.alloc (.cells #[.int .i64 0, .string ⟨#[]⟩, .string ⟨#[]⟩, .int .u64 0, .int .u64 0] 24) = w1 at *
  go_wp2_with fail
  refine (num_off (n := 1) 5 (by omega) (by omega) (by simp only [List.length_append]; omega) w1 h1).mono ?_
  rintro e u1 ⟨rfl, hr1, hk1⟩
  have hlt : w.heap.size < w1.heap.size := hz.lt
  have hz1 := hk1.blk hz (by omega)
  have hk2 := hk0.trans hk1
  have T1 : Tk 24 w (u1.alloc (.cells #[.int .i64 1, .string ⟨#[]⟩, .string ⟨#[]⟩, .int .u64 0, .int .u64 0] 24)) w.heap.size u1.heap.size R O #[.int .i64 0, .string ⟨#[]⟩, .string ⟨#[]⟩, .int .u64 0, .int .u64 0] #[.int .i64 1, .string ⟨#[]⟩, .string ⟨#[]⟩, .int .u64 0, .int .u64 0] _ := ⟨hz1.alloc _, Blk.new u1 24 #[.int .i64 1, .string ⟨#[]⟩, .string ⟨#[]⟩, .int .u64 0, .int .u64 0], hr1.below ((Below.refl _ _).alloc (Nat.le_refl _) _), hk2.alloc _, Nat.le_refl _, hk2.size, Nat.ne_of_lt hz1.lt, hRw, hOw⟩
  clear hz hz1 hk0 hk1 hk2 hlt h1 hr1 hRw hOw hge
  go_upto_region 2 with (fail)
  generalize u1.alloc (.cells #[.int .i64 1, .string ⟨#[]⟩, .string ⟨#[]⟩, .int .u64 0, .int .u64 0] 24) = w2 at *
  generalize u1.heap.size = p at *
  generalize hgg : w.heap.size = g at T1 ⊢
  clear hgg
  have x0 := T1.xx.cell 0
  have z0 := T1.xx.free 0
  have x1 := T1.xx.cell 1
  have z1 := T1.xx.free 1
  have x2 := T1.xx.cell 2
  have z2 := T1.xx.free 2
  have x3 := T1.xx.cell 3
  have z3 := T1.xx.free 3
  have x4 := T1.xx.cell 4
  have z4 := T1.xx.free 4
  simp only [List.getElem?_toArray, List.getElem?_cons_zero, List.getElem?_cons_succ] at x0 x1 x2 x3 x4
  go_wp2_with fail
  refine (must_ok w2).mono ?_
  rintro e u2 ⟨rfl, rfl⟩
  go_wp2_with fail
  refine (haskey_c 1 true rfl _).mono ?_
  rintro e u10 ⟨rfl, rfl⟩
  go_wp2_with fail
  refine (Tk.text (s := key) 64 (by omega) (by omega) (by (try simp only [List.length_append]); omega) T1).mono ?_
  rintro e v1 ⟨rfl, S1⟩
  clear x0 z0 x1 z1 x2 z2 x3 z3 x4 z4
  clear T1
  have x0 := S1.xx.cell 0
  have z0 := S1.xx.free 0
  have x1 := S1.xx.cell 1
  have z1 := S1.xx.free 1
  have x2 := S1.xx.cell 2
  have z2 := S1.xx.free 2
  have x3 := S1.xx.cell 3
  have z3 := S1.xx.free 3
  have x4 := S1.xx.cell 4
  have z4 := S1.xx.free 4
  simp only [List.getElem?_toArray, List.getElem?_cons_zero, List.getElem?_cons_succ] at x0 x1 x2 x3 x4
  have U1 := S1.put 1 (.string (str key))
  simp only [List.setIfInBounds_toArray, List.set_cons_zero, List.set_cons_succ] at U1
  clear S1
  go_upto_region 5 with (fail)
  generalize v1.setCell ⟨p, 1, none⟩ (.string (str key)) = w21 at *
  clear x0 z0 x1 z1 x2 z2 x3 z3 x4 z4
  have x0 := U1.xx.cell 0
  have z0 := U1.xx.free 0
  have x1 := U1.xx.cell 1
  have z1 := U1.xx.free 1
  have x2 := U1.xx.cell 2
  have z2 := U1.xx.free 2
  have x3 := U1.xx.cell 3
  have z3 := U1.xx.free 3
  have x4 := U1.xx.cell 4
  have z4 := U1.xx.free 4
  simp only [List.getElem?_toArray, List.getElem?_cons_zero, List.getElem?_cons_succ] at x0 x1 x2 x3 x4
  go_wp2_with fail
  refine (hasvalue_c 1 false rfl _).mono ?_
  rintro e u11 ⟨rfl, rfl⟩
  go_wp2_with fail
  refine (hasversion_c 1 false rfl _).mono ?_
  rintro e u11 ⟨rfl, rfl⟩
  obtain ⟨rfl, rfl, rfl⟩ := chk_13 (.inl rfl) hc
  go_wp2_with fail
  refine (hck _).mono ?_
  rintro e v9 ⟨rfl, hb9⟩
  have TB := U1.below hb9
  clear U1 hb9 hck
  clear x0 z0 x1 z1 x2 z2 x3 z3 x4 z4
  go_wp2_with fail
  refine (must_ok v9).mono ?_
  rintro e v8 ⟨rfl, rfl⟩
  have x0 := TB.xx.cell 0
  have z0 := TB.xx.free 0
  have x1 := TB.xx.cell 1
  have z1 := TB.xx.free 1
  have x2 := TB.xx.cell 2
  have z2 := TB.xx.free 2
  have x3 := TB.xx.cell 3
  have z3 := TB.xx.free 3
  have x4 := TB.xx.cell 4
  have z4 := TB.xx.free 4
  simp only [List.getElem?_toArray, List.getElem?_cons_zero, List.getElem?_cons_succ] at x0 x1 x2 x3 x4
  have y0 := TB.zz.free 0
  have y1 := TB.zz.free 1
  have y2 := TB.zz.free 2
  have y3 := TB.zz.free 3
  have y4 := TB.zz.free 4
  have yc0 := TB.zz.cell 0
  have yc1 := TB.zz.cell 1
  have yc2 := TB.zz.cell 2
  have yc3 := TB.zz.cell 3
  have yc4 := TB.zz.cell 4
  simp only [List.getElem?_toArray, List.getElem?_cons_zero, List.getElem?_cons_succ] at yc0 yc1 yc2 yc3 yc4
  have TZ := (((((TB.putz 0 (.int .i64 1)).putz 1 (.string (str key))).putz 2 (.string ⟨#[]⟩)).putz 3 (.int .u64 0)).putz 4 (.int .u64 0))
  simp only [List.setIfInBounds_toArray, List.set_cons_zero, List.set_cons_succ] at TZ
  go_wp2_with fail
  refine bodyPost_ret (results_cell_row rfl _ _ g 24 #[.int .i64 1, .string (str key), .string ⟨#[]⟩, .int .u64 0, .int .u64 0] (0, 0) _ rfl TZ.zz Try.underlying24 rfl (by kernel_rfl)) rfl ⟨rfl, TZ.rs, TZ.kp⟩
set_option maxHeartbeats 2000000 in
set_option maxRecDepth 100000 in
theorem take3 {R O : Nat} {key val : List UInt8} {t v : Nat} (hc : chk 3 key val t v = true) (hv : v < 18446744073709551616) (rest : List UInt8) (hr : rest.length ≤ 1000000) (w : World) (h : RS w R O (opB 3 key val t v ++ rest)) :
    Calls Try.prog 12 #[.pointer (some ⟨R, 0, none⟩)] w fun e w' => e = .returned (.agg #[.int .i64 3, .string (str key), .string (str val), .int .u64 (t : Int), .int .u64 (v : Int)]) ∧ RS w' R O rest ∧ Kp (fun k => k = R ∨ k = O) w w' := by
  obtain ⟨hk, hl, ht⟩ := chk_le hc
  have hs : opB 3 key val t v ++ rest = enc 3 ++ (txt key ++ rest) := by simp [opB, List.append_assoc]
  rw [hs] at h
  clear hs
  have l1 := enc_len (n := key.length) (by omega)
  have l2 := enc_len (n := val.length) (by omega)
  have l3 := enc_len (n := t) (by omega)
  have l4 := enc_len (n := v) hv
  have l5 := enc_len (n := 3) (by omega)
  have m1 : (txt key).length ≤ 1000 := by unfold txt; rw [List.length_append]; omega
  have m2 : (txt val).length ≤ 10000 := by unfold txt; rw [List.length_append]; omega
  clear l1 l2
  have hck : ∀ W, Calls Try.prog 7 #[.agg #[.int .i64 3, .string (str key), .string (str val), .int .u64 (t : Int), .int .u64 (v : Int)]] W fun e W' => e = .returned (.bool true) ∧ Below W.heap.size W W' := fun W => by rw [← hc]; exact pcheck_c 3 key val t v (by unfold maxLen; omega) (by unfold maxLen; omega) W
  have hge : w.heap.size ≤ w.heap.size := Nat.le_refl _
  have hRw := h.rd.lt
  have hOw := h.of.lt
  have hz := Blk.new w 24 #[.int .i64 0, .string ⟨#[]⟩, .string ⟨#[]⟩, .int .u64 0, .int .u64 0]
  have hb0 := (Below.refl _ w).alloc (Nat.le_refl _) (.cells #[.int .i64 0, .string ⟨#[]⟩, .string ⟨#[]⟩, .int .u64 0, .int .u64 0] 24)
  have h1 := h.below hb0
  have hk0 := Kp.of_below (S := fun k => k = R ∨ k = O) hb0
  clear hb0 h
  go_enter Try.func12, Try.ntmps12
  go_upto_region 1 with (fail)
  generalize w.alloc (.cells #[.int .i64 0, .string ⟨#[]⟩, .string ⟨#[]⟩, .int .u64 0, .int .u64 0] 24) = w1 at *
  go_wp2_with fail
  refine (num_off (n := 3) 5 (by omega) (by omega) (by simp only [List.length_append]; omega) w1 h1).mono ?_
  rintro e u1 ⟨rfl, hr1, hk1⟩
  have hlt : w.heap.size < w1.heap.size := hz.lt
  have hz1 := hk1.blk hz (by omega)
  have hk2 := hk0.trans hk1
  have T1 : Tk 24 w (u1.alloc (.cells #[.int .i64 3, .string ⟨#[]⟩, .string ⟨#[]⟩, .int .u64 0, .int .u64 0] 24)) w.heap.size u1.heap.size R O #[.int .i64 0, .string ⟨#[]⟩, .string ⟨#[]⟩, .int .u64 0, .int .u64 0] #[.int .i64 3, .string ⟨#[]⟩, .string ⟨#[]⟩, .int .u64 0, .int .u64 0] _ := ⟨hz1.alloc _, Blk.new u1 24 #[.int .i64 3, .string ⟨#[]⟩, .string ⟨#[]⟩, .int .u64 0, .int .u64 0], hr1.below ((Below.refl _ _).alloc (Nat.le_refl _) _), hk2.alloc _, Nat.le_refl _, hk2.size, Nat.ne_of_lt hz1.lt, hRw, hOw⟩
  clear hz hz1 hk0 hk1 hk2 hlt h1 hr1 hRw hOw hge
  go_upto_region 2 with (fail)
  generalize u1.alloc (.cells #[.int .i64 3, .string ⟨#[]⟩, .string ⟨#[]⟩, .int .u64 0, .int .u64 0] 24) = w2 at *
  generalize u1.heap.size = p at *
  generalize hgg : w.heap.size = g at T1 ⊢
  clear hgg
  have x0 := T1.xx.cell 0
  have z0 := T1.xx.free 0
  have x1 := T1.xx.cell 1
  have z1 := T1.xx.free 1
  have x2 := T1.xx.cell 2
  have z2 := T1.xx.free 2
  have x3 := T1.xx.cell 3
  have z3 := T1.xx.free 3
  have x4 := T1.xx.cell 4
  have z4 := T1.xx.free 4
  simp only [List.getElem?_toArray, List.getElem?_cons_zero, List.getElem?_cons_succ] at x0 x1 x2 x3 x4
  go_wp2_with fail
  refine (must_ok w2).mono ?_
  rintro e u2 ⟨rfl, rfl⟩
  go_wp2_with fail
  refine (haskey_c 3 true rfl _).mono ?_
  rintro e u10 ⟨rfl, rfl⟩
  go_wp2_with fail
  refine (Tk.text (s := key) 64 (by omega) (by omega) (by (try simp only [List.length_append]); omega) T1).mono ?_
  rintro e v1 ⟨rfl, S1⟩
  clear x0 z0 x1 z1 x2 z2 x3 z3 x4 z4
  clear T1
  have x0 := S1.xx.cell 0
  have z0 := S1.xx.free 0
  have x1 := S1.xx.cell 1
  have z1 := S1.xx.free 1
  have x2 := S1.xx.cell 2
  have z2 := S1.xx.free 2
  have x3 := S1.xx.cell 3
  have z3 := S1.xx.free 3
  have x4 := S1.xx.cell 4
  have z4 := S1.xx.free 4
  simp only [List.getElem?_toArray, List.getElem?_cons_zero, List.getElem?_cons_succ] at x0 x1 x2 x3 x4
  have U1 := S1.put 1 (.string (str key))
  simp only [List.setIfInBounds_toArray, List.set_cons_zero, List.set_cons_succ] at U1
  clear S1
  go_upto_region 5 with (fail)
  generalize v1.setCell ⟨p, 1, none⟩ (.string (str key)) = w21 at *
  clear x0 z0 x1 z1 x2 z2 x3 z3 x4 z4
  have x0 := U1.xx.cell 0
  have z0 := U1.xx.free 0
  have x1 := U1.xx.cell 1
  have z1 := U1.xx.free 1
  have x2 := U1.xx.cell 2
  have z2 := U1.xx.free 2
  have x3 := U1.xx.cell 3
  have z3 := U1.xx.free 3
  have x4 := U1.xx.cell 4
  have z4 := U1.xx.free 4
  simp only [List.getElem?_toArray, List.getElem?_cons_zero, List.getElem?_cons_succ] at x0 x1 x2 x3 x4
  go_wp2_with fail
  refine (hasvalue_c 3 false rfl _).mono ?_
  rintro e u11 ⟨rfl, rfl⟩
  go_wp2_with fail
  refine (hasversion_c 3 false rfl _).mono ?_
  rintro e u11 ⟨rfl, rfl⟩
  obtain ⟨rfl, rfl, rfl⟩ := chk_13 (.inr rfl) hc
  go_wp2_with fail
  refine (hck _).mono ?_
  rintro e v9 ⟨rfl, hb9⟩
  have TB := U1.below hb9
  clear U1 hb9 hck
  clear x0 z0 x1 z1 x2 z2 x3 z3 x4 z4
  go_wp2_with fail
  refine (must_ok v9).mono ?_
  rintro e v8 ⟨rfl, rfl⟩
  have x0 := TB.xx.cell 0
  have z0 := TB.xx.free 0
  have x1 := TB.xx.cell 1
  have z1 := TB.xx.free 1
  have x2 := TB.xx.cell 2
  have z2 := TB.xx.free 2
  have x3 := TB.xx.cell 3
  have z3 := TB.xx.free 3
  have x4 := TB.xx.cell 4
  have z4 := TB.xx.free 4
  simp only [List.getElem?_toArray, List.getElem?_cons_zero, List.getElem?_cons_succ] at x0 x1 x2 x3 x4
  have y0 := TB.zz.free 0
  have y1 := TB.zz.free 1
  have y2 := TB.zz.free 2
  have y3 := TB.zz.free 3
  have y4 := TB.zz.free 4
  have yc0 := TB.zz.cell 0
  have yc1 := TB.zz.cell 1
  have yc2 := TB.zz.cell 2
  have yc3 := TB.zz.cell 3
  have yc4 := TB.zz.cell 4
  simp only [List.getElem?_toArray, List.getElem?_cons_zero, List.getElem?_cons_succ] at yc0 yc1 yc2 yc3 yc4
  have TZ := (((((TB.putz 0 (.int .i64 3)).putz 1 (.string (str key))).putz 2 (.string ⟨#[]⟩)).putz 3 (.int .u64 0)).putz 4 (.int .u64 0))
  simp only [List.setIfInBounds_toArray, List.set_cons_zero, List.set_cons_succ] at TZ
  go_wp2_with fail
  refine bodyPost_ret (results_cell_row rfl _ _ g 24 #[.int .i64 3, .string (str key), .string ⟨#[]⟩, .int .u64 0, .int .u64 0] (0, 0) _ rfl TZ.zz Try.underlying24 rfl (by kernel_rfl)) rfl ⟨rfl, TZ.rs, TZ.kp⟩
set_option maxHeartbeats 2000000 in
set_option maxRecDepth 100000 in
theorem take5 {R O : Nat} {key val : List UInt8} {t v : Nat} (hc : chk 5 key val t v = true) (hv : v < 18446744073709551616) (rest : List UInt8) (hr : rest.length ≤ 1000000) (w : World) (h : RS w R O (opB 5 key val t v ++ rest)) :
    Calls Try.prog 12 #[.pointer (some ⟨R, 0, none⟩)] w fun e w' => e = .returned (.agg #[.int .i64 5, .string (str key), .string (str val), .int .u64 (t : Int), .int .u64 (v : Int)]) ∧ RS w' R O rest ∧ Kp (fun k => k = R ∨ k = O) w w' := by
  obtain ⟨hk, hl, ht⟩ := chk_le hc
  have hs : opB 5 key val t v ++ rest = enc 5 ++ rest := by simp [opB, List.append_assoc]
  rw [hs] at h
  clear hs
  have l1 := enc_len (n := key.length) (by omega)
  have l2 := enc_len (n := val.length) (by omega)
  have l3 := enc_len (n := t) (by omega)
  have l4 := enc_len (n := v) hv
  have l5 := enc_len (n := 5) (by omega)
  have m1 : (txt key).length ≤ 1000 := by unfold txt; rw [List.length_append]; omega
  have m2 : (txt val).length ≤ 10000 := by unfold txt; rw [List.length_append]; omega
  clear l1 l2
  have hck : ∀ W, Calls Try.prog 7 #[.agg #[.int .i64 5, .string (str key), .string (str val), .int .u64 (t : Int), .int .u64 (v : Int)]] W fun e W' => e = .returned (.bool true) ∧ Below W.heap.size W W' := fun W => by rw [← hc]; exact pcheck_c 5 key val t v (by unfold maxLen; omega) (by unfold maxLen; omega) W
  have hge : w.heap.size ≤ w.heap.size := Nat.le_refl _
  have hRw := h.rd.lt
  have hOw := h.of.lt
  have hz := Blk.new w 24 #[.int .i64 0, .string ⟨#[]⟩, .string ⟨#[]⟩, .int .u64 0, .int .u64 0]
  have hb0 := (Below.refl _ w).alloc (Nat.le_refl _) (.cells #[.int .i64 0, .string ⟨#[]⟩, .string ⟨#[]⟩, .int .u64 0, .int .u64 0] 24)
  have h1 := h.below hb0
  have hk0 := Kp.of_below (S := fun k => k = R ∨ k = O) hb0
  clear hb0 h
  go_enter Try.func12, Try.ntmps12
  go_upto_region 1 with (fail)
  generalize w.alloc (.cells #[.int .i64 0, .string ⟨#[]⟩, .string ⟨#[]⟩, .int .u64 0, .int .u64 0] 24) = w1 at *
  go_wp2_with fail
  refine (num_off (n := 5) 5 (by omega) (by omega) (by simp only [List.length_append]; omega) w1 h1).mono ?_
  rintro e u1 ⟨rfl, hr1, hk1⟩
  have hlt : w.heap.size < w1.heap.size := hz.lt
  have hz1 := hk1.blk hz (by omega)
  have hk2 := hk0.trans hk1
  have T1 : Tk 24 w (u1.alloc (.cells #[.int .i64 5, .string ⟨#[]⟩, .string ⟨#[]⟩, .int .u64 0, .int .u64 0] 24)) w.heap.size u1.heap.size R O #[.int .i64 0, .string ⟨#[]⟩, .string ⟨#[]⟩, .int .u64 0, .int .u64 0] #[.int .i64 5, .string ⟨#[]⟩, .string ⟨#[]⟩, .int .u64 0, .int .u64 0] _ := ⟨hz1.alloc _, Blk.new u1 24 #[.int .i64 5, .string ⟨#[]⟩, .string ⟨#[]⟩, .int .u64 0, .int .u64 0], hr1.below ((Below.refl _ _).alloc (Nat.le_refl _) _), hk2.alloc _, Nat.le_refl _, hk2.size, Nat.ne_of_lt hz1.lt, hRw, hOw⟩
  clear hz hz1 hk0 hk1 hk2 hlt h1 hr1 hRw hOw hge
  go_upto_region 2 with (fail)
  generalize u1.alloc (.cells #[.int .i64 5, .string ⟨#[]⟩, .string ⟨#[]⟩, .int .u64 0, .int .u64 0] 24) = w2 at *
  generalize u1.heap.size = p at *
  generalize hgg : w.heap.size = g at T1 ⊢
  clear hgg
  have x0 := T1.xx.cell 0
  have z0 := T1.xx.free 0
  have x1 := T1.xx.cell 1
  have z1 := T1.xx.free 1
  have x2 := T1.xx.cell 2
  have z2 := T1.xx.free 2
  have x3 := T1.xx.cell 3
  have z3 := T1.xx.free 3
  have x4 := T1.xx.cell 4
  have z4 := T1.xx.free 4
  simp only [List.getElem?_toArray, List.getElem?_cons_zero, List.getElem?_cons_succ] at x0 x1 x2 x3 x4
  go_wp2_with fail
  refine (must_ok w2).mono ?_
  rintro e u2 ⟨rfl, rfl⟩
  go_wp2_with fail
  refine (haskey_c 5 false rfl _).mono ?_
  rintro e u10 ⟨rfl, rfl⟩
  go_wp2_with fail
  refine (hasvalue_c 5 false rfl _).mono ?_
  rintro e u10 ⟨rfl, rfl⟩
  go_wp2_with fail
  refine (hasversion_c 5 false rfl _).mono ?_
  rintro e u10 ⟨rfl, rfl⟩
  obtain ⟨rfl, rfl, rfl, rfl⟩ := chk_5 hc
  go_wp2_with fail
  refine (hck _).mono ?_
  rintro e v9 ⟨rfl, hb9⟩
  have TB := T1.below hb9
  clear T1 hb9 hck
  clear x0 z0 x1 z1 x2 z2 x3 z3 x4 z4
  go_wp2_with fail
  refine (must_ok v9).mono ?_
  rintro e v8 ⟨rfl, rfl⟩
  have x0 := TB.xx.cell 0
  have z0 := TB.xx.free 0
  have x1 := TB.xx.cell 1
  have z1 := TB.xx.free 1
  have x2 := TB.xx.cell 2
  have z2 := TB.xx.free 2
  have x3 := TB.xx.cell 3
  have z3 := TB.xx.free 3
  have x4 := TB.xx.cell 4
  have z4 := TB.xx.free 4
  simp only [List.getElem?_toArray, List.getElem?_cons_zero, List.getElem?_cons_succ] at x0 x1 x2 x3 x4
  have y0 := TB.zz.free 0
  have y1 := TB.zz.free 1
  have y2 := TB.zz.free 2
  have y3 := TB.zz.free 3
  have y4 := TB.zz.free 4
  have yc0 := TB.zz.cell 0
  have yc1 := TB.zz.cell 1
  have yc2 := TB.zz.cell 2
  have yc3 := TB.zz.cell 3
  have yc4 := TB.zz.cell 4
  simp only [List.getElem?_toArray, List.getElem?_cons_zero, List.getElem?_cons_succ] at yc0 yc1 yc2 yc3 yc4
  have TZ := (((((TB.putz 0 (.int .i64 5)).putz 1 (.string ⟨#[]⟩)).putz 2 (.string ⟨#[]⟩)).putz 3 (.int .u64 0)).putz 4 (.int .u64 0))
  simp only [List.setIfInBounds_toArray, List.set_cons_zero, List.set_cons_succ] at TZ
  go_wp2_with fail
  refine bodyPost_ret (results_cell_row rfl _ _ g 24 #[.int .i64 5, .string ⟨#[]⟩, .string ⟨#[]⟩, .int .u64 0, .int .u64 0] (0, 0) _ rfl TZ.zz Try.underlying24 rfl (by kernel_rfl)) rfl ⟨rfl, TZ.rs, TZ.kp⟩
set_option maxHeartbeats 2000000 in
set_option maxRecDepth 100000 in
theorem take2 {R O : Nat} {key val : List UInt8} {t v : Nat} (hc : chk 2 key val t v = true) (hv : v < 18446744073709551616) (rest : List UInt8) (hr : rest.length ≤ 1000000) (w : World) (h : RS w R O (opB 2 key val t v ++ rest)) :
    Calls Try.prog 12 #[.pointer (some ⟨R, 0, none⟩)] w fun e w' => e = .returned (.agg #[.int .i64 2, .string (str key), .string (str val), .int .u64 (t : Int), .int .u64 (v : Int)]) ∧ RS w' R O rest ∧ Kp (fun k => k = R ∨ k = O) w w' := by
  obtain ⟨hk, hl, ht⟩ := chk_le hc
  have hs : opB 2 key val t v ++ rest = enc 2 ++ (txt key ++ (txt val ++ (enc t ++ rest))) := by simp [opB, List.append_assoc]
  rw [hs] at h
  clear hs
  have l1 := enc_len (n := key.length) (by omega)
  have l2 := enc_len (n := val.length) (by omega)
  have l3 := enc_len (n := t) (by omega)
  have l4 := enc_len (n := v) hv
  have l5 := enc_len (n := 2) (by omega)
  have m1 : (txt key).length ≤ 1000 := by unfold txt; rw [List.length_append]; omega
  have m2 : (txt val).length ≤ 10000 := by unfold txt; rw [List.length_append]; omega
  clear l1 l2
  have hck : ∀ W, Calls Try.prog 7 #[.agg #[.int .i64 2, .string (str key), .string (str val), .int .u64 (t : Int), .int .u64 (v : Int)]] W fun e W' => e = .returned (.bool true) ∧ Below W.heap.size W W' := fun W => by rw [← hc]; exact pcheck_c 2 key val t v (by unfold maxLen; omega) (by unfold maxLen; omega) W
  have hge : w.heap.size ≤ w.heap.size := Nat.le_refl _
  have hRw := h.rd.lt
  have hOw := h.of.lt
  have hz := Blk.new w 24 #[.int .i64 0, .string ⟨#[]⟩, .string ⟨#[]⟩, .int .u64 0, .int .u64 0]
  have hb0 := (Below.refl _ w).alloc (Nat.le_refl _) (.cells #[.int .i64 0, .string ⟨#[]⟩, .string ⟨#[]⟩, .int .u64 0, .int .u64 0] 24)
  have h1 := h.below hb0
  have hk0 := Kp.of_below (S := fun k => k = R ∨ k = O) hb0
  clear hb0 h
  go_enter Try.func12, Try.ntmps12
  go_upto_region 1 with (fail)
  generalize w.alloc (.cells #[.int .i64 0, .string ⟨#[]⟩, .string ⟨#[]⟩, .int .u64 0, .int .u64 0] 24) = w1 at *
  go_wp2_with fail
  refine (num_off (n := 2) 5 (by omega) (by omega) (by simp only [List.length_append]; omega) w1 h1).mono ?_
  rintro e u1 ⟨rfl, hr1, hk1⟩
  have hlt : w.heap.size < w1.heap.size := hz.lt
  have hz1 := hk1.blk hz (by omega)
  have hk2 := hk0.trans hk1
  have T1 : Tk 24 w (u1.alloc (.cells #[.int .i64 2, .string ⟨#[]⟩, .string ⟨#[]⟩, .int .u64 0, .int .u64 0] 24)) w.heap.size u1.heap.size R O #[.int .i64 0, .string ⟨#[]⟩, .string ⟨#[]⟩, .int .u64 0, .int .u64 0] #[.int .i64 2, .string ⟨#[]⟩, .string ⟨#[]⟩, .int .u64 0, .int .u64 0] _ := ⟨hz1.alloc _, Blk.new u1 24 #[.int .i64 2, .string ⟨#[]⟩, .string ⟨#[]⟩, .int .u64 0, .int .u64 0], hr1.below ((Below.refl _ _).alloc (Nat.le_refl _) _), hk2.alloc _, Nat.le_refl _, hk2.size, Nat.ne_of_lt hz1.lt, hRw, hOw⟩
  clear hz hz1 hk0 hk1 hk2 hlt h1 hr1 hRw hOw hge
  go_upto_region 2 with (fail)
  generalize u1.alloc (.cells #[.int .i64 2, .string ⟨#[]⟩, .string ⟨#[]⟩, .int .u64 0, .int .u64 0] 24) = w2 at *
  generalize u1.heap.size = p at *
  generalize hgg : w.heap.size = g at T1 ⊢
  clear hgg
  have x0 := T1.xx.cell 0
  have z0 := T1.xx.free 0
  have x1 := T1.xx.cell 1
  have z1 := T1.xx.free 1
  have x2 := T1.xx.cell 2
  have z2 := T1.xx.free 2
  have x3 := T1.xx.cell 3
  have z3 := T1.xx.free 3
  have x4 := T1.xx.cell 4
  have z4 := T1.xx.free 4
  simp only [List.getElem?_toArray, List.getElem?_cons_zero, List.getElem?_cons_succ] at x0 x1 x2 x3 x4
  go_wp2_with fail
  refine (must_ok w2).mono ?_
  rintro e u2 ⟨rfl, rfl⟩
  go_wp2_with fail
  refine (haskey_c 2 true rfl _).mono ?_
  rintro e u10 ⟨rfl, rfl⟩
  go_wp2_with fail
  refine (Tk.text (s := key) 64 (by omega) (by omega) (by (try simp only [List.length_append]); omega) T1).mono ?_
  rintro e v1 ⟨rfl, S1⟩
  clear x0 z0 x1 z1 x2 z2 x3 z3 x4 z4
  clear T1
  have x0 := S1.xx.cell 0
  have z0 := S1.xx.free 0
  have x1 := S1.xx.cell 1
  have z1 := S1.xx.free 1
  have x2 := S1.xx.cell 2
  have z2 := S1.xx.free 2
  have x3 := S1.xx.cell 3
  have z3 := S1.xx.free 3
  have x4 := S1.xx.cell 4
  have z4 := S1.xx.free 4
  simp only [List.getElem?_toArray, List.getElem?_cons_zero, List.getElem?_cons_succ] at x0 x1 x2 x3 x4
  have U1 := S1.put 1 (.string (str key))
  simp only [List.setIfInBounds_toArray, List.set_cons_zero, List.set_cons_succ] at U1
  clear S1
  go_upto_region 5 with (fail)
  generalize v1.setCell ⟨p, 1, none⟩ (.string (str key)) = w21 at *
  clear x0 z0 x1 z1 x2 z2 x3 z3 x4 z4
  have x0 := U1.xx.cell 0
  have z0 := U1.xx.free 0
  have x1 := U1.xx.cell 1
  have z1 := U1.xx.free 1
  have x2 := U1.xx.cell 2
  have z2 := U1.xx.free 2
  have x3 := U1.xx.cell 3
  have z3 := U1.xx.free 3
  have x4 := U1.xx.cell 4
  have z4 := U1.xx.free 4
  simp only [List.getElem?_toArray, List.getElem?_cons_zero, List.getElem?_cons_succ] at x0 x1 x2 x3 x4
  go_wp2_with fail
  refine (hasvalue_c 2 true rfl _).mono ?_
  rintro e u11 ⟨rfl, rfl⟩
  go_wp2_with fail
  refine (Tk.text (s := val) 4096 (by omega) (by omega) (by (try simp only [List.length_append]); omega) U1).mono ?_
  rintro e v2 ⟨rfl, S2⟩
  clear x0 z0 x1 z1 x2 z2 x3 z3 x4 z4
  clear U1
  have x0 := S2.xx.cell 0
  have z0 := S2.xx.free 0
  have x1 := S2.xx.cell 1
  have z1 := S2.xx.free 1
  have x2 := S2.xx.cell 2
  have z2 := S2.xx.free 2
  have x3 := S2.xx.cell 3
  have z3 := S2.xx.free 3
  have x4 := S2.xx.cell 4
  have z4 := S2.xx.free 4
  simp only [List.getElem?_toArray, List.getElem?_cons_zero, List.getElem?_cons_succ] at x0 x1 x2 x3 x4
  have U2 := S2.put 2 (.string (str val))
  simp only [List.setIfInBounds_toArray, List.set_cons_zero, List.set_cons_succ] at U2
  clear S2
  go_upto_region 7 with (fail)
  generalize v2.setCell ⟨p, 2, none⟩ (.string (str val)) = w22 at *
  clear x0 z0 x1 z1 x2 z2 x3 z3 x4 z4
  have x0 := U2.xx.cell 0
  have z0 := U2.xx.free 0
  have x1 := U2.xx.cell 1
  have z1 := U2.xx.free 1
  have x2 := U2.xx.cell 2
  have z2 := U2.xx.free 2
  have x3 := U2.xx.cell 3
  have z3 := U2.xx.free 3
  have x4 := U2.xx.cell 4
  have z4 := U2.xx.free 4
  simp only [List.getElem?_toArray, List.getElem?_cons_zero, List.getElem?_cons_succ] at x0 x1 x2 x3 x4
  go_wp2_with fail
  refine (Tk.num (n := t) 1073741824 (by omega) (by omega) (by (try simp only [List.length_append]); omega) U2).mono ?_
  rintro e v3 ⟨rfl, S3⟩
  clear x0 z0 x1 z1 x2 z2 x3 z3 x4 z4
  clear U2
  have x0 := S3.xx.cell 0
  have z0 := S3.xx.free 0
  have x1 := S3.xx.cell 1
  have z1 := S3.xx.free 1
  have x2 := S3.xx.cell 2
  have z2 := S3.xx.free 2
  have x3 := S3.xx.cell 3
  have z3 := S3.xx.free 3
  have x4 := S3.xx.cell 4
  have z4 := S3.xx.free 4
  simp only [List.getElem?_toArray, List.getElem?_cons_zero, List.getElem?_cons_succ] at x0 x1 x2 x3 x4
  have U3 := S3.put 3 (.int .u64 (t : Int))
  simp only [List.setIfInBounds_toArray, List.set_cons_zero, List.set_cons_succ] at U3
  clear S3
  go_upto_region 8 with (fail)
  generalize v3.setCell ⟨p, 3, none⟩ (.int .u64 (t : Int)) = w23 at *
  clear x0 z0 x1 z1 x2 z2 x3 z3 x4 z4
  have x0 := U3.xx.cell 0
  have z0 := U3.xx.free 0
  have x1 := U3.xx.cell 1
  have z1 := U3.xx.free 1
  have x2 := U3.xx.cell 2
  have z2 := U3.xx.free 2
  have x3 := U3.xx.cell 3
  have z3 := U3.xx.free 3
  have x4 := U3.xx.cell 4
  have z4 := U3.xx.free 4
  simp only [List.getElem?_toArray, List.getElem?_cons_zero, List.getElem?_cons_succ] at x0 x1 x2 x3 x4
  go_wp2_with fail
  refine (hasversion_c 2 false rfl _).mono ?_
  rintro e u13 ⟨rfl, rfl⟩
  obtain rfl := chk_2 hc
  go_wp2_with fail
  refine (hck _).mono ?_
  rintro e v9 ⟨rfl, hb9⟩
  have TB := U3.below hb9
  clear U3 hb9 hck
  clear x0 z0 x1 z1 x2 z2 x3 z3 x4 z4
  go_wp2_with fail
  refine (must_ok v9).mono ?_
  rintro e v8 ⟨rfl, rfl⟩
  have x0 := TB.xx.cell 0
  have z0 := TB.xx.free 0
  have x1 := TB.xx.cell 1
  have z1 := TB.xx.free 1
  have x2 := TB.xx.cell 2
  have z2 := TB.xx.free 2
  have x3 := TB.xx.cell 3
  have z3 := TB.xx.free 3
  have x4 := TB.xx.cell 4
  have z4 := TB.xx.free 4
  simp only [List.getElem?_toArray, List.getElem?_cons_zero, List.getElem?_cons_succ] at x0 x1 x2 x3 x4
  have y0 := TB.zz.free 0
  have y1 := TB.zz.free 1
  have y2 := TB.zz.free 2
  have y3 := TB.zz.free 3
  have y4 := TB.zz.free 4
  have yc0 := TB.zz.cell 0
  have yc1 := TB.zz.cell 1
  have yc2 := TB.zz.cell 2
  have yc3 := TB.zz.cell 3
  have yc4 := TB.zz.cell 4
  simp only [List.getElem?_toArray, List.getElem?_cons_zero, List.getElem?_cons_succ] at yc0 yc1 yc2 yc3 yc4
  have TZ := (((((TB.putz 0 (.int .i64 2)).putz 1 (.string (str key))).putz 2 (.string (str val))).putz 3 (.int .u64 (t : Int))).putz 4 (.int .u64 0))
  simp only [List.setIfInBounds_toArray, List.set_cons_zero, List.set_cons_succ] at TZ
  go_wp2_with fail
  refine bodyPost_ret (results_cell_row rfl _ _ g 24 #[.int .i64 2, .string (str key), .string (str val), .int .u64 (t : Int), .int .u64 0] (0, 0) _ rfl TZ.zz Try.underlying24 rfl (by kernel_rfl)) rfl ⟨rfl, TZ.rs, TZ.kp⟩
set_option maxHeartbeats 2000000 in
set_option maxRecDepth 100000 in
theorem take4 {R O : Nat} {key val : List UInt8} {t v : Nat} (hc : chk 4 key val t v = true) (hv : v < 18446744073709551616) (rest : List UInt8) (hr : rest.length ≤ 1000000) (w : World) (h : RS w R O (opB 4 key val t v ++ rest)) :
    Calls Try.prog 12 #[.pointer (some ⟨R, 0, none⟩)] w fun e w' => e = .returned (.agg #[.int .i64 4, .string (str key), .string (str val), .int .u64 (t : Int), .int .u64 (v : Int)]) ∧ RS w' R O rest ∧ Kp (fun k => k = R ∨ k = O) w w' := by
  obtain ⟨hk, hl, ht⟩ := chk_le hc
  have hs : opB 4 key val t v ++ rest = enc 4 ++ (txt key ++ (txt val ++ (enc t ++ (enc v ++ rest)))) := by simp [opB, List.append_assoc]
  rw [hs] at h
  clear hs
  have l1 := enc_len (n := key.length) (by omega)
  have l2 := enc_len (n := val.length) (by omega)
  have l3 := enc_len (n := t) (by omega)
  have l4 := enc_len (n := v) hv
  have l5 := enc_len (n := 4) (by omega)
  have m1 : (txt key).length ≤ 1000 := by unfold txt; rw [List.length_append]; omega
  have m2 : (txt val).length ≤ 10000 := by unfold txt; rw [List.length_append]; omega
  clear l1 l2
  have hck : ∀ W, Calls Try.prog 7 #[.agg #[.int .i64 4, .string (str key), .string (str val), .int .u64 (t : Int), .int .u64 (v : Int)]] W fun e W' => e = .returned (.bool true) ∧ Below W.heap.size W W' := fun W => by rw [← hc]; exact pcheck_c 4 key val t v (by unfold maxLen; omega) (by unfold maxLen; omega) W
  have hge : w.heap.size ≤ w.heap.size := Nat.le_refl _
  have hRw := h.rd.lt
  have hOw := h.of.lt
  have hz := Blk.new w 24 #[.int .i64 0, .string ⟨#[]⟩, .string ⟨#[]⟩, .int .u64 0, .int .u64 0]
  have hb0 := (Below.refl _ w).alloc (Nat.le_refl _) (.cells #[.int .i64 0, .string ⟨#[]⟩, .string ⟨#[]⟩, .int .u64 0, .int .u64 0] 24)
  have h1 := h.below hb0
  have hk0 := Kp.of_below (S := fun k => k = R ∨ k = O) hb0
  clear hb0 h
  go_enter Try.func12, Try.ntmps12
  go_upto_region 1 with (fail)
  generalize w.alloc (.cells #[.int .i64 0, .string ⟨#[]⟩, .string ⟨#[]⟩, .int .u64 0, .int .u64 0] 24) = w1 at *
  go_wp2_with fail
  refine (num_off (n := 4) 5 (by omega) (by omega) (by simp only [List.length_append]; omega) w1 h1).mono ?_
  rintro e u1 ⟨rfl, hr1, hk1⟩
  have hlt : w.heap.size < w1.heap.size := hz.lt
  have hz1 := hk1.blk hz (by omega)
  have hk2 := hk0.trans hk1
  have T1 : Tk 24 w (u1.alloc (.cells #[.int .i64 4, .string ⟨#[]⟩, .string ⟨#[]⟩, .int .u64 0, .int .u64 0] 24)) w.heap.size u1.heap.size R O #[.int .i64 0, .string ⟨#[]⟩, .string ⟨#[]⟩, .int .u64 0, .int .u64 0] #[.int .i64 4, .string ⟨#[]⟩, .string ⟨#[]⟩, .int .u64 0, .int .u64 0] _ := ⟨hz1.alloc _, Blk.new u1 24 #[.int .i64 4, .string ⟨#[]⟩, .string ⟨#[]⟩, .int .u64 0, .int .u64 0], hr1.below ((Below.refl _ _).alloc (Nat.le_refl _) _), hk2.alloc _, Nat.le_refl _, hk2.size, Nat.ne_of_lt hz1.lt, hRw, hOw⟩
  clear hz hz1 hk0 hk1 hk2 hlt h1 hr1 hRw hOw hge
  go_upto_region 2 with (fail)
  generalize u1.alloc (.cells #[.int .i64 4, .string ⟨#[]⟩, .string ⟨#[]⟩, .int .u64 0, .int .u64 0] 24) = w2 at *
  generalize u1.heap.size = p at *
  generalize hgg : w.heap.size = g at T1 ⊢
  clear hgg
  have x0 := T1.xx.cell 0
  have z0 := T1.xx.free 0
  have x1 := T1.xx.cell 1
  have z1 := T1.xx.free 1
  have x2 := T1.xx.cell 2
  have z2 := T1.xx.free 2
  have x3 := T1.xx.cell 3
  have z3 := T1.xx.free 3
  have x4 := T1.xx.cell 4
  have z4 := T1.xx.free 4
  simp only [List.getElem?_toArray, List.getElem?_cons_zero, List.getElem?_cons_succ] at x0 x1 x2 x3 x4
  go_wp2_with fail
  refine (must_ok w2).mono ?_
  rintro e u2 ⟨rfl, rfl⟩
  go_wp2_with fail
  refine (haskey_c 4 true rfl _).mono ?_
  rintro e u10 ⟨rfl, rfl⟩
  go_wp2_with fail
  refine (Tk.text (s := key) 64 (by omega) (by omega) (by (try simp only [List.length_append]); omega) T1).mono ?_
  rintro e v1 ⟨rfl, S1⟩
  clear x0 z0 x1 z1 x2 z2 x3 z3 x4 z4
  clear T1
  have x0 := S1.xx.cell 0
  have z0 := S1.xx.free 0
  have x1 := S1.xx.cell 1
  have z1 := S1.xx.free 1
  have x2 := S1.xx.cell 2
  have z2 := S1.xx.free 2
  have x3 := S1.xx.cell 3
  have z3 := S1.xx.free 3
  have x4 := S1.xx.cell 4
  have z4 := S1.xx.free 4
  simp only [List.getElem?_toArray, List.getElem?_cons_zero, List.getElem?_cons_succ] at x0 x1 x2 x3 x4
  have U1 := S1.put 1 (.string (str key))
  simp only [List.setIfInBounds_toArray, List.set_cons_zero, List.set_cons_succ] at U1
  clear S1
  go_upto_region 5 with (fail)
  generalize v1.setCell ⟨p, 1, none⟩ (.string (str key)) = w21 at *
  clear x0 z0 x1 z1 x2 z2 x3 z3 x4 z4
  have x0 := U1.xx.cell 0
  have z0 := U1.xx.free 0
  have x1 := U1.xx.cell 1
  have z1 := U1.xx.free 1
  have x2 := U1.xx.cell 2
  have z2 := U1.xx.free 2
  have x3 := U1.xx.cell 3
  have z3 := U1.xx.free 3
  have x4 := U1.xx.cell 4
  have z4 := U1.xx.free 4
  simp only [List.getElem?_toArray, List.getElem?_cons_zero, List.getElem?_cons_succ] at x0 x1 x2 x3 x4
  go_wp2_with fail
  refine (hasvalue_c 4 true rfl _).mono ?_
  rintro e u11 ⟨rfl, rfl⟩
  go_wp2_with fail
  refine (Tk.text (s := val) 4096 (by omega) (by omega) (by (try simp only [List.length_append]); omega) U1).mono ?_
  rintro e v2 ⟨rfl, S2⟩
  clear x0 z0 x1 z1 x2 z2 x3 z3 x4 z4
  clear U1
  have x0 := S2.xx.cell 0
  have z0 := S2.xx.free 0
  have x1 := S2.xx.cell 1
  have z1 := S2.xx.free 1
  have x2 := S2.xx.cell 2
  have z2 := S2.xx.free 2
  have x3 := S2.xx.cell 3
  have z3 := S2.xx.free 3
  have x4 := S2.xx.cell 4
  have z4 := S2.xx.free 4
  simp only [List.getElem?_toArray, List.getElem?_cons_zero, List.getElem?_cons_succ] at x0 x1 x2 x3 x4
  have U2 := S2.put 2 (.string (str val))
  simp only [List.setIfInBounds_toArray, List.set_cons_zero, List.set_cons_succ] at U2
  clear S2
  go_upto_region 7 with (fail)
  generalize v2.setCell ⟨p, 2, none⟩ (.string (str val)) = w22 at *
  clear x0 z0 x1 z1 x2 z2 x3 z3 x4 z4
  have x0 := U2.xx.cell 0
  have z0 := U2.xx.free 0
  have x1 := U2.xx.cell 1
  have z1 := U2.xx.free 1
  have x2 := U2.xx.cell 2
  have z2 := U2.xx.free 2
  have x3 := U2.xx.cell 3
  have z3 := U2.xx.free 3
  have x4 := U2.xx.cell 4
  have z4 := U2.xx.free 4
  simp only [List.getElem?_toArray, List.getElem?_cons_zero, List.getElem?_cons_succ] at x0 x1 x2 x3 x4
  go_wp2_with fail
  refine (Tk.num (n := t) 1073741824 (by omega) (by omega) (by (try simp only [List.length_append]); omega) U2).mono ?_
  rintro e v3 ⟨rfl, S3⟩
  clear x0 z0 x1 z1 x2 z2 x3 z3 x4 z4
  clear U2
  have x0 := S3.xx.cell 0
  have z0 := S3.xx.free 0
  have x1 := S3.xx.cell 1
  have z1 := S3.xx.free 1
  have x2 := S3.xx.cell 2
  have z2 := S3.xx.free 2
  have x3 := S3.xx.cell 3
  have z3 := S3.xx.free 3
  have x4 := S3.xx.cell 4
  have z4 := S3.xx.free 4
  simp only [List.getElem?_toArray, List.getElem?_cons_zero, List.getElem?_cons_succ] at x0 x1 x2 x3 x4
  have U3 := S3.put 3 (.int .u64 (t : Int))
  simp only [List.setIfInBounds_toArray, List.set_cons_zero, List.set_cons_succ] at U3
  clear S3
  go_upto_region 8 with (fail)
  generalize v3.setCell ⟨p, 3, none⟩ (.int .u64 (t : Int)) = w23 at *
  clear x0 z0 x1 z1 x2 z2 x3 z3 x4 z4
  have x0 := U3.xx.cell 0
  have z0 := U3.xx.free 0
  have x1 := U3.xx.cell 1
  have z1 := U3.xx.free 1
  have x2 := U3.xx.cell 2
  have z2 := U3.xx.free 2
  have x3 := U3.xx.cell 3
  have z3 := U3.xx.free 3
  have x4 := U3.xx.cell 4
  have z4 := U3.xx.free 4
  simp only [List.getElem?_toArray, List.getElem?_cons_zero, List.getElem?_cons_succ] at x0 x1 x2 x3 x4
  go_wp2_with fail
  refine (hasversion_c 4 true rfl _).mono ?_
  rintro e u13 ⟨rfl, rfl⟩
  go_wp2_with fail
  refine (Tk.num (n := v) 18446744073709551615 (by omega) (by omega) (by (try simp only [List.length_append]); omega) U3).mono ?_
  rintro e v4 ⟨rfl, S4⟩
  clear x0 z0 x1 z1 x2 z2 x3 z3 x4 z4
  clear U3
  have x0 := S4.xx.cell 0
  have z0 := S4.xx.free 0
  have x1 := S4.xx.cell 1
  have z1 := S4.xx.free 1
  have x2 := S4.xx.cell 2
  have z2 := S4.xx.free 2
  have x3 := S4.xx.cell 3
  have z3 := S4.xx.free 3
  have x4 := S4.xx.cell 4
  have z4 := S4.xx.free 4
  simp only [List.getElem?_toArray, List.getElem?_cons_zero, List.getElem?_cons_succ] at x0 x1 x2 x3 x4
  have U4 := S4.put 4 (.int .u64 (v : Int))
  simp only [List.setIfInBounds_toArray, List.set_cons_zero, List.set_cons_succ] at U4
  clear S4
  go_upto_region 10 with (fail)
  generalize v4.setCell ⟨p, 4, none⟩ (.int .u64 (v : Int)) = w24 at *
  clear x0 z0 x1 z1 x2 z2 x3 z3 x4 z4
  have x0 := U4.xx.cell 0
  have z0 := U4.xx.free 0
  have x1 := U4.xx.cell 1
  have z1 := U4.xx.free 1
  have x2 := U4.xx.cell 2
  have z2 := U4.xx.free 2
  have x3 := U4.xx.cell 3
  have z3 := U4.xx.free 3
  have x4 := U4.xx.cell 4
  have z4 := U4.xx.free 4
  simp only [List.getElem?_toArray, List.getElem?_cons_zero, List.getElem?_cons_succ] at x0 x1 x2 x3 x4
  go_wp2_with fail
  refine (hck _).mono ?_
  rintro e v9 ⟨rfl, hb9⟩
  have TB := U4.below hb9
  clear U4 hb9 hck
  clear x0 z0 x1 z1 x2 z2 x3 z3 x4 z4
  go_wp2_with fail
  refine (must_ok v9).mono ?_
  rintro e v8 ⟨rfl, rfl⟩
  have x0 := TB.xx.cell 0
  have z0 := TB.xx.free 0
  have x1 := TB.xx.cell 1
  have z1 := TB.xx.free 1
  have x2 := TB.xx.cell 2
  have z2 := TB.xx.free 2
  have x3 := TB.xx.cell 3
  have z3 := TB.xx.free 3
  have x4 := TB.xx.cell 4
  have z4 := TB.xx.free 4
  simp only [List.getElem?_toArray, List.getElem?_cons_zero, List.getElem?_cons_succ] at x0 x1 x2 x3 x4
  have y0 := TB.zz.free 0
  have y1 := TB.zz.free 1
  have y2 := TB.zz.free 2
  have y3 := TB.zz.free 3
  have y4 := TB.zz.free 4
  have yc0 := TB.zz.cell 0
  have yc1 := TB.zz.cell 1
  have yc2 := TB.zz.cell 2
  have yc3 := TB.zz.cell 3
  have yc4 := TB.zz.cell 4
  simp only [List.getElem?_toArray, List.getElem?_cons_zero, List.getElem?_cons_succ] at yc0 yc1 yc2 yc3 yc4
  have TZ := (((((TB.putz 0 (.int .i64 4)).putz 1 (.string (str key))).putz 2 (.string (str val))).putz 3 (.int .u64 (t : Int))).putz 4 (.int .u64 (v : Int)))
  simp only [List.setIfInBounds_toArray, List.set_cons_zero, List.set_cons_succ] at TZ
  go_wp2_with fail
  refine bodyPost_ret (results_cell_row rfl _ _ g 24 #[.int .i64 4, .string (str key), .string (str val), .int .u64 (t : Int), .int .u64 (v : Int)] (0, 0) _ rfl TZ.zz Try.underlying24 rfl (by kernel_rfl)) rfl ⟨rfl, TZ.rs, TZ.kp⟩
theorem take_c {k : Int} {key val : List UInt8} {t v : Nat} (hc : chk k key val t v = true) (hv : v < 18446744073709551616) {R O : Nat} (rest : List UInt8) (hr : rest.length ≤ 1000000) (w : World) (h : RS w R O (opB k key val t v ++ rest)) :
    Calls Try.prog 12 #[.pointer (some ⟨R, 0, none⟩)] w fun e w' => e = .returned (.agg #[.int .i64 k, .string (str key), .string (str val), .int .u64 (t : Int), .int .u64 (v : Int)]) ∧ RS w' R O rest ∧ Kp (fun k => k = R ∨ k = O) w w' := by
  have hk := chk_kind hc
  rcases (by omega : k = 1 ∨ k = 2 ∨ k = 3 ∨ k = 4 ∨ k = 5) with rfl | rfl | rfl | rfl | rfl
  · exact take1 hc hv rest hr w h
  · exact take2 hc hv rest hr w h
  · exact take3 hc hv rest hr w h
  · exact take4 hc hv rest hr w h
  · exact take5 hc hv rest hr w h
end Go.Proofs.Ytpjmkgomilnhnaa.Opy
