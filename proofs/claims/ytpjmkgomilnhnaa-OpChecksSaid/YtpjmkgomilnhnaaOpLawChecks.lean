/- Layer 10 (op): for every input the call returns true and leaves what it was given as it was: which operations may be; those that may have the document's bytes, and are read again (OpChecks). No condition. -/
import Derived.Test.YtpjmkgomilnhnaaKit
import Derived.Test.YtpjmkgomilnhnaaOpPut
import Derived.Test.YtpjmkgomilnhnaaOpRefPut
import Derived.Test.YtpjmkgomilnhnaaOpRefCheck
import Derived.Test.YtpjmkgomilnhnaaOpLawCut
import Derived.Test.YtpjmkgomilnhnaaOpRead
import Derived.Test.YtpjmkgomilnhnaaOpAwake
import Derived.Test.YtpjmkgomilnhnaaOpOpen
import Derived.Test.YtpjmkgomilnhnaaRows
import Derived.BigQuiet
namespace Go.Proofs.Ytpjmkgomilnhnaa.Opy
open Go.ChangeShapes Go.WideShapes Go.ChangeAt Go.RowKit
open Wirey (Blk Row str str_size str_list str_cat enc enc_len txt RS Kp)
open Regy

theorem enters_checks : ∀ (args : Array Value) (w : World), (callFunc 11 args).run Try.prog w = .ok (.enter 11 args) w := fun _ _ => by kernel_rfl
set_option maxHeartbeats 600000 in
theorem checks1_c {k : Int} {key val : List UInt8} {t v : Nat} (hc : chk k key val t v = true) (hv : v < 18446744073709551616) {R O Q : Nat} (w : World) (h : RS w R O (opB k key val t v)) {c0 c1 c2 c3 c4 : Value} (hP : Blk w Q 24 #[c0, c1, c2, c3, c4]) (hPR : Q ≠ R) (hPO : Q ≠ O) :
    Calls Try.prog 11 #[.pointer (some ⟨R, 0, none⟩), .pointer (some ⟨Q, 0, none⟩)] w fun e w' => e = .returned (.tuple #[]) ∧ RS w' R O [] ∧ Kp (fun k => k = R ∨ k = O ∨ k = Q) w w' ∧ Blk w' Q 24 #[.int .i64 k, .string (str key), .string (str val), .int .u64 (t : Int), .int .u64 (v : Int)] := by
  have hT := take_c hc hv (R := R) (O := O) [] (by simp) w (by rw [List.append_nil]; exact h)
  go_enter Try.func11, Try.ntmps11
  go_wp2_with fail
  refine hT.mono ?_
  rintro e u ⟨rfl, hR, hK⟩
  have hP2 : Blk u Q 24 #[c0, c1, c2, c3, c4] := hK.blk hP (by rintro (e | e); exact hPR e; exact hPO e)
  have x0 := hP2.cell 0
  have x1 := hP2.cell 1
  have x2 := hP2.cell 2
  have x3 := hP2.cell 3
  have x4 := hP2.cell 4
  simp only [List.getElem?_toArray, List.getElem?_cons_zero, List.getElem?_cons_succ] at x0 x1 x2 x3 x4
  have z0 := hP2.free 0
  have z1 := hP2.free 1
  have z2 := hP2.free 2
  have z3 := hP2.free 3
  have z4 := hP2.free 4
  have hP3 := ((((hP2.put 0 (.int .i64 k)).put 1 (.string (str key))).put 2 (.string (str val))).put 3 (.int .u64 (t : Int))).put 4 (.int .u64 (v : Int))
  have hK3 := ((((((Kp.refl (fun q => q = Q) u).set (p := ⟨Q, 0, none⟩) rfl (.int .i64 k)).set (p := ⟨Q, 1, none⟩) rfl (.string (str key))).set (p := ⟨Q, 2, none⟩) rfl (.string (str val))).set (p := ⟨Q, 3, none⟩) rfl (.int .u64 (t : Int))).set (p := ⟨Q, 4, none⟩) rfl (.int .u64 (v : Int)))
  simp only [List.setIfInBounds_toArray, List.set_cons_zero, List.set_cons_succ] at hP3
  have hR3 : RS _ R O [] := ⟨hK3.blk hR.rd (fun e => hPR e.symm), hK3.blk hR.of (fun e => hPO e.symm)⟩
  have hK4 := (Kp.trans (S := fun k => k = R ∨ k = O ∨ k = Q) ⟨hK.os, hK.tape, hK.output, hK.size, fun k hk hS => hK.block k hk (fun e => hS (by rcases e with e | e; exact .inl e; exact .inr (.inl e)))⟩ ⟨hK3.os, hK3.tape, hK3.output, hK3.size, fun k hk hS => hK3.block k hk (fun e => hS (.inr (.inr e)))⟩)
  clear hT hP hP2 hR hK hK3
  go_wp2_with fail
  go_end0
  exact ⟨rfl, hR3, hK4, hP3⟩
set_option maxHeartbeats 4000000 in
set_option maxRecDepth 100000 in
theorem opChecks_walk (k : Int) (_wk : (Lit.int .i64 k).wf = true) (key0 val0 : List UInt8) (t v : Nat) (hk0 : key0.length ≤ maxLen) (hv0 : val0.length ≤ maxLen) (ht : t < 18446744073709551616) (hv : v < 18446744073709551616) (w : World) :
    Calls Try.prog 3 #[.agg #[.int .i64 k, .string (str key0), .string (str val0), .int .u64 (t : Int), .int .u64 (v : Int)]] w fun e w' => e = .returned (.bool true) ∧ Below w.heap.size w w' := by
  have hcut := fun W => cut_c k key0 val0 (t : Int) (v : Int) hk0 hv0 W
  have hk := cutTo_le 70 key0
  have hl := cutTo_le 4100 val0
  generalize cutTo 70 key0 = key at *
  generalize cutTo 4100 val0 = val at *
  have hk5 : key.length ≤ maxLen := by unfold maxLen; omega
  have hl5 : val.length ≤ maxLen := by unfold maxLen; omega
  have hb0 := (Below.refl _ w).alloc (Nat.le_refl _) (.cells #[.int .i64 k, .string (str key0), .string (str val0), .int .u64 (t : Int), .int .u64 (v : Int)] 24)
  go_enter Try.func3, Try.ntmps3
  go_wp2_with fail
  generalize w.alloc (.cells #[.int .i64 k, .string (str key0), .string (str val0), .int .u64 (t : Int), .int .u64 (v : Int)] 24) = w1 at *
  refine (hcut _).mono ?_
  rintro e w2 ⟨rfl, hb2⟩
  have h3 : (Below w.heap.size w (w2.alloc (.cells #[.int .i64 k, .string (str key), .string (str val), .int .u64 (t : Int), .int .u64 (v : Int)] 24)) ∧ Blk (w2.alloc (.cells #[.int .i64 k, .string (str key), .string (str val), .int .u64 (t : Int), .int .u64 (v : Int)] 24)) w2.heap.size 24 #[.int .i64 k, .string (str key), .string (str val), .int .u64 (t : Int), .int .u64 (v : Int)]) := ⟨(hb0.trans (hb2.mono hb0.size)).alloc (Nat.le_trans hb0.size hb2.size) _, Blk.new w2 24 #[.int .i64 k, .string (str key), .string (str val), .int .u64 (t : Int), .int .u64 (v : Int)]⟩
  clear hb0 hb2 hcut hk0 hv0
  go_upto_region 2 with (fail)
  generalize w2.heap.size = g at *
  generalize w2.alloc (.cells #[.int .i64 k, .string (str key), .string (str val), .int .u64 (t : Int), .int .u64 (v : Int)] 24) = w3 at *
  have step : ∀ {W W' : World}, (Below w.heap.size w W ∧ Blk W g 24 #[.int .i64 k, .string (str key), .string (str val), .int .u64 (t : Int), .int .u64 (v : Int)]) → Below W.heap.size W W' → (Below w.heap.size w W' ∧ Blk W' g 24 #[.int .i64 k, .string (str key), .string (str val), .int .u64 (t : Int), .int .u64 (v : Int)]) := fun {W W'} hW hb => ⟨hW.1.trans (hb.mono hW.1.size), hW.2.below hb hW.2.lt⟩
  have cs : ∀ {W : World}, (Below w.heap.size w W ∧ Blk W g 24 #[.int .i64 k, .string (str key), .string (str val), .int .u64 (t : Int), .int .u64 (v : Int)]) → (fun W => W.cell? ⟨g, 0, none⟩ = some (.int .i64 k) ∧ W.cell? ⟨g, 1, none⟩ = some (.string (str key)) ∧ W.cell? ⟨g, 2, none⟩ = some (.string (str val)) ∧ W.cell? ⟨g, 3, none⟩ = some (.int .u64 (t : Int)) ∧ W.cell? ⟨g, 4, none⟩ = some (.int .u64 (v : Int)) ∧ (Below w.heap.size w W ∧ Blk W g 24 #[.int .i64 k, .string (str key), .string (str val), .int .u64 (t : Int), .int .u64 (v : Int)])) W := fun {W} hW => ⟨hW.2.cell 0, hW.2.cell 1, hW.2.cell 2, hW.2.cell 3, hW.2.cell 4, hW⟩
  have fa : ∀ W, (Below w.heap.size w W ∧ Blk W g 24 #[.int .i64 k, .string (str key), .string (str val), .int .u64 (t : Int), .int .u64 (v : Int)]) → Calls Try.prog 6 #[] W fun e W' => e = .returned (.bool true) ∧ (Below w.heap.size w W' ∧ Blk W' g 24 #[.int .i64 k, .string (str key), .string (str val), .int .u64 (t : Int), .int .u64 (v : Int)]) := fun W hW => (awake_c W).mono fun _ _ ⟨a, b⟩ => ⟨a, step hW b⟩
  have fp : ∀ W, (Below w.heap.size w W ∧ Blk W g 24 #[.int .i64 k, .string (str key), .string (str val), .int .u64 (t : Int), .int .u64 (v : Int)]) → Calls Try.prog 7 #[.agg #[.int .i64 k, .string (str key), .string (str val), .int .u64 (t : Int), .int .u64 (v : Int)]] W fun e W' => e = .returned (.bool (chk k key val t v)) ∧ (Below w.heap.size w W' ∧ Blk W' g 24 #[.int .i64 k, .string (str key), .string (str val), .int .u64 (t : Int), .int .u64 (v : Int)]) := fun W hW => (pcheck_c k key val t v hk5 hl5 W).mono fun _ _ ⟨a, b⟩ => ⟨a, step hW b⟩
  have fr : ∀ W, (Below w.heap.size w W ∧ Blk W g 24 #[.int .i64 k, .string (str key), .string (str val), .int .u64 (t : Int), .int .u64 (v : Int)]) → Calls Try.prog 8 #[.agg #[.int .i64 k, .string (str key), .string (str val), .int .u64 (t : Int), .int .u64 (v : Int)]] W fun e W' => e = .returned (.bool (chk k key val t v)) ∧ (Below w.heap.size w W' ∧ Blk W' g 24 #[.int .i64 k, .string (str key), .string (str val), .int .u64 (t : Int), .int .u64 (v : Int)]) := fun W hW => (rcheck_c k key val t v hk5 hl5 W).mono fun _ _ ⟨a, b⟩ => ⟨a, step hW b⟩
  have h4 := cs (step h3 (W' := w3.drew) ⟨rfl, rfl, rfl, Nat.le_refl _, fun _ _ => rfl⟩)
  dsimp only at h4
  refine region_only 9 #[false, false, false, false, false, false, false, false, false] (S := (fun W => W.cell? ⟨g, 0, none⟩ = some (.int .i64 k) ∧ W.cell? ⟨g, 1, none⟩ = some (.string (str key)) ∧ W.cell? ⟨g, 2, none⟩ = some (.string (str val)) ∧ W.cell? ⟨g, 3, none⟩ = some (.int .u64 (t : Int)) ∧ W.cell? ⟨g, 4, none⟩ = some (.int .u64 (v : Int)) ∧ (Below w.heap.size w W ∧ Blk W g 24 #[.int .i64 k, .string (str key), .string (str val), .int .u64 (t : Int), .int .u64 (v : Int)]))) rfl rfl (by kernel_rfl) h4 (fun hSw => ?_)
  refine wpAnyH_ready (fuel := 8) (rs := [0]) (by kernel_rfl) (by simp) (AllReadyH.cons rfl (fun K hK => ?_) AllReadyH.nil)
  go_simp
  refine Calls.mono (fa _ hSw.2.2.2.2.2) ?_
  rintro e wv ⟨rfl, hwv⟩
  refine hK.out _ _ (cs hwv) (fun hSw => ?_)
  clear hK K
  simp only [List.setIfInBounds_toArray, List.set_cons_zero, List.set_cons_succ]
  refine take_at 1 9 (fuel := 7) ?_ rfl rfl (by kernel_rfl) (by kernel_rfl) (by kernel_rfl) (Or.inl ⟨by rfl, ?_⟩) hSw ?_
  rotate_left
  · intro wx hSx
    (try dsimp only at hSx)
    go_split_ands
    go_simp
    (try with_reducible rfl)
  simp only [List.setIfInBounds_toArray, List.set_cons_zero, List.set_cons_succ]
  refine take_at 2 10 (fuel := 6) ?_ rfl rfl (by kernel_rfl) (by kernel_rfl) (by kernel_rfl) (Or.inl ⟨by rfl, ?_⟩) hSw ?_
  rotate_left
  · intro wx hSx
    (try dsimp only at hSx)
    go_split_ands
    go_simp
    (try with_reducible rfl)
  simp only [List.setIfInBounds_toArray, List.set_cons_zero, List.set_cons_succ]
  refine take_at 3 11 (fuel := 5) ?_ rfl rfl (by kernel_rfl) (by kernel_rfl) (by kernel_rfl) (Or.inl ⟨by rfl, ?_⟩) hSw ?_
  rotate_left
  · intro wx hSx
    (try dsimp only at hSx)
    go_split_ands
    go_simp
    (try with_reducible rfl)
  simp only [List.setIfInBounds_toArray, List.set_cons_zero, List.set_cons_succ]
  refine take_at 5 13 (fuel := 4) ?_ rfl rfl (by kernel_rfl) (by kernel_rfl) (by kernel_rfl) (Or.inl ⟨by rfl, ?_⟩) hSw ?_
  rotate_left
  · intro wx hSx
    (try dsimp only at hSx)
    go_split_ands
    go_simp
    (try with_reducible rfl)
  simp only [List.setIfInBounds_toArray, List.set_cons_zero, List.set_cons_succ]
  refine wpAnyH_ready (fuel := 3) (rs := [4]) (by kernel_rfl) (by simp) (AllReadyH.cons rfl (fun K hK => ?_) AllReadyH.nil)
  go_simp
  refine Calls.mono (fp _ hSw.2.2.2.2.2) ?_
  rintro e wv ⟨rfl, hwv⟩
  refine hK.out _ _ (cs hwv) (fun hSw => ?_)
  clear hK K
  simp only [List.setIfInBounds_toArray, List.set_cons_zero, List.set_cons_succ]
  refine wpAnyH_ready (fuel := 2) (rs := [6]) (by kernel_rfl) (by simp) (AllReadyH.cons rfl (fun K hK => ?_) AllReadyH.nil)
  go_simp
  refine Calls.mono (fr _ hSw.2.2.2.2.2) ?_
  rintro e wv ⟨rfl, hwv⟩
  refine hK.out _ _ (cs hwv) (fun hSw => ?_)
  clear hK K
  simp only [List.setIfInBounds_toArray, List.set_cons_zero, List.set_cons_succ]
  refine take_at 7 15 (fuel := 1) ?_ rfl rfl (by kernel_rfl) (by kernel_rfl) (by kernel_rfl) (Or.inl ⟨by rfl, ?_⟩) hSw ?_
  rotate_left
  · intro wx hSx
    (try dsimp only at hSx)
    go_split_ands
    go_simp
    (try with_reducible rfl)
  simp only [List.setIfInBounds_toArray, List.set_cons_zero, List.set_cons_succ]
  refine take_at 8 16 (fuel := 0) ?_ rfl rfl (by kernel_rfl) (by kernel_rfl) (by kernel_rfl) (Or.inl ⟨by rfl, ?_⟩) hSw ?_
  rotate_left
  · intro wx hSx
    (try dsimp only at hSx)
    go_split_ands
    go_simp
    (try with_reducible rfl)
  simp only [List.setIfInBounds_toArray, List.set_cons_zero, List.set_cons_succ]
  refine wpAnyH_done (by kernel_rfl) ⟨rfl, ?_⟩ 0
  have h5 := hSw.2.2.2.2.2
  clear hSw h4 h3 fa fr cs
  have x0 := h5.2.cell 0
  have x1 := h5.2.cell 1
  have x2 := h5.2.cell 2
  have x3 := h5.2.cell 3
  have x4 := h5.2.cell 4
  simp only [List.getElem?_toArray, List.getElem?_cons_zero, List.getElem?_cons_succ] at x0 x1 x2 x3 x4
  cases hc : chk k key val t v with
  | false =>
    rw [hc] at fp
    go_wp2_with fail
    refine (fp _ h5).mono ?_
    rintro e w5 ⟨rfl, h6⟩
    go_wp2_with fail
    go_ret
    exact ⟨rfl, h6.1⟩
  | true =>
    rw [hc] at fp
    have hkd := chk_kind hc
    go_wp2_with fail
    refine (fp _ h5).mono ?_
    rintro e w5 ⟨rfl, h6⟩
    clear fp h5 x0 x1 x2 x3 x4
    have h7 := step h6 ((Below.refl _ w5).alloc (Nat.le_refl _) (.cells #[.int .i64 0, .string ⟨#[]⟩, .string ⟨#[]⟩, .int .u64 0, .int .u64 0] 24))
    have hP := Blk.new w5 24 #[.int .i64 0, .string ⟨#[]⟩, .string ⟨#[]⟩, .int .u64 0, .int .u64 0]
    have hgq : g ≠ w5.heap.size := by have := h6.2.lt; omega
    have hwq := h6.1.size
    go_upto_region 7 with (fail)
    generalize w5.heap.size = q at *
    generalize w5.alloc (.cells #[.int .i64 0, .string ⟨#[]⟩, .string ⟨#[]⟩, .int .u64 0, .int .u64 0] 24) = w6 at *
    clear h6
    have x0 := h7.2.cell 0
    have x1 := h7.2.cell 1
    have x2 := h7.2.cell 2
    have x3 := h7.2.cell 3
    have x4 := h7.2.cell 4
    simp only [List.getElem?_toArray, List.getElem?_cons_zero, List.getElem?_cons_succ] at x0 x1 x2 x3 x4
    have hmf : ∀ (fn : Fn) (first cap : Array Value) (w : World), (Instr.makeFunc fn first cap).run Try.prog w = .ok (.func fn first cap) w := fun _ _ _ _ => rfl
    go_wp2_with fail
    refine (pput_c hkd (by omega) (by omega) ht hv w6).mono ?_
    rintro e w7 ⟨rfl, hb7⟩
    have h8 := step h7 hb7
    have hP8 := hP.below hb7 hP.lt
    have hql := hP8.lt
    clear x0 x1 x2 x3 x4 h7 hP hb7
    go_wp2_with fail
    refine (Wirey.read_ok2 _ enters_checks #[.pointer (some ⟨q, 0, none⟩)] (opB k key val t v) [] w7 (fun j => j = q)
      (fun w2 => Blk w2 q 24 #[.int .i64 k, .string (str key), .string (str val), .int .u64 (t : Int), .int .u64 (v : Int)]) (fun j hj => by omega) ?_ ?_).mono ?_
    · rintro w2 w3 hs h1 hk9
      exact (hk9.block q (by omega) (by omega)).trans h1
    · intro R O w2 hr hb2 hR hO
      refine (checks1_c hc hv w2 hr (hP8.below hb2 (by omega)) (by omega) (by omega)).mono ?_
      rintro e w3 ⟨rfl, h1, h2, h3⟩
      exact ⟨rfl, h1, h2, h3⟩
    rintro e w8 ⟨rfl, hk8, hP9⟩
    have h9 : (Below w.heap.size w w8 ∧ Blk w8 g 24 #[.int .i64 k, .string (str key), .string (str val), .int .u64 (t : Int), .int .u64 (v : Int)]) := ⟨⟨hk8.os.trans h8.1.os, hk8.tape.trans h8.1.tape, hk8.output.trans h8.1.output, Nat.le_trans h8.1.size hk8.size, fun i hi => (hk8.block i (Nat.lt_of_lt_of_le hi h8.1.size) (by omega)).trans (h8.1.block i hi)⟩, hk8.blk h8.2 hgq⟩
    rw [Wirey.endE_nil]
    clear h8 hP8 hk8
    have st2 : ∀ {W W' : World}, ((Below w.heap.size w W ∧ Blk W g 24 #[.int .i64 k, .string (str key), .string (str val), .int .u64 (t : Int), .int .u64 (v : Int)]) ∧ Blk W q 24 #[.int .i64 k, .string (str key), .string (str val), .int .u64 (t : Int), .int .u64 (v : Int)]) → Below W.heap.size W W' → ((Below w.heap.size w W' ∧ Blk W' g 24 #[.int .i64 k, .string (str key), .string (str val), .int .u64 (t : Int), .int .u64 (v : Int)]) ∧ Blk W' q 24 #[.int .i64 k, .string (str key), .string (str val), .int .u64 (t : Int), .int .u64 (v : Int)]) := fun {W W'} hW hb => ⟨step hW.1 hb, hW.2.below hb hW.2.lt⟩
    have cs : ∀ {W : World}, ((Below w.heap.size w W ∧ Blk W g 24 #[.int .i64 k, .string (str key), .string (str val), .int .u64 (t : Int), .int .u64 (v : Int)]) ∧ Blk W q 24 #[.int .i64 k, .string (str key), .string (str val), .int .u64 (t : Int), .int .u64 (v : Int)]) → (fun W => W.cell? ⟨g, 0, none⟩ = some (.int .i64 k) ∧ W.cell? ⟨g, 1, none⟩ = some (.string (str key)) ∧ W.cell? ⟨g, 2, none⟩ = some (.string (str val)) ∧ W.cell? ⟨g, 3, none⟩ = some (.int .u64 (t : Int)) ∧ W.cell? ⟨g, 4, none⟩ = some (.int .u64 (v : Int)) ∧ W.cell? ⟨q, 0, none⟩ = some (.int .i64 k) ∧ W.cell? ⟨q, 1, none⟩ = some (.string (str key)) ∧ W.cell? ⟨q, 2, none⟩ = some (.string (str val)) ∧ W.cell? ⟨q, 3, none⟩ = some (.int .u64 (t : Int)) ∧ W.cell? ⟨q, 4, none⟩ = some (.int .u64 (v : Int)) ∧ ((Below w.heap.size w W ∧ Blk W g 24 #[.int .i64 k, .string (str key), .string (str val), .int .u64 (t : Int), .int .u64 (v : Int)]) ∧ Blk W q 24 #[.int .i64 k, .string (str key), .string (str val), .int .u64 (t : Int), .int .u64 (v : Int)])) W := fun {W} hW => ⟨hW.1.2.cell 0, hW.1.2.cell 1, hW.1.2.cell 2, hW.1.2.cell 3, hW.1.2.cell 4, hW.2.cell 0, hW.2.cell 1, hW.2.cell 2, hW.2.cell 3, hW.2.cell 4, hW⟩
    have fp : ∀ W, ((Below w.heap.size w W ∧ Blk W g 24 #[.int .i64 k, .string (str key), .string (str val), .int .u64 (t : Int), .int .u64 (v : Int)]) ∧ Blk W q 24 #[.int .i64 k, .string (str key), .string (str val), .int .u64 (t : Int), .int .u64 (v : Int)]) → Calls Try.prog 10 #[.agg #[.int .i64 k, .string (str key), .string (str val), .int .u64 (t : Int), .int .u64 (v : Int)]] W fun e W' => e = .returned (.string (str (opB k key val t v))) ∧ ((Below w.heap.size w W' ∧ Blk W' g 24 #[.int .i64 k, .string (str key), .string (str val), .int .u64 (t : Int), .int .u64 (v : Int)]) ∧ Blk W' q 24 #[.int .i64 k, .string (str key), .string (str val), .int .u64 (t : Int), .int .u64 (v : Int)]) := fun W hW => (pput_c hkd (by omega) (by omega) ht hv W).mono fun _ _ ⟨a, b⟩ => ⟨a, st2 hW b⟩
    have fr : ∀ W, ((Below w.heap.size w W ∧ Blk W g 24 #[.int .i64 k, .string (str key), .string (str val), .int .u64 (t : Int), .int .u64 (v : Int)]) ∧ Blk W q 24 #[.int .i64 k, .string (str key), .string (str val), .int .u64 (t : Int), .int .u64 (v : Int)]) → Calls Try.prog 13 #[.agg #[.int .i64 k, .string (str key), .string (str val), .int .u64 (t : Int), .int .u64 (v : Int)]] W fun e W' => e = .returned (.string (str (opB k key val t v))) ∧ ((Below w.heap.size w W' ∧ Blk W' g 24 #[.int .i64 k, .string (str key), .string (str val), .int .u64 (t : Int), .int .u64 (v : Int)]) ∧ Blk W' q 24 #[.int .i64 k, .string (str key), .string (str val), .int .u64 (t : Int), .int .u64 (v : Int)]) := fun W hW => (rput_c hkd (by omega) (by omega) ht hv W).mono fun _ _ ⟨a, b⟩ => ⟨a, st2 hW b⟩
    have htl := Wirey.toList_str
    have h10 := cs (st2 ⟨h9, hP9⟩ (W' := w8.drew) ⟨rfl, rfl, rfl, Nat.le_refl _, fun _ _ => rfl⟩)
    dsimp only at h10
    clear h9 hP9
    go_upto_region 8 with (fail)
    refine region_only 15 #[false, false, false, false, false, false, false, false, false, false, false, false, false, false, false] (S := (fun W => W.cell? ⟨g, 0, none⟩ = some (.int .i64 k) ∧ W.cell? ⟨g, 1, none⟩ = some (.string (str key)) ∧ W.cell? ⟨g, 2, none⟩ = some (.string (str val)) ∧ W.cell? ⟨g, 3, none⟩ = some (.int .u64 (t : Int)) ∧ W.cell? ⟨g, 4, none⟩ = some (.int .u64 (v : Int)) ∧ W.cell? ⟨q, 0, none⟩ = some (.int .i64 k) ∧ W.cell? ⟨q, 1, none⟩ = some (.string (str key)) ∧ W.cell? ⟨q, 2, none⟩ = some (.string (str val)) ∧ W.cell? ⟨q, 3, none⟩ = some (.int .u64 (t : Int)) ∧ W.cell? ⟨q, 4, none⟩ = some (.int .u64 (v : Int)) ∧ ((Below w.heap.size w W ∧ Blk W g 24 #[.int .i64 k, .string (str key), .string (str val), .int .u64 (t : Int), .int .u64 (v : Int)]) ∧ Blk W q 24 #[.int .i64 k, .string (str key), .string (str val), .int .u64 (t : Int), .int .u64 (v : Int)]))) rfl rfl (by kernel_rfl) h10 (fun hSw => ?_)
    refine take_at 0 25 (fuel := 14) ?_ rfl rfl (by kernel_rfl) (by kernel_rfl) (by kernel_rfl) (Or.inl ⟨by rfl, ?_⟩) hSw ?_
    rotate_left
    · intro wx hSx
      (try dsimp only at hSx)
      go_split_ands
      go_simp
      (try with_reducible rfl)
    simp only [List.setIfInBounds_toArray, List.set_cons_zero, List.set_cons_succ]
    refine take_at 2 27 (fuel := 13) ?_ rfl rfl (by kernel_rfl) (by kernel_rfl) (by kernel_rfl) (Or.inl ⟨by rfl, ?_⟩) hSw ?_
    rotate_left
    · intro wx hSx
      (try dsimp only at hSx)
      go_split_ands
      go_simp
      (try with_reducible rfl)
    simp only [List.setIfInBounds_toArray, List.set_cons_zero, List.set_cons_succ]
    refine wpAnyH_ready (fuel := 12) (rs := [1]) (by kernel_rfl) (by simp) (AllReadyH.cons rfl (fun K hK => ?_) AllReadyH.nil)
    go_simp
    refine Calls.mono (fp _ hSw.2.2.2.2.2.2.2.2.2.2) ?_
    rintro e wv ⟨rfl, hwv⟩
    refine hK.out _ _ (cs hwv) (fun hSw => ?_)
    clear hK K
    simp only [List.setIfInBounds_toArray, List.set_cons_zero, List.set_cons_succ]
    refine wpAnyH_ready (fuel := 11) (rs := [3]) (by kernel_rfl) (by simp) (AllReadyH.cons rfl (fun K hK => ?_) AllReadyH.nil)
    go_simp
    refine Calls.mono (fr _ hSw.2.2.2.2.2.2.2.2.2.2) ?_
    rintro e wv ⟨rfl, hwv⟩
    refine hK.out _ _ (cs hwv) (fun hSw => ?_)
    clear hK K
    simp only [List.setIfInBounds_toArray, List.set_cons_zero, List.set_cons_succ]
    refine take_at 4 29 (fuel := 10) ?_ rfl rfl (by kernel_rfl) (by kernel_rfl) (by kernel_rfl) (Or.inl ⟨by rfl, ?_⟩) hSw ?_
    rotate_left
    · intro wx hSx
      (try dsimp only at hSx)
      go_split_ands
      go_simp
      (try with_reducible rfl)
    simp only [List.setIfInBounds_toArray, List.set_cons_zero, List.set_cons_succ]
    refine take_at 5 30 (fuel := 9) ?_ rfl rfl (by kernel_rfl) (by kernel_rfl) (by kernel_rfl) (Or.inl ⟨by rfl, ?_⟩) hSw ?_
    rotate_left
    · intro wx hSx
      (try dsimp only at hSx)
      go_split_ands
      go_simp
      (try with_reducible rfl)
    simp only [List.setIfInBounds_toArray, List.set_cons_zero, List.set_cons_succ]
    refine take_at 6 31 (fuel := 8) ?_ rfl rfl (by kernel_rfl) (by kernel_rfl) (by kernel_rfl) (Or.inl ⟨by rfl, ?_⟩) hSw ?_
    rotate_left
    · intro wx hSx
      (try dsimp only at hSx)
      go_split_ands
      go_simp
      (try with_reducible rfl)
    simp only [List.setIfInBounds_toArray, List.set_cons_zero, List.set_cons_succ]
    refine take_at 7 32 (fuel := 7) ?_ rfl rfl (by kernel_rfl) (by kernel_rfl) (by kernel_rfl) (Or.inl ⟨by rfl, ?_⟩) hSw ?_
    rotate_left
    · intro wx hSx
      (try dsimp only at hSx)
      go_split_ands
      go_simp
      (try with_reducible rfl)
    simp only [List.setIfInBounds_toArray, List.set_cons_zero, List.set_cons_succ]
    refine take_at 8 33 (fuel := 6) ?_ rfl rfl (by kernel_rfl) (by kernel_rfl) (by kernel_rfl) (Or.inl ⟨by rfl, ?_⟩) hSw ?_
    rotate_left
    · intro wx hSx
      (try dsimp only at hSx)
      go_split_ands
      go_simp
      (try with_reducible rfl)
    simp only [List.setIfInBounds_toArray, List.set_cons_zero, List.set_cons_succ]
    refine take_at 9 34 (fuel := 5) ?_ rfl rfl (by kernel_rfl) (by kernel_rfl) (by kernel_rfl) (Or.inl ⟨by rfl, ?_⟩) hSw ?_
    rotate_left
    · intro wx hSx
      (try dsimp only at hSx)
      go_split_ands
      go_simp
      (try with_reducible rfl)
    simp only [List.setIfInBounds_toArray, List.set_cons_zero, List.set_cons_succ]
    refine take_at 10 35 (fuel := 4) ?_ rfl rfl (by kernel_rfl) (by kernel_rfl) (by kernel_rfl) (Or.inl ⟨by rfl, ?_⟩) hSw ?_
    rotate_left
    · intro wx hSx
      (try dsimp only at hSx)
      go_split_ands
      go_simp
      (try with_reducible rfl)
    simp only [List.setIfInBounds_toArray, List.set_cons_zero, List.set_cons_succ]
    refine take_at 11 36 (fuel := 3) ?_ rfl rfl (by kernel_rfl) (by kernel_rfl) (by kernel_rfl) (Or.inl ⟨by rfl, ?_⟩) hSw ?_
    rotate_left
    · intro wx hSx
      (try dsimp only at hSx)
      go_split_ands
      go_simp
      (try with_reducible rfl)
    simp only [List.setIfInBounds_toArray, List.set_cons_zero, List.set_cons_succ]
    refine take_at 12 37 (fuel := 2) ?_ rfl rfl (by kernel_rfl) (by kernel_rfl) (by kernel_rfl) (Or.inl ⟨by rfl, ?_⟩) hSw ?_
    rotate_left
    · intro wx hSx
      (try dsimp only at hSx)
      go_split_ands
      go_simp
      (try with_reducible rfl)
    simp only [List.setIfInBounds_toArray, List.set_cons_zero, List.set_cons_succ]
    refine take_at 13 38 (fuel := 1) ?_ rfl rfl (by kernel_rfl) (by kernel_rfl) (by kernel_rfl) (Or.inl ⟨by rfl, ?_⟩) hSw ?_
    rotate_left
    · intro wx hSx
      (try dsimp only at hSx)
      go_split_ands
      go_simp
      (try with_reducible rfl)
    simp only [List.setIfInBounds_toArray, List.set_cons_zero, List.set_cons_succ]
    refine take_at 14 2 (fuel := 0) ?_ rfl rfl (by kernel_rfl) (by kernel_rfl) (by kernel_rfl) (Or.inl ⟨by rfl, ?_⟩) hSw ?_
    rotate_left
    · intro wx hSx
      (try dsimp only at hSx)
      go_split_ands
      go_simp
      (try with_reducible rfl)
    simp only [List.setIfInBounds_toArray, List.set_cons_zero, List.set_cons_succ]
    refine wpAnyH_done (by kernel_rfl) ⟨rfl, ?_⟩ 0
    have hZ := hSw.2.2.2.2.2.2.2.2.2.2.1.1
    go_wp2_with fail
    go_ret
    exact ⟨rfl, hZ⟩
set_option linter.unusedVariables false in
set_option maxRecDepth 100000 in
theorem opChecks_lifted (os : Os) (started : os.Started) (H : Type) (enc : TypeId × Value → H) :
    ReturnsInHanded {} Try.checked os 3 .any (Rows.opChecksSpec.pre6 enc Try.prog Try.f3 Rows.opChecksRow.domain false) (Rows.opChecksSpec.post enc Try.prog Try.f3 false true false false) := by
  refine returnsInHanded_of_change (C := Try.checked) Kit.own started (by kernel_rfl) Try.func3
    (ChangeSpec.witness6 (enc := enc) (C := Try.checked) false ⟨#[], #[.agg #[.int .i64 0, .string ⟨#[]⟩, .string ⟨#[]⟩, .int .u64 0, .int .u64 0]], []⟩ 8 (by kernel_rfl) (by kernel_rfl) (by kernel_rfl) (by kernel_rfl)) ?_
  intro W base args ds gs before hval0 hW hcnd _
  have hval : ∀ (j : Nat) t v, Try.f3.params[j]? = some t → args[j]? = some v → Value.okWide Try.prog W .any base t v := hval0
  have hW' := hW
  obtain ⟨p, q, hA0, hV, rfl, hfz, hnd⟩ := hW
  have hA : DataW.TrodAll enc Try.prog W 0 (fun _ => true) true Try.f3.params.toList args.toList ds p := hA0
  rw [Try.params3] at hA hval
  obtain ⟨v0, vs0, d0, ds0, p0, q0, hargs, rfl, rfl, h0, r0⟩ := trodAll_cons hA
  obtain ⟨rfl, rfl, rfl⟩ := trodAll_nil r0
  obtain ⟨rfl, rfl⟩ := trodVars_none hV
  obtain rfl : args = #[v0] := by cases args; simp_all
  obtain ⟨cs0, rfl, -⟩ := okWide_struct Try.underlying24 (hval 0 24 v0 rfl rfl)
  obtain ⟨fuel0, hf0⟩ := h0
  obtain ⟨k, key, val, t, v, e, wk, hk, hv, ht, hv2⟩ := open_op hf0
  obtain rfl : cs0 = #[.int .i64 k, .string (str key), .string (str val), .int .u64 (t : Int), .int .u64 (v : Int)] := by cases cs0; simpa [Value.cells] using e
  clear hA0 hval0
  refine (opChecks_walk k wk key val t v hk hv ht hv2 W).mono fun e W' ⟨he, hg⟩ => ?_
  subst he
  exact ⟨_, rfl, Kit.law_post hW' rfl (by kernel_rfl) rfl (by kernel_rfl) hg⟩

theorem opChecks_over : Rows.opChecksRow.holds Try.pinned (OpenSpec.ofChange Rows.opChecksSpec) :=
  OpenClaim.holds_of_wide 3 Try.f3 rfl rfl rfl rfl rfl rfl rfl ⟨rfl, rfl, rfl, rfl, rfl⟩ rfl rfl rfl rfl rfl (by kernel_rfl) Try.func3 (by kernel_rfl)
    (of_decide_eq_true (by kernel_rfl)) (by unfold Func.isWrapper; first | (rw [if_pos (by decide +kernel)]; kernel_rfl) | (rw [if_neg (by decide +kernel)]; exact ⟨rfl, rfl⟩))
    (fun os started H enc _ => opChecks_lifted os started H enc)

theorem opChecks_holds : Rows.OpChecksSaid :=
  opChecks_over
end Go.Proofs.Ytpjmkgomilnhnaa.Opy
