/- Contracts of the program's Tiny: touching, missing, removing, evicting, inserting. The only condition: a key is no longer than a text may be. -/
import Derived.Test.YtlnjnpchkdipdaaGreatTinyOps
import Derived.Test.YtlnjnpchkdipdaaGreatRingRoundAll
namespace Go.Proofs.YtlnjnpchkdipdaaGreat.Tinyy
open Go.ChangeShapes Go.WideShapes Go.ChangeAt Go.RowKit
open Wirey (Blk Row str str_size str_list Kp)
open Ringy
open Sketchy (Sk ksOf Six)

section
variable {w0 w w' w'' : World} {A B P : Nat} {m m' m'' : Rm} {v : Tv} {k : Key}
/-- The whole beside a region's cells. -/
structure Beside (w0 : World) (A B P : Nat) (wb : World) (m : Rm) (v : Tv) (w : World) : Prop where
  h : HeldT w0 A B P w m v
  s : StepT B wb m w m
theorem Beside.drewN (h : Beside w0 A B P w m v w') (n : Nat) : Beside w0 A B P w m v (w'.drewN n) := ⟨h.h.drewN n, h.s.drewN n⟩
theorem Beside.drew (h : Beside w0 A B P w m v w') : Beside w0 A B P w m v w'.drew := ⟨h.h.drew, h.s.drew⟩
theorem Beside.alloc (h : Beside w0 A B P w m v w') (o : Obj) : Beside w0 A B P w m v (w'.alloc o) := ⟨h.h.alloc o, h.s.alloc o⟩
theorem Beside.of (h : HeldT w0 A B P w m v) : Beside w0 A B P w m v w := ⟨h, StepT.refl _ _ _⟩
theorem b1 (h : Beside w0 A B P w m v w') : w'.cell? ⟨A, 0, none⟩ = some (.int .i64 (v.most : Int)) ∧ Beside w0 A B P w m v w' := ⟨h.h.cells.1, h⟩
theorem bA {x : World} (h : x.cell? ⟨A, 0, none⟩ = some (.int .i64 (v.most : Int)) ∧ Beside w0 A B P w m v x) (o : Obj) : (x.alloc o).cell? ⟨A, 0, none⟩ = some (.int .i64 (v.most : Int)) ∧ Beside w0 A B P w m v (x.alloc o) := b1 (h.2.alloc o)
theorem bD {x : World} (h : x.cell? ⟨A, 0, none⟩ = some (.int .i64 (v.most : Int)) ∧ Beside w0 A B P w m v x) : x.drew.cell? ⟨A, 0, none⟩ = some (.int .i64 (v.most : Int)) ∧ Beside w0 A B P w m v x.drew := b1 h.2.drew
theorem onto {f : FuncId} {args : Array Value} {W : World} {x : Ending} (hB : Beside w0 A B P w m v W) (h : Calls Tryz.prog f args W fun e w' => e = x ∧ W = w') : Calls Tryz.prog f args W fun e w' => e = x ∧ Beside w0 A B P w m v w' := h.mono fun _ _ ⟨a, b⟩ => ⟨a, b ▸ hB⟩
theorem b2 (h : Beside w0 A B P w m v w') : w'.cell? ⟨A, 0, none⟩ = some (.int .i64 (v.most : Int)) ∧ w'.cell? ⟨A, 2, none⟩ = some (.pointer (some ⟨P, 0, none⟩)) ∧ Beside w0 A B P w m v w' := ⟨h.h.cells.1, h.h.cells.2.2, h⟩
theorem b2A {x : World} (h : x.cell? ⟨A, 0, none⟩ = some (.int .i64 (v.most : Int)) ∧ x.cell? ⟨A, 2, none⟩ = some (.pointer (some ⟨P, 0, none⟩)) ∧ Beside w0 A B P w m v x) (o : Obj) : (x.alloc o).cell? ⟨A, 0, none⟩ = some (.int .i64 (v.most : Int)) ∧ (x.alloc o).cell? ⟨A, 2, none⟩ = some (.pointer (some ⟨P, 0, none⟩)) ∧ Beside w0 A B P w m v (x.alloc o) := b2 (h.2.2.alloc o)
theorem b2D {x : World} (h : x.cell? ⟨A, 0, none⟩ = some (.int .i64 (v.most : Int)) ∧ x.cell? ⟨A, 2, none⟩ = some (.pointer (some ⟨P, 0, none⟩)) ∧ Beside w0 A B P w m v x) : x.drew.cell? ⟨A, 0, none⟩ = some (.int .i64 (v.most : Int)) ∧ x.drew.cell? ⟨A, 2, none⟩ = some (.pointer (some ⟨P, 0, none⟩)) ∧ Beside w0 A B P w m v x.drew := b2 h.2.2.drew
theorem sB {x : World} (h : x.cell? ⟨A, 0, none⟩ = some (.int .i64 (v.most : Int)) ∧ x.cell? ⟨A, 2, none⟩ = some (.pointer (some ⟨P, 0, none⟩)) ∧ Beside w0 A B P w m v x) : Beside w0 A B P w m v x := h.2.2
theorem b3 {n : Nat} (hn : v.most = n) (h : Beside w0 A B P w m v w') : w'.cell? ⟨A, 0, none⟩ = some (.int .i64 (n : Int)) ∧ w'.cell? ⟨A, 2, none⟩ = some (.pointer (some ⟨P, 0, none⟩)) ∧ Beside w0 A B P w m v w' := by subst hn; exact b2 h
theorem b3A {n : Nat} (hn : v.most = n) {x : World} (h : x.cell? ⟨A, 0, none⟩ = some (.int .i64 (n : Int)) ∧ x.cell? ⟨A, 2, none⟩ = some (.pointer (some ⟨P, 0, none⟩)) ∧ Beside w0 A B P w m v x) (o : Obj) : (x.alloc o).cell? ⟨A, 0, none⟩ = some (.int .i64 (n : Int)) ∧ (x.alloc o).cell? ⟨A, 2, none⟩ = some (.pointer (some ⟨P, 0, none⟩)) ∧ Beside w0 A B P w m v (x.alloc o) := b3 hn (h.2.2.alloc o)
theorem b3D {n : Nat} (hn : v.most = n) {x : World} (h : x.cell? ⟨A, 0, none⟩ = some (.int .i64 (n : Int)) ∧ x.cell? ⟨A, 2, none⟩ = some (.pointer (some ⟨P, 0, none⟩)) ∧ Beside w0 A B P w m v x) : x.drew.cell? ⟨A, 0, none⟩ = some (.int .i64 (n : Int)) ∧ x.drew.cell? ⟨A, 2, none⟩ = some (.pointer (some ⟨P, 0, none⟩)) ∧ Beside w0 A B P w m v x.drew := b3 hn h.2.2.drew
theorem s3 {n : Nat} {x : World} (h : x.cell? ⟨A, 0, none⟩ = some (.int .i64 (n : Int)) ∧ x.cell? ⟨A, 2, none⟩ = some (.pointer (some ⟨P, 0, none⟩)) ∧ Beside w0 A B P w m v x) : Beside w0 A B P w m v x := h.2.2
theorem Beside.trans {a b c : World} (h : Beside w0 A B P a m v b) (h' : Beside w0 A B P b m v c) : Beside w0 A B P a m v c := ⟨h'.h, h.s.trans h'.s⟩
theorem ontoB {f : FuncId} {args : Array Value} {W : World} {x : Ending} (hB : Beside w0 A B P w m v W) (h : Calls Tryz.prog f args W fun e w' => e = x ∧ Beside w0 A B P W m v w') : Calls Tryz.prog f args W fun e w' => e = x ∧ Beside w0 A B P w m v w' := h.mono fun _ _ ⟨a, b⟩ => ⟨a, hB.trans b⟩
theorem field0 (a b : Int) (W : World) : (Instr.field 298 (.agg #[.int .i64 a, .int .i64 b]) 0).run Tryz.prog W = .ok (.int .i64 a) W := by kernel_rfl
theorem field1 (a b : Int) (W : World) : (Instr.field 298 (.agg #[.int .i64 a, .int .i64 b]) 1).run Tryz.prog W = .ok (.int .i64 b) W := by kernel_rfl
set_option maxHeartbeats 1000000 in
theorem tooMany_c (h : HeldT w0 A B P w m v) :
    Calls Tryz.prog 264 #[.pointer (some ⟨A, 0, none⟩)] w fun e w' => e = .returned (.bool (decide (v.most < v.kept))) ∧ Beside w0 A B P w m v w' := by
  have hB := Beside.of h
  have hd := b1 hB.drew
  have hm1 := h.fit.m1
  have hkm := h.fit.kept
  have hkm2 := h.fit.m2
  have hdec : decide (v.most < v.kept) = decide ((v.most : Int) < (v.kept : Int)) := by rw [decide_eq_decide]; omega
  have HD := Lib.hid hdec
  clear h hdec
  go_enter Tryz.func264, Tryz.ntmps264
  go_wp2_with fail
  go_region_held3 (fun w' => w'.cell? ⟨A, 0, none⟩ = some (.int .i64 (v.most : Int)) ∧ Beside w0 A B P w m v w')
    (first | exact hd | exact bA (by assumption) _ | exact bD (by assumption) | exact b1 (by assumption) | exact b1 (Beside.drewN hB _) | go_keep)
    (first | (go_at_call 258; refine (onto (And.right (by assumption : _ ∧ Beside w0 A B P w m v _)) (lenT_c (And.right (by assumption : _ ∧ Beside w0 A B P w m v _)).h)).mono ?_; rintro e wv ⟨rfl, hbv⟩))
  have hx := And.right (by assumption : _ ∧ Beside w0 A B P w m v _)
  go_wp2_with fail
  go_ret
  exact ⟨by rw [HD.out]; rfl, hx⟩
set_option maxHeartbeats 2000000 in
set_option maxRecDepth 100000 in
theorem makeSafe_c {i : Nat} (hi : i = 1 ∨ i = 2) (hm : k ∈ v.rg.l i) (hok : v.Ok) (h : HeldT w0 A B P w m v) :
    Calls Tryz.prog 266 #[.pointer (some ⟨A, 0, none⟩), .string (str k)] w fun e w' => e = .returned (.tuple #[]) ∧ ∃ m', HeldT w0 A B P w' m' (v.safe k) ∧ StepT B w m w' m' := by
  obtain ⟨-, -, -, hy⟩ := Tv.safe_spec hok hi hm
  have hkl := hok.fit.klen (by omega) hm
  have hf := front_t (j := 2) (by omega) hkl (hok.fit.in_ hok.fit.n (by omega) hm) h
  have hm1 := h.fit.m1
  have hm2 := h.fit.m2
  obtain ⟨c0, c1, c2⟩ := h.cells
  have hu : v.safe k = if sMost v.most < (v.fr 2 k).len 2 then (v.fr 2 k).fr 1 (((v.fr 2 k).last 2).getD []) else v.fr 2 k := rfl
  clear h hok hm
  generalize v.safe k = s at *
  generalize hU : v.fr 2 k = u at *
  have hmo : v.most = u.most := by rw [← hU]; rfl
  rw [hmo] at hy c0 hm1 hm2 hu
  clear hmo hU
  have HU := Lib.hid hu
  clear hu
  go_enter Tryz.func266, Tryz.ntmps266
  go_wp2_with fail
  refine hf.mono ?_
  rintro e w1 ⟨rfl, m1, h1, hS1⟩
  clear c0 c1 c2
  obtain ⟨c0, c1, c2⟩ := h1.cells
  have hB := Beside.of h1
  have hd := b1 hB.drew
  have hl2 := h1.fit.len_le (i := 2) (by omega)
  have hf1 := fun W => field1 (wMost u.most : Int) (sMost u.most : Int) W
  go_wp2_with fail
  go_region_held3 (fun w' => w'.cell? ⟨A, 0, none⟩ = some (.int .i64 (u.most : Int)) ∧ w'.cell? ⟨A, 2, none⟩ = some (.pointer (some ⟨P, 0, none⟩)) ∧ Beside w0 A B P w1 m1 u w')
    (first | exact b2 hd.2 | exact b2A (by assumption) _ | exact b2D (by assumption) | exact b2 (by assumption) | exact b2 (Beside.drewN hB _) | go_keep)
    (first | (go_at_call 249; refine (onto (sB (by assumption)) (len_t (i := 2) (by omega) (sB (by assumption)).h)).mono ?_; rintro e wv ⟨rfl, hbv⟩) | (go_at_call 263; refine (parts_c hm1 hm2 _).mono ?_; rintro e wv ⟨rfl, o, rfl⟩))
  have hx := hbv.alloc o
  have hS2 := hS1.trans hx.s
  clear c0 c1 c2 hB hd hf hf1 hbv h1 hS1
  obtain ⟨c0, c1, c2⟩ := hx.h.cells
  by_cases hb : sMost u.most < u.len 2
  · simp only [hb, decide_true]
    obtain ⟨y, hy1, hy2⟩ := hy hb
    have hl := fun (W : World) (g : Nat) (hb : Blk W g 3 #[.int .i64 2]) (hW : HeldT w0 A B P W m1 u) => last1 (a := 2) (x := 2) rfl (by omega) hb hW
    rw [hy1] at hl
    simp only [Option.getD_some, Option.isSome_some] at hl
    have hyl := hx.h.fit.klen (by omega) hy2
    have hyc := hx.h.fit.in_ hx.h.fit.n (by omega) hy2
    have HI := Lib.hid (show s = u.fr 1 y by rw [HU.out, if_pos hb, hy1]; rfl)
    clear hy hb hy1 hy2
    generalize wv.alloc o = w2 at *
    go_wp2_with fail
    refine (hl _ _ (Blk.new w2 3 _) (hx.h.alloc _)).mono ?_
    rintro e w' ⟨rfl, rfl⟩
    have hx3 := hx.alloc (.cells #[.int .i64 2] 3)
    obtain ⟨k0, k1, k2⟩ := hx3.h.cells
    go_wp2_with fail
    refine (front_t (j := 1) (by omega) hyl hyc hx3.h).mono ?_
    rintro e w3 ⟨rfl, m3, h3, hS3⟩
    go_wp2_with fail
    refine bodyPost_end (v := .tuple #[]) (results_none rfl _ _ _) rfl ?_
    rw [HI.out]
    exact ⟨rfl, m3, h3, (hS2.alloc _).trans hS3⟩
  · simp only [hb, decide_false]
    have HI := Lib.hid (show s = u by rw [HU.out, if_neg hb])
    clear hy hb
    go_wp2_with fail
    refine bodyPost_end (v := .tuple #[]) (results_none rfl _ _ _) rfl ?_
    rw [HI.out]
    exact ⟨rfl, m1, hx.h, hS2⟩
set_option maxHeartbeats 2000000 in
theorem touchT_c (hk : k.length ≤ maxLen) (hok : v.Ok) (h : HeldT w0 A B P w m v) :
    Calls Tryz.prog 260 #[.pointer (some ⟨A, 0, none⟩), .string (str k)] w fun e w' => e = .returned (.bool (v.has k)) ∧ ∃ m', HeldT w0 A B P w' m' (v.touch k) ∧ StepT B w m w' m' := by
  have hh := has_t hk h
  obtain ⟨c0, c1, c2⟩ := h.cells
  have HH := Lib.hid h
  cases e : v.at_ k with
  | none =>
    have ha : v.has k = false := by unfold Tv.has; rw [e]; rfl
    have ht : v.touch k = v := by unfold Tv.touch; rw [e]
    rw [ha] at hh ⊢
    rw [ht]
    clear h e ht ha hok
    go_enter Tryz.func260, Tryz.ntmps260
    go_wp2_with fail
    refine hh.mono ?_
    rintro e w' ⟨rfl, rfl⟩
    go_wp2_with fail
    go_ret
    exact ⟨rfl, m, HH.out, StepT.refl _ _ _⟩
  | some i =>
    obtain ⟨hi, hmem⟩ := Tv.at_some e
    have hkl := hok.fit.klen hi hmem
    have ha : v.has k = true := by unfold Tv.has; rw [e]; rfl
    have hn := note_t (k := k) (by omega) h
    have hok2 := hok.note k
    have he2 : (v.note k).at_ k = some i := e
    have hin := fun (W : World) (hW : HeldT w0 A B P W m (v.note k)) => in_some hk he2 hW
    rw [ha] at hh ⊢
    rcases (by omega : i = 0 ∨ i = 1 ∨ i = 2) with rfl | rfl | rfl
    · have ht : v.touch k = (v.note k).fr 0 k := by unfold Tv.touch; rw [e]; rfl
      rw [ht]
      have hfr := fun (W : World) (hW : HeldT w0 A B P W m (v.note k)) => front_t (j := 0) (by omega) hkl (hok2.fit.in_ hok2.fit.n (by omega) hmem) hW
      clear h e ht ha he2
      go_enter Tryz.func260, Tryz.ntmps260
      go_wp2_with fail
      refine hh.mono ?_
      rintro e w' ⟨rfl, rfl⟩
      go_wp2_with fail
      refine hn.mono ?_
      rintro e w1 ⟨rfl, h1, hS1⟩
      obtain ⟨k0, k1, k2⟩ := h1.cells
      clear c0 c1 c2
      go_wp2_with fail
      refine (hin _ h1).mono ?_
      rintro e w' ⟨rfl, rfl⟩
      go_wp2_with fail
      refine (hfr _ h1).mono ?_
      rintro e w2 ⟨rfl, m2, h2, hS2⟩
      go_wp2_with fail
      go_ret
      exact ⟨rfl, m2, h2, hS1.trans hS2⟩
    · have ht : v.touch k = (v.note k).safe k := by unfold Tv.touch; rw [e]; rfl
      rw [ht]
      have hsf := fun (W : World) (hW : HeldT w0 A B P W m (v.note k)) => makeSafe_c (v := v.note k) (.inl rfl) hmem hok2 hW
      clear h e ht ha he2
      go_enter Tryz.func260, Tryz.ntmps260
      go_wp2_with fail
      refine hh.mono ?_
      rintro e w' ⟨rfl, rfl⟩
      go_wp2_with fail
      refine hn.mono ?_
      rintro e w1 ⟨rfl, h1, hS1⟩
      obtain ⟨k0, k1, k2⟩ := h1.cells
      clear c0 c1 c2
      go_wp2_with fail
      refine (hin _ h1).mono ?_
      rintro e w' ⟨rfl, rfl⟩
      go_wp2_with fail
      refine (hsf _ h1).mono ?_
      rintro e w2 ⟨rfl, m2, h2, hS2⟩
      go_wp2_with fail
      go_ret
      exact ⟨rfl, m2, h2, hS1.trans hS2⟩
    · have ht : v.touch k = (v.note k).safe k := by unfold Tv.touch; rw [e]; rfl
      rw [ht]
      have hsf := fun (W : World) (hW : HeldT w0 A B P W m (v.note k)) => makeSafe_c (v := v.note k) (.inr rfl) hmem hok2 hW
      clear h e ht ha he2
      go_enter Tryz.func260, Tryz.ntmps260
      go_wp2_with fail
      refine hh.mono ?_
      rintro e w' ⟨rfl, rfl⟩
      go_wp2_with fail
      refine hn.mono ?_
      rintro e w1 ⟨rfl, h1, hS1⟩
      obtain ⟨k0, k1, k2⟩ := h1.cells
      clear c0 c1 c2
      go_wp2_with fail
      refine (hin _ h1).mono ?_
      rintro e w' ⟨rfl, rfl⟩
      go_wp2_with fail
      refine (hsf _ h1).mono ?_
      rintro e w2 ⟨rfl, m2, h2, hS2⟩
      go_wp2_with fail
      go_ret
      exact ⟨rfl, m2, h2, hS1.trans hS2⟩
set_option maxHeartbeats 1000000 in
theorem missT_c (hk : k.length ≤ maxLen) (h : HeldT w0 A B P w m v) :
    Calls Tryz.prog 155 #[.pointer (some ⟨A, 0, none⟩), .string (str k)] w fun e w' => e = .returned (.tuple #[]) ∧ HeldT w0 A B P w' m (v.miss k) ∧ StepT B w m w' m := by
  have hm := made_c h
  obtain ⟨c0, c1, c2⟩ := h.cells
  have hsz := str_size k
  have HH := Lib.hid h
  unfold maxLen at hk
  by_cases hl : 64 < k.length
  · have hv : v.miss k = v := if_pos hl
    rw [hv]
    clear h hv
    go_enter Tryz.func155, Tryz.ntmps155
    go_wp2_with fail
    refine hm.mono ?_
    rintro e w' ⟨rfl, rfl⟩
    go_wp2_with fail
    refine bodyPost_end (v := .tuple #[]) (results_none rfl _ _ _) rfl ?_
    exact ⟨rfl, HH.out, StepT.refl _ _ _⟩
  · have hv : v.miss k = v.note k := if_neg hl
    have hn := note_t (k := k) (by omega) h
    rw [hv]
    clear h hv
    go_enter Tryz.func155, Tryz.ntmps155
    go_wp2_with fail
    refine hm.mono ?_
    rintro e w' ⟨rfl, rfl⟩
    go_wp2_with fail
    refine hn.mono ?_
    rintro e w' ⟨rfl, h1, hS1⟩
    go_wp2_with fail
    refine bodyPost_end (v := .tuple #[]) (results_none rfl _ _ _) rfl ?_
    exact ⟨rfl, h1, hS1⟩
set_option maxHeartbeats 1000000 in
theorem evictT_c (h : HeldT w0 A B P w m v) :
    Calls Tryz.prog 254 #[.pointer (some ⟨A, 0, none⟩)] w fun e w' => e = .returned (.tuple #[.string (str (v.goes.getD [])), .bool v.goes.isSome]) ∧ ∃ m', HeldT w0 A B P w' m' v.evict ∧ StepT B w m w' m' := by
  have hm := made_c h
  have h1 := h.alloc (.cells #[.int .i64 1, .int .i64 0, .int .i64 2] 3)
  have hS := (StepT.refl B w m).alloc (.cells #[.int .i64 1, .int .i64 0, .int .i64 2] 3)
  have hl := last3 (Blk.new w 3 #[.int .i64 1, .int .i64 0, .int .i64 2]) h1
  cases e : v.goes with
  | none =>
    have hv : v.evict = v := by unfold Tv.evict; rw [e]
    rw [hv]
    rw [e] at hl
    have H1 := Lib.hid h1
    have HS := Lib.hid hS
    clear h h1 hS e hv
    go_enter Tryz.func254, Tryz.ntmps254
    go_wp2_with fail
    refine hm.mono ?_
    rintro e w' ⟨rfl, rfl⟩
    go_wp2_with fail
    refine hl.mono ?_
    rintro e w' ⟨rfl, rfl⟩
    go_wp2_with fail
    go_ret2
    exact ⟨rfl, m, H1.out, HS.out⟩
  | some k =>
    have hv : v.evict = v.dr k := by unfold Tv.evict; rw [e]
    obtain ⟨i, hi, hmem⟩ := Tv.goes_mem e
    have hkl := h.fit.klen hi hmem
    rw [hv]
    rw [e] at hl
    have hr := removeT_c (k := k) (by unfold maxLen; omega) h1
    have HS := Lib.hid hS
    clear h h1 hS e hv hmem
    go_enter Tryz.func254, Tryz.ntmps254
    go_wp2_with fail
    refine hm.mono ?_
    rintro e w' ⟨rfl, rfl⟩
    go_wp2_with fail
    refine hl.mono ?_
    rintro e w' ⟨rfl, rfl⟩
    go_wp2_with fail
    refine hr.mono ?_
    rintro e w2 ⟨rfl, m2, h2, hS2⟩
    go_wp2_with fail
    go_ret2
    exact ⟨rfl, m2, h2, HS.out.trans hS2⟩
/-- A row of keys that was told, beside the rings and the sketch. -/
structure Tell (base B : Nat) (m : Rm) (val : Value) (l : List Key) (w : World) : Prop where
  row : w.ownsRow base 9 1 val l.length (strsV l)
  no : ∀ b, val.ownBlock = some b → ¬ m.own b ∧ ¬ Six B b
theorem Tell.step {base : Nat} {val : Value} {l : List Key} (h : Tell base B m val l w) (hS : StepT B w m w' m') : Tell base B m' val l w' :=
  ⟨ownsRow_stay h.row fun b hb => hS.kp.block b (h.row.lt b hb).2 (fun ho => ho.elim (h.no b hb).1 (h.no b hb).2), fun b hb => ⟨fun ho => by
    rcases hS.own b ho with h1 | h1
    · exact (h.no b hb).1 h1
    · have := (h.row.lt b hb).2; omega, (h.no b hb).2⟩⟩
theorem Tell.nil (base B : Nat) (m : Rm) (w : World) : Tell base B m (.slice none 0 0) [] w := ⟨World.ownsRow_nil _ _ _ _, fun b hb => by cases hb⟩
theorem Tell.lit {base : Nat} (h : HeldT w0 A B P w m v) (hB : base ≤ w.heap.size) (k : Key) : Tell base B m (.slice (some ⟨w.heap.size, 0, none⟩) 1 1) [k] (w.alloc (.cells #[.string (str k)] 9)) := by
  have hr := World.ownsRow_lit (size := 1) (e := 9) (base := base) w #[.string (str k)] 1 hB (by unfold maxLen; omega) rfl
  refine ⟨hr, fun b hb => ?_⟩
  obtain rfl : w.heap.size = b := by injection hb
  exact ⟨fun ho => by have := h.h.lt _ ho; omega, fun e => by have := h.sk.lt; have := e.2; omega⟩
theorem Tell.low {base base' : Nat} {val : Value} {l : List Key} (h : Tell base B m val l w) (hb : base' ≤ base) : Tell base' B m val l w := ⟨own_mono h.row hb, h.no⟩
end
end Go.Proofs.YtlnjnpchkdipdaaGreat.Tinyy
