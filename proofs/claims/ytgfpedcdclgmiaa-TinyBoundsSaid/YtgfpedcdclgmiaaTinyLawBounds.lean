/- Layer 8 (tiny): for every input the call returns true and leaves what it was given as it was: at most so many are kept; the window and the safe ones have at most their parts (TinyBounds). No condition. -/
import Derived.Test.YtgfpedcdclgmiaaKit
import Derived.Test.YtgfpedcdclgmiaaTinyLawNone
import Derived.Test.YtgfpedcdclgmiaaTinyLists
import Derived.Test.YtgfpedcdclgmiaaTinyActs
import Derived.Deep.CutBlock
import Derived.Deep.CutRange
import Derived.Deep.RegionHeld3
import Derived.Deep.QuietTactic
import Derived.BigQuiet
namespace Go.Proofs.Ytgfpedcdclgmiaa.Tinyy
open Go.ChangeShapes Go.WideShapes Go.ChangeAt Go.RowKit Go.Shelf
open Wirey (Blk Row str str_size str_list str_of str_take Kp)
open Ringy Go.ChangeMaps Go.Maps
open Sketchy (Six)

/-- A block that is no part of the policy. -/
structure Apart (B : Nat) (m : Rm) (q : Nat) (t : TypeId) (cs : Array Value) (w : World) : Prop where
  b : Blk w q t cs
  no : ¬ m.own q
  six : ¬ Six B q
section
variable {w0 w w' : World} {A B P g q : Nat} {m m' : Rm} {v : Tv} {a b c : Value} {t : TypeId} {cs : Array Value}
theorem Apart.step (h : Apart B m q t cs w) (hS : StepT B w m w' m') : Apart B m' q t cs w' :=
  ⟨(hS.kp.block q h.b.lt (fun ho => ho.elim h.no h.six)).trans h.b, fun ho => by
    rcases hS.own q ho with h1 | h1
    · exact h.no h1
    · have := h.b.lt; omega, h.six⟩
theorem Apart.later {C : Nat} (h : Apart B m q t cs w) (hb : Below C w w') (hC : w.heap.size ≤ C) : Apart B m q t cs w' := ⟨h.b.below hb (Nat.lt_of_lt_of_le h.b.lt hC), h.no, h.six⟩
/-- Three rows in a block, beside a policy. -/
structure Three (w0 : World) (A B P g : Nat) (m : Rm) (v : Tv) (a b c : Value) (q : Nat) (t : TypeId) (cs : Array Value) (w : World) : Prop where
  h : HeldT w0 A B P w m v
  b : Blk w g 42 #[a, b, c]
  p : Apart B m q t cs w
theorem Three.drewN (h : Three w0 A B P g m v a b c q t cs w) (n : Nat) : Three w0 A B P g m v a b c q t cs (w.drewN n) := ⟨h.h.drewN n, h.b, ⟨h.p.b, h.p.no, h.p.six⟩⟩
theorem Three.drew (h : Three w0 A B P g m v a b c q t cs w) : Three w0 A B P g m v a b c q t cs w.drew := h.drewN 1
theorem Three.all (h : Three w0 A B P g m v a b c q t cs w) : w.cell? ⟨g, 0, none⟩ = some a ∧ w.cell? ⟨g, 1, none⟩ = some b ∧ w.cell? ⟨g, 2, none⟩ = some c ∧ Three w0 A B P g m v a b c q t cs w :=
  ⟨h.b.cell 0, h.b.cell 1, h.b.cell 2, h⟩
theorem Three.last {x y z : Prop} (h : x ∧ y ∧ z ∧ Three w0 A B P g m v a b c q t cs w) : Three w0 A B P g m v a b c q t cs w := h.2.2.2
theorem three_len (h4 : Three w0 A B P g m v a b c q t cs w) :
    Calls Try.prog 17 #[.pointer (some ⟨A, 0, none⟩)] w fun e w' => e = .returned (.int .i64 ((v.len 0 : Int) + (v.len 1 : Int) + (v.len 2 : Int))) ∧ Three w0 A B P g m v a b c q t cs w' := by
  refine (lenT_c h4.h).mono ?_
  rintro e w' ⟨rfl, rfl⟩
  exact ⟨by unfold Tv.kept; simp, h4⟩
end
theorem fewL_max (l : List UInt8) : (fewL l).length ≤ maxLen := by have := fewL_le l; unfold maxLen; omega
/-- The document's own parts. -/
theorem refparts_c {c : Nat} (h1 : 1 ≤ c) (h2 : c ≤ 1000) (w : World) :
    Calls Try.prog 10 #[.int .i64 (c : Int)] w fun e w' => e = .returned (.tuple #[.int .i64 (wMost c : Int), .int .i64 (sMost c : Int)]) ∧ w = w' := by
  have hw : wMost c = max 1 (c / 8) := rfl
  have hs : sMost c = (c - wMost c) * 4 / 5 := rfl
  have HW := Lib.hid hw
  have HS := Lib.hid hs
  clear hw hs
  generalize wMost c = W at *
  generalize sMost c = Z at *
  by_cases hlt : c / 8 < 1
  · have d1 : decide ((c : Int) / 8 < 1) = true := decide_eq_true (by omega)
    have q : (.tuple #[.int .i64 (W : Int), .int .i64 (Z : Int)] : Value) = .tuple #[.int .i64 1, .int .i64 (((c : Int) - 1) * 4 / 5)] := by
      have h3 := HW.out
      have h4 := HS.out
      have e1 : (W : Int) = 1 := by omega
      have e2 : (Z : Int) = ((c : Int) - 1) * 4 / 5 := by omega
      rw [e1, e2]
    have HQ := Lib.hid q
    clear q
    go_enter Try.func10, Try.ntmps10
    go_wp2_with fail
    go_ret2
    exact ⟨by rw [HQ.out]; rfl, rfl⟩
  · have d1 : decide ((c : Int) / 8 < 1) = false := decide_eq_false (by omega)
    have q : (.tuple #[.int .i64 (W : Int), .int .i64 (Z : Int)] : Value) = .tuple #[.int .i64 ((c : Int) / 8), .int .i64 (((c : Int) - (c : Int) / 8) * 4 / 5)] := by
      have h3 := HW.out
      have h4 := HS.out
      have e1 : (W : Int) = (c : Int) / 8 := by omega
      have e2 : (Z : Int) = ((c : Int) - (c : Int) / 8) * 4 / 5 := by omega
      rw [e1, e2]
    have HQ := Lib.hid q
    clear q
    go_enter Try.func10, Try.ntmps10
    go_wp2_with fail
    go_ret2
    exact ⟨by rw [HQ.out]; rfl, rfl⟩
set_option maxHeartbeats 40000000 in
set_option maxRecDepth 100000 in
theorem tinyBounds_walk (a0 : Int) (_w0 : (Lit.int .i64 a0).wf = true) (ao : Option Addr) (n cap sb off : Nat) (K : Nat → Int) (T : Nat → List UInt8) (w : World) (ht : Acts w ao n sb off K T) :
    Calls Try.prog 3 #[.int .i64 a0, .slice ao n cap] w fun e w' => e = .returned (.bool true) ∧ Below w.heap.size w w' := by
  obtain ⟨x, hx, hx2⟩ := and_nat a0 31 5 (by decide) (by omega)
  have hx : bits .and .i64 a0 31 = (x : Int) := hx
  have hn63 := ht.n63
  have hN := newT_c (n := 1 + x) (seed := 3) (by omega) (by omega) (by omega) w
  have hP := fun W => parts_c (c := 1 + x) (by omega) (by omega) W
  have hR := fun W => refparts_c (c := 1 + x) (by omega) (by omega) W
  rw [Int.natCast_add] at hN hP hR
  have hm0 : (Tv.new (1 + x) 3).most = 1 + x := rfl
  have hk0 : (Tv.new (1 + x) 3).Ok := Tv.new_ok (by omega) (by omega) (by omega)
  have hwm := wMost_le (c := 1 + x) (by omega)
  have hsm := sMost_le (1 + x)
  generalize hW : wMost (1 + x) = wm at *
  generalize hS : sMost (1 + x) = sm at *
  have HWS := Lib.hid (show wMost (1 + x) = wm ∧ sMost (1 + x) = sm from ⟨hW, hS⟩)
  clear hW hS
  go_enter Try.func3, Try.ntmps3
  go_wp2_with fail
  refine hN.mono ?_
  rintro e w1 ⟨A, m, rfl, h1⟩
  go_wp2_with fail
  refine (awakeT_c _).mono ?_
  rintro e w2 ⟨rfl, hb2⟩
  have h2 := h1.later hb2 (Nat.le_refl _)
  clear h1 hb2 hN
  go_wp2_with fail
  refine (hP _).mono ?_
  rintro e w3 ⟨rfl, o, rfl⟩
  have h3 := h2.alloc o
  clear h2
  generalize w2.alloc o = w3 at *
  go_wp2_with fail
  refine (hR _).mono ?_
  rintro e w' ⟨rfl, rfl⟩
  have p4 : Apart w.heap.size m w3.heap.size 30 #[.int .i64 (wm : Int), .int .i64 (sm : Int)] (w3.alloc (.cells #[.int .i64 (wm : Int), .int .i64 (sm : Int)] 30)) := ⟨Blk.new w3 _ _, fun ho => by have := h3.h.lt _ ho; omega, fun ho => by have := h3.sk.lt; have := ho.2; omega⟩
  have h4 := h3.alloc (.cells #[.int .i64 (wm : Int), .int .i64 (sm : Int)] 30)
  clear h3 hP hR
  generalize w3.heap.size = pq at *
  go_wp2_with fail
  go_loopw [11] (fun i wr => ∃ (j : Nat) (m : Rm) (v : Tv), j ≤ n ∧ j ≤ 100 ∧ i = .int .i64 j ∧ HeldT w A w.heap.size (w.heap.size + 8) wr m v ∧ v.Ok ∧ v.most = 1 + x ∧ Apart w.heap.size m pq 30 #[.int .i64 (wm : Int), .int .i64 (sm : Int)] wr) (fun i _ => 100 - (intOf i).toNat)
  case atStart => exact ⟨0, m, _, by omega, by omega, rfl, h4, hk0, hm0, p4⟩
  case round =>
    obtain ⟨j, m, v, hjn, hj100, rfl, hH, hok, hmo, hA⟩ := hrel
    clear h4 hm0 hk0 p4
    by_cases h1 : j < n ∧ j < 100
    · obtain ⟨h1, h100⟩ := h1
      have d1 : decide ((j : Int) < (n : Int)) = true := decide_eq_true (by omega)
      have d2 : decide ((j : Int) < 100) = true := decide_eq_true (by omega)
      have hao := ht.ao (by omega)
      have htw := ht.below hH.below (fun h => ht.lt h)
      have hcell := htw.key j h1
      have hkind := htw.kind j h1
      have hsize := ht.size j h1
      clear htw
      subst hao
      go_wp2_with fail
      refine (fewT_c (T j) hsize _).mono ?_
      rintro e w' ⟨rfl, rfl⟩
      have hfl := fewL_max (T j)
      generalize hkk : fewL (T j) = k at *
      clear hkk hcell hsize
      generalize K j = q at *
      go_upto_block 2 with (fail)
      go_cut [] from 56 to 73 (fun wx => ∃ (m' : Rm) (v' : Tv), HeldT w A w.heap.size (w.heap.size + 8) wx m' v' ∧ v'.Ok ∧ v'.most = 1 + x ∧ Apart w.heap.size m' pq 30 #[.int .i64 (wm : Int), .int .i64 (sm : Int)] wx)
      case first =>
        by_cases h6 : q = 6
        · subst h6
          go_wp2_with fail
          refine (removeT_c hfl hH).mono ?_
          rintro e w3 ⟨rfl, m3, h3, hS3⟩
          go_wp2_with fail
          go_meet
          exact ⟨m3, _, h3, hok.dr k, hmo, hA.step hS3⟩
        · have b6 : (q == 6) = false := beq_eq_false_iff_ne.2 h6
          by_cases h7 : q = 7
          · subst h7
            go_wp2_with fail
            refine (evictT_c hH).mono ?_
            rintro e w3 ⟨rfl, m3, h3, hS3⟩
            go_wp2_with fail
            go_meet
            exact ⟨m3, _, h3, (Tv.evict_ok hok).1, (Tv.evict_ok hok).2.trans hmo, hA.step hS3⟩
          · have b7 : (q == 7) = false := beq_eq_false_iff_ne.2 h7
            by_cases h45 : q = 4 ∨ q = 5
            · rcases h45 with rfl | rfl
              all_goals
                go_wp2_with fail
                refine (touchT_c hfl hok hH).mono ?_
                rintro e w3 ⟨rfl, m3, h3, hS3⟩
                go_wp2_with fail
                go_meet
                exact ⟨m3, _, h3, (Tv.touch_spec hok k).1, (Tv.touch_spec hok k).2.1.trans hmo, hA.step hS3⟩
            · have b4 : (q == 4) = false := beq_eq_false_iff_ne.2 (fun e => h45 (.inl e))
              have b5 : (q == 5) = false := beq_eq_false_iff_ne.2 (fun e => h45 (.inr e))
              go_wp2_with fail
              refine (insertT_c hfl hok hH).mono ?_
              rintro e w3 ⟨val, m3, rfl, h3, hS3, -⟩
              go_wp2_with fail
              go_meet
              exact ⟨m3, _, h3, (Tv.insert_ok hok k).1, (Tv.insert_ok hok k).2.trans hmo, hA.step hS3⟩
      case rest =>
        obtain ⟨m3, v3, h3, hok3, hmo3, hA3⟩ := hcut
        clear hH hmo hok hA v
        go_wp2_with fail
        refine (listsT_c h3).mono ?_
        rintro e w4 ⟨V, rfl, hR, hb4⟩
        have h4 := h3.later hb4 (Nat.le_refl _)
        have hA4 := hA3.later hb4 (Nat.le_refl _)
        obtain ⟨a0', c0, v0⟩ := own_form (hR 0 (by omega))
        obtain ⟨a1', c1, v1⟩ := own_form (hR 1 (by omega))
        obtain ⟨a2', c2, v2⟩ := own_form (hR 2 (by omega))
        have hF : Three w A w.heap.size (w.heap.size + 8) w4.heap.size m3 v3 (V 0) (V 1) (V 2) pq 30 #[.int .i64 (wm : Int), .int .i64 (sm : Int)] (w4.alloc (.cells #[V 0, V 1, V 2] 42)) := ⟨h4.alloc _, Blk.new w4 _ _, ⟨hA4.b.alloc _, hA4.no, hA4.six⟩⟩
        have q1 : v3.len 0 + v3.len 1 + v3.len 2 ≤ 1 + x := by rw [← hmo3]; exact hok3.kept
        have q2 : v3.len 0 ≤ wm := by rw [← HWS.out.1, ← hmo3]; exact hok3.win
        have q3 : v3.len 2 ≤ sm := by rw [← HWS.out.2, ← hmo3]; exact hok3.sf
        have fl := fun W (h : Three w A w.heap.size (w.heap.size + 8) w4.heap.size m3 v3 (V 0) (V 1) (V 2) pq 30 #[.int .i64 (wm : Int), .int .i64 (sm : Int)] W) => three_len h
        have HMO := Lib.hid hmo3
        have HOK := Lib.hid hok3
        clear hR h3 hb4 h4 hok3 hmo3 hA3 hA4
        rw [v0, v1, v2] at hF fl
        go_upto_region 21 with (fail)
        clear v0 v1 v2
        generalize w4.alloc (.cells #[.slice a0' (v3.len 0) c0, .slice a1' (v3.len 1) c1, .slice a2' (v3.len 2) c2] 42) = w5 at *
        have hFd := hF.drew
        have hFa := hFd.all
        have HF := Lib.hid hF
        generalize v3.len 0 = p0 at *
        generalize v3.len 1 = p1 at *
        generalize v3.len 2 = p2 at *
        have e1 : decide (1 + (x : Int) < (p0 : Int) + (p1 : Int) + (p2 : Int)) = false := decide_eq_false (by omega)
        have e2 : decide ((wm : Int) < (p0 : Int)) = false := decide_eq_false (by omega)
        have e2' : decide (wm < p0) = false := decide_eq_false (by omega)
        have e2n : ¬ wm < p0 := by omega
        have e3 : decide ((sm : Int) < (p2 : Int)) = false := decide_eq_false (by omega)
        have e3' : decide (sm < p2) = false := decide_eq_false (by omega)
        have e3n : ¬ sm < p2 := by omega
        have u1 : IntKind.i64.wrap ((p0 : Int) + (p1 : Int)) = (p0 : Int) + (p1 : Int) := by rw [IntKind.wrap_i64]; omega
        have u3 : IntKind.i64.wrap ((p0 : Int) + (p1 : Int) + (p2 : Int)) = (p0 : Int) + (p1 : Int) + (p2 : Int) := by rw [IntKind.wrap_i64]; omega
        go_region_held3 (fun W => W.cell? ⟨w4.heap.size, 0, none⟩ = some (.slice a0' p0 c0) ∧ W.cell? ⟨w4.heap.size, 1, none⟩ = some (.slice a1' p1 c1) ∧ W.cell? ⟨w4.heap.size, 2, none⟩ = some (.slice a2' p2 c2) ∧ Three w A w.heap.size (w.heap.size + 8) w4.heap.size m3 v3 (.slice a0' p0 c0) (.slice a1' p1 c1) (.slice a2' p2 c2) pq 30 #[.int .i64 (wm : Int), .int .i64 (sm : Int)] W)
          (first | exact hFa | exact Three.all (by assumption) | exact (Three.drewN hF _).all)
          (first | (go_at_call 17; refine (fl _ (Three.last (by assumption))).mono ?_; rintro e wv ⟨rfl, hwv⟩))
        have hx4 := Three.last (by assumption : _ ∧ _ ∧ _ ∧ Three w A w.heap.size (w.heap.size + 8) w4.heap.size m3 v3 (.slice a0' p0 c0) (.slice a1' p1 c1) (.slice a2' p2 c2) pq 30 #[.int .i64 (wm : Int), .int .i64 (sm : Int)] _)
        have hx5 := hx4.h
        have hx6 := hx4.p
        clear u1 u3 hx4 hFa hFd hF fl
        go_wp2_with fail
        go_roundw
        case rel => exact ⟨j + 1, m3, v3, by omega, by omega, by simp, hx5, HOK.out, HMO.out, hx6⟩
        case measure => simp [intOf]; omega
    · have hend : (j < n ∧ ¬ j < 100 ∧ decide ((j : Int) < (n : Int)) = true ∧ decide ((j : Int) < 100) = false) ∨ (¬ j < n ∧ decide ((j : Int) < (n : Int)) = false) := by
        by_cases h : j < n
        · exact .inl ⟨h, by omega, decide_eq_true (by omega), decide_eq_false (by omega)⟩
        · exact .inr ⟨h, decide_eq_false (by omega)⟩
      clear h1
      have p0 := hA.b.cell 0
      have p1 := hA.b.cell 1
      simp only [List.getElem?_toArray, List.getElem?_cons_zero, List.getElem?_cons_succ] at p0 p1
      rcases hend with ⟨h2, h3, d1, d2⟩ | ⟨h2, d1⟩
      all_goals
        go_wp2_with fail
        go_ret
        exact ⟨rfl, hH.below⟩
set_option linter.unusedVariables false in
set_option maxRecDepth 100000 in
theorem tinyBounds_lifted (os : Os) (started : os.Started) (H : Type) (enc : TypeId × Value → H) :
    ReturnsInHanded {} Try.checked os 3 .any (Rows.tinyBoundsSpec.pre6 enc Try.prog Try.f3 Rows.tinyBoundsRow.domain false) (Rows.tinyBoundsSpec.post enc Try.prog Try.f3 false true false false) := by
  refine returnsInHanded_of_change (C := Try.checked) Kit.own started (by kernel_rfl) Try.func3
    (ChangeSpec.witness6 (enc := enc) (C := Try.checked) false ⟨#[], #[.int .i64 0, .slice none 0 0], []⟩ 8 (by kernel_rfl) (by kernel_rfl) (by kernel_rfl) (by kernel_rfl)) ?_
  intro W base args ds gs before hval0 hW hcnd _
  have hval : ∀ (j : Nat) t v, Try.f3.params[j]? = some t → args[j]? = some v → Value.okWide Try.prog W .any base t v := hval0
  have hW' := hW
  obtain ⟨p, q, hA0, hV, rfl, hfz, hnd⟩ := hW
  have hA : DataW.TrodAll enc Try.prog W 0 (fun _ => true) true Try.f3.params.toList args.toList ds p := hA0
  rw [Try.params3] at hA hval
  obtain ⟨v0, vs0, d0, ds0, p0, q0, hargs, rfl, rfl, h0, r0⟩ := trodAll_cons hA
  obtain ⟨v1, vs1, d1, ds1, p1, q1, rfl, rfl, rfl, h1, r1⟩ := trodAll_cons r0
  obtain ⟨rfl, rfl, rfl⟩ := trodAll_nil r1
  obtain ⟨rfl, rfl⟩ := trodVars_none hV
  obtain rfl : args = #[v0, v1] := by cases args; simp_all
  obtain ⟨a0, rfl, rfl, rfl, w0⟩ := open_int Try.underlying3 (hval 0 3 v0 rfl rfl) h0
  obtain ⟨b1, c1, e1, rfl⟩ := okWide_slice Try.underlying22 (hval 1 22 v1 rfl rfl)
  obtain ⟨fuel1, hf1⟩ := h1
  obtain ⟨ao1, len1, cap1, sb1, off1, kx1, tx1, hv1, ht1⟩ := open_acts (show DataW.trod enc Try.prog W 0 (fun _ => true) true fuel1 22 [.slice b1 c1 e1] = some _ from hf1)
  injection hv1 with hv1x hv1y hv1z
  subst hv1x hv1y hv1z
  clear hA0 hval0
  refine (tinyBounds_walk a0 w0 _ _ _ _ _ _ _ W ht1).mono fun e W' ⟨he, hg⟩ => ?_
  subst he
  exact ⟨_, rfl, Kit.law_post hW' rfl (by kernel_rfl) rfl (by kernel_rfl) hg⟩

theorem tinyBounds_over : Rows.tinyBoundsRow.holds Try.pinned (OpenSpec.ofChange Rows.tinyBoundsSpec) :=
  OpenClaim.holds_of_wide 3 Try.f3 rfl rfl rfl rfl rfl rfl rfl ⟨rfl, rfl, rfl, rfl, rfl⟩ rfl rfl rfl rfl rfl (by kernel_rfl) Try.func3 (by kernel_rfl)
    (of_decide_eq_true (by kernel_rfl)) (by unfold Func.isWrapper; first | (rw [if_pos (by decide +kernel)]; kernel_rfl) | (rw [if_neg (by decide +kernel)]; exact ⟨rfl, rfl⟩))
    (fun os started H enc _ => tinyBounds_lifted os started H enc)

theorem tinyBounds_holds : Rows.TinyBoundsSaid :=
  tinyBounds_over

end Go.Proofs.Ytgfpedcdclgmiaa.Tinyy
