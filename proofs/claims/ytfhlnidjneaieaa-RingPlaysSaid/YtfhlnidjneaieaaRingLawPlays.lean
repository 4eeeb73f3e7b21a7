/- Layer 6 (ring): for every input the call returns true and leaves what it was given as it was: whatever keys go to the front of whatever lists, and are dropped, the lists are the document's, through their bytes, too (RingPlays). No condition. -/
import Derived.Test.YtfhlnidjneaieaaKit
import Derived.Test.YtfhlnidjneaieaaRingBoth
import Derived.Test.YtfhlnidjneaieaaRingActs
import Derived.Test.YtfhlnidjneaieaaRingAwake
import Derived.Deep.CutBlock
import Derived.Deep.CutRange
import Derived.Deep.RegionHeld3
import Derived.Deep.QuietTactic
import Derived.BigQuiet
namespace Go.Proofs.Ytfhlnidjneaieaa.Ringy
open Go.ChangeShapes Go.WideShapes Go.ChangeAt Go.RowKit Go.Shelf
open Wirey (Blk Row str str_size str_list str_of str_take Kp)
open Go.ChangeMaps Go.Maps

theorem Acts.stay {w w' : World} {ao : Option Addr} {n sb off : Nat} {K L : Nat → Int} {T : Nat → List UInt8} (h : Acts w ao n sb off K L T) (hb : Below w.heap.size w w') : Acts w' ao n sb off K L T := h.below hb h.lt
theorem both_new {w w1 w2 : World} {m : Rm} {P G : Nat} {vs : Nat → Value} {r : Rg} (h : Held w P w1 m r) (hR : RefAt w2 (fun b => b < w1.heap.size) G vs r) (hb : Below w1.heap.size w1 w2) :
    Both w w2.heap.size m r r G vs (w2.alloc (.cells #[.slice (some ⟨G, 0, none⟩) r.n r.n, .int .i64 (r.places : Int)] 29)) := by
  have hl := hR.blk.lt
  have hs := h.below.size
  have hs2 := hb.size
  refine ⟨(h.at_.below hb (Nat.le_refl _)).alloc _, ⟨(hR.alloc _).free (fun ho => hR.noG (h.lt _ ho)) (fun i g hi hg ho => hR.noR i g hi hg (h.lt _ ho)), by omega, fun i g hi hg => by have := ((hR.row i hi).lt g hg).2; omega⟩, Blk.new w2 _ _, fun b hb2 => ⟨h.own b hb2, by have := h.lt b hb2; omega⟩, by omega, (h.below.trans (hb.mono hs)).alloc (by omega) _⟩
theorem i64_and_ (n : Int) (m k : Nat) (hk : (BitVec.ofInt 64 (m : Int)).toNat = 2 ^ k - 1) (hs : k ≤ 20) : bits .and .i64 n (m : Int) = ((n % ((2 ^ 64 : Nat) : Int)).toNat % 2 ^ k : Nat) := by
  have key : (BitVec.ofInt 64 n &&& BitVec.ofInt 64 (m : Int)).toNat = (n % ((2 ^ 64 : Nat) : Int)).toNat % 2 ^ k := by
    rw [BitVec.toNat_and, BitVec.toNat_ofInt, hk, Nat.and_two_pow_sub_one_eq_mod]
  show IntKind.i64.wrap ((BitVec.ofInt 64 n &&& BitVec.ofInt 64 (m : Int)).toNat : Nat) = _
  rw [key, IntKind.wrap_i64]
  have h1 : (n % ((2 ^ 64 : Nat) : Int)).toNat % 2 ^ k < 2 ^ k := Nat.mod_lt _ (Nat.two_pow_pos k)
  have h2 : 2 ^ k ≤ 2 ^ 20 := Nat.pow_le_pow_right (by omega) hs
  generalize (n % ((2 ^ 64 : Nat) : Int)).toNat % 2 ^ k = q at *
  omega
theorem and_nat_ (n : Int) (m k : Nat) (hk : (BitVec.ofInt 64 (m : Int)).toNat = 2 ^ k - 1) (hs : k ≤ 20) : ∃ q : Nat, bits .and .i64 n (m : Int) = (q : Int) ∧ q < 2 ^ k :=
  ⟨_, i64_and_ n m k hk hs, Nat.mod_lt _ (Nat.two_pow_pos k)⟩
set_option maxHeartbeats 40000000 in
set_option maxRecDepth 100000 in
theorem ringPlays_walk (a0 a1 : Int) (_w0 : (Lit.int .i64 a0).wf = true) (_w1 : (Lit.int .i64 a1).wf = true) (ao : Option Addr) (n cap sb off : Nat) (K L : Nat → Int) (T : Nat → List UInt8) (w : World) (ht : Acts w ao n sb off K L T) :
    Calls Try.prog 3 #[.int .i64 a0, .int .i64 a1, .slice ao n cap] w fun e w' => e = .returned (.bool true) ∧ Below w.heap.size w w' := by
  obtain ⟨x, hx, hx2⟩ := and_nat_ a0 7 3 (by decide) (by omega)
  have hx : bits .and .i64 a0 7 = (x : Int) := hx
  obtain ⟨y, hy, hy2⟩ := and_nat_ a1 15 4 (by decide) (by omega)
  have hy : bits .and .i64 a1 15 = (y : Int) := hy
  have hn63 := ht.n63
  have hN := new_h (n := 1 + x) (places := y) (by omega) (by omega) (by omega) w
  have hRN := fun W => rnew_c (n := 1 + x) (places := y) (by omega) W
  rw [Int.natCast_add] at hN
  simp only [Int.natCast_add] at hRN
  go_enter Try.func3, Try.ntmps3
  go_wp2_with fail
  refine hN.mono ?_
  rintro e w1 ⟨rfl, m, h1⟩
  go_wp2_with fail
  refine (hRN _).mono ?_
  rintro e w2 ⟨G, vs, rfl, hR, hb2⟩
  have hB := both_new h1 hR hb2
  have hP := h1.R
  have hw2 := Nat.le_trans h1.below.size hb2.size
  clear h1 hR hb2 hN hRN
  unfold refV
  go_wp2_with fail
  refine (awake_c _).mono ?_
  rintro e w3 ⟨rfl, hb3⟩
  have h3 := hB.onto hb3
  clear hB hb3
  have hT : Tame (Rg.new (1 + x) y) := ⟨h3.at_.wf, by show 1 + x ≤ 8; omega, fun i _ => rfl⟩
  go_wp2_with fail
  go_loopw [9, 12] (fun r9 i wr => ∃ (j : Nat) (m : Rm) (r : Rg) (G : Nat) (vs : Nat → Value), j ≤ n ∧ j ≤ 60 ∧ i = .int .i64 j ∧ r9 = .pointer (some ⟨m.R, 0, none⟩) ∧ Both w w2.heap.size m r r G vs wr ∧ Tame r) (fun _ i _ => 60 - (intOf i).toNat)
  case atStart => exact ⟨0, m, _, G, vs, by omega, by omega, rfl, by rw [hP], h3, hT⟩
  case round =>
    obtain ⟨j, m, r, G, vs, hjn, hj60, rfl, rfl, hH, hT⟩ := hrel
    clear h3 hP
    by_cases h1 : j < n ∧ j < 60
    · obtain ⟨h1, h60⟩ := h1
      have d1 : decide ((j : Int) < (n : Int)) = true := decide_eq_true (by omega)
      have d2 : decide ((j : Int) < 60) = true := decide_eq_true (by omega)
      have hao := ht.ao (by omega)
      have htw := ht.stay hH.below
      have hcell := htw.key j h1
      have hkind := htw.kind j h1
      have hlist := htw.list j h1
      have hsize := ht.size j h1
      have hwL := ht.wL j h1
      clear htw
      subst hao
      go_wp2_with fail
      refine (few_c (T j) hsize _).mono ?_
      rintro e w' ⟨rfl, rfl⟩
      have hfl := fewL_max (T j)
      generalize hkk : fewL (T j) = k at *
      clear hkk hcell hsize
      generalize K j = q at *
      generalize hLa : L j = a at *
      go_upto_block 2 with (fail)
      go_cut [9, 14, 15, 16, 17, 18, 19] from 65 to 119 (fun r9 _ _ _ _ _ _ wx => ∃ (m' : Rm) (r' : Rg) (G' : Nat) (vs' : Nat → Value), r9 = .pointer (some ⟨m'.R, 0, none⟩) ∧ Both w w2.heap.size m' r' r' G' vs' wx ∧ Tame r')
      case first =>
        obtain ⟨x0, x1, x2, x3⟩ := hH.cells
        by_cases h6 : q = 4
        · subst h6
          go_wp2_with fail
          refine (both_rin hT hH).mono ?_
          rintro e w4 ⟨rfl, h4⟩
          clear x0 x1 x2 x3
          obtain ⟨x0, x1, x2, x3⟩ := h4.cells
          go_wp2_with fail
          refine (both_rdrop hT h4).mono ?_
          rintro e w5 ⟨G', vs', rfl, h5, hd5⟩
          clear x0 x1 x2 x3
          obtain ⟨x0, x1, x2, x3⟩ := h5.cells
          have h6 := h5.store hd5
          clear h4 h5 hd5
          go_wp2_with fail
          refine (both_drop hfl h6).mono ?_
          rintro e w7 ⟨rfl, m', hm', h7⟩
          clear h6 x0 x1 x2 x3
          go_wp2_with fail
          go_meet
          exact ⟨m', _, G', vs', by rw [hm'], h7, ⟨h7.at_.wf, hT.n, out_drop hT.out k⟩⟩
        · have b4 : (q == 4) = false := beq_eq_false_iff_ne.2 h6
          by_cases h7 : q = 5
          · subst h7
            have hE := both_exp hH
            go_wp2_with fail
            refine hE.mono ?_
            rintro e w4 ⟨rfl, hb4⟩
            have h4 := hH.onto hb4
            have hI := both_import hT h4
            clear hE hb4 x0 x1 x2 x3
            go_wp2_with fail
            refine hI.mono ?_
            rintro e w5 ⟨m', rfl, h5, h5o⟩
            have hW : Twins w w2.heap.size m m' r G vs w5 := ⟨h5o, h5⟩
            have fe := fun W (h : Twins w w2.heap.size m m' r G vs W) => twins_exp h
            have fp := fun W (h : Twins w w2.heap.size m m' r G vs W) => twins_put h
            clear h4 h5 h5o hI
            go_upto_region 22 with (fail)
            have hWd := hW.drew
            have hWa := hWd.all
            go_region_held3 (fun W => W.cell? ⟨w2.heap.size, 0, none⟩ = some (.slice (some ⟨G, 0, none⟩) r.n r.n) ∧ W.cell? ⟨w2.heap.size, 1, none⟩ = some (.int .i64 (r.places : Int)) ∧ Twins w w2.heap.size m m' r G vs W)
              (first | assumption | exact hWa | exact Twins.all (by assumption))
              (first | (go_at_call 22; refine (fe _ (by assumption : _ ∧ _ ∧ _).2.2).mono ?_; rintro e wv ⟨rfl, hwv⟩) | (go_at_call 23; refine (fp _ (by assumption : _ ∧ _ ∧ _).2.2).mono ?_; rintro e wv ⟨rfl, hwv⟩))
            have hZ := (by assumption : _ ∧ _ ∧ Twins w w2.heap.size m m' r G vs _).2.2
            clear hW hWd hWa fe fp
            go_wp2_with fail
            go_meet
            exact ⟨m', r, G, vs, rfl, hZ.new_, hT⟩
          · have b5 : (q == 5) = false := beq_eq_false_iff_ne.2 h7
            have hfr := fun W (h : Both w w2.heap.size m r r G vs W) => both_rfront (a := a) hfl hT h
            have hsb := ht.lt (by omega)
            have hlw := ht.list j h1
            rw [hLa] at hlw
            have hsn : wr.heap.size < (wr.alloc (.cells #[.slice none 0 0, .int .i64 0] 29)).heap.size := by simp
            have q1 : w.heap.size ≤ wr.heap.size := hH.below.size
            have q2 : w2.heap.size ≠ wr.heap.size := Nat.ne_of_lt hH.box.lt
            have q3 : ¬ m.own wr.heap.size := fun ho => Nat.lt_irrefl _ (hH.at_.lt _ ho)
            have q4 : NotIn wr.heap.size G vs r.n := hH.doc.rf.not_in (Nat.le_refl _)
            have hnl := hH.at_.lt
            go_upto_region 11 with (fail)
            go_cut [18, 19] from 65 to 75 (fun v18 v19 wx => ∃ (nb G' : Nat) (vs' : Nat → Value), v18 = .pointer (some ⟨nb, 0, none⟩) ∧ v19 = .bool (r.ok a k) ∧ Blk wx nb 29 #[.slice (some ⟨G', 0, none⟩) r.n r.n, .int .i64 (r.places : Int)] ∧ ¬ m.own nb ∧ Both w w2.heap.size m r r G vs wx ∧ Doc wx m w2.heap.size (r.fr a k) G' vs')
            case first =>
              have hHd := hH.drewN 1
              have hHa := hHd.all (p := ⟨sb, off + j * 3 + 1, none⟩) hsb hlw
              have hHn := ((hH.alloc (.cells #[.slice none 0 0, .int .i64 0] 29)).drewN 1).all (p := ⟨sb, off + j * 3 + 1, none⟩) hsb hlw
              have hnb : Blk (wr.alloc (.cells #[.slice none 0 0, .int .i64 0] 29)).drew wr.heap.size 29 #[.slice none 0 0, .int .i64 0] := Blk.new wr _ _
              have hside : ∀ W u v, Both w w2.heap.size m r r G vs W → Both w w2.heap.size m r r G vs ((W.setCell ⟨wr.heap.size, 0, none⟩ u).setCell ⟨wr.heap.size, 1, none⟩ v) := fun W u v h => (h.beside q1 q2 q3 q4 0 u).beside q1 q2 q3 q4 1 v
              go_region_held3 (fun W => W.cell? ⟨w2.heap.size, 0, none⟩ = some (.slice (some ⟨G, 0, none⟩) r.n r.n) ∧ W.cell? ⟨w2.heap.size, 1, none⟩ = some (.int .i64 (r.places : Int)) ∧ W.cell? ⟨sb, off + j * 3 + 1, none⟩ = some (.int .i64 a) ∧ Both w w2.heap.size m r r G vs W)
                (first | assumption | exact hHa | exact hHn | exact Both.all (p := ⟨sb, off + j * 3 + 1, none⟩) (by assumption) hsb hlw | exact Both.all (p := ⟨sb, off + j * 3 + 1, none⟩) (hside _ _ _ hwv) hsb hlw | exact Both.all (p := ⟨sb, off + j * 3 + 1, none⟩) (hwv.alloc _) hsb hlw)
                (first | (go_at_call 24; refine (hfr _ (by assumption : _ ∧ _ ∧ _ ∧ _).2.2.2).mono ?_; rintro e wv ⟨G', vs', rfl, hwv, hdv, hbv, hnv⟩; have nbk := hnb.below hbv hsn; have nb0 : wv.cell? ⟨wr.heap.size, 0, none⟩ = some (.slice none 0 0) := nbk.cell 0; have nb1 : wv.cell? ⟨wr.heap.size, 1, none⟩ = some (.int .i64 0) := nbk.cell 1; have nb2 := nbk.free 0; have nb3 := nbk.free 1) | (go_at_call 24; refine (hfr _ (by assumption : _ ∧ _ ∧ _ ∧ _).2.2.2).mono ?_; rintro e wv ⟨G', vs', rfl, hwv, hdv, hbv, hnv⟩))
              · go_wp2_with fail
                go_meet
                exact ⟨wv.heap.size, G', vs', rfl, rfl, Blk.new wv _ _, fun ho => Nat.lt_irrefl _ (hwv.at_.lt _ ho), hwv.alloc _, hdv.onto ((Below.refl _ wv).alloc (Nat.le_refl _) _)⟩
              · have hni : NotIn wr.heap.size G' vs' (r.fr a k).n := by rw [(Rg.fr_n r a k).1]; exact hnv _ hsn q4
                go_wp2_with fail
                go_meet
                exact ⟨wr.heap.size, G', vs', rfl, rfl, (nbk.put 0 _).put 1 _, q3, hside _ _ _ hwv, (hdv.beside hni 0 _).beside hni 1 _⟩
            case rest =>
              obtain ⟨nb, G', vs', rfl, rfl, hnb, hno, h5, hd5⟩ := hcut
              obtain ⟨y0, y1, y2, -⟩ := h5.all (p := ⟨sb, off + j * 3 + 1, none⟩) hsb hlw
              clear x0 x1 x2 x3 hfr
              go_wp2_with fail
              refine (both_front hfl h5).mono ?_
              rintro e w7 ⟨rfl, m', hm', h7, hS7⟩
              have hnb7 : Blk w7 nb 29 #[.slice (some ⟨G', 0, none⟩) r.n r.n, .int .i64 (r.places : Int)] := (hS7.kp.block nb hnb.lt hno).trans hnb
              have n0 : w7.cell? ⟨nb, 0, none⟩ = some (.slice (some ⟨G', 0, none⟩) r.n r.n) := hnb7.cell 0
              have n1 : w7.cell? ⟨nb, 1, none⟩ = some (.int .i64 (r.places : Int)) := hnb7.cell 1
              have h8 := h7.store (hd5.step hS7)
              rw [(Rg.fr_n r a k).1, (Rg.fr_n r a k).2] at h8
              clear y0 y1 y2
              obtain ⟨x0, x1, x2, x3⟩ := h7.cells
              have hT8 : Tame (r.fr a k) := ⟨h7.at_.wf, by rw [(Rg.fr_n r a k).1]; exact hT.n, out_fr hT.out a k⟩
              clear h7 hnb7 hd5 hS7 h5 hnb
              go_wp2_with fail
              go_meet
              exact ⟨m', r.fr a k, G', vs', by rw [hm'], h8, hT8⟩
      case rest =>
        obtain ⟨m5, r5, G5, vs5, rfl, h5, hT5⟩ := hcut
        clear hH hT
        clear hLa
        go_wp2_with fail
        refine (in_h hfl h5.at_).mono ?_
        rintro e w6 ⟨rfl, rfl⟩
        obtain ⟨x0, x1, x2, x3⟩ := h5.cells
        go_wp2_with fail
        refine (both_rin hT5 h5).mono ?_
        rintro e w7 ⟨rfl, h7⟩
        clear x0 x1 x2 x3
        obtain ⟨x0, x1, x2, x3⟩ := h7.cells
        go_wp2_with fail
        refine (both_same hT5 h7).mono ?_
        rintro e w8 ⟨rfl, hb8⟩
        have h8 := h7.onto hb8
        clear x0 x1 x2 x3 h7 h5 hb8
        go_wp2_with fail
        go_roundw
        case rel => exact ⟨j + 1, m5, r5, G5, vs5, by omega, by omega, by simp, rfl, h8, hT5⟩
        case measure => simp [intOf]; omega
    · have hend : (j < n ∧ ¬ j < 60 ∧ decide ((j : Int) < (n : Int)) = true ∧ decide ((j : Int) < 60) = false) ∨ (¬ j < n ∧ decide ((j : Int) < (n : Int)) = false) := by
        by_cases h : j < n
        · exact .inl ⟨h, by omega, decide_eq_true (by omega), decide_eq_false (by omega)⟩
        · exact .inr ⟨h, decide_eq_false (by omega)⟩
      clear h1
      rcases hend with ⟨h2, h3, d1, d2⟩ | ⟨h2, d1⟩
      all_goals
        go_wp2_with fail
        go_ret
        exact ⟨rfl, hH.below⟩
set_option linter.unusedVariables false in
set_option maxRecDepth 100000 in
theorem ringPlays_lifted (os : Os) (started : os.Started) (H : Type) (enc : TypeId × Value → H) :
    ReturnsInHanded {} Try.checked os 3 .any (Rows.ringPlaysSpec.pre6 enc Try.prog Try.f3 Rows.ringPlaysRow.domain false) (Rows.ringPlaysSpec.post enc Try.prog Try.f3 false true false false) := by
  refine returnsInHanded_of_change (C := Try.checked) Kit.own started (by kernel_rfl) Try.func3
    (ChangeSpec.witness6 (enc := enc) (C := Try.checked) false ⟨#[], #[.int .i64 0, .int .i64 0, .slice none 0 0], []⟩ 8 (by kernel_rfl) (by kernel_rfl) (by kernel_rfl) (by kernel_rfl)) ?_
  intro W base args ds gs before hval0 hW hcnd _
  have hval : ∀ (j : Nat) t v, Try.f3.params[j]? = some t → args[j]? = some v → Value.okWide Try.prog W .any base t v := hval0
  have hW' := hW
  obtain ⟨p, q, hA0, hV, rfl, hfz, hnd⟩ := hW
  have hA : DataW.TrodAll enc Try.prog W 0 (fun _ => true) true Try.f3.params.toList args.toList ds p := hA0
  rw [Try.params3] at hA hval
  obtain ⟨v0, vs0, d0, ds0, p0, q0, hargs, rfl, rfl, h0, r0⟩ := trodAll_cons hA
  obtain ⟨v1, vs1, d1, ds1, p1, q1, rfl, rfl, rfl, h1, r1⟩ := trodAll_cons r0
  obtain ⟨v2, vs2, d2, ds2, p2, q2, rfl, rfl, rfl, h2, r2⟩ := trodAll_cons r1
  obtain ⟨rfl, rfl, rfl⟩ := trodAll_nil r2
  obtain ⟨rfl, rfl⟩ := trodVars_none hV
  obtain rfl : args = #[v0, v1, v2] := by cases args; simp_all
  obtain ⟨a0, rfl, rfl, rfl, w0⟩ := open_int Try.underlying3 (hval 0 3 v0 rfl rfl) h0
  obtain ⟨a1, rfl, rfl, rfl, w1⟩ := open_int Try.underlying3 (hval 1 3 v1 rfl rfl) h1
  obtain ⟨b2, c2, e2, rfl⟩ := okWide_slice Try.underlying22 (hval 2 22 v2 rfl rfl)
  obtain ⟨fuel2, hf2⟩ := h2
  obtain ⟨ao2, len2, cap2, sb2, off2, kx2, lx2, tx2, hv2, ht2⟩ := open_acts (show DataW.trod enc Try.prog W 0 (fun _ => true) true fuel2 22 [.slice b2 c2 e2] = some _ from hf2)
  injection hv2 with hv2x hv2y hv2z
  subst hv2x hv2y hv2z
  clear hA0 hval0
  refine (ringPlays_walk a0 a1 w0 w1 _ _ _ _ _ _ _ _ W ht2).mono fun e W' ⟨he, hg⟩ => ?_
  subst he
  exact ⟨_, rfl, Kit.law_post hW' rfl (by kernel_rfl) rfl (by kernel_rfl) hg⟩

theorem ringPlays_over : Rows.ringPlaysRow.holds Try.pinned (OpenSpec.ofChange Rows.ringPlaysSpec) :=
  OpenClaim.holds_of_wide 3 Try.f3 rfl rfl rfl rfl rfl rfl rfl ⟨rfl, rfl, rfl, rfl, rfl⟩ rfl rfl rfl rfl rfl (by kernel_rfl) Try.func3 (by kernel_rfl)
    (of_decide_eq_true (by kernel_rfl)) (by unfold Func.isWrapper; first | (rw [if_pos (by decide +kernel)]; kernel_rfl) | (rw [if_neg (by decide +kernel)]; exact ⟨rfl, rfl⟩))
    (fun os started H enc _ => ringPlays_lifted os started H enc)

theorem ringPlays_holds : Rows.RingPlaysSaid :=
  ringPlays_over

end Go.Proofs.Ytfhlnidjneaieaa.Ringy
