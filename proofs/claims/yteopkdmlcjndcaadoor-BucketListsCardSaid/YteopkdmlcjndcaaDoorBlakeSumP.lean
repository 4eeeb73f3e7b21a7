/- Contract of layer 4's program (blake): the sum of bytes is chapter 4's. Conditions: fewer than 2^40 bytes; the variables 'first', 'orders' and 'columns' hold what the program's text lays. -/
import Derived.Test.YteopkdmlcjndcaaDoorBlakeComp
import Derived.Test.YteopkdmlcjndcaaDoorBlakeArr
import Derived.Test.YteopkdmlcjndcaaDoorBlakeSumR
namespace Go.Proofs.YteopkdmlcjndcaaDoor.Wirey
open Go.ChangeShapes Go.WideShapes Go.ChangeAt Go.RowKit

theorem pad_full {l : List UInt8} (h : l.length = 64) : pad l = l := by unfold pad; rw [h]; simp
set_option maxHeartbeats 8000000 in
set_option maxRecDepth 100000 in
theorem sumP_c (l : List UInt8) (hl : l.length < 1099511627776) (w : World) (hG : Glob w) :
    Calls Tryd.prog 17 #[.string (str l)] w (SumEnd l w) := by
  have hsz := str_size
  have hiv : (u32s ivs).length = 8 := rfl
  have hst0 := store_arr (l := ivs) (Blk.new w 58 z8) rfl
  rw [World.setRow_alloc_new] at hst0
  have hst1 : (storeCells ⟨w.heap.size, 0, none⟩ (u32s ivs) 0).run Tryd.prog (w.alloc (.cells #[.int .u32 0, .int .u32 0, .int .u32 0, .int .u32 0, .int .u32 0, .int .u32 0, .int .u32 0, .int .u32 0] 58)) = .ok () (w.alloc (.cells (u32s ivs).toArray 58)) := hst0
  clear hst0
  have hF := hG.first
  go_enter Tryd.func17, Tryd.ntmps17
  go_upto_region 1 with fail
  refine wp_region_lit ?_
  refine wpList_load_seen rfl 58 (.global 0) rfl 0 rfl (u32s ivs) 8 57 hF under8 (by rw [info8, hiv]) ?_
  simp only [Act.put, List.setIfInBounds_toArray, List.set_cons_zero, List.set_cons_succ]
  have k0 := Blk.new w 58 (u32s ivs).toArray
  have hb0 := (Below.refl w.heap.size w).alloc (Nat.le_refl _) (.cells (u32s ivs).toArray 58)
  obtain ⟨X, hX⟩ : ∃ X, X = u32s ivs := ⟨_, rfl⟩
  rw [← hX] at hiv hst1 k0 hb0 ⊢
  have HX := Lib.hid hX
  clear hX hF
  go_upto_region 2 with fail
  rw [HX.out] at k0 hb0 ⊢
  clear HX hst1 hiv
  generalize w.alloc (.cells (u32s ivs).toArray 58) = w1 at k0 hb0 ⊢
  have c0 := (Row.blk k0).word (i := 0) (by decide)
  have f0 := (Row.blk k0).wfree (i := 0) (by decide)
  have x0 := u32_xor_nat (nat_ ivs 0) 16842784 (nat_lt ivs_wd 0) (by decide)
  rw [show ((16842784 : Nat) : Int) = 16842784 from rfl] at x0
  have k1 := arr_put k0 0 (nat_ ivs 0 ^^^ 16842784)
  rw [h0s_eq] at k1
  have K1 := Lib.hid k1
  have B1 := Lib.hid (hb0.setCell (p := ⟨w.heap.size, 0, none⟩) (Nat.le_refl _) (.int .u32 ((nat_ ivs 0 ^^^ 16842784 : Nat) : Int)))
  clear k0 k1 hb0
  go_upto_region 4 with fail
  have k1 := K1.out
  have b1 := B1.out
  generalize World.setCell w1 ⟨w.heap.size, 0, none⟩ (.int .u32 ((nat_ ivs 0 ^^^ 16842784 : Nat) : Int)) = w2 at k1 b1 ⊢
  clear K1 B1 c0 f0 x0
  go_loopw [4] (fun av wr => ∃ (n : Nat) (hh : List Nat), av = .int .i64 (n : Int) ∧ n ≤ l.length ∧ hh.length = 8 ∧ Wd hh ∧ Blk wr w.heap.size 58 (u32s hh).toArray ∧ Hid (sumH h0s l 0 = sumH hh (l.drop n) n) ∧ Below w.heap.size w wr) (fun av _ => l.length - (intOf av).toNat)
  case atStart => exact ⟨0, h0s, rfl, by omega, rfl, h0s_wd, k1, Lib.hid rfl, b1⟩
  case round =>
    clear k1 b1
    obtain ⟨n, hh, rfl, hn, hhl, hw, hK, hS, hB⟩ := hrel
    have hGr := hG.below hB
    have hlH : (u32s hh).length = 8 := by rw [u32s_len]; exact hhl
    have hld : (l.drop n).length = l.length - n := List.length_drop ..
    by_cases hlt : n + 64 < l.length
    · have hcut := str_cut l n 64
      have htl : ((l.drop n).take 64).length = 64 := by rw [List.length_take, hld]; omega
      have hS2 := Lib.hid (sumH_more (h := hh) (l := l.drop n) (n := n) (by omega))
      obtain ⟨m, hm⟩ : ∃ m, m = (l.drop n).take 64 := ⟨_, rfl⟩
      rw [← hm] at hcut htl hS2
      have HL := Lib.hid htl
      have HP := Lib.hid (pad_full htl)
      clear hm htl hld
      have hsl : ∀ u, (Instr.slice 9 (.string (str l)) (some (.int .i64 (n : Int))) (some (.int .i64 ((n : Int) + 64))) none).run Tryd.prog u = .ok (.string (str m)) u := fun u => by
        rw [str_slice (l := l) (a := n) (b := n + 64) (by omega) (by omega) (n : Int) ((n : Int) + 64) rfl (by omega) u, hcut]
      clear hcut
      have x1 : IntKind.i64.wrap ((n : Int) + 64) = (n : Int) + 64 := IntWalk.i64_in _ (by omega)
      have x2 : IntKind.u64.wrap ((n : Int) + 64) = (n : Int) + 64 := by rw [IntKind.wrap_u64]; omega
      go_upto_region 5 with fail
      have hV : (fun u : World => Row u w.heap.size (u32s hh)) wr.drew := Row.blk hK
      have hKd : Blk wr.drew w.heap.size 58 (u32s hh).toArray := hK
      have hGd : Glob wr.drew := hGr.below ((Below.refl _ _).drew)
      have hBd := hB.drew
      refine wp_region_K (by kernel_rfl) (fun _ : World => True) (fun u : World => Row u w.heap.size (u32s hh)) 10 ?_
      change wpAnyK _ _ _ _ _ _ _ _ _ _ wr.drew
      generalize wr.drew = wd at hV hKd hGd hBd ⊢
      clear hK hGr hB
      refine wpAnyK_take 1 (some 16) (v := ?v1) rfl (by kernel_rfl) (by kernel_rfl) (by kernel_rfl) (by decide) (fun _ _ _ h => h) trivial (fun _ => hV) (Or.inl ⟨by rfl, ?hy1⟩) rfl ?_
      case hy1 =>
        intro u _
        go_simp
        try with_reducible rfl
      simp only [Act.put, List.setIfInBounds_toArray, List.set_cons_zero, List.set_cons_succ]
      refine wpAnyK_take 2 (some 17) (v := ?v2) rfl (by kernel_rfl) (by kernel_rfl) (by kernel_rfl) (by decide) (fun _ _ _ h => h) trivial (fun _ => hV) (Or.inl ⟨by rfl, ?hy2⟩) rfl ?_
      case hy2 =>
        intro u _
        go_simp
        try with_reducible rfl
      simp only [Act.put, List.setIfInBounds_toArray, List.set_cons_zero, List.set_cons_succ]
      refine wpAnyK_take 3 (some 18) (v := ?v3) rfl (by kernel_rfl) (by kernel_rfl) (by kernel_rfl) (by decide) (fun _ _ _ h => h) trivial (fun _ => hV) (Or.inl ⟨by rfl, ?hy3⟩) rfl ?_
      case hy3 =>
        intro u _
        go_simp
        try with_reducible rfl
      simp only [Act.put, List.setIfInBounds_toArray, List.set_cons_zero, List.set_cons_succ]
      refine wpAnyK_take 4 (some 19) (v := ?v4) rfl (by kernel_rfl) (by kernel_rfl) (by kernel_rfl) (by decide) (fun _ _ _ h => h) trivial (fun _ => hV) (Or.inl ⟨by rfl, ?hy4⟩) rfl ?_
      case hy4 =>
        intro u _
        go_simp
        try with_reducible rfl
      simp only [Act.put, List.setIfInBounds_toArray, List.set_cons_zero, List.set_cons_succ]
      refine wpAnyK_take 5 (some 20) (v := .string (str m)) rfl (by kernel_rfl) (by kernel_rfl) (by kernel_rfl) (by decide) (fun _ _ _ h => h) trivial (fun _ => hV) (Or.inl ⟨by rfl, ?hy5⟩) rfl ?_
      case hy5 =>
        intro u _
        go_simp
        try with_reducible rfl
      simp only [Act.put, List.setIfInBounds_toArray, List.set_cons_zero, List.set_cons_succ]
      refine wpAnyK_take 7 (some 22) (v := ?v6) rfl (by kernel_rfl) (by kernel_rfl) (by kernel_rfl) (by decide) (fun _ _ _ h => h) trivial (fun _ => hV) (Or.inl ⟨by rfl, ?hy6⟩) rfl ?_
      case hy6 =>
        intro u _
        go_simp
        try with_reducible rfl
      simp only [Act.put, List.setIfInBounds_toArray, List.set_cons_zero, List.set_cons_succ]
      refine wpAnyK_take 8 (some 23) (v := ?v7) rfl (by kernel_rfl) (by kernel_rfl) (by kernel_rfl) (by decide) (fun _ _ _ h => h) trivial (fun _ => hV) (Or.inl ⟨by rfl, ?hy7⟩) rfl ?_
      case hy7 =>
        intro u _
        go_simp
        try with_reducible rfl
      simp only [Act.put, List.setIfInBounds_toArray, List.set_cons_zero, List.set_cons_succ]
      refine wpAnyK_take 9 (some 24) (v := ?v8) rfl (by kernel_rfl) (by kernel_rfl) (by kernel_rfl) (by decide) (fun _ _ _ h => h) trivial (fun _ => hV) (Or.inl ⟨by rfl, ?hy8⟩) rfl ?_
      case hy8 =>
        intro u _
        go_simp
        try with_reducible rfl
      simp only [Act.put, List.setIfInBounds_toArray, List.set_cons_zero, List.set_cons_succ]
      refine wpAnyK_early 0 (some 15) (v := .agg (u32s hh).toArray) rfl (by kernel_rfl) (by kernel_rfl) (by kernel_rfl) (by decide) (fun _ _ _ h => h) trivial hV rfl (by kernel_rfl) (by kernel_rfl) (yields_arr (by rfl) 58 (.tmp 3) rfl w.heap.size rfl (u32s hh) 8 57 (fun u hu => hu) under8 (by rw [info8, hlH])) rfl ?_
      simp only [Act.put, List.setIfInBounds_toArray, List.set_cons_zero, List.set_cons_succ]
      have HBk := Lib.hid (blockP_c (d := m) (by rw [HL.out]; omega) wd)
      refine wpAnyK_one 6 (by kernel_rfl) rfl (fun K hK => ?_)
      go_simp
      refine HBk.out.mono ?_
      rintro e w3 ⟨he, hb3⟩
      subst he
      dsimp only
      have hK3 := hKd.below hb3 hKd.lt
      have hG3 := hGd.below hb3
      have hB3 := hBd.trans (hb3.mono hBd.size)
      refine hK.out _ _ trivial (fun _ => Row.blk hK3) ?_
      clear hK K HBk hV hKd hGd hBd hb3
      rw [HP.out]
      have HCm := compress_c hhl (wds_len (nums m)) hw (n + 64) (by omega) false w3 hG3
      rw [show ((n + 64 : Nat) : Int) = (n : Int) + 64 by omega] at HCm
      replace HCm := Lib.hid HCm
      refine wpAnyK_one 10 (by kernel_rfl) rfl (fun K hK => ?_)
      go_simp
      refine HCm.out.mono ?_
      rintro e w4 ⟨he, hb4⟩
      subst he
      dsimp only
      have hK4 := hK3.below hb4 hK3.lt
      have hB4 := hB3.trans (hb4.mono hB3.size)
      refine hK.out _ _ trivial (fun _ => Row.blk hK4) ?_
      clear hK K HCm hK3 hG3 hB3 hb4
      refine wpAnyK_late _ _ _ _ (by kernel_rfl) ?_
      have hbl := blk_len hh (wds (nums m)) (n + 64) false
      have hbw := blk_wd (wds (nums m)) false hw (show n + 64 < 18446744073709551616 by omega)
      have S4 : sumH h0s l 0 = sumH (blk hh (wds (nums m)) (n + 64) false) (l.drop (n + 64)) (n + 64) := by rw [hS.out, hS2.out, List.drop_drop]
      obtain ⟨Y, HY⟩ : ∃ Y, Hid (Y = blk hh (wds (nums m)) (n + 64) false) := ⟨_, Lib.hid rfl⟩
      rw [← HY.out] at hbl hbw S4 ⊢
      have hlY : (u32s Y).length = 8 := by rw [u32s_len]; exact hbl
      have hsto := store_arr hK4 (l := Y) (by rw [List.size_toArray, hlH, hbl])
      refine wpAnyH_one 11 (by kernel_rfl) rfl (fun K hK => ?_)
      go_simp
      refine hK.out _ _ trivial ?_
      clear hK K hsto hlY hlH
      refine wpAnyH_done (by kernel_rfl) ?_ _
      have hK5 : Blk (w4.setRow w.heap.size (u32s Y).toArray) w.heap.size 58 (u32s Y).toArray := hK4.set_
      have hB5 := below_setRow hB4 (Nat.le_refl _) (u32s Y).toArray
      generalize w4.setRow w.heap.size (u32s Y).toArray = w5 at hK5 hB5 ⊢
      clear hK4 hB4 HY
      have HS4 := Lib.hid S4
      clear S4 x1 x2 hsl hS hS2
      go_wp2_with fail
      go_roundw
      case rel => first | exact ⟨n + 64, Y, by go_num, by omega, hbl, hbw, hK5, HS4, hB5⟩ | ((repeat apply Exists.intro); refine ⟨⟨n + 64, Y, ?_, by omega, hbl, hbw, hK5, HS4, hB5⟩, rfl⟩; go_num)
      case measure => simp [intOf]; omega
    · have hlen : (l.drop n).length ≤ 64 := by omega
      have hS2 := Lib.hid (hS.out.trans (sumH_last (h := hh) (l := l.drop n) (n := n) (by omega)))
      have hdr := str_drop l n
      obtain ⟨d, hd⟩ : ∃ d, d = l.drop n := ⟨_, rfl⟩
      rw [← hd] at hdr hlen hS2 hld
      have HLD := Lib.hid hld
      clear hd hld
      have x2 : IntKind.u64.wrap (l.length : Int) = (l.length : Int) := by rw [IntKind.wrap_u64]; omega
      go_upto_region 7 with fail
      have hV : (fun u : World => Row u w.heap.size (u32s hh)) wr.drew := Row.blk hK
      have hKd : Blk wr.drew w.heap.size 58 (u32s hh).toArray := hK
      have hGd : Glob wr.drew := hGr.below ((Below.refl _ _).drew)
      have hBd := hB.drew
      refine wp_region_K (by kernel_rfl) (fun _ : World => True) (fun u : World => Row u w.heap.size (u32s hh)) 8 ?_
      change wpAnyK _ _ _ _ _ _ _ _ _ _ wr.drew
      generalize wr.drew = wd at hV hKd hGd hBd ⊢
      clear hK hGr hB
      refine wpAnyK_take 1 (some 29) (v := ?v51) rfl (by kernel_rfl) (by kernel_rfl) (by kernel_rfl) (by decide) (fun _ _ _ h => h) trivial (fun _ => hV) (Or.inl ⟨by rfl, ?hy51⟩) rfl ?_
      case hy51 =>
        intro u _
        go_simp
        try with_reducible rfl
      simp only [Act.put, List.setIfInBounds_toArray, List.set_cons_zero, List.set_cons_succ]
      refine wpAnyK_take 2 (some 30) (v := ?v52) rfl (by kernel_rfl) (by kernel_rfl) (by kernel_rfl) (by decide) (fun _ _ _ h => h) trivial (fun _ => hV) (Or.inl ⟨by rfl, ?hy52⟩) rfl ?_
      case hy52 =>
        intro u _
        go_simp
        try with_reducible rfl
      simp only [Act.put, List.setIfInBounds_toArray, List.set_cons_zero, List.set_cons_succ]
      refine wpAnyK_take 3 (some 31) (v := .string (str d)) rfl (by kernel_rfl) (by kernel_rfl) (by kernel_rfl) (by decide) (fun _ _ _ h => h) trivial (fun _ => hV) (Or.inl ⟨by rfl, ?hy53⟩) rfl ?_
      case hy53 =>
        intro u _
        go_simp
        try with_reducible rfl
      simp only [Act.put, List.setIfInBounds_toArray, List.set_cons_zero, List.set_cons_succ]
      refine wpAnyK_take 5 (some 33) (v := ?v54) rfl (by kernel_rfl) (by kernel_rfl) (by kernel_rfl) (by decide) (fun _ _ _ h => h) trivial (fun _ => hV) (Or.inl ⟨by rfl, ?hy54⟩) rfl ?_
      case hy54 =>
        intro u _
        go_simp
        try with_reducible rfl
      simp only [Act.put, List.setIfInBounds_toArray, List.set_cons_zero, List.set_cons_succ]
      refine wpAnyK_take 6 (some 34) (v := ?v55) rfl (by kernel_rfl) (by kernel_rfl) (by kernel_rfl) (by decide) (fun _ _ _ h => h) trivial (fun _ => hV) (Or.inl ⟨by rfl, ?hy55⟩) rfl ?_
      case hy55 =>
        intro u _
        go_simp
        try with_reducible rfl
      simp only [Act.put, List.setIfInBounds_toArray, List.set_cons_zero, List.set_cons_succ]
      refine wpAnyK_take 7 (some 35) (v := ?v56) rfl (by kernel_rfl) (by kernel_rfl) (by kernel_rfl) (by decide) (fun _ _ _ h => h) trivial (fun _ => hV) (Or.inl ⟨by rfl, ?hy56⟩) rfl ?_
      case hy56 =>
        intro u _
        go_simp
        try with_reducible rfl
      simp only [Act.put, List.setIfInBounds_toArray, List.set_cons_zero, List.set_cons_succ]
      refine wpAnyK_early 0 (some 28) (v := .agg (u32s hh).toArray) rfl (by kernel_rfl) (by kernel_rfl) (by kernel_rfl) (by decide) (fun _ _ _ h => h) trivial hV rfl (by kernel_rfl) (by kernel_rfl) (yields_arr (by rfl) 58 (.tmp 3) rfl w.heap.size rfl (u32s hh) 8 57 (fun u hu => hu) under8 (by rw [info8, hlH])) rfl ?_
      simp only [Act.put, List.setIfInBounds_toArray, List.set_cons_zero, List.set_cons_succ]
      have HBk := Lib.hid (blockP_c (d := d) hlen wd)
      refine wpAnyK_one 4 (by kernel_rfl) rfl (fun K hK => ?_)
      go_simp
      refine HBk.out.mono ?_
      rintro e w3 ⟨he, hb3⟩
      subst he
      dsimp only
      have hK3 := hKd.below hb3 hKd.lt
      have hG3 := hGd.below hb3
      have hB3 := hBd.trans (hb3.mono hBd.size)
      refine hK.out _ _ trivial (fun _ => Row.blk hK3) ?_
      clear hK K HBk hV hKd hGd hBd hb3
      have HCm := compress_c hhl (wds_len (nums (pad d))) hw l.length (by omega) true w3 hG3
      replace HCm := Lib.hid HCm
      refine wpAnyK_one 8 (by kernel_rfl) rfl (fun K hK => ?_)
      go_simp
      refine HCm.out.mono ?_
      rintro e w4 ⟨he, hb4⟩
      subst he
      dsimp only
      have hK4 := hK3.below hb4 hK3.lt
      have hB4 := hB3.trans (hb4.mono hB3.size)
      refine hK.out _ _ trivial (fun _ => Row.blk hK4) ?_
      clear hK K HCm hK3 hG3 hB3 hb4
      refine wpAnyK_late _ _ _ _ (by kernel_rfl) ?_
      have hbl := blk_len hh (wds (nums (pad d))) l.length true
      have hbw := blk_wd (wds (nums (pad d))) true hw (show l.length < 18446744073709551616 by omega)
      have S4 : sumH h0s l 0 = blk hh (wds (nums (pad d))) l.length true := by rw [hS2.out, HLD.out]; congr 1; omega
      obtain ⟨Y, HY⟩ : ∃ Y, Hid (Y = blk hh (wds (nums (pad d))) l.length true) := ⟨_, Lib.hid rfl⟩
      rw [← HY.out] at hbl hbw S4 ⊢
      have hlY : (u32s Y).length = 8 := by rw [u32s_len]; exact hbl
      have hsto := store_arr hK4 (l := Y) (by rw [List.size_toArray, hlH, hbl])
      refine wpAnyH_one 9 (by kernel_rfl) rfl (fun K hK => ?_)
      go_simp
      refine hK.out _ _ trivial ?_
      clear hK K hsto hlY hlH
      refine wpAnyH_done (by kernel_rfl) ?_ _
      have hK5 : Blk (w4.setRow w.heap.size (u32s Y).toArray) w.heap.size 58 (u32s Y).toArray := hK4.set_
      have hB5 := below_setRow hB4 (Nat.le_refl _) (u32s Y).toArray
      generalize w4.setRow w.heap.size (u32s Y).toArray = w5 at hK5 hB5 ⊢
      clear hK4 hB4 HY
      have hrow : Row w5 w.heap.size (u32s Y) := Row.blk hK5
      have hlY : (u32s Y).length = 8 := by rw [u32s_len]; exact hbl
      have hE : Hid (sumL l = bts Y 32) := Lib.hid (by unfold sumL; rw [S4])
      clear S4 hS2 hS
      go_upto_region 8 with fail
      refine wp_region_lit ?_
      refine wpList_load_arr rfl 58 (.tmp 3) rfl w.heap.size rfl (u32s Y) 8 57 hrow under8 (by rw [info8, hlY]) ?_
      simp only [Act.put, List.setIfInBounds_toArray, List.set_cons_zero, List.set_cons_succ]
      have HBo := Lib.hid (bytesOf_c Y hbl w5)
      clear hrow hlY
      go_wp2_with (go_at_call 32; refine HBo.out.mono ?_; rintro e w6 ⟨rfl, hb6⟩)
      go_ret
      exact ⟨by rw [hE.out]; rfl, hB5.trans (hb6.mono hB5.size)⟩
end Go.Proofs.YteopkdmlcjndcaaDoor.Wirey
