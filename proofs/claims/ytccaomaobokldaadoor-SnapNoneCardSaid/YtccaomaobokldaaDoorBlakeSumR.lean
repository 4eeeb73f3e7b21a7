/- The contract of the document's own sum of bytes of layer 4 (blake). Texts of fewer than 2^40 bytes. Nothing that was there turns. -/
import Derived.Test.YtccaomaobokldaaDoorBlakeBlk
import Derived.Lib.BufferWrite
import Derived.Laws.IdiomStrings
import Derived.Laws.CopyOwn
namespace Go.Proofs.YtccaomaobokldaaDoor.Wirey
open Go.ChangeShapes Go.WideShapes Go.ChangeAt Go.RowKit

set_option maxHeartbeats 4000000 in
set_option maxRecDepth 100000 in
theorem words_any (cap : Nat) {g : Nat} {l : List UInt8} (hl : l.length = 64) (w : World) (hp : Row w g (u8s l)) :
    Calls Tryd.prog 23 #[.slice (some ⟨g, 0, none⟩) 64 cap] w fun e w' => e = .returned (.slice (some ⟨w.heap.size, 0, none⟩) 16 16) ∧ Row w' w.heap.size (u32s (wds (nums l))) ∧ Below w.heap.size w w' := by
  have hg := hp.lt
  go_enter Tryd.func23, Tryd.ntmps23
  have hm := make16 w
  go_wp2
  go_loopw [4] (fun i wr => ∃ k : Nat, k ≤ 64 ∧ i = .int .i64 k ∧ Row wr w.heap.size (u32s (wacc (nums l) k)) ∧ Row wr g (u8s l) ∧ Below w.heap.size w wr) (fun i _ => 64 - (intOf i).toNat)
  case atStart => exact ⟨0, by omega, rfl, Row.of_blk (Blk.new _ _ _), hp.alloc _, (Below.refl _ _).alloc (Nat.le_refl _) _⟩
  case round =>
    obtain ⟨k, hk, rfl, hO, hP, hW⟩ := hrel
    by_cases hlt : k < 64
    · have c0 := hO.word (i := k / 4) (by rw [wacc_len]; omega)
      have f0 := hO.wfree (i := k / 4) (by rw [wacc_len]; omega)
      have c1 := hP.cell k _ (u8s_at (by omega))
      have b1 := nums_lt l k
      have hs := wacc_step (p := nums l) (nums_lt l) hlt
      have e := Lib.hid (acc_wrap (nat_ (wacc (nums l) k) (k / 4)) (nat_ (nums l) k) (k % 4) hs)
      have hO2 := Lib.hid (hO.wput (i := k / 4) (by rw [wacc_len]; omega) (nat_ (wacc (nums l) k) (k / 4) + nat_ (nums l) k * 256 ^ (k % 4)))
      clear hs
      go_wp2
      go_region
      rw [e.out]
      have hP2 := hP.far (p := ⟨w.heap.size, k / 4, none⟩) (by show g ≠ w.heap.size; omega) (.int .u32 ((nat_ (wacc (nums l) k) (k / 4) + nat_ (nums l) k * 256 ^ (k % 4) : Nat) : Int))
      have hW2 := hW.setCell (p := ⟨w.heap.size, k / 4, none⟩) (Nat.le_refl _) (.int .u32 ((nat_ (wacc (nums l) k) (k / 4) + nat_ (nums l) k * 256 ^ (k % 4) : Nat) : Int))
      have hO2 := hO2.out.drew
      have hP2 := hP2.drew
      have hW2 := hW2.drew
      generalize (wr.setCell ⟨w.heap.size, k / 4, none⟩ (Value.int IntKind.u32 ((nat_ (wacc (nums l) k) (k / 4) + nat_ (nums l) k * 256 ^ (k % 4) : Nat) : Int))).drew = wn at hO2 hP2 hW2 ⊢
      clear hO hP hW c0 f0 c1 b1
      go_wp2
      go_roundw
      case rel => exact ⟨k + 1, by omega, by go_num, hO2, hP2, hW2⟩
      case measure => simp [intOf]; omega
    · obtain rfl : k = 64 := by omega
      rw [wacc_all] at hO
      go_wp2
      go_ret
      exact ⟨rfl, hO, hW⟩

/-- A text's bytes in new memory. -/
theorem bytes_row {w : World} {l : List UInt8} {c lo hi : Nat} {e : TypeId} (hlo : l.length ≤ lo) : Row (w.drew.alloc (.cells (bytesRow (str l) c) e (lo, hi))) w.heap.size (u8s l) := by
  have hh : (w.drew.alloc (.cells (bytesRow (str l) c) e (lo, hi))).heap[w.heap.size]? = some (.cells (bytesRow (str l) c) e (lo, hi)) := by
    show (w.heap.push _)[w.heap.size]? = _
    simp
  refine ⟨by simp, fun i u hu => ?_, fun i hil => ?_⟩
  · have hi : i < l.length := by
      rcases Nat.lt_or_ge i l.length with h | h
      · exact h
      · rw [List.getElem?_eq_none (by rw [u8s_len]; exact h)] at hu; cases hu
    rw [cell_of_row _ _ _ _ _ _ hh]
    unfold bytesRow
    rw [Array.getElem?_append_left (by simpa [str] using hi)]
    rw [← hu]
    unfold u8s str
    simp
  · rw [u8s_len] at hil
    unfold World.frozen?
    show (match (w.drew.alloc (.cells (bytesRow (str l) c) e (lo, hi))).heap[w.heap.size]? with | some (.cells _ _ (lo, hi)) => decide (lo ≤ i) && decide (i < hi) | _ => false) = false
    rw [hh]
    simp
    omega
theorem str_cut (l : List UInt8) (n k : Nat) : (str l).extract n (n + k) = str ((l.drop n).take k) := by
  apply ByteArray.ext
  simp [str, ByteArray.data_extract]
theorem str_slice {l : List UInt8} {a b : Nat} (h1 : a ≤ b) (h2 : b ≤ l.length) (i j : Int) (hi : i = (a : Int)) (hj : j = (b : Int)) (w : World) :
    (Instr.slice 9 (.string (str l)) (some (.int .i64 i)) (some (.int .i64 j)) none).run Tryd.prog w = .ok (.string ((str l).extract a b)) w := by
  subst hi hj
  have := str_size l
  rw [run_slice_string (P := Tryd.prog) (w := w) 9 (str l) .i64 .i64 (a : Int) (b : Int) Tryd.underlying9 (by omega) (by omega) (by omega)]
  simp
/-- Cells that hold noughts. -/
def noughts (n : Nat) : Array Value := (u8s (List.replicate n 0)).toArray
theorem noughts_list (n : Nat) : (noughts n).toList = List.replicate n (.int .u8 0) := by unfold noughts u8s; rw [List.map_replicate]; rfl
theorem make64n (w : World) : (Instr.makeSlice 42 (.int .i64 64) (.int .i64 64)).run Tryd.prog w = .ok (.slice (some ⟨w.heap.size, 0, none⟩) 64 64) (w.alloc (.cells (noughts 64) 5)) := make64 w
theorem make32n (w : World) : (Instr.makeSlice 42 (.int .i64 32) (.int .i64 32)).run Tryd.prog w = .ok (.slice (some ⟨w.heap.size, 0, none⟩) 32 32) (w.alloc (.cells (noughts 32) 5)) := make32 w
theorem u8_size : (Tryd.prog.info? 5).map (·.size) = some 1 := by kernel_rfl
/-- A text is laid into a block's bytes: noughts stay behind. -/
theorem copy_pad {d : List UInt8} (hd : d.length ≤ 64) (w : World) :
    ∃ wp, (Builtin.copy_ #[42, 9] 3 #[.slice (some ⟨w.heap.size, 0, none⟩) 64 64, .string (str d)]).run Tryd.prog (w.alloc (.cells (noughts 64) 5)) = .ok (.int .i64 (d.length : Int)) wp ∧ Row wp w.heap.size (u8s (pad d)) ∧ Below w.heap.size w wp := by
  have hnew : (w.alloc (.cells (noughts 64) 5)).heap[w.heap.size]? = some (.cells (noughts 64) 5 (0, 0)) := heap_alloc_new w _
  have hsz : (noughts 64).size = 64 := by simp [noughts, u8s]
  have h := Lib.run_copy_row_string (P := Tryd.prog) (w.alloc (.cells (noughts 64) 5)) 42 9 3 5 w.heap.size 0 64 64 (str d) (noughts 64) 5 Tryd.underlying42 u8_size hnew (by rw [str_size]; exact hd) (by rw [hsz, str_size]; omega)
  rw [str_size] at h
  refine ⟨_, h, ?_, below_setRow ((Below.refl _ _).alloc (Nat.le_refl _) _) (Nat.le_refl _) _⟩
  have hb := setRow_heap _ _ _ ((noughts 64).toList.take 0 ++ Lib.byteCells (str d).data.toList ++ (noughts 64).toList.drop (0 + d.length)).toArray _ _ hnew
  have := Row.of_blk hb
  have e : ((noughts 64).toList.take 0 ++ Lib.byteCells (str d).data.toList ++ (noughts 64).toList.drop (0 + d.length)).toArray.toList = u8s (pad d) := by
    rw [List.take_zero, List.nil_append, Nat.zero_add]
    rw [noughts_list, List.drop_replicate]
    unfold pad u8s str Lib.byteCells
    rw [List.map_append, List.map_replicate]
    rfl
  rw [e] at this
  exact this
theorem u8s_set (l : List UInt8) (i : Nat) (x : Nat) (hx : x < 256) : (u8s l).set i (.int .u8 (x : Int)) = u8s (l.set i (UInt8.ofNat x)) := by
  unfold u8s
  rw [List.map_set, UInt8.toNat_ofNat', Nat.mod_eq_of_lt hx]
theorem bts_set (h : List Nat) {k : Nat} (hk : k < 32) : (bts h k ++ List.replicate (32 - k) 0).set k (UInt8.ofNat (nat_ h (k / 4) / 256 ^ (k % 4) % 256)) = bts h (k + 1) ++ List.replicate (32 - (k + 1)) 0 := by
  obtain ⟨j, hj⟩ : ∃ j, 32 - k = j + 1 := ⟨31 - k, by omega⟩
  have hj2 : 32 - (k + 1) = j := by omega
  have hl := bts_len h k
  have e : UInt8.ofNat (nat_ h (k / 4) / 256 ^ (k % 4) % 256) = UInt8.ofNat (nat_ h (k / 4) / 256 ^ (k % 4)) := by
    apply UInt8.toNat_inj.1
    rw [UInt8.toNat_ofNat', UInt8.toNat_ofNat']; omega
  rw [hj, hj2, List.set_append, if_neg (by omega), hl, Nat.sub_self, List.replicate_succ, e]
  show _ = (bts h k ++ [_]) ++ _
  simp
theorem shr_byte (x t : Nat) : ((x : Int) / 2 ^ (t * 8)) % 256 = ((x / 256 ^ t % 256 : Nat) : Int) := by
  rw [show (256 : Nat) ^ t = 2 ^ (t * 8) by rw [show (256 : Nat) = 2 ^ 8 from rfl, ← Nat.pow_mul, Nat.mul_comm]]
  simp
/-- The answer of the sum. -/
def SumEnd (l : List UInt8) (w : World) (e : Ending) (w' : World) : Prop := e = .returned (.string (str (sumL l))) ∧ Below w.heap.size w w'

set_option maxHeartbeats 8000000 in
set_option maxRecDepth 100000 in
theorem sum_c (l : List UInt8) (hl : l.length < 1099511627776) (w : World) :
    Calls Tryd.prog 14 #[.string (str l)] w (SumEnd l w) := by
  have hsz := str_size
  go_enter Tryd.func14, Tryd.ntmps14
  go_wp2_with fail
  refine (begin_c _).mono ?_
  rintro e w1 ⟨rfl, hI, hb1⟩
  have c0 := hI.word (i := 0) (by decide)
  have f0 := hI.wfree (i := 0) (by decide)
  have x0 := u32_xor_nat (nat_ ivs 0) 16842784 (nat_lt ivs_wd 0) (by decide)
  rw [show ((16842784 : Nat) : Int) = 16842784 from rfl] at x0
  have hI2 := hI.wput (i := 0) (by decide) (nat_ ivs 0 ^^^ 16842784)
  rw [h0s_eq] at hI2
  have HI2 := Lib.hid hI2
  have HB2 := Lib.hid (hb1.setCell (p := ⟨w.heap.size, 0, none⟩) (Nat.le_refl _) (.int .u32 ((nat_ ivs 0 ^^^ 16842784 : Nat) : Int)))
  clear hI hI2 hb1
  unfold sl
  go_wp2_with fail
  have H2 := HI2.out
  have B2 := HB2.out
  generalize World.setCell w1 ⟨w.heap.size, 0, none⟩ (.int .u32 ((nat_ ivs 0 ^^^ 16842784 : Nat) : Int)) = w2 at H2 B2 ⊢
  clear HI2 HB2 c0 f0 x0
  go_loopw [3, 4] (fun hv av wr => ∃ (g n : Nat) (hh : List Nat), hv = .slice (some ⟨g, 0, none⟩) 8 8 ∧ av = .int .i64 (n : Int) ∧ n ≤ l.length ∧ hh.length = 8 ∧ Wd hh ∧ Row wr g (u32s hh) ∧ Hid (sumH h0s l 0 = sumH hh (l.drop n) n) ∧ Below w.heap.size w wr) (fun _ av _ => l.length - (intOf av).toNat)
  case atStart => exact ⟨_, 0, h0s, rfl, rfl, by omega, rfl, h0s_wd, H2, Lib.hid rfl, B2⟩
  case round =>
    clear H2 B2
    obtain ⟨g, n, hh, rfl, rfl, hn, hhl, hw, hR, hS, hB⟩ := hrel
    have hld : (l.drop n).length = l.length - n := List.length_drop ..
    by_cases hlt : n + 64 < l.length
    · have hcut := str_cut l n 64
      have htl : ((l.drop n).take 64).length = 64 := by rw [List.length_take, hld]; omega
      have hS2 := Lib.hid (sumH_more (h := hh) (l := l.drop n) (n := n) (by omega))
      obtain ⟨m, hm⟩ : ∃ m, m = (l.drop n).take 64 := ⟨_, rfl⟩
      rw [← hm] at hcut htl hS2
      have HM := Lib.hid hm
      have HL := Lib.hid htl
      clear hm htl hld
      have hcv := run_bytes_of_string (P := Tryd.prog) wr 9 42 5 (str m) Tryd.underlying9 Tryd.underlying42 Tryd.underlying5
      have hsl := str_slice (l := l) (a := n) (b := n + 64) (by omega) (by omega) (n : Int) ((n : Int) + 64) rfl (by omega) wr
      rw [hcut] at hsl
      clear hcut
      have hrow := bytes_row (w := wr) (l := m) (c := grownCap wr (str m).size 0 5) (lo := (bytesRow (str m) (grownCap wr (str m).size 0 5)).size) (hi := (bytesRow (str m) (grownCap wr (str m).size 0 5)).size + 1) (e := 5) (by simp [bytesRow, str])
      have hbel : Below wr.heap.size wr (wr.drew.alloc (.cells (bytesRow (str m) (grownCap wr (str m).size 0 5)) 5 ((bytesRow (str m) (grownCap wr (str m).size 0 5)).size, (bytesRow (str m) (grownCap wr (str m).size 0 5)).size + 1))) := ((Below.refl _ _).drew).alloc (Nat.le_refl _) _
      have hR2 := hR.below hbel hR.lt
      generalize hWB : (wr.drew.alloc (.cells (bytesRow (str m) (grownCap wr (str m).size 0 5)) 5 ((bytesRow (str m) (grownCap wr (str m).size 0 5)).size, (bytesRow (str m) (grownCap wr (str m).size 0 5)).size + 1))) = wb at hrow hbel hcv hR2
      rw [show (str m).size = 64 by rw [str_size]; exact HL.out] at hcv
      generalize grownCap wr 64 0 5 = cp at hcv
      clear hWB
      go_wp2_with fail
      refine (words_any cp (l := m) HL.out _ hrow).mono ?_
      rintro e wc ⟨rfl, hMw, hbc⟩
      have hR3 := hR2.below hbc hR2.lt
      have hBL := block_c (gm := wb.heap.size) hhl (wds_len (nums m)) hw (wds_wd (nums_lt m)) (n + 64) (by omega) false wc hR3 hMw
      rw [show ((n + 64 : Nat) : Int) = (n : Int) + 64 by omega] at hBL
      unfold sl at hBL
      have HBL := Lib.hid hBL
      clear hBL
      go_wp2_with fail
      refine HBL.out.mono ?_
      rintro e we ⟨g', rfl, hg', hR4, hbe⟩
      unfold sl
      have hB4 := hB.trans ((hbel.trans ((hbc.trans (hbe.mono hbc.size)).mono hbel.size)).mono hB.size)
      have hS4 : Hid (sumH h0s l 0 = sumH (blk hh (wds (nums m)) (n + 64) false) (l.drop (n + 64)) (n + 64)) := Lib.hid (by rw [hS.out, hS2.out, List.drop_drop])
      have hw4 := blk_wd (wds (nums m)) false hw (show n + 64 < 18446744073709551616 by omega)
      clear hcv hsl hrow hbel hR2 hR3 hMw hbc hbe hB HBL hS hS2 hR
      go_wp2_with fail
      go_roundw
      case rel => first | exact ⟨g', n + 64, _, rfl, by go_num, by omega, blk_len .., hw4, hR4, hS4, hB4⟩ | ((repeat apply Exists.intro); refine ⟨⟨g', n + 64, _, rfl, ?_, by omega, blk_len .., hw4, hR4, hS4, hB4⟩, rfl⟩; go_num)
      case measure => simp [intOf]; omega
    · have hlen : (l.drop n).length ≤ 64 := by omega
      have hS2 := Lib.hid (hS.out.trans (sumH_last (h := hh) (l := l.drop n) (n := n) (by omega)))
      have hm64 := make64n wr
      have hdr := str_drop l n
      obtain ⟨d, hd⟩ : ∃ d, d = l.drop n := ⟨_, rfl⟩
      rw [← hd] at hdr hlen hS2 hld
      have HD := Lib.hid hd
      obtain ⟨wp, hrun, hP, hbp⟩ := copy_pad hlen wr
      have hR2 := hR.below hbp hR.lt
      have hpl := pad_len hlen
      have HLD := Lib.hid hld
      clear hd hld
      go_wp2_with fail
      refine (words_any 64 (l := pad d) hpl _ hP).mono ?_
      rintro e wc ⟨rfl, hMw, hbc⟩
      have hR3 := hR2.below hbc hR2.lt
      have hBL := block_c (gm := wp.heap.size) hhl (wds_len (nums (pad d))) hw (wds_wd (nums_lt (pad d))) l.length (by omega) true wc hR3 hMw
      unfold sl at hBL
      have HBL := Lib.hid hBL
      clear hBL hrun hm64 hdr
      go_wp2_with fail
      refine HBL.out.mono ?_
      rintro e we ⟨g', rfl, hg', hR4, hbe⟩
      unfold sl
      have hB4 := hB.trans ((hbp.trans ((hbc.trans (hbe.mono hbc.size)).mono hbp.size)).mono hB.size)
      have hS4 : Hid (sumH h0s l 0 = blk hh (wds (nums (pad d))) l.length true) := Lib.hid (by rw [hS2.out, HLD.out]; congr 1; omega)
      have hw4 := blk_wd (wds (nums (pad d))) true hw (show l.length < 18446744073709551616 by omega)
      have hl4 := blk_len hh (wds (nums (pad d))) l.length true
      rw [← hS4.out] at hR4 hw4 hl4
      clear hP hbp hR2 hR3 hMw hbc hbe hB HBL hS hS2 hR hS4
      obtain ⟨V, HV⟩ : ∃ V, Hid (V = sumH h0s l 0) := ⟨_, Lib.hid rfl⟩
      rw [← HV.out] at hR4 hw4 hl4
      generalize we = w20 at *
      have hm32 := make32n w20
      have hgl := hR4.lt
      go_wp2_with fail
      go_loopw [7] (fun iv wr => ∃ k : Nat, k ≤ 32 ∧ iv = .int .i64 k ∧ Row wr g' (u32s V) ∧ Row wr w20.heap.size (u8s (bts V k ++ List.replicate (32 - k) 0)) ∧ Below w.heap.size w wr) (fun iv _ => 32 - (intOf iv).toNat)
      case atStart => exact ⟨0, by omega, rfl, hR4.alloc _, Row.of_blk (Blk.new _ _ _), hB4.alloc hB4.size _⟩
      case round =>
        clear hR4 hm32
        obtain ⟨k, hk, rfl, h1, h2, h3⟩ := hrel
        by_cases hlt : k < 32
        · have c1 := h1.word (i := k / 4) (by omega)
          have hlb : (bts V k ++ List.replicate (32 - k) (0 : UInt8)).length = 32 := by rw [List.length_append, bts_len, List.length_replicate]; omega
          have c2 := h2.cell k _ (u8s_at (by omega))
          have f2 := h2.free k (by rw [u8s_len]; omega)
          have hsh := shr_byte (nat_ V (k / 4)) (k % 4)
          have hput := h2.put (i := k) (by rw [u8s_len]; omega) (.int .u8 ((nat_ V (k / 4) / 256 ^ (k % 4) % 256 : Nat) : Int))
          rw [u8s_set _ _ _ (Nat.mod_lt _ (by omega)), bts_set V hlt] at hput
          have hfar := h1.far (p := ⟨w20.heap.size, k, none⟩) (by show g' ≠ w20.heap.size; omega) (.int .u8 ((nat_ V (k / 4) / 256 ^ (k % 4) % 256 : Nat) : Int))
          have hbel := h3.setCell (p := ⟨w20.heap.size, k, none⟩) hB4.size (.int .u8 ((nat_ V (k / 4) / 256 ^ (k % 4) % 256 : Nat) : Int))
          have ec : ((nat_ V (k / 4) / 256 ^ (k % 4) % 256 : Nat) : Int) = (nat_ V (k / 4) : Int) / 256 ^ (k % 4) % 256 := by simp
          rw [ec] at hput hfar hbel hsh
          have HP := Lib.hid hput
          have H1 := Lib.hid hfar
          have H3 := Lib.hid hbel
          clear hput hfar hbel h1 h2 h3 ec
          go_wp2_with fail
          go_roundw
          case rel => exact ⟨k + 1, by omega, by go_num, H1.out, HP.out, H3.out⟩
          case measure => simp [intOf]; omega
        · obtain rfl : k = 32 := by omega
          have hlb : (bts V 32).length = 32 := bts_len V 32
          have hcv : ∀ cap, (convert 42 9 (.slice (some ⟨w20.heap.size, 0, none⟩) 32 cap)).run Tryd.prog wr = .ok (.string (str (bts V 32))) wr := by
            intro cap
            have h := run_convert_bytes_back wr 42 9 5 ⟨w20.heap.size, 0, none⟩ cap (bts V 32) Tryd.underlying42 Tryd.underlying5 Tryd.underlying9 (fun j hj => by
              refine (h2.adds j _ ?_)
              unfold u8s
              rw [List.getElem?_map, List.getElem?_append_left hj, List.getElem?_eq_getElem hj]
              rfl)
            rw [hlb] at h
            exact h
          have HE : Hid (sumL l = bts V 32) := Lib.hid (by unfold sumL; rw [HV.out])
          have H3 := Lib.hid h3
          clear h1 h2 h3 hlb
          go_wp2_with fail
          go_ret
          exact ⟨by rw [HE.out]; rfl, H3.out⟩
end Go.Proofs.YtccaomaobokldaaDoor.Wirey
