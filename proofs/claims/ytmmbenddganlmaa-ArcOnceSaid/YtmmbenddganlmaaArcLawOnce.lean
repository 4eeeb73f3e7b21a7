/- Layer 7 (arc): for every input the call returns true and leaves what it was given as it was: of keys that are asked for once each the last ones are kept, as many as there may be; the others go in the order in which they came (ArcOnce). No condition. -/
import Derived.Test.YtmmbenddganlmaaKit
import Derived.Test.YtmmbenddganlmaaArcLawScan
import Derived.BigRegion
namespace Go.Proofs.Ytmmbenddganlmaa.Arcy
open Go.ChangeShapes Go.WideShapes Go.ChangeAt Go.RowKit
open Wirey (Blk Row str str_size str_list str_of str_take Kp)
open Ringy Go.Shelf Go.ChangeMaps Go.Maps

/-- The keys that are asked for once; the last ones, the latest first. -/
def ok1 (i : Nat) : Key := [UInt8.ofNat i, 107]
def win (n i : Nat) : List Key := (List.range (min i n)).map fun j => ok1 (i - 1 - j)
theorem ok1_inj {i j : Nat} (hi : i < 256) (hj : j < 256) (h : ok1 i = ok1 j) : i = j := by
  unfold ok1 at h
  injection h with h1 _
  have := congrArg UInt8.toNat h1
  simp only [UInt8.toNat_ofNat'] at this
  omega
theorem win_len (n i : Nat) : (win n i).length = min i n := by unfold win; simp
theorem win_mem {n i : Nat} {x : Key} : x ∈ win n i ↔ ∃ j, j < i ∧ i ≤ j + n ∧ x = ok1 j := by
  unfold win
  rw [List.mem_map]
  constructor
  · rintro ⟨j, hj, rfl⟩
    rw [List.mem_range] at hj
    exact ⟨i - 1 - j, by omega, by omega, rfl⟩
  · rintro ⟨j, h1, h2, rfl⟩
    exact ⟨i - 1 - j, List.mem_range.2 (by omega), by congr 1; omega⟩
theorem win_next (n i : Nat) (hn : 1 ≤ n) : win n (i + 1) = ok1 i :: (List.range (min i (n - 1))).map fun j => ok1 (i - 1 - j) := by
  unfold win
  have e : min (i + 1) n = min i (n - 1) + 1 := by omega
  rw [e, List.range_succ_eq_map, List.map_cons, List.map_map]
  refine congr (congrArg List.cons ?_) (List.map_congr_left fun j _ => ?_)
  · show ok1 (i + 1 - 1 - 0) = ok1 i
    rfl
  · show ok1 (i + 1 - 1 - (j + 1)) = ok1 (i - 1 - j)
    congr 1
    omega
theorem win_last {n i : Nat} (hn : 1 ≤ n) (h : n ≤ i) : win n i = ((List.range (n - 1)).map fun j => ok1 (i - 1 - j)) ++ [ok1 (i - n)] := by
  unfold win
  have e : min i n = (n - 1) + 1 := by omega
  rw [e, List.range_succ, List.map_append]
  refine congrArg _ ?_
  show [ok1 (i - 1 - (n - 1))] = [ok1 (i - n)]
  congr 2
  omega
structure Once (v : Av) (n i : Nat) : Prop where
  ok : v.Ok
  mo : v.most = n
  t0 : v.tgt = 0
  l0 : v.rg.l 0 = win n i
  l1 : v.rg.l 1 = []
  l2 : v.rg.l 2 = []
  l3 : v.rg.l 3 = []
/-- What goes for the key i. -/
def goes (n i : Nat) : List Key := if i < n then [] else [ok1 (i - n)]
theorem once_next {v : Av} {n i : Nat} (h : Once v n i) (hi : i < 128) : Once (v.insert (ok1 i)) n (i + 1) ∧ v.insertK (ok1 i) = goes n i := by
  have hn := h.ok.m1
  rw [h.mo] at hn
  have hno : v.at_ (ok1 i) = none := by
    have hw : ok1 i ∉ win n i := fun hm => by
      obtain ⟨j, hj, -, e⟩ := win_mem.1 hm
      have := ok1_inj (by omega) (by omega) e
      omega
    unfold Av.at_
    rw [h.l0, h.l1, h.l2, h.l3, if_neg hw, if_neg List.not_mem_nil, if_neg List.not_mem_nil, if_neg List.not_mem_nil]
  have hlen : (ok1 i).length = 2 := rfl
  have hspec := Av.ins_spec h.ok (k := ok1 i) (by rw [hlen]; omega)
  have e1 : v.insert (ok1 i) = v.ins (ok1 i) := by unfold Av.insert; rw [if_neg (by rw [hlen]; omega)]
  have e2 : v.insertK (ok1 i) = v.insK (ok1 i) := by unfold Av.insertK; rw [if_neg (by rw [hlen]; omega)]
  have e3 : v.ins (ok1 i) = v.fresh.fr 0 (ok1 i) := by unfold Av.ins; rw [hno]
  have e4 : v.insK (ok1 i) = v.freshK := by unfold Av.insK; rw [hno]
  have z0 : v.len 0 = min i n := by unfold Av.len; rw [h.l0, win_len]
  have z1 : v.len 1 = 0 := by unfold Av.len; rw [h.l1]; rfl
  have z2 : v.len 2 = 0 := by unfold Av.len; rw [h.l2]; rfl
  have z3 : v.len 3 = 0 := by unfold Av.len; rw [h.l3]; rfl
  rw [e3] at hspec
  have hno2 := Av.fresh_no h.ok (Av.at_none hno)
  rw [e1, e2, e3, e4]
  have hwn := win_next n i hn
  by_cases hlt : i < n
  · have zo : v.one = min i n := by unfold Av.one; rw [z0, z2]; rfl
    have za : v.all = min i n := by unfold Av.all; rw [z0, z1, z2, z3]; rfl
    have zk : v.kept = min i n := by unfold Av.kept; rw [z0, z1]; rfl
    have sh : v.shut = v := by
      unfold Av.shut
      rw [zo, za, h.mo, if_neg (by omega), if_neg (by omega)]
    have f1 : v.fresh = v := by
      unfold Av.fresh
      rw [sh, z0, h.mo, if_neg (by omega)]
      unfold Av.room
      rw [zk, h.mo, if_pos (by omega)]
    have f2 : v.freshK = [] := by
      unfold Av.freshK
      rw [sh, z0, h.mo, if_neg (by omega)]
      unfold Av.roomK
      rw [zk, h.mo, if_pos (by omega)]
    rw [f1] at hspec hno2 ⊢
    rw [f2]
    refine ⟨⟨hspec.ok, h.mo, h.t0, ?_, (fr_l1 (by omega) (hno2 1 (by omega))).trans h.l1, (fr_l1 (by omega) (hno2 2 (by omega))).trans h.l2, (fr_l1 (by omega) (hno2 3 (by omega))).trans h.l3⟩, ?_⟩
    · show (if 0 = 0 then ok1 i :: strike (ok1 i) (v.rg.l 0) else strike (ok1 i) (v.rg.l 0)) = _
      rw [if_pos rfl, strike_of_not (hno2 0 (by omega)), h.l0, hwn]
      unfold win
      rw [show min i n = min i (n - 1) by omega]
    · unfold goes
      rw [if_pos hlt]
  · have hl : v.last 0 = some (ok1 (i - n)) := by
      unfold Av.last
      rw [h.l0, win_last hn (by omega)]
      simp
    have f1 : v.fresh = v.dr (ok1 (i - n)) := by
      unfold Av.fresh
      rw [z0, h.mo, if_pos (by omega)]
      unfold Av.forget
      rw [hl]
    have f2 : v.freshK = [ok1 (i - n)] := by
      unfold Av.freshK
      rw [z0, h.mo, if_pos (by omega), hl]
      rfl
    rw [f1] at hspec hno2 ⊢
    rw [f2]
    have g0 : (v.dr (ok1 (i - n))).rg.l 0 = (List.range (n - 1)).map fun j => ok1 (i - 1 - j) := by
      have hnd := h.ok.nd (i := 0) (by omega)
      show strike (ok1 (i - n)) (v.rg.l 0) = _
      rw [h.l0, win_last hn (by omega)] at hnd ⊢
      rw [strike_split hnd, List.append_nil]
    have g1 : ∀ t, v.rg.l t = [] → (v.dr (ok1 (i - n))).rg.l t = [] := fun t ht => by
      show strike _ (v.rg.l t) = []
      rw [ht]; rfl
    refine ⟨⟨hspec.ok, h.mo, h.t0, ?_, (fr_l1 (by omega) (hno2 1 (by omega))).trans (g1 1 h.l1), (fr_l1 (by omega) (hno2 2 (by omega))).trans (g1 2 h.l2), (fr_l1 (by omega) (hno2 3 (by omega))).trans (g1 3 h.l3)⟩, ?_⟩
    · show (if 0 = 0 then ok1 i :: strike (ok1 i) ((v.dr (ok1 (i - n))).rg.l 0) else strike (ok1 i) ((v.dr (ok1 (i - n))).rg.l 0)) = _
      rw [if_pos rfl, strike_of_not (hno2 0 (by omega)), g0, hwn, show min i (n - 1) = n - 1 by omega]
    · unfold goes
      rw [if_neg hlt]
theorem once_start {n : Nat} (h1 : 1 ≤ n) (h2 : n ≤ 1000) : Once (Av.new n) n 0 := ⟨Av.new_ok h1 h2, rfl, rfl, by unfold win; rw [Nat.zero_min]; rfl, rfl, rfl, rfl⟩
theorem Once.has {v : Av} {n m i : Nat} (h : Once v n m) (hi : i < m) (hm : m ≤ 128) : v.has (ok1 i) = decide (m ≤ i + n) := by
  refine Av.has_of ?_
  rw [h.l0, h.l1, win_mem, decide_eq_true_eq]
  constructor
  · rintro (⟨j, hj, h2, e⟩ | h)
    · have := ok1_inj (by omega) (by omega) e
      omega
    · exact absurd h List.not_mem_nil
  · exact fun h2 => .inl ⟨i, hi, h2, rfl⟩
theorem Once.kept {v : Av} {n m : Nat} (h : Once v n m) : v.kept = min n m := by
  unfold Av.kept Av.len
  rw [h.l0, h.l1, win_len]
  simp [Nat.min_comm]
theorem key2 (W : World) {i : Nat} (hi : i < 256) : (convert 67 9 (.slice (some ⟨W.heap.size, 0, none⟩) 2 2)).run Try.prog (W.alloc (.cells #[.int .u8 (i : Int), .int .u8 107] 5)) = .ok (.string (str (ok1 i))) (W.alloc (.cells #[.int .u8 (i : Int), .int .u8 107] 5)) := by
  refine Wirey.row_str W (ok1 i) _ ?_ 2
  unfold ok1
  have h1 : (UInt8.ofNat i).toNat = i := by simp; omega
  simp only [List.map_cons, List.map_nil, h1]
  rfl
theorem key2d (W : World) {i : Nat} (hi : i < 256) : (convert 67 9 (.slice (some ⟨W.heap.size, 0, none⟩) 2 2)).run Try.prog (W.alloc (.cells #[.int .u8 (i : Int), .int .u8 107] 5)).drew = .ok (.string (str (ok1 i))) (W.alloc (.cells #[.int .u8 (i : Int), .int .u8 107] 5)).drew := by
  refine run_convert_bytes_back _ 67 9 5 ⟨W.heap.size, 0, none⟩ 2 (ok1 i) Try.underlying67 Try.underlying5 Try.underlying9 ?_
  intro j hj
  have h1 : (UInt8.ofNat i).toNat = i := by simp; omega
  have hb := Blk_drew (Blk.new W 5 #[.int .u8 (i : Int), .int .u8 107])
  have e : (⟨W.heap.size, 0, none⟩ : Addr).add j = ⟨W.heap.size, j, none⟩ := by unfold Addr.add; by_cases h : j = 0 <;> simp [h]
  rw [e, hb.cell j]
  have hj : j < 2 := hj
  rcases (by omega : j = 0 ∨ j = 1) with rfl | rfl
  · show some (Value.int .u8 (i : Int)) = some (Value.int .u8 ((UInt8.ofNat i).toNat : Int))
    rw [h1]
  · rfl
set_option maxHeartbeats 40000000 in
set_option maxRecDepth 100000 in
theorem arcOnce_walk (a0 : Int) (_w0 : (Lit.int .i64 a0).wf = true) (a1 : Int) (_w1 : (Lit.int .i64 a1).wf = true) (w : World) :
    Calls Try.prog 9 #[.int .i64 a0, .int .i64 a1] w fun e w' => e = .returned (.bool true) ∧ Below w.heap.size w w' := by
  obtain ⟨x, hx, hx2⟩ := and_nat a0 31 5 (by decide) (by omega)
  have hx : bits .and .i64 a0 31 = (x : Int) := hx
  obtain ⟨y, hy, hy2⟩ := and_nat a1 127 7 (by decide) (by omega)
  have hy : bits .and .i64 a1 127 = (y : Int) := hy
  have hN := newA_c (n := 1 + x) (by omega) (by omega) w
  rw [Int.natCast_add] at hN
  have hS0 := once_start (n := 1 + x) (by omega) (by omega)
  go_enter Try.func9, Try.ntmps9
  go_wp2_with fail
  refine hN.mono ?_
  rintro e w1 ⟨A, m, rfl, h1⟩
  go_wp2_with fail
  refine (awakeA_c _).mono ?_
  rintro e w2 ⟨rfl, hb2⟩
  have h2 := h1.later hb2 (Nat.le_refl _)
  clear h1 hb2 hN
  go_wp2_with fail
  go_loopw [9] (fun i wr => ∃ (j : Nat) (m : Rm) (v : Av), j ≤ y ∧ i = .int .i64 j ∧ HeldA w A (w.heap.size + 2) wr m v ∧ Once v (1 + x) j) (fun i _ => y - (intOf i).toNat)
  case atStart => exact ⟨0, _, _, by omega, rfl, h2, hS0⟩
  case round =>
    obtain ⟨j, m, v, hj, rfl, hH, hS⟩ := hrel
    clear h2 hS0
    by_cases hlt : j < y
    · have d1 : decide ((j : Int) < (y : Int)) = true := decide_eq_true (by omega)
      have hcv := fun W : World => key2 W (i := j) (by omega)
      have hsk : (ok1 j).length ≤ maxLen := by unfold maxLen ok1; simp
      obtain ⟨hn, hg⟩ := once_next hS (by omega)
      have hi := fun W (hW : HeldA w A (w.heap.size + 2) W m v) => insert_c (k := ok1 j) hsk hW
      rw [hg] at hi
      have hA := hH.alloc (.cells #[.int .u8 (j : Int), .int .u8 107] 5)
      go_wp2_with fail
      refine (hi _ hA).mono ?_
      rintro e w5 ⟨val, m5, rfl, h5, -, hT⟩
      clear hcv hsk hA hS hH hg hi
      unfold goes at hT
      by_cases hjn : j < 1 + x
      · rw [if_pos hjn] at hT
        obtain ⟨va, vc, rfl⟩ := hT.form
        have e1 : decide ((j : Int) < 1 + (x : Int)) = true := decide_eq_true (by omega)
        have e2 : decide (1 + (x : Int) ≤ (j : Int)) = false := decide_eq_false (by omega)
        clear hT
        go_wp2_with fail
        go_region
        all_goals
          go_wp2_with fail
          go_roundw
          case rel => exact ⟨j + 1, m5, _, by omega, by simp, (by first | exact h5.drew | exact (h5.alloc _).drew | exact h5.drew.alloc _ | exact (h5.drewN _).alloc _ | exact (h5.alloc _).drewN _), hn⟩
          case measure => simp [intOf]; omega
      · rw [if_neg hjn] at hT
        obtain ⟨g, c, rfl, hc⟩ := hT.first
        have hgl : g < w5.heap.size := (hT.row.lt g rfl).2
        have hca := fun o : Obj => (((Below.refl _ w5).alloc (Nat.le_refl _) o).cell (p := ⟨g, 0, none⟩) hgl).trans hc
        have e1 : decide ((j : Int) < 1 + (x : Int)) = false := decide_eq_false (by omega)
        have e2 : decide (1 + (x : Int) ≤ (j : Int)) = true := decide_eq_true (by omega)
        clear hT
        have hx1 : IntKind.i64.wrap ((j : Int) - (1 + (x : Int))) = ((j - (1 + x) : Nat) : Int) := by rw [IntKind.wrap_i64]; omega
        have hcd := key2d w5 (i := j - (1 + x)) (by omega)
        have hcw := key2 w5 (i := j - (1 + x)) (by omega)
        have hjl : j - (1 + x) < 256 := by omega
        generalize j - (1 + x) = q at *
        have hx2' : IntKind.u8.wrap (q : Int) = (q : Int) := by rw [IntKind.wrap_u8]; omega
        go_wp2_with fail
        go_region
        all_goals
          go_wp2_with fail
          go_roundw
          case rel => exact ⟨j + 1, m5, _, by omega, by simp, (by first | exact h5.drew | exact (h5.alloc _).drew | exact h5.drew.alloc _ | exact (h5.drewN _).alloc _ | exact (h5.alloc _).drewN _), hn⟩
          case measure => simp [intOf]; omega
    · obtain rfl : j = y := by omega
      have d1 : decide ((j : Int) < (j : Int)) = false := decide_eq_false (by omega)
      go_wp2_with fail
      go_loopw [11] (fun i wr => ∃ (t : Nat), t ≤ j ∧ i = .int .i64 t ∧ HeldA w A (w.heap.size + 2) wr m v) (fun i _ => j - (intOf i).toNat)
      case atStart => exact ⟨0, by omega, rfl, hH⟩
      case round =>
        obtain ⟨t, ht, rfl, hH2⟩ := hrel
        clear hH
        by_cases hlt2 : t < j
        · have d2 : decide ((t : Int) < (j : Int)) = true := decide_eq_true (by omega)
          have hcv := fun W : World => key2 W (i := t) (by omega)
          have hsk : (ok1 t).length ≤ maxLen := by unfold maxLen ok1; simp
          have hA := hH2.alloc (.cells #[.int .u8 (t : Int), .int .u8 107] 5)
          have hh := has_c hsk hA
          have hb : v.has (ok1 t) = decide ((j : Int) - (1 + (x : Int)) ≤ (t : Int)) := by
            rw [hS.has hlt2 (by omega), Bool.eq_iff_iff, decide_eq_true_eq, decide_eq_true_eq]
            omega
          rw [hb] at hh
          clear hb hS hH2
          go_wp2_with fail
          refine hh.mono ?_
          rintro e w' ⟨rfl, rfl⟩
          go_wp2_with fail
          go_roundw
          case rel => exact ⟨t + 1, by omega, by simp, hA⟩
          case measure => simp [intOf]; omega
        · have d2 : decide ((t : Int) < (j : Int)) = false := decide_eq_false (by omega)
          have h9 := target_c hH2
          rw [hS.t0] at h9
          have h8 := lenA_c hH2
          rw [hS.kept] at h8
          have hmin : ((min (1 + x) j : Nat) : Int) = if (j : Int) < 1 + (x : Int) then (j : Int) else 1 + (x : Int) := by split <;> omega
          rw [hmin] at h8
          clear hmin
          go_wp2_with fail
          refine h9.mono ?_
          rintro e w' ⟨rfl, rfl⟩
          go_wp2_with fail
          refine h8.mono ?_
          rintro e w' ⟨rfl, o, rfl⟩
          go_wp2_with fail
          all_goals
            go_ret
            exact ⟨by first | rfl | simp, (hH2.alloc o).below⟩
set_option linter.unusedVariables false in
set_option maxRecDepth 100000 in
theorem arcOnce_lifted (os : Os) (started : os.Started) (H : Type) (enc : TypeId × Value → H) :
    ReturnsInHanded {} Try.checked os 9 .any (Rows.arcOnceSpec.pre6 enc Try.prog Try.f9 Rows.arcOnceRow.domain false) (Rows.arcOnceSpec.post enc Try.prog Try.f9 false true false false) := by
  refine returnsInHanded_of_change (C := Try.checked) Kit.own started (by kernel_rfl) Try.func9
    (ChangeSpec.witness6 (enc := enc) (C := Try.checked) false ⟨#[], #[.int .i64 0, .int .i64 0], []⟩ 8 (by kernel_rfl) (by kernel_rfl) (by kernel_rfl) (by kernel_rfl)) ?_
  intro W base args ds gs before hval0 hW hcnd _
  have hval : ∀ (j : Nat) t v, Try.f9.params[j]? = some t → args[j]? = some v → Value.okWide Try.prog W .any base t v := hval0
  have hW' := hW
  obtain ⟨p, q, hA0, hV, rfl, hfz, hnd⟩ := hW
  have hA : DataW.TrodAll enc Try.prog W 0 (fun _ => true) true Try.f9.params.toList args.toList ds p := hA0
  rw [Try.params9] at hA hval
  obtain ⟨v0, vs0, d0, ds0, p0, q0, hargs, rfl, rfl, h0, r0⟩ := trodAll_cons hA
  obtain ⟨v1, vs1, d1, ds1, p1, q1, rfl, rfl, rfl, h1, r1⟩ := trodAll_cons r0
  obtain ⟨rfl, rfl, rfl⟩ := trodAll_nil r1
  obtain ⟨rfl, rfl⟩ := trodVars_none hV
  obtain rfl : args = #[v0, v1] := by cases args; simp_all
  obtain ⟨a0, rfl, rfl, rfl, w0⟩ := open_int Try.underlying3 (hval 0 3 v0 rfl rfl) h0
  obtain ⟨a1, rfl, rfl, rfl, w1⟩ := open_int Try.underlying3 (hval 1 3 v1 rfl rfl) h1
  clear hA0 hval0
  refine (arcOnce_walk a0 w0 a1 w1 W).mono fun e W' ⟨he, hg⟩ => ?_
  subst he
  exact ⟨_, rfl, Kit.law_post hW' rfl (by kernel_rfl) rfl (by kernel_rfl) hg⟩

theorem arcOnce_over : Rows.arcOnceRow.holds Try.pinned (OpenSpec.ofChange Rows.arcOnceSpec) :=
  OpenClaim.holds_of_wide 9 Try.f9 rfl rfl rfl rfl rfl rfl rfl ⟨rfl, rfl, rfl, rfl, rfl⟩ rfl rfl rfl rfl rfl (by kernel_rfl) Try.func9 (by kernel_rfl)
    (of_decide_eq_true (by kernel_rfl)) (by unfold Func.isWrapper; first | (rw [if_pos (by decide +kernel)]; kernel_rfl) | (rw [if_neg (by decide +kernel)]; exact ⟨rfl, rfl⟩))
    (fun os started H enc _ => arcOnce_lifted os started H enc)

theorem arcOnce_holds : Rows.ArcOnceSaid :=
  arcOnce_over

end Go.Proofs.Ytmmbenddganlmaa.Arcy
