/- Layer 7 (arc): for every input the call returns true and leaves what it was given as it was: keys that are asked for once, however many, do not drive out one that was asked for more often, while the target is 0 (ArcScan). No condition. -/
import Derived.Test.YtmmbenddganlmaaKit
import Derived.Test.YtmmbenddganlmaaArcLawNone
namespace Go.Proofs.Ytmmbenddganlmaa.Arcy
open Go.ChangeShapes Go.WideShapes Go.ChangeAt Go.RowKit
open Wirey (Blk Row str str_size str_list str_of str_take Kp)
open Ringy Go.Shelf Go.ChangeMaps Go.Maps

/-- The key that stays; the keys that are asked for once. -/
def kpt : Key := [107, 101, 112, 116]
def sk (i : Nat) : Key := [UInt8.ofNat i, UInt8.ofNat (i / 16), 115]
theorem sk_ne (i : Nat) : sk i ≠ kpt := by unfold sk kpt; simp
theorem sk_inj {i j : Nat} (hi : i < 256) (hj : j < 256) (h : sk i = sk j) : i = j := by
  unfold sk at h
  injection h with h1 _
  have := congrArg UInt8.toNat h1
  simp only [UInt8.toNat_ofNat'] at this
  omega
structure Scan (v : Av) (i : Nat) : Prop where
  ok : v.Ok
  m2 : 2 ≤ v.most
  t0 : v.tgt = 0
  l1 : v.rg.l 1 = [kpt]
  old : ∀ t x, t < 4 → x ∈ v.rg.l t → x = kpt ∨ ∃ j, j < i ∧ x = sk j
section
variable {v : Av} {k : Key} {i : Nat}
theorem dr_l1 {t : Nat} (hk : k ∉ v.rg.l t) : (v.dr k).rg.l t = v.rg.l t := strike_of_not hk
theorem fr_l1 {j t : Nat} (hj : t ≠ j) (hk : k ∉ v.rg.l t) : (v.fr j k).rg.l t = v.rg.l t := by
  show (if t = j then k :: strike k (v.rg.l t) else strike k (v.rg.l t)) = v.rg.l t
  rw [if_neg hj, strike_of_not hk]
theorem forget_l1 (h : v.Ok) {t u : Nat} (ht : t < 4) (hu : u < 4) (hne : t ≠ u) : (v.forget u).rg.l t = v.rg.l t := by
  unfold Av.forget
  cases e : v.last u with
  | none => rfl
  | some k => exact dr_l1 fun hm => hne (h.dj ht hu hm (Av.last_mem e))
theorem shut_l (h : v.Ok) {t : Nat} (ht : t < 2) : v.shut.rg.l t = v.rg.l t ∧ v.shut.tgt = v.tgt ∧ v.shut.most = v.most := by
  unfold Av.shut
  split
  · exact ⟨forget_l1 h (by omega) (by omega) (by omega), by unfold Av.forget; split <;> rfl, by unfold Av.forget; split <;> rfl⟩
  · split
    · exact ⟨forget_l1 h (by omega) (by omega) (by omega), by unfold Av.forget; split <;> rfl, by unfold Av.forget; split <;> rfl⟩
    · exact ⟨rfl, rfl, rfl⟩
theorem Scan.next (h : Scan v i) (hi : i < 256) : Scan (v.insert (sk i)) (i + 1) := by
  have hno : v.at_ (sk i) = none := by
    cases e : v.at_ (sk i) with
    | none => rfl
    | some t =>
      obtain ⟨ht, hm⟩ := Av.at_some e
      rcases h.old t _ ht hm with e | ⟨j, hj, e⟩
      · exact absurd e (sk_ne i)
      · have := sk_inj hi (by omega) e; omega
  have hlen : (sk i).length = 3 := rfl
  have hins : v.insert (sk i) = v.fresh.fr 0 (sk i) := by
    unfold Av.insert Av.ins
    rw [if_neg (by rw [hlen]; omega), hno]
  have hl1 : v.len 1 = 1 := by unfold Av.len; rw [h.l1]; rfl
  have hkp := h.ok.kept
  unfold Av.kept at hkp
  have hm2 := h.m2
  have hfr : v.fresh = v.shut.room false := by unfold Av.fresh; rw [if_neg (by omega)]
  obtain ⟨s0, -, -⟩ := shut_l h.ok (t := 0) (by omega)
  obtain ⟨s1, s2, s3⟩ := shut_l h.ok (t := 1) (by omega)
  have hsok := (Av.shut_spec h.ok (by omega)).1
  have hroom : (v.shut.room false).rg.l 1 = [kpt] ∧ (v.shut.room false).tgt = 0 ∧ (v.shut.room false).most = v.most := by
    unfold Av.room
    by_cases e : v.shut.kept < v.shut.most
    · rw [if_pos e]
      exact ⟨s1.trans h.l1, s2.trans h.t0, s3⟩
    · rw [if_neg e]
      have e0 : v.shut.len 0 = v.len 0 := by unfold Av.len; rw [s0]
      have e1 : v.shut.len 1 = 1 := by unfold Av.len; rw [s1]; exact hl1
      have e2 : 0 < v.shut.len 0 := by unfold Av.kept at e; omega
      have hon : v.shut.once false = true := by
        unfold Av.once
        rw [s2, h.t0, decide_eq_true e2]
        simp
      have hsrc : v.shut.src false = 0 := by unfold Av.src; rw [if_pos hon]
      obtain ⟨k, hk⟩ := Av.last_of e2
      have hrp : v.shut.repl false = v.shut.fr 2 k := by unfold Av.repl; rw [hsrc, hk]
      rw [hrp]
      refine ⟨(fr_l1 (by omega) fun hm => ?_).trans (s1.trans h.l1), s2.trans h.t0, s3⟩
      have := hsok.ok.dj (by omega) (by omega) (Av.last_mem hk) hm
      omega
  have hspec := Av.ins_spec h.ok (k := sk i) (by rw [hlen]; omega)
  have hi2 : v.ins (sk i) = v.fresh.fr 0 (sk i) := by unfold Av.ins; rw [hno]
  rw [hi2] at hspec
  have hfs := Av.fresh_spec h.ok
  rw [hins]
  rw [← hfr] at hroom
  refine ⟨hspec.ok, by rw [hspec.most]; exact hm2, hroom.2.1, (fr_l1 (by omega) (by rw [hroom.1]; simp; exact sk_ne i)).trans hroom.1, fun t x ht hx => ?_⟩
  rcases Av.mem_fr.1 hx with h1 | h1
  · obtain ⟨u, hu, hx2⟩ := hfs.1.sub t x ht h1.1
    rcases h.old u x hu hx2 with e | ⟨j, hj, e⟩
    · exact .inl e
    · exact .inr ⟨j, by omega, e⟩
  · exact .inr ⟨i, by omega, h1.2⟩
theorem Scan.has (h : Scan v i) : v.has kpt = true := Av.has_iff.2 (.inr (by rw [h.l1]; simp))
/-- How it begins. -/
theorem scan_start {n : Nat} (h1 : 2 ≤ n) (h2 : n ≤ 1000) : Scan (((Av.new n).insert kpt).touch kpt) 0 := by
  have hok := Av.new_ok (n := n) (by omega) h2
  have a1 : (Av.new n).at_ kpt = none := rfl
  have a2 : (Av.new n).fresh = Av.new n := by
    have z0 : (Av.new n).len 0 = 0 := rfl
    have z1 : (Av.new n).one = 0 := rfl
    have z2 : (Av.new n).all = 0 := rfl
    have z3 : (Av.new n).kept = 0 := rfl
    have z4 : (Av.new n).most = n := rfl
    unfold Av.fresh Av.shut
    rw [z0, z1, z2, z4, if_neg (by omega), if_neg (by omega), if_neg (by omega)]
    unfold Av.room
    rw [z3, z4, if_pos (by omega)]
  have a3 : (Av.new n).insert kpt = (Av.new n).fr 0 kpt := by
    unfold Av.insert Av.ins
    rw [if_neg (by decide), a1]
    show (Av.new n).fresh.fr 0 kpt = _
    rw [a2]
  have a4 : ((Av.new n).fr 0 kpt).touch kpt = ((Av.new n).fr 0 kpt).fr 1 kpt := by unfold Av.touch; rw [if_pos (by rfl)]
  have o1 := (Av.insert_ok hok kpt).1
  have o2 := (Av.touch_ok o1 kpt).1
  rw [a3] at o2 ⊢
  rw [a4] at o2 ⊢
  refine ⟨o2, h1, rfl, rfl, fun t x ht hx => .inl ?_⟩
  rcases Av.mem_fr.1 hx with h1 | h1
  · rcases Av.mem_fr.1 h1.1 with h3 | h3
    · exact absurd h3.1 List.not_mem_nil
    · exact h3.2
  · exact h1.2
end
theorem key3 (W : World) {i : Nat} (hi : i < 256) : (convert 67 9 (.slice (some ⟨W.heap.size, 0, none⟩) 3 3)).run Try.prog (W.alloc (.cells #[.int .u8 (i : Int), .int .u8 ((i : Int) / 16), .int .u8 115] 5)) = .ok (.string (str (sk i))) (W.alloc (.cells #[.int .u8 (i : Int), .int .u8 ((i : Int) / 16), .int .u8 115] 5)) := by
  have hd : (i : Int) / 16 = ((i / 16 : Nat) : Int) := by omega
  rw [hd]
  refine Wirey.row_str W (sk i) _ ?_ 3
  unfold sk
  have h1 : (UInt8.ofNat i).toNat = i := by simp; omega
  have h2 : (UInt8.ofNat (i / 16)).toNat = i / 16 := by simp; omega
  simp only [List.map_cons, List.map_nil, h1, h2]
  rfl
set_option maxHeartbeats 4000000 in
set_option maxRecDepth 100000 in
theorem arcScan_walk (a0 : Int) (_w0 : (Lit.int .i64 a0).wf = true) (a1 : Int) (_w1 : (Lit.int .i64 a1).wf = true) (w : World) :
    Calls Try.prog 7 #[.int .i64 a0, .int .i64 a1] w fun e w' => e = .returned (.bool true) ∧ Below w.heap.size w w' := by
  obtain ⟨x, hx, hx2⟩ := and_nat a0 15 4 (by decide) (by omega)
  have hx : bits .and .i64 a0 15 = (x : Int) := hx
  obtain ⟨y, hy, hy2⟩ := and_nat a1 255 8 (by decide) (by omega)
  have hy : bits .and .i64 a1 255 = (y : Int) := hy
  have hN := newA_c (n := 2 + x) (by omega) (by omega) w
  rw [Int.natCast_add] at hN
  have hS0 := scan_start (n := 2 + x) (by omega) (by omega)
  have hk4 : str kpt = ⟨#[107, 101, 112, 116]⟩ := rfl
  have hkl : kpt.length ≤ maxLen := by unfold maxLen; decide
  have hi1 := fun (W : World) (A : Nat) (m : Rm) (v : Av) (h : HeldA w A (w.heap.size + 2) W m v) => insert_c (k := kpt) hkl h
  have hi2 := fun (W : World) (A : Nat) (m : Rm) (v : Av) (h : HeldA w A (w.heap.size + 2) W m v) => touch_c (k := kpt) hkl h
  have hi3 := fun (W : World) (A : Nat) (m : Rm) (v : Av) (h : HeldA w A (w.heap.size + 2) W m v) => has_c (k := kpt) hkl h
  rw [hk4] at hi1 hi2 hi3
  clear hk4 hkl
  go_enter Try.func7, Try.ntmps7
  go_wp2_with fail
  refine hN.mono ?_
  rintro e w1 ⟨A, m, rfl, h1⟩
  go_wp2_with fail
  refine (awakeA_c _).mono ?_
  rintro e w2 ⟨rfl, hb2⟩
  have h2 := h1.later hb2 (Nat.le_refl _)
  clear h1 hb2 hN
  go_wp2_with fail
  refine (hi1 _ _ _ _ h2).mono ?_
  rintro e w3 ⟨val, m3, rfl, h3, -, -⟩
  go_wp2_with fail
  refine (hi2 _ _ _ _ h3).mono ?_
  rintro e w4 ⟨rfl, m4, h4, -⟩
  clear h2 h3 hi1 hi2
  go_wp2_with fail
  go_loopw [8] (fun i wr => ∃ (j : Nat) (m : Rm) (v : Av), j ≤ y ∧ i = .int .i64 j ∧ HeldA w A (w.heap.size + 2) wr m v ∧ Scan v j) (fun i _ => y - (intOf i).toNat)
  case atStart => exact ⟨0, _, _, by omega, rfl, h4, hS0⟩
  case round =>
    obtain ⟨j, m, v, hj, rfl, hH, hS⟩ := hrel
    clear h4 hS0
    by_cases hlt : j < y
    · have d1 : decide ((j : Int) < (y : Int)) = true := decide_eq_true (by omega)
      have hcv := fun W : World => key3 W (i := j) (by omega)
      have hsk : (sk j).length ≤ maxLen := by unfold maxLen sk; simp
      go_wp2_with fail
      have hA := hH.alloc (.cells #[.int .u8 (j : Int), .int .u8 ((j : Int) / 16), .int .u8 115] 5)
      have hn := hS.next (by omega)
      have hh := hn.has
      refine (insert_c hsk hA).mono ?_
      rintro e w5 ⟨val, m5, rfl, h5, -, -⟩
      have hi := hi3 _ _ _ _ h5
      rw [hh] at hi
      clear hcv hsk hA hS hH hh
      go_wp2_with fail
      refine hi.mono ?_
      rintro e w' ⟨rfl, rfl⟩
      go_wp2_with fail
      go_roundw
      case rel => exact ⟨j + 1, m5, _, by omega, by simp, h5, hn⟩
      case measure => simp [intOf]; omega
    · have d1 : decide ((j : Int) < (y : Int)) = false := decide_eq_false (by omega)
      have ht := target_c hH
      rw [hS.t0] at ht
      go_wp2_with fail
      refine ht.mono ?_
      rintro e w' ⟨rfl, rfl⟩
      go_wp2_with fail
      go_ret
      exact ⟨rfl, hH.below⟩
set_option linter.unusedVariables false in
set_option maxRecDepth 100000 in
theorem arcScan_lifted (os : Os) (started : os.Started) (H : Type) (enc : TypeId × Value → H) :
    ReturnsInHanded {} Try.checked os 7 .any (Rows.arcScanSpec.pre6 enc Try.prog Try.f7 Rows.arcScanRow.domain false) (Rows.arcScanSpec.post enc Try.prog Try.f7 false true false false) := by
  refine returnsInHanded_of_change (C := Try.checked) Kit.own started (by kernel_rfl) Try.func7
    (ChangeSpec.witness6 (enc := enc) (C := Try.checked) false ⟨#[], #[.int .i64 0, .int .i64 0], []⟩ 8 (by kernel_rfl) (by kernel_rfl) (by kernel_rfl) (by kernel_rfl)) ?_
  intro W base args ds gs before hval0 hW hcnd _
  have hval : ∀ (j : Nat) t v, Try.f7.params[j]? = some t → args[j]? = some v → Value.okWide Try.prog W .any base t v := hval0
  have hW' := hW
  obtain ⟨p, q, hA0, hV, rfl, hfz, hnd⟩ := hW
  have hA : DataW.TrodAll enc Try.prog W 0 (fun _ => true) true Try.f7.params.toList args.toList ds p := hA0
  rw [Try.params7] at hA hval
  obtain ⟨v0, vs0, d0, ds0, p0, q0, hargs, rfl, rfl, h0, r0⟩ := trodAll_cons hA
  obtain ⟨v1, vs1, d1, ds1, p1, q1, rfl, rfl, rfl, h1, r1⟩ := trodAll_cons r0
  obtain ⟨rfl, rfl, rfl⟩ := trodAll_nil r1
  obtain ⟨rfl, rfl⟩ := trodVars_none hV
  obtain rfl : args = #[v0, v1] := by cases args; simp_all
  obtain ⟨a0, rfl, rfl, rfl, w0⟩ := open_int Try.underlying3 (hval 0 3 v0 rfl rfl) h0
  obtain ⟨a1, rfl, rfl, rfl, w1⟩ := open_int Try.underlying3 (hval 1 3 v1 rfl rfl) h1
  clear hA0 hval0
  refine (arcScan_walk a0 w0 a1 w1 W).mono fun e W' ⟨he, hg⟩ => ?_
  subst he
  exact ⟨_, rfl, Kit.law_post hW' rfl (by kernel_rfl) rfl (by kernel_rfl) hg⟩

theorem arcScan_over : Rows.arcScanRow.holds Try.pinned (OpenSpec.ofChange Rows.arcScanSpec) :=
  OpenClaim.holds_of_wide 7 Try.f7 rfl rfl rfl rfl rfl rfl rfl ⟨rfl, rfl, rfl, rfl, rfl⟩ rfl rfl rfl rfl rfl (by kernel_rfl) Try.func7 (by kernel_rfl)
    (of_decide_eq_true (by kernel_rfl)) (by unfold Func.isWrapper; first | (rw [if_pos (by decide +kernel)]; kernel_rfl) | (rw [if_neg (by decide +kernel)]; exact ⟨rfl, rfl⟩))
    (fun os started H enc _ => arcScan_lifted os started H enc)

theorem arcScan_holds : Rows.ArcScanSaid :=
  arcScan_over

end Go.Proofs.Ytmmbenddganlmaa.Arcy
