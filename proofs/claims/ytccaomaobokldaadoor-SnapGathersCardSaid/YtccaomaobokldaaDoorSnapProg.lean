/- Layer 14's program (snap), call by call: whether it is made, which is the first that lacks, nil's. No condition. -/
import Derived.Test.YtccaomaobokldaaDoorSnapMem
import Derived.Test.YtccaomaobokldaaDoorRegion
import Derived.Lib.Hide
import Derived.BigQuiet
namespace Go.Proofs.YtccaomaobokldaaDoor.Snapy
open Go.ChangeShapes Go.WideShapes Go.ChangeAt Go.RowKit
open Wirey Regy

theorem lk_of : ∀ {F : List Bool} {k : Nat}, F[k]? = some false → (∀ j, j < k → F[j]? = some true) → lk F = some k
  | [], k, h, _ => by simp at h
  | false :: l, 0, _, _ => rfl
  | true :: l, 0, h, _ => by simp at h
  | x :: l, k + 1, h, hb => by
    have h0 := hb 0 (by omega)
    rw [List.getElem?_cons_zero] at h0
    obtain rfl := Option.some.inj h0
    rw [lk, lk_of (F := l) (k := k) (by rwa [List.getElem?_cons_succ] at h) fun j hj => by
      have := hb (j + 1) (by omega)
      rwa [List.getElem?_cons_succ] at this]
    rfl
theorem lk_none : ∀ {F : List Bool}, (∀ j, j < F.length → F[j]? = some true) → lk F = none
  | [], _ => rfl
  | x :: l, hb => by
    have h0 := hb 0 (by simp)
    rw [List.getElem?_cons_zero] at h0
    obtain rfl := Option.some.inj h0
    rw [lk, lk_none (F := l) fun j hj => by
      have := hb (j + 1) (by rw [List.length_cons]; omega)
      rwa [List.getElem?_cons_succ] at this]
    rfl
theorem made_l {w : World} {b n c : Nat} {a : Option Addr} (c2 : w.cell? ⟨b, 2, none⟩ = some (.slice a n c)) (hn : 0 < n) : Calls Tryd.prog 18 #[gp b] w fun e w' => e = .returned (.bool true) ∧ w = w' := by
  have d0 : decide (0 < n) = true := decide_eq_true hn
  go_enter Tryd.func18, Tryd.ntmps18
  go_wp2_with fail
  go_ret
  exact ⟨rfl, rfl⟩
theorem made_nil (w : World) : Calls Tryd.prog 18 #[nilG] w fun e w' => e = .returned (.bool false) ∧ w = w' := by
  go_enter Tryd.func18, Tryd.ntmps18
  go_wp2_with fail
  go_ret
  exact ⟨rfl, rfl⟩
/-- The place of the first that lacks, or -1. -/
def at1 (F : List Bool) : Int := match lk F with
  | some i => (i : Int)
  | none => -1
set_option maxHeartbeats 1000000 in
theorem idx_c {gt : Nat} {F : List Bool} (w : World) (hF : Blk w gt 4 (F.map Value.bool).toArray) (hl : F.length ≤ 8192) :
    Calls Tryd.prog 19 #[.slice (some ⟨gt, 0, none⟩) F.length F.length, .bool false] w fun e w' => e = .returned (.int .i64 (at1 F)) ∧ w = w' := by
  have hc : ∀ (i : Nat) (x : Bool), F[i]? = some x → w.cell? ⟨gt, i, none⟩ = some (.bool x) := fun i x hx => by rw [hF.cell i]; simp [hx]
  clear hF
  go_enter Tryd.func19, Tryd.ntmps19
  go_wp2_with fail
  go_loopw [5, 8] (fun _ s8 wr => ∃ k : Nat, k ≤ F.length ∧ s8 = .int .i64 k ∧ w = wr ∧ Hid (∀ j, j < k → F[j]? = some true)) (fun _ s8 _ => F.length - (intOf s8).toNat)
  case atStart => exact ⟨0, by omega, rfl, rfl, Lib.hid fun j hj => absurd hj (Nat.not_lt_zero _)⟩
  case round =>
    obtain ⟨k, hk, rfl, rfl, H⟩ := hrel
    by_cases h : k < F.length
    · have hlt : (k : Int) < (F.length : Int) := by omega
      obtain ⟨x, hx⟩ : ∃ x, F[k]? = some x := ⟨_, List.getElem?_eq_getElem h⟩
      have c0 := hc _ _ hx
      have HC := Lib.hid hc
      have HX := Lib.hid hx
      clear hc hx
      cases x with
      | true =>
        go_wp2_with fail
        go_roundw
        case rel => exact ⟨k + 1, by omega, rfl, trivial, Lib.hid fun j hj => by
          by_cases e : j < k
          · exact H.out j e
          · obtain rfl : j = k := by omega
            exact HX.out⟩
        case measure => simp [intOf]; omega
      | false =>
        go_wp2_with fail
        go_ret
        exact ⟨by unfold at1; rw [lk_of HX.out H.out]; rfl, rfl⟩
    · obtain rfl : k = F.length := by omega
      have hlt : ¬ ((F.length : Int) < (F.length : Int)) := by omega
      clear hc
      go_wp2_with fail
      go_ret
      exact ⟨by unfold at1; rw [lk_none H.out]; rfl, rfl⟩
section
variable {w w' : World} {b gd gt B : Nat} {W : Bs} {D : List Bs} {F : List Bool}
theorem next_c (h : HeldG w b gd gt W D F) : Calls Tryd.prog 12 #[gp b] w fun e w' => e = .returned (.tuple #[.int .i64 (((lk F).getD 0 : Nat) : Int), .bool (lk F).isSome]) ∧ w = w' := by
  have hM := made_l h.g2 h.pos
  have hI := idx_c w h.t (by rw [h.len]; exact h.most)
  rw [h.len] at hI
  have c2 := h.g2
  clear h
  go_enter Tryd.func12, Tryd.ntmps12
  go_wp2_with fail
  refine hM.mono ?_
  rintro e w' ⟨rfl, rfl⟩
  go_wp2_with fail
  refine hI.mono ?_
  rintro e w' ⟨rfl, rfl⟩
  unfold at1
  cases hk : lk F with
  | none =>
    simp only []
    have hm : max (-1 : Int) 0 = 0 := by decide
    go_wp2_with fail
    all_goals exact bodyPost_ret (results_tmp2 rfl _ _ _) rfl ⟨by rw [hk]; rfl, rfl⟩
  | some i =>
    simp only []
    have hm : max (i : Int) 0 = i := by omega
    have hd : decide ((0 : Int) ≤ (i : Int)) = true := decide_eq_true (by omega)
    go_wp2_with fail
    all_goals exact bodyPost_ret (results_tmp2 rfl _ _ _) rfl ⟨by rw [hk]; rfl, rfl⟩
theorem next_nil (w : World) : Calls Tryd.prog 12 #[nilG] w fun e w' => e = .returned (.tuple #[.int .i64 0, .bool false]) ∧ w = w' := by
  go_enter Tryd.func12, Tryd.ntmps12
  go_wp2_with fail
  refine (made_nil _).mono ?_
  rintro e w' ⟨rfl, rfl⟩
  go_wp2_with fail
  exact bodyPost_ret (results_tmp2 rfl _ _ _) rfl ⟨rfl, rfl⟩
theorem whole_nil (w : World) : Calls Tryd.prog 13 #[nilG] w fun e w' => e = .returned (.tuple #[.string ⟨#[]⟩, .int .i64 1]) ∧ w = w' := by
  go_enter Tryd.func13, Tryd.ntmps13
  go_wp2_with fail
  refine (made_nil _).mono ?_
  rintro e w' ⟨rfl, rfl⟩
  go_wp2_with fail
  exact bodyPost_ret (results_tmp2 rfl _ _ _) rfl ⟨rfl, rfl⟩
end
end Go.Proofs.YtccaomaobokldaaDoor.Snapy
