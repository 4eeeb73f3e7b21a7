/- Import of the bytes of lists: lists that were made by the call. -/
import Derived.Test.YtfhlnidjneaieaaRingTake
namespace Go.Proofs.Ytfhlnidjneaieaa.Ringy
open Go.ChangeShapes Go.WideShapes Go.ChangeAt Go.RowKit Go.Shelf
open Wirey (Blk Row str str_size str_list Kp Kept RS)
open Go.ChangeMaps Go.Maps

section
variable {s : Rg}
theorem enters_import : ∀ (args : Array Value) (w : World), (callFunc 52 args).run Try.prog w = .ok (.enter 52 args) w := fun _ _ => by kernel_rfl
set_option maxHeartbeats 4000000 in
theorem import1_c (hw : s.Wf) (hn8 : s.n ≤ 8) {R O P : Nat} (w : World) (h : RS w R O s.put) (hP : Blk w P 23 #[.pointer none]) (hPR : P ≠ R) (hPO : P ≠ O) :
    Calls Try.prog 52 #[.pointer (some ⟨R, 0, none⟩), .pointer (some ⟨P, 0, none⟩)] w fun e w' => e = .returned (.tuple #[]) ∧ RS w' R O [] ∧ Kp (fun k => k = R ∨ k = O ∨ k = P) w w' ∧ ∃ m, w'.cell? ⟨P, 0, none⟩ = some (.pointer (some ⟨m.R, 0, none⟩)) ∧ At w' m s ∧ ∀ b, m.own b → w.heap.size ≤ b := by
  have hPl := hP.lt
  go_enter Try.func52, Try.ntmps52
  go_wp2_with fail
  refine (take_c hw hn8 w h).mono ?_
  rintro e v ⟨m, rfl, hA, hO, hR, hK⟩
  have hP2 : Blk v P 23 #[.pointer none] := hK.blk hP (by rintro (e | e); exact hPR e; exact hPO e)
  have c0 := hP2.cell 0
  have z0 := hP2.free 0
  have hP3 := (hP2.put 0 (.pointer (some ⟨m.R, 0, none⟩))).cell 0
  have hR3 : RS (v.setCell ⟨P, 0, none⟩ (.pointer (some ⟨m.R, 0, none⟩))) R O [] := ⟨hR.rd.far (by show R ≠ P; exact Ne.symm hPR) _, hR.of.far (by show O ≠ P; exact Ne.symm hPO) _⟩
  have hA3 : At (v.setCell ⟨P, 0, none⟩ (.pointer (some ⟨m.R, 0, none⟩))) m s := hA.stay (fun b hb => far (p := ⟨P, 0, none⟩) (fun e => by have := hO b hb; have e2 : b = P := e; omega) _)
  have hK3 : Kp (fun k => k = R ∨ k = O ∨ k = P) w (v.setCell ⟨P, 0, none⟩ (.pointer (some ⟨m.R, 0, none⟩))) :=
    Kp.set (S := fun k => k = R ∨ k = O ∨ k = P) ⟨hK.os, hK.tape, hK.output, hK.size, fun k hk hS => hK.block k hk (fun e => hS (by rcases e with e | e; exact .inl e; exact .inr (.inl e)))⟩ (p := ⟨P, 0, none⟩) (.inr (.inr rfl)) _
  go_wp2_with fail
  go_end0
  exact ⟨rfl, hR3, hK3, m, hP3, hA3, hO⟩

set_option maxHeartbeats 4000000 in
theorem import_c (hw : s.Wf) (hn8 : s.n ≤ 8) (w : World) :
    Calls Try.prog 21 #[.string (str s.put)] w fun e w' => ∃ m, e = .returned (.tuple #[.pointer (some ⟨m.R, 0, none⟩), .int .i64 0]) ∧ At w' m s ∧ (∀ b, m.own b → w.heap.size ≤ b) ∧ Below w.heap.size w w' := by
  have hP := Blk.new w 23 #[.pointer none]
  have hb := (Below.refl w.heap.size w).alloc (Nat.le_refl _) (.cells #[.pointer none] 23)
  have hmf : ∀ (fn : Fn) (first cap : Array Value) (w : World), (Instr.makeFunc fn first cap).run Try.prog w = .ok (.func fn first cap) w := fun _ _ _ _ => rfl
  have hsz : (w.alloc (.cells #[.pointer none] 23)).heap.size = w.heap.size + 1 := by simp
  go_enter Try.func21, Try.ntmps21
  go_wp2_with fail
  generalize w.alloc (.cells #[.pointer none] 23) = w1 at hP hb hsz ⊢
  refine (Wirey.read_ok2 _ enters_import #[.pointer (some ⟨w.heap.size, 0, none⟩)] s.put [] w1 (fun j => j = w.heap.size)
    (fun w2 => ∃ m, w2.cell? ⟨w.heap.size, 0, none⟩ = some (.pointer (some ⟨m.R, 0, none⟩)) ∧ At w2 m s ∧ ∀ b, m.own b → w1.heap.size + 2 ≤ b)
    (fun j hj => by omega) ?_ ?_).mono ?_
  · rintro w2 w3 hs ⟨m, h1, h2, h3⟩ hk
    exact ⟨m, (World.cell?_of_block (hk.block w.heap.size (by omega) (by omega))).trans h1, h2.kp hk (fun k hk2 => by have := h3 k hk2; omega), h3⟩
  · intro R O w2 hr hb2 hR hO
    have hne := hr.ne
    have hRl := hr.rd.lt
    have hOl := hr.of.lt
    refine (import1_c hw hn8 w2 hr (hP.below hb2 (by omega)) (by omega) (by omega)).mono ?_
    rintro e w3 ⟨rfl, h1, h2, m, h3, h4, h5⟩
    exact ⟨rfl, h1, h2, m, h3, h4, fun b hb => by have := h5 b hb; omega⟩
  rintro e w2 ⟨rfl, hk, m, h1, h2, h3⟩
  have hB : Below w.heap.size w w2 := ⟨hk.os.trans hb.os, hk.tape.trans hb.tape, hk.output.trans hb.output, Nat.le_trans hb.size hk.size, fun k hkl => (hk.block k (by omega) (by omega)).trans (hb.block k hkl)⟩
  rw [Wirey.endE_nil]
  go_wp2_with fail
  go_ret2
  exact ⟨m, rfl, h2, fun b hb => by have := h3 b hb; omega, hB⟩
end
end Go.Proofs.Ytfhlnidjneaieaa.Ringy
