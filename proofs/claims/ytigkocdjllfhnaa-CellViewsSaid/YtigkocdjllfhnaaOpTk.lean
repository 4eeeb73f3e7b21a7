/- A struct that is being taken off bytes, field by field. The only condition: what is read may be. -/
import Derived.Test.YtigkocdjllfhnaaOpRead
namespace Go.Proofs.Ytigkocdjllfhnaa.Opy
open Go.ChangeShapes Go.WideShapes Go.ChangeAt Go.RowKit
open Wirey (Blk Row str str_size str_list str_cat enc enc_len txt RS Kp must_ok)
/-- What is taken lies in a struct p, the result's cell at g is still empty, the reader stands ahead of the rest. -/
structure Tk (T : TypeId) (w W : World) (g p R O : Nat) (zs cs : Array Value) (rest : List UInt8) : Prop where
  zz : Blk W g T zs
  xx : Blk W p T cs
  rs : RS W R O rest
  kp : Kp (fun k => k = R ∨ k = O) w W
  hg : w.heap.size ≤ g
  hp : w.heap.size ≤ p
  gp : g ≠ p
  hR : R < w.heap.size
  hO : O < w.heap.size
section
variable {T : TypeId} {w W W' : World} {g p R O : Nat} {zs cs : Array Value} {l rest : List UInt8}
theorem Tk.step (h : Tk T w W g p R O zs cs l) (hr : RS W' R O rest) (hk : Kp (fun k => k = R ∨ k = O) W W') : Tk T w W' g p R O zs cs rest := by
  have h1 := h.hg; have h2 := h.hp; have h3 := h.hR; have h4 := h.hO
  exact ⟨hk.blk h.zz (by omega), hk.blk h.xx (by omega), hr, h.kp.trans hk, h1, h2, h.gp, h3, h4⟩
theorem Tk.below (h : Tk T w W g p R O zs cs l) (hb : Below W.heap.size W W') : Tk T w W' g p R O zs cs l := h.step (h.rs.below hb) (Kp.of_below hb)
theorem Tk.put (h : Tk T w W g p R O zs cs l) (i : Nat) (u : Value) : Tk T w (W.setCell ⟨p, i, none⟩ u) g p R O zs (cs.setIfInBounds i u) l := by
  have h1 := h.hg; have h2 := h.hp; have h3 := h.hR; have h4 := h.hO
  exact ⟨h.zz.far h.gp _, h.xx.put i u, ⟨h.rs.rd.far (by show R ≠ p; omega) _, h.rs.of.far (by show O ≠ p; omega) _⟩,
    ⟨h.kp.os, h.kp.tape, h.kp.output, Nat.le_trans h.kp.size (by simp [World.setCell]), fun k hk hS => (Below.heap_setCell _ _ _ _ (by show k ≠ p; omega)).trans (h.kp.block k hk hS)⟩, h1, h2, h.gp, h3, h4⟩
theorem Tk.putz (h : Tk T w W g p R O zs cs l) (i : Nat) (u : Value) : Tk T w (W.setCell ⟨g, i, none⟩ u) g p R O (zs.setIfInBounds i u) cs l := by
  have h1 := h.hg; have h2 := h.hp; have h3 := h.hR; have h4 := h.hO
  exact ⟨h.zz.put i u, h.xx.far (fun e => h.gp e.symm) _, ⟨h.rs.rd.far (by show R ≠ g; omega) _, h.rs.of.far (by show O ≠ g; omega) _⟩,
    ⟨h.kp.os, h.kp.tape, h.kp.output, Nat.le_trans h.kp.size (by simp [World.setCell]), fun k hk hS => (Below.heap_setCell _ _ _ _ (by show k ≠ g; omega)).trans (h.kp.block k hk hS)⟩, h1, h2, h.gp, h3, h4⟩
theorem Tk.num {n : Nat} (top : Nat) (ht : n ≤ top) (h64 : top < 18446744073709551616) (hl : rest.length ≤ 10000000) (h : Tk T w W g p R O zs cs (enc n ++ rest)) :
    Calls Try.prog 29 #[.pointer (some ⟨R, 0, none⟩), .int .u64 (top : Int)] W fun e W' => e = .returned (.int .u64 (n : Int)) ∧ Tk T w W' g p R O zs cs rest := by
  have l1 := enc_len (n := n) (by omega)
  exact (num_off top ht h64 (by rw [List.length_append]; omega) W h.rs).mono fun _ _ ⟨a, b, c⟩ => ⟨a, h.step b c⟩
end
end Go.Proofs.Ytigkocdjllfhnaa.Opy
