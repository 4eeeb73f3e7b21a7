/- Layer 10: a number, and a text, taken off the bytes with which it is written. The only condition: it is no more than may be. A struct that is being taken off bytes, field by field. The only condition: what is read may be. Layer 10: a reply taken off its own bytes. The only condition: what is read may be. A region that draws, and stores where it loads: one step after the other. No condition. slices.Sort of at most twelve numbers of 64 bits: they are sorted where they lie. The only condition: there are not more than twelve. slices.Sort of at most twelve numbers of 64 bits: they are sorted where they lie. The only condition: there are not more than twelve. -/
import Derived.Test.YtkiabladmgagdabGreatDoorOpPutAll
import Derived.Test.YtkiabladmgagdabGreatDoorWireFlyAll
import Derived.BigQuiet
import Derived.Test.YtkiabladmgagdabGreatDoorBlakeMixAll
import Derived.Deep.AppendLies
import Derived.Lib.Hide
import Derived.Test.YtkiabladmgagdabGreatDoorSq
namespace Go.Proofs.YtkiabladmgagdabGreatDoor.Opy
open Go.ChangeShapes Go.WideShapes Go.ChangeAt Go.RowKit
open Wirey (Blk Row str str_size str_list str_cat enc enc_len txt RS Kp num_ok rtext_ok numR_enc)

theorem num_off {R O n : Nat} {rest : List UInt8} (top : Nat) (ht : n ≤ top) (h64 : top < 18446744073709551616) (hl : (enc n ++ rest).length < 1099511627776) (w : World) (h : RS w R O (enc n ++ rest)) :
  Calls Tryz.prog 37 #[.pointer (some ⟨R, 0, none⟩), .int .u64 top] w fun e w' => e = .returned (.int .u64 n) ∧ RS w' R O rest ∧ Kp (fun k => k = R ∨ k = O) w w' := by
 have hm := num_ok top (numR_enc (n := n) (by omega) rest) ht hl w h
 rw [List.drop_left] at hm
 refine hm.mono ?_
 rintro e w' ⟨rfl, hk, hr⟩
 exact ⟨rfl, hr, Kp.of_kept (S := fun k => k = R ∨ k = O) hk (.inl rfl) (.inr rfl)⟩
theorem text_off {R O : Nat} {l rest : List UInt8} (top : Nat) (ht : l.length ≤ top) (h40 : top < 1099511627776) (hl : (txt l ++ rest).length < 1099511627776) (w : World) (h : RS w R O (txt l ++ rest)) :
  Calls Tryz.prog 101 #[.pointer (some ⟨R, 0, none⟩), .int .i64 top] w fun e w' => e = .returned (.string (str l)) ∧ RS w' R O rest ∧ Kp (fun k => k = R ∨ k = O) w w' := by
 have ea : txt l ++ rest = enc l.length ++ (l ++ rest) := by unfold txt; rw [List.append_assoc]
 rw [ea] at h hl
 have hm := rtext_ok top h40 (numR_enc (n := l.length) (by omega) (l ++ rest)) ht (by simp only [List.length_append]; omega) hl w h
 rw [List.drop_left, List.take_left, show (enc l.length ++ (l ++ rest)).drop ((enc l.length).length + l.length) = rest by rw [← List.append_assoc, ← List.length_append, List.drop_left]] at hm
 refine hm.mono ?_
 rintro e w' ⟨rfl, hk, hr⟩
 exact ⟨rfl, hr, Kp.of_kept (S := fun k => k = R ∨ k = O) hk (.inl rfl) (.inr rfl)⟩
end Go.Proofs.YtkiabladmgagdabGreatDoor.Opy
namespace Go.Proofs.YtkiabladmgagdabGreatDoor.Opy
open Go.ChangeShapes Go.WideShapes Go.ChangeAt Go.RowKit
open Wirey (Blk Row str str_size str_list str_cat enc enc_len txt RS Kp must_ok)
structure Tk (T : TypeId) (w W : World) (g p R O : Nat) (zs cs : Array Value) (rest : List UInt8) : Prop where
 zz : Blk W g T zs
 xx : Blk W p T cs
 rs : RS W R O rest
 kp : Kp (fun k => k = R ∨ k = O) w W
 hg : w.heap.size ≤ g
 hp : w.heap.size ≤ p
 gp : g ≠ p
 hR : R < w.heap.size
 hO : O < w.heap.size
section
variable {T : TypeId} {w W W' : World} {g p R O : Nat} {zs cs : Array Value} {l rest : List UInt8}
theorem Tk.step (h : Tk T w W g p R O zs cs l) (hr : RS W' R O rest) (hk : Kp (fun k => k = R ∨ k = O) W W') : Tk T w W' g p R O zs cs rest := by
 have h1 := h.hg; have h2 := h.hp; have h3 := h.hR; have h4 := h.hO
 exact ⟨hk.blk h.zz (by omega), hk.blk h.xx (by omega), hr, h.kp.trans hk, h1, h2, h.gp, h3, h4⟩
theorem Tk.below (h : Tk T w W g p R O zs cs l) (hb : Below W.heap.size W W') : Tk T w W' g p R O zs cs l := h.step (h.rs.below hb) (Kp.of_below hb)
theorem Tk.put (h : Tk T w W g p R O zs cs l) (i : Nat) (u : Value) : Tk T w (W.setCell ⟨p, i, none⟩ u) g p R O zs (cs.setIfInBounds i u) l := by
 have h1 := h.hg; have h2 := h.hp; have h3 := h.hR; have h4 := h.hO
 exact ⟨h.zz.far h.gp _, h.xx.put i u, ⟨h.rs.rd.far (by show R ≠ p; omega) _, h.rs.of.far (by show O ≠ p; omega) _⟩,
   ⟨h.kp.os, h.kp.tape, h.kp.output, Nat.le_trans h.kp.size (by simp [World.setCell]), fun k hk hS => (Below.heap_setCell _ _ _ _ (by show k ≠ p; omega)).trans (h.kp.block k hk hS)⟩, h1, h2, h.gp, h3, h4⟩
theorem Tk.putz (h : Tk T w W g p R O zs cs l) (i : Nat) (u : Value) : Tk T w (W.setCell ⟨g, i, none⟩ u) g p R O (zs.setIfInBounds i u) cs l := by
 have h1 := h.hg; have h2 := h.hp; have h3 := h.hR; have h4 := h.hO
 exact ⟨h.zz.put i u, h.xx.far (fun e => h.gp e.symm) _, ⟨h.rs.rd.far (by show R ≠ g; omega) _, h.rs.of.far (by show O ≠ g; omega) _⟩,
   ⟨h.kp.os, h.kp.tape, h.kp.output, Nat.le_trans h.kp.size (by simp [World.setCell]), fun k hk hS => (Below.heap_setCell _ _ _ _ (by show k ≠ g; omega)).trans (h.kp.block k hk hS)⟩, h1, h2, h.gp, h3, h4⟩
theorem Tk.num {n : Nat} (top : Nat) (ht : n ≤ top) (h64 : top < 18446744073709551616) (hl : rest.length ≤ 10000000) (h : Tk T w W g p R O zs cs (enc n ++ rest)) :
  Calls Tryz.prog 37 #[.pointer (some ⟨R, 0, none⟩), .int .u64 top] W fun e W' => e = .returned (.int .u64 n) ∧ Tk T w W' g p R O zs cs rest := by
 have l1 := enc_len (n := n) (by omega)
 exact (num_off top ht h64 (by rw [List.length_append]; omega) W h.rs).mono fun _ _ ⟨a, b, c⟩ => ⟨a, h.step b c⟩
theorem Tk.text {s : List UInt8} (top : Nat) (ht : s.length ≤ top) (h40 : top < 1000000) (hl : rest.length ≤ 10000000) (h : Tk T w W g p R O zs cs (txt s ++ rest)) :
  Calls Tryz.prog 101 #[.pointer (some ⟨R, 0, none⟩), .int .i64 top] W fun e W' => e = .returned (.string (str s)) ∧ Tk T w W' g p R O zs cs rest := by
 have l1 := enc_len (n := s.length) (by omega)
 exact (text_off top ht (by omega) (by unfold txt; rw [List.length_append, List.length_append]; omega) W h.rs).mono fun _ _ ⟨a, b, c⟩ => ⟨a, h.step b c⟩
end
end Go.Proofs.YtkiabladmgagdabGreatDoor.Opy
namespace Go.Proofs.YtkiabladmgagdabGreatDoor.Opy
open Go.ChangeShapes Go.WideShapes Go.ChangeAt Go.RowKit
open Wirey (Blk Row str str_size str_list str_cat enc enc_len txt RS Kp must_ok)

set_option maxHeartbeats 2000000 in
set_option maxRecDepth 100000 in
theorem takeReply_c {R O : Nat} {n v : Nat} {l : List UInt8} (hn : n < 65536) (hl : l.length ≤ 4096) (hv : v < 18446744073709551616) (rest : List UInt8) (hr : rest.length ≤ 100000) (w : World) (h : RS w R O ((replyB n l v) ++ rest)) :
  Calls Tryz.prog 79 #[.pointer (some ⟨R, 0, none⟩)] w fun e w' => e = .returned (.agg #[.int .i64 n, .string (str l), .int .u64 v]) ∧ RS w' R O rest ∧ Kp (fun k => k = R ∨ k = O) w w' := by
 have hs' : (replyB n l v) ++ rest = enc n ++ (txt l ++ (enc v ++ rest)) := by simp [replyB, List.append_assoc]
 rw [hs'] at h
 clear hs'
 have l1 := enc_len (n := l.length) (by omega)
 have l2 := enc_len hv
 have l3 : (txt l).length ≤ 10000 := by unfold txt; rw [List.length_append]; omega
 have ew : IntKind.i64.wrap (n : Int) = (n : Int) := by rw [IntKind.wrap_i64]; omega
 have hRw := h.rd.lt
 have hOw := h.of.lt
 have hz := (Blk.new w 45 #[.int .i64 0, .string ⟨#[]⟩, .int .u64 0]).alloc (.cells #[.int .i64 0, .string ⟨#[]⟩, .int .u64 0] 45)
 have s1 : (w.alloc (.cells #[.int .i64 0, .string ⟨#[]⟩, .int .u64 0] 45)).heap.size = w.heap.size + 1 := by simp
 have hx := Blk.new (w.alloc (.cells #[.int .i64 0, .string ⟨#[]⟩, .int .u64 0] 45)) 45 #[.int .i64 0, .string ⟨#[]⟩, .int .u64 0]
 rw [s1] at hx
 have hb0 := ((Below.refl _ w).alloc (Nat.le_refl _) (.cells #[.int .i64 0, .string ⟨#[]⟩, .int .u64 0] 45)).alloc (by simp) (.cells #[.int .i64 0, .string ⟨#[]⟩, .int .u64 0] 45)
 have T0 : Tk 45 w _ w.heap.size (w.heap.size + 1) R O #[.int .i64 0, .string ⟨#[]⟩, .int .u64 0] #[.int .i64 0, .string ⟨#[]⟩, .int .u64 0] _ := ⟨hz, hx, h.below hb0, Kp.of_below hb0, Nat.le_refl _, by omega, by omega, hRw, hOw⟩
 clear hz hx hb0 h hRw hOw
 go_enter Tryz.func79, Tryz.ntmps79
 go_upto_region 2 with (fail)
 generalize (w.alloc (.cells #[.int .i64 0, .string ⟨#[]⟩, .int .u64 0] 45)).alloc (.cells #[.int .i64 0, .string ⟨#[]⟩, .int .u64 0] 45) = w0 at *
 clear s1
 generalize w.heap.size + 1 = p at *
 generalize hgg : w.heap.size = g at T0 ⊢
 clear hgg
 have x0 := T0.xx.cell 0
 have z0 := T0.xx.free 0
 have x1 := T0.xx.cell 1
 have z1 := T0.xx.free 1
 have x2 := T0.xx.cell 2
 have z2 := T0.xx.free 2
 simp only [gA, gB, gC] at x0 x1 x2
 go_wp2_with fail
 refine (Tk.num (n := n) 65535 (by omega) (by omega) (by (try simp only [List.length_append]); omega) T0).mono ?_
 rintro e v1 ⟨rfl, S1⟩
 clear x0 z0 x1 z1 x2 z2
 clear T0
 have x0 := S1.xx.cell 0
 have z0 := S1.xx.free 0
 have x1 := S1.xx.cell 1
 have z1 := S1.xx.free 1
 have x2 := S1.xx.cell 2
 have z2 := S1.xx.free 2
 simp only [gA, gB, gC] at x0 x1 x2
 have U1 := (S1.put 0 (.int .i64 n))
 simp only [sA, List.set_cons_zero] at U1
 clear S1
 go_upto_region 3 with (fail)
 generalize (v1.setCell ⟨p, 0, none⟩ (.int .i64 n)) = w21 at *
 clear x0 z0 x1 z1 x2 z2
 have x0 := U1.xx.cell 0
 have z0 := U1.xx.free 0
 have x1 := U1.xx.cell 1
 have z1 := U1.xx.free 1
 have x2 := U1.xx.cell 2
 have z2 := U1.xx.free 2
 simp only [gA, gB, gC] at x0 x1 x2
 go_wp2_with fail
 refine (Tk.text (s := l) 4096 (by omega) (by omega) (by (try simp only [List.length_append]); omega) U1).mono ?_
 rintro e v2 ⟨rfl, S2⟩
 clear x0 z0 x1 z1 x2 z2
 clear U1
 have x0 := S2.xx.cell 0
 have z0 := S2.xx.free 0
 have x1 := S2.xx.cell 1
 have z1 := S2.xx.free 1
 have x2 := S2.xx.cell 2
 have z2 := S2.xx.free 2
 simp only [gA, gB, gC] at x0 x1 x2
 have U2 := (S2.put 1 (.string (str l)))
 simp only [sA, List.set_cons_zero, sC] at U2
 clear S2
 go_upto_region 4 with (fail)
 generalize (v2.setCell ⟨p, 1, none⟩ (.string (str l))) = w22 at *
 clear x0 z0 x1 z1 x2 z2
 have x0 := U2.xx.cell 0
 have z0 := U2.xx.free 0
 have x1 := U2.xx.cell 1
 have z1 := U2.xx.free 1
 have x2 := U2.xx.cell 2
 have z2 := U2.xx.free 2
 simp only [gA, gB, gC] at x0 x1 x2
 go_wp2_with fail
 refine (Tk.num (n := v) 18446744073709551615 (by omega) (by omega) (by (try simp only [List.length_append]); omega) U2).mono ?_
 rintro e v3 ⟨rfl, S3⟩
 clear x0 z0 x1 z1 x2 z2
 clear U2
 have x0 := S3.xx.cell 0
 have z0 := S3.xx.free 0
 have x1 := S3.xx.cell 1
 have z1 := S3.xx.free 1
 have x2 := S3.xx.cell 2
 have z2 := S3.xx.free 2
 simp only [gA, gB, gC] at x0 x1 x2
 have U3 := (S3.put 2 (.int .u64 v))
 simp only [sA, List.set_cons_zero, sC] at U3
 clear S3
 go_upto_region 5 with (fail)
 generalize (v3.setCell ⟨p, 2, none⟩ (.int .u64 v)) = w23 at *
 clear x0 z0 x1 z1 x2 z2
 have x0 := U3.xx.cell 0
 have z0 := U3.xx.free 0
 have x1 := U3.xx.cell 1
 have z1 := U3.xx.free 1
 have x2 := U3.xx.cell 2
 have z2 := U3.xx.free 2
 simp only [gA, gB, gC] at x0 x1 x2
 have y0 := U3.zz.free 0
 have y1 := U3.zz.free 1
 have y2 := U3.zz.free 2
 have yc0 := U3.zz.cell 0
 have yc1 := U3.zz.cell 1
 have yc2 := U3.zz.cell 2
 simp only [gA, gB, gC] at yc0 yc1 yc2
 have TZ := (((U3.putz 0 (.int .i64 n)).putz 1 (.string (str l))).putz 2 (.int .u64 v))
 simp only [sA, List.set_cons_zero, sC] at TZ
 go_wp2_with fail
 refine bodyPost_ret (results_cell_row rfl _ _ g 45 #[.int .i64 n, .string (str l), .int .u64 v] (0, 0) _ rfl TZ.zz Tryz.underlying45 rfl (by kernel_rfl)) rfl ⟨rfl, TZ.rs, TZ.kp⟩
end Go.Proofs.YtkiabladmgagdabGreatDoor.Opy
namespace Go.Proofs.YtkiabladmgagdabGreatDoor.Regy
open Go.ChangeShapes Go.WideShapes Go.ChangeAt Go.RowKit

theorem regionK_only {P : Program} {ops : Array Oper} {Q : Exit → Act → World → Prop} (k : Nat) (L : Array Bool) (g : Nat) {V : World → Prop} {id : Nat} {a : Act} {w : World} (hk : ops.size = k) (hL : L = Array.replicate k false) (hm : P.follows .mixedOrders = true) (hV : V w.drew)
  (h : V w.drew → Wirey.wpAnyK P .any ops (Only Q) (fun _ => True) V g k L a w.drew) : (Code.region id ops true).wp P Q a w := by
 subst hk hL
 exact wp_mono (Wirey.wp_region_K hm (fun _ => True) V g (h hV)) fun e a w ⟨h1, h2⟩ => by subst h1; exact h2
theorem early_at {P : Program} {md : Region.Mode} {ops : Array Oper} {Q : Exit → Act → World → Prop} (g i d : Nat) (v : Value) {V : World → Prop} {oi ok : Oper} {fuel : Nat} {li : Array Bool} {T : Array Value} {D : List Deferred} {w : World} (hi : ops[i]? = some oi) (hd : oi.dst = some d)
  (hs : Region.noSelect ops = true) (hf : Region.free md ops li i = true) (hr : (Region.ready md ops li).contains i = true) (hik : i ≠ g) (hko : ops[g]? = some ok) (hw : ok.after.any (fun e => Region.binds md e && e.on == i) = true) (hk0 : li.getD g false = false)
  (hy : YieldsIf P ops V oi v { tmps := T, defers := D }) (hV : V w)
  (h : Wirey.wpAnyK P md ops (Only Q) (fun _ => True) V g fuel (li.setIfInBounds i true) { tmps := T.setIfInBounds d v, defers := D } w) : Wirey.wpAnyK P md ops (Only Q) (fun _ => True) V g (fuel + 1) li { tmps := T, defers := D } w := by
 refine Wirey.wpAnyK_early i (some d) hi hs hf hr hik (fun _ _ _ h => h.panic) trivial hV hko hw hk0 hy hd ?_
 exact h
theorem takeK_at {P : Program} {md : Region.Mode} {ops : Array Oper} {Q : Exit → Act → World → Prop} (g i d : Nat) (v : Value) {V : World → Prop} {oi : Oper} {fuel : Nat} {li : Array Bool} {T : Array Value} {D : List Deferred} {w : World} (hi : ops[i]? = some oi) (hd : oi.dst = some d)
  (hs : Region.noSelect ops = true) (hf : Region.free md ops li i = true) (hr : (Region.ready md ops li).contains i = true) (hik : i ≠ g)
  (hy : YieldsIf P ops (fun _ => True) oi v { tmps := T, defers := D }) (hV : V w)
  (h : Wirey.wpAnyK P md ops (Only Q) (fun _ => True) V g fuel (li.setIfInBounds i true) { tmps := T.setIfInBounds d v, defers := D } w) : Wirey.wpAnyK P md ops (Only Q) (fun _ => True) V g (fuel + 1) li { tmps := T, defers := D } w := by
 refine Wirey.wpAnyK_take i (some d) hi hs hf hr hik (fun _ _ _ h => h.panic) trivial (fun _ => hV) hy hd ?_
 exact h
section
variable {P : Program} {ops : Array Oper} {Q : Exit → Act → World → Prop} {md : Region.Mode} {C V : World → Prop} {k : Nat}
end
end Go.Proofs.YtkiabladmgagdabGreatDoor.Regy
namespace Go.Proofs.YtkiabladmgagdabGreatDoor.Numsy
open Go.ChangeShapes Go.WideShapes Go.ChangeAt Go.RowKit
open Wirey (Blk Row str Kp)
open Regy
abbrev enc (x : Nat) : Value := .int .u64 x
structure Nums (w : World) (g : Nat) (d : Array Nat) : Prop where
 row : Row w g (d.toList.map enc)
 kind : ∃ cs, Blk w g 22 cs
section
variable {w w' : World} {g : Nat} {d : Array Nat}
theorem bang {k : Nat} (hk : k < d.size) : d[k]! = d[k] := by simp [hk]
theorem Nums.at_ (h : Nums w g d) {i : Nat} (hi : i < d.size) : w.cell? ⟨g, i, none⟩ = some (enc d[i]!) := by
 rw [bang hi]
 exact h.row.cell i _ (by rw [List.getElem?_map, Array.getElem?_toList, Array.getElem?_eq_getElem hi]; rfl)
theorem Nums.free_ (h : Nums w g d) {i : Nat} (hi : i < d.size) : w.frozen? ⟨g, i, none⟩ = false := h.row.free i (by simpa using hi)
theorem swap_get {i j : Nat} (hi : i < d.size) (hj : j < d.size) (k : Nat) (hk : k < d.size) : (d.swap i j hi hj)[k]! = if k = i then d[j]! else if k = j then d[i]! else d[k]! := by
 rw [bang (by simpa using hk), bang hi, bang hj, bang hk, Array.getElem_swap]
theorem Nums.swap_ (h : Nums w g d) {j : Nat} (h1 : 1 ≤ j) (h2 : j < d.size) : Nums ((w.setCell ⟨g, j, none⟩ (enc d[j - 1]!)).setCell ⟨g, j - 1, none⟩ (enc d[j]!)) g (d.swap (j - 1) j (by omega) h2) := by
 have hp := Row.put (Row.put h.row (i := j) (by simpa using h2) (enc d[j - 1]!)) (i := j - 1) (by simp; omega) (enc d[j]!)
 have e : (d.swap (j - 1) j (by omega) h2).toList.map enc = ((d.toList.map enc).set j (enc d[j - 1]!)).set (j - 1) (enc d[j]!) := by
  apply List.ext_getElem?
  intro k
  by_cases hk : k < d.size
  ·rw [List.getElem?_map, Array.getElem?_toList, Array.getElem?_eq_getElem (by simpa using hk), ← bang (by simpa using hk), swap_get _ _ _ hk, List.getElem?_set, List.getElem?_set, List.getElem?_map, Array.getElem?_toList, Array.getElem?_eq_getElem hk]
   simp only [List.length_set, List.length_map, Array.length_toList]
   by_cases c1 : k = j - 1
   ·subst c1; simp [hk]
   ·by_cases c2 : k = j
    ·subst c2
     have c3 : ¬ k - 1 = k := fun e => c1 e.symm
     simp [hk, c1, c3]
    ·have c3 : ¬ j - 1 = k := fun e => c1 e.symm
     have c4 : ¬ j = k := fun e => c2 e.symm
     simp [hk, c1, c2, c3, c4]
  ·rw [List.getElem?_eq_none (by simp; omega), List.getElem?_eq_none (by simp; omega)]
 obtain ⟨cs, hcs⟩ := h.kind
 refine ⟨?_, _, (hcs.put j _).put (j - 1) _⟩
 rw [e]
 exact hp
theorem Nums.drew (h : Nums w g d) : Nums w.drew g d := ⟨Row.drew h.row, h.kind⟩
end
structure But (d : Array Nat) (i j : Nat) : Prop where
 one : ∀ a b, a < b → b ≤ i → a ≠ j → b ≠ j → d[a]! ≤ d[b]!
 two : ∀ b, j < b → b ≤ i → d[j]! ≤ d[b]!
def Upto (d : Array Nat) (i : Nat) : Prop := ∀ a b, a < b → b < i → d[a]! ≤ d[b]!
section
variable {d : Array Nat} {i j : Nat}
theorem But.start (h : Upto d i) : But d i i := ⟨fun a b hab hb _ hbj => h a b hab (by omega), fun b h1 h2 => by omega⟩
theorem But.zero (h : But d i 0) : Upto d (i + 1) := fun a b hab hb => by
 by_cases e : a = 0
 ·subst e; exact h.two b hab (by omega)
 ·exact h.one a b hab (by omega) e (by omega)
theorem But.stop (h : But d i j) (hj : 1 ≤ j) (hji : j ≤ i) (hn : ¬ d[j]! < d[j - 1]!) : Upto d (i + 1) := fun a b hab hb => by
 by_cases e : a = j
 ·subst e; exact h.two b hab (by omega)
 ·by_cases e2 : b = j
  ·subst e2
   by_cases e3 : a = b - 1
   ·subst e3; omega
   ·have := h.one a (b - 1) (by omega) (by omega) (by omega) (by omega); omega
  ·exact h.one a b hab (by omega) e e2
theorem But.step (h : But d i j) (hj : 1 ≤ j) (hji : j ≤ i) (hi : i < d.size) (hl : d[j]! < d[j - 1]!) : But (d.swap (j - 1) j (by omega) (by omega)) i (j - 1) := by
 refine ⟨fun a b hab hb h1 h2 => ?_, fun b h1 h2 => ?_⟩
 ·rw [swap_get _ _ a (by omega), swap_get _ _ b (by omega), if_neg h1, if_neg h2]
  by_cases e : a = j
  ·subst e
   rw [if_pos rfl, if_neg (by omega)]
   exact h.one (a - 1) b (by omega) hb (by omega) (by omega)
  ·rw [if_neg e]
   by_cases e2 : b = j
   ·subst e2
    rw [if_pos rfl]
    exact h.one a (b - 1) (by omega) (by omega) e (by omega)
   ·rw [if_neg e2]
    exact h.one a b hab hb e e2
 ·rw [swap_get _ _ (j - 1) (by omega), swap_get _ _ b (by omega), if_pos rfl, if_neg (by omega)]
  by_cases e : b = j
  ·rw [if_pos e]; omega
  ·rw [if_neg e]; exact h.two b (by omega) h2
end
theorem nan_c (x : Int) (w : World) : Calls Tryz.prog 178 #[.int .u64 x] w fun e w' => e = .returned (.bool false) ∧ w = w' := by
 go_enter Tryz.func178, Tryz.ntmps178
 go_wp2_with fail
 go_ret
 exact ⟨by simp, rfl⟩
theorem less_c (x y : Nat) (w : World) : Calls Tryz.prog 148 #[.int .u64 x, .int .u64 y] w fun e w' => e = .returned (.bool (decide (x < y))) ∧ w = w' := by
 go_enter Tryz.func148, Tryz.ntmps148
 go_wp2_with fail
 refine (nan_c _ _).mono ?_
 rintro e w' ⟨rfl, rfl⟩
 go_wp2_with fail
 go_ret
 exact ⟨by simp, rfl⟩
end Go.Proofs.YtkiabladmgagdabGreatDoor.Numsy
namespace Go.Proofs.YtkiabladmgagdabGreatDoor.Numsy
open Go.ChangeShapes Go.WideShapes Go.ChangeAt Go.RowKit
open Wirey (Blk Row str Kp)
open Regy
set_option maxHeartbeats 4000000 in
set_option maxRecDepth 100000 in
theorem ins_c {n c : Nat} {d0 : Array Nat} {g : Nat} (hs : d0.size = n) (hn : n ≤ 1000) (_hc : n ≤ c) (w : World) (h : Nums w g d0) :
  Calls Tryz.prog 142 #[.slice (some ⟨g, 0, none⟩) n c, .int .i64 0, .int .i64 n] w fun e w' => e = .returned (.tuple #[]) ∧ ∃ d, Nums w' g d ∧ d.size = n ∧ d.toList.Perm d0.toList ∧ Upto d n ∧ Kp (fun k => k = g) w w' := by
 go_enter Tryz.func142, Tryz.ntmps142
 go_wp2_with fail
 go_loopw [6] (fun v wr => ∃ (i : Nat) (d : Array Nat), 1 ≤ i ∧ (i ≤ n ∨ i = 1) ∧ v = .int .i64 i ∧ Nums wr g d ∧ d.size = n ∧ d.toList.Perm d0.toList ∧ Upto d i ∧ Kp (fun k => k = g) w wr) (fun v _ => n + 1 - (intOf v).toNat)
 case atStart => exact ⟨1, d0, by omega, .inr rfl, rfl, h, hs, List.Perm.refl _, fun a b h1 h2 => by omega, Kp.refl _ _⟩
 case round =>
  clear h hs
  obtain ⟨i, d, hi1, hin, rfl, hN, hds, hp, hu, hk⟩ := hrel
  by_cases h3 : i < n
  ·have hlt : (i : Int) < (n : Int) := by omega
   go_wp2_with fail
   go_loopw [7] (fun v wx => ∃ (j : Nat) (e : Array Nat), j ≤ i ∧ v = .int .i64 j ∧ Nums wx g e ∧ e.size = n ∧ e.toList.Perm d0.toList ∧ But e i j ∧ Kp (fun k => k = g) w wx) (fun v _ => (intOf v).toNat)
   case atStart => exact ⟨i, d, Nat.le_refl _, rfl, hN, hds, hp, But.start hu, hk⟩
   case round =>
    clear hN hds hp hu hk d
    obtain ⟨j, d, hji, rfl, hN, hds, hp, hb, hk⟩ := hrel
    by_cases hj0 : j = 0
    ·subst hj0
     have d1 : decide ((0 : Int) < ((0 : Nat) : Int)) = false := rfl
     have hz := hb.zero
     go_wp2_with fail
     refine region_only 15 #[false, false, false, false, false, false, false, false, false, false, false, false, false, false, false] (S := (fun _ => True)) rfl rfl (by kernel_rfl) trivial (fun hSw => ?_)
     refine tkA 0 16 14 ?_ rfl rfl ?_ hSw ?_
     rotate_left
     ·intro wx hSx; (try dsimp only at hSx); go_split_ands; go_simp; (try with_reducible rfl)
     simp only [sA, List.set_cons_zero, sC]
     refine tkA 1 17 13 ?_ rfl rfl ?_ hSw ?_
     rotate_left
     ·intro wx hSx; (try dsimp only at hSx); go_split_ands; go_simp; (try with_reducible rfl)
     simp only [sA, List.set_cons_zero, sC]
     refine tkA 2 18 12 ?_ rfl rfl ?_ hSw ?_
     rotate_left
     ·intro wx hSx; (try dsimp only at hSx); go_split_ands; go_simp; (try with_reducible rfl)
     simp only [sA, List.set_cons_zero, sC]
     refine tkA 3 19 11 ?_ rfl rfl ?_ hSw ?_
     rotate_left
     ·intro wx hSx; (try dsimp only at hSx); go_split_ands; go_simp; (try with_reducible rfl)
     simp only [sA, List.set_cons_zero, sC]
     refine take_at 4 20 undef (fuel := 10) rfl rfl (by kernel_rfl) (by kernel_rfl) (by kernel_rfl) (Or.inr ⟨by rfl, rfl⟩) hSw ?_
     simp only [sA, List.set_cons_zero, sC]
     refine take_at 5 21 undef (fuel := 9) rfl rfl (by kernel_rfl) (by kernel_rfl) (by kernel_rfl) (Or.inr ⟨by rfl, rfl⟩) hSw ?_
     simp only [sA, List.set_cons_zero, sC]
     refine take_at 6 22 undef (fuel := 8) rfl rfl (by kernel_rfl) (by kernel_rfl) (by kernel_rfl) (Or.inr ⟨by rfl, rfl⟩) hSw ?_
     simp only [sA, List.set_cons_zero, sC]
     refine take_at 7 23 undef (fuel := 7) rfl rfl (by kernel_rfl) (by kernel_rfl) (by kernel_rfl) (Or.inr ⟨by rfl, rfl⟩) hSw ?_
     simp only [sA, List.set_cons_zero, sC]
     refine take_at 8 24 undef (fuel := 6) rfl rfl (by kernel_rfl) (by kernel_rfl) (by kernel_rfl) (Or.inr ⟨by rfl, rfl⟩) hSw ?_
     simp only [sA, List.set_cons_zero, sC]
     refine take_at 9 25 undef (fuel := 5) rfl rfl (by kernel_rfl) (by kernel_rfl) (by kernel_rfl) (Or.inr ⟨by rfl, rfl⟩) hSw ?_
     simp only [sA, List.set_cons_zero, sC]
     refine take_at 10 26 undef (fuel := 4) rfl rfl (by kernel_rfl) (by kernel_rfl) (by kernel_rfl) (Or.inr ⟨by rfl, rfl⟩) hSw ?_
     simp only [sA, List.set_cons_zero, sC]
     refine take_at 11 27 undef (fuel := 3) rfl rfl (by kernel_rfl) (by kernel_rfl) (by kernel_rfl) (Or.inr ⟨by rfl, rfl⟩) hSw ?_
     simp only [sA, List.set_cons_zero, sC]
     refine take_at 12 28 undef (fuel := 2) rfl rfl (by kernel_rfl) (by kernel_rfl) (by kernel_rfl) (Or.inr ⟨by rfl, rfl⟩) hSw ?_
     simp only [sA, List.set_cons_zero, sC]
     refine take_at 13 29 undef (fuel := 1) rfl rfl (by kernel_rfl) (by kernel_rfl) (by kernel_rfl) (Or.inr ⟨by rfl, rfl⟩) hSw ?_
     simp only [sA, List.set_cons_zero, sC]
     refine tkA 14 30 0 ?_ rfl rfl ?_ hSw ?_
     rotate_left
     ·intro wx hSx; (try dsimp only at hSx); go_split_ands; go_simp; (try with_reducible rfl)
     simp only [sA, List.set_cons_zero, sC]
     refine wpAnyH_done (by kernel_rfl) ⟨rfl, ?_⟩ 0
     have hk2 := hk.trans (Kp.trans (b := wr) (Kp.refl _ _) ⟨rfl, rfl, rfl, Nat.le_refl _, fun _ _ _ => rfl⟩ : Kp (fun k => k = g) wr wr.drew)
     have hN2 := hN.drew
     clear hSw hN hk hb
     go_wp2_with fail
     refine ⟨⟨i + 1, d, by omega, by omega, rfl, hN2, hds, hp, hz, hk2⟩, ?_⟩
     simp [intOf]; omega
    ·have hjp : (0 : Int) < (j : Int) := by omega
     have d1 : decide ((0 : Int) < (j : Int)) = true := decide_eq_true hjp
     have d2 : decide (0 < j) = true := decide_eq_true (by omega)
     have hjs : j < d.size := by omega
     have hks : j - 1 < d.size := by omega
     have hjn : j < n := by omega
     have hkn : j - 1 < n := by omega
     have hsub : IntKind.i64.wrap ((j : Int) - 1) = ((j - 1 : Nat) : Int) := by rw [IntWalk.i64_in _ (by omega)]; omega
     have yj : wr.drew.cell? ⟨g, j, none⟩ = some (enc d[j]!) := hN.drew.at_ hjs
     have yk : wr.drew.cell? ⟨g, j - 1, none⟩ = some (enc d[j - 1]!) := hN.drew.at_ hks
     have hst := fun (hl : d[j]! < d[j - 1]!) => But.step hb (by omega) hji (by omega) hl
     have hsp := fun (hl : ¬ d[j]! < d[j - 1]!) => But.stop hb (by omega) hji hl
     have hsw := hN.drew.drew.swap_ (j := j) (by omega) hjs
     generalize d[j]! = dj at *
     generalize d[j - 1]! = dk at *
     go_wp2_with fail
     refine region_only 15 #[false, false, false, false, false, false, false, false, false, false, false, false, false, false, false] (S := (fun W => W.cell? ⟨g, j, none⟩ = some (enc dj) ∧ W.cell? ⟨g, j - 1, none⟩ = some (enc dk))) rfl rfl (by kernel_rfl) ⟨yj, yk⟩ (fun hSw => ?_)
     refine tkA 0 16 14 ?_ rfl rfl ?_ hSw ?_
     rotate_left
     ·intro wx hSx; (try dsimp only at hSx); go_split_ands; go_simp; (try with_reducible rfl)
     simp only [sA, List.set_cons_zero, sC]
     refine tkA 1 17 13 ?_ rfl rfl ?_ hSw ?_
     rotate_left
     ·intro wx hSx; (try dsimp only at hSx); go_split_ands; go_simp; (try with_reducible rfl)
     simp only [sA, List.set_cons_zero, sC]
     refine tkA 2 18 12 ?_ rfl rfl ?_ hSw ?_
     rotate_left
     ·intro wx hSx; (try dsimp only at hSx); go_split_ands; go_simp; (try with_reducible rfl)
     simp only [sA, List.set_cons_zero, sC]
     refine tkA 3 19 11 ?_ rfl rfl ?_ hSw ?_
     rotate_left
     ·intro wx hSx; (try dsimp only at hSx); go_split_ands; go_simp; (try with_reducible rfl)
     simp only [sA, List.set_cons_zero, sC]
     refine tkA 4 20 10 ?_ rfl rfl ?_ hSw ?_
     rotate_left
     ·intro wx hSx; (try dsimp only at hSx); go_split_ands; go_simp; (try with_reducible rfl)
     simp only [sA, List.set_cons_zero, sC]
     refine tkA 5 21 9 ?_ rfl rfl ?_ hSw ?_
     rotate_left
     ·intro wx hSx; (try dsimp only at hSx); go_split_ands; go_simp; (try with_reducible rfl)
     simp only [sA, List.set_cons_zero, sC]
     refine tkA 6 22 8 ?_ rfl rfl ?_ hSw ?_
     rotate_left
     ·intro wx hSx; (try dsimp only at hSx); go_split_ands; go_simp; (try with_reducible rfl)
     simp only [sA, List.set_cons_zero, sC]
     refine tkA 7 23 7 ?_ rfl rfl ?_ hSw ?_
     rotate_left
     ·intro wx hSx; (try dsimp only at hSx); go_split_ands; go_simp; (try with_reducible rfl)
     simp only [sA, List.set_cons_zero, sC]
     refine tkA 8 24 6 ?_ rfl rfl ?_ hSw ?_
     rotate_left
     ·intro wx hSx; (try dsimp only at hSx); go_split_ands; go_simp; (try with_reducible rfl)
     simp only [sA, List.set_cons_zero, sC]
     refine tkA 9 25 5 ?_ rfl rfl ?_ hSw ?_
     rotate_left
     ·intro wx hSx; (try dsimp only at hSx); go_split_ands; go_simp; (try with_reducible rfl)
     simp only [sA, List.set_cons_zero, sC]
     refine tkA 10 26 4 ?_ rfl rfl ?_ hSw ?_
     rotate_left
     ·intro wx hSx; (try dsimp only at hSx); go_split_ands; go_simp; (try with_reducible rfl)
     simp only [sA, List.set_cons_zero, sC]
     refine tkA 11 27 3 ?_ rfl rfl ?_ hSw ?_
     rotate_left
     ·intro wx hSx; (try dsimp only at hSx); go_split_ands; go_simp; (try with_reducible rfl)
     simp only [sA, List.set_cons_zero, sC]
     refine tkA 12 28 2 ?_ rfl rfl ?_ hSw ?_
     rotate_left
     ·intro wx hSx; (try dsimp only at hSx); go_split_ands; go_simp; (try with_reducible rfl)
     simp only [sA, List.set_cons_zero, sC]
     refine rdA 1 13 rfl fun K hK => ?_
     go_simp
     refine Calls.mono (less_c _ _ _) ?_
     rintro e wv ⟨rfl, rfl⟩
     refine hK.out _ _ hSw (fun hSw => ?_)
     clear hK K
     simp only [sA, List.set_cons_zero, sC]
     refine tkA 14 30 0 ?_ rfl rfl ?_ hSw ?_
     rotate_left
     ·intro wx hSx; (try dsimp only at hSx); go_split_ands; go_simp; (try with_reducible rfl)
     simp only [sA, List.set_cons_zero, sC]
     refine wpAnyH_done (by kernel_rfl) ⟨rfl, ?_⟩ 0
     have hkd : Kp (fun k => k = g) wr wr.drew := ⟨rfl, rfl, rfl, Nat.le_refl _, fun _ _ _ => rfl⟩
     by_cases hl : dj < dk
     ·have dl : decide (dj < dk) = true := decide_eq_true hl
      have hb2 := hst hl
      have hp2 : (d.swap (j - 1) j (by omega) hjs).toList.Perm d0.toList := (Array.swap_perm (by omega) hjs).toList.trans hp
      have hs2 : (d.swap (j - 1) j (by omega) hjs).size = n := by rw [Array.size_swap]; exact hds
      clear hst hsp hb hp
      go_upto_region 6 with (fail)
      have zj : wr.drew.drew.cell? ⟨g, j, none⟩ = some (enc dj) := yj
      have zk : wr.drew.drew.cell? ⟨g, j - 1, none⟩ = some (enc dk) := yk
      have fj : wr.drew.drew.frozen? ⟨g, j, none⟩ = false := hN.drew.free_ hjs
      have fk : wr.drew.drew.frozen? ⟨g, j - 1, none⟩ = false := hN.drew.free_ hks
      have hne : ¬ j = j - 1 := by omega
      have hkk : Kp (fun k => k = g) w ((wr.drew.drew.setCell ⟨g, j, none⟩ (enc dk)).setCell ⟨g, j - 1, none⟩ (enc dj)) :=
       ((hk.trans (hkd.trans (c := wr.drew.drew) ⟨rfl, rfl, rfl, Nat.le_refl _, fun _ _ _ => rfl⟩)).set (p := ⟨g, j, none⟩) rfl _).set (p := ⟨g, j - 1, none⟩) rfl _
      clear hkd hk hN hSw yj yk
      refine regionK_only 18 #[false, false, false, false, false, false, false, false, false, false, false, false, false, false, false, false, false, false] 15 (V := (fun W : World => W.cell? ⟨g, j, none⟩ = some (enc dj) ∧ W.cell? ⟨g, j - 1, none⟩ = some (enc dk))) rfl rfl (by kernel_rfl) ⟨zj, zk⟩ (fun hSw => ?_)
      generalize wr.drew.drew = wd at *
      refine early_at 15 0 33 (fuel := 17) ?_ rfl rfl (by kernel_rfl) (by kernel_rfl) (by kernel_rfl) (by decide) rfl (by kernel_rfl) (by kernel_rfl) (Or.inl ⟨by rfl, ?_⟩) hSw ?_
      rotate_left
      ·intro wx hSx
       (try dsimp only at hSx)
       go_split_ands
       go_simp
       (try with_reducible rfl)
      simp only [sA, List.set_cons_zero, sC]
      refine early_at 15 1 34 (fuel := 16) ?_ rfl rfl (by kernel_rfl) (by kernel_rfl) (by kernel_rfl) (by decide) rfl (by kernel_rfl) (by kernel_rfl) (Or.inl ⟨by rfl, ?_⟩) hSw ?_
      rotate_left
      ·intro wx hSx
       (try dsimp only at hSx)
       go_split_ands
       go_simp
       (try with_reducible rfl)
      simp only [sA, List.set_cons_zero, sC]
      refine takeK_at 15 2 35 (fuel := 15) ?_ rfl rfl (by kernel_rfl) (by kernel_rfl) (by kernel_rfl) (by decide) (Or.inl ⟨by rfl, ?_⟩) hSw ?_
      rotate_left
      ·intro wx hSx
       (try dsimp only at hSx)
       go_split_ands
       go_simp
       (try with_reducible rfl)
      simp only [sA, List.set_cons_zero, sC]
      refine takeK_at 15 3 36 (fuel := 14) ?_ rfl rfl (by kernel_rfl) (by kernel_rfl) (by kernel_rfl) (by decide) (Or.inl ⟨by rfl, ?_⟩) hSw ?_
      rotate_left
      ·intro wx hSx
       (try dsimp only at hSx)
       go_split_ands
       go_simp
       (try with_reducible rfl)
      simp only [sA, List.set_cons_zero, sC]
      refine takeK_at 15 4 37 (fuel := 13) ?_ rfl rfl (by kernel_rfl) (by kernel_rfl) (by kernel_rfl) (by decide) (Or.inl ⟨by rfl, ?_⟩) hSw ?_
      rotate_left
      ·intro wx hSx
       (try dsimp only at hSx)
       go_split_ands
       go_simp
       (try with_reducible rfl)
      simp only [sA, List.set_cons_zero, sC]
      refine early_at 15 5 38 (fuel := 12) ?_ rfl rfl (by kernel_rfl) (by kernel_rfl) (by kernel_rfl) (by decide) rfl (by kernel_rfl) (by kernel_rfl) (Or.inl ⟨by rfl, ?_⟩) hSw ?_
      rotate_left
      ·intro wx hSx
       (try dsimp only at hSx)
       go_split_ands
       go_simp
       (try with_reducible rfl)
      simp only [sA, List.set_cons_zero, sC]
      refine early_at 15 6 39 (fuel := 11) ?_ rfl rfl (by kernel_rfl) (by kernel_rfl) (by kernel_rfl) (by decide) rfl (by kernel_rfl) (by kernel_rfl) (Or.inl ⟨by rfl, ?_⟩) hSw ?_
      rotate_left
      ·intro wx hSx
       (try dsimp only at hSx)
       go_split_ands
       go_simp
       (try with_reducible rfl)
      simp only [sA, List.set_cons_zero, sC]
      refine early_at 15 7 40 (fuel := 10) ?_ rfl rfl (by kernel_rfl) (by kernel_rfl) (by kernel_rfl) (by decide) rfl (by kernel_rfl) (by kernel_rfl) (Or.inl ⟨by rfl, ?_⟩) hSw ?_
      rotate_left
      ·intro wx hSx
       (try dsimp only at hSx)
       go_split_ands
       go_simp
       (try with_reducible rfl)
      simp only [sA, List.set_cons_zero, sC]
      refine early_at 15 8 41 (fuel := 9) ?_ rfl rfl (by kernel_rfl) (by kernel_rfl) (by kernel_rfl) (by decide) rfl (by kernel_rfl) (by kernel_rfl) (Or.inl ⟨by rfl, ?_⟩) hSw ?_
      rotate_left
      ·intro wx hSx
       (try dsimp only at hSx)
       go_split_ands
       go_simp
       (try with_reducible rfl)
      simp only [sA, List.set_cons_zero, sC]
      refine early_at 15 9 42 (fuel := 8) ?_ rfl rfl (by kernel_rfl) (by kernel_rfl) (by kernel_rfl) (by decide) rfl (by kernel_rfl) (by kernel_rfl) (Or.inl ⟨by rfl, ?_⟩) hSw ?_
      rotate_left
      ·intro wx hSx
       (try dsimp only at hSx)
       go_split_ands
       go_simp
       (try with_reducible rfl)
      simp only [sA, List.set_cons_zero, sC]
      refine takeK_at 15 10 43 (fuel := 7) ?_ rfl rfl (by kernel_rfl) (by kernel_rfl) (by kernel_rfl) (by decide) (Or.inl ⟨by rfl, ?_⟩) hSw ?_
      rotate_left
      ·intro wx hSx
       (try dsimp only at hSx)
       go_split_ands
       go_simp
       (try with_reducible rfl)
      simp only [sA, List.set_cons_zero, sC]
      refine takeK_at 15 11 44 (fuel := 6) ?_ rfl rfl (by kernel_rfl) (by kernel_rfl) (by kernel_rfl) (by decide) (Or.inl ⟨by rfl, ?_⟩) hSw ?_
      rotate_left
      ·intro wx hSx
       (try dsimp only at hSx)
       go_split_ands
       go_simp
       (try with_reducible rfl)
      simp only [sA, List.set_cons_zero, sC]
      refine takeK_at 15 12 45 (fuel := 5) ?_ rfl rfl (by kernel_rfl) (by kernel_rfl) (by kernel_rfl) (by decide) (Or.inl ⟨by rfl, ?_⟩) hSw ?_
      rotate_left
      ·intro wx hSx
       (try dsimp only at hSx)
       go_split_ands
       go_simp
       (try with_reducible rfl)
      simp only [sA, List.set_cons_zero, sC]
      refine early_at 15 13 46 (fuel := 4) ?_ rfl rfl (by kernel_rfl) (by kernel_rfl) (by kernel_rfl) (by decide) rfl (by kernel_rfl) (by kernel_rfl) (Or.inl ⟨by rfl, ?_⟩) hSw ?_
      rotate_left
      ·intro wx hSx
       (try dsimp only at hSx)
       go_split_ands
       go_simp
       (try with_reducible rfl)
      simp only [sA, List.set_cons_zero, sC]
      refine early_at 15 14 47 (fuel := 3) ?_ rfl rfl (by kernel_rfl) (by kernel_rfl) (by kernel_rfl) (by decide) rfl (by kernel_rfl) (by kernel_rfl) (Or.inl ⟨by rfl, ?_⟩) hSw ?_
      rotate_left
      ·intro wx hSx
       (try dsimp only at hSx)
       go_split_ands
       go_simp
       (try with_reducible rfl)
      simp only [sA, List.set_cons_zero, sC]
      refine Wirey.wpAnyK_one 15 (by kernel_rfl) rfl (fun K hK => ?_)
      go_simp
      refine hK.out _ _ trivial (fun h9 => absurd h9 (by decide)) ?_
      clear hK K
      simp only [sA, List.set_cons_zero, sC]
      refine Wirey.wpAnyK_take (v := ?_) 16 (some 48) rfl (by kernel_rfl) (by kernel_rfl) (by kernel_rfl) (by decide) (fun _ _ _ h => h.panic) trivial (fun h9 => absurd h9 (by decide)) (Or.inl ⟨by rfl, ?_⟩) rfl ?_
      rotate_left
      ·intro wx hSx
       go_simp
       (try with_reducible rfl)
      simp only [sA, List.set_cons_zero, sC]
      refine Wirey.wpAnyK_one 17 (by kernel_rfl) rfl (fun K hK => ?_)
      go_simp
      refine hK.out _ _ trivial (fun h9 => absurd h9 (by decide)) ?_
      clear hK K
      simp only [sA, List.set_cons_zero, sC]
      refine Wirey.wpAnyK_done (by kernel_rfl) ⟨rfl, ?_⟩
      have hj1 : j - 1 ≤ i := by omega
      clear zj zk fj fk hSw
      go_wp2_with fail
      go_roundw
      case rel => exact ⟨j - 1, _, hj1, rfl, hsw, hs2, hp2, hb2, hkk⟩
      case measure => simp [intOf]; omega
     ·have dl : decide (dj < dk) = false := decide_eq_false hl
      have hz := hsp hl
      have hN2 := hN.drew
      have hk2 := hk.trans hkd
      clear hst hsp hb hsw hSw yj yk
      go_wp2_with fail
      refine ⟨⟨i + 1, d, by omega, by omega, rfl, hN2, hds, hp, hz, hk2⟩, ?_⟩
      simp [intOf]; omega
  ·go_wp2_with fail
   exact bodyPost_end (v := .tuple #[]) (results_none rfl _ _ _) rfl ⟨rfl, d, hN, hds, hp, fun a b h1 h2 => hu a b h1 (by omega), hk⟩
end Go.Proofs.YtkiabladmgagdabGreatDoor.Numsy
