/- Chapter 9 over plain lists: a policy is of the one kind or the other, and all calls are that one's. It speaks of no program. The program's policy in memory, and what each of its calls makes of it, of whichever kind it is. The only condition: a key is no longer than a text may be. -/
import Derived.Test.YtkiabladmgagdabGreatDoorArcDoAll
import Derived.Test.YtkiabladmgagdabGreatDoorTinyMath
import Derived.Test.YtkiabladmgagdabGreatDoorArcMakeAll
import Derived.Test.YtkiabladmgagdabGreatDoorTinyMakeAll
import Derived.Test.YtkiabladmgagdabGreatDoorSq
namespace Go.Proofs.YtkiabladmgagdabGreatDoor.Policyy
open Ringy
open Arcy (Av)
open Tinyy (Tv)

inductive Pv where
 | a (v : Av)
 | t (v : Tv)
def Pv.kind : Pv → Nat
 | .a _ => 1
 | .t _ => 2
def Pv.has : Pv → Key → Bool
 | .a v, k => v.has k
 | .t v, k => v.has k
def Pv.kept : Pv → Nat
 | .a v => v.kept
 | .t v => v.kept
def Pv.touch : Pv → Key → Pv
 | .a v, k => .a (v.touch k)
 | .t v, k => .t (v.touch k)
def Pv.miss : Pv → Key → Pv
 | .a v, _ => .a v
 | .t v, k => if v.has k = true then .t v else .t (v.miss k)
def Pv.insert : Pv → Key → Pv
 | .a v, k => .a (v.insert k)
 | .t v, k => .t (v.insert k)
def Pv.insertK : Pv → Key → List Key
 | .a v, k => v.insertK k
 | .t v, k => v.insertK k
def Pv.drop : Pv → Key → Pv
 | .a v, k => .a (v.dr k)
 | .t v, k => .t (v.dr k)
def Pv.goes : Pv → Option Key
 | .a v => v.last (v.src false)
 | .t v => v.goes
def Pv.evict : Pv → Pv
 | .a v => .a (v.repl false)
 | .t v => .t v.evict
def Pv.new (kind n seed : Nat) : Pv := if kind = 1 then .a (Av.new n) else .t (Tv.new n seed)
def Pv.Out : Pv → Prop
 | .a v => v.Ok ∧ ∀ i, 4 ≤ i → v.rg.l i = []
 | .t v => v.Ok ∧ ∀ i, 3 ≤ i → v.rg.l i = []
end Go.Proofs.YtkiabladmgagdabGreatDoor.Policyy
namespace Go.Proofs.YtkiabladmgagdabGreatDoor.Policyy
open Go.ChangeShapes Go.WideShapes Go.ChangeAt Go.RowKit
open Wirey (Blk Row str str_size str_list Kp)
open Ringy
open Arcy (Av HeldA StepA)
open Tinyy (Tv HeldT StepT)
open Sketchy (Six)

inductive HeldP (w0 : World) (C : Nat) (w : World) : Pv → (Nat → Prop) → Prop where
 | a {A P : Nat} {m : Rm} {v : Av} (h : HeldA w0 A P w m v) (box : Blk w C 111 #[.int .i64 1, .iface 133 (.pointer (some ⟨A, 0, none⟩))]) (lo : w0.heap.size ≤ C) (nA : C ≠ A) (no : ¬ m.own C) : HeldP w0 C w (.a v) (fun b => b = C ∨ b = A ∨ m.own b)
 | t {A B P : Nat} {m : Rm} {v : Tv} (h : HeldT w0 A B P w m v) (ok : v.Ok) (box : Blk w C 111 #[.int .i64 2, .iface 136 (.pointer (some ⟨A, 0, none⟩))]) (lo : w0.heap.size ≤ C) (nA : C ≠ A) (no : ¬ m.own C) (n6 : ¬ Six B C) : HeldP w0 C w (.t v) (fun b => b = C ∨ b = A ∨ m.own b ∨ Six B b)
structure StepP (w : World) (H : Nat → Prop) (w' : World) (H' : Nat → Prop) : Prop where
 kp : Kp H w w'
 own : ∀ b, H' b → H b ∨ w.heap.size ≤ b
section
variable {w0 w w' w'' : World} {C : Nat} {p : Pv} {H H' H'' : Nat → Prop} {k : Key}
theorem StepP.refl (H : Nat → Prop) (w : World) : StepP w H w H := ⟨Kp.refl _ _, fun _ h => .inl h⟩
theorem StepP.ofA {A : Nat} {m m' : Rm} (h : StepA A w m w' m') : StepP w (fun b => b = C ∨ b = A ∨ m.own b) w' (fun b => b = C ∨ b = A ∨ m'.own b) :=
 ⟨⟨h.kp.os, h.kp.tape, h.kp.output, h.kp.size, fun k hk hn => h.kp.block k hk (fun ho => ho.elim (fun x => hn (.inr (.inr x))) fun x => hn (.inr (.inl x)))⟩, fun b hb => by
   rcases hb with rfl | rfl | hb
   · exact .inl (.inl rfl)
   · exact .inl (.inr (.inl rfl))
   · exact (h.own b hb).imp (fun x => .inr (.inr x)) id⟩
theorem StepP.ofT {A B : Nat} {m m' : Rm} (h : StepT B w m w' m') : StepP w (fun b => b = C ∨ b = A ∨ m.own b ∨ Six B b) w' (fun b => b = C ∨ b = A ∨ m'.own b ∨ Six B b) :=
 ⟨⟨h.kp.os, h.kp.tape, h.kp.output, h.kp.size, fun k hk hn => h.kp.block k hk (fun ho => ho.elim (fun x => hn (.inr (.inr (.inl x)))) fun x => hn (.inr (.inr (.inr x))))⟩, fun b hb => by
   rcases hb with rfl | rfl | hb | hb
   · exact .inl (.inl rfl)
   · exact .inl (.inr (.inl rfl))
   · exact (h.own b hb).imp (fun x => .inr (.inr (.inl x))) id
   · exact .inl (.inr (.inr (.inr hb)))⟩
theorem HeldP.below (h : HeldP w0 C w p H) : Below w0.heap.size w0 w := by
 cases h with
 | a h => exact h.below
 | t h => exact h.below
theorem HeldP.own (h : HeldP w0 C w p H) : ∀ b, H b → w0.heap.size ≤ b ∧ b < w.heap.size := by
 cases h with
 | a h box lo nA no =>
  rintro b (rfl | rfl | hb)
  ·exact ⟨lo, box.lt⟩
  ·exact ⟨h.lo, h.lt⟩
  ·exact ⟨h.h.own b hb, h.h.lt b hb⟩
 | t h ok box lo nA no n6 =>
  rintro b (rfl | rfl | hb | hb)
  ·exact ⟨lo, box.lt⟩
  ·exact ⟨h.loA, h.lt⟩
  ·exact ⟨h.h.own b hb, h.h.lt b hb⟩
  ·exact ⟨Nat.le_trans h.loB hb.1, by have := h.sk.lt; have := hb.2; omega⟩
theorem HeldP.later {D : Nat} (h : HeldP w0 C w p H) (hb : Below D w w') (hD : w.heap.size ≤ D) : HeldP w0 C w' p H := by
 cases h with
 | a h box lo nA no => exact .a (h.later hb hD) (box.below hb (Nat.lt_of_lt_of_le box.lt hD)) lo nA no
 | t h ok box lo nA no n6 => exact .t (h.later hb hD) ok (box.below hb (Nat.lt_of_lt_of_le box.lt hD)) lo nA no n6
theorem HeldP.drewN (h : HeldP w0 C w p H) (n : Nat) : HeldP w0 C (w.drewN n) p H := h.later (D := w.heap.size) ⟨rfl, rfl, rfl, Nat.le_refl _, fun _ _ => rfl⟩ (Nat.le_refl _)
theorem HeldP.alloc (h : HeldP w0 C w p H) (o : Obj) : HeldP w0 C (w.alloc o) p H := h.later ((Below.refl _ w).alloc (Nat.le_refl _) o) (Nat.le_refl _)
theorem HeldP.kp {O : Nat → Prop} (h : HeldP w0 C w p H) (hk : Kp O w w') (hO : ∀ b, O b → w0.heap.size ≤ b ∧ ¬ H b) : HeldP w0 C w' p H := by
 cases h with
 | a h box lo nA no => exact .a (h.kp hk fun b hb => ⟨(hO b hb).1, fun x => (hO b hb).2 (.inr (.inr x)), fun x => (hO b hb).2 (.inr (.inl x))⟩) ((hk.block C box.lt (fun ho => (hO C ho).2 (.inl rfl))).trans box) lo nA no
 | t h ok box lo nA no n6 => exact .t (h.kp hk fun b hb => ⟨(hO b hb).1, fun x => (hO b hb).2 (.inr (.inr (.inl x))), fun x => (hO b hb).2 (.inr (.inl x)), fun x => (hO b hb).2 (.inr (.inr (.inr x)))⟩) ok ((hk.block C box.lt (fun ho => (hO C ho).2 (.inl rfl))).trans box) lo nA no n6
theorem HeldP.low {w1 : World} (h : HeldP w1 C w p H) (hb : Below w0.heap.size w0 w1) : HeldP w0 C w p H := by
 have hs := hb.size
 cases h with
 | a h box lo nA no => exact .a ⟨Tinyy.Held.low h.h hb, h.box, Nat.le_trans hs h.lo, h.no, h.ok⟩ box (Nat.le_trans hs lo) nA no
 | t h ok box lo nA no n6 => exact .t ⟨Tinyy.Held.low h.h hb, h.sk, h.box, Nat.le_trans hs h.loA, Nat.le_trans hs h.loB, h.no, h.six, h.fit⟩ ok box (Nat.le_trans hs lo) nA no n6
end
section
variable {w0 w w' : World} {A B C P : Nat} {m m' : Rm} {k : Key}
theorem putA {v v' : Av} (_h : HeldA w0 A P w m v) (box : Blk w C 111 #[.int .i64 1, .iface 133 (.pointer (some ⟨A, 0, none⟩))]) (lo : w0.heap.size ≤ C) (nA : C ≠ A) (no : ¬ m.own C) (hH : HeldA w0 A P w' m' v') (hS : StepA A w m w' m') :
  ∃ H', HeldP w0 C w' (.a v') H' ∧ StepP w (fun b => b = C ∨ b = A ∨ m.own b) w' H' :=
 ⟨_, .a hH ((hS.kp.block C box.lt (fun ho => ho.elim no nA)).trans box) lo nA (fun ho => (hS.own C ho).elim no (fun x => by have := box.lt; omega)), .ofA hS⟩
theorem putT {v v' : Tv} (_h : HeldT w0 A B P w m v) (box : Blk w C 111 #[.int .i64 2, .iface 136 (.pointer (some ⟨A, 0, none⟩))]) (lo : w0.heap.size ≤ C) (nA : C ≠ A) (no : ¬ m.own C) (n6 : ¬ Six B C) (hH : HeldT w0 A B P w' m' v') (ok : v'.Ok) (hS : StepT B w m w' m') :
  ∃ H', HeldP w0 C w' (.t v') H' ∧ StepP w (fun b => b = C ∨ b = A ∨ m.own b ∨ Six B b) w' H' :=
 ⟨_, .t hH ok ((hS.kp.block C box.lt (fun ho => ho.elim no n6)).trans box) lo nA (fun ho => (hS.own C ho).elim no (fun x => by have := box.lt; omega)) n6, .ofT hS⟩
structure Tell (base : Nat) (H : Nat → Prop) (val : Value) (l : List Key) (w : World) : Prop where
 row : w.ownsRow base 9 1 val l.length (strsV l)
 no : ∀ b, val.ownBlock = some b → ¬ H b

theorem made_p {T : TypeId} {q : Addr} {n : Int} (box : Blk w C 111 #[.int .i64 n, .iface T (.pointer (some q))]) :
  Calls Tryz.prog 50 #[.pointer (some ⟨C, 0, none⟩)] w fun e w' => e = .returned (.bool true) ∧ w = w' := by
 have c1 := box.cell 1
 simp only [List.getElem?_toArray, List.getElem?_cons_succ, List.getElem?_cons_zero] at c1
 go_enter Tryz.func50, Tryz.ntmps50
 go_wp2_with fail
 go_ret
 exact ⟨rfl, rfl⟩
theorem mAHas : ∀ (n : Nat) (a : Addr) (w : World), (method (n + 1) 133 (.pointer (some a)) "Has").run Tryz.prog w = .ok (223, .pointer (some a)) w := fun _ _ _ => by kernel_rfl
theorem mALen : ∀ (n : Nat) (a : Addr) (w : World), (method (n + 1) 133 (.pointer (some a)) "Len").run Tryz.prog w = .ok (133, .pointer (some a)) w := fun _ _ _ => by kernel_rfl
theorem mATouch : ∀ (n : Nat) (a : Addr) (w : World), (method (n + 1) 133 (.pointer (some a)) "Touch").run Tryz.prog w = .ok (226, .pointer (some a)) w := fun _ _ _ => by kernel_rfl
theorem mAInsert : ∀ (n : Nat) (a : Addr) (w : World), (method (n + 1) 133 (.pointer (some a)) "Insert").run Tryz.prog w = .ok (224, .pointer (some a)) w := fun _ _ _ => by kernel_rfl
theorem mARemove : ∀ (n : Nat) (a : Addr) (w : World), (method (n + 1) 133 (.pointer (some a)) "Remove").run Tryz.prog w = .ok (225, .pointer (some a)) w := fun _ _ _ => by kernel_rfl
theorem mAEvict : ∀ (n : Nat) (a : Addr) (w : World), (method (n + 1) 133 (.pointer (some a)) "Evict").run Tryz.prog w = .ok (221, .pointer (some a)) w := fun _ _ _ => by kernel_rfl
theorem mAExport : ∀ (n : Nat) (a : Addr) (w : World), (method (n + 1) 133 (.pointer (some a)) "Export").run Tryz.prog w = .ok (222, .pointer (some a)) w := fun _ _ _ => by kernel_rfl
theorem mTHas : ∀ (n : Nat) (a : Addr) (w : World), (method (n + 1) 136 (.pointer (some a)) "Has").run Tryz.prog w = .ok (243, .pointer (some a)) w := fun _ _ _ => by kernel_rfl
theorem mTLen : ∀ (n : Nat) (a : Addr) (w : World), (method (n + 1) 136 (.pointer (some a)) "Len").run Tryz.prog w = .ok (138, .pointer (some a)) w := fun _ _ _ => by kernel_rfl
theorem mTTouch : ∀ (n : Nat) (a : Addr) (w : World), (method (n + 1) 136 (.pointer (some a)) "Touch").run Tryz.prog w = .ok (246, .pointer (some a)) w := fun _ _ _ => by kernel_rfl
theorem mTInsert : ∀ (n : Nat) (a : Addr) (w : World), (method (n + 1) 136 (.pointer (some a)) "Insert").run Tryz.prog w = .ok (244, .pointer (some a)) w := fun _ _ _ => by kernel_rfl
theorem mTRemove : ∀ (n : Nat) (a : Addr) (w : World), (method (n + 1) 136 (.pointer (some a)) "Remove").run Tryz.prog w = .ok (245, .pointer (some a)) w := fun _ _ _ => by kernel_rfl
theorem mTEvict : ∀ (n : Nat) (a : Addr) (w : World), (method (n + 1) 136 (.pointer (some a)) "Evict").run Tryz.prog w = .ok (241, .pointer (some a)) w := fun _ _ _ => by kernel_rfl
theorem mTExport : ∀ (n : Nat) (a : Addr) (w : World), (method (n + 1) 136 (.pointer (some a)) "Export").run Tryz.prog w = .ok (242, .pointer (some a)) w := fun _ _ _ => by kernel_rfl
set_option maxRecDepth 100000 in
theorem hasA_c {v : Av} (hk : k.length ≤ maxLen) (h : HeldA w0 A P w m v) (box : Blk w C 111 #[.int .i64 1, .iface 133 (.pointer (some ⟨A, 0, none⟩))]) :
  Calls Tryz.prog 108 #[.pointer (some ⟨C, 0, none⟩), .string (str k)] w fun e w' => e = .returned (.bool (v.has k)) ∧ w = w' := by
 have c0 := box.cell 0
 have c1 := box.cell 1
 simp only [List.getElem?_toArray, List.getElem?_cons_succ, List.getElem?_cons_zero] at c0 c1
 have hm := made_p box
 have hmt := mAHas
 go_enter Tryz.func108, Tryz.ntmps108
 go_wp2_with fail
 refine hm.mono ?_
 rintro e w' ⟨rfl, rfl⟩
 go_wp2_with fail
 refine (Arcy.has_c hk h).mono ?_
 rintro e w' ⟨rfl, rfl⟩
 go_wp2_with fail
 go_ret
 exact ⟨rfl, rfl⟩
set_option maxRecDepth 100000 in
theorem lenA_c {v : Av} (h : HeldA w0 A P w m v) (box : Blk w C 111 #[.int .i64 1, .iface 133 (.pointer (some ⟨A, 0, none⟩))]) :
  Calls Tryz.prog 74 #[.pointer (some ⟨C, 0, none⟩)] w fun e w' => e = .returned (.int .i64 v.kept) ∧ Below w.heap.size w w' := by
 have c0 := box.cell 0
 have c1 := box.cell 1
 simp only [List.getElem?_toArray, List.getElem?_cons_succ, List.getElem?_cons_zero] at c0 c1
 have hm := made_p box
 have hmt := mALen
 go_enter Tryz.func74, Tryz.ntmps74
 go_wp2_with fail
 refine hm.mono ?_
 rintro e w' ⟨rfl, rfl⟩
 go_wp2_with fail
 refine (Arcy.lenA_c h).mono ?_
 rintro e w' ⟨rfl, o, rfl⟩
 go_wp2_with fail
 go_ret
 exact ⟨rfl, (Below.refl _ w).alloc (Nat.le_refl _) o⟩
set_option maxRecDepth 100000 in
theorem touchA_c {v : Av} (hk : k.length ≤ maxLen) (h : HeldA w0 A P w m v) (box : Blk w C 111 #[.int .i64 1, .iface 133 (.pointer (some ⟨A, 0, none⟩))]) :
  Calls Tryz.prog 118 #[.pointer (some ⟨C, 0, none⟩), .string (str k)] w fun e w' => e = .returned (.bool (v.has k)) ∧ ∃ m', HeldA w0 A P w' m' (v.touch k) ∧ StepA A w m w' m' := by
 have c0 := box.cell 0
 have c1 := box.cell 1
 simp only [List.getElem?_toArray, List.getElem?_cons_succ, List.getElem?_cons_zero] at c0 c1
 have hm := made_p box
 have hmt := mATouch
 go_enter Tryz.func118, Tryz.ntmps118
 go_wp2_with fail
 refine hm.mono ?_
 rintro e w' ⟨rfl, rfl⟩
 go_wp2_with fail
 refine (Arcy.touch_c hk h).mono ?_
 rintro e w' ⟨rfl, hx⟩
 go_wp2_with fail
 go_ret
 exact ⟨rfl, hx⟩
set_option maxRecDepth 100000 in
theorem removeA_c {v : Av} (hk : k.length ≤ maxLen) (h : HeldA w0 A P w m v) (box : Blk w C 111 #[.int .i64 1, .iface 133 (.pointer (some ⟨A, 0, none⟩))]) :
  Calls Tryz.prog 87 #[.pointer (some ⟨C, 0, none⟩), .string (str k)] w fun e w' => e = .returned (.bool (v.has k)) ∧ ∃ m', HeldA w0 A P w' m' (v.dr k) ∧ StepA A w m w' m' := by
 have c0 := box.cell 0
 have c1 := box.cell 1
 simp only [List.getElem?_toArray, List.getElem?_cons_succ, List.getElem?_cons_zero] at c0 c1
 have hm := made_p box
 have hmt := mARemove
 go_enter Tryz.func87, Tryz.ntmps87
 go_wp2_with fail
 refine hm.mono ?_
 rintro e w' ⟨rfl, rfl⟩
 go_wp2_with fail
 refine (Arcy.remove_c hk h).mono ?_
 rintro e w' ⟨rfl, hx⟩
 go_wp2_with fail
 go_ret
 exact ⟨rfl, hx⟩
set_option maxRecDepth 100000 in
theorem insertA_c {v : Av} (hk : k.length ≤ maxLen) (h : HeldA w0 A P w m v) (box : Blk w C 111 #[.int .i64 1, .iface 133 (.pointer (some ⟨A, 0, none⟩))]) :
  Calls Tryz.prog 121 #[.pointer (some ⟨C, 0, none⟩), .string (str k)] w fun e w' => ∃ val m', e = .returned val ∧ HeldA w0 A P w' m' (v.insert k) ∧ StepA A w m w' m' ∧ Arcy.Tell w.heap.size A m' val (v.insertK k) w' := by
 have c0 := box.cell 0
 have c1 := box.cell 1
 simp only [List.getElem?_toArray, List.getElem?_cons_succ, List.getElem?_cons_zero] at c0 c1
 have hm := made_p box
 have hmt := mAInsert
 go_enter Tryz.func121, Tryz.ntmps121
 go_wp2_with fail
 refine hm.mono ?_
 rintro e w' ⟨rfl, rfl⟩
 go_wp2_with fail
 refine (Arcy.insert_c hk h).mono ?_
 rintro e w' ⟨val, m', rfl, hx⟩
 go_wp2_with fail
 go_ret
 exact ⟨_, m', rfl, hx⟩
set_option maxRecDepth 100000 in
theorem evictA_c {v : Av} (h : HeldA w0 A P w m v) (box : Blk w C 111 #[.int .i64 1, .iface 133 (.pointer (some ⟨A, 0, none⟩))]) :
  Calls Tryz.prog 163 #[.pointer (some ⟨C, 0, none⟩)] w fun e w' => e = .returned (.tuple #[.string (str ((v.last (v.src false)).getD [])), .bool (v.last (v.src false)).isSome]) ∧ ∃ m', HeldA w0 A P w' m' (v.repl false) ∧ StepA A w m w' m' := by
 have c0 := box.cell 0
 have c1 := box.cell 1
 simp only [List.getElem?_toArray, List.getElem?_cons_succ, List.getElem?_cons_zero] at c0 c1
 have hm := made_p box
 have hmt := mAEvict
 go_enter Tryz.func163, Tryz.ntmps163
 go_wp2_with fail
 refine hm.mono ?_
 rintro e w' ⟨rfl, rfl⟩
 go_wp2_with fail
 refine (Arcy.evict_c h).mono ?_
 rintro e w' ⟨rfl, hx⟩
 go_wp2_with fail
 go_ret2
 exact ⟨rfl, hx⟩
set_option maxRecDepth 100000 in
theorem kindA_c (box : Blk w C 111 #[.int .i64 1, .iface 133 (.pointer (some ⟨A, 0, none⟩))]) :
  Calls Tryz.prog 73 #[.pointer (some ⟨C, 0, none⟩)] w fun e w' => e = .returned (.int .i64 1) ∧ w = w' := by
 have c0 := box.cell 0
 have c1 := box.cell 1
 simp only [List.getElem?_toArray, List.getElem?_cons_succ, List.getElem?_cons_zero] at c0 c1
 have hm := made_p box
 go_enter Tryz.func73, Tryz.ntmps73
 go_wp2_with fail
 refine hm.mono ?_
 rintro e w' ⟨rfl, rfl⟩
 go_wp2_with fail
 go_ret
 exact ⟨rfl, rfl⟩
set_option maxRecDepth 100000 in
theorem missA_c {v : Av} (hk : k.length ≤ maxLen) (h : HeldA w0 A P w m v) (box : Blk w C 111 #[.int .i64 1, .iface 133 (.pointer (some ⟨A, 0, none⟩))]) :
  Calls Tryz.prog 117 #[.pointer (some ⟨C, 0, none⟩), .string (str k)] w fun e w' => e = .returned (.tuple #[]) ∧ w = w' := by
 have c0 := box.cell 0
 have c1 := box.cell 1
 simp only [List.getElem?_toArray, List.getElem?_cons_succ, List.getElem?_cons_zero] at c0 c1
 have hm := made_p box
 have hmt := mAHas
 have hta : ∀ (u : Value) (w : World), (Instr.typeAssert (.iface 133 u) 109 136 true).run Tryz.prog w = .ok (.tuple #[.pointer none, .bool false]) w := fun _ _ => by kernel_rfl
 go_enter Tryz.func117, Tryz.ntmps117
 go_wp2_with fail
 refine hm.mono ?_
 rintro e w' ⟨rfl, rfl⟩
 go_wp2_with fail
 refine (Arcy.has_c hk h).mono ?_
 rintro e w' ⟨rfl, rfl⟩
 cases v.has k
 all_goals
  go_wp2_with fail
  first
  | exact bodyPost_end (v := .tuple #[]) (results_none rfl _ _ _) rfl ⟨rfl, rfl⟩
  | exact bodyPost_ret (v := .tuple #[]) (results_none rfl _ _ _) rfl ⟨rfl, rfl⟩
  | fail
set_option maxRecDepth 100000 in
theorem hasT_c {v : Tv} (hk : k.length ≤ maxLen) (h : HeldT w0 A B P w m v) (box : Blk w C 111 #[.int .i64 2, .iface 136 (.pointer (some ⟨A, 0, none⟩))]) :
  Calls Tryz.prog 108 #[.pointer (some ⟨C, 0, none⟩), .string (str k)] w fun e w' => e = .returned (.bool (v.has k)) ∧ w = w' := by
 have c0 := box.cell 0
 have c1 := box.cell 1
 simp only [List.getElem?_toArray, List.getElem?_cons_succ, List.getElem?_cons_zero] at c0 c1
 have hm := made_p box
 have hmt := mTHas
 go_enter Tryz.func108, Tryz.ntmps108
 go_wp2_with fail
 refine hm.mono ?_
 rintro e w' ⟨rfl, rfl⟩
 go_wp2_with fail
 refine (Tinyy.has_t hk h).mono ?_
 rintro e w' ⟨rfl, rfl⟩
 go_wp2_with fail
 go_ret
 exact ⟨rfl, rfl⟩
set_option maxRecDepth 100000 in
theorem lenT_c {v : Tv} (h : HeldT w0 A B P w m v) (box : Blk w C 111 #[.int .i64 2, .iface 136 (.pointer (some ⟨A, 0, none⟩))]) :
  Calls Tryz.prog 74 #[.pointer (some ⟨C, 0, none⟩)] w fun e w' => e = .returned (.int .i64 v.kept) ∧ Below w.heap.size w w' := by
 have c0 := box.cell 0
 have c1 := box.cell 1
 simp only [List.getElem?_toArray, List.getElem?_cons_succ, List.getElem?_cons_zero] at c0 c1
 have hm := made_p box
 have hmt := mTLen
 go_enter Tryz.func74, Tryz.ntmps74
 go_wp2_with fail
 refine hm.mono ?_
 rintro e w' ⟨rfl, rfl⟩
 go_wp2_with fail
 refine (Tinyy.lenT_c h).mono ?_
 rintro e w' ⟨rfl, rfl⟩
 go_wp2_with fail
 go_ret
 exact ⟨rfl, Below.refl _ w⟩
set_option maxRecDepth 100000 in
theorem touchT_c {v : Tv} (hk : k.length ≤ maxLen) (ok : v.Ok) (h : HeldT w0 A B P w m v) (box : Blk w C 111 #[.int .i64 2, .iface 136 (.pointer (some ⟨A, 0, none⟩))]) :
  Calls Tryz.prog 118 #[.pointer (some ⟨C, 0, none⟩), .string (str k)] w fun e w' => e = .returned (.bool (v.has k)) ∧ ∃ m', HeldT w0 A B P w' m' (v.touch k) ∧ StepT B w m w' m' := by
 have c0 := box.cell 0
 have c1 := box.cell 1
 simp only [List.getElem?_toArray, List.getElem?_cons_succ, List.getElem?_cons_zero] at c0 c1
 have hm := made_p box
 have hmt := mTTouch
 go_enter Tryz.func118, Tryz.ntmps118
 go_wp2_with fail
 refine hm.mono ?_
 rintro e w' ⟨rfl, rfl⟩
 go_wp2_with fail
 refine (Tinyy.touchT_c hk ok h).mono ?_
 rintro e w' ⟨rfl, hx⟩
 go_wp2_with fail
 go_ret
 exact ⟨rfl, hx⟩
set_option maxRecDepth 100000 in
theorem removeT_c {v : Tv} (hk : k.length ≤ maxLen) (h : HeldT w0 A B P w m v) (box : Blk w C 111 #[.int .i64 2, .iface 136 (.pointer (some ⟨A, 0, none⟩))]) :
  Calls Tryz.prog 87 #[.pointer (some ⟨C, 0, none⟩), .string (str k)] w fun e w' => e = .returned (.bool (v.has k)) ∧ ∃ m', HeldT w0 A B P w' m' (v.dr k) ∧ StepT B w m w' m' := by
 have c0 := box.cell 0
 have c1 := box.cell 1
 simp only [List.getElem?_toArray, List.getElem?_cons_succ, List.getElem?_cons_zero] at c0 c1
 have hm := made_p box
 have hmt := mTRemove
 go_enter Tryz.func87, Tryz.ntmps87
 go_wp2_with fail
 refine hm.mono ?_
 rintro e w' ⟨rfl, rfl⟩
 go_wp2_with fail
 refine (Tinyy.removeT_c hk h).mono ?_
 rintro e w' ⟨rfl, hx⟩
 go_wp2_with fail
 go_ret
 exact ⟨rfl, hx⟩
set_option maxRecDepth 100000 in
theorem insertT_c {v : Tv} (hk : k.length ≤ maxLen) (ok : v.Ok) (h : HeldT w0 A B P w m v) (box : Blk w C 111 #[.int .i64 2, .iface 136 (.pointer (some ⟨A, 0, none⟩))]) :
  Calls Tryz.prog 121 #[.pointer (some ⟨C, 0, none⟩), .string (str k)] w fun e w' => ∃ val m', e = .returned val ∧ HeldT w0 A B P w' m' (v.insert k) ∧ StepT B w m w' m' ∧ Tinyy.Tell w.heap.size B m' val (v.insertK k) w' := by
 have c0 := box.cell 0
 have c1 := box.cell 1
 simp only [List.getElem?_toArray, List.getElem?_cons_succ, List.getElem?_cons_zero] at c0 c1
 have hm := made_p box
 have hmt := mTInsert
 go_enter Tryz.func121, Tryz.ntmps121
 go_wp2_with fail
 refine hm.mono ?_
 rintro e w' ⟨rfl, rfl⟩
 go_wp2_with fail
 refine (Tinyy.insertT_c hk ok h).mono ?_
 rintro e w' ⟨val, m', rfl, hx⟩
 go_wp2_with fail
 go_ret
 exact ⟨_, m', rfl, hx⟩
set_option maxRecDepth 100000 in
theorem evictT_c {v : Tv} (h : HeldT w0 A B P w m v) (box : Blk w C 111 #[.int .i64 2, .iface 136 (.pointer (some ⟨A, 0, none⟩))]) :
  Calls Tryz.prog 163 #[.pointer (some ⟨C, 0, none⟩)] w fun e w' => e = .returned (.tuple #[.string (str (v.goes.getD [])), .bool v.goes.isSome]) ∧ ∃ m', HeldT w0 A B P w' m' v.evict ∧ StepT B w m w' m' := by
 have c0 := box.cell 0
 have c1 := box.cell 1
 simp only [List.getElem?_toArray, List.getElem?_cons_succ, List.getElem?_cons_zero] at c0 c1
 have hm := made_p box
 have hmt := mTEvict
 go_enter Tryz.func163, Tryz.ntmps163
 go_wp2_with fail
 refine hm.mono ?_
 rintro e w' ⟨rfl, rfl⟩
 go_wp2_with fail
 refine (Tinyy.evictT_c h).mono ?_
 rintro e w' ⟨rfl, hx⟩
 go_wp2_with fail
 go_ret2
 exact ⟨rfl, hx⟩
set_option maxRecDepth 100000 in
theorem kindT_c (box : Blk w C 111 #[.int .i64 2, .iface 136 (.pointer (some ⟨A, 0, none⟩))]) :
  Calls Tryz.prog 73 #[.pointer (some ⟨C, 0, none⟩)] w fun e w' => e = .returned (.int .i64 2) ∧ w = w' := by
 have c0 := box.cell 0
 have c1 := box.cell 1
 simp only [List.getElem?_toArray, List.getElem?_cons_succ, List.getElem?_cons_zero] at c0 c1
 have hm := made_p box
 go_enter Tryz.func73, Tryz.ntmps73
 go_wp2_with fail
 refine hm.mono ?_
 rintro e w' ⟨rfl, rfl⟩
 go_wp2_with fail
 go_ret
 exact ⟨rfl, rfl⟩
set_option maxRecDepth 100000 in
theorem missT_yes {v : Tv} (hk : k.length ≤ maxLen) (hn : v.has k = true) (h : HeldT w0 A B P w m v) (box : Blk w C 111 #[.int .i64 2, .iface 136 (.pointer (some ⟨A, 0, none⟩))]) :
  Calls Tryz.prog 117 #[.pointer (some ⟨C, 0, none⟩), .string (str k)] w fun e w' => e = .returned (.tuple #[]) ∧ w = w' := by
 have c0 := box.cell 0
 have c1 := box.cell 1
 simp only [List.getElem?_toArray, List.getElem?_cons_succ, List.getElem?_cons_zero] at c0 c1
 have hm := made_p box
 have hmt := mTHas
 have hc := Tinyy.has_t hk h
 rw [hn] at hc
 go_enter Tryz.func117, Tryz.ntmps117
 go_wp2_with fail
 refine hm.mono ?_
 rintro e w' ⟨rfl, rfl⟩
 go_wp2_with fail
 refine (hc).mono ?_
 rintro e w' ⟨rfl, rfl⟩
 go_wp2_with fail
 exact bodyPost_ret (v := .tuple #[]) (results_none rfl _ _ _) rfl ⟨rfl, rfl⟩
set_option maxRecDepth 100000 in
theorem missT_no {v : Tv} (hk : k.length ≤ maxLen) (hn : v.has k = false) (h : HeldT w0 A B P w m v) (box : Blk w C 111 #[.int .i64 2, .iface 136 (.pointer (some ⟨A, 0, none⟩))]) :
  Calls Tryz.prog 117 #[.pointer (some ⟨C, 0, none⟩), .string (str k)] w fun e w' => e = .returned (.tuple #[]) ∧ HeldT w0 A B P w' m (v.miss k) ∧ StepT B w m w' m := by
 have c0 := box.cell 0
 have c1 := box.cell 1
 simp only [List.getElem?_toArray, List.getElem?_cons_succ, List.getElem?_cons_zero] at c0 c1
 have hm := made_p box
 have hmt := mTHas
 have hc := Tinyy.has_t hk h
 have hd := Tinyy.missT_c hk h
 rw [hn] at hc
 have hta : ∀ (u : Value) (w : World), (Instr.typeAssert (.iface 136 u) 109 136 true).run Tryz.prog w = .ok (.tuple #[u, .bool true]) w := fun _ _ => by kernel_rfl
 go_enter Tryz.func117, Tryz.ntmps117
 go_wp2_with fail
 refine hm.mono ?_
 rintro e w' ⟨rfl, rfl⟩
 go_wp2_with fail
 refine (hc).mono ?_
 rintro e w' ⟨rfl, rfl⟩
 go_wp2_with fail
 refine hd.mono ?_
 rintro e w' ⟨rfl, hx⟩
 go_wp2_with fail
 exact bodyPost_end (v := .tuple #[]) (results_none rfl _ _ _) rfl ⟨rfl, hx⟩
end
set_option maxRecDepth 100000 in
theorem newA_pol {n : Nat} (h1 : 1 ≤ n) (h2 : n ≤ 1000) (s : Int) (w : World) :
  Calls Tryz.prog 33 #[.int .i64 1, .int .i64 n, .int .u64 s] w fun e w' => ∃ C H, e = .returned (.tuple #[.pointer (some ⟨C, 0, none⟩), .int .i64 0]) ∧ HeldP w C w' (.a (Av.new n)) H := by
 have hN := Arcy.newA_c h1 h2 w
 go_enter Tryz.func33, Tryz.ntmps33
 go_wp2_with fail
 refine hN.mono ?_
 rintro e w1 ⟨A, m, rfl, h⟩
 have hb := Blk.new w1 111 #[.int .i64 1, .iface 133 (.pointer (some ⟨A, 0, none⟩))]
 have hp : HeldP w w1.heap.size (w1.alloc (.cells #[.int .i64 1, .iface 133 (.pointer (some ⟨A, 0, none⟩))] 111)) (.a (Av.new n)) _ := .a (h.alloc _) hb h.below.size (fun e => by have := h.lt; omega) (fun ho => by have := h.h.lt _ ho; omega)
 clear hN h hb
 go_wp2_with fail
 go_ret2
 exact ⟨_, _, rfl, hp⟩
set_option maxRecDepth 100000 in
theorem newT_pol {n seed : Nat} (h1 : 1 ≤ n) (h2 : n ≤ 1000) (h3 : seed < 18446744073709551616) (w : World) :
  Calls Tryz.prog 33 #[.int .i64 2, .int .i64 n, .int .u64 seed] w fun e w' => ∃ C H, e = .returned (.tuple #[.pointer (some ⟨C, 0, none⟩), .int .i64 0]) ∧ HeldP w C w' (.t (Tv.new n seed)) H := by
 have hN := Tinyy.newT_c h1 h2 h3 w
 have hok := Tinyy.Tv.new_ok (n := n) (seed := seed) h1 h2 h3
 go_enter Tryz.func33, Tryz.ntmps33
 go_wp2_with fail
 refine hN.mono ?_
 rintro e w1 ⟨A, m, rfl, h⟩
 have hb := Blk.new w1 111 #[.int .i64 2, .iface 136 (.pointer (some ⟨A, 0, none⟩))]
 have hp : HeldP w w1.heap.size (w1.alloc (.cells #[.int .i64 2, .iface 136 (.pointer (some ⟨A, 0, none⟩))] 111)) (.t (Tv.new n seed)) _ := .t (h.alloc _) hok hb h.below.size (fun e => by have := h.lt; omega) (fun ho => by have := h.h.lt _ ho; omega) (fun ho => by have := h.sk.lt; have := ho.2; omega)
 clear hN h hb
 go_wp2_with fail
 go_ret2
 exact ⟨_, _, rfl, hp⟩
theorem newP_c {kind n seed : Nat} (hk : kind = 1 ∨ kind = 2) (h1 : 1 ≤ n) (h2 : n ≤ 1000) (h3 : seed < 18446744073709551616) (w : World) :
  Calls Tryz.prog 33 #[.int .i64 kind, .int .i64 n, .int .u64 seed] w fun e w' => ∃ C H, e = .returned (.tuple #[.pointer (some ⟨C, 0, none⟩), .int .i64 0]) ∧ HeldP w C w' (Pv.new kind n seed) H := by
 rcases hk with rfl | rfl
 ·exact newA_pol h1 h2 _ w
 ·exact newT_pol h1 h2 h3 w
section
variable {w0 w : World} {C : Nat} {p : Pv} {H : Nat → Prop} {k : Key}
theorem hasP_c (hk : k.length ≤ maxLen) (h : HeldP w0 C w p H) :
  Calls Tryz.prog 108 #[.pointer (some ⟨C, 0, none⟩), .string (str k)] w fun e w' => e = .returned (.bool (p.has k)) ∧ w = w' := by
 cases h with
 | a h box lo nA no => exact hasA_c hk h box
 | t h ok box lo nA no n6 => exact hasT_c hk h box
theorem lenP_c (h : HeldP w0 C w p H) :
  Calls Tryz.prog 74 #[.pointer (some ⟨C, 0, none⟩)] w fun e w' => e = .returned (.int .i64 p.kept) ∧ Below w.heap.size w w' := by
 cases h with
 | a h box lo nA no => exact lenA_c h box
 | t h ok box lo nA no n6 => exact lenT_c h box
theorem kindP_c (h : HeldP w0 C w p H) :
  Calls Tryz.prog 73 #[.pointer (some ⟨C, 0, none⟩)] w fun e w' => e = .returned (.int .i64 p.kind) ∧ w = w' := by
 cases h with
 | a h box lo nA no => exact kindA_c box
 | t h ok box lo nA no n6 => exact kindT_c box
theorem touchP_c (hk : k.length ≤ maxLen) (h : HeldP w0 C w p H) :
  Calls Tryz.prog 118 #[.pointer (some ⟨C, 0, none⟩), .string (str k)] w fun e w' => e = .returned (.bool (p.has k)) ∧ ∃ H', HeldP w0 C w' (p.touch k) H' ∧ StepP w H w' H' := by
 cases h with
 | a h box lo nA no =>
  refine (touchA_c hk h box).mono ?_
  rintro e w' ⟨rfl, m', hH, hS⟩
  exact ⟨rfl, putA h box lo nA no hH hS⟩
 | @t A B P m v h ok box lo nA no n6 =>
  refine (touchT_c hk ok h box).mono ?_
  rintro e w' ⟨rfl, m', hH, hS⟩
  exact ⟨rfl, putT h box lo nA no n6 hH (Tinyy.Tv.touch_spec ok k).1 hS⟩
theorem dropP_c (hk : k.length ≤ maxLen) (h : HeldP w0 C w p H) :
  Calls Tryz.prog 87 #[.pointer (some ⟨C, 0, none⟩), .string (str k)] w fun e w' => e = .returned (.bool (p.has k)) ∧ ∃ H', HeldP w0 C w' (p.drop k) H' ∧ StepP w H w' H' := by
 cases h with
 | a h box lo nA no =>
  refine (removeA_c hk h box).mono ?_
  rintro e w' ⟨rfl, m', hH, hS⟩
  exact ⟨rfl, putA h box lo nA no hH hS⟩
 | @t A B P m v h ok box lo nA no n6 =>
  refine (removeT_c hk h box).mono ?_
  rintro e w' ⟨rfl, m', hH, hS⟩
  exact ⟨rfl, putT h box lo nA no n6 hH (ok.dr k) hS⟩
theorem evictP_c (h : HeldP w0 C w p H) :
  Calls Tryz.prog 163 #[.pointer (some ⟨C, 0, none⟩)] w fun e w' => e = .returned (.tuple #[.string (str (p.goes.getD [])), .bool p.goes.isSome]) ∧ ∃ H', HeldP w0 C w' p.evict H' ∧ StepP w H w' H' := by
 cases h with
 | a h box lo nA no =>
  refine (evictA_c h box).mono ?_
  rintro e w' ⟨rfl, m', hH, hS⟩
  exact ⟨rfl, putA h box lo nA no hH hS⟩
 | @t A B P m v h ok box lo nA no n6 =>
  refine (evictT_c h box).mono ?_
  rintro e w' ⟨rfl, m', hH, hS⟩
  exact ⟨rfl, putT h box lo nA no n6 hH (Tinyy.Tv.evict_ok ok).1 hS⟩
theorem missP_c (hk : k.length ≤ maxLen) (h : HeldP w0 C w p H) :
  Calls Tryz.prog 117 #[.pointer (some ⟨C, 0, none⟩), .string (str k)] w fun e w' => e = .returned (.tuple #[]) ∧ ∃ H', HeldP w0 C w' (p.miss k) H' ∧ StepP w H w' H' := by
 cases h with
 | a h box lo nA no =>
  refine (missA_c hk h box).mono ?_
  rintro e w' ⟨rfl, rfl⟩
  exact ⟨rfl, _, .a h box lo nA no, .refl _ _⟩
 | @t A B P m v h ok box lo nA no n6 =>
  cases hn : v.has k with
  | true =>
   refine (missT_yes hk hn h box).mono ?_
   rintro e w' ⟨rfl, rfl⟩
   rw [show Pv.miss (.t v) k = .t v from if_pos hn]
   exact ⟨rfl, _, .t h ok box lo nA no n6, .refl _ _⟩
  | false =>
   refine (missT_no hk hn h box).mono ?_
   rintro e w' ⟨rfl, hH, hS⟩
   rw [show Pv.miss (.t v) k = .t (v.miss k) from if_neg (by rw [hn]; decide)]
   exact ⟨rfl, putT h box lo nA no n6 hH (Tinyy.Tv.miss_ok ok k).1 hS⟩
theorem insertP_c (hk : k.length ≤ maxLen) (h : HeldP w0 C w p H) :
  Calls Tryz.prog 121 #[.pointer (some ⟨C, 0, none⟩), .string (str k)] w fun e w' => ∃ val H', e = .returned val ∧ HeldP w0 C w' (p.insert k) H' ∧ StepP w H w' H' ∧ Tell w.heap.size H' val (p.insertK k) w' := by
 cases h with
 | @a A P m v h box lo nA no =>
  refine (insertA_c hk h box).mono ?_
  rintro e w' ⟨val, m', rfl, hH, hS, hT⟩
  have hz := box.lt
  refine ⟨_, _, rfl, .a hH ((hS.kp.block C box.lt (fun ho => ho.elim no nA)).trans box) lo nA (fun ho => (hS.own C ho).elim no (fun x => by omega)), .ofA hS, hT.row, ?_⟩
  intro b hb
  have h1 := hT.no b hb
  have h2 := (hT.row.lt b hb).1
  rintro (rfl | rfl | ho)
  ·omega
  ·exact h1.2 rfl
  ·exact h1.1 ho
 | @t A B P m v h ok box lo nA no n6 =>
  refine (insertT_c hk ok h box).mono ?_
  rintro e w' ⟨val, m', rfl, hH, hS, hT⟩
  have hz := box.lt
  have hz2 := h.lt
  refine ⟨_, _, rfl, .t hH (Tinyy.Tv.insert_ok ok k).1 ((hS.kp.block C box.lt (fun ho => ho.elim no n6)).trans box) lo nA (fun ho => (hS.own C ho).elim no (fun x => by omega)) n6, .ofT hS, hT.row, ?_⟩
  intro b hb
  have h1 := hT.no b hb
  have h2 := (hT.row.lt b hb).1
  rintro (rfl | rfl | ho | ho)
  ·omega
  ·omega
  ·exact h1.1 ho
  ·exact h1.2 ho
end
end Go.Proofs.YtkiabladmgagdabGreatDoor.Policyy
