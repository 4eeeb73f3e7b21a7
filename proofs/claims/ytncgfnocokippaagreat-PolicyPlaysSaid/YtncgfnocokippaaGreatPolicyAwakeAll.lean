/- Chapter 9 over plain lists: a policy is of the one kind or the other, and all calls are that one's. It speaks of no program. The program's policy in memory, and what each of its calls makes of it, of whichever kind it is. The only condition: a key is no longer than a text may be. Two policies beside each other; what the laws of layer 9 begin with. No condition. -/
import Derived.Test.YtncgfnocokippaaGreatArcMath
import Derived.Test.YtncgfnocokippaaGreatTinyMathAll
import Derived.Test.YtncgfnocokippaaGreatArcMakeAll
import Derived.Test.YtncgfnocokippaaGreatTinyMakeAll
import Derived.Test.YtncgfnocokippaaGreatSq
namespace Go.Proofs.YtncgfnocokippaaGreat.Policyy
open Ringy
open Arcy (Av)
open Tinyy (Tv)

inductive Pv where
 | a (v : Av)
 | t (v : Tv)
def Pv.kind : Pv → Nat
 | .a _ => 1
 | .t _ => 2
def Pv.has : Pv → Key → Bool
 | .a v, k => v.has k
 | .t v, k => v.has k
def Pv.kept : Pv → Nat
 | .a v => v.kept
 | .t v => v.kept
def Pv.touch : Pv → Key → Pv
 | .a v, k => .a (v.touch k)
 | .t v, k => .t (v.touch k)
def Pv.miss : Pv → Key → Pv
 | .a v, _ => .a v
 | .t v, k => if v.has k = true then .t v else .t (v.miss k)
def Pv.insert : Pv → Key → Pv
 | .a v, k => .a (v.insert k)
 | .t v, k => .t (v.insert k)
def Pv.insertK : Pv → Key → List Key
 | .a v, k => v.insertK k
 | .t v, k => v.insertK k
def Pv.drop : Pv → Key → Pv
 | .a v, k => .a (v.dr k)
 | .t v, k => .t (v.dr k)
def Pv.goes : Pv → Option Key
 | .a v => v.last (v.src false)
 | .t v => v.goes
def Pv.evict : Pv → Pv
 | .a v => .a (v.repl false)
 | .t v => .t v.evict
def Pv.new (kind n seed : Nat) : Pv := if kind = 1 then .a (Av.new n) else .t (Tv.new n seed)
def Pv.Out : Pv → Prop
 | .a v => v.Ok ∧ ∀ i, 4 ≤ i → v.rg.l i = []
 | .t v => v.Ok ∧ ∀ i, 3 ≤ i → v.rg.l i = []
theorem Pv.Out.lens {p : Pv} (h : p.Out) (k : Key) : (p.insertK k).length ≤ 100000 := by
 cases p with
 | a v =>
  show (v.insertK k).length ≤ 100000
  unfold Arcy.Av.insertK
  split
  ·exact Nat.zero_le _
  ·have := (Arcy.Av.ins_spec h.1 (k := k) (by omega)).glen
   omega
 | t v =>
  show (v.insertK k).length ≤ 100000
  unfold Tinyy.Tv.insertK
  split
  ·exact Nat.zero_le _
  ·have := (Tinyy.Tv.ins_spec h.1 (k := k) (by omega)).glen
   omega
end Go.Proofs.YtncgfnocokippaaGreat.Policyy
namespace Go.Proofs.YtncgfnocokippaaGreat.Policyy
open Go.ChangeShapes Go.WideShapes Go.ChangeAt Go.RowKit
open Wirey (Blk Row str str_size str_list Kp)
open Ringy
open Arcy (Av HeldA StepA)
open Tinyy (Tv HeldT StepT)
open Sketchy (Six)

inductive HeldP (w0 : World) (C : Nat) (w : World) : Pv → (Nat → Prop) → Prop where
 | a {A P : Nat} {m : Rm} {v : Av} (h : HeldA w0 A P w m v) (box : Blk w C 66 #[.int .i64 1, .iface 60 (.pointer (some ⟨A, 0, none⟩))]) (lo : w0.heap.size ≤ C) (nA : C ≠ A) (no : ¬ m.own C) : HeldP w0 C w (.a v) (fun b => b = C ∨ b = A ∨ m.own b)
 | t {A B P : Nat} {m : Rm} {v : Tv} (h : HeldT w0 A B P w m v) (ok : v.Ok) (box : Blk w C 66 #[.int .i64 2, .iface 67 (.pointer (some ⟨A, 0, none⟩))]) (lo : w0.heap.size ≤ C) (nA : C ≠ A) (no : ¬ m.own C) (n6 : ¬ Six B C) : HeldP w0 C w (.t v) (fun b => b = C ∨ b = A ∨ m.own b ∨ Six B b)
structure StepP (w : World) (H : Nat → Prop) (w' : World) (H' : Nat → Prop) : Prop where
 kp : Kp H w w'
 own : ∀ b, H' b → H b ∨ w.heap.size ≤ b
section
variable {w0 w w' w'' : World} {C : Nat} {p : Pv} {H H' H'' : Nat → Prop} {k : Key}
theorem StepP.refl (H : Nat → Prop) (w : World) : StepP w H w H := ⟨Kp.refl _ _, fun _ h => .inl h⟩
theorem StepP.ofA {A : Nat} {m m' : Rm} (h : StepA A w m w' m') : StepP w (fun b => b = C ∨ b = A ∨ m.own b) w' (fun b => b = C ∨ b = A ∨ m'.own b) :=
 ⟨⟨h.kp.os, h.kp.tape, h.kp.output, h.kp.size, fun k hk hn => h.kp.block k hk (fun ho => ho.elim (fun x => hn (.inr (.inr x))) fun x => hn (.inr (.inl x)))⟩, fun b hb => by
   rcases hb with rfl | rfl | hb
   · exact .inl (.inl rfl)
   · exact .inl (.inr (.inl rfl))
   · exact (h.own b hb).imp (fun x => .inr (.inr x)) id⟩
theorem StepP.ofT {A B : Nat} {m m' : Rm} (h : StepT B w m w' m') : StepP w (fun b => b = C ∨ b = A ∨ m.own b ∨ Six B b) w' (fun b => b = C ∨ b = A ∨ m'.own b ∨ Six B b) :=
 ⟨⟨h.kp.os, h.kp.tape, h.kp.output, h.kp.size, fun k hk hn => h.kp.block k hk (fun ho => ho.elim (fun x => hn (.inr (.inr (.inl x)))) fun x => hn (.inr (.inr (.inr x))))⟩, fun b hb => by
   rcases hb with rfl | rfl | hb | hb
   · exact .inl (.inl rfl)
   · exact .inl (.inr (.inl rfl))
   · exact (h.own b hb).imp (fun x => .inr (.inr (.inl x))) id
   · exact .inl (.inr (.inr (.inr hb)))⟩
theorem HeldP.below (h : HeldP w0 C w p H) : Below w0.heap.size w0 w := by
 cases h with
 | a h => exact h.below
 | t h => exact h.below
theorem HeldP.own (h : HeldP w0 C w p H) : ∀ b, H b → w0.heap.size ≤ b ∧ b < w.heap.size := by
 cases h with
 | a h box lo nA no =>
  rintro b (rfl | rfl | hb)
  ·exact ⟨lo, box.lt⟩
  ·exact ⟨h.lo, h.lt⟩
  ·exact ⟨h.h.own b hb, h.h.lt b hb⟩
 | t h ok box lo nA no n6 =>
  rintro b (rfl | rfl | hb | hb)
  ·exact ⟨lo, box.lt⟩
  ·exact ⟨h.loA, h.lt⟩
  ·exact ⟨h.h.own b hb, h.h.lt b hb⟩
  ·exact ⟨Nat.le_trans h.loB hb.1, by have := h.sk.lt; have := hb.2; omega⟩
theorem HeldP.later {D : Nat} (h : HeldP w0 C w p H) (hb : Below D w w') (hD : w.heap.size ≤ D) : HeldP w0 C w' p H := by
 cases h with
 | a h box lo nA no => exact .a (h.later hb hD) (box.below hb (Nat.lt_of_lt_of_le box.lt hD)) lo nA no
 | t h ok box lo nA no n6 => exact .t (h.later hb hD) ok (box.below hb (Nat.lt_of_lt_of_le box.lt hD)) lo nA no n6
theorem HeldP.kp {O : Nat → Prop} (h : HeldP w0 C w p H) (hk : Kp O w w') (hO : ∀ b, O b → w0.heap.size ≤ b ∧ ¬ H b) : HeldP w0 C w' p H := by
 cases h with
 | a h box lo nA no => exact .a (h.kp hk fun b hb => ⟨(hO b hb).1, fun x => (hO b hb).2 (.inr (.inr x)), fun x => (hO b hb).2 (.inr (.inl x))⟩) ((hk.block C box.lt (fun ho => (hO C ho).2 (.inl rfl))).trans box) lo nA no
 | t h ok box lo nA no n6 => exact .t (h.kp hk fun b hb => ⟨(hO b hb).1, fun x => (hO b hb).2 (.inr (.inr (.inl x))), fun x => (hO b hb).2 (.inr (.inl x)), fun x => (hO b hb).2 (.inr (.inr (.inr x)))⟩) ok ((hk.block C box.lt (fun ho => (hO C ho).2 (.inl rfl))).trans box) lo nA no n6
theorem HeldP.low {w1 : World} (h : HeldP w1 C w p H) (hb : Below w0.heap.size w0 w1) : HeldP w0 C w p H := by
 have hs := hb.size
 cases h with
 | a h box lo nA no => exact .a ⟨Tinyy.Held.low h.h hb, h.box, Nat.le_trans hs h.lo, h.no, h.ok⟩ box (Nat.le_trans hs lo) nA no
 | t h ok box lo nA no n6 => exact .t ⟨Tinyy.Held.low h.h hb, h.sk, h.box, Nat.le_trans hs h.loA, Nat.le_trans hs h.loB, h.no, h.six, h.fit⟩ ok box (Nat.le_trans hs lo) nA no n6
end
section
variable {w0 w w' : World} {A B C P : Nat} {m m' : Rm} {k : Key}
theorem putA {v v' : Av} (_h : HeldA w0 A P w m v) (box : Blk w C 66 #[.int .i64 1, .iface 60 (.pointer (some ⟨A, 0, none⟩))]) (lo : w0.heap.size ≤ C) (nA : C ≠ A) (no : ¬ m.own C) (hH : HeldA w0 A P w' m' v') (hS : StepA A w m w' m') :
  ∃ H', HeldP w0 C w' (.a v') H' ∧ StepP w (fun b => b = C ∨ b = A ∨ m.own b) w' H' :=
 ⟨_, .a hH ((hS.kp.block C box.lt (fun ho => ho.elim no nA)).trans box) lo nA (fun ho => (hS.own C ho).elim no (fun x => by have := box.lt; omega)), .ofA hS⟩
theorem putT {v v' : Tv} (_h : HeldT w0 A B P w m v) (box : Blk w C 66 #[.int .i64 2, .iface 67 (.pointer (some ⟨A, 0, none⟩))]) (lo : w0.heap.size ≤ C) (nA : C ≠ A) (no : ¬ m.own C) (n6 : ¬ Six B C) (hH : HeldT w0 A B P w' m' v') (ok : v'.Ok) (hS : StepT B w m w' m') :
  ∃ H', HeldP w0 C w' (.t v') H' ∧ StepP w (fun b => b = C ∨ b = A ∨ m.own b ∨ Six B b) w' H' :=
 ⟨_, .t hH ok ((hS.kp.block C box.lt (fun ho => ho.elim no n6)).trans box) lo nA (fun ho => (hS.own C ho).elim no (fun x => by have := box.lt; omega)) n6, .ofT hS⟩
structure Tell (base : Nat) (H : Nat → Prop) (val : Value) (l : List Key) (w : World) : Prop where
 row : w.ownsRow base 9 1 val l.length (strsV l)
 no : ∀ b, val.ownBlock = some b → ¬ H b

theorem made_p {T : TypeId} {q : Addr} {n : Int} (box : Blk w C 66 #[.int .i64 n, .iface T (.pointer (some q))]) :
  Calls Tryz.prog 33 #[.pointer (some ⟨C, 0, none⟩)] w fun e w' => e = .returned (.bool true) ∧ w = w' := by
 have c1 := box.cell 1
 simp only [List.getElem?_toArray, List.getElem?_cons_succ, List.getElem?_cons_zero] at c1
 go_enter Tryz.func33, Tryz.ntmps33
 go_wp2_with fail
 go_ret
 exact ⟨rfl, rfl⟩
theorem mAHas : ∀ (n : Nat) (a : Addr) (w : World), (method (n + 1) 60 (.pointer (some a)) "Has").run Tryz.prog w = .ok (164, .pointer (some a)) w := fun _ _ _ => by kernel_rfl
theorem mALen : ∀ (n : Nat) (a : Addr) (w : World), (method (n + 1) 60 (.pointer (some a)) "Len").run Tryz.prog w = .ok (113, .pointer (some a)) w := fun _ _ _ => by kernel_rfl
theorem mATouch : ∀ (n : Nat) (a : Addr) (w : World), (method (n + 1) 60 (.pointer (some a)) "Touch").run Tryz.prog w = .ok (167, .pointer (some a)) w := fun _ _ _ => by kernel_rfl
theorem mAInsert : ∀ (n : Nat) (a : Addr) (w : World), (method (n + 1) 60 (.pointer (some a)) "Insert").run Tryz.prog w = .ok (165, .pointer (some a)) w := fun _ _ _ => by kernel_rfl
theorem mARemove : ∀ (n : Nat) (a : Addr) (w : World), (method (n + 1) 60 (.pointer (some a)) "Remove").run Tryz.prog w = .ok (166, .pointer (some a)) w := fun _ _ _ => by kernel_rfl
theorem mAEvict : ∀ (n : Nat) (a : Addr) (w : World), (method (n + 1) 60 (.pointer (some a)) "Evict").run Tryz.prog w = .ok (162, .pointer (some a)) w := fun _ _ _ => by kernel_rfl
theorem mAExport : ∀ (n : Nat) (a : Addr) (w : World), (method (n + 1) 60 (.pointer (some a)) "Export").run Tryz.prog w = .ok (163, .pointer (some a)) w := fun _ _ _ => by kernel_rfl
theorem mTHas : ∀ (n : Nat) (a : Addr) (w : World), (method (n + 1) 67 (.pointer (some a)) "Has").run Tryz.prog w = .ok (189, .pointer (some a)) w := fun _ _ _ => by kernel_rfl
theorem mTLen : ∀ (n : Nat) (a : Addr) (w : World), (method (n + 1) 67 (.pointer (some a)) "Len").run Tryz.prog w = .ok (118, .pointer (some a)) w := fun _ _ _ => by kernel_rfl
theorem mTTouch : ∀ (n : Nat) (a : Addr) (w : World), (method (n + 1) 67 (.pointer (some a)) "Touch").run Tryz.prog w = .ok (192, .pointer (some a)) w := fun _ _ _ => by kernel_rfl
theorem mTInsert : ∀ (n : Nat) (a : Addr) (w : World), (method (n + 1) 67 (.pointer (some a)) "Insert").run Tryz.prog w = .ok (190, .pointer (some a)) w := fun _ _ _ => by kernel_rfl
theorem mTRemove : ∀ (n : Nat) (a : Addr) (w : World), (method (n + 1) 67 (.pointer (some a)) "Remove").run Tryz.prog w = .ok (191, .pointer (some a)) w := fun _ _ _ => by kernel_rfl
theorem mTEvict : ∀ (n : Nat) (a : Addr) (w : World), (method (n + 1) 67 (.pointer (some a)) "Evict").run Tryz.prog w = .ok (187, .pointer (some a)) w := fun _ _ _ => by kernel_rfl
theorem mTExport : ∀ (n : Nat) (a : Addr) (w : World), (method (n + 1) 67 (.pointer (some a)) "Export").run Tryz.prog w = .ok (188, .pointer (some a)) w := fun _ _ _ => by kernel_rfl
set_option maxRecDepth 100000 in
theorem hasA_c {v : Av} (hk : k.length ≤ maxLen) (h : HeldA w0 A P w m v) (box : Blk w C 66 #[.int .i64 1, .iface 60 (.pointer (some ⟨A, 0, none⟩))]) :
  Calls Tryz.prog 11 #[.pointer (some ⟨C, 0, none⟩), .string (str k)] w fun e w' => e = .returned (.bool (v.has k)) ∧ w = w' := by
 have c0 := box.cell 0
 have c1 := box.cell 1
 simp only [List.getElem?_toArray, List.getElem?_cons_succ, List.getElem?_cons_zero] at c0 c1
 have hm := made_p box
 have hmt := mAHas
 go_enter Tryz.func11, Tryz.ntmps11
 go_wp2_with fail
 refine hm.mono ?_
 rintro e w' ⟨rfl, rfl⟩
 go_wp2_with fail
 refine (Arcy.has_c hk h).mono ?_
 rintro e w' ⟨rfl, rfl⟩
 go_wp2_with fail
 go_ret
 exact ⟨rfl, rfl⟩
set_option maxRecDepth 100000 in
theorem lenA_c {v : Av} (h : HeldA w0 A P w m v) (box : Blk w C 66 #[.int .i64 1, .iface 60 (.pointer (some ⟨A, 0, none⟩))]) :
  Calls Tryz.prog 9 #[.pointer (some ⟨C, 0, none⟩)] w fun e w' => e = .returned (.int .i64 v.kept) ∧ Below w.heap.size w w' := by
 have c0 := box.cell 0
 have c1 := box.cell 1
 simp only [List.getElem?_toArray, List.getElem?_cons_succ, List.getElem?_cons_zero] at c0 c1
 have hm := made_p box
 have hmt := mALen
 go_enter Tryz.func9, Tryz.ntmps9
 go_wp2_with fail
 refine hm.mono ?_
 rintro e w' ⟨rfl, rfl⟩
 go_wp2_with fail
 refine (Arcy.lenA_c h).mono ?_
 rintro e w' ⟨rfl, o, rfl⟩
 go_wp2_with fail
 go_ret
 exact ⟨rfl, (Below.refl _ w).alloc (Nat.le_refl _) o⟩
set_option maxRecDepth 100000 in
theorem touchA_c {v : Av} (hk : k.length ≤ maxLen) (h : HeldA w0 A P w m v) (box : Blk w C 66 #[.int .i64 1, .iface 60 (.pointer (some ⟨A, 0, none⟩))]) :
  Calls Tryz.prog 18 #[.pointer (some ⟨C, 0, none⟩), .string (str k)] w fun e w' => e = .returned (.bool (v.has k)) ∧ ∃ m', HeldA w0 A P w' m' (v.touch k) ∧ StepA A w m w' m' := by
 have c0 := box.cell 0
 have c1 := box.cell 1
 simp only [List.getElem?_toArray, List.getElem?_cons_succ, List.getElem?_cons_zero] at c0 c1
 have hm := made_p box
 have hmt := mATouch
 go_enter Tryz.func18, Tryz.ntmps18
 go_wp2_with fail
 refine hm.mono ?_
 rintro e w' ⟨rfl, rfl⟩
 go_wp2_with fail
 refine (Arcy.touch_c hk h).mono ?_
 rintro e w' ⟨rfl, hx⟩
 go_wp2_with fail
 go_ret
 exact ⟨rfl, hx⟩
set_option maxRecDepth 100000 in
theorem removeA_c {v : Av} (hk : k.length ≤ maxLen) (h : HeldA w0 A P w m v) (box : Blk w C 66 #[.int .i64 1, .iface 60 (.pointer (some ⟨A, 0, none⟩))]) :
  Calls Tryz.prog 19 #[.pointer (some ⟨C, 0, none⟩), .string (str k)] w fun e w' => e = .returned (.bool (v.has k)) ∧ ∃ m', HeldA w0 A P w' m' (v.dr k) ∧ StepA A w m w' m' := by
 have c0 := box.cell 0
 have c1 := box.cell 1
 simp only [List.getElem?_toArray, List.getElem?_cons_succ, List.getElem?_cons_zero] at c0 c1
 have hm := made_p box
 have hmt := mARemove
 go_enter Tryz.func19, Tryz.ntmps19
 go_wp2_with fail
 refine hm.mono ?_
 rintro e w' ⟨rfl, rfl⟩
 go_wp2_with fail
 refine (Arcy.remove_c hk h).mono ?_
 rintro e w' ⟨rfl, hx⟩
 go_wp2_with fail
 go_ret
 exact ⟨rfl, hx⟩
set_option maxRecDepth 100000 in
theorem insertA_c {v : Av} (hk : k.length ≤ maxLen) (h : HeldA w0 A P w m v) (box : Blk w C 66 #[.int .i64 1, .iface 60 (.pointer (some ⟨A, 0, none⟩))]) :
  Calls Tryz.prog 23 #[.pointer (some ⟨C, 0, none⟩), .string (str k)] w fun e w' => ∃ val m', e = .returned val ∧ HeldA w0 A P w' m' (v.insert k) ∧ StepA A w m w' m' ∧ Arcy.Tell w.heap.size A m' val (v.insertK k) w' := by
 have c0 := box.cell 0
 have c1 := box.cell 1
 simp only [List.getElem?_toArray, List.getElem?_cons_succ, List.getElem?_cons_zero] at c0 c1
 have hm := made_p box
 have hmt := mAInsert
 go_enter Tryz.func23, Tryz.ntmps23
 go_wp2_with fail
 refine hm.mono ?_
 rintro e w' ⟨rfl, rfl⟩
 go_wp2_with fail
 refine (Arcy.insert_c hk h).mono ?_
 rintro e w' ⟨val, m', rfl, hx⟩
 go_wp2_with fail
 go_ret
 exact ⟨_, m', rfl, hx⟩
set_option maxRecDepth 100000 in
theorem evictA_c {v : Av} (h : HeldA w0 A P w m v) (box : Blk w C 66 #[.int .i64 1, .iface 60 (.pointer (some ⟨A, 0, none⟩))]) :
  Calls Tryz.prog 20 #[.pointer (some ⟨C, 0, none⟩)] w fun e w' => e = .returned (.tuple #[.string (str ((v.last (v.src false)).getD [])), .bool (v.last (v.src false)).isSome]) ∧ ∃ m', HeldA w0 A P w' m' (v.repl false) ∧ StepA A w m w' m' := by
 have c0 := box.cell 0
 have c1 := box.cell 1
 simp only [List.getElem?_toArray, List.getElem?_cons_succ, List.getElem?_cons_zero] at c0 c1
 have hm := made_p box
 have hmt := mAEvict
 go_enter Tryz.func20, Tryz.ntmps20
 go_wp2_with fail
 refine hm.mono ?_
 rintro e w' ⟨rfl, rfl⟩
 go_wp2_with fail
 refine (Arcy.evict_c h).mono ?_
 rintro e w' ⟨rfl, hx⟩
 go_wp2_with fail
 go_ret2
 exact ⟨rfl, hx⟩
set_option maxRecDepth 100000 in
theorem kindA_c (box : Blk w C 66 #[.int .i64 1, .iface 60 (.pointer (some ⟨A, 0, none⟩))]) :
  Calls Tryz.prog 16 #[.pointer (some ⟨C, 0, none⟩)] w fun e w' => e = .returned (.int .i64 1) ∧ w = w' := by
 have c0 := box.cell 0
 have c1 := box.cell 1
 simp only [List.getElem?_toArray, List.getElem?_cons_succ, List.getElem?_cons_zero] at c0 c1
 have hm := made_p box
 go_enter Tryz.func16, Tryz.ntmps16
 go_wp2_with fail
 refine hm.mono ?_
 rintro e w' ⟨rfl, rfl⟩
 go_wp2_with fail
 go_ret
 exact ⟨rfl, rfl⟩
set_option maxRecDepth 100000 in
theorem missA_c {v : Av} (hk : k.length ≤ maxLen) (h : HeldA w0 A P w m v) (box : Blk w C 66 #[.int .i64 1, .iface 60 (.pointer (some ⟨A, 0, none⟩))]) :
  Calls Tryz.prog 21 #[.pointer (some ⟨C, 0, none⟩), .string (str k)] w fun e w' => e = .returned (.tuple #[]) ∧ w = w' := by
 have c0 := box.cell 0
 have c1 := box.cell 1
 simp only [List.getElem?_toArray, List.getElem?_cons_succ, List.getElem?_cons_zero] at c0 c1
 have hm := made_p box
 have hmt := mAHas
 have hta : ∀ (u : Value) (w : World), (Instr.typeAssert (.iface 60 u) 64 67 true).run Tryz.prog w = .ok (.tuple #[.pointer none, .bool false]) w := fun _ _ => by kernel_rfl
 go_enter Tryz.func21, Tryz.ntmps21
 go_wp2_with fail
 refine hm.mono ?_
 rintro e w' ⟨rfl, rfl⟩
 go_wp2_with fail
 refine (Arcy.has_c hk h).mono ?_
 rintro e w' ⟨rfl, rfl⟩
 cases v.has k
 all_goals
  go_wp2_with fail
  first
  | exact bodyPost_end (v := .tuple #[]) (results_none rfl _ _ _) rfl ⟨rfl, rfl⟩
  | exact bodyPost_ret (v := .tuple #[]) (results_none rfl _ _ _) rfl ⟨rfl, rfl⟩
  | fail
set_option maxRecDepth 100000 in
theorem hasT_c {v : Tv} (hk : k.length ≤ maxLen) (h : HeldT w0 A B P w m v) (box : Blk w C 66 #[.int .i64 2, .iface 67 (.pointer (some ⟨A, 0, none⟩))]) :
  Calls Tryz.prog 11 #[.pointer (some ⟨C, 0, none⟩), .string (str k)] w fun e w' => e = .returned (.bool (v.has k)) ∧ w = w' := by
 have c0 := box.cell 0
 have c1 := box.cell 1
 simp only [List.getElem?_toArray, List.getElem?_cons_succ, List.getElem?_cons_zero] at c0 c1
 have hm := made_p box
 have hmt := mTHas
 go_enter Tryz.func11, Tryz.ntmps11
 go_wp2_with fail
 refine hm.mono ?_
 rintro e w' ⟨rfl, rfl⟩
 go_wp2_with fail
 refine (Tinyy.has_t hk h).mono ?_
 rintro e w' ⟨rfl, rfl⟩
 go_wp2_with fail
 go_ret
 exact ⟨rfl, rfl⟩
set_option maxRecDepth 100000 in
theorem lenT_c {v : Tv} (h : HeldT w0 A B P w m v) (box : Blk w C 66 #[.int .i64 2, .iface 67 (.pointer (some ⟨A, 0, none⟩))]) :
  Calls Tryz.prog 9 #[.pointer (some ⟨C, 0, none⟩)] w fun e w' => e = .returned (.int .i64 v.kept) ∧ Below w.heap.size w w' := by
 have c0 := box.cell 0
 have c1 := box.cell 1
 simp only [List.getElem?_toArray, List.getElem?_cons_succ, List.getElem?_cons_zero] at c0 c1
 have hm := made_p box
 have hmt := mTLen
 go_enter Tryz.func9, Tryz.ntmps9
 go_wp2_with fail
 refine hm.mono ?_
 rintro e w' ⟨rfl, rfl⟩
 go_wp2_with fail
 refine (Tinyy.lenT_c h).mono ?_
 rintro e w' ⟨rfl, rfl⟩
 go_wp2_with fail
 go_ret
 exact ⟨rfl, Below.refl _ w⟩
set_option maxRecDepth 100000 in
theorem touchT_c {v : Tv} (hk : k.length ≤ maxLen) (ok : v.Ok) (h : HeldT w0 A B P w m v) (box : Blk w C 66 #[.int .i64 2, .iface 67 (.pointer (some ⟨A, 0, none⟩))]) :
  Calls Tryz.prog 18 #[.pointer (some ⟨C, 0, none⟩), .string (str k)] w fun e w' => e = .returned (.bool (v.has k)) ∧ ∃ m', HeldT w0 A B P w' m' (v.touch k) ∧ StepT B w m w' m' := by
 have c0 := box.cell 0
 have c1 := box.cell 1
 simp only [List.getElem?_toArray, List.getElem?_cons_succ, List.getElem?_cons_zero] at c0 c1
 have hm := made_p box
 have hmt := mTTouch
 go_enter Tryz.func18, Tryz.ntmps18
 go_wp2_with fail
 refine hm.mono ?_
 rintro e w' ⟨rfl, rfl⟩
 go_wp2_with fail
 refine (Tinyy.touchT_c hk ok h).mono ?_
 rintro e w' ⟨rfl, hx⟩
 go_wp2_with fail
 go_ret
 exact ⟨rfl, hx⟩
set_option maxRecDepth 100000 in
theorem removeT_c {v : Tv} (hk : k.length ≤ maxLen) (h : HeldT w0 A B P w m v) (box : Blk w C 66 #[.int .i64 2, .iface 67 (.pointer (some ⟨A, 0, none⟩))]) :
  Calls Tryz.prog 19 #[.pointer (some ⟨C, 0, none⟩), .string (str k)] w fun e w' => e = .returned (.bool (v.has k)) ∧ ∃ m', HeldT w0 A B P w' m' (v.dr k) ∧ StepT B w m w' m' := by
 have c0 := box.cell 0
 have c1 := box.cell 1
 simp only [List.getElem?_toArray, List.getElem?_cons_succ, List.getElem?_cons_zero] at c0 c1
 have hm := made_p box
 have hmt := mTRemove
 go_enter Tryz.func19, Tryz.ntmps19
 go_wp2_with fail
 refine hm.mono ?_
 rintro e w' ⟨rfl, rfl⟩
 go_wp2_with fail
 refine (Tinyy.removeT_c hk h).mono ?_
 rintro e w' ⟨rfl, hx⟩
 go_wp2_with fail
 go_ret
 exact ⟨rfl, hx⟩
set_option maxRecDepth 100000 in
theorem insertT_c {v : Tv} (hk : k.length ≤ maxLen) (ok : v.Ok) (h : HeldT w0 A B P w m v) (box : Blk w C 66 #[.int .i64 2, .iface 67 (.pointer (some ⟨A, 0, none⟩))]) :
  Calls Tryz.prog 23 #[.pointer (some ⟨C, 0, none⟩), .string (str k)] w fun e w' => ∃ val m', e = .returned val ∧ HeldT w0 A B P w' m' (v.insert k) ∧ StepT B w m w' m' ∧ Tinyy.Tell w.heap.size B m' val (v.insertK k) w' := by
 have c0 := box.cell 0
 have c1 := box.cell 1
 simp only [List.getElem?_toArray, List.getElem?_cons_succ, List.getElem?_cons_zero] at c0 c1
 have hm := made_p box
 have hmt := mTInsert
 go_enter Tryz.func23, Tryz.ntmps23
 go_wp2_with fail
 refine hm.mono ?_
 rintro e w' ⟨rfl, rfl⟩
 go_wp2_with fail
 refine (Tinyy.insertT_c hk ok h).mono ?_
 rintro e w' ⟨val, m', rfl, hx⟩
 go_wp2_with fail
 go_ret
 exact ⟨_, m', rfl, hx⟩
set_option maxRecDepth 100000 in
theorem evictT_c {v : Tv} (h : HeldT w0 A B P w m v) (box : Blk w C 66 #[.int .i64 2, .iface 67 (.pointer (some ⟨A, 0, none⟩))]) :
  Calls Tryz.prog 20 #[.pointer (some ⟨C, 0, none⟩)] w fun e w' => e = .returned (.tuple #[.string (str (v.goes.getD [])), .bool v.goes.isSome]) ∧ ∃ m', HeldT w0 A B P w' m' v.evict ∧ StepT B w m w' m' := by
 have c0 := box.cell 0
 have c1 := box.cell 1
 simp only [List.getElem?_toArray, List.getElem?_cons_succ, List.getElem?_cons_zero] at c0 c1
 have hm := made_p box
 have hmt := mTEvict
 go_enter Tryz.func20, Tryz.ntmps20
 go_wp2_with fail
 refine hm.mono ?_
 rintro e w' ⟨rfl, rfl⟩
 go_wp2_with fail
 refine (Tinyy.evictT_c h).mono ?_
 rintro e w' ⟨rfl, hx⟩
 go_wp2_with fail
 go_ret2
 exact ⟨rfl, hx⟩
set_option maxRecDepth 100000 in
theorem kindT_c (box : Blk w C 66 #[.int .i64 2, .iface 67 (.pointer (some ⟨A, 0, none⟩))]) :
  Calls Tryz.prog 16 #[.pointer (some ⟨C, 0, none⟩)] w fun e w' => e = .returned (.int .i64 2) ∧ w = w' := by
 have c0 := box.cell 0
 have c1 := box.cell 1
 simp only [List.getElem?_toArray, List.getElem?_cons_succ, List.getElem?_cons_zero] at c0 c1
 have hm := made_p box
 go_enter Tryz.func16, Tryz.ntmps16
 go_wp2_with fail
 refine hm.mono ?_
 rintro e w' ⟨rfl, rfl⟩
 go_wp2_with fail
 go_ret
 exact ⟨rfl, rfl⟩
set_option maxRecDepth 100000 in
theorem missT_yes {v : Tv} (hk : k.length ≤ maxLen) (hn : v.has k = true) (h : HeldT w0 A B P w m v) (box : Blk w C 66 #[.int .i64 2, .iface 67 (.pointer (some ⟨A, 0, none⟩))]) :
  Calls Tryz.prog 21 #[.pointer (some ⟨C, 0, none⟩), .string (str k)] w fun e w' => e = .returned (.tuple #[]) ∧ w = w' := by
 have c0 := box.cell 0
 have c1 := box.cell 1
 simp only [List.getElem?_toArray, List.getElem?_cons_succ, List.getElem?_cons_zero] at c0 c1
 have hm := made_p box
 have hmt := mTHas
 have hc := Tinyy.has_t hk h
 rw [hn] at hc
 go_enter Tryz.func21, Tryz.ntmps21
 go_wp2_with fail
 refine hm.mono ?_
 rintro e w' ⟨rfl, rfl⟩
 go_wp2_with fail
 refine (hc).mono ?_
 rintro e w' ⟨rfl, rfl⟩
 go_wp2_with fail
 exact bodyPost_ret (v := .tuple #[]) (results_none rfl _ _ _) rfl ⟨rfl, rfl⟩
set_option maxRecDepth 100000 in
theorem missT_no {v : Tv} (hk : k.length ≤ maxLen) (hn : v.has k = false) (h : HeldT w0 A B P w m v) (box : Blk w C 66 #[.int .i64 2, .iface 67 (.pointer (some ⟨A, 0, none⟩))]) :
  Calls Tryz.prog 21 #[.pointer (some ⟨C, 0, none⟩), .string (str k)] w fun e w' => e = .returned (.tuple #[]) ∧ HeldT w0 A B P w' m (v.miss k) ∧ StepT B w m w' m := by
 have c0 := box.cell 0
 have c1 := box.cell 1
 simp only [List.getElem?_toArray, List.getElem?_cons_succ, List.getElem?_cons_zero] at c0 c1
 have hm := made_p box
 have hmt := mTHas
 have hc := Tinyy.has_t hk h
 have hd := Tinyy.missT_c hk h
 rw [hn] at hc
 have hta : ∀ (u : Value) (w : World), (Instr.typeAssert (.iface 67 u) 64 67 true).run Tryz.prog w = .ok (.tuple #[u, .bool true]) w := fun _ _ => by kernel_rfl
 go_enter Tryz.func21, Tryz.ntmps21
 go_wp2_with fail
 refine hm.mono ?_
 rintro e w' ⟨rfl, rfl⟩
 go_wp2_with fail
 refine (hc).mono ?_
 rintro e w' ⟨rfl, rfl⟩
 go_wp2_with fail
 refine hd.mono ?_
 rintro e w' ⟨rfl, hx⟩
 go_wp2_with fail
 exact bodyPost_end (v := .tuple #[]) (results_none rfl _ _ _) rfl ⟨rfl, hx⟩
end
set_option maxRecDepth 100000 in
theorem newA_pol {n : Nat} (h1 : 1 ≤ n) (h2 : n ≤ 1000) (s : Int) (w : World) :
  Calls Tryz.prog 5 #[.int .i64 1, .int .i64 n, .int .u64 s] w fun e w' => ∃ C H, e = .returned (.tuple #[.pointer (some ⟨C, 0, none⟩), .int .i64 0]) ∧ HeldP w C w' (.a (Av.new n)) H := by
 have hN := Arcy.newA_c h1 h2 w
 go_enter Tryz.func5, Tryz.ntmps5
 go_wp2_with fail
 refine hN.mono ?_
 rintro e w1 ⟨A, m, rfl, h⟩
 have hb := Blk.new w1 66 #[.int .i64 1, .iface 60 (.pointer (some ⟨A, 0, none⟩))]
 have hp : HeldP w w1.heap.size (w1.alloc (.cells #[.int .i64 1, .iface 60 (.pointer (some ⟨A, 0, none⟩))] 66)) (.a (Av.new n)) _ := .a (h.alloc _) hb h.below.size (fun e => by have := h.lt; omega) (fun ho => by have := h.h.lt _ ho; omega)
 clear hN h hb
 go_wp2_with fail
 go_ret2
 exact ⟨_, _, rfl, hp⟩
set_option maxRecDepth 100000 in
theorem newT_pol {n seed : Nat} (h1 : 1 ≤ n) (h2 : n ≤ 1000) (h3 : seed < 18446744073709551616) (w : World) :
  Calls Tryz.prog 5 #[.int .i64 2, .int .i64 n, .int .u64 seed] w fun e w' => ∃ C H, e = .returned (.tuple #[.pointer (some ⟨C, 0, none⟩), .int .i64 0]) ∧ HeldP w C w' (.t (Tv.new n seed)) H := by
 have hN := Tinyy.newT_c h1 h2 h3 w
 have hok := Tinyy.Tv.new_ok (n := n) (seed := seed) h1 h2 h3
 go_enter Tryz.func5, Tryz.ntmps5
 go_wp2_with fail
 refine hN.mono ?_
 rintro e w1 ⟨A, m, rfl, h⟩
 have hb := Blk.new w1 66 #[.int .i64 2, .iface 67 (.pointer (some ⟨A, 0, none⟩))]
 have hp : HeldP w w1.heap.size (w1.alloc (.cells #[.int .i64 2, .iface 67 (.pointer (some ⟨A, 0, none⟩))] 66)) (.t (Tv.new n seed)) _ := .t (h.alloc _) hok hb h.below.size (fun e => by have := h.lt; omega) (fun ho => by have := h.h.lt _ ho; omega) (fun ho => by have := h.sk.lt; have := ho.2; omega)
 clear hN h hb
 go_wp2_with fail
 go_ret2
 exact ⟨_, _, rfl, hp⟩
theorem newP_c {kind n seed : Nat} (hk : kind = 1 ∨ kind = 2) (h1 : 1 ≤ n) (h2 : n ≤ 1000) (h3 : seed < 18446744073709551616) (w : World) :
  Calls Tryz.prog 5 #[.int .i64 kind, .int .i64 n, .int .u64 seed] w fun e w' => ∃ C H, e = .returned (.tuple #[.pointer (some ⟨C, 0, none⟩), .int .i64 0]) ∧ HeldP w C w' (Pv.new kind n seed) H := by
 rcases hk with rfl | rfl
 ·exact newA_pol h1 h2 _ w
 ·exact newT_pol h1 h2 h3 w
section
variable {w0 w : World} {C : Nat} {p : Pv} {H : Nat → Prop} {k : Key}
theorem hasP_c (hk : k.length ≤ maxLen) (h : HeldP w0 C w p H) :
  Calls Tryz.prog 11 #[.pointer (some ⟨C, 0, none⟩), .string (str k)] w fun e w' => e = .returned (.bool (p.has k)) ∧ w = w' := by
 cases h with
 | a h box lo nA no => exact hasA_c hk h box
 | t h ok box lo nA no n6 => exact hasT_c hk h box
theorem lenP_c (h : HeldP w0 C w p H) :
  Calls Tryz.prog 9 #[.pointer (some ⟨C, 0, none⟩)] w fun e w' => e = .returned (.int .i64 p.kept) ∧ Below w.heap.size w w' := by
 cases h with
 | a h box lo nA no => exact lenA_c h box
 | t h ok box lo nA no n6 => exact lenT_c h box
theorem kindP_c (h : HeldP w0 C w p H) :
  Calls Tryz.prog 16 #[.pointer (some ⟨C, 0, none⟩)] w fun e w' => e = .returned (.int .i64 p.kind) ∧ w = w' := by
 cases h with
 | a h box lo nA no => exact kindA_c box
 | t h ok box lo nA no n6 => exact kindT_c box
theorem touchP_c (hk : k.length ≤ maxLen) (h : HeldP w0 C w p H) :
  Calls Tryz.prog 18 #[.pointer (some ⟨C, 0, none⟩), .string (str k)] w fun e w' => e = .returned (.bool (p.has k)) ∧ ∃ H', HeldP w0 C w' (p.touch k) H' ∧ StepP w H w' H' := by
 cases h with
 | a h box lo nA no =>
  refine (touchA_c hk h box).mono ?_
  rintro e w' ⟨rfl, m', hH, hS⟩
  exact ⟨rfl, putA h box lo nA no hH hS⟩
 | @t A B P m v h ok box lo nA no n6 =>
  refine (touchT_c hk ok h box).mono ?_
  rintro e w' ⟨rfl, m', hH, hS⟩
  exact ⟨rfl, putT h box lo nA no n6 hH (Tinyy.Tv.touch_spec ok k).1 hS⟩
theorem dropP_c (hk : k.length ≤ maxLen) (h : HeldP w0 C w p H) :
  Calls Tryz.prog 19 #[.pointer (some ⟨C, 0, none⟩), .string (str k)] w fun e w' => e = .returned (.bool (p.has k)) ∧ ∃ H', HeldP w0 C w' (p.drop k) H' ∧ StepP w H w' H' := by
 cases h with
 | a h box lo nA no =>
  refine (removeA_c hk h box).mono ?_
  rintro e w' ⟨rfl, m', hH, hS⟩
  exact ⟨rfl, putA h box lo nA no hH hS⟩
 | @t A B P m v h ok box lo nA no n6 =>
  refine (removeT_c hk h box).mono ?_
  rintro e w' ⟨rfl, m', hH, hS⟩
  exact ⟨rfl, putT h box lo nA no n6 hH (ok.dr k) hS⟩
theorem evictP_c (h : HeldP w0 C w p H) :
  Calls Tryz.prog 20 #[.pointer (some ⟨C, 0, none⟩)] w fun e w' => e = .returned (.tuple #[.string (str (p.goes.getD [])), .bool p.goes.isSome]) ∧ ∃ H', HeldP w0 C w' p.evict H' ∧ StepP w H w' H' := by
 cases h with
 | a h box lo nA no =>
  refine (evictA_c h box).mono ?_
  rintro e w' ⟨rfl, m', hH, hS⟩
  exact ⟨rfl, putA h box lo nA no hH hS⟩
 | @t A B P m v h ok box lo nA no n6 =>
  refine (evictT_c h box).mono ?_
  rintro e w' ⟨rfl, m', hH, hS⟩
  exact ⟨rfl, putT h box lo nA no n6 hH (Tinyy.Tv.evict_ok ok).1 hS⟩
theorem missP_c (hk : k.length ≤ maxLen) (h : HeldP w0 C w p H) :
  Calls Tryz.prog 21 #[.pointer (some ⟨C, 0, none⟩), .string (str k)] w fun e w' => e = .returned (.tuple #[]) ∧ ∃ H', HeldP w0 C w' (p.miss k) H' ∧ StepP w H w' H' := by
 cases h with
 | a h box lo nA no =>
  refine (missA_c hk h box).mono ?_
  rintro e w' ⟨rfl, rfl⟩
  exact ⟨rfl, _, .a h box lo nA no, .refl _ _⟩
 | @t A B P m v h ok box lo nA no n6 =>
  cases hn : v.has k with
  | true =>
   refine (missT_yes hk hn h box).mono ?_
   rintro e w' ⟨rfl, rfl⟩
   rw [show Pv.miss (.t v) k = .t v from if_pos hn]
   exact ⟨rfl, _, .t h ok box lo nA no n6, .refl _ _⟩
  | false =>
   refine (missT_no hk hn h box).mono ?_
   rintro e w' ⟨rfl, hH, hS⟩
   rw [show Pv.miss (.t v) k = .t (v.miss k) from if_neg (by rw [hn]; decide)]
   exact ⟨rfl, putT h box lo nA no n6 hH (Tinyy.Tv.miss_ok ok k).1 hS⟩
theorem insertP_c (hk : k.length ≤ maxLen) (h : HeldP w0 C w p H) :
  Calls Tryz.prog 23 #[.pointer (some ⟨C, 0, none⟩), .string (str k)] w fun e w' => ∃ val H', e = .returned val ∧ HeldP w0 C w' (p.insert k) H' ∧ StepP w H w' H' ∧ Tell w.heap.size H' val (p.insertK k) w' := by
 cases h with
 | @a A P m v h box lo nA no =>
  refine (insertA_c hk h box).mono ?_
  rintro e w' ⟨val, m', rfl, hH, hS, hT⟩
  have hz := box.lt
  refine ⟨_, _, rfl, .a hH ((hS.kp.block C box.lt (fun ho => ho.elim no nA)).trans box) lo nA (fun ho => (hS.own C ho).elim no (fun x => by omega)), .ofA hS, hT.row, ?_⟩
  intro b hb
  have h1 := hT.no b hb
  have h2 := (hT.row.lt b hb).1
  rintro (rfl | rfl | ho)
  ·omega
  ·exact h1.2 rfl
  ·exact h1.1 ho
 | @t A B P m v h ok box lo nA no n6 =>
  refine (insertT_c hk ok h box).mono ?_
  rintro e w' ⟨val, m', rfl, hH, hS, hT⟩
  have hz := box.lt
  have hz2 := h.lt
  refine ⟨_, _, rfl, .t hH (Tinyy.Tv.insert_ok ok k).1 ((hS.kp.block C box.lt (fun ho => ho.elim no n6)).trans box) lo nA (fun ho => (hS.own C ho).elim no (fun x => by omega)) n6, .ofT hS, hT.row, ?_⟩
  intro b hb
  have h1 := hT.no b hb
  have h2 := (hT.row.lt b hb).1
  rintro (rfl | rfl | ho | ho)
  ·omega
  ·omega
  ·exact h1.1 ho
  ·exact h1.2 ho
theorem Tell.form {base : Nat} {val : Value} {l : List Key} (h : Tell base H val l w) : ∃ a c, val = .slice a l.length c := own_form h.row
end
end Go.Proofs.YtncgfnocokippaaGreat.Policyy
namespace Go.Proofs.YtncgfnocokippaaGreat.Policyy
open Go.ChangeShapes Go.WideShapes Go.ChangeAt Go.RowKit
open Wirey (Blk Row str str_size str_list str_take Kp)
open Ringy hiding fewL fewL_le
open Arcy (Av)
open Tinyy (Tv fewL fewL_le)

theorem fewP_c (l : List UInt8) (hl : l.length ≤ maxLen) (w : World) :
  Calls Tryz.prog 12 #[.string (str l)] w fun e w' => e = .returned (.string (str (fewL l))) ∧ w = w' := by
 have hsz := str_size
 have ht := str_take l 80
 unfold maxLen at hl
 by_cases h : 80 < l.length
 ·have hf : fewL l = l.take 80 := if_pos h
  rw [hf]
  clear hf
  go_enter Tryz.func12, Tryz.ntmps12
  go_wp2_with fail
  go_ret
  exact ⟨rfl, rfl⟩
 ·have hf : fewL l = l := if_neg h
  rw [hf]
  clear hf
  go_enter Tryz.func12, Tryz.ntmps12
  go_wp2_with fail
  go_ret
  exact ⟨rfl, rfl⟩
theorem fewP_le (l : List UInt8) : (fewL l).length ≤ maxLen := by have := fewL_le l; unfold maxLen; omega
structure Duo (w0 : World) (C D : Nat) (w : World) (p q : Pv) (H I : Nat → Prop) : Prop where
 a : HeldP w0 C w p H
 b : HeldP w0 D w q I
 no : ∀ x, H x → ¬ I x
section
variable {w0 w w' : World} {C D : Nat} {p p' q q' : Pv} {H H' I I' : Nat → Prop}
theorem Duo.symm (h : Duo w0 C D w p q H I) : Duo w0 D C w q p I H := ⟨h.b, h.a, fun x hi hh => h.no x hh hi⟩
theorem Duo.stepA (h : Duo w0 C D w p q H I) (hH : HeldP w0 C w' p' H') (hS : StepP w H w' H') : Duo w0 C D w' p' q H' I :=
 ⟨hH, h.b.kp hS.kp (fun x hx => ⟨(h.a.own x hx).1, h.no x hx⟩), fun x hx hi => (hS.own x hx).elim (fun y => h.no x y hi) fun y => by have := (h.b.own x hi).2; omega⟩
theorem Duo.stepB (h : Duo w0 C D w p q H I) (hI : HeldP w0 D w' q' I') (hS : StepP w I w' I') : Duo w0 C D w' p q' H I' := (h.symm.stepA hI hS).symm
theorem Duo.later {B : Nat} (h : Duo w0 C D w p q H I) (hb : Below B w w') (hB : w.heap.size ≤ B) : Duo w0 C D w' p q H I := ⟨h.a.later hb hB, h.b.later hb hB, h.no⟩
theorem Duo.new (h : HeldP w0 C w p H) (h' : HeldP w D w' q I) : Duo w0 C D w' p q H I :=
 ⟨h.later h'.below (Nat.le_refl _), h'.low h.below, fun x hx hi => by have := (h.own x hx).2; have := (h'.own x hi).1; omega⟩
end
theorem wa_a : ((Av.new 2).insert [120]).has [120] = true ∧ ((Av.new 2).insert [120]).kept = 1 := by
 constructor <;> decide +kernel
theorem wa_t : ((Tv.new 2 1).insert [120]).has [120] = true := by
 have h := (Tinyy.ins_first (k := [120]) (Tinyy.lie_new 1) (by decide)).2
 unfold Tv.has
 rw [h.at_]
 rfl
set_option maxHeartbeats 1000000 in
set_option maxRecDepth 100000 in
theorem awakeP_c (w : World) :
  Calls Tryz.prog 7 #[] w fun e w' => e = .returned (.bool true) ∧ Below w.heap.size w w' := by
 have hNa := newA_pol (n := 2) (by omega) (by omega) 1 w
 have hNb := fun W => newT_pol (n := 2) (seed := 1) (by omega) (by omega) (by omega) W
 have ha := wa_a
 have hb := wa_t
 have x1 : ([120] : List UInt8).length ≤ maxLen := by unfold maxLen; decide
 go_enter Tryz.func7, Tryz.ntmps7
 go_wp2_with fail
 refine hNa.mono ?_
 rintro e w1 ⟨C, H, rfl, h1⟩
 go_wp2_with fail
 refine (hNb _).mono ?_
 rintro e w2 ⟨D, I, rfl, h2⟩
 have h3 := Duo.new h1 h2
 clear hNa hNb h1 h2
 go_wp2_with fail
 refine (insertP_c (k := [120]) x1 h3.a).mono ?_
 rintro e w3 ⟨val, H3, rfl, hH, hS, hT⟩
 have h4 := h3.stepA hH hS
 clear hH hS hT h3
 go_wp2_with fail
 refine (insertP_c (k := [120]) x1 h4.b).mono ?_
 rintro e w4 ⟨val, I4, rfl, hH, hS, hT⟩
 have h5 := h4.stepB hH hS
 clear hH hS hT h4
 have ea : (Pv.insert (.a (Av.new 2)) [120]).has [120] = true := ha.1
 have el : (Pv.insert (.a (Av.new 2)) [120]).kept = 1 := ha.2
 have eb : (Pv.insert (.t (Tv.new 2 1)) [120]).has [120] = true := hb
 have f1 := hasP_c (k := [120]) x1 h5.a
 have f2 := hasP_c (k := [120]) x1 h5.b
 have f3 := kindP_c h5.a
 have f4 := kindP_c h5.b
 have f5 := lenP_c h5.a
 rw [ea] at f1
 rw [eb] at f2
 rw [el] at f5
 clear ha hb ea el
 go_wp2_with fail
 refine f1.mono ?_
 rintro e w' ⟨rfl, rfl⟩
 go_wp2_with fail
 refine f2.mono ?_
 rintro e w' ⟨rfl, rfl⟩
 go_wp2_with fail
 refine f3.mono ?_
 rintro e w' ⟨rfl, rfl⟩
 go_wp2_with fail
 refine f4.mono ?_
 rintro e w' ⟨rfl, rfl⟩
 go_wp2_with fail
 refine f5.mono ?_
 rintro e w5 ⟨rfl, hb5⟩
 have h6 := h5.later hb5 (Nat.le_refl _)
 have f6 := touchP_c (k := [120]) x1 h6.b
 rw [eb] at f6
 clear h5 f1 f2 f3 f4 f5 hb5
 go_wp2_with fail
 refine f6.mono ?_
 rintro e w6 ⟨rfl, I6, h7, -⟩
 go_wp2_with fail
 go_ret
 exact ⟨rfl, h7.below⟩
end Go.Proofs.YtncgfnocokippaaGreat.Policyy
