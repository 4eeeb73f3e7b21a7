/- The contract of layer 3's Open: whatever bytes there are, what the plain function says. Nothing that was there turns. Condition: the table of halves holds what the program's text lays. -/
import Derived.Test.YtmoammadibepkaaDoorWireTake
namespace Go.Proofs.YtmoammadibepkaaDoor.Wirey
open Go.ChangeShapes Go.WideShapes Go.ChangeAt Go.RowKit

theorem enters_open : ∀ (args : Array Value) (w : World), (callFunc 46 args).run Tryd.prog w = .ok (.enter 46 args) w := fun _ _ => by kernel_rfl

/-- What the start of Open's call gives to the function that it hands to Read. -/
structure OpenAt (w w1 : World) (R O : Nat) (f : List UInt8) (g : Nat) : Prop where
  rs : RS w1 R O f
  F : w1.cell? ⟨g, 0, none⟩ = some (.string (str f))
  S : w1.cell? ⟨g + 1, 0, none⟩ = some (.string (str []))
  Sf : w1.frozen? ⟨g + 1, 0, none⟩ = false
  SR : g + 1 ≠ R
  SO : g + 1 ≠ O
  FR : g ≠ R
  FO : g ≠ O
  FS : g ≠ g + 1
  T : Halves w1
  gR : 0 ≠ R
  gO : 0 ≠ O
  gS : 0 ≠ g + 1

theorem open_start (f : List UInt8) (w : World) (hT : Halves w) {w1 w2 : World} {R O : Nat} (h1 : Below w.heap.size w w1) (b0 : Blk w1 w.heap.size 9 #[.string (str f)]) (b1 : Blk w1 (w.heap.size + 1) 9 #[.string (str [])])
    (hr : RS w2 R O f) (hb : Below w1.heap.size w1 w2) (hR : w1.heap.size ≤ R) (hO : w1.heap.size ≤ O) : OpenAt w w2 R O f w.heap.size := by
  have l0 := b0.lt
  have l1 := b1.lt
  have c0 := b0.below hb l0
  have c1 := b1.below hb l1
  have hT2 := (hT.below h1 hT.lt).below hb (by have := hT.lt; omega)
  have hg := hT.lt
  exact ⟨hr, c0.cell 0, c1.cell 0, c1.free 0, by omega, by omega, by omega, by omega, by omega, hT2, by omega, by omega, by omega⟩

set_option maxHeartbeats 4000000 in
theorem open_ret (f s : List UInt8) (w : World) (hT : Halves w)
    (hX : ∀ R O w1, OpenAt w w1 R O f w.heap.size → Calls Tryd.prog 46 #[.pointer (some ⟨R, 0, none⟩), .pointer (some ⟨w.heap.size + 1, 0, none⟩), .pointer (some ⟨w.heap.size, 0, none⟩)] w1 fun e w2 =>
      e = .returned (.tuple #[]) ∧ RS w2 R O [] ∧ Kp (fun j => j = R ∨ j = O ∨ j = w.heap.size + 1) w1 w2 ∧ w2.cell? ⟨w.heap.size + 1, 0, none⟩ = some (.string (str s))) :
    Calls Tryd.prog 28 #[.string (str f)] w fun e w' => e = .returned (.tuple #[.string (str s), .int .i64 0]) ∧ Below w.heap.size w w' := by
  have hmf : ∀ (fn : Fn) (first cap : Array Value) (w : World), (Instr.makeFunc fn first cap).run Tryd.prog w = .ok (.func fn first cap) w := fun _ _ _ _ => rfl
  have HX := Lib.hid hX
  clear hX
  have HT := Lib.hid hT
  clear hT
  go_enter Tryd.func28, Tryd.ntmps28
  go_wp2_with fail
  obtain ⟨h1, b0, b1, hs⟩ := two_start w 9 9 #[.string (str f)] #[.string ⟨#[]⟩]
  generalize ((w.alloc (.cells #[.string (str f)] 9)).alloc (.cells #[.string ⟨#[]⟩] 9)) = w1 at h1 b0 b1 hs ⊢
  refine (read_ok _ enters_open #[.pointer (some ⟨w.heap.size + 1, 0, none⟩), .pointer (some ⟨w.heap.size, 0, none⟩)] f [] w1 (fun j => j = w.heap.size + 1) (fun w2 => w2.cell? ⟨w.heap.size + 1, 0, none⟩ = some (.string (str s)))
    (fun j hj => by omega) (fun w2 w3 h hb => cell_keep (by show w.heap.size + 1 < _; omega) h hb) ?_).mono ?_
  · intro R O w2 hr hb hR hO
    exact HX.out R O w2 (open_start f w HT.out h1 b0 b1 hr hb hR hO)
  rintro e w2 ⟨rfl, hk, hq⟩
  have hB := hk.below h1 (fun j hj => by omega)
  rw [endE_nil]
  go_wp2_with fail
  go_ret2
  exact ⟨rfl, hB⟩
set_option maxHeartbeats 4000000 in
theorem open_left (f m : List UInt8) (hm : m ≠ []) (w : World) (hT : Halves w)
    (hX : ∀ R O w1, OpenAt w w1 R O f w.heap.size → Calls Tryd.prog 46 #[.pointer (some ⟨R, 0, none⟩), .pointer (some ⟨w.heap.size + 1, 0, none⟩), .pointer (some ⟨w.heap.size, 0, none⟩)] w1 fun e w2 =>
      e = .returned (.tuple #[]) ∧ RS w2 R O m ∧ Kp (fun j => j = R ∨ j = O ∨ j = w.heap.size + 1) w1 w2 ∧ True) :
    Calls Tryd.prog 28 #[.string (str f)] w fun e w' => e = .returned (.tuple #[.string (str []), .int .i64 5]) ∧ Below w.heap.size w w' := by
  have hmf : ∀ (fn : Fn) (first cap : Array Value) (w : World), (Instr.makeFunc fn first cap).run Tryd.prog w = .ok (.func fn first cap) w := fun _ _ _ _ => rfl
  have HX := Lib.hid hX
  clear hX
  have HT := Lib.hid hT
  clear hT
  go_enter Tryd.func28, Tryd.ntmps28
  go_wp2_with fail
  obtain ⟨h1, b0, b1, hs⟩ := two_start w 9 9 #[.string (str f)] #[.string ⟨#[]⟩]
  generalize ((w.alloc (.cells #[.string (str f)] 9)).alloc (.cells #[.string ⟨#[]⟩] 9)) = w1 at h1 b0 b1 hs ⊢
  refine (read_ok _ enters_open #[.pointer (some ⟨w.heap.size + 1, 0, none⟩), .pointer (some ⟨w.heap.size, 0, none⟩)] f m w1 (fun j => j = w.heap.size + 1) (fun _ => True)
    (fun j hj => by omega) (fun w2 w3 h hb => trivial) ?_).mono ?_
  · intro R O w2 hr hb hR hO
    exact HX.out R O w2 (open_start f w HT.out h1 b0 b1 hr hb hR hO)
  rintro e w2 ⟨rfl, hk, hq⟩
  have hB := hk.below h1 (fun j hj => by omega)
  rw [endE_some hm]
  go_wp2_with fail
  go_ret2
  exact ⟨rfl, hB⟩
set_option maxHeartbeats 4000000 in
theorem open_wrong (f : List UInt8) (k0 : Nat) (hk0 : k0 ≠ 0) (w : World) (hT : Halves w)
    (hX : ∀ R O w1, OpenAt w w1 R O f w.heap.size → Calls Tryd.prog 46 #[.pointer (some ⟨R, 0, none⟩), .pointer (some ⟨w.heap.size + 1, 0, none⟩), .pointer (some ⟨w.heap.size, 0, none⟩)] w1 fun e w2 =>
      e = .panicked (flt O) ∧ Wrong w2 O k0 ∧ Kp (fun j => j = R ∨ j = O ∨ j = w.heap.size + 1) w1 w2) :
    Calls Tryd.prog 28 #[.string (str f)] w fun e w' => e = .returned (.tuple #[.string (str []), .int .i64 (k0 : Int)]) ∧ Below w.heap.size w w' := by
  have hmf : ∀ (fn : Fn) (first cap : Array Value) (w : World), (Instr.makeFunc fn first cap).run Tryd.prog w = .ok (.func fn first cap) w := fun _ _ _ _ => rfl
  have HX := Lib.hid hX
  clear hX
  have HT := Lib.hid hT
  clear hT
  have hn1 : ((k0 : Int) != 0) = true := by rw [bne_iff_ne]; omega
  have hn2 : ((k0 : Int) == 0) = false := by rw [beq_eq_false_iff_ne]; omega
  clear hk0
  go_enter Tryd.func28, Tryd.ntmps28
  go_wp2_with fail
  obtain ⟨h1, b0, b1, hs⟩ := two_start w 9 9 #[.string (str f)] #[.string ⟨#[]⟩]
  generalize ((w.alloc (.cells #[.string (str f)] 9)).alloc (.cells #[.string ⟨#[]⟩] 9)) = w1 at h1 b0 b1 hs ⊢
  refine (read_wrong _ enters_open #[.pointer (some ⟨w.heap.size + 1, 0, none⟩), .pointer (some ⟨w.heap.size, 0, none⟩)] f k0 w1 (fun j => j = w.heap.size + 1) (fun _ => True)
    (fun j hj => by omega) (fun w2 w3 h hb => trivial) ?_).mono ?_
  · intro R O w2 hr hb hR hO
    exact (HX.out R O w2 (open_start f w HT.out h1 b0 b1 hr hb hR hO)).mono fun e w3 ⟨a, b, c⟩ => ⟨a, b, c, trivial⟩
  rintro e w2 ⟨rfl, hk, hq⟩
  have hB := hk.below h1 (fun j hj => by omega)
  go_wp2_with fail
  go_ret2
  exact ⟨rfl, hB⟩

/-- What bytes have, if they are a frame, and why they are none: as the program has it. -/
def openR : List UInt8 → List UInt8 × Nat
  | [] => ([], 4)
  | v :: l1 =>
    if v ≠ 49 then ([], 6)
    else if (numR l1).2.2 ≠ 0 then ([], (numR l1).2.2)
    else if 65536 < (numR l1).1 then ([], 3)
    else if l1.length < (numR l1).2.1 + (numR l1).1 then ([], 4)
    else if (l1.drop ((numR l1).2.1 + (numR l1).1)).length < 4 then ([], 4)
    else if (l1.drop ((numR l1).2.1 + (numR l1).1)).take 4 ≠ four (chk ((49 :: l1).take (l1.length + 1 - (l1.drop ((numR l1).2.1 + (numR l1).1)).length))) then ([], 6)
    else if (l1.drop ((numR l1).2.1 + (numR l1).1)).drop 4 ≠ [] then ([], 5)
    else ((l1.drop (numR l1).2.1).take (numR l1).1, 0)
theorem open_c (f : List UInt8) (hl : f.length < 549755813888) (w : World) (hT : Halves w) :
    Calls Tryd.prog 28 #[.string (str f)] w fun e w' => e = .returned (.tuple #[.string (str (openR f).1), .int .i64 ((openR f).2 : Int)]) ∧ Below w.heap.size w w' := by
  rcases f with _ | ⟨v, l1⟩
  · exact open_wrong [] 4 (by decide) w hT fun R O w1 h => take_open_none w1 h.rs
  · rw [List.length_cons] at hl
    unfold openR
    dsimp only
    by_cases hv : v ≠ 49
    · rw [if_pos hv]
      exact open_wrong _ 6 (by decide) w hT fun R O w1 h => take_open_version w1 h.rs (by omega) hv
    rw [if_neg hv]
    obtain rfl : v = 49 := Classical.not_not.1 hv
    obtain ⟨n, k, e0, hR⟩ : ∃ n k e0, numR l1 = (n, k, e0) := ⟨_, _, _, rfl⟩
    rw [hR]
    by_cases he : e0 ≠ 0
    · rw [if_pos he]
      exact open_wrong _ e0 he w hT fun R O w1 h => take_open_text w1 h.rs (by omega) e0 fun w2 hr => rtext_bad 65536 (by omega) hR he (by omega) w2 hr
    rw [if_neg he]
    obtain rfl : e0 = 0 := by omega
    dsimp only
    by_cases ho : 65536 < n
    · rw [if_pos ho]
      exact open_wrong _ 3 (by decide) w hT fun R O w1 h => take_open_text w1 h.rs (by omega) 3 fun w2 hr => rtext_over 65536 (by omega) hR ho (by omega) w2 hr
    rw [if_neg ho]
    by_cases hs : l1.length < k + n
    · rw [if_pos hs]
      exact open_wrong _ 4 (by decide) w hT fun R O w1 h => take_open_text w1 h.rs (by omega) 4 fun w2 hr => rtext_short 65536 (by omega) hR (by omega) hs (by omega) w2 hr
    rw [if_neg hs]
    by_cases h4 : (l1.drop (k + n)).length < 4
    · rw [if_pos h4]
      exact open_wrong _ 4 (by decide) w hT fun R O w1 h => take_open_short w1 h.rs (by omega) h.F h.S h.Sf h.SR h.SO h.FR h.FO h.FS hR (by omega) (by omega) h4
    rw [if_neg h4]
    by_cases hc : (l1.drop (k + n)).take 4 ≠ four (chk ((49 :: l1).take (l1.length + 1 - (l1.drop (k + n)).length)))
    · rw [if_pos hc]
      exact open_wrong _ 6 (by decide) w hT fun R O w1 h => take_open_check w1 h.rs (by omega) h.F h.S h.Sf h.SR h.SO h.FR h.FO h.FS h.T h.gR h.gO h.gS hR (by omega) (by omega) (by omega) hc
    rw [if_neg hc]
    have hc' := Classical.not_not.1 hc
    by_cases hm : (l1.drop (k + n)).drop 4 ≠ []
    · rw [if_pos hm]
      exact open_left _ _ hm w hT fun R O w1 h => (take_open_ok w1 h.rs (by omega) h.F h.S h.Sf h.SR h.SO h.FR h.FO h.FS h.T h.gR h.gO h.gS hR (by omega) (by omega) (by omega) hc').mono fun e w2 ⟨a, b, c, _⟩ => ⟨a, b, c, trivial⟩
    rw [if_neg hm]
    have hm' := Classical.not_not.1 hm
    exact open_ret _ _ w hT fun R O w1 h => (take_open_ok w1 h.rs (by omega) h.F h.S h.Sf h.SR h.SO h.FR h.FO h.FS h.T h.gR h.gO h.gS hR (by omega) (by omega) (by omega) hc').mono fun e w2 ⟨a, b, c, d⟩ => ⟨a, by rw [← hm']; exact b, c, d⟩
end Go.Proofs.YtmoammadibepkaaDoor.Wirey
