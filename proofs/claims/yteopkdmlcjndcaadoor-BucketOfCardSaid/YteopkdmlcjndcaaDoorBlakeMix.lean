/- Contracts of layer 4's program (blake): a word turned to the right; four words mixed. Pure: no world turns. No condition. -/
import Derived.Test.YteopkdmlcjndcaaDoorBlakeRef
import Derived.StillTailTactics
namespace Go.Proofs.YteopkdmlcjndcaaDoor.Wirey
open Go.ChangeShapes Go.WideShapes Go.ChangeAt Go.RowKit

theorem rot_bits2 (n k : Nat) (hn : n < 4294967296) : bits .or .u32 ((n : Int) * 2 ^ (32 - k) % 4294967296) ((n : Int) / 2 ^ k) = (rot n k : Int) := by
  have h := u32_or_nat (n * 2 ^ (32 - k) % 4294967296) (n / 2 ^ k) (Nat.mod_lt _ (by omega)) (Nat.lt_of_le_of_lt (Nat.div_le_self _ _) hn)
  rw [show ((n / 2 ^ k : Nat) : Int) = (n : Int) / 2 ^ k by simp, show ((n * 2 ^ (32 - k) % 4294967296 : Nat) : Int) = (n : Int) * 2 ^ (32 - k) % 4294967296 by simp, Nat.or_comm] at h
  exact h
set_option maxHeartbeats 1000000 in
theorem right16 (n : Nat) (hn : n < 4294967296) (w : World) :
    Calls Tryd.prog 46 #[.int .u32 (n : Int), .int .i64 16] w fun e w' => e = .returned (.int .u32 (rot n 16 : Int)) ∧ w = w' := by
  have h := Lib.hid (rot_bits2 n 16 hn)
  have hb : bits BinOp.and IntKind.u64 (IntKind.u64.wrap (-16)) 31 = 16 := by decide +kernel
  go_enter Tryd.func46, Tryd.ntmps46
  go_wp2
  go_ret
  refine ⟨?_, rfl⟩
  have h2 := h.out
  simp at h2 ⊢
  exact h2
set_option maxHeartbeats 1000000 in
theorem right12 (n : Nat) (hn : n < 4294967296) (w : World) :
    Calls Tryd.prog 46 #[.int .u32 (n : Int), .int .i64 12] w fun e w' => e = .returned (.int .u32 (rot n 12 : Int)) ∧ w = w' := by
  have h := Lib.hid (rot_bits2 n 12 hn)
  have hb : bits BinOp.and IntKind.u64 (IntKind.u64.wrap (-12)) 31 = 20 := by decide +kernel
  go_enter Tryd.func46, Tryd.ntmps46
  go_wp2
  go_ret
  refine ⟨?_, rfl⟩
  have h2 := h.out
  simp at h2 ⊢
  exact h2
set_option maxHeartbeats 1000000 in
theorem right8 (n : Nat) (hn : n < 4294967296) (w : World) :
    Calls Tryd.prog 46 #[.int .u32 (n : Int), .int .i64 8] w fun e w' => e = .returned (.int .u32 (rot n 8 : Int)) ∧ w = w' := by
  have h := Lib.hid (rot_bits2 n 8 hn)
  have hb : bits BinOp.and IntKind.u64 (IntKind.u64.wrap (-8)) 31 = 24 := by decide +kernel
  go_enter Tryd.func46, Tryd.ntmps46
  go_wp2
  go_ret
  refine ⟨?_, rfl⟩
  have h2 := h.out
  simp at h2 ⊢
  exact h2
set_option maxHeartbeats 1000000 in
theorem right7 (n : Nat) (hn : n < 4294967296) (w : World) :
    Calls Tryd.prog 46 #[.int .u32 (n : Int), .int .i64 7] w fun e w' => e = .returned (.int .u32 (rot n 7 : Int)) ∧ w = w' := by
  have h := Lib.hid (rot_bits2 n 7 hn)
  have hb : bits BinOp.and IntKind.u64 (IntKind.u64.wrap (-7)) 31 = 25 := by decide +kernel
  go_enter Tryd.func46, Tryd.ntmps46
  go_wp2
  go_ret
  refine ⟨?_, rfl⟩
  have h2 := h.out
  simp at h2 ⊢
  exact h2

theorem addE2 (a b x : Nat) : ((a : Int) + ((b : Int) + (x : Int)) % 4294967296) % 4294967296 = (((a + b + x) % 4294967296 : Nat) : Int) := by omega
theorem addF2 (a b : Nat) : ((a : Int) + (b : Int)) % 4294967296 = (((a + b + 0) % 4294967296 : Nat) : Int) := by omega
/-- Four words mixed: the document's mixing of a row of four. -/
def mix4 (a b c d x y : Nat) : List Nat := mixG [a, b, c, d] 0 1 2 3 x y
def MixEnd (a b c d x y : Nat) (w : World) (e : Ending) (w' : World) : Prop :=
  e = .returned (.tuple #[.int .u32 (nat_ (mix4 a b c d x y) 0 : Int), .int .u32 (nat_ (mix4 a b c d x y) 1 : Int), .int .u32 (nat_ (mix4 a b c d x y) 2 : Int), .int .u32 (nat_ (mix4 a b c d x y) 3 : Int)]) ∧ w = w'
theorem mix4_eq {a b c d x y a1 d1 c1 b1 a2 d2 c2 b2 : Nat} (h1 : a1 = (a + b + x) % 4294967296) (h2 : d1 = rot (d ^^^ a1) 16) (h3 : c1 = (c + d1 + 0) % 4294967296) (h4 : b1 = rot (b ^^^ c1) 12)
    (h5 : a2 = (a1 + b1 + y) % 4294967296) (h6 : d2 = rot (d1 ^^^ a2) 8) (h7 : c2 = (c1 + d2 + 0) % 4294967296) (h8 : b2 = rot (b1 ^^^ c2) 7) : mix4 a b c d x y = [a2, b2, c2, d2] := by
  have e1 : gA [a, b, c, d] 0 1 x = [a1, b, c, d] := by rw [h1]; rfl
  have e2 : gX [a1, b, c, d] 3 0 16 = [a1, b, c, d1] := by rw [h2]; rfl
  have e3 : gA [a1, b, c, d1] 2 3 0 = [a1, b, c1, d1] := by rw [h3]; rfl
  have e4 : gX [a1, b, c1, d1] 1 2 12 = [a1, b1, c1, d1] := by rw [h4]; rfl
  have e5 : gA [a1, b1, c1, d1] 0 1 y = [a2, b1, c1, d1] := by rw [h5]; rfl
  have e6 : gX [a2, b1, c1, d1] 3 0 8 = [a2, b1, c1, d2] := by rw [h6]; rfl
  have e7 : gA [a2, b1, c1, d2] 2 3 0 = [a2, b1, c2, d2] := by rw [h7]; rfl
  have e8 : gX [a2, b1, c2, d2] 1 2 7 = [a2, b2, c2, d2] := by rw [h8]; rfl
  unfold mix4 mixG
  rw [e1, e2, e3, e4, e5, e6, e7, e8]
set_option maxHeartbeats 4000000 in
theorem mixed_c (a b c d x y : Nat) (hb : b < 4294967296) (hd : d < 4294967296) (w : World) :
    Calls Tryd.prog 43 #[.int .u32 (a : Int), .int .u32 (b : Int), .int .u32 (c : Int), .int .u32 (d : Int), .int .u32 (x : Int), .int .u32 (y : Int)] w (MixEnd a b c d x y w) := by
  go_enter Tryd.func43, Tryd.ntmps43
  go_upto_region 2 with fail
  rw [addE2]
  obtain ⟨a1, h1⟩ : ∃ n, Hid (n = (a + b + x) % 4294967296) := ⟨_, Lib.hid rfl⟩
  have ha1 : a1 < 4294967296 := by rw [h1.out]; exact Nat.mod_lt _ (by omega)
  rw [← h1.out]
  have x2 := u32_xor_nat d a1 hd ha1
  go_upto_region 3 with (go_at_call 46; refine (right16 (d ^^^ a1) (xor_lt hd ha1) _).mono ?_; rintro _ _ ⟨rfl, rfl⟩)
  obtain ⟨d1, h2⟩ : ∃ n, Hid (n = rot (d ^^^ a1) 16) := ⟨_, Lib.hid rfl⟩
  have hd1 : d1 < 4294967296 := by rw [h2.out]; exact rot_lt (xor_lt hd ha1)
  rw [← h2.out]
  clear x2
  go_upto_region 4 with fail
  rw [addF2]
  obtain ⟨c1, h3⟩ : ∃ n, Hid (n = (c + d1 + 0) % 4294967296) := ⟨_, Lib.hid rfl⟩
  have hc1 : c1 < 4294967296 := by rw [h3.out]; exact Nat.mod_lt _ (by omega)
  rw [← h3.out]
  have x4 := u32_xor_nat b c1 hb hc1
  go_upto_region 5 with (go_at_call 46; refine (right12 (b ^^^ c1) (xor_lt hb hc1) _).mono ?_; rintro _ _ ⟨rfl, rfl⟩)
  obtain ⟨b1, h4⟩ : ∃ n, Hid (n = rot (b ^^^ c1) 12) := ⟨_, Lib.hid rfl⟩
  have hb1 : b1 < 4294967296 := by rw [h4.out]; exact rot_lt (xor_lt hb hc1)
  rw [← h4.out]
  clear x4
  go_upto_region 6 with fail
  rw [addE2]
  obtain ⟨a2, h5⟩ : ∃ n, Hid (n = (a1 + b1 + y) % 4294967296) := ⟨_, Lib.hid rfl⟩
  have ha2 : a2 < 4294967296 := by rw [h5.out]; exact Nat.mod_lt _ (by omega)
  rw [← h5.out]
  have x6 := u32_xor_nat d1 a2 hd1 ha2
  go_upto_region 7 with (go_at_call 46; refine (right8 (d1 ^^^ a2) (xor_lt hd1 ha2) _).mono ?_; rintro _ _ ⟨rfl, rfl⟩)
  obtain ⟨d2, h6⟩ : ∃ n, Hid (n = rot (d1 ^^^ a2) 8) := ⟨_, Lib.hid rfl⟩
  have hd2 : d2 < 4294967296 := by rw [h6.out]; exact rot_lt (xor_lt hd1 ha2)
  rw [← h6.out]
  clear x6
  go_upto_region 8 with fail
  rw [addF2]
  obtain ⟨c2, h7⟩ : ∃ n, Hid (n = (c1 + d2 + 0) % 4294967296) := ⟨_, Lib.hid rfl⟩
  have hc2 : c2 < 4294967296 := by rw [h7.out]; exact Nat.mod_lt _ (by omega)
  rw [← h7.out]
  have x8 := u32_xor_nat b1 c2 hb1 hc2
  go_upto_region 9 with (go_at_call 46; refine (right7 (b1 ^^^ c2) (xor_lt hb1 hc2) _).mono ?_; rintro _ _ ⟨rfl, rfl⟩)
  obtain ⟨b2, h8⟩ : ∃ n, Hid (n = rot (b1 ^^^ c2) 7) := ⟨_, Lib.hid rfl⟩
  have hb2 : b2 < 4294967296 := by rw [h8.out]; exact rot_lt (xor_lt hb1 hc2)
  rw [← h8.out]
  clear x8
  go_wp2_with fail
  refine bodyPost_ret (v := .tuple #[.int .u32 (a2 : Int), .int .u32 (b2 : Int), .int .u32 (c2 : Int), .int .u32 (d2 : Int)]) (by simp [results, Tryd.results43, go_sem]) rfl ?_
  unfold MixEnd
  rw [mix4_eq h1.out h2.out h3.out h4.out h5.out h6.out h7.out h8.out]
  exact ⟨rfl, rfl⟩
end Go.Proofs.YteopkdmlcjndcaaDoor.Wirey
