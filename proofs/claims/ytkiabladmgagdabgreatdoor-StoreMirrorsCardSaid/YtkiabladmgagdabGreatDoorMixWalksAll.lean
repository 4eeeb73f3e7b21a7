/- Plain facts on numbers of 64 bits for layer 1 (mix): folding undoes itself, a product by an odd factor is undone by its inverse, turning left by 29 and then by 35 is nothing; the 64 upper bits of a product by halves. No program is read here. Contracts of layer 1's functions (mix, and the document's own answers): each call returns just what the plain functions of MixNums give, and leaves the world as it was; every number of 64 bits. -/
import Derived.Laws.BitsAllLaws
import Derived.Laws.Bits64b
import Derived.Lib.Mul64
import Derived.Test.YtkiabladmgagdabGreatDoorRows
import Derived.WalkKit
import Derived.Lib.Hide
import Derived.ProofKit
import Derived.OpenShut
import Derived.Test.YtkiabladmgagdabGreatDoorSq
namespace Go.Proofs.YtkiabladmgagdabGreatDoor.Mixy

def fold (x : Nat) : Nat := x ^^^ x / 4294967296
def mulF (x : Nat) : Nat := x * 11400714819323198485 % 18446744073709551616
def rot29 (x : Nat) : Nat := x % 34359738368 * 536870912 + x / 34359738368
def mix (x : Nat) : Nat := fold (mulF (rot29 (mulF (fold x))))
theorem fold_lt {x : Nat} (h : x < 18446744073709551616) : fold x < 18446744073709551616 := by
 have h1 : x / 4294967296 < 2 ^ 64 := by omega
 have h2 : x < 2 ^ 64 := by omega
 have := Nat.xor_lt_two_pow h2 h1
 unfold fold; omega
theorem mulF_lt (x : Nat) : mulF x < 18446744073709551616 := Nat.mod_lt _ (by decide)
theorem mix_lt (x : Nat) : mix x < 18446744073709551616 := fold_lt (mulF_lt _)
def byteIn (x : Nat) (c : UInt8) : Nat := (x ^^^ c.toNat) * 1099511628211 % 18446744073709551616
def basis : Nat := 14695981039346656037
def bytesIn (seed : Nat) (l : List UInt8) : Nat := l.foldl byteIn (basis ^^^ mix seed)
def text (seed : Nat) (l : List UInt8) : Nat := mix (bytesIn seed l ^^^ l.length)
theorem bytesIn_snoc (seed : Nat) (l : List UInt8) (c : UInt8) : bytesIn seed (l ++ [c]) = byteIn (bytesIn seed l) c := by
 unfold bytesIn; rw [List.foldl_append, List.foldl_cons, List.foldl_nil]
theorem xor_lt {a b : Nat} (ha : a < 18446744073709551616) (hb : b < 18446744073709551616) : a ^^^ b < 18446744073709551616 := by
 have := Nat.xor_lt_two_pow (n := 64) (x := a) (y := b) (by omega) (by omega)
 omega
theorem basis_lt (seed : Nat) : basis ^^^ mix seed < 18446744073709551616 := xor_lt (by decide) (mix_lt _)
theorem bytesIn_lt (seed : Nat) (l : List UInt8) : bytesIn seed l < 18446744073709551616 := by
 have base := basis_lt seed
 have all : ∀ (l : List UInt8) (x : Nat), x < 18446744073709551616 → l.foldl byteIn x < 18446744073709551616 := by
  intro l
  induction l with
  | nil => intro x h; exact h
  | cons c l ih => intro x _; exact ih _ (Nat.mod_lt _ (by decide))
 exact all l _ base
end Go.Proofs.YtkiabladmgagdabGreatDoor.Mixy
namespace Go.Proofs.YtkiabladmgagdabGreatDoor.Mixy
open Go.ChangeShapes Go.WideShapes Go.ChangeAt Go.RowKit

theorem xor_fold (x : Nat) (h : x < 18446744073709551616) : bits .xor .u64 (x : Int) ((x : Int) / 4294967296) = (fold x : Int) := by
 have := xorShift_u64 x 4294967296 h
 exact this
theorem wrap_F (x : Nat) : IntKind.u64.wrap ((x : Int) * 11400714819323198485) = (mulF x : Int) := by
 rw [IntKind.wrap_u64]; unfold mulF; omega
theorem or_29 (x : Nat) (h : x < 18446744073709551616) : bits .or .u64 (IntKind.u64.wrap ((x : Int) * 536870912)) ((x : Int) / 34359738368) = (rot29 x : Int) := by
 have e1 : IntKind.u64.wrap ((x : Int) * 536870912) = ((x % 34359738368 * 536870912 : Nat) : Int) := by rw [IntKind.wrap_u64]; omega
 have e2 : (x : Int) / 34359738368 = ((x / 34359738368 : Nat) : Int) := by omega
 rw [e1, e2, bits_or_u64_nat _ _ (by omega) (by omega), nat_join 29 _ _ (by omega) (by omega)]
 rfl
set_option maxHeartbeats 400000 in
theorem fold_c (v : Nat) (hv : v < 18446744073709551616) (w : World) :
  Calls Tryz.prog 200 #[.int .u64 v] w fun e w' => e = .returned (.int .u64 (fold v : Int)) ∧ w = w' := by
 have h := xor_fold v hv
 go_enter Tryz.func200, Tryz.ntmps200
 go_wp2
 go_ret
 exact ⟨rfl, rfl⟩
set_option maxHeartbeats 400000 in
theorem rot29_c (v : Nat) (hv : v < 18446744073709551616) (w : World) :
  Calls Tryz.prog 201 #[.int .u64 v, .int .i64 29] w fun e w' => e = .returned (.int .u64 (rot29 v : Int)) ∧ w = w' := by
 have h1 : bits .and .u64 29 63 = 29 := by decide
 have h2 := or_29 v hv
 go_enter Tryz.func201, Tryz.ntmps201
 go_wp2
 go_ret
 exact ⟨rfl, rfl⟩
set_option maxHeartbeats 400000 in
theorem mix_c (v : Nat) (hv : v < 18446744073709551616) (w : World) :
  Calls Tryz.prog 196 #[.int .u64 v] w fun e w' => e = .returned (.int .u64 (mix v : Int)) ∧ w = w' := by
 have h := wrap_F
 go_enter Tryz.func196, Tryz.ntmps196
 go_wp2_with fail
 refine (fold_c _ hv _).mono ?_
 rintro e w' ⟨rfl, rfl⟩
 go_wp2_with fail
 refine (rot29_c _ (mulF_lt _) _).mono ?_
 rintro e w' ⟨rfl, rfl⟩
 go_wp2_with fail
 refine (fold_c _ (mulF_lt _) _).mono ?_
 rintro e w' ⟨rfl, rfl⟩
 go_wp2_with fail
 go_ret
 exact ⟨rfl, rfl⟩
theorem xor_nat (a b : Nat) (ha : a < 18446744073709551616) (hb : b < 18446744073709551616) : bits .xor .u64 (a : Int) (b : Int) = ((a ^^^ b : Nat) : Int) := u64_xor_nat a b ha hb
theorem wrap_P (x : Nat) : IntKind.u64.wrap ((x : Int) * 1099511628211) = ((x * 1099511628211 % 18446744073709551616 : Nat) : Int) := by
 rw [IntKind.wrap_u64]; omega
theorem byte_step (x : Nat) (c : UInt8) (h : x < 18446744073709551616) : IntKind.u64.wrap (bits .xor .u64 (x : Int) (c.toNat : Int) * 1099511628211) = (byteIn x c : Int) := by
 have := c.toNat_lt
 rw [xor_nat x c.toNat h (by omega), wrap_P, byteIn]
theorem take_snoc (s : ByteArray) (k : Nat) (h : k < s.size) : s.data.toList.take (k + 1) = s.data.toList.take k ++ [s[k]] := by
 rw [List.take_succ_eq_append_getElem (by simpa using h)]; rfl
theorem basis_in (seed : Nat) : bits .xor .u64 14695981039346656037 (mix seed : Int) = (bytesIn seed [] : Int) := by
 have e : (14695981039346656037 : Int) = ((basis : Nat) : Int) := by simp [basis]
 have hb : basis < 18446744073709551616 := by unfold basis; omega
 rw [e, xor_nat basis _ hb (mix_lt _), bytesIn, List.foldl_nil]

set_option maxHeartbeats 400000 in
theorem of_c (seed : Nat) (hs : seed < 18446744073709551616) (s : ByteArray) (hl : s.size ≤ maxLen) (w : World) :
  Calls Tryz.prog 192 #[.int .u64 seed, .string s] w fun e w' => e = .returned (.int .u64 (text seed s.data.toList : Int)) ∧ w = w' := by
 unfold maxLen at hl
 have hb0 := basis_in seed
 go_enter Tryz.func192, Tryz.ntmps192
 go_wp2_with fail
 refine (mix_c _ hs _).mono ?_
 rintro e w' ⟨rfl, rfl⟩
 go_wp2_with fail
 go_loop [5, 12] (fun h i => ∃ k : Nat, k ≤ s.size ∧ i = .int .i64 k ∧ h = .int .u64 (bytesIn seed (s.data.toList.take k))) (fun _ i => s.size - (intOf i).toNat)
 case atStart => exact ⟨0, Nat.zero_le _, rfl, rfl⟩
 case round =>
  obtain ⟨k, hk, rfl, rfl⟩ := hrel
  by_cases hlt : k < s.size
  ·have hstep := byte_step _ s[k] (bytesIn_lt seed (s.data.toList.take k))
   rw [← bytesIn_snoc, ← take_snoc s k hlt] at hstep
   have hbyte := s[k].toNat_lt
   go_wp2
   go_round
   case rel => exact ⟨k + 1, by omega, by go_num, rfl⟩
   case measure => simp [intOf]; omega
  ·obtain rfl : k = s.size := by omega
   have hall : s.data.toList.take s.size = s.data.toList := List.take_of_length_le (by simp)
   rw [hall]
   clear hall hlt hk
   have hx := xor_nat _ s.size (bytesIn_lt seed s.data.toList) (by omega)
   have hx2 := xor_lt (bytesIn_lt seed s.data.toList) (b := s.size) (by omega)
   go_wp2_with fail
   refine (mix_c _ hx2 _).mono ?_
   rintro e w' ⟨rfl, rfl⟩
   go_wp2_with fail
   go_ret
   exact ⟨by rw [text, Array.length_toList]; rfl, rfl⟩
theorem mask_32 (a : Int) (h0 : 0 ≤ a) (h : a < 18446744073709551616) : bits .and .u64 a 4294967295 = a % 4294967296 := by
 obtain ⟨n, rfl⟩ := Int.eq_ofNat_of_zero_le h0
 have e := bits_and_u64_nat n 4294967295 (by omega) (by omega)
 rw [nat_mask32] at e
 exact e
theorem half_mul (a b : Int) (h0 : 0 ≤ a) (h1 : a ≤ 4294967295) (h2 : 0 ≤ b) (h3 : b ≤ 4294967295) : 0 ≤ a * b ∧ a * b ≤ 18446744065119617025 :=
 ⟨Int.mul_nonneg h0 h2, Int.mul_le_mul h1 h3 h2 (by omega)⟩
theorem hi_int (x y : Nat) (hx : x < 18446744073709551616) (hy : y < 18446744073709551616) :
  (x : Int) / 4294967296 * ((y : Int) / 4294967296) + ((x : Int) / 4294967296 * ((y : Int) % 4294967296) + (x : Int) % 4294967296 * ((y : Int) % 4294967296) / 4294967296) / 4294967296 + (((x : Int) / 4294967296 * ((y : Int) % 4294967296) + (x : Int) % 4294967296 * ((y : Int) % 4294967296) / 4294967296) % 4294967296 + (x : Int) % 4294967296 * ((y : Int) / 4294967296)) / 4294967296 = ((x * y / 18446744073709551616 : Nat) : Int) := by
 rw [← (Lib.mul64_hi x y hx hy).2.2.2]
 simp only [Int.natCast_add, Int.natCast_mul, Int.natCast_ediv, Int.natCast_emod, Int.cast_ofNat_Int]
theorem hi_bounds (x y : Nat) (hx : x < 18446744073709551616) (hy : y < 18446744073709551616) :
  ((x : Int) / 4294967296 * ((y : Int) % 4294967296) + (x : Int) % 4294967296 * ((y : Int) % 4294967296) / 4294967296 < 18446744073709551616) ∧
  (((x : Int) / 4294967296 * ((y : Int) % 4294967296) + (x : Int) % 4294967296 * ((y : Int) % 4294967296) / 4294967296) % 4294967296 + (x : Int) % 4294967296 * ((y : Int) / 4294967296) < 18446744073709551616) ∧
  ((x : Int) / 4294967296 * ((y : Int) / 4294967296) + ((x : Int) / 4294967296 * ((y : Int) % 4294967296) + (x : Int) % 4294967296 * ((y : Int) % 4294967296) / 4294967296) / 4294967296 + (((x : Int) / 4294967296 * ((y : Int) % 4294967296) + (x : Int) % 4294967296 * ((y : Int) % 4294967296) / 4294967296) % 4294967296 + (x : Int) % 4294967296 * ((y : Int) / 4294967296)) / 4294967296 < 18446744073709551616) := by
 have p1 := half_mul ((x : Int) / 4294967296) ((y : Int) % 4294967296) (by omega) (by omega) (by omega) (by omega)
 have p2 := half_mul ((x : Int) % 4294967296) ((y : Int) % 4294967296) (by omega) (by omega) (by omega) (by omega)
 have p3 := half_mul ((x : Int) % 4294967296) ((y : Int) / 4294967296) (by omega) (by omega) (by omega) (by omega)
 refine ⟨by omega, by omega, ?_⟩
 rw [hi_int x y hx hy]
 have := Nat.mul_lt_mul'' hx hy
 omega

set_option maxHeartbeats 1000000 in
theorem mul64_c (x y : Nat) (hx : x < 18446744073709551616) (hy : y < 18446744073709551616) (w : World) :
  Calls Tryz.prog 202 #[.int .u64 x, .int .u64 y] w fun e w' => e = .returned (.tuple #[.int .u64 ((x * y / 18446744073709551616 : Nat) : Int), .int .u64 (IntKind.u64.wrap ((x : Int) * y))]) ∧ w = w' := by
 obtain ⟨p1, p1'⟩ := half_mul ((x : Int) / 4294967296) ((y : Int) % 4294967296) (by omega) (by omega) (by omega) (by omega)
 obtain ⟨p2, p2'⟩ := half_mul ((x : Int) % 4294967296) ((y : Int) % 4294967296) (by omega) (by omega) (by omega) (by omega)
 obtain ⟨p3, p3'⟩ := half_mul ((x : Int) % 4294967296) ((y : Int) / 4294967296) (by omega) (by omega) (by omega) (by omega)
 obtain ⟨p4, p4'⟩ := half_mul ((x : Int) / 4294967296) ((y : Int) / 4294967296) (by omega) (by omega) (by omega) (by omega)
 obtain ⟨b1, b2, b3⟩ := hi_bounds x y hx hy
 have m1 := mask_32 x (by omega) (by omega)
 have m2 := mask_32 y (by omega) (by omega)
 have m3 := mask_32 _ (by omega) b1
 have hh := Lib.hid (hi_int x y hx hy)
 go_enter Tryz.func202, Tryz.ntmps202
 go_wp2
 rw [hh.out]
 go_ret2
 exact ⟨rfl, rfl⟩
def spot (h : Nat) (row : Int) : Nat := (((h : Int) + row * 11400714819323198485) % 18446744073709551616).toNat
theorem spot_lt (h : Nat) (row : Int) : spot h row < 18446744073709551616 := by unfold spot; omega
theorem spot_wrap (h : Nat) (row : Int) : IntKind.u64.wrap ((h : Int) + IntKind.u64.wrap (IntKind.u64.wrap row * 11400714819323198485)) = (spot h row : Int) := by
 rw [IntKind.wrap_u64, IntKind.wrap_u64, IntKind.wrap_u64]; unfold spot; omega
theorem place_lt (x n : Nat) (hx : x < 18446744073709551616) (hn : 1 ≤ n) : x * n / 18446744073709551616 < n := by
 rw [Nat.div_lt_iff_lt_mul (by omega), Nat.mul_comm n]
 exact Nat.mul_lt_mul_of_pos_right hx hn

set_option maxHeartbeats 400000 in
theorem place_yes (h : Nat) (row : Int) (n : Nat) (hs : 1 ≤ n) (hs2 : n ≤ 9223372036854775807) (w : World) :
  Calls Tryz.prog 197 #[.int .u64 h, .int .i64 row, .int .i64 n] w fun e w' => e = .returned (.int .i64 ((mix (spot h row) * n / 18446744073709551616 : Nat) : Int)) ∧ w = w' := by
 have h1 := spot_wrap h row
 have h2 := place_lt _ n (mix_lt (spot h row)) hs
 go_enter Tryz.func197, Tryz.ntmps197
 go_wp2_with fail
 refine (mix_c _ (spot_lt _ _) _).mono ?_
 rintro e w' ⟨rfl, rfl⟩
 go_wp2_with fail
 refine (mul64_c _ n (mix_lt _) (by omega) _).mono ?_
 rintro e w' ⟨rfl, rfl⟩
 go_wp2_with fail
 go_ret
 exact ⟨rfl, rfl⟩
end Go.Proofs.YtkiabladmgagdabGreatDoor.Mixy
