/- Contracts of layer 1's functions (mix, and the document's own answers): each call returns just what the plain functions of MixNums give, and leaves the world as it was; every number of 64 bits. -/
import Derived.Test.YteopkdmlcjndcaaDoorRows
import Derived.Test.YteopkdmlcjndcaaDoorMixNums
import Derived.WalkKit
import Derived.Lib.Hide
import Derived.ProofKit
import Derived.OpenShut
namespace Go.Proofs.YteopkdmlcjndcaaDoor.Mixy
open Go.ChangeShapes Go.WideShapes Go.ChangeAt Go.RowKit

theorem xor_fold (x : Nat) (h : x < 18446744073709551616) : bits .xor .u64 (x : Int) ((x : Int) / 4294967296) = (fold x : Int) := by
  have := xorShift_u64 x 4294967296 h
  exact this
theorem wrap_F (x : Nat) : IntKind.u64.wrap ((x : Int) * 11400714819323198485) = (mulF x : Int) := by
  rw [IntKind.wrap_u64]; unfold mulF; omega
theorem wrap_U (x : Nat) : IntKind.u64.wrap ((x : Int) * 17428512612931826493) = (mulU x : Int) := by
  rw [IntKind.wrap_u64]; unfold mulU; omega
theorem or_29 (x : Nat) (h : x < 18446744073709551616) : bits .or .u64 (IntKind.u64.wrap ((x : Int) * 536870912)) ((x : Int) / 34359738368) = (rot29 x : Int) := by
  have e1 : IntKind.u64.wrap ((x : Int) * 536870912) = ((x % 34359738368 * 536870912 : Nat) : Int) := by rw [IntKind.wrap_u64]; omega
  have e2 : (x : Int) / 34359738368 = ((x / 34359738368 : Nat) : Int) := by omega
  rw [e1, e2, bits_or_u64_nat _ _ (by omega) (by omega), nat_join 29 _ _ (by omega) (by omega)]
  rfl
theorem or_35 (x : Nat) (h : x < 18446744073709551616) : bits .or .u64 (IntKind.u64.wrap ((x : Int) * 34359738368)) ((x : Int) / 536870912) = (rot35 x : Int) := by
  have e1 : IntKind.u64.wrap ((x : Int) * 34359738368) = ((x % 536870912 * 34359738368 : Nat) : Int) := by rw [IntKind.wrap_u64]; omega
  have e2 : (x : Int) / 536870912 = ((x / 536870912 : Nat) : Int) := by omega
  rw [e1, e2, bits_or_u64_nat _ _ (by omega) (by omega), nat_join 35 _ _ (by omega) (by omega)]
  rfl

set_option maxHeartbeats 400000 in
theorem fold_c (v : Nat) (hv : v < 18446744073709551616) (w : World) :
    Calls Tryd.prog 33 #[.int .u64 (v : Int)] w fun e w' => e = .returned (.int .u64 (fold v : Int)) ∧ w = w' := by
  have h := xor_fold v hv
  go_enter Tryd.func33, Tryd.ntmps33
  go_wp2
  go_ret
  exact ⟨rfl, rfl⟩
set_option maxHeartbeats 400000 in
theorem rot29_c (v : Nat) (hv : v < 18446744073709551616) (w : World) :
    Calls Tryd.prog 34 #[.int .u64 (v : Int), .int .i64 29] w fun e w' => e = .returned (.int .u64 (rot29 v : Int)) ∧ w = w' := by
  have h1 : bits .and .u64 29 63 = 29 := by decide
  have h2 := or_29 v hv
  go_enter Tryd.func34, Tryd.ntmps34
  go_wp2
  go_ret
  exact ⟨rfl, rfl⟩
set_option maxHeartbeats 400000 in
theorem rot35_c (v : Nat) (hv : v < 18446744073709551616) (w : World) :
    Calls Tryd.prog 34 #[.int .u64 (v : Int), .int .i64 (-29)] w fun e w' => e = .returned (.int .u64 (rot35 v : Int)) ∧ w = w' := by
  have h0 : IntKind.u64.wrap (-29) = 18446744073709551587 := by decide
  have h1 : bits .and .u64 18446744073709551587 63 = 35 := by decide
  have h2 := or_35 v hv
  go_enter Tryd.func34, Tryd.ntmps34
  go_wp2
  go_ret
  exact ⟨rfl, rfl⟩
set_option maxHeartbeats 400000 in
theorem mix_c (v : Nat) (hv : v < 18446744073709551616) (w : World) :
    Calls Tryd.prog 20 #[.int .u64 (v : Int)] w fun e w' => e = .returned (.int .u64 (mix v : Int)) ∧ w = w' := by
  have h := wrap_F
  go_enter Tryd.func20, Tryd.ntmps20
  go_wp2_with fail
  refine (fold_c _ hv _).mono ?_
  rintro e w' ⟨rfl, rfl⟩
  go_wp2_with fail
  refine (rot29_c _ (mulF_lt _) _).mono ?_
  rintro e w' ⟨rfl, rfl⟩
  go_wp2_with fail
  refine (fold_c _ (mulF_lt _) _).mono ?_
  rintro e w' ⟨rfl, rfl⟩
  go_wp2_with fail
  go_ret
  exact ⟨rfl, rfl⟩
theorem quo_63 (x : Nat) (h : x < 18446744073709551616) : IntKind.u64.wrap ((x : Int).tdiv 9223372036854775808) = ((x / 9223372036854775808 : Nat) : Int) := by
  rw [Int.tdiv_eq_ediv_of_nonneg (by omega), IntKind.wrap_u64]; omega
theorem turn_wrap (x : Nat) (h : x < 18446744073709551616) : IntKind.u64.wrap (IntKind.u64.wrap ((x : Int) * 2) + (x : Int) / 9223372036854775808) = (turn1 x : Int) := by
  rw [IntKind.wrap_u64, IntKind.wrap_u64]; unfold turn1; omega
set_option maxHeartbeats 400000 in
theorem turn_c (v : Nat) (hv : v < 18446744073709551616) (w : World) :
    Calls Tryd.prog 35 #[.int .u64 (v : Int), .int .i64 29] w fun e w' => e = .returned (.int .u64 (rot29 v : Int)) ∧ w = w' := by
  go_enter Tryd.func35, Tryd.ntmps35
  go_wp2
  go_loop [0, 5] (fun n i => ∃ k : Nat, k ≤ 29 ∧ i = .int .i64 k ∧ n = .int .u64 (turns v k)) (fun _ i => 29 - (intOf i).toNat)
  case atStart => exact ⟨0, by omega, rfl, rfl⟩
  case round =>
    obtain ⟨k, hk, rfl, rfl⟩ := hrel
    have hb := turns_lt hv k
    have hw := turn_wrap _ hb
    by_cases hlt : k < 29
    · go_wp2
      go_round
      case rel => exact ⟨k + 1, by omega, by go_num, rfl⟩
      case measure => simp [intOf]; omega
    · obtain rfl : k = 29 := by omega
      have ht := turns_29 hv
      clear hw hlt hk
      rw [ht]
      go_wp2
      go_ret
      exact ⟨rfl, rfl⟩
set_option maxHeartbeats 400000 in
theorem refmix_c (v : Nat) (hv : v < 18446744073709551616) (w : World) :
    Calls Tryd.prog 22 #[.int .u64 (v : Int)] w fun e w' => e = .returned (.int .u64 (mix v : Int)) ∧ w = w' := by
  have h := wrap_F
  have h1 := xor_fold v hv
  have h2 := xor_fold (mulF (rot29 (mulF (fold v)))) (mulF_lt _)
  have h3 := mulF_lt (rot29 (mulF (fold v)))
  go_enter Tryd.func22, Tryd.ntmps22
  go_wp2_with fail
  refine (turn_c _ (mulF_lt _) _).mono ?_
  rintro e w' ⟨rfl, rfl⟩
  go_wp2_with fail
  go_ret
  exact ⟨rfl, rfl⟩

/-! Texts -/
theorem xor_nat (a b : Nat) (ha : a < 18446744073709551616) (hb : b < 18446744073709551616) : bits .xor .u64 (a : Int) (b : Int) = ((a ^^^ b : Nat) : Int) := u64_xor_nat a b ha hb
theorem wrap_P (x : Nat) : IntKind.u64.wrap ((x : Int) * 1099511628211) = ((x * 1099511628211 % 18446744073709551616 : Nat) : Int) := by
  rw [IntKind.wrap_u64]; omega
theorem byte_step (x : Nat) (c : UInt8) (h : x < 18446744073709551616) : IntKind.u64.wrap (bits .xor .u64 (x : Int) (c.toNat : Int) * 1099511628211) = (byteIn x c : Int) := by
  have := c.toNat_lt
  rw [xor_nat x c.toNat h (by omega), wrap_P, byteIn]
theorem take_snoc (s : ByteArray) (k : Nat) (h : k < s.size) : s.data.toList.take (k + 1) = s.data.toList.take k ++ [s[k]] := by
  rw [List.take_succ_eq_append_getElem (by simpa using h)]; rfl
theorem basis_in (seed : Nat) : bits .xor .u64 14695981039346656037 (mix seed : Int) = (bytesIn seed [] : Int) := by
  have e : (14695981039346656037 : Int) = ((basis : Nat) : Int) := by simp [basis]
  have hb : basis < 18446744073709551616 := by unfold basis; omega
  rw [e, xor_nat basis _ hb (mix_lt _), bytesIn, List.foldl_nil]

set_option maxHeartbeats 400000 in
theorem of_c (seed : Nat) (hs : seed < 18446744073709551616) (s : ByteArray) (hl : s.size ≤ maxLen) (w : World) :
    Calls Tryd.prog 11 #[.int .u64 (seed : Int), .string s] w fun e w' => e = .returned (.int .u64 (text seed s.data.toList : Int)) ∧ w = w' := by
  unfold maxLen at hl
  have hb0 := basis_in seed
  go_enter Tryd.func11, Tryd.ntmps11
  go_wp2_with fail
  refine (mix_c _ hs _).mono ?_
  rintro e w' ⟨rfl, rfl⟩
  go_wp2_with fail
  go_loop [5, 12] (fun h i => ∃ k : Nat, k ≤ s.size ∧ i = .int .i64 k ∧ h = .int .u64 (bytesIn seed (s.data.toList.take k))) (fun _ i => s.size - (intOf i).toNat)
  case atStart => exact ⟨0, Nat.zero_le _, rfl, rfl⟩
  case round =>
    obtain ⟨k, hk, rfl, rfl⟩ := hrel
    by_cases hlt : k < s.size
    · have hstep := byte_step _ s[k] (bytesIn_lt seed (s.data.toList.take k))
      rw [← bytesIn_snoc, ← take_snoc s k hlt] at hstep
      have hbyte := s[k].toNat_lt
      go_wp2
      go_round
      case rel => exact ⟨k + 1, by omega, by go_num, rfl⟩
      case measure => simp [intOf]; omega
    · obtain rfl : k = s.size := by omega
      have hall : s.data.toList.take s.size = s.data.toList := List.take_of_length_le (by simp)
      rw [hall]
      clear hall hlt hk
      have hx := xor_nat _ s.size (bytesIn_lt seed s.data.toList) (by omega)
      have hx2 := xor_lt (bytesIn_lt seed s.data.toList) (b := s.size) (by omega)
      go_wp2_with fail
      refine (mix_c _ hx2 _).mono ?_
      rintro e w' ⟨rfl, rfl⟩
      go_wp2_with fail
      go_ret
      exact ⟨by rw [text, Array.length_toList]; rfl, rfl⟩
set_option maxHeartbeats 400000 in
theorem refof_c (seed : Nat) (hs : seed < 18446744073709551616) (s : ByteArray) (hl : s.size ≤ maxLen) (w : World) :
    Calls Tryd.prog 13 #[.int .u64 (seed : Int), .string s] w fun e w' => e = .returned (.int .u64 (text seed s.data.toList : Int)) ∧ w = w' := by
  unfold maxLen at hl
  have hb0 := basis_in seed
  go_enter Tryd.func13, Tryd.ntmps13
  go_wp2_with fail
  refine (refmix_c _ hs _).mono ?_
  rintro e w' ⟨rfl, rfl⟩
  go_wp2_with fail
  go_loop [5, 6] (fun h i => ∃ k : Nat, k ≤ s.size ∧ i = .int .i64 k ∧ h = .int .u64 (bytesIn seed (s.data.toList.take k))) (fun _ i => s.size - (intOf i).toNat)
  case atStart => exact ⟨0, Nat.zero_le _, rfl, rfl⟩
  case round =>
    obtain ⟨k, hk, rfl, rfl⟩ := hrel
    by_cases hlt : k < s.size
    · have hstep := byte_step _ s[k] (bytesIn_lt seed (s.data.toList.take k))
      rw [← bytesIn_snoc, ← take_snoc s k hlt] at hstep
      have hbyte := s[k].toNat_lt
      go_wp2
      go_round
      case rel => exact ⟨k + 1, by omega, by go_num, rfl⟩
      case measure => simp [intOf]; omega
    · obtain rfl : k = s.size := by omega
      have hall : s.data.toList.take s.size = s.data.toList := List.take_of_length_le (by simp)
      rw [hall]
      clear hall hlt hk
      have hx := xor_nat _ s.size (bytesIn_lt seed s.data.toList) (by omega)
      have hx2 := xor_lt (bytesIn_lt seed s.data.toList) (b := s.size) (by omega)
      go_wp2_with fail
      refine (refmix_c _ hx2 _).mono ?_
      rintro e w' ⟨rfl, rfl⟩
      go_wp2_with fail
      go_ret
      exact ⟨by rw [text, Array.length_toList]; rfl, rfl⟩

/-! Products of 128 bits, and places -/
theorem mask_32 (a : Int) (h0 : 0 ≤ a) (h : a < 18446744073709551616) : bits .and .u64 a 4294967295 = a % 4294967296 := by
  obtain ⟨n, rfl⟩ := Int.eq_ofNat_of_zero_le h0
  have e := bits_and_u64_nat n 4294967295 (by omega) (by omega)
  rw [nat_mask32] at e
  exact e
theorem half_mul (a b : Int) (h0 : 0 ≤ a) (h1 : a ≤ 4294967295) (h2 : 0 ≤ b) (h3 : b ≤ 4294967295) : 0 ≤ a * b ∧ a * b ≤ 18446744065119617025 :=
  ⟨Int.mul_nonneg h0 h2, Int.mul_le_mul h1 h3 h2 (by omega)⟩
theorem hi_int (x y : Nat) (hx : x < 18446744073709551616) (hy : y < 18446744073709551616) :
    (x : Int) / 4294967296 * ((y : Int) / 4294967296) + ((x : Int) / 4294967296 * ((y : Int) % 4294967296) + (x : Int) % 4294967296 * ((y : Int) % 4294967296) / 4294967296) / 4294967296 + (((x : Int) / 4294967296 * ((y : Int) % 4294967296) + (x : Int) % 4294967296 * ((y : Int) % 4294967296) / 4294967296) % 4294967296 + (x : Int) % 4294967296 * ((y : Int) / 4294967296)) / 4294967296 = ((x * y / 18446744073709551616 : Nat) : Int) := by
  rw [← (Lib.mul64_hi x y hx hy).2.2.2]
  simp only [Int.natCast_add, Int.natCast_mul, Int.natCast_ediv, Int.natCast_emod, Int.cast_ofNat_Int]
theorem hi_bounds (x y : Nat) (hx : x < 18446744073709551616) (hy : y < 18446744073709551616) :
    ((x : Int) / 4294967296 * ((y : Int) % 4294967296) + (x : Int) % 4294967296 * ((y : Int) % 4294967296) / 4294967296 < 18446744073709551616) ∧
    (((x : Int) / 4294967296 * ((y : Int) % 4294967296) + (x : Int) % 4294967296 * ((y : Int) % 4294967296) / 4294967296) % 4294967296 + (x : Int) % 4294967296 * ((y : Int) / 4294967296) < 18446744073709551616) ∧
    ((x : Int) / 4294967296 * ((y : Int) / 4294967296) + ((x : Int) / 4294967296 * ((y : Int) % 4294967296) + (x : Int) % 4294967296 * ((y : Int) % 4294967296) / 4294967296) / 4294967296 + (((x : Int) / 4294967296 * ((y : Int) % 4294967296) + (x : Int) % 4294967296 * ((y : Int) % 4294967296) / 4294967296) % 4294967296 + (x : Int) % 4294967296 * ((y : Int) / 4294967296)) / 4294967296 < 18446744073709551616) := by
  have p1 := half_mul ((x : Int) / 4294967296) ((y : Int) % 4294967296) (by omega) (by omega) (by omega) (by omega)
  have p2 := half_mul ((x : Int) % 4294967296) ((y : Int) % 4294967296) (by omega) (by omega) (by omega) (by omega)
  have p3 := half_mul ((x : Int) % 4294967296) ((y : Int) / 4294967296) (by omega) (by omega) (by omega) (by omega)
  refine ⟨by omega, by omega, ?_⟩
  rw [hi_int x y hx hy]
  have := Nat.mul_lt_mul'' hx hy
  omega

set_option maxHeartbeats 1000000 in
theorem mul64_c (x y : Nat) (hx : x < 18446744073709551616) (hy : y < 18446744073709551616) (w : World) :
    Calls Tryd.prog 19 #[.int .u64 (x : Int), .int .u64 (y : Int)] w fun e w' => e = .returned (.tuple #[.int .u64 ((x * y / 18446744073709551616 : Nat) : Int), .int .u64 (IntKind.u64.wrap ((x : Int) * y))]) ∧ w = w' := by
  obtain ⟨p1, p1'⟩ := half_mul ((x : Int) / 4294967296) ((y : Int) % 4294967296) (by omega) (by omega) (by omega) (by omega)
  obtain ⟨p2, p2'⟩ := half_mul ((x : Int) % 4294967296) ((y : Int) % 4294967296) (by omega) (by omega) (by omega) (by omega)
  obtain ⟨p3, p3'⟩ := half_mul ((x : Int) % 4294967296) ((y : Int) / 4294967296) (by omega) (by omega) (by omega) (by omega)
  obtain ⟨p4, p4'⟩ := half_mul ((x : Int) / 4294967296) ((y : Int) / 4294967296) (by omega) (by omega) (by omega) (by omega)
  obtain ⟨b1, b2, b3⟩ := hi_bounds x y hx hy
  have m1 := mask_32 x (by omega) (by omega)
  have m2 := mask_32 y (by omega) (by omega)
  have m3 := mask_32 _ (by omega) b1
  have hh := Lib.hid (hi_int x y hx hy)
  go_enter Tryd.func19, Tryd.ntmps19
  go_wp2
  rw [hh.out]
  go_ret2
  exact ⟨rfl, rfl⟩
set_option maxHeartbeats 1000000 in
theorem high_c (x y : Nat) (hx : x < 18446744073709551616) (hy : y < 18446744073709551616) (w : World) :
    Calls Tryd.prog 21 #[.int .u64 (x : Int), .int .u64 (y : Int)] w fun e w' => e = .returned (.int .u64 ((x * y / 18446744073709551616 : Nat) : Int)) ∧ w = w' := by
  obtain ⟨p1, p1'⟩ := half_mul ((x : Int) / 4294967296) ((y : Int) % 4294967296) (by omega) (by omega) (by omega) (by omega)
  obtain ⟨p2, p2'⟩ := half_mul ((x : Int) % 4294967296) ((y : Int) % 4294967296) (by omega) (by omega) (by omega) (by omega)
  obtain ⟨p3, p3'⟩ := half_mul ((x : Int) % 4294967296) ((y : Int) / 4294967296) (by omega) (by omega) (by omega) (by omega)
  obtain ⟨p4, p4'⟩ := half_mul ((x : Int) / 4294967296) ((y : Int) / 4294967296) (by omega) (by omega) (by omega) (by omega)
  obtain ⟨b1, b2, b3⟩ := hi_bounds x y hx hy
  have hh := Lib.hid ((congrArg (fun z : Int => (x : Int) / 4294967296 * ((y : Int) / 4294967296) + ((x : Int) / 4294967296 * ((y : Int) % 4294967296) + (x : Int) % 4294967296 * ((y : Int) % 4294967296) / 4294967296) / 4294967296 + z / 4294967296) (Int.add_comm ((x : Int) % 4294967296 * ((y : Int) / 4294967296)) (((x : Int) / 4294967296 * ((y : Int) % 4294967296) + (x : Int) % 4294967296 * ((y : Int) % 4294967296) / 4294967296) % 4294967296))).trans (hi_int x y hx hy))
  go_enter Tryd.func21, Tryd.ntmps21
  go_wp2
  rw [hh.out]
  go_ret
  exact ⟨rfl, rfl⟩

/-- what is mixed for a place -/
def spot (h : Nat) (row : Int) : Nat := (((h : Int) + row * 11400714819323198485) % 18446744073709551616).toNat
theorem spot_lt (h : Nat) (row : Int) : spot h row < 18446744073709551616 := by unfold spot; omega
theorem spot_wrap (h : Nat) (row : Int) : IntKind.u64.wrap ((h : Int) + IntKind.u64.wrap (IntKind.u64.wrap row * 11400714819323198485)) = (spot h row : Int) := by
  rw [IntKind.wrap_u64, IntKind.wrap_u64, IntKind.wrap_u64]; unfold spot; omega
theorem place_lt (x n : Nat) (hx : x < 18446744073709551616) (hn : 1 ≤ n) : x * n / 18446744073709551616 < n := by
  rw [Nat.div_lt_iff_lt_mul (by omega), Nat.mul_comm n]
  exact Nat.mul_lt_mul_of_pos_right hx hn

set_option maxHeartbeats 400000 in
theorem place_no (h : Nat) (row size : Int) (hs : size < 1) (w : World) :
    Calls Tryd.prog 10 #[.int .u64 (h : Int), .int .i64 row, .int .i64 size] w fun e w' => e = .returned (.int .i64 0) ∧ w = w' := by
  go_enter Tryd.func10, Tryd.ntmps10
  go_wp2
  go_ret
  exact ⟨rfl, rfl⟩
set_option maxHeartbeats 400000 in
theorem place_yes (h : Nat) (row : Int) (n : Nat) (hs : 1 ≤ n) (hs2 : n ≤ 9223372036854775807) (w : World) :
    Calls Tryd.prog 10 #[.int .u64 (h : Int), .int .i64 row, .int .i64 (n : Int)] w fun e w' => e = .returned (.int .i64 ((mix (spot h row) * n / 18446744073709551616 : Nat) : Int)) ∧ w = w' := by
  have h1 := spot_wrap h row
  have h2 := place_lt _ n (mix_lt (spot h row)) hs
  go_enter Tryd.func10, Tryd.ntmps10
  go_wp2_with fail
  refine (mix_c _ (spot_lt _ _) _).mono ?_
  rintro e w' ⟨rfl, rfl⟩
  go_wp2_with fail
  refine (mul64_c _ n (mix_lt _) (by omega) _).mono ?_
  rintro e w' ⟨rfl, rfl⟩
  go_wp2_with fail
  go_ret
  exact ⟨rfl, rfl⟩
set_option maxHeartbeats 400000 in
theorem refplace_no (h : Nat) (row size : Int) (hs : size < 1) (w : World) :
    Calls Tryd.prog 12 #[.int .u64 (h : Int), .int .i64 row, .int .i64 size] w fun e w' => e = .returned (.int .i64 0) ∧ w = w' := by
  go_enter Tryd.func12, Tryd.ntmps12
  go_wp2
  go_ret
  exact ⟨rfl, rfl⟩
set_option maxHeartbeats 400000 in
theorem refplace_yes (h : Nat) (row : Int) (n : Nat) (hs : 1 ≤ n) (hs2 : n ≤ 9223372036854775807) (w : World) :
    Calls Tryd.prog 12 #[.int .u64 (h : Int), .int .i64 row, .int .i64 (n : Int)] w fun e w' => e = .returned (.int .i64 ((mix (spot h row) * n / 18446744073709551616 : Nat) : Int)) ∧ w = w' := by
  have h1 := spot_wrap h row
  have h2 := place_lt _ n (mix_lt (spot h row)) hs
  go_enter Tryd.func12, Tryd.ntmps12
  go_wp2_with fail
  refine (refmix_c _ (spot_lt _ _) _).mono ?_
  rintro e w' ⟨rfl, rfl⟩
  go_wp2_with fail
  refine (high_c _ n (mix_lt _) (by omega) _).mono ?_
  rintro e w' ⟨rfl, rfl⟩
  go_wp2_with fail
  go_ret
  exact ⟨rfl, rfl⟩

/-! The numbers that every law asks for first -/
theorem mix_1 : mix 1 ≠ 0 ∧ mix 1 ≠ 1 := by decide +kernel
theorem text_0 : text 0 [97] ≠ 0 := by decide +kernel
theorem mix_one (w : World) : Calls Tryd.prog 20 #[.int .u64 1] w fun e w' => e = .returned (.int .u64 (mix 1 : Int)) ∧ w = w' := mix_c 1 (by decide) w
theorem mix_seven (w : World) : Calls Tryd.prog 20 #[.int .u64 7] w fun e w' => e = .returned (.int .u64 (mix 7 : Int)) ∧ w = w' := mix_c 7 (by decide) w
theorem of_a (w : World) : Calls Tryd.prog 11 #[.int .u64 0, .string ⟨#[97]⟩] w fun e w' => e = .returned (.int .u64 (text 0 [97] : Int)) ∧ w = w' :=
  of_c 0 (by decide) ⟨#[97]⟩ (by decide) w
end Go.Proofs.YteopkdmlcjndcaaDoor.Mixy
