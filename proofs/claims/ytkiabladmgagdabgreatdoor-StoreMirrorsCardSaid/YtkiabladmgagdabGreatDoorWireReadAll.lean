/- The mathematics of layer 3's check: one bit's step of the register, half a byte's step by the table, the check of bytes; two rows of bytes of which one byte differs have unlike checks. Plain numbers; no condition. Contracts of the check (layer 3) and of the document's own answer: for every text, the check of its bytes; no world turns. Condition: the table of halves holds what the program's text lays. The mathematics of layer 3's numbers: a number's bytes (seven bits a byte, the lowest first), the number of bytes, the number with which bytes begin; each comes back, and bytes that are read as a number are that number's own. Plain numbers and lists; no condition. Contracts of layer 3's writers: a number's bytes, a text's, a check's, a frame's; the document's own answers for them. Nothing that was there turns. Condition: the table of halves holds what the program's text lays (the check), texts of at most 2^40 bytes. The mathematics of layer 3's numbers as the document's own reader has them: byte by byte, the first error in the order of the bytes. Plain numbers and lists; no condition. Contracts of layer 3's Reader: what each method takes off the bytes that are left, or the panic by which it ends; over every state of a reading that is under way. -/
import Derived.Test.YtkiabladmgagdabGreatDoorRows
import Derived.WalkKit
import Derived.Lib.Hide
import Derived.ProofKit
import Derived.OpenShut
import Derived.Lib.LaidTab
import Derived.Test.YtkiabladmgagdabGreatDoorMemAll
import Derived.Recover
import Derived.RegionTactic
import Derived.Deep.RegionWith
import Derived.Deep.DeepCutAuto
import Derived.Lib.UnsafeStr
import Derived.Lib.BufferWrite
import Derived.WalkLawsBesides
import Derived.Test.YtkiabladmgagdabGreatDoorSq
namespace Go.Proofs.YtkiabladmgagdabGreatDoor.Wirey

def bs (r : Nat) : Nat := if r % 2 = 1 then (r / 2) ^^^ 3945912366 else r / 2
def tab (i : Nat) : Nat := bs (bs (bs (bs i)))
def hs (r : Nat) : Nat := (r / 16) ^^^ tab (r % 16)
def byteS (r : Nat) (c : UInt8) : Nat := hs (hs (r ^^^ c.toNat))
def reg (r : Nat) (l : List UInt8) : Nat := l.foldl byteS r
def chk (l : List UInt8) : Nat := 4294967295 - reg 4294967295 l

end Go.Proofs.YtkiabladmgagdabGreatDoor.Wirey
namespace Go.Proofs.YtkiabladmgagdabGreatDoor.Wirey
open Go.ChangeShapes Go.WideShapes Go.ChangeAt Go.RowKit

theorem take_snoc (s : ByteArray) (k : Nat) (h : k < s.size) : s.data.toList.take (k + 1) = s.data.toList.take k ++ [s[k]] := by
 rw [List.take_succ_eq_append_getElem (by simpa using h)]; rfl
end Go.Proofs.YtkiabladmgagdabGreatDoor.Wirey
namespace Go.Proofs.YtkiabladmgagdabGreatDoor.Wirey

def enc (n : Nat) : List UInt8 := if n < 128 then [UInt8.ofNat n] else UInt8.ofNat (128 + n % 128) :: enc (n / 128)
theorem enc_small {n : Nat} (h : n < 128) : enc n = [UInt8.ofNat n] := by rw [enc, if_pos h]
theorem enc_big {n : Nat} (h : ¬ n < 128) : enc n = UInt8.ofNat (128 + n % 128) :: enc (n / 128) := by rw [enc, if_neg h]
def val : List UInt8 → Nat
 | [] => 0
 | c :: l => val l * 128 + c.toNat % 128
def Go1 (l : List UInt8) : Prop := ∀ c ∈ l, 128 ≤ c.toNat

theorem toNat_of {n : Nat} (h : n < 256) : (UInt8.ofNat n).toNat = n := by rw [UInt8.toNat_ofNat']; omega
theorem enc_split (n : Nat) : ∃ cs d, enc n = cs ++ [d] ∧ Go1 cs ∧ d.toNat < 128 ∧ (cs = [] ∨ d.toNat ≠ 0) := by
 induction n using Nat.strongRecOn with
 | ind n ih =>
  by_cases h : n < 128
  ·exact ⟨[], UInt8.ofNat n, enc_small h, fun _ hc => absurd hc (List.not_mem_nil), by rw [toNat_of (by omega)]; exact h, .inl rfl⟩
  ·obtain ⟨cs, d, e, hg, hd, hz⟩ := ih (n / 128) (by omega)
   refine ⟨UInt8.ofNat (128 + n % 128) :: cs, d, by rw [enc_big h, e]; rfl, ?_, hd, .inr ?_⟩
   ·intro c hc
    rcases List.mem_cons.1 hc with rfl | hc
    ·rw [toNat_of (by omega)]; omega
    ·exact hg c hc
   ·rcases hz with rfl | hz
    ·have h1 : n / 128 < 128 := by
      by_cases h2 : n / 128 < 128
      ·exact h2
      ·rw [enc_big h2] at e
       have := congrArg List.length e
       obtain ⟨c, d', e', _⟩ := ih (n / 128 / 128) (by omega)
       rw [e'] at this
       simp at this
     rw [enc_small h1] at e
     have : d = UInt8.ofNat (n / 128) := by simpa using e.symm
     rw [this, toNat_of (by omega)]; omega
    ·exact hz
theorem val_enc (n : Nat) : val (enc n) = n := by
 induction n using Nat.strongRecOn with
 | ind n ih =>
  by_cases h : n < 128
  ·rw [enc_small h]; show 0 * 128 + (UInt8.ofNat n).toNat % 128 = n; rw [toNat_of (by omega)]; omega
  ·rw [enc_big h]; show val (enc (n / 128)) * 128 + (UInt8.ofNat (128 + n % 128)).toNat % 128 = n
   rw [ih _ (by omega), toNat_of (by omega)]; omega
theorem val_last (cs : List UInt8) (d : UInt8) (hd : d.toNat < 128) : d.toNat * 128 ^ cs.length ≤ val (cs ++ [d]) ∧ val (cs ++ [d]) < (d.toNat + 1) * 128 ^ cs.length := by
 induction cs with
 | nil => simp [val]; omega
 | cons c cs ih =>
  show d.toNat * 128 ^ (cs.length + 1) ≤ val (cs ++ [d]) * 128 + c.toNat % 128 ∧ val (cs ++ [d]) * 128 + c.toNat % 128 < (d.toNat + 1) * 128 ^ (cs.length + 1)
  rw [Nat.pow_succ, ← Nat.mul_assoc, ← Nat.mul_assoc]
  omega
theorem enc_val (cs : List UInt8) (d : UInt8) (hg : Go1 cs) (hd : d.toNat < 128) (hz : cs = [] ∨ d.toNat ≠ 0) : enc (val (cs ++ [d])) = cs ++ [d] := by
 induction cs with
 | nil =>
  show enc (0 * 128 + d.toNat % 128) = [d]
  rw [Nat.zero_mul, Nat.zero_add, Nat.mod_eq_of_lt hd, enc_small hd, UInt8.ofNat_toNat]
 | cons c cs ih =>
  have hd0 : d.toNat ≠ 0 := hz.resolve_left (List.cons_ne_nil _ _)
  have hv := (val_last cs d hd).1
  have hp : 1 ≤ 128 ^ cs.length := Nat.one_le_pow _ _ (by omega)
  have hv1 : 1 ≤ val (cs ++ [d]) := Nat.le_trans (Nat.le_trans hp (Nat.le_mul_of_pos_left _ (by omega))) hv
  have hc := hg c (List.mem_cons_self ..)
  have hc2 := c.toNat_lt
  show enc (val (cs ++ [d]) * 128 + c.toNat % 128) = c :: (cs ++ [d])
  rw [enc_big (by omega), show (val (cs ++ [d]) * 128 + c.toNat % 128) / 128 = val (cs ++ [d]) by omega, ih (fun x hx => hg x (List.mem_cons_of_mem _ hx)) (.inr hd0)]
  rw [show 128 + (val (cs ++ [d]) * 128 + c.toNat % 128) % 128 = c.toNat by omega, UInt8.ofNat_toNat]
theorem pow9 : (128 : Nat) ^ 9 = 9223372036854775808 := rfl
theorem pow10 : (128 : Nat) ^ 10 = 1180591620717411303424 := rfl

def lastOf (l : List UInt8) : Nat := (l.takeWhile fun c => decide (128 ≤ c.toNat)).length
theorem lastOf_split (cs : List UInt8) (d : UInt8) (rest : List UInt8) (hg : Go1 cs) (hd : d.toNat < 128) : lastOf (cs ++ d :: rest) = cs.length := by
 unfold lastOf
 rw [List.takeWhile_append_of_pos (by intro c hc; simpa using hg c hc), List.takeWhile_cons_of_neg (by simpa using hd)]
 simp
theorem lastOf_all {l : List UInt8} (hg : Go1 l) : lastOf l = l.length := by
 unfold lastOf
 have : l.takeWhile (fun c => decide (128 ≤ c.toNat)) = l := by
  induction l with
  | nil => rfl
  | cons c l ih =>
   rw [List.takeWhile_cons_of_pos (by simpa using hg c (List.mem_cons_self ..)), ih (fun x hx => hg x (List.mem_cons_of_mem _ hx))]
 rw [this]
theorem split_at (l : List UInt8) : (Go1 l) ∨ ∃ cs d rest, l = cs ++ d :: rest ∧ Go1 cs ∧ d.toNat < 128 := by
 induction l with
 | nil => exact .inl fun _ hc => absurd hc (List.not_mem_nil)
 | cons c l ih =>
  by_cases hc : 128 ≤ c.toNat
  ·rcases ih with ih | ⟨cs, d, rest, rfl, hg, hd⟩
   ·left
    intro x hx
    rcases List.mem_cons.1 hx with rfl | hx
    ·exact hc
    ·exact ih x hx
   ·right
    refine ⟨c :: cs, d, rest, rfl, ?_, hd⟩
    intro x hx
    rcases List.mem_cons.1 hx with rfl | hx
    ·exact hc
    ·exact hg x hx
  ·exact .inr ⟨[], c, l, rfl, fun _ h => absurd h (List.not_mem_nil), by omega⟩

def bad (k : Nat) (d : UInt8) : Bool := decide (10 ≤ k) || (decide (k = 9) && decide (1 < d.toNat)) || (decide (0 < k) && decide (d.toNat = 0))
def numQ (l : List UInt8) : Nat × Nat × Nat :=
 if lastOf l = l.length then (0, 0, 4)
 else if bad (lastOf l) (l.getD (lastOf l) 0) then (0, 0, 6)
 else (val (l.take (lastOf l + 1)), lastOf l + 1, 0)
theorem numQ_all {l : List UInt8} (hg : Go1 l) : numQ l = (0, 0, 4) := by unfold numQ; rw [if_pos (lastOf_all hg)]
theorem numQ_split {cs : List UInt8} {d : UInt8} {rest : List UInt8} (hg : Go1 cs) (hd : d.toNat < 128) :
  numQ (cs ++ d :: rest) = if bad cs.length d then (0, 0, 6) else (val (cs ++ [d]), cs.length + 1, 0) := by
 unfold numQ
 rw [lastOf_split cs d rest hg hd, if_neg (by simp)]
 have e1 : (cs ++ d :: rest).getD cs.length 0 = d := by simp
 have e2 : (cs ++ d :: rest).take (cs.length + 1) = cs ++ [d] := by
  rw [List.take_append, List.take_of_length_le (by omega)]; simp
 rw [e1, e2]
theorem numQ_enc {n : Nat} (h : n < 18446744073709551616) (rest : List UInt8) : numQ (enc n ++ rest) = (n, (enc n).length, 0) := by
 obtain ⟨cs, d, e, hg, hd, hz⟩ := enc_split n
 have hv := val_enc n
 rw [e] at hv ⊢
 have hl := val_last cs d hd
 rw [hv] at hl
 rw [List.append_assoc]
 show numQ (cs ++ d :: rest) = _
 rw [numQ_split hg hd, if_neg, hv]
 ·simp
 ·unfold bad
  have hp := pow9
  have hq := pow10
  have h10 : cs.length < 10 := by
   apply Nat.lt_of_not_le
   intro h10
   have h1 : 128 ^ 10 ≤ 128 ^ cs.length := Nat.pow_le_pow_right (by omega) h10
   have h2 : d.toNat ≠ 0 := hz.resolve_left (by intro e; rw [e] at h10; simp at h10)
   have h3 : 128 ^ cs.length ≤ d.toNat * 128 ^ cs.length := Nat.le_mul_of_pos_left _ (by omega)
   omega
  have h9 : cs.length = 9 → d.toNat ≤ 1 := by
   intro h9
   rw [h9, hp] at hl
   omega
  have h0 : 0 < cs.length → d.toNat ≠ 0 := fun h0 => hz.resolve_left (by intro e; rw [e] at h0; simp at h0)
  simp only [Bool.or_eq_true, Bool.and_eq_true, decide_eq_true_eq]
  omega
theorem numQ_own {l : List UInt8} {n k : Nat} (h : numQ l = (n, k, 0)) : n < 18446744073709551616 ∧ k = (enc n).length ∧ l = enc n ++ l.drop k := by
 rcases split_at l with hg | ⟨cs, d, rest, rfl, hg, hd⟩
 ·rw [numQ_all hg] at h; simp at h
 ·rw [numQ_split hg hd] at h
  by_cases hb : bad cs.length d = true
  ·rw [if_pos hb] at h; simp at h
  ·rw [if_neg hb] at h
   simp only [Prod.mk.injEq] at h
   obtain ⟨rfl, rfl, _⟩ := h
   unfold bad at hb
   simp only [Bool.or_eq_true, Bool.and_eq_true, decide_eq_true_eq] at hb
   have hz : cs = [] ∨ d.toNat ≠ 0 := by
    by_cases hc : cs = []
    ·exact .inl hc
    ·have : 0 < cs.length := List.length_pos_iff.2 hc
     exact .inr (by omega)
   have hl := (val_last cs d hd).2
   have hle : 128 ^ cs.length ≤ 128 ^ 9 := Nat.pow_le_pow_right (by omega) (by omega)
   have hp := pow9
   refine ⟨?_, ?_, ?_⟩
   ·by_cases h9 : cs.length = 9
    ·rw [h9, hp] at hl; omega
    ·have h8 : 128 ^ cs.length ≤ 128 ^ 8 := Nat.pow_le_pow_right (by omega) (by omega)
     have e8 : (128 : Nat) ^ 8 = 72057594037927936 := rfl
     have : (d.toNat + 1) * 128 ^ cs.length ≤ 128 * 128 ^ 8 := Nat.mul_le_mul (by omega) h8
     omega
   ·rw [enc_val cs d hg hd hz]; simp
   ·rw [enc_val cs d hg hd hz]
    have : (cs ++ d :: rest).drop (cs.length + 1) = rest := by
     rw [List.drop_append]; simp
    rw [this]; simp
theorem numQ_le {l : List UInt8} {n k : Nat} (h : numQ l = (n, k, 0)) : k ≤ l.length := by
 obtain ⟨_, h1, h2⟩ := numQ_own h
 have := congrArg List.length h2
 rw [List.length_append] at this
 omega
theorem enc_len {n : Nat} (h : n < 18446744073709551616) : 1 ≤ (enc n).length ∧ (enc n).length ≤ 10 := by
 obtain ⟨cs, d, e, hg, hd, hz⟩ := enc_split n
 have hv := val_enc n
 have hl := val_last cs d hd
 rw [e] at hv ⊢
 rw [hv] at hl
 have hq := pow10
 refine ⟨by simp, ?_⟩
 rw [List.length_append]
 show cs.length + 1 ≤ 10
 apply Nat.le_of_lt_succ
 apply Nat.lt_of_not_le
 intro h10
 have h1 : 128 ^ 10 ≤ 128 ^ cs.length := Nat.pow_le_pow_right (by omega) (by omega)
 have h2 : d.toNat ≠ 0 := hz.resolve_left (by intro e; rw [e] at h10; simp at h10)
 have h3 : 128 ^ cs.length ≤ d.toNat * 128 ^ cs.length := Nat.le_mul_of_pos_left _ (by omega)
 omega
def numF (l : List UInt8) : Nat × Nat × Nat :=
 if 10 ≤ lastOf l then (0, 0, 6)
 else if lastOf l = l.length then (0, 0, 4)
 else if bad (lastOf l) (l.getD (lastOf l) 0) then (0, 0, 6)
 else (val (l.take (lastOf l + 1)), lastOf l + 1, 0)
theorem numF_long {l : List UInt8} (hg : 10 ≤ lastOf l) : numF l = (0, 0, 6) := by unfold numF; rw [if_pos hg]
theorem numF_all {l : List UInt8} (hg : Go1 l) (h : l.length < 10) : numF l = (0, 0, 4) := by unfold numF; rw [lastOf_all hg, if_neg (by omega), if_pos rfl]
theorem numF_split {cs : List UInt8} {d : UInt8} {rest : List UInt8} (hg : Go1 cs) (hd : d.toNat < 128) :
  numF (cs ++ d :: rest) = if bad cs.length d then (0, 0, 6) else (val (cs ++ [d]), cs.length + 1, 0) := by
 unfold numF
 rw [lastOf_split cs d rest hg hd]
 have e1 : (cs ++ d :: rest).getD cs.length 0 = d := by simp
 have e2 : (cs ++ d :: rest).take (cs.length + 1) = cs ++ [d] := by
  rw [List.take_append, List.take_of_length_le (by omega)]; simp
 rw [e1, e2]
 by_cases h : 10 ≤ cs.length
 ·rw [if_pos h, if_pos]; unfold bad; simp [h]
 ·rw [if_neg h, if_neg (by simp)]
theorem numF_ok {l : List UInt8} {n k : Nat} : numF l = (n, k, 0) ↔ numQ l = (n, k, 0) := by
 rcases split_at l with hg | ⟨cs, d, rest, rfl, hg, hd⟩
 ·rw [numQ_all hg]
  constructor
  ·intro h
   unfold numF at h
   rw [lastOf_all hg] at h
   split at h
   ·simp at h
   ·rw [if_pos rfl] at h; simp at h
  ·intro h; simp at h
 ·rw [numQ_split hg hd, numF_split hg hd]
theorem numF_enc {n : Nat} (h : n < 18446744073709551616) (rest : List UInt8) : numF (enc n ++ rest) = (n, (enc n).length, 0) := numF_ok.2 (numQ_enc h rest)
theorem numF_le {l : List UInt8} {n k : Nat} (h : numF l = (n, k, 0)) : k ≤ l.length := numQ_le (numF_ok.1 h)

def numR (l : List UInt8) : Nat × Nat × Nat := numF l
theorem numR_long {l : List UInt8} (hg : 10 ≤ lastOf l) : numR l = (0, 0, 6) := numF_long hg
theorem numR_all {l : List UInt8} (hg : Go1 l) (h : l.length < 10) : numR l = (0, 0, 4) := numF_all hg h
theorem numR_split {cs : List UInt8} {d : UInt8} {rest : List UInt8} (hg : Go1 cs) (hd : d.toNat < 128) :
  numR (cs ++ d :: rest) = if bad cs.length d then (0, 0, 6) else (val (cs ++ [d]), cs.length + 1, 0) := numF_split hg hd
theorem numR_enc {n : Nat} (h : n < 18446744073709551616) (rest : List UInt8) : numR (enc n ++ rest) = (n, (enc n).length, 0) := numF_enc h rest
theorem numR_le {l : List UInt8} {n k : Nat} (h : numR l = (n, k, 0)) : k ≤ l.length := numF_le h
end Go.Proofs.YtkiabladmgagdabGreatDoor.Wirey
namespace Go.Proofs.YtkiabladmgagdabGreatDoor.Wirey
open Go.ChangeShapes Go.WideShapes Go.ChangeAt Go.RowKit

def tens (l : List UInt8) : Array Value := ((l.map fun c => Value.int .u8 c.toNat) ++ List.replicate (10 - l.length) (Value.int .u8 0)).toArray
theorem tens_put (l : List UInt8) (c : UInt8) (h : l.length < 10) : (tens l).setIfInBounds l.length (.int .u8 c.toNat) = tens (l ++ [c]) := by
 unfold tens
 obtain ⟨k, hk⟩ : ∃ k, 10 - l.length = k + 1 := ⟨9 - l.length, by omega⟩
 have hk2 : 10 - (l ++ [c]).length = k := by simp; omega
 rw [hk, hk2, List.setIfInBounds_toArray, List.set_append]
 simp [List.replicate_succ]
theorem tens_at (l : List UInt8) (h : l.length < 10) : (tens l)[l.length]? = some (.int .u8 0) := by
 unfold tens
 obtain ⟨k, hk⟩ : ∃ k, 10 - l.length = k + 1 := ⟨9 - l.length, by omega⟩
 rw [hk]; simp [List.replicate_succ]
theorem or128 (m : Nat) : bits .or .u8 ((m : Int) % 256) 128 = ((128 + m % 128 : Nat) : Int) := by
 have h : ∀ x : Fin 256, (x.val ||| 128) = 128 + x.val % 128 := by decide +kernel
 have h1 := h ⟨m % 256, by omega⟩
 have h2 := u8_or_nat (m % 256) 128 (by omega) (by omega)
 rw [show ((128 : Nat) : Int) = 128 from rfl, show ((m % 256 : Nat) : Int) = (m : Int) % 256 by omega, h1] at h2
 rw [h2]
 show ((128 + m % 256 % 128 : Nat) : Int) = _
 omega

theorem ten_under : Tryz.prog.underlying 148 = some (.array (Tryz.prog.arrayLen 148) (Tryz.prog.elem 148)) := by kernel_rfl
theorem ten_len : Tryz.prog.arrayLen 148 = 10 := by kernel_rfl
theorem ten_size (w : World) : (sizeOf (Tryz.prog.elem 148)).run Tryz.prog w = .ok 1 w := by kernel_rfl
theorem slice10 (b h : Nat) (hh : h ≤ 10) (w : World) : (Instr.sliceAt 148 (.pointer (some ⟨b, 0, none⟩)) none (some (.int .i64 h)) none).run Tryz.prog w = .ok (.slice (some ⟨b, 0, none⟩) h 10) w := by
 rw [run_sliceAt_array_h (P := Tryz.prog) w 148 ⟨b, 0, none⟩ ten_under .i64 (h : Int) (by omega) (by rw [ten_len]; omega), ten_size, ten_len]
 simp [Result.andThen, slicedAt, Addr.add]
theorem tens_str (w : World) (b : Nat) (l : List UInt8) (hB : Blk w b 148 (tens l)) (cap : Nat) :
  (convert 96 9 (.slice (some ⟨b, 0, none⟩) l.length cap)).run Tryz.prog w = .ok (.string (str l)) w := by
 refine run_convert_bytes_back w 96 9 5 ⟨b, 0, none⟩ cap l Tryz.underlying96 Tryz.underlying5 Tryz.underlying9 ?_
 intro j hj
 have e : (⟨b, 0, none⟩ : Addr).add j = ⟨b, j, none⟩ := by unfold Addr.add; by_cases h : j = 0 <;> simp [h]
 rw [e, hB.cell j]
 unfold tens
 rw [List.getElem?_toArray, List.getElem?_append_left (by simpa using hj)]
 simp [hj]

set_option maxHeartbeats 1000000 in
set_option maxRecDepth 100000 in
theorem num_c (n : Nat) (hn : n < 18446744073709551616) (w : World) :
  Calls Tryz.prog 44 #[.int .u64 n] w fun e w' => e = .returned (.string (str (enc n))) ∧ Below w.heap.size w w' := by
 go_enter Tryz.func44, Tryz.ntmps44
 go_wp2
 go_loopw [0, 4] (fun t i wr => ∃ (m : Nat) (l : List UInt8), i = .int .i64 l.length ∧ t = .int .u64 m ∧ enc n = l ++ enc m ∧ m < 18446744073709551616 ∧ Blk wr w.heap.size 148 (tens l) ∧ Below w.heap.size w wr) (fun t _ _ => (intOf t).toNat)
 case atStart => exact ⟨n, [], rfl, rfl, rfl, hn, Blk.new _ _ _, (Below.refl _ _).alloc (Nat.le_refl _) _⟩
 case round =>
  obtain ⟨m, l, rfl, rfl, he, hm, hB, hW⟩ := hrel
  have hlen := (enc_len hn).2
  have hl2 := (enc_len hm).1
  have hl3 : l.length + (enc m).length ≤ 10 := by rw [he, List.length_append] at hlen; exact hlen
  have hcell := hB.cell l.length
  rw [tens_at l (by omega)] at hcell
  have hfree := hB.free l.length
  have HE := Lib.hid he
  clear he hlen
  by_cases hlt : m < 128
  ·have hb := hB.put l.length (.int .u8 (m : Int))
   have hc : ((UInt8.ofNat m).toNat : Int) = (m : Int) := by rw [toNat_of (by omega)]
   rw [← hc, tens_put l _ (by omega), hc] at hb
   have hsl := fun W => slice10 w.heap.size (l.length + 1) (by omega) W
   have hst := fun cap => tens_str _ w.heap.size (l ++ [UInt8.ofNat m]) hb cap
   rw [List.length_append, show l.length + [UInt8.ofNat m].length = l.length + 1 from rfl] at hst
   have e : ((l.length + 1 : Nat) : Int) = (l.length : Int) + 1 := by omega
   rw [e] at hsl
   have hW2 : Below w.heap.size w (wr.setCell ⟨w.heap.size, l.length, none⟩ (.int .u8 (m : Int))) := hW.setCell (Nat.le_refl _) _
   have HW2 := Lib.hid hW2
   clear hW2 hb hc e
   go_wp2
   go_ret
   exact ⟨by rw [HE.out, enc_small hlt]; rfl, HW2.out⟩
  ·have ho := or128 m
   have hd : ((m : Int) / 128) = ((m / 128 : Nat) : Int) := by omega
   have hb := hB.put l.length (.int .u8 (((128 + m % 128 : Nat) : Int)))
   have hc : ((UInt8.ofNat (128 + m % 128)).toNat : Int) = ((128 + m % 128 : Nat) : Int) := by rw [toNat_of (by omega)]
   rw [← hc, tens_put l _ (by omega), hc] at hb
   have HD := Lib.hid hd
   have HB := Lib.hid hb
   clear hd hb hc
   have hW2 : Below w.heap.size w (wr.setCell ⟨w.heap.size, l.length, none⟩ (.int .u8 ((128 + m % 128 : Nat) : Int))) := hW.setCell (Nat.le_refl _) _
   have HW2 := Lib.hid hW2
   clear hW2
   go_wp2
   go_roundw
   case rel => exact ⟨m / 128, l ++ [UInt8.ofNat (128 + m % 128)], by rw [List.length_append]; rfl, by rw [HD.out], by rw [HE.out, enc_big hlt, List.append_assoc]; rfl, by omega, HB.out, HW2.out⟩
   case measure => simp [intOf]; omega

def txt (l : List UInt8) : List UInt8 := enc l.length ++ l
set_option maxHeartbeats 1000000 in
theorem text_c (l : List UInt8) (hl : l.length < 1099511627776) (w : World) :
  Calls Tryz.prog 48 #[.string (str l)] w fun e w' => e = .returned (.string (str (txt l))) ∧ Below w.heap.size w w' := by
 have hcat := str_cat
 have hsz := str_size
 have hel := (enc_len (n := l.length) (by omega)).2
 go_enter Tryz.func48, Tryz.ntmps48
 go_wp2_with fail
 refine (num_c l.length (by omega) _).mono ?_
 rintro e w' ⟨rfl, hb⟩
 go_wp2_with fail
 go_ret
 exact ⟨rfl, hb⟩
end Go.Proofs.YtkiabladmgagdabGreatDoor.Wirey
namespace Go.Proofs.YtkiabladmgagdabGreatDoor.Wirey

theorem val_snoc (l : List UInt8) (c : UInt8) : val (l ++ [c]) = val l + c.toNat % 128 * 128 ^ l.length := by
 induction l with
 | nil => simp [val]
 | cons d l ih =>
  show val (l ++ [c]) * 128 + d.toNat % 128 = val l * 128 + d.toNat % 128 + c.toNat % 128 * 128 ^ (l.length + 1)
  rw [ih, Nat.pow_succ, Nat.add_mul, Nat.mul_assoc]
  omega
theorem val_lt (l : List UInt8) : val l < 128 ^ l.length := by
 induction l with
 | nil => simp [val]
 | cons d l ih =>
  show val l * 128 + d.toNat % 128 < 128 ^ (l.length + 1)
  rw [Nat.pow_succ]
  omega
theorem go1_lastOf {l : List UInt8} {k : Nat} (hk : k ≤ l.length) (hg : Go1 (l.take k)) : k ≤ lastOf l := by
 have h := List.take_append_drop k l
 unfold lastOf
 rw [← h, List.takeWhile_append_of_pos (by intro c hc; simpa using hg c hc), List.length_append, List.length_take]
 omega
end Go.Proofs.YtkiabladmgagdabGreatDoor.Wirey
namespace Go.Proofs.YtkiabladmgagdabGreatDoor.Wirey
open Go.ChangeShapes Go.WideShapes Go.ChangeAt Go.RowKit

structure Kept (w w' : World) (R O : Nat) : Prop where
 os : w'.os = w.os
 tape : w'.tape = w.tape
 output : w'.output = w.output
 size : w.heap.size ≤ w'.heap.size
 block : ∀ k, k < w.heap.size → k ≠ R → k ≠ O → w'.heap[k]? = w.heap[k]?
theorem Kept.refl (w : World) (R O : Nat) : Kept w w R O := ⟨rfl, rfl, rfl, Nat.le_refl _, fun _ _ _ _ => rfl⟩
theorem Kept.trans {a b c : World} {R O : Nat} (h : Kept a b R O) (k : Kept b c R O) : Kept a c R O :=
 ⟨k.os.trans h.os, k.tape.trans h.tape, k.output.trans h.output, Nat.le_trans h.size k.size, fun i hi hR hO => (k.block i (Nat.lt_of_lt_of_le hi h.size) hR hO).trans (h.block i hi hR hO)⟩
theorem Kept.of_below {w w' : World} {R O : Nat} (h : Below w.heap.size w w') : Kept w w' R O := ⟨h.os, h.tape, h.output, h.size, fun k hk _ _ => h.block k hk⟩
theorem Kept.set {a w : World} {R O : Nat} (h : Kept a w R O) {p : Addr} (hp : p.block = R ∨ p.block = O) (u : Value) : Kept a (w.setCell p u) R O :=
 h.trans ⟨rfl, rfl, rfl, by simp [World.setCell], fun k hk hR hO => Below.heap_setCell _ _ _ _ (by rcases hp with e | e <;> omega)⟩

structure RS (w : World) (R O : Nat) (l : List UInt8) : Prop where
 rd : Blk w R 83 #[.string (str l), .pointer (some ⟨O, 0, none⟩)]
 of : Blk w O 81 #[.bool false, .int .i64 0]
theorem RS.ne {w : World} {R O : Nat} {l : List UInt8} (h : RS w R O l) : R ≠ O := h.rd.ne_ h.of (by decide)
theorem RS.below {w w' : World} {R O : Nat} {l : List UInt8} (h : RS w R O l) (hb : Below w.heap.size w w') : RS w' R O l := ⟨h.rd.below hb h.rd.lt, h.of.below hb h.of.lt⟩
theorem RS.move {w : World} {R O : Nat} {l : List UInt8} (h : RS w R O l) (m : List UInt8) : RS (w.setCell ⟨R, 0, none⟩ (.string (str m))) R O m :=
 ⟨h.rd.put 0 _, h.of.far (fun e => h.ne e.symm) _⟩
theorem RS.cells {w : World} {R O : Nat} {l : List UInt8} (h : RS w R O l) :
  w.cell? ⟨R, 0, none⟩ = some (.string (str l)) ∧ w.cell? ⟨R, 1, none⟩ = some (.pointer (some ⟨O, 0, none⟩)) ∧ w.cell? ⟨O, 0, none⟩ = some (.bool false) ∧ w.cell? ⟨O, 1, none⟩ = some (.int .i64 0) ∧
  w.frozen? ⟨R, 0, none⟩ = false ∧ w.frozen? ⟨O, 1, none⟩ = false :=
 ⟨h.rd.cell 0, h.rd.cell 1, h.of.cell 0, h.of.cell 1, h.rd.free 0, h.of.free 1⟩

set_option maxHeartbeats 1000000 in
theorem under_c {R O : Nat} {l : List UInt8} (w : World) (h : RS w R O l) :
  Calls Tryz.prog 100 #[.pointer (some ⟨R, 0, none⟩)] w fun e w' => e = .returned (.bool true) ∧ w = w' := by
 obtain ⟨c1, c2, c3, c4, f1, f2⟩ := h.cells
 go_enter Tryz.func100, Tryz.ntmps100
 go_wp2_with fail
 go_ret
 exact ⟨rfl, rfl⟩
set_option maxHeartbeats 1000000 in
theorem rest_c {R O : Nat} {l : List UInt8} (w : World) (h : RS w R O l) :
  Calls Tryz.prog 67 #[.pointer (some ⟨R, 0, none⟩)] w fun e w' => e = .returned (.string (str l)) ∧ w = w' := by
 obtain ⟨c1, c2, c3, c4, f1, f2⟩ := h.cells
 go_enter Tryz.func67, Tryz.ntmps67
 go_wp2_with fail
 refine (under_c _ h).mono ?_
 rintro e w' ⟨rfl, rfl⟩
 go_wp2_with fail
 go_ret
 exact ⟨rfl, rfl⟩
set_option maxHeartbeats 1000000 in
theorem left_c {R O : Nat} {l : List UInt8} (w : World) (h : RS w R O l) :
  Calls Tryz.prog 35 #[.pointer (some ⟨R, 0, none⟩)] w fun e w' => e = .returned (.int .i64 l.length) ∧ w = w' := by
 have hsz := str_size
 go_enter Tryz.func35, Tryz.ntmps35
 go_wp2_with fail
 refine (rest_c _ h).mono ?_
 rintro e w' ⟨rfl, rfl⟩
 go_wp2_with fail
 go_ret
 exact ⟨rfl, rfl⟩
end Go.Proofs.YtkiabladmgagdabGreatDoor.Wirey
