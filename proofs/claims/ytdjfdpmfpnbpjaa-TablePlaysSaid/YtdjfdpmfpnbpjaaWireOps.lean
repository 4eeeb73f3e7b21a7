/- Contracts of what a Reader takes: bytes, numbers, texts, yes or no, what must be so: what comes, what is left, or the panic and the error that is noted. -/
import Derived.Test.YtdjfdpmfpnbpjaaWireNumb
namespace Go.Proofs.Ytdjfdpmfpnbpjaa.Wirey
open Go.ChangeShapes Go.WideShapes Go.ChangeAt Go.RowKit

theorem u8_info : (Try.prog.info? 5).map (fun i => (i.zero, i.size, i.bytes)) = some (some (.int .u8 0), 1, 1) := by kernel_rfl

set_option maxHeartbeats 4000000 in
set_option maxRecDepth 100000 in
theorem lite_c (s : ByteArray) (w : World) (hlim : s.size ≤ 281474976710656) :
    Calls Try.prog 85 #[.string s] w fun e w' => e = .returned (.string s) ∧ Below w.heap.size w w' := by
  by_cases h0 : s.size = 0
  · have hs : s = ⟨#[]⟩ := by
      apply ByteArray.ext
      exact Array.eq_empty_of_size_eq_zero h0
    subst hs
    go_enter Try.func85, Try.ntmps85
    go_wp2
    go_ret
    exact ⟨rfl, Below.refl _ _⟩
  · obtain ⟨i0, hi, hz0, hz1, hz2⟩ := info_parts u8_info
    have hinfo : (Try.prog.info? 5).map (·.size) = some 1 := by rw [hi]; simp [hz1]
    have hco : Try.prog.cellsOf 5 = 1 := by kernel_rfl
    obtain ⟨M, hM⟩ : ∃ M, M = madeCells (Value.int .u8 0).cells (((s.size : Nat) : Int).toNat * i0.size) := ⟨_, rfl⟩
    have hMs : M.size = s.size := by rw [hM, size_madeCells, hz1]; simp
    have hmk : ∀ W : World, (Instr.makeSlice 66 (.int .i64 (s.size : Int)) (.int .i64 (s.size : Int))).run Try.prog W = .ok (.slice (some ⟨W.heap.size, 0, none⟩) s.size s.size) (W.alloc (.cells M 5)) := fun W => by
      have h := run_make (P := Try.prog) W 66 5 i0 (.int .u8 0) Try.underlying66 hi hz0 .i64 .i64 (s.size : Int) (s.size : Int) (by omega) (by omega) (by rw [hz2]; omega) (by omega)
      rw [← hM] at h
      simpa using h
    clear hM
    have hcp := Lib.run_copy_row_string (P := Try.prog) (w.alloc (.cells M 5)) 66 9 3 5 w.heap.size 0 s.size s.size s M 5 Try.underlying66 hinfo (heap_alloc_new w _) (Nat.le_refl _) (by omega)
    obtain ⟨Y, hY⟩ : ∃ Y, Y = (M.toList.take 0 ++ Lib.byteCells s.data.toList ++ M.toList.drop (0 + s.size)).toArray := ⟨_, rfl⟩
    rw [← hY] at hcp
    have hYl : Y.toList = Lib.byteCells s.data.toList := by
      rw [hY, List.toList_toArray, List.take_zero, List.nil_append, List.drop_of_length_le (by rw [Array.length_toList]; omega), List.append_nil]
    have hYs : Y.size = s.size := by rw [← Array.length_toList, hYl, Lib.byteCells_length, ← Lib.size_eq]
    have hgY : ((w.alloc (.cells M 5)).setRow w.heap.size Y).heap[w.heap.size]? = some (.cells Y 5 (0, 0)) := setRow_heap _ _ M _ 5 (0, 0) (heap_alloc_new w _)
    have hne : s.data.toList ≠ [] := fun e => h0 (by rw [Lib.size_eq, e]; rfl)
    have hUS := Lib.run_unsafeString_row (P := Try.prog) ((w.alloc (.cells M 5)).setRow w.heap.size Y) 92 3 9 5 Try.underlying92 hco w.heap.size Y.size (by unfold World.shape?; rw [hgY]) s.data.toList hne (by rw [← Lib.size_eq]; omega) (by rw [← Lib.size_eq]; omega)
      (fun j x hx => Lib.cells_of_row hgY Y.size j _ (by rw [List.take_of_length_le (by rw [Array.length_toList]; exact Nat.le_refl _), hYl]; simp [Lib.byteCells, hx]))
    rw [← Lib.size_eq] at hUS
    clear hY
    go_enter Try.func85, Try.ntmps85
    go_wp2
    go_ret
    have hb1 : Below w.heap.size w (w.alloc (.cells M 5)) := (Below.refl _ w).alloc (Nat.le_refl _) _
    have hb2 : Below w.heap.size (w.alloc (.cells M 5)) ((w.alloc (.cells M 5)).setRow w.heap.size Y) := ⟨rfl, rfl, rfl, by simp, fun k hk => setRow_other _ _ _ _ (by omega)⟩
    exact ⟨rfl, Lib.below_freeze (hb1.trans hb2) (p := ⟨w.heap.size, 0, none⟩) (Nat.le_refl _) _⟩
set_option maxHeartbeats 1000000 in
theorem clone_c (s : ByteArray) (w : World) (hlim : s.size ≤ 281474976710656) :
    Calls Try.prog 83 #[.string s] w fun e w' => e = .returned (.string s) ∧ Below w.heap.size w w' := by
  go_enter Try.func83, Try.ntmps83
  go_wp2_with fail
  refine (lite_c _ _ hlim).mono ?_
  rintro e w' ⟨rfl, hb⟩
  go_wp2_with fail
  go_ret
  exact ⟨rfl, hb⟩

/-- It came back with v, and m is left. -/
def Took (w : World) (R O : Nat) (v : Value) (m : List UInt8) (e : Ending) (w' : World) : Prop := e = .returned v ∧ Kept w w' R O ∧ RS w' R O m
/-- It ended by the reading's panic, and error k is noted. -/
def Fell (w : World) (R O : Nat) (k : Nat) (e : Ending) (w' : World) : Prop := e = .panicked (flt O) ∧ Kept w w' R O ∧ Wrong w' O k

set_option maxHeartbeats 2000000 in
theorem bytes_ok {R O : Nat} {l : List UInt8} (n : Nat) (hn : n ≤ l.length) (hl : l.length < 1099511627776) (w : World) (h : RS w R O l) :
    Calls Try.prog 76 #[.pointer (some ⟨R, 0, none⟩), .int .i64 (n : Int)] w (Took w R O (.string (str (l.take n))) (l.drop n)) := by
  have hsz := str_size
  obtain ⟨c1, c2, c3, c4, f1, f2⟩ := h.cells
  by_cases h0 : n = 0
  · subst h0
    go_enter Try.func76, Try.ntmps76
    go_wp2_with fail
    refine (rest_c _ h).mono ?_
    rintro e w' ⟨rfl, rfl⟩
    go_wp2_with fail
    go_ret
    exact ⟨rfl, Kept.refl _ _ _, h⟩
  · have hx := str_drop l n
    have hy := str_take l n
    have hne : ((n : Int) == 0) = false := by rw [beq_eq_false_iff_ne]; omega
    go_enter Try.func76, Try.ntmps76
    go_wp2_with fail
    refine (rest_c _ h).mono ?_
    rintro e w' ⟨rfl, rfl⟩
    go_wp2_with fail
    refine (clone_c _ _ (by rw [str_size, List.length_take]; omega)).mono ?_
    rintro e w' ⟨rfl, hb⟩
    go_wp2_with fail
    go_ret
    exact ⟨rfl, ((Kept.refl _ _ _).set (.inl rfl) _).trans (Kept.of_below hb), (h.move _).below hb⟩
set_option maxHeartbeats 2000000 in
theorem bytes_short {R O : Nat} {l : List UInt8} (n : Int) (hn : n < 0 ∨ (l.length : Int) < n) (w : World) (h : RS w R O l) :
    Calls Try.prog 76 #[.pointer (some ⟨R, 0, none⟩), .int .i64 n] w (Fell w R O 4) := by
  have hsz := str_size
  by_cases h0 : n < 0
  · clear hn
    go_enter Try.func76, Try.ntmps76
    go_wp2_with fail
    refine (rest_c _ h).mono ?_
    rintro e w' ⟨rfl, rfl⟩
    go_wp2_with fail
    refine (fail_c 4 _ h).mono ?_
    rintro e w' ⟨rfl, hk, hw⟩
    exact ⟨rfl, rfl, hk, hw⟩
  · have h1 : (l.length : Int) < n := by omega
    clear hn
    go_enter Try.func76, Try.ntmps76
    go_wp2_with fail
    refine (rest_c _ h).mono ?_
    rintro e w' ⟨rfl, rfl⟩
    go_wp2_with fail
    refine (fail_c 4 _ h).mono ?_
    rintro e w' ⟨rfl, hk, hw⟩
    exact ⟨rfl, rfl, hk, hw⟩

theorem number_l {l : List UInt8} {n k e0 : Nat} (hR : numR l = (n, k, e0)) (hl : l.length < 1099511627776) (w : World) :
    Calls Try.prog 59 #[.string (str l)] w fun e w' => e = .returned (.tuple #[.int .u64 (n : Int), .int .i64 (k : Int), .int .i64 (e0 : Int)]) ∧ w = w' := by
  have h := number_s (str l) (by rw [str_size]; unfold maxLen; omega) w
  rw [str_list, hR] at h
  exact h
set_option maxHeartbeats 2000000 in
theorem num_ok {R O : Nat} {l : List UInt8} {n k : Nat} (top : Nat) (hR : numR l = (n, k, 0)) (ht : n ≤ top) (hl : l.length < 1099511627776) (w : World) (h : RS w R O l) :
    Calls Try.prog 49 #[.pointer (some ⟨R, 0, none⟩), .int .u64 (top : Int)] w (Took w R O (.int .u64 (n : Int)) (l.drop k)) := by
  have hsz := str_size
  obtain ⟨c1, c2, c3, c4, f1, f2⟩ := h.cells
  have hx := str_drop l k
  have hk := numR_le hR
  have HR := Lib.hid hR
  clear hR
  go_enter Try.func49, Try.ntmps49
  go_wp2_with fail
  refine (rest_c _ h).mono ?_
  rintro e w' ⟨rfl, rfl⟩
  go_wp2_with fail
  refine (number_l HR.out hl _).mono ?_
  rintro e w' ⟨rfl, rfl⟩
  go_wp2_with fail
  go_ret
  exact ⟨rfl, (Kept.refl _ _ _).set (.inl rfl) _, h.move _⟩
set_option maxHeartbeats 2000000 in
theorem num_over {R O : Nat} {l : List UInt8} {n k : Nat} (top : Nat) (hR : numR l = (n, k, 0)) (ht : top < n) (hl : l.length < 1099511627776) (w : World) (h : RS w R O l) :
    Calls Try.prog 49 #[.pointer (some ⟨R, 0, none⟩), .int .u64 (top : Int)] w (Fell w R O 3) := by
  have HR := Lib.hid hR
  clear hR
  go_enter Try.func49, Try.ntmps49
  go_wp2_with fail
  refine (rest_c _ h).mono ?_
  rintro e w' ⟨rfl, rfl⟩
  go_wp2_with fail
  refine (number_l HR.out hl _).mono ?_
  rintro e w' ⟨rfl, rfl⟩
  go_wp2_with fail
  refine (fail_c 3 _ h).mono ?_
  rintro e w' ⟨rfl, hk, hw⟩
  exact ⟨rfl, rfl, hk, hw⟩
set_option maxHeartbeats 2000000 in
theorem num_bad {R O : Nat} {l : List UInt8} {n k e0 : Nat} (top : Nat) (hR : numR l = (n, k, e0)) (he : e0 ≠ 0) (hl : l.length < 1099511627776) (w : World) (h : RS w R O l) :
    Calls Try.prog 49 #[.pointer (some ⟨R, 0, none⟩), .int .u64 (top : Int)] w (Fell w R O e0) := by
  have HR := Lib.hid hR
  have hz : ((e0 : Int) == 0) = false := by rw [beq_eq_false_iff_ne]; omega
  have hz2 : ((e0 : Int) != 0) = true := by rw [bne_iff_ne]; omega
  clear hR he
  go_enter Try.func49, Try.ntmps49
  go_wp2_with fail
  refine (rest_c _ h).mono ?_
  rintro e w' ⟨rfl, rfl⟩
  go_wp2_with fail
  refine (number_l HR.out hl _).mono ?_
  rintro e w' ⟨rfl, rfl⟩
  go_wp2_with fail
  refine (fail_c e0 _ h).mono ?_
  rintro e w' ⟨rfl, hk, hw⟩
  exact ⟨rfl, rfl, hk, hw⟩

set_option maxHeartbeats 2000000 in
theorem rtext_ok {R O : Nat} {l : List UInt8} {n k : Nat} (top : Nat) (htop : top < 1099511627776) (hR : numR l = (n, k, 0)) (ht : n ≤ top) (hn : k + n ≤ l.length) (hl : l.length < 1099511627776) (w : World) (h : RS w R O l) :
    Calls Try.prog 61 #[.pointer (some ⟨R, 0, none⟩), .int .i64 (top : Int)] w (Took w R O (.string (str ((l.drop k).take n))) (l.drop (k + n))) := by
  go_enter Try.func61, Try.ntmps61
  go_wp2_with fail
  refine (num_ok top hR ht hl _ h).mono ?_
  rintro e w1 ⟨rfl, hk1, hr1⟩
  go_wp2_with fail
  refine (bytes_ok n (by rw [List.length_drop]; omega) (by rw [List.length_drop]; omega) _ hr1).mono ?_
  rintro e w2 ⟨rfl, hk2, hr2⟩
  rw [List.drop_drop] at hr2
  go_wp2_with fail
  go_ret
  exact ⟨rfl, hk1.trans hk2, hr2⟩
set_option maxHeartbeats 2000000 in
theorem rtext_short {R O : Nat} {l : List UInt8} {n k : Nat} (top : Nat) (htop : top < 1099511627776) (hR : numR l = (n, k, 0)) (ht : n ≤ top) (hn : l.length < k + n) (hl : l.length < 1099511627776) (w : World) (h : RS w R O l) :
    Calls Try.prog 61 #[.pointer (some ⟨R, 0, none⟩), .int .i64 (top : Int)] w (Fell w R O 4) := by
  have hkl := numR_le hR
  go_enter Try.func61, Try.ntmps61
  go_wp2_with fail
  refine (num_ok top hR ht hl _ h).mono ?_
  rintro e w1 ⟨rfl, hk1, hr1⟩
  go_wp2_with fail
  refine (bytes_short (n : Int) (.inr (by rw [List.length_drop]; omega)) _ hr1).mono ?_
  rintro e w2 ⟨rfl, hk2, hr2⟩
  exact ⟨rfl, rfl, hk1.trans hk2, hr2⟩
set_option maxHeartbeats 2000000 in
theorem rtext_over {R O : Nat} {l : List UInt8} {n k : Nat} (top : Nat) (htop : top < 1099511627776) (hR : numR l = (n, k, 0)) (ht : top < n) (hl : l.length < 1099511627776) (w : World) (h : RS w R O l) :
    Calls Try.prog 61 #[.pointer (some ⟨R, 0, none⟩), .int .i64 (top : Int)] w (Fell w R O 3) := by
  go_enter Try.func61, Try.ntmps61
  go_wp2_with fail
  refine (num_over top hR ht hl _ h).mono ?_
  rintro e w1 ⟨rfl, hk1, hr1⟩
  exact ⟨rfl, rfl, hk1, hr1⟩
set_option maxHeartbeats 2000000 in
theorem rtext_bad {R O : Nat} {l : List UInt8} {n k e0 : Nat} (top : Nat) (htop : top < 1099511627776) (hR : numR l = (n, k, e0)) (he : e0 ≠ 0) (hl : l.length < 1099511627776) (w : World) (h : RS w R O l) :
    Calls Try.prog 61 #[.pointer (some ⟨R, 0, none⟩), .int .i64 (top : Int)] w (Fell w R O e0) := by
  go_enter Try.func61, Try.ntmps61
  go_wp2_with fail
  refine (num_bad top hR he hl _ h).mono ?_
  rintro e w1 ⟨rfl, hk1, hr1⟩
  exact ⟨rfl, rfl, hk1, hr1⟩
set_option maxHeartbeats 2000000 in
theorem must_ok {R : Nat} (w : World) :
    Calls Try.prog 51 #[.pointer (some ⟨R, 0, none⟩), .bool true] w fun e w' => e = .returned (.tuple #[]) ∧ w = w' := by
  go_enter Try.func51, Try.ntmps51
  go_wp2_with fail
  go_end0
  exact ⟨rfl, rfl⟩
set_option maxHeartbeats 2000000 in
theorem must_no {R O : Nat} {l : List UInt8} (w : World) (h : RS w R O l) :
    Calls Try.prog 51 #[.pointer (some ⟨R, 0, none⟩), .bool false] w (Fell w R O 6) := by
  go_enter Try.func51, Try.ntmps51
  go_wp2_with fail
  refine (fail_c 6 _ h).mono ?_
  rintro e w' ⟨rfl, hk, hw⟩
  exact ⟨rfl, rfl, hk, hw⟩
end Go.Proofs.Ytdjfdpmfpnbpjaa.Wirey
