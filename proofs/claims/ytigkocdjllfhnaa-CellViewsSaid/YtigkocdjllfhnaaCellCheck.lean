/- Layer 16: which views may be: the program's answer, and the document's. No condition. -/
import Derived.Test.YtigkocdjllfhnaaCellMem
namespace Go.Proofs.Ytigkocdjllfhnaa.Celly
open Go.ChangeShapes Go.WideShapes Go.ChangeAt Go.RowKit
open Wirey (Blk Row)
open Regy
theorem serve_c (n : Int) (l : Nat) (w : World) : Calls Try.prog 25 #[.int .i64 n, .int .u64 (l : Int)] w fun e w' => e = .returned (.bool (decide (Node n l))) ∧ w = w' := by
  by_cases h1 : 0 ≤ n
  · by_cases h2 : n < 1048576
    · by_cases h3 : 0 < l
      · have d : decide (Node n l) = true := decide_eq_true ⟨h1, h2, h3⟩
        have d1 : decide (0 ≤ n) = true := decide_eq_true h1
        have d2 : decide (n < 1048576) = true := decide_eq_true h2
        have d3 : decide (0 < l) = true := decide_eq_true h3
        rw [d]
        clear d
        go_enter Try.func25, Try.ntmps25
        go_wp2_with fail
        go_ret
        exact ⟨rfl, rfl⟩
      · have d : decide (Node n l) = false := decide_eq_false fun h => h3 h.2.2
        have d1 : decide (0 ≤ n) = true := decide_eq_true h1
        have d2 : decide (n < 1048576) = true := decide_eq_true h2
        have d3 : decide (0 < l) = false := decide_eq_false h3
        rw [d]
        clear d
        go_enter Try.func25, Try.ntmps25
        go_wp2_with fail
        go_ret
        exact ⟨rfl, rfl⟩
    · have d : decide (Node n l) = false := decide_eq_false fun h => h2 h.2.1
      have d1 : decide (0 ≤ n) = true := decide_eq_true h1
      have d2 : decide (n < 1048576) = false := decide_eq_false h2
      rw [d]
      clear d
      go_enter Try.func25, Try.ntmps25
      go_wp2_with fail
      go_ret
      exact ⟨rfl, rfl⟩
  · have d : decide (Node n l) = false := decide_eq_false fun h => h1 h.1
    have d1 : decide (0 ≤ n) = false := decide_eq_false h1
    rw [d]
    clear d
    go_enter Try.func25, Try.ntmps25
    go_wp2_with fail
    go_ret
    exact ⟨rfl, rfl⟩
set_option maxHeartbeats 2000000 in
set_option maxRecDepth 100000 in
theorem check_c (x : Vw) (w : World) : Calls Try.prog 12 #[.agg x.cs] w fun e w' => e = .returned (.bool (decide (May x))) ∧ Below w.heap.size w w' := by
  obtain ⟨v, pr, pl, ba, bl, ep⟩ := x
  simp only [Vw.cs]
  by_cases hv : v = 0
  · have hv0 := hv
    have d : decide (May ⟨v, pr, pl, ba, bl, ep⟩) = false := decide_eq_false fun h => h.1 hv0
    rw [d]
    clear d
    obtain rfl := hv
    go_enter Try.func12, Try.ntmps12
    go_wp2_with fail
    go_ret
    exact ⟨rfl, (Below.refl _ w).alloc (Nat.le_refl _) _⟩
  by_cases hep : ep = 0
  · have hep0 := hep
    have d : decide (May ⟨v, pr, pl, ba, bl, ep⟩) = false := decide_eq_false fun h => h.2.1 hep0
    rw [d]
    clear d
    have z1v : ((v : Int) == 0) = false := by rw [beq_eq_false_iff_ne]; omega
    have z2v : (v == 0) = false := by rw [beq_eq_false_iff_ne]; exact hv
    have z3v : decide (0 < v) = true := decide_eq_true (by omega)
    obtain rfl := hep
    go_enter Try.func12, Try.ntmps12
    go_wp2_with fail
    go_ret
    exact ⟨rfl, (Below.refl _ w).alloc (Nat.le_refl _) _⟩
  by_cases hn1 : Node pr pl
  · have e1 : decide (Node pr pl) = true := decide_eq_true hn1
    by_cases he : ba = -1
    · by_cases hbl : bl = 0
      · have hbl0 := hbl
        have d : decide (May ⟨v, pr, pl, ba, bl, ep⟩) = true := decide_eq_true ⟨hv, hep, hn1, .inl ⟨he, hbl⟩⟩
        rw [d]
        clear d
        have z1v : ((v : Int) == 0) = false := by rw [beq_eq_false_iff_ne]; omega
        have z2v : (v == 0) = false := by rw [beq_eq_false_iff_ne]; exact hv
        have z3v : decide (0 < v) = true := decide_eq_true (by omega)
        have z1ep : ((ep : Int) == 0) = false := by rw [beq_eq_false_iff_ne]; omega
        have z2ep : (ep == 0) = false := by rw [beq_eq_false_iff_ne]; exact hep
        have z3ep : decide (0 < ep) = true := decide_eq_true (by omega)
        obtain rfl := he
        obtain rfl := hbl
        go_enter Try.func12, Try.ntmps12
        go_wp2_with fail
        refine (serve_c pr pl _).mono ?_
        rintro e w1 ⟨rfl, rfl⟩
        rw [e1]
        go_wp2_with fail
        go_ret
        exact ⟨rfl, (Below.refl _ w).alloc (Nat.le_refl _) _⟩
      · have hbl0 := hbl
        have d : decide (May ⟨v, pr, pl, ba, bl, ep⟩) = false := decide_eq_false fun h => h.2.2.2.elim (fun h => hbl h.2) (fun h => h.1 he)
        rw [d]
        clear d
        have z1v : ((v : Int) == 0) = false := by rw [beq_eq_false_iff_ne]; omega
        have z2v : (v == 0) = false := by rw [beq_eq_false_iff_ne]; exact hv
        have z3v : decide (0 < v) = true := decide_eq_true (by omega)
        have z1ep : ((ep : Int) == 0) = false := by rw [beq_eq_false_iff_ne]; omega
        have z2ep : (ep == 0) = false := by rw [beq_eq_false_iff_ne]; exact hep
        have z3ep : decide (0 < ep) = true := decide_eq_true (by omega)
        have z1bl : ((bl : Int) == 0) = false := by rw [beq_eq_false_iff_ne]; omega
        have z2bl : (bl == 0) = false := by rw [beq_eq_false_iff_ne]; exact hbl
        have z3bl : decide (0 < bl) = true := decide_eq_true (by omega)
        obtain rfl := he
        go_enter Try.func12, Try.ntmps12
        go_wp2_with fail
        refine (serve_c pr pl _).mono ?_
        rintro e w1 ⟨rfl, rfl⟩
        rw [e1]
        go_wp2_with fail
        go_ret
        exact ⟨rfl, (Below.refl _ w).alloc (Nat.le_refl _) _⟩
    · by_cases heb : ba = pr
      · have heb0 := heb
        have d : decide (May ⟨v, pr, pl, ba, bl, ep⟩) = false := decide_eq_false fun h => h.2.2.2.elim (fun h => he h.1) (fun h => h.2.1 heb0)
        rw [d]
        clear d
        have z1v : ((v : Int) == 0) = false := by rw [beq_eq_false_iff_ne]; omega
        have z2v : (v == 0) = false := by rw [beq_eq_false_iff_ne]; exact hv
        have z3v : decide (0 < v) = true := decide_eq_true (by omega)
        have z1ep : ((ep : Int) == 0) = false := by rw [beq_eq_false_iff_ne]; omega
        have z2ep : (ep == 0) = false := by rw [beq_eq_false_iff_ne]; exact hep
        have z3ep : decide (0 < ep) = true := decide_eq_true (by omega)
        have q1 : (ba == (-1)) = false := by rw [beq_eq_false_iff_ne]; exact he
        have q2 : (ba != (-1)) = true := by unfold bne; rw [q1]; rfl
        have q3 : decide (ba ≠ (-1)) = true := decide_eq_true he
        have q1b : (ba == pr) = true := by rw [beq_iff_eq]; exact heb
        have q2b : (ba != pr) = false := by unfold bne; rw [q1b]; rfl
        have q3b : decide (ba ≠ pr) = false := decide_eq_false (fun h => h heb)
        go_enter Try.func12, Try.ntmps12
        go_wp2_with fail
        refine (serve_c pr pl _).mono ?_
        rintro e w1 ⟨rfl, rfl⟩
        rw [e1]
        go_wp2_with fail
        go_ret
        exact ⟨rfl, (Below.refl _ w).alloc (Nat.le_refl _) _⟩
      · by_cases hn2 : Node ba bl
        · have e2 : decide (Node ba bl) = true := decide_eq_true hn2
          have d : decide (May ⟨v, pr, pl, ba, bl, ep⟩) = true := decide_eq_true ⟨hv, hep, hn1, .inr ⟨he, heb, hn2⟩⟩
          rw [d]
          clear d
          have z1v : ((v : Int) == 0) = false := by rw [beq_eq_false_iff_ne]; omega
          have z2v : (v == 0) = false := by rw [beq_eq_false_iff_ne]; exact hv
          have z3v : decide (0 < v) = true := decide_eq_true (by omega)
          have z1ep : ((ep : Int) == 0) = false := by rw [beq_eq_false_iff_ne]; omega
          have z2ep : (ep == 0) = false := by rw [beq_eq_false_iff_ne]; exact hep
          have z3ep : decide (0 < ep) = true := decide_eq_true (by omega)
          have q1 : (ba == (-1)) = false := by rw [beq_eq_false_iff_ne]; exact he
          have q2 : (ba != (-1)) = true := by unfold bne; rw [q1]; rfl
          have q3 : decide (ba ≠ (-1)) = true := decide_eq_true he
          have q1b : (ba == pr) = false := by rw [beq_eq_false_iff_ne]; exact heb
          have q2b : (ba != pr) = true := by unfold bne; rw [q1b]; rfl
          have q3b : decide (ba ≠ pr) = true := decide_eq_true heb
          go_enter Try.func12, Try.ntmps12
          go_wp2_with fail
          refine (serve_c pr pl _).mono ?_
          rintro e w1 ⟨rfl, rfl⟩
          rw [e1]
          go_wp2_with fail
          refine (serve_c ba bl _).mono ?_
          rintro e w1 ⟨rfl, rfl⟩
          rw [e2]
          go_wp2_with fail
          go_ret
          exact ⟨rfl, (Below.refl _ w).alloc (Nat.le_refl _) _⟩
        · have e2 : decide (Node ba bl) = false := decide_eq_false hn2
          have d : decide (May ⟨v, pr, pl, ba, bl, ep⟩) = false := decide_eq_false fun h => h.2.2.2.elim (fun h => he h.1) (fun h => hn2 h.2.2)
          rw [d]
          clear d
          have z1v : ((v : Int) == 0) = false := by rw [beq_eq_false_iff_ne]; omega
          have z2v : (v == 0) = false := by rw [beq_eq_false_iff_ne]; exact hv
          have z3v : decide (0 < v) = true := decide_eq_true (by omega)
          have z1ep : ((ep : Int) == 0) = false := by rw [beq_eq_false_iff_ne]; omega
          have z2ep : (ep == 0) = false := by rw [beq_eq_false_iff_ne]; exact hep
          have z3ep : decide (0 < ep) = true := decide_eq_true (by omega)
          have q1 : (ba == (-1)) = false := by rw [beq_eq_false_iff_ne]; exact he
          have q2 : (ba != (-1)) = true := by unfold bne; rw [q1]; rfl
          have q3 : decide (ba ≠ (-1)) = true := decide_eq_true he
          have q1b : (ba == pr) = false := by rw [beq_eq_false_iff_ne]; exact heb
          have q2b : (ba != pr) = true := by unfold bne; rw [q1b]; rfl
          have q3b : decide (ba ≠ pr) = true := decide_eq_true heb
          go_enter Try.func12, Try.ntmps12
          go_wp2_with fail
          refine (serve_c pr pl _).mono ?_
          rintro e w1 ⟨rfl, rfl⟩
          rw [e1]
          go_wp2_with fail
          refine (serve_c ba bl _).mono ?_
          rintro e w1 ⟨rfl, rfl⟩
          rw [e2]
          go_wp2_with fail
          go_ret
          exact ⟨rfl, (Below.refl _ w).alloc (Nat.le_refl _) _⟩
  · have e1 : decide (Node pr pl) = false := decide_eq_false hn1
    have d : decide (May ⟨v, pr, pl, ba, bl, ep⟩) = false := decide_eq_false fun h => hn1 h.2.2.1
    rw [d]
    clear d
    have z1v : ((v : Int) == 0) = false := by rw [beq_eq_false_iff_ne]; omega
    have z2v : (v == 0) = false := by rw [beq_eq_false_iff_ne]; exact hv
    have z3v : decide (0 < v) = true := decide_eq_true (by omega)
    have z1ep : ((ep : Int) == 0) = false := by rw [beq_eq_false_iff_ne]; omega
    have z2ep : (ep == 0) = false := by rw [beq_eq_false_iff_ne]; exact hep
    have z3ep : decide (0 < ep) = true := decide_eq_true (by omega)
    go_enter Try.func12, Try.ntmps12
    go_wp2_with fail
    refine (serve_c pr pl _).mono ?_
    rintro e w1 ⟨rfl, rfl⟩
    rw [e1]
    go_wp2_with fail
    go_ret
    exact ⟨rfl, (Below.refl _ w).alloc (Nat.le_refl _) _⟩
set_option maxHeartbeats 2000000 in
set_option maxRecDepth 100000 in
theorem dcheck_c (x : Vw) (w : World) : Calls Try.prog 13 #[.agg x.cs] w fun e w' => e = .returned (.bool (decide (May x))) ∧ Below w.heap.size w w' := by
  obtain ⟨v, pr, pl, ba, bl, ep⟩ := x
  simp only [Vw.cs]
  by_cases hv : v = 0
  · have hv0 := hv
    have d : decide (May ⟨v, pr, pl, ba, bl, ep⟩) = false := decide_eq_false fun h => h.1 hv0
    rw [d]
    clear d
    obtain rfl := hv
    go_enter Try.func13, Try.ntmps13
    go_wp2_with fail
    go_ret
    exact ⟨rfl, (Below.refl _ w).alloc (Nat.le_refl _) _⟩
  by_cases hep : ep = 0
  · have hep0 := hep
    have d : decide (May ⟨v, pr, pl, ba, bl, ep⟩) = false := decide_eq_false fun h => h.2.1 hep0
    rw [d]
    clear d
    have z1v : ((v : Int) == 0) = false := by rw [beq_eq_false_iff_ne]; omega
    have z2v : (v == 0) = false := by rw [beq_eq_false_iff_ne]; exact hv
    have z3v : decide (0 < v) = true := decide_eq_true (by omega)
    obtain rfl := hep
    go_enter Try.func13, Try.ntmps13
    go_wp2_with fail
    go_ret
    exact ⟨rfl, (Below.refl _ w).alloc (Nat.le_refl _) _⟩
  by_cases hn1 : Node pr pl
  · have e1 : decide (Node pr pl) = true := decide_eq_true hn1
    by_cases he : ba = -1
    · by_cases hbl : bl = 0
      · have hbl0 := hbl
        have d : decide (May ⟨v, pr, pl, ba, bl, ep⟩) = true := decide_eq_true ⟨hv, hep, hn1, .inl ⟨he, hbl⟩⟩
        rw [d]
        clear d
        have z1v : ((v : Int) == 0) = false := by rw [beq_eq_false_iff_ne]; omega
        have z2v : (v == 0) = false := by rw [beq_eq_false_iff_ne]; exact hv
        have z3v : decide (0 < v) = true := decide_eq_true (by omega)
        have z1ep : ((ep : Int) == 0) = false := by rw [beq_eq_false_iff_ne]; omega
        have z2ep : (ep == 0) = false := by rw [beq_eq_false_iff_ne]; exact hep
        have z3ep : decide (0 < ep) = true := decide_eq_true (by omega)
        have m1pr : decide (0 ≤ pr) = true := decide_eq_true hn1.1
        have m2pr : decide (pr < 1048576) = true := decide_eq_true hn1.2.1
        have m3pr : decide (0 < pl) = true := decide_eq_true hn1.2.2
        have m4pr : decide (pr < 0) = false := decide_eq_false (by have := hn1.1; omega)
        have m5pr : decide (1048576 ≤ pr) = false := decide_eq_false (by have := hn1.2.1; omega)
        have m6pr : ((pl : Int) == 0) = false := by rw [beq_eq_false_iff_ne]; have := hn1.2.2; omega
        have m7pr : (pl == 0) = false := by rw [beq_eq_false_iff_ne]; have := hn1.2.2; omega
        obtain rfl := he
        obtain rfl := hbl
        go_enter Try.func13, Try.ntmps13
        go_wp2_with fail
        go_ret
        exact ⟨rfl, (Below.refl _ w).alloc (Nat.le_refl _) _⟩
      · have hbl0 := hbl
        have d : decide (May ⟨v, pr, pl, ba, bl, ep⟩) = false := decide_eq_false fun h => h.2.2.2.elim (fun h => hbl h.2) (fun h => h.1 he)
        rw [d]
        clear d
        have z1v : ((v : Int) == 0) = false := by rw [beq_eq_false_iff_ne]; omega
        have z2v : (v == 0) = false := by rw [beq_eq_false_iff_ne]; exact hv
        have z3v : decide (0 < v) = true := decide_eq_true (by omega)
        have z1ep : ((ep : Int) == 0) = false := by rw [beq_eq_false_iff_ne]; omega
        have z2ep : (ep == 0) = false := by rw [beq_eq_false_iff_ne]; exact hep
        have z3ep : decide (0 < ep) = true := decide_eq_true (by omega)
        have m1pr : decide (0 ≤ pr) = true := decide_eq_true hn1.1
        have m2pr : decide (pr < 1048576) = true := decide_eq_true hn1.2.1
        have m3pr : decide (0 < pl) = true := decide_eq_true hn1.2.2
        have m4pr : decide (pr < 0) = false := decide_eq_false (by have := hn1.1; omega)
        have m5pr : decide (1048576 ≤ pr) = false := decide_eq_false (by have := hn1.2.1; omega)
        have m6pr : ((pl : Int) == 0) = false := by rw [beq_eq_false_iff_ne]; have := hn1.2.2; omega
        have m7pr : (pl == 0) = false := by rw [beq_eq_false_iff_ne]; have := hn1.2.2; omega
        have z1bl : ((bl : Int) == 0) = false := by rw [beq_eq_false_iff_ne]; omega
        have z2bl : (bl == 0) = false := by rw [beq_eq_false_iff_ne]; exact hbl
        have z3bl : decide (0 < bl) = true := decide_eq_true (by omega)
        obtain rfl := he
        go_enter Try.func13, Try.ntmps13
        go_wp2_with fail
        go_ret
        exact ⟨rfl, (Below.refl _ w).alloc (Nat.le_refl _) _⟩
    · by_cases hn2 : Node ba bl
      · by_cases heb : ba = pr
        · have heb0 := heb
          have d : decide (May ⟨v, pr, pl, ba, bl, ep⟩) = false := decide_eq_false fun h => h.2.2.2.elim (fun h => he h.1) (fun h => h.2.1 heb)
          rw [d]
          clear d
          have z1v : ((v : Int) == 0) = false := by rw [beq_eq_false_iff_ne]; omega
          have z2v : (v == 0) = false := by rw [beq_eq_false_iff_ne]; exact hv
          have z3v : decide (0 < v) = true := decide_eq_true (by omega)
          have z1ep : ((ep : Int) == 0) = false := by rw [beq_eq_false_iff_ne]; omega
          have z2ep : (ep == 0) = false := by rw [beq_eq_false_iff_ne]; exact hep
          have z3ep : decide (0 < ep) = true := decide_eq_true (by omega)
          have m1pr : decide (0 ≤ pr) = true := decide_eq_true hn1.1
          have m2pr : decide (pr < 1048576) = true := decide_eq_true hn1.2.1
          have m3pr : decide (0 < pl) = true := decide_eq_true hn1.2.2
          have m4pr : decide (pr < 0) = false := decide_eq_false (by have := hn1.1; omega)
          have m5pr : decide (1048576 ≤ pr) = false := decide_eq_false (by have := hn1.2.1; omega)
          have m6pr : ((pl : Int) == 0) = false := by rw [beq_eq_false_iff_ne]; have := hn1.2.2; omega
          have m7pr : (pl == 0) = false := by rw [beq_eq_false_iff_ne]; have := hn1.2.2; omega
          have q1 : (ba == (-1)) = false := by rw [beq_eq_false_iff_ne]; exact he
          have q2 : (ba != (-1)) = true := by unfold bne; rw [q1]; rfl
          have q3 : decide (ba ≠ (-1)) = true := decide_eq_true he
          have m1ba : decide (0 ≤ ba) = true := decide_eq_true hn2.1
          have m2ba : decide (ba < 1048576) = true := decide_eq_true hn2.2.1
          have m3ba : decide (0 < bl) = true := decide_eq_true hn2.2.2
          have m4ba : decide (ba < 0) = false := decide_eq_false (by have := hn2.1; omega)
          have m5ba : decide (1048576 ≤ ba) = false := decide_eq_false (by have := hn2.2.1; omega)
          have m6ba : ((bl : Int) == 0) = false := by rw [beq_eq_false_iff_ne]; have := hn2.2.2; omega
          have m7ba : (bl == 0) = false := by rw [beq_eq_false_iff_ne]; have := hn2.2.2; omega
          have q1b : (ba == pr) = true := by rw [beq_iff_eq]; exact heb
          have q2b : (ba != pr) = false := by unfold bne; rw [q1b]; rfl
          have q3b : decide (ba ≠ pr) = false := decide_eq_false (fun h => h heb)
          go_enter Try.func13, Try.ntmps13
          go_wp2_with fail
          go_ret
          exact ⟨rfl, (Below.refl _ w).alloc (Nat.le_refl _) _⟩
        · have heb0 := heb
          have d : decide (May ⟨v, pr, pl, ba, bl, ep⟩) = true := decide_eq_true ⟨hv, hep, hn1, .inr ⟨he, heb, hn2⟩⟩
          rw [d]
          clear d
          have z1v : ((v : Int) == 0) = false := by rw [beq_eq_false_iff_ne]; omega
          have z2v : (v == 0) = false := by rw [beq_eq_false_iff_ne]; exact hv
          have z3v : decide (0 < v) = true := decide_eq_true (by omega)
          have z1ep : ((ep : Int) == 0) = false := by rw [beq_eq_false_iff_ne]; omega
          have z2ep : (ep == 0) = false := by rw [beq_eq_false_iff_ne]; exact hep
          have z3ep : decide (0 < ep) = true := decide_eq_true (by omega)
          have m1pr : decide (0 ≤ pr) = true := decide_eq_true hn1.1
          have m2pr : decide (pr < 1048576) = true := decide_eq_true hn1.2.1
          have m3pr : decide (0 < pl) = true := decide_eq_true hn1.2.2
          have m4pr : decide (pr < 0) = false := decide_eq_false (by have := hn1.1; omega)
          have m5pr : decide (1048576 ≤ pr) = false := decide_eq_false (by have := hn1.2.1; omega)
          have m6pr : ((pl : Int) == 0) = false := by rw [beq_eq_false_iff_ne]; have := hn1.2.2; omega
          have m7pr : (pl == 0) = false := by rw [beq_eq_false_iff_ne]; have := hn1.2.2; omega
          have q1 : (ba == (-1)) = false := by rw [beq_eq_false_iff_ne]; exact he
          have q2 : (ba != (-1)) = true := by unfold bne; rw [q1]; rfl
          have q3 : decide (ba ≠ (-1)) = true := decide_eq_true he
          have m1ba : decide (0 ≤ ba) = true := decide_eq_true hn2.1
          have m2ba : decide (ba < 1048576) = true := decide_eq_true hn2.2.1
          have m3ba : decide (0 < bl) = true := decide_eq_true hn2.2.2
          have m4ba : decide (ba < 0) = false := decide_eq_false (by have := hn2.1; omega)
          have m5ba : decide (1048576 ≤ ba) = false := decide_eq_false (by have := hn2.2.1; omega)
          have m6ba : ((bl : Int) == 0) = false := by rw [beq_eq_false_iff_ne]; have := hn2.2.2; omega
          have m7ba : (bl == 0) = false := by rw [beq_eq_false_iff_ne]; have := hn2.2.2; omega
          have q1b : (ba == pr) = false := by rw [beq_eq_false_iff_ne]; exact heb
          have q2b : (ba != pr) = true := by unfold bne; rw [q1b]; rfl
          have q3b : decide (ba ≠ pr) = true := decide_eq_true heb
          go_enter Try.func13, Try.ntmps13
          go_wp2_with fail
          go_ret
          exact ⟨rfl, (Below.refl _ w).alloc (Nat.le_refl _) _⟩
      · by_cases h1 : 0 ≤ ba
        · by_cases h2 : ba < 1048576
          · have hbl : ¬ 0 < bl := fun h => hn2 ⟨h1, h2, h⟩
            have d : decide (May ⟨v, pr, pl, ba, bl, ep⟩) = false := decide_eq_false fun h => h.2.2.2.elim (fun h => he h.1) (fun h => hn2 h.2.2)
            rw [d]
            clear d
            have z1v : ((v : Int) == 0) = false := by rw [beq_eq_false_iff_ne]; omega
            have z2v : (v == 0) = false := by rw [beq_eq_false_iff_ne]; exact hv
            have z3v : decide (0 < v) = true := decide_eq_true (by omega)
            have z1ep : ((ep : Int) == 0) = false := by rw [beq_eq_false_iff_ne]; omega
            have z2ep : (ep == 0) = false := by rw [beq_eq_false_iff_ne]; exact hep
            have z3ep : decide (0 < ep) = true := decide_eq_true (by omega)
            have m1pr : decide (0 ≤ pr) = true := decide_eq_true hn1.1
            have m2pr : decide (pr < 1048576) = true := decide_eq_true hn1.2.1
            have m3pr : decide (0 < pl) = true := decide_eq_true hn1.2.2
            have m4pr : decide (pr < 0) = false := decide_eq_false (by have := hn1.1; omega)
            have m5pr : decide (1048576 ≤ pr) = false := decide_eq_false (by have := hn1.2.1; omega)
            have m6pr : ((pl : Int) == 0) = false := by rw [beq_eq_false_iff_ne]; have := hn1.2.2; omega
            have m7pr : (pl == 0) = false := by rw [beq_eq_false_iff_ne]; have := hn1.2.2; omega
            have q1 : (ba == (-1)) = false := by rw [beq_eq_false_iff_ne]; exact he
            have q2 : (ba != (-1)) = true := by unfold bne; rw [q1]; rfl
            have q3 : decide (ba ≠ (-1)) = true := decide_eq_true he
            obtain rfl : bl = 0 := by omega
            have k1 : decide (0 ≤ ba) = true := decide_eq_true h1
            have k2 : decide (ba < 1048576) = true := decide_eq_true h2
            go_enter Try.func13, Try.ntmps13
            go_wp2_with fail
            go_ret
            exact ⟨rfl, (Below.refl _ w).alloc (Nat.le_refl _) _⟩
          · have h20 := h2
            have d : decide (May ⟨v, pr, pl, ba, bl, ep⟩) = false := decide_eq_false fun h => h.2.2.2.elim (fun h => he h.1) (fun h => hn2 h.2.2)
            rw [d]
            clear d
            have z1v : ((v : Int) == 0) = false := by rw [beq_eq_false_iff_ne]; omega
            have z2v : (v == 0) = false := by rw [beq_eq_false_iff_ne]; exact hv
            have z3v : decide (0 < v) = true := decide_eq_true (by omega)
            have z1ep : ((ep : Int) == 0) = false := by rw [beq_eq_false_iff_ne]; omega
            have z2ep : (ep == 0) = false := by rw [beq_eq_false_iff_ne]; exact hep
            have z3ep : decide (0 < ep) = true := decide_eq_true (by omega)
            have m1pr : decide (0 ≤ pr) = true := decide_eq_true hn1.1
            have m2pr : decide (pr < 1048576) = true := decide_eq_true hn1.2.1
            have m3pr : decide (0 < pl) = true := decide_eq_true hn1.2.2
            have m4pr : decide (pr < 0) = false := decide_eq_false (by have := hn1.1; omega)
            have m5pr : decide (1048576 ≤ pr) = false := decide_eq_false (by have := hn1.2.1; omega)
            have m6pr : ((pl : Int) == 0) = false := by rw [beq_eq_false_iff_ne]; have := hn1.2.2; omega
            have m7pr : (pl == 0) = false := by rw [beq_eq_false_iff_ne]; have := hn1.2.2; omega
            have q1 : (ba == (-1)) = false := by rw [beq_eq_false_iff_ne]; exact he
            have q2 : (ba != (-1)) = true := by unfold bne; rw [q1]; rfl
            have q3 : decide (ba ≠ (-1)) = true := decide_eq_true he
            have k1 : decide (0 ≤ ba) = true := decide_eq_true h1
            have k2 : decide (ba < 1048576) = false := decide_eq_false h2
            go_enter Try.func13, Try.ntmps13
            go_wp2_with fail
            go_ret
            exact ⟨rfl, (Below.refl _ w).alloc (Nat.le_refl _) _⟩
        · have h10 := h1
          have d : decide (May ⟨v, pr, pl, ba, bl, ep⟩) = false := decide_eq_false fun h => h.2.2.2.elim (fun h => he h.1) (fun h => hn2 h.2.2)
          rw [d]
          clear d
          have z1v : ((v : Int) == 0) = false := by rw [beq_eq_false_iff_ne]; omega
          have z2v : (v == 0) = false := by rw [beq_eq_false_iff_ne]; exact hv
          have z3v : decide (0 < v) = true := decide_eq_true (by omega)
          have z1ep : ((ep : Int) == 0) = false := by rw [beq_eq_false_iff_ne]; omega
          have z2ep : (ep == 0) = false := by rw [beq_eq_false_iff_ne]; exact hep
          have z3ep : decide (0 < ep) = true := decide_eq_true (by omega)
          have m1pr : decide (0 ≤ pr) = true := decide_eq_true hn1.1
          have m2pr : decide (pr < 1048576) = true := decide_eq_true hn1.2.1
          have m3pr : decide (0 < pl) = true := decide_eq_true hn1.2.2
          have m4pr : decide (pr < 0) = false := decide_eq_false (by have := hn1.1; omega)
          have m5pr : decide (1048576 ≤ pr) = false := decide_eq_false (by have := hn1.2.1; omega)
          have m6pr : ((pl : Int) == 0) = false := by rw [beq_eq_false_iff_ne]; have := hn1.2.2; omega
          have m7pr : (pl == 0) = false := by rw [beq_eq_false_iff_ne]; have := hn1.2.2; omega
          have q1 : (ba == (-1)) = false := by rw [beq_eq_false_iff_ne]; exact he
          have q2 : (ba != (-1)) = true := by unfold bne; rw [q1]; rfl
          have q3 : decide (ba ≠ (-1)) = true := decide_eq_true he
          have k1 : decide (0 ≤ ba) = false := decide_eq_false h1
          go_enter Try.func13, Try.ntmps13
          go_wp2_with fail
          go_ret
          exact ⟨rfl, (Below.refl _ w).alloc (Nat.le_refl _) _⟩
  · by_cases h1 : pr < 0
    · have h10 := h1
      have d : decide (May ⟨v, pr, pl, ba, bl, ep⟩) = false := decide_eq_false fun h => hn1 h.2.2.1
      rw [d]
      clear d
      have z1v : ((v : Int) == 0) = false := by rw [beq_eq_false_iff_ne]; omega
      have z2v : (v == 0) = false := by rw [beq_eq_false_iff_ne]; exact hv
      have z3v : decide (0 < v) = true := decide_eq_true (by omega)
      have z1ep : ((ep : Int) == 0) = false := by rw [beq_eq_false_iff_ne]; omega
      have z2ep : (ep == 0) = false := by rw [beq_eq_false_iff_ne]; exact hep
      have z3ep : decide (0 < ep) = true := decide_eq_true (by omega)
      have k1 : decide (pr < 0) = true := decide_eq_true h1
      go_enter Try.func13, Try.ntmps13
      go_wp2_with fail
      go_ret
      exact ⟨rfl, (Below.refl _ w).alloc (Nat.le_refl _) _⟩
    · by_cases h2 : 1048576 ≤ pr
      · have h20 := h2
        have d : decide (May ⟨v, pr, pl, ba, bl, ep⟩) = false := decide_eq_false fun h => hn1 h.2.2.1
        rw [d]
        clear d
        have z1v : ((v : Int) == 0) = false := by rw [beq_eq_false_iff_ne]; omega
        have z2v : (v == 0) = false := by rw [beq_eq_false_iff_ne]; exact hv
        have z3v : decide (0 < v) = true := decide_eq_true (by omega)
        have z1ep : ((ep : Int) == 0) = false := by rw [beq_eq_false_iff_ne]; omega
        have z2ep : (ep == 0) = false := by rw [beq_eq_false_iff_ne]; exact hep
        have z3ep : decide (0 < ep) = true := decide_eq_true (by omega)
        have k1 : decide (pr < 0) = false := decide_eq_false h1
        have k2 : decide (1048576 ≤ pr) = true := decide_eq_true h2
        go_enter Try.func13, Try.ntmps13
        go_wp2_with fail
        go_ret
        exact ⟨rfl, (Below.refl _ w).alloc (Nat.le_refl _) _⟩
      · have hpl : ¬ 0 < pl := fun h => hn1 ⟨by omega, by omega, h⟩
        have d : decide (May ⟨v, pr, pl, ba, bl, ep⟩) = false := decide_eq_false fun h => hn1 h.2.2.1
        rw [d]
        clear d
        have z1v : ((v : Int) == 0) = false := by rw [beq_eq_false_iff_ne]; omega
        have z2v : (v == 0) = false := by rw [beq_eq_false_iff_ne]; exact hv
        have z3v : decide (0 < v) = true := decide_eq_true (by omega)
        have z1ep : ((ep : Int) == 0) = false := by rw [beq_eq_false_iff_ne]; omega
        have z2ep : (ep == 0) = false := by rw [beq_eq_false_iff_ne]; exact hep
        have z3ep : decide (0 < ep) = true := decide_eq_true (by omega)
        obtain rfl : pl = 0 := by omega
        have k1 : decide (pr < 0) = false := decide_eq_false h1
        have k2 : decide (1048576 ≤ pr) = false := decide_eq_false h2
        go_enter Try.func13, Try.ntmps13
        go_wp2_with fail
        go_ret
        exact ⟨rfl, (Below.refl _ w).alloc (Nat.le_refl _) _⟩
end Go.Proofs.Ytigkocdjllfhnaa.Celly
