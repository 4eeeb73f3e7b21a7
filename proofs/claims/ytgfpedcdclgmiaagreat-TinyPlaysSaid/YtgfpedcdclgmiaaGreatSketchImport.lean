/- Take and Import of a sketch's own bytes (layer 5). Nothing that was there turns but the Reader. -/
import Derived.Test.YtgfpedcdclgmiaaGreatSketchTake
namespace Go.Proofs.YtgfpedcdclgmiaaGreat.Sketchy
open Go.ChangeShapes Go.WideShapes Go.ChangeAt Go.RowKit
open Wirey (Blk Row str str_size str_list str_cat Kp Kept RS Took enc enc_len numR_enc num_ok must_ok bytes_ok toList_str)

/-- What Take holds: the sketch so far, what is left, and what stays. -/
structure Taking (w : World) (R O B : Nat) (s : Sk) (m : List UInt8) (v : World) : Prop where
  sk : At v B s
  rs : RS v R O m
  kp : Kp (fun k => k = R ∨ k = O) w v
theorem Taking.took {w v v' : World} {R O B : Nat} {s : Sk} {m m' : List UInt8} (h : Taking w R O B s m v) (hR : R < B) (hO : O < B) (hk : Kept v v' R O) (hr : RS v' R O m') : Taking w R O B s m' v' :=
  ⟨h.sk.kept hk hR hO, hr, h.kp.trans (Kp.of_kept hk (.inl rfl) (.inr rfl))⟩
/-- A block of the sketch is set. -/
theorem Taking.cell {w v : World} {R O B : Nat} {s s' : Sk} {m : List UInt8} (h : Taking w R O B s m v) (hR : R < B) (hO : O < B) (hw : w.heap.size ≤ B) {g k : Nat} (hg : B ≤ g) (u : Value) (hs : At (v.setCell ⟨g, k, none⟩ u) B s') : Taking w R O B s' m (v.setCell ⟨g, k, none⟩ u) :=
  ⟨hs, ⟨h.rs.rd.far (by show R ≠ g; omega) u, h.rs.of.far (by show O ≠ g; omega) u⟩, ⟨h.kp.os, h.kp.tape, h.kp.output, by have := h.kp.size; simpa [World.setCell] using this, fun k hk hS => (Below.heap_setCell _ _ _ _ (by show k ≠ g; omega)).trans (h.kp.block k hk hS)⟩⟩
theorem Taking.row {w v : World} {R O B : Nat} {s s' : Sk} {m : List UInt8} (h : Taking w R O B s m v) (hR : R < B) (hO : O < B) (hw : w.heap.size ≤ B) {g : Nat} (hg : B ≤ g) (cs : Array Value) (hs : At (v.setRow g cs) B s') : Taking w R O B s' m (v.setRow g cs) :=
  ⟨hs, ⟨blk_rowfar h.rs.rd (by omega) cs, blk_rowfar h.rs.of (by omega) cs⟩, ⟨h.kp.os, h.kp.tape, h.kp.output, by rw [setRow_size]; exact h.kp.size, fun k hk hS => (setRow_other v g k cs (by omega)).trans (h.kp.block k hk hS)⟩⟩
theorem Taking.drew {w v : World} {R O B : Nat} {s : Sk} {m : List UInt8} (h : Taking w R O B s m v) : Taking w R O B s m v.drew := ⟨h.sk.drew, ⟨h.rs.rd, h.rs.of⟩, ⟨h.kp.os, h.kp.tape, h.kp.output, h.kp.size, h.kp.block⟩⟩

set_option maxHeartbeats 8000000 in
set_option maxRecDepth 100000 in
theorem take_rest {s : Sk} (hf : s.Wf) {R O : Nat} {rest : List UInt8} (hrest : rest.length ≤ 100000000) (w : World) (h : RS w R O (s.put ++ rest)) :
    Calls Tryz.prog 102 #[.pointer (some ⟨R, 0, none⟩)] w fun e w' => ∃ B, e = .returned (.pointer (some ⟨B + 1, 0, none⟩)) ∧ At w' B s ∧ w.heap.size ≤ B ∧ RS w' R O rest ∧ Kp (fun k => k = R ∨ k = O) w w' := by
  have hw1 := hf.w1
  have hw2 := hf.w2
  have hadd := hf.added
  have hseed := hf.seed
  have hRl := h.rd.lt
  have hOl := h.of.lt
  have l1 := (enc_len (n := s.wide) (by omega)).2
  have l2 := (enc_len (n := s.seed) hseed).2
  have l3 := (enc_len (n := s.added) (by omega)).2
  have hrl := rowsTo_len hf.pre 4 (by omega)
  obtain ⟨body, hbody⟩ : ∃ b, b = rowsTo s 4 ++ (s.door.map flagB ++ rest) := ⟨_, rfl⟩
  have hbl : body.length ≤ 200000000 := by rw [hbody, List.length_append, List.length_append, List.length_map, hrl, hf.dlen]; omega
  have hput : s.put ++ rest = enc s.wide ++ (enc s.seed ++ (enc s.added ++ body)) := by rw [put_eq, hbody]; show enc s.wide ++ enc s.seed ++ enc s.added ++ _ ++ _ ++ _ = _; simp
  rw [hput] at h
  have hn1 := num_ok 4096 (numR_enc (n := s.wide) (by omega) (enc s.seed ++ (enc s.added ++ body))) hw2 (by simp only [List.length_append]; omega) w h
  rw [List.drop_left] at hn1
  have hn2 := fun (W : World) (h : RS W R O (enc s.seed ++ (enc s.added ++ body))) => num_ok 18446744073709551615 (numR_enc (n := s.seed) hseed (enc s.added ++ body)) (by omega) (by simp only [List.length_append]; omega) W h
  rw [List.drop_left] at hn2
  have hn3 := fun (W : World) (h : RS W R O (enc s.added ++ body)) => num_ok (10 * s.wide - 1) (numR_enc (n := s.added) (by omega) body) (by omega) (by simp only [List.length_append]; omega) W h
  rw [List.drop_left] at hn3
  have e4 : ((4096 : Nat) : Int) = 4096 := by omega
  have e5 : ((18446744073709551615 : Nat) : Int) = 18446744073709551615 := by omega
  have e6 : ((10 * s.wide - 1 : Nat) : Int) = ((10 * s.wide : Nat) : Int) - 1 := by omega
  rw [e4] at hn1
  rw [e5] at hn2
  rw [e6] at hn3
  have HN1 := Lib.hid hn1
  have HN2 := Lib.hid hn2
  have HN3 := Lib.hid hn3
  have HB := Lib.hid hbody
  have hwp : decide ((0 : Int) < (s.wide : Int)) = true := decide_eq_true (by omega)
  have hwn : decide (0 < s.wide) = true := decide_eq_true (by omega)
  have hwn2 : 0 < s.wide := by omega
  have hw0 : ((s.wide : Int) == 0) = false := by rw [beq_eq_false_iff_ne]; omega
  clear e4 e5 e6 hn1 hn2 hn3 hbody hput l1 l2 l3 hrl
  go_enter Tryz.func102, Tryz.ntmps102
  go_wp2_with fail
  refine HN1.out.mono ?_
  rintro e v1 ⟨rfl, hk1, hr1⟩
  go_wp2_with fail
  refine (must_ok _).mono ?_
  rintro e w' ⟨rfl, rfl⟩
  go_wp2_with fail
  refine (HN2.out _ hr1).mono ?_
  rintro e v2 ⟨rfl, hk2, hr2⟩
  go_wp2_with fail
  refine (empty_c (n := s.wide) (seed := s.seed) hw2 _).mono ?_
  rintro e v3 ⟨rfl, hA3, hb3, hs3⟩
  have hk12 := hk1.trans hk2
  have hz2 := hk12.size
  have hT3 : Taking w R O v2.heap.size (Sk.new s.wide s.seed) (enc s.added ++ body) v3 := ⟨hA3, hr2.below hb3, (Kp.of_kept hk12 (.inl rfl) (.inr rfl)).trans (Kp.of_below hb3)⟩
  obtain ⟨B, hBe⟩ : ∃ B, B = v2.heap.size := ⟨_, rfl⟩
  rw [← hBe] at hT3 hz2 ⊢
  have hRB : R < B := by omega
  have hOB : O < B := by omega
  clear hk1 hk2 hk12 hr1 hr2 hA3 hb3 hs3 hBe h
  go_wp2_with fail
  refine (full_c hw2 _).mono ?_
  rintro e w' ⟨rfl, rfl⟩
  go_wp2_with fail
  refine (HN3.out _ hT3.rs).mono ?_
  rintro e v4 ⟨rfl, hk4, hr4⟩
  have hT4 := hT3.took hRB hOB hk4 hr4
  obtain ⟨-, c1, -⟩ := hT4.sk.cells
  have fz := hT4.sk.hd.free 1
  have hT5 := hT4.cell hRB hOB hz2 (g := B + 1) (k := 1) (by omega) _ (got_0 hT4.sk)
  generalize hv5 : v4.setCell ⟨B + 1, 1, none⟩ (.int .i64 (s.added : Int)) = v5 at hT5
  have HV5 := Lib.hid hv5
  clear hv5 hT3 hk4 hr4 hT4
  go_upto_region 7 with (fail)
  rw [HV5.out]
  obtain ⟨c2, c3, c4, c5⟩ := hT5.sk.rows
  have ew : (s.got 0).wide = s.wide := rfl
  rw [ew] at c2 c3 c4 c5
  clear ew c1 fz HV5
  go_wp2_with fail
  go_loopw [35] (fun i wr => ∃ (j : Nat) (m : List UInt8), j ≤ 4 ∧ i = .int .i64 j ∧ Taking w R O B (s.got j) m wr ∧ rowsTo s j ++ m = body) (fun i _ => 4 - (intOf i).toNat)
  case atStart => exact ⟨0, body, by omega, rfl, hT5, rfl⟩
  case round =>
    obtain ⟨j, m, hj, rfl, hP, hm⟩ := hrel
    clear hT5 c2 c3 c4 c5
    by_cases h4 : j < 4
    · have hidx := fun W => rows_index B s.wide h4 W
      obtain ⟨tail, htail⟩ := rows_split s h4
      have hm2 : m = rowB (s.r j) ++ (tail ++ (s.door.map flagB ++ rest)) := by
        rw [HB.out, htail, List.append_assoc, List.append_assoc] at hm
        exact List.append_cancel_left hm
      have hrw : (rowB (s.r j)).length = s.wide := by rw [rowB, List.length_map]; exact hf.len j h4
      have hml : m.length ≤ 200000000 := by
        have := congrArg List.length hm
        rw [List.length_append] at this
        omega
      have hnext : rowsTo s (j + 1) ++ (tail ++ (s.door.map flagB ++ rest)) = body := by
        rw [← hm, hm2]
        show rowsTo s j ++ rowB (s.r j) ++ _ = _
        rw [List.append_assoc]
      have hby := bytes_ok s.wide (by rw [hm2, List.length_append, hrw]; omega) (by omega) _ hP.rs
      rw [hm2, ← hrw, List.take_left, List.drop_left, hrw] at hby
      have HBY := Lib.hid hby
      have HNX := Lib.hid hnext
      clear hm hm2 hnext hby htail
      go_wp2_with fail
      refine HBY.out.mono ?_
      rintro e v6 ⟨rfl, hk6, hr6⟩
      have hP6 := hP.took hRB hOB hk6 hr6
      have hcl : (bytesV ((s.got j).r j)).size = s.wide := by
        rw [got_r, if_neg (by omega)]
        unfold bytesV
        simp
      have hcp := copy_row (hf.top j h4) (hf.len j h4) (hP6.sk.row j h4) hcl
      have hP7 := hP6.row hRB hOB hz2 (g := B + 2 + j) (by omega) _ (got_row hP6.sk h4)
      generalize v6.setRow (B + 2 + j) (bytesV (s.r j)) = v7 at hcp hP7
      have hrow7 := hP7.sk.row j h4
      rw [got_r, if_pos (by omega)] at hrow7
      have hmb := maybe_c (hf.top j h4) (by rw [hf.len j h4]; exact hw2) (B + 2 + j) s.wide v7 hrow7
      rw [hf.len j h4] at hmb
      clear hP hP6 hcl hk6 hr6 hrow7 hrw
      go_wp2_with fail
      refine hmb.mono ?_
      rintro e w' ⟨rfl, rfl⟩
      go_wp2_with fail
      refine (must_ok _).mono ?_
      rintro e w' ⟨rfl, rfl⟩
      go_wp2_with fail
      go_roundw
      case rel => exact ⟨j + 1, _, by omega, rfl, hP7, HNX.out⟩
      case measure => simp [intOf]; omega
    · obtain rfl : j = 4 := by omega
      have hm2 : m = s.door.map flagB ++ rest := by
        rw [HB.out] at hm
        exact List.append_cancel_left hm
      rw [hm2] at hP
      have hP0 : Taking w R O B (s.gotD 0) ((s.door.drop 0).map flagB ++ rest) wr := ⟨got_4 hP.sk, hP.rs, hP.kp⟩
      obtain ⟨-, -, c6⟩ := hP.sk.cells
      have ew : (s.got 4).wide = s.wide := rfl
      rw [ew] at c6
      clear hm hm2 hP ew
      go_wp2_with fail
      go_loopw [53] (fun i wr => ∃ k : Nat, k ≤ s.wide ∧ i = .int .i64 k ∧ Taking w R O B (s.gotD k) ((s.door.drop k).map flagB ++ rest) wr) (fun i _ => s.wide - (intOf i).toNat)
      case atStart => exact ⟨0, by omega, rfl, hP0⟩
      case round =>
        obtain ⟨k, hk, rfl, hQ⟩ := hrel
        clear hP0 c6
        have hdl := hf.dlen
        by_cases hkw : k < s.wide
        · have hkl : k < s.door.length := by omega
          obtain ⟨-, -, c6⟩ := hQ.sk.cells
          have ew : (s.gotD k).wide = s.wide := rfl
          rw [ew] at c6
          have hdr : (s.door.drop k).map flagB ++ rest = flagB s.door[k] :: ((s.door.drop (k + 1)).map flagB ++ rest) := by
            rw [List.drop_eq_getElem_cons hkl, List.map_cons, List.cons_append]
          rw [hdr] at hQ
          have hdd : ((s.door.drop (k + 1)).map flagB ++ rest).length < 549755813888 := by rw [List.length_append, List.length_map, List.length_drop]; omega
          have hset := fun (W : World) (h : At W B (s.gotD k)) => gotD_set hdl hkl h
          generalize s.door[k] = c at hQ hset
          clear ew hdr
          have hgl : (s.gotD k).door.length = s.wide := by
            show (s.door.take k ++ List.replicate (s.wide - k) false).length = s.wide
            rw [List.length_append, List.length_take, List.length_replicate]
            omega
          have hfl := tflag_c c hdd wr.drew hQ.drew.rs
          have HQ := Lib.hid hQ.drew
          clear hdd
          go_wp2_with fail
          go_region_with (first | (go_at_call 118; refine Calls.mono hfl ?_; rintro e v ⟨rfl, hkF, hrF⟩
                                   have hQv := HQ.out.took hRB hOB hkF hrF
                                   have c6v : v.cell? ⟨B + 1, 6, none⟩ = some (.slice (some ⟨B, 0, none⟩) s.wide s.wide) := hQv.sk.cells.2.2
                                   have cdv := (hQv.sk.door.cell k).trans (boolsV_at (by rw [hgl]; exact hkw))
                                   have fdv := hQv.sk.door.free k
                                   have HQv := Lib.hid hQv
                                   clear hQv hkF hrF))
          all_goals
            have hQw := HQv.out.cell hRB hOB hz2 (g := B) (k := k) (Nat.le_refl _) (.bool c) (hset v HQv.out.sk)
            go_wp2_with fail
            go_roundw
            case measure => simp [intOf]; omega
            case rel =>
              first
                | exact ⟨k + 1, by omega, rfl, hQw⟩
                | ((repeat apply Exists.intro); exact ⟨⟨k + 1, by omega, rfl, hQw⟩, rfl⟩)
        · have hkk : k = s.wide := by omega
          subst hkk
          have hAll := gotD_all hdl hQ.sk
          have hnil : (s.door.drop s.wide).map flagB ++ rest = rest := by rw [List.drop_of_length_le (by omega)]; rfl
          rw [hnil] at hQ
          clear hnil
          go_wp2_with fail
          go_ret
          exact ⟨B, rfl, hAll, hz2, hQ.rs, hQ.kp⟩

theorem take_c {s : Sk} (hf : s.Wf) {R O : Nat} (w : World) (h : RS w R O s.put) :
    Calls Tryz.prog 102 #[.pointer (some ⟨R, 0, none⟩)] w fun e w' => ∃ B, e = .returned (.pointer (some ⟨B + 1, 0, none⟩)) ∧ At w' B s ∧ w.heap.size ≤ B ∧ RS w' R O [] ∧ Kp (fun k => k = R ∨ k = O) w w' :=
  take_rest hf (rest := []) (by simp) w (by rw [List.append_nil]; exact h)

end Go.Proofs.YtgfpedcdclgmiaaGreat.Sketchy
