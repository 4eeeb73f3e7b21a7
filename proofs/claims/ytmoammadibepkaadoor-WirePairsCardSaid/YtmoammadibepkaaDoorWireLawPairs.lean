/- Layer 3 (wire): for every input the call returns true and leaves what it was given as it was: numbers and texts that stand one behind the other are read one behind the other, and no number's bytes begin with another one's (WirePairs). Condition: the table of halves holds what the program's text lays (the card ties it). -/
import Derived.Test.YtmoammadibepkaaDoorWireLaid
namespace Go.Proofs.YtmoammadibepkaaDoor.Wirey
open Go.ChangeShapes Go.WideShapes Go.ChangeAt Go.RowKit Go.ChangeMaps

theorem nat_of {n : Int} (h : (Lit.int .u64 n).wf = true) : ∃ k : Nat, n = (k : Int) ∧ k < 18446744073709551616 := by
  have := bounds_u64 h
  exact ⟨n.toNat, by omega, by omega⟩
theorem Kp.free {S : Nat → Prop} {w w' : World} (h : Kp S w w') {p : Addr} {u : Value} (hc : w.cell? p = some u) (hS : ¬ S p.block) : w'.frozen? p = w.frozen? p :=
  World.frozen?_of_block (w := w) (h.block p.block (World.block_lt_of_cell? w _ hc) hS)
theorem set_far {w : World} {b c i : Nat} {u x : Value} (h : w.cell? ⟨b, i, none⟩ = some x) (hne : b ≠ c) : (w.setCell ⟨c, 0, none⟩ u).cell? ⟨b, i, none⟩ = some x := by
  rw [World.cell?_setCell_other _ _ _ _ (by intro e; injection e with e1 e2; omega)]; exact h
theorem rs_far {w : World} {R O c : Nat} {l : List UInt8} {u : Value} (h : RS w R O l) (hR : c ≠ R) (hO : c ≠ O) : RS (w.setCell ⟨c, 0, none⟩ u) R O l := ⟨h.rd.far (fun e => hR e.symm) _, h.of.far (fun e => hO e.symm) _⟩

set_option maxHeartbeats 4000000 in
theorem take_pairs {R O X U Y : Nat} {a b : Nat} {L : List UInt8} {x u y : Value} (ha : a < 18446744073709551616) (hb : b < 18446744073709551616) (hL : L.length ≤ 300) (w : World) (h : RS w R O (enc a ++ (txt L ++ enc b)))
    (hX : w.cell? ⟨X, 0, none⟩ = some x) (hXf : w.frozen? ⟨X, 0, none⟩ = false) (hU : w.cell? ⟨U, 0, none⟩ = some u) (hUf : w.frozen? ⟨U, 0, none⟩ = false) (hY : w.cell? ⟨Y, 0, none⟩ = some y) (hYf : w.frozen? ⟨Y, 0, none⟩ = false)
    (hXR : X ≠ R) (hXO : X ≠ O) (hUR : U ≠ R) (hUO : U ≠ O) (hYR : Y ≠ R) (hYO : Y ≠ O) (hXU : X ≠ U) (hXY : X ≠ Y) (hUY : U ≠ Y) :
    Calls Tryd.prog 41 #[.pointer (some ⟨R, 0, none⟩), .pointer (some ⟨X, 0, none⟩), .pointer (some ⟨U, 0, none⟩), .pointer (some ⟨Y, 0, none⟩)] w fun e w2 =>
      e = .returned (.tuple #[]) ∧ RS w2 R O [] ∧ Kp (fun j => j = R ∨ j = O ∨ (j = X ∨ j = U ∨ j = Y)) w w2 ∧
        (w2.cell? ⟨X, 0, none⟩ = some (.int .u64 (a : Int)) ∧ w2.cell? ⟨U, 0, none⟩ = some (.string (str L)) ∧ w2.cell? ⟨Y, 0, none⟩ = some (.int .u64 (b : Int))) := by
  have hla := (enc_len ha).2
  have hlb := (enc_len hb).2
  have hlt := txt_len L (by omega)
  have HR1 := Lib.hid (numR_enc ha (txt L ++ enc b))
  have HR2 : Hid (numR (txt L ++ enc b) = (L.length, (enc L.length).length, 0)) := by
    have := numR_enc (n := L.length) (by omega) (L ++ enc b)
    unfold txt; rw [List.append_assoc]; exact this
  have HR3 : Hid (numR (enc b) = (b, (enc b).length, 0)) := by have := numR_enc hb []; rw [List.append_nil] at this; exact this
  have D1 : Hid ((enc a ++ (txt L ++ enc b)).drop (enc a).length = txt L ++ enc b) := by show _ = _; simp
  have D2 : Hid ((txt L ++ enc b).drop ((enc L.length).length + L.length) = enc b) := by
    show _ = _
    have : (enc L.length).length + L.length = (txt L).length := by unfold txt; simp
    rw [this]; simp
  have D3 : Hid (((txt L ++ enc b).drop (enc L.length).length).take L.length = L) := by
    show _ = _
    unfold txt; simp
  go_enter Tryd.func41, Tryd.ntmps41
  go_wp2_with fail
  refine (num_ok 18446744073709551615 HR1.out (by omega) (by rw [List.length_append, List.length_append]; omega) _ h).mono ?_
  rintro e w1 ⟨rfl, hk1, hr1⟩
  rw [D1.out] at hr1
  have x1 := hk1.cell hX hXR hXO
  have xf1 := (hk1.free hX hXR hXO).trans hXf
  have u1 := hk1.cell hU hUR hUO
  have uf1 := (hk1.free hU hUR hUO).trans hUf
  have y1 := hk1.cell hY hYR hYO
  have yf1 := (hk1.free hY hYR hYO).trans hYf
  go_wp2_with fail
  have k2 : Kp (fun j => j = R ∨ j = O ∨ (j = X ∨ j = U ∨ j = Y)) w (w1.setCell ⟨X, 0, none⟩ (.int .u64 (a : Int))) := (Kp.of_kept hk1 (.inl rfl) (.inr (.inl rfl))).set (.inr (.inr (.inl rfl))) _
  have hr2 := rs_far (u := .int .u64 (a : Int)) hr1 hXR hXO
  have x2 : (w1.setCell ⟨X, 0, none⟩ (.int .u64 (a : Int))).cell? ⟨X, 0, none⟩ = some (.int .u64 (a : Int)) := World.cell?_setCell_same _ _ _ x1
  have u2 := set_far (u := .int .u64 (a : Int)) u1 (fun e => hXU e.symm)
  have y2 := set_far (u := .int .u64 (a : Int)) y1 (fun e => hXY e.symm)
  have uf2 : (w1.setCell ⟨X, 0, none⟩ (.int .u64 (a : Int))).frozen? ⟨U, 0, none⟩ = false := by rw [World.frozen?_setCell]; exact uf1
  have yf2 : (w1.setCell ⟨X, 0, none⟩ (.int .u64 (a : Int))).frozen? ⟨Y, 0, none⟩ = false := by rw [World.frozen?_setCell]; exact yf1
  clear x1 xf1 u1 uf1 y1 yf1 hk1 hr1
  generalize w1.setCell ⟨X, 0, none⟩ (.int .u64 (a : Int)) = v2 at k2 hr2 x2 u2 y2 uf2 yf2 ⊢
  refine (rtext_ok 300 (by omega) HR2.out hL (by unfold txt; simp) (by rw [List.length_append]; omega) _ hr2).mono ?_
  rintro e w3 ⟨rfl, hk3, hr3⟩
  rw [D2.out] at hr3
  rw [D3.out]
  have x3 := hk3.cell x2 hXR hXO
  have u3 := hk3.cell u2 hUR hUO
  have uf3 := (hk3.free u2 hUR hUO).trans uf2
  have y3 := hk3.cell y2 hYR hYO
  have yf3 := (hk3.free y2 hYR hYO).trans yf2
  go_wp2_with fail
  have k4 := (k2.trans (Kp.of_kept hk3 (.inl rfl) (.inr (.inl rfl)))).set (p := ⟨U, 0, none⟩) (.inr (.inr (.inr (.inl rfl)))) (.string (str L))
  have hr4 := rs_far (u := .string (str L)) hr3 hUR hUO
  have u4 : (w3.setCell ⟨U, 0, none⟩ (.string (str L))).cell? ⟨U, 0, none⟩ = some (.string (str L)) := World.cell?_setCell_same _ _ _ u3
  have x4 := set_far (u := .string (str L)) x3 hXU
  have y4 := set_far (u := .string (str L)) y3 (fun e => hUY e.symm)
  have yf4 : (w3.setCell ⟨U, 0, none⟩ (.string (str L))).frozen? ⟨Y, 0, none⟩ = false := by rw [World.frozen?_setCell]; exact yf3
  clear x3 u3 uf3 y3 yf3 x2 u2 y2 uf2 yf2 hk3 hr3 k2 hr2
  generalize w3.setCell ⟨U, 0, none⟩ (.string (str L)) = v4 at k4 hr4 x4 u4 y4 yf4 ⊢
  refine (num_ok 18446744073709551615 HR3.out (by omega) (by omega) _ hr4).mono ?_
  rintro e w5 ⟨rfl, hk5, hr5⟩
  rw [List.drop_of_length_le (Nat.le_refl _)] at hr5
  have x5 := hk5.cell x4 hXR hXO
  have u5 := hk5.cell u4 hUR hUO
  have y5 := hk5.cell y4 hYR hYO
  have yf5 := (hk5.free y4 hYR hYO).trans yf4
  go_wp2_with fail
  go_end0
  exact ⟨rfl, rs_far hr5 hYR hYO, (k4.trans (Kp.of_kept hk5 (.inl rfl) (.inr (.inl rfl)))).set (.inr (.inr (.inr (.inr rfl)))) _, set_far x5 hXY, set_far u5 hUY, World.cell?_setCell_same _ _ _ y5⟩

theorem three_start (w : World) (t1 t2 t3 : TypeId) (c1 c2 c3 : Array Value) :
    Below w.heap.size w (((w.alloc (.cells c1 t1)).alloc (.cells c2 t2)).alloc (.cells c3 t3)) ∧ Blk (((w.alloc (.cells c1 t1)).alloc (.cells c2 t2)).alloc (.cells c3 t3)) w.heap.size t1 c1 ∧
    Blk (((w.alloc (.cells c1 t1)).alloc (.cells c2 t2)).alloc (.cells c3 t3)) (w.heap.size + 1) t2 c2 ∧ Blk (((w.alloc (.cells c1 t1)).alloc (.cells c2 t2)).alloc (.cells c3 t3)) (w.heap.size + 1 + 1) t3 c3 ∧
    (((w.alloc (.cells c1 t1)).alloc (.cells c2 t2)).alloc (.cells c3 t3)).heap.size = w.heap.size + 3 := by
  have s1 : ∀ (v : World) (o : Obj), (v.alloc o).heap.size = v.heap.size + 1 := fun v o => by show (v.heap.push o).size = _; simp
  obtain ⟨h1, b1, b2, hs⟩ := two_start w t1 t2 c1 c2
  refine ⟨h1.alloc h1.size _, b1.alloc _, b2.alloc _, ?_, by rw [s1, hs]⟩
  have := Blk.new ((w.alloc (.cells c1 t1)).alloc (.cells c2 t2)) t3 c3
  rw [hs] at this; exact this
theorem pre_ne {a b : Nat} (ha : a < 18446744073709551616) (hb : b < 18446744073709551616) (hne : a ≠ b) : ((enc b).take (enc a).length == enc a) = false := by
  rw [beq_eq_false_iff_ne]
  intro h
  have h2 := List.take_append_drop (enc a).length (enc b)
  rw [h] at h2
  exact hne (enc_pre ha hb h2.symm)
theorem enters_pairs : ∀ (args : Array Value) (w : World), (callFunc 41 args).run Tryd.prog w = .ok (.enter 41 args) w := fun _ _ => by kernel_rfl
set_option maxHeartbeats 4000000 in
theorem wirePairs_walk (a0 : Int) (w0 : (Lit.int .u64 a0).wf = true) (a1 : Int) (w1 : (Lit.int .u64 a1).wf = true) (a2 : ByteArray) (w2 : a2.size ≤ maxLen) (w : World) (hT : Halves w) :
    Calls Tryd.prog 10 #[.int .u64 a0, .int .u64 a1, .string a2] w fun e w' => e = .returned (.bool true) ∧ Below w.heap.size w w' := by
  obtain ⟨a, rfl, ha⟩ := nat_of w0
  obtain ⟨b, rfl, hb⟩ := nat_of w1
  obtain ⟨l, rfl⟩ : ∃ l, a2 = str l := ⟨_, str_of a2⟩
  rw [str_size] at w2
  have hsz := str_size
  have htl := toList_str
  have hcat := str_cat
  have HT := Lib.hid hT
  have hle := fewL_le l
  have hla := (enc_len ha).2
  have hlb := (enc_len hb).2
  have hlt := txt_len (fewL l) (by omega)
  have hmf : ∀ (fn : Fn) (first cap : Array Value) (w : World), (Instr.makeFunc fn first cap).run Tryd.prog w = .ok (.func fn first cap) w := fun _ _ _ _ => rfl
  clear hT
  go_enter Tryd.func10, Tryd.ntmps10
  go_wp2_with fail
  refine (few_c l w2 _).mono ?_
  rintro e w' ⟨rfl, rfl⟩
  go_wp2_with fail
  obtain ⟨h1, b0, b1, b2, hs⟩ := three_start w 22 22 9 #[.int .u64 0] #[.int .u64 0] #[.string ⟨#[]⟩]
  generalize (((w.alloc (.cells #[.int .u64 0] 22)).alloc (.cells #[.int .u64 0] 22)).alloc (.cells #[.string ⟨#[]⟩] 9)) = v1 at h1 b0 b1 b2 hs ⊢
  refine (num_c a ha _).mono ?_
  rintro e v2 ⟨rfl, hb2⟩
  go_wp2_with fail
  refine (text_c _ (by omega) _).mono ?_
  rintro e v3 ⟨rfl, hb3⟩
  go_wp2_with fail
  refine (num_c b hb _).mono ?_
  rintro e v4 ⟨rfl, hb4⟩
  go_wp2_with fail
  have hb14 : Below v1.heap.size v1 v4 := (hb2.trans (hb3.mono hb2.size)).trans (hb4.mono (Nat.le_trans hb2.size hb3.size))
  have c0 := b0.below hb14 b0.lt
  have c1 := b1.below hb14 b1.lt
  have c2 := b2.below hb14 b2.lt
  have h14 : Below w.heap.size w v4 := h1.trans (hb14.mono h1.size)
  have hs4 : w.heap.size + 3 ≤ v4.heap.size := by have := hb14.size; omega
  clear hb2 hb3 hb4 hb14 b0 b1 b2 h1 hs
  refine (read_ok _ enters_pairs #[.pointer (some ⟨w.heap.size, 0, none⟩), .pointer (some ⟨w.heap.size + 1 + 1, 0, none⟩), .pointer (some ⟨w.heap.size + 1, 0, none⟩)] _ [] v4 (fun j => j = w.heap.size ∨ j = w.heap.size + 1 + 1 ∨ j = w.heap.size + 1)
    (fun v => v.cell? ⟨w.heap.size, 0, none⟩ = some (.int .u64 (a : Int)) ∧ v.cell? ⟨w.heap.size + 1 + 1, 0, none⟩ = some (.string (str (fewL l))) ∧ v.cell? ⟨w.heap.size + 1, 0, none⟩ = some (.int .u64 (b : Int)))
    (fun j hj => by omega) (fun w2 w3 h hb => ⟨cell_keep (by show w.heap.size < _; omega) h.1 hb, cell_keep (by show w.heap.size + 1 + 1 < _; omega) h.2.1 hb, cell_keep (by show w.heap.size + 1 < _; omega) h.2.2 hb⟩) ?_).mono ?_
  · intro R O u2 hr hbu hR hO
    have d0 := c0.below hbu (by omega)
    have d1 := c1.below hbu (by omega)
    have d2 := c2.below hbu (by omega)
    refine take_pairs ha hb hle u2 ?_ (d0.cell 0) (d0.free 0) (d2.cell 0) (d2.free 0) (d1.cell 0) (d1.free 0) (by omega) (by omega) (by omega) (by omega) (by omega) (by omega) (by omega) (by omega) (by omega)
    simpa only [List.append_assoc] using hr
  rintro e v5 ⟨rfl, hk5, q1, q2, q3⟩
  have h15 : Below w.heap.size w v5 := hk5.below h14 (fun j hj => by omega)
  have hs5 : w.heap.size + 3 ≤ v5.heap.size := by have := hk5.size; omega
  rw [endE_nil]
  clear hk5 c0 c1 c2 h14 hs4
  go_wp2_with fail
  refine (num_c a ha _).mono ?_
  rintro e v6 ⟨rfl, hb6⟩
  go_wp2_with fail
  refine (num_c b hb _).mono ?_
  rintro e v7 ⟨rfl, hb7⟩
  have h17 : Below w.heap.size w v7 := (h15.trans (hb6.mono h15.size)).trans (hb7.mono (Nat.le_trans h15.size hb6.size))
  go_wp2_with fail
  refine (awake_c _ (HT.out.below h17 HT.out.lt)).mono ?_
  rintro e v8 ⟨rfl, hb8⟩
  have r1 := cell_keep (by show w.heap.size < v7.heap.size; have := hb6.size; have := hb7.size; omega) (cell_keep (by show w.heap.size < v6.heap.size; have := hb6.size; omega) (cell_keep (by show w.heap.size < v5.heap.size; omega) q1 hb6) hb7) hb8
  have r2 := cell_keep (by show w.heap.size + 1 + 1 < v7.heap.size; have := hb6.size; have := hb7.size; omega) (cell_keep (by show w.heap.size + 1 + 1 < v6.heap.size; have := hb6.size; omega) (cell_keep (by show w.heap.size + 1 + 1 < v5.heap.size; omega) q2 hb6) hb7) hb8
  have r3 := cell_keep (by show w.heap.size + 1 < v7.heap.size; have := hb6.size; have := hb7.size; omega) (cell_keep (by show w.heap.size + 1 < v6.heap.size; have := hb6.size; omega) (cell_keep (by show w.heap.size + 1 < v5.heap.size; omega) q3 hb6) hb7) hb8
  have h18 : Below w.heap.size w v8 := h17.trans (hb8.mono h17.size)
  clear q1 q2 q3 hs5 hb6 hb7 hb8 h15 h17
  by_cases hab : a = b
  · have hab1 : ((a : Int) == (b : Int)) = true := by rw [beq_iff_eq]; omega
    clear hab
    go_wp2_with fail
    go_ret
    exact ⟨by simp, h18⟩
  · have hab1 : ((a : Int) == (b : Int)) = false := by rw [beq_eq_false_iff_ne]; omega
    have hpn := pre_ne ha hb hab
    have hx := str_take (enc b) (enc a).length
    clear hab
    by_cases hln : (enc b).length < (enc a).length
    · go_wp2_with fail
      go_ret
      exact ⟨by simp, h18⟩
    · go_wp2_with fail
      go_ret
      exact ⟨by simp, h18⟩
set_option linter.unusedVariables false in
set_option maxRecDepth 100000 in
theorem wirePairs_lifted (os : Os) (started : os.Started) (H : Type) (enc : TypeId × Value → H) :
    ReturnsInHanded {} Tryd.checked os 10 .any (fun w args => (Rows.wirePairsSpec.pre enc Tryd.prog Tryd.f10 [] false w args ∧ laidMetH Tryd.prog laidAll w) ∧ sizedMet enc Tryd.prog Tryd.f10 (OpenSpec.ofChange Rows.wirePairsSpec) false w args) (Rows.wirePairsSpec.post enc Tryd.prog Tryd.f10 false true false false) := by
  refine returnsInHanded_of_change_and (C := Tryd.checked) (X := fun w _ => laidMetH Tryd.prog laidAll w) (fun _ _ _ hh h => h.of_heap hh) Kit.own started (by kernel_rfl) Tryd.func10
    (ChangeSpec.witness_shaped (enc := enc) (C := Tryd.checked) (os := os) (X := fun w _ => laidMetH Tryd.prog laidAll w) false (World.doorLaid Tryd.prog 400 os) #[.int .u64 0, .int .u64 0, .string ⟨#[]⟩] 8 rfl (World.shaped_of_RefB (by kernel_rfl) (by kernel_rfl)) (by kernel_rfl) (by kernel_rfl) (by kernel_rfl) (door_met os _)) ?_
  intro W base args ds gs before hval0 hW _ _ hL _
  have hval : ∀ (j : Nat) t v, Tryd.f10.params[j]? = some t → args[j]? = some v → Value.okWide Tryd.prog W .any base t v := hval0
  have hW' := hW
  obtain ⟨p, q, hA0, hV, rfl, hfz, hnd⟩ := hW
  have hA : DataW.TrodAll enc Tryd.prog W 0 (fun _ => true) true Tryd.f10.params.toList args.toList ds p := hA0
  rw [Tryd.params10] at hA hval
  obtain ⟨v0, vs0, d0, ds0, p0, q0, hargs, rfl, rfl, h0, r0⟩ := trodAll_cons hA
  obtain ⟨v1, vs1, d1, ds1, p1, q1, rfl, rfl, rfl, h1, r1⟩ := trodAll_cons r0
  obtain ⟨v2, vs2, d2, ds2, p2, q2, rfl, rfl, rfl, h2, r2⟩ := trodAll_cons r1
  obtain ⟨rfl, rfl, rfl⟩ := trodAll_nil r2
  obtain ⟨rfl, rfl⟩ := trodVars_none hV
  obtain rfl : args = #[v0, v1, v2] := by cases args; simp_all
  obtain ⟨a0, rfl, rfl, rfl, w0⟩ := open_int Tryd.underlying22 (hval 0 22 v0 rfl rfl) h0
  obtain ⟨a1, rfl, rfl, rfl, w1⟩ := open_int Tryd.underlying22 (hval 1 22 v1 rfl rfl) h1
  obtain ⟨a2, rfl, rfl, rfl, w2⟩ := open_string Tryd.underlying9 (hval 2 9 v2 rfl rfl) h2
  clear hA0 hval0
  refine (wirePairs_walk a0 w0 a1 w1 a2 w2 W (halves_of hL)).mono fun e W' ⟨he, hg⟩ => ?_
  subst he
  exact ⟨_, rfl, Kit.law_post hW' rfl (by kernel_rfl) rfl (by kernel_rfl) hg⟩

theorem wirePairs_holds : Rows.WirePairsSaid :=
  OpenClaim.holds_of_wide 10 Tryd.f10 rfl rfl rfl rfl rfl rfl rfl ⟨rfl, rfl, rfl, rfl, rfl⟩ rfl rfl rfl rfl rfl (by kernel_rfl) Tryd.func10 (by kernel_rfl)
    (of_decide_eq_true (by kernel_rfl)) (by unfold Func.isWrapper; first | (rw [if_pos (by decide +kernel)]; kernel_rfl) | (rw [if_neg (by decide +kernel)]; exact ⟨rfl, rfl⟩))
    (fun os started H enc _ => wirePairs_lifted os started H enc)

theorem wirePairs_card : Rows.WirePairsCardSaid :=
  Claim7.holds_tied_plain_at .later [] Rows.wirePairsCard.laidKinds true Rows.wirePairsCard.stood.harness Rows.wirePairsCard.stood.looks
    wirePairs_holds (fun _ h => by cases h) (by kernel_rfl) (fun _ h => by cases h) wirePairs_row_tie rfl ⟨rfl, rfl⟩ (by kernel_rfl) rfl
    (fun f fn hf hfn => by
      obtain rfl : f = 10 := Option.some.inj ((show Tryd.prog.funcNamed "hawthorn/hawthornlaw03.WirePairs" = some 10 by kernel_rfl).symm.trans hf) |>.symm
      obtain rfl : fn = Tryd.f10 := (Option.some.inj (Tryd.func10.symm.trans hfn)).symm
      exact ⟨by kernel_rfl, fun j t ht => by
        rw [Tryd.params10] at ht
        have hm : t ∈ [22, 22, 9] := by simpa using Array.mem_of_getElem? ht
        have hall : ([22, 22, 9].all fun u => !Tryd.prog.wantsStandIn u) = true := by kernel_rfl
        exact (show Tryd.prog.wantsStandIn t = false by simpa using List.all_eq_true.1 hall t hm)⟩)
    (by kernel_rfl)

end Go.Proofs.YtmoammadibepkaaDoor.Wirey
