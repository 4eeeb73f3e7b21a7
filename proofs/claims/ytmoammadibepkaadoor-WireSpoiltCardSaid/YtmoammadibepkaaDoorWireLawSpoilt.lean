/- Layer 3 (wire): for every input the call returns true and leaves what it was given as it was: a frame of which one byte is another one is never opened (WireSpoilt). Condition: the table of halves holds what the program's text lays (the card ties it). -/
import Derived.Test.YtmoammadibepkaaDoorWireLaid
import Derived.Test.YtmoammadibepkaaDoorWireSpoil
namespace Go.Proofs.YtmoammadibepkaaDoor.Wirey
open Go.ChangeShapes Go.WideShapes Go.ChangeAt Go.RowKit Go.ChangeMaps

theorem addr_add (g j : Nat) : (⟨g, 0, none⟩ : Addr).add j = ⟨g, j, none⟩ := by unfold Addr.add; by_cases h : j = 0 <;> simp [h]
/-- '[]byte(f)'. -/
theorem bytes_of (w : World) (f : List UInt8) : ∃ (cap : Nat) (w1 : World), (convert 9 49 (.string (str f))).run Tryd.prog w = .ok (.slice (some ⟨w.heap.size, 0, none⟩) f.length cap) w1 ∧ Below w.heap.size w w1 ∧
    (∀ j (hj : j < f.length), w1.cell? ⟨w.heap.size, j, none⟩ = some (.int .u8 (f[j].toNat : Int))) ∧ (∀ j, j < f.length → w1.frozen? ⟨w.heap.size, j, none⟩ = false) := by
  have h := run_bytes_of_string (P := Tryd.prog) w 9 49 5 (str f) Tryd.underlying9 Tryd.underlying49 Tryd.underlying5
  rw [str_size] at h
  refine ⟨_, _, h, (Below.refl _ w).drew.alloc (Nat.le_refl _) _, fun j hj => ?_, fun j hj => ?_⟩
  · have hb : ((w.drew.alloc (.cells (bytesRow (str f) (grownCap w f.length 0 5)) 5 ((bytesRow (str f) (grownCap w f.length 0 5)).size, (bytesRow (str f) (grownCap w f.length 0 5)).size + 1))).heap[w.heap.size]?) = some (.cells (bytesRow (str f) (grownCap w f.length 0 5)) 5 ((bytesRow (str f) (grownCap w f.length 0 5)).size, (bytesRow (str f) (grownCap w f.length 0 5)).size + 1)) := by
      show (w.heap.push _)[w.heap.size]? = _
      simp
    rw [cell_of_row _ _ _ _ _ _ hb]
    unfold bytesRow
    rw [Array.getElem?_append_left (by simp [str]; exact hj)]
    simp [str, hj]
  · have := World.frozen?_alloc_mark w.drew (bytesRow (str f) (grownCap w f.length 0 5)) 5 (bytesRow (str f) (grownCap w f.length 0 5)).size ((bytesRow (str f) (grownCap w f.length 0 5)).size + 1) j
    rw [show w.heap.size = w.drew.heap.size from rfl, this]
    have hs : f.length ≤ (bytesRow (str f) (grownCap w f.length 0 5)).size := by unfold bytesRow; rw [Array.size_append, Array.size_map]; simp [str]
    simp; omega
/-- 'string(b)' behind 'b[k] = x'. -/
theorem back_of (w1 : World) (g cap k : Nat) (f : List UInt8) (hk : k < f.length) (x : UInt8) (hc : ∀ j (hj : j < f.length), w1.cell? ⟨g, j, none⟩ = some (.int .u8 (f[j].toNat : Int))) :
    (convert 49 9 (.slice (some ⟨g, 0, none⟩) f.length cap)).run Tryd.prog (w1.setCell ⟨g, k, none⟩ (.int .u8 (x.toNat : Int))) = .ok (.string (str (f.set k x))) (w1.setCell ⟨g, k, none⟩ (.int .u8 (x.toNat : Int))) := by
  have h := run_convert_bytes_back (P := Tryd.prog) (w1.setCell ⟨g, k, none⟩ (.int .u8 (x.toNat : Int))) 49 9 5 ⟨g, 0, none⟩ cap (f.set k x) Tryd.underlying49 Tryd.underlying5 Tryd.underlying9 (fun j hj => by
    rw [addr_add]
    have hj' : j < f.length := by simpa using hj
    by_cases e : j = k
    · subst e
      rw [World.cell?_setCell_same _ _ _ (hc j hj'), List.getElem_set_self]
    · rw [World.cell?_setCell_other _ _ _ _ (by intro h; injection h with h1 h2; exact e h2.symm), hc j hj', List.getElem_set_ne (fun h => e h.symm)])
  rw [List.length_set] at h
  exact h

/-- A byte in which some bits are turned. -/
def turned (c : UInt8) (m : Nat) : UInt8 := UInt8.ofNat (c.toNat ^^^ m)
theorem turned_int (c : UInt8) (a : Int) (h0 : 0 ≤ a) (h1 : a ≤ 255) : bits .xor .u8 (c.toNat : Int) a = ((turned c a.toNat).toNat : Int) := by
  have hc := c.toNat_lt
  have hx : c.toNat ^^^ a.toNat < 256 := Nat.xor_lt_two_pow (n := 8) (by omega) (by omega)
  have h := u8_xor_nat c.toNat a.toNat (by omega) (by omega)
  rw [Int.toNat_of_nonneg h0] at h
  rw [h]; unfold turned; rw [toNat_of hx]
theorem turned_ne (c : UInt8) (m : Nat) (h0 : m ≠ 0) (h1 : m < 256) : turned c m ≠ c := by
  intro h
  have hc := c.toNat_lt
  have hx : c.toNat ^^^ m < 256 := Nat.xor_lt_two_pow (n := 8) (by omega) (by omega)
  have e := congrArg UInt8.toNat h
  unfold turned at e
  rw [toNat_of hx] at e
  have := xor_cancel_l (c := c.toNat) (a := m) (b := 0) (by rw [e, Nat.xor_zero])
  exact h0 this
set_option maxHeartbeats 4000000 in
theorem wireSpoilt_walk (a0 : ByteArray) (w0 : a0.size ≤ maxLen) (a1 : Int) (_ : (Lit.int .i64 a1).wf = true) (a2 : Int) (w2 : (Lit.int .u8 a2).wf = true) (w : World) (hT : Halves w) :
    Calls Tryd.prog 8 #[.string a0, .int .i64 a1, .int .u8 a2] w fun e w' => e = .returned (.bool true) ∧ Below w.heap.size w w' := by
  obtain ⟨l, rfl⟩ : ∃ l, a0 = str l := ⟨_, str_of a0⟩
  rw [str_size] at w0
  have hsz := str_size
  have htl := toList_str
  have HT := Lib.hid hT
  have hle := fewL_le l
  have b2 := bounds_u8 w2
  have hfl := frm_len (fewL l)
  have hel := (enc_len (n := (fewL l).length) (by omega)).2
  have hn0 : 1 ≤ (frm (fewL l)).length := by omega
  have hn1 : (frm (fewL l)).length ≤ 400 := by omega
  have hn2 : (((frm (fewL l)).length : Int) == 0) = false := by rw [beq_eq_false_iff_ne]; omega
  clear hT hfl hel
  by_cases hb : a2 = 0
  · have hb1 : (a2 == 0) = true := by rw [beq_iff_eq]; exact hb
    clear hb
    go_enter Tryd.func8, Tryd.ntmps8
    go_wp2_with fail
    refine (few_c l w0 _).mono ?_
    rintro e w' ⟨rfl, rfl⟩
    go_wp2_with fail
    refine (frame_c _ (by omega) _ HT.out).mono ?_
    rintro e v1 ⟨rfl, hv1⟩
    go_wp2_with fail
    refine (awake_c _ (HT.out.below hv1 HT.out.lt)).mono ?_
    rintro e v2 ⟨rfl, hv2⟩
    have hv12 := hv1.trans (hv2.mono hv1.size)
    go_wp2_with fail
    refine (awake_c _ (HT.out.below hv12 HT.out.lt)).mono ?_
    rintro e v3 ⟨rfl, hv3⟩
    go_wp2_with fail
    go_ret
    exact ⟨rfl, hv12.trans (hv3.mono hv12.size)⟩
  · have hb1 : (a2 == 0) = false := by rw [beq_eq_false_iff_ne]; exact hb
    obtain ⟨f, hf⟩ : ∃ f, f = frm (fewL l) := ⟨_, rfl⟩
    have HF := Lib.hid hf
    rw [← hf] at hn0 hn1 hn2
    have htm : Int.tmod a1 (f.length : Int) < f.length ∧ -(f.length : Int) < Int.tmod a1 (f.length : Int) := by
      constructor
      · exact Int.tmod_lt_of_pos a1 (by omega)
      · have := Int.lt_tmod_of_pos a1 (b := (f.length : Int)) (by omega); exact this
    obtain ⟨r, hr⟩ : ∃ r, Int.tmod a1 (f.length : Int) = r := ⟨_, rfl⟩
    rw [hr] at htm
    obtain ⟨r1, r2⟩ := htm
    have hk1 : 0 ≤ (r + (f.length : Int)) % (f.length : Int) := Int.emod_nonneg _ (by omega)
    have hk2 : (r + (f.length : Int)) % (f.length : Int) < f.length := Int.emod_lt_of_pos _ (by omega)
    obtain ⟨k, hk⟩ : ∃ k : Nat, (r + (f.length : Int)) % (f.length : Int) = (k : Int) := ⟨_, (Int.toNat_of_nonneg hk1).symm⟩
    rw [hk] at hk1 hk2
    have hkl : k < f.length := by omega
    have hbn : a2.toNat ≠ 0 := by omega
    clear hf hb hk1 hk2
    go_enter Tryd.func8, Tryd.ntmps8
    go_wp2_with fail
    refine (few_c l w0 _).mono ?_
    rintro e w' ⟨rfl, rfl⟩
    go_wp2_with fail
    refine (frame_c _ (by omega) _ HT.out).mono ?_
    rintro e v1 ⟨rfl, hv1⟩
    rw [← HF.out]
    go_wp2_with fail
    refine (awake_c _ (HT.out.below hv1 HT.out.lt)).mono ?_
    rintro e v2 ⟨rfl, hv2⟩
    have hv12 := hv1.trans (hv2.mono hv1.size)
    obtain ⟨cap, v3, hcv, hv3, hcell, hfz⟩ := bytes_of v2 f
    have hck := hcell k hkl
    have hfk := hfz k hkl
    have HCELL := Lib.hid hcell
    have hv13 := hv12.trans (hv3.mono hv12.size)
    have hx := turned_int f[k] a2 b2.1 b2.2
    have hbk := back_of v3 v2.heap.size cap k f hkl (turned f[k] a2.toNat) hcell
    have HSP : Hid (∃ e, e ≠ 0 ∧ openR (f.set k (turned f[k] a2.toNat)) = ([], e)) := by
      have h := HF.out
      subst h
      exact spoilt (fewL l) k hkl _ (turned_ne _ _ hbn (by omega))
    have hv14 : Below w.heap.size w (v3.setCell ⟨v2.heap.size, k, none⟩ (.int .u8 ((turned f[k] a2.toNat).toNat : Int))) := hv13.setCell (p := ⟨v2.heap.size, k, none⟩) hv12.size _
    have hlen : (f.set k (turned f[k] a2.toNat)).length = f.length := List.length_set
    generalize turned f[k] a2.toNat = x at hx hbk HSP hv14 hlen
    clear hcell hfz HCELL hbn
    go_wp2_with fail
    clear hbk hcv hck hfk
    generalize v3.setCell ⟨v2.heap.size, k, none⟩ (.int .u8 (x.toNat : Int)) = v4 at hv14 ⊢
    refine (open_c _ (by rw [hlen]; omega) _ (HT.out.below hv14 HT.out.lt)).mono ?_
    rintro e v5 ⟨rfl, hv5⟩
    obtain ⟨e0, he0, ho⟩ := HSP.out
    rw [ho]
    have hn3 : ((e0 : Int) != 0) = true := by rw [bne_iff_ne]; omega
    clear ho he0 HSP
    go_wp2_with fail
    go_ret
    exact ⟨by simp, hv14.trans (hv5.mono hv14.size)⟩

set_option linter.unusedVariables false in
set_option maxRecDepth 100000 in
theorem wireSpoilt_lifted (os : Os) (started : os.Started) (H : Type) (enc : TypeId × Value → H) :
    ReturnsInHanded {} Tryd.checked os 8 .any (fun w args => (Rows.wireSpoiltSpec.pre enc Tryd.prog Tryd.f8 [] false w args ∧ laidMetH Tryd.prog laidAll w) ∧ sizedMet enc Tryd.prog Tryd.f8 (OpenSpec.ofChange Rows.wireSpoiltSpec) false w args) (Rows.wireSpoiltSpec.post enc Tryd.prog Tryd.f8 false true false false) := by
  refine returnsInHanded_of_change_and (C := Tryd.checked) (X := fun w _ => laidMetH Tryd.prog laidAll w) (fun _ _ _ hh h => h.of_heap hh) Kit.own started (by kernel_rfl) Tryd.func8
    (ChangeSpec.witness_shaped (enc := enc) (C := Tryd.checked) (os := os) (X := fun w _ => laidMetH Tryd.prog laidAll w) false (World.doorLaid Tryd.prog 400 os) #[.string ⟨#[]⟩, .int .i64 0, .int .u8 0] 8 rfl (World.shaped_of_RefB (by kernel_rfl) (by kernel_rfl)) (by kernel_rfl) (by kernel_rfl) (by kernel_rfl) (door_met os _)) ?_
  intro W base args ds gs before hval0 hW _ _ hL _
  have hval : ∀ (j : Nat) t v, Tryd.f8.params[j]? = some t → args[j]? = some v → Value.okWide Tryd.prog W .any base t v := hval0
  have hW' := hW
  obtain ⟨p, q, hA0, hV, rfl, hfz, hnd⟩ := hW
  have hA : DataW.TrodAll enc Tryd.prog W 0 (fun _ => true) true Tryd.f8.params.toList args.toList ds p := hA0
  rw [Tryd.params8] at hA hval
  obtain ⟨v0, vs0, d0, ds0, p0, q0, hargs, rfl, rfl, h0, r0⟩ := trodAll_cons hA
  obtain ⟨v1, vs1, d1, ds1, p1, q1, rfl, rfl, rfl, h1, r1⟩ := trodAll_cons r0
  obtain ⟨v2, vs2, d2, ds2, p2, q2, rfl, rfl, rfl, h2, r2⟩ := trodAll_cons r1
  obtain ⟨rfl, rfl, rfl⟩ := trodAll_nil r2
  obtain ⟨rfl, rfl⟩ := trodVars_none hV
  obtain rfl : args = #[v0, v1, v2] := by cases args; simp_all
  obtain ⟨a0, rfl, rfl, rfl, w0⟩ := open_string Tryd.underlying9 (hval 0 9 v0 rfl rfl) h0
  obtain ⟨a1, rfl, rfl, rfl, w1⟩ := open_int Tryd.underlying3 (hval 1 3 v1 rfl rfl) h1
  obtain ⟨a2, rfl, rfl, rfl, w2⟩ := open_int Tryd.underlying5 (hval 2 5 v2 rfl rfl) h2
  clear hA0 hval0
  refine (wireSpoilt_walk a0 w0 a1 w1 a2 w2 W (halves_of hL)).mono fun e W' ⟨he, hg⟩ => ?_
  subst he
  exact ⟨_, rfl, Kit.law_post hW' rfl (by kernel_rfl) rfl (by kernel_rfl) hg⟩

theorem wireSpoilt_holds : Rows.WireSpoiltSaid :=
  OpenClaim.holds_of_wide 8 Tryd.f8 rfl rfl rfl rfl rfl rfl rfl ⟨rfl, rfl, rfl, rfl, rfl⟩ rfl rfl rfl rfl rfl (by kernel_rfl) Tryd.func8 (by kernel_rfl)
    (of_decide_eq_true (by kernel_rfl)) (by unfold Func.isWrapper; first | (rw [if_pos (by decide +kernel)]; kernel_rfl) | (rw [if_neg (by decide +kernel)]; exact ⟨rfl, rfl⟩))
    (fun os started H enc _ => wireSpoilt_lifted os started H enc)

theorem wireSpoilt_card : Rows.WireSpoiltCardSaid :=
  Claim7.holds_tied_plain_at .later [] Rows.wireSpoiltCard.laidKinds true Rows.wireSpoiltCard.stood.harness Rows.wireSpoiltCard.stood.looks
    wireSpoilt_holds (fun _ h => by cases h) (by kernel_rfl) (fun _ h => by cases h) wireSpoilt_row_tie rfl ⟨rfl, rfl⟩ (by kernel_rfl) rfl
    (fun f fn hf hfn => by
      obtain rfl : f = 8 := Option.some.inj ((show Tryd.prog.funcNamed "hawthorn/hawthornlaw03.WireSpoilt" = some 8 by kernel_rfl).symm.trans hf) |>.symm
      obtain rfl : fn = Tryd.f8 := (Option.some.inj (Tryd.func8.symm.trans hfn)).symm
      exact ⟨by kernel_rfl, fun j t ht => by
        rw [Tryd.params8] at ht
        have hm : t ∈ [9, 3, 5] := by simpa using Array.mem_of_getElem? ht
        have hall : ([9, 3, 5].all fun u => !Tryd.prog.wantsStandIn u) = true := by kernel_rfl
        exact (show Tryd.prog.wantsStandIn t = false by simpa using List.all_eq_true.1 hall t hm)⟩)
    (by kernel_rfl)

end Go.Proofs.YtmoammadibepkaaDoor.Wirey
