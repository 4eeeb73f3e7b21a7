/- Contract of layer 4's program (blake): a block taken in, by value. Condition: the variables 'first', 'orders' and 'columns' hold what the program's text lays. -/
import Derived.Test.YteopkdmlcjndcaaDoorBlakeRound
import Derived.Laws.CopyRow
import Derived.Test.YteopkdmlcjndcaaDoorBlakeOrder
namespace Go.Proofs.YteopkdmlcjndcaaDoor.Wirey
open Go.ChangeShapes Go.WideShapes Go.ChangeAt Go.RowKit

def u64s (l : List Nat) : List Value := l.map fun (n : Nat) => Value.int .u64 (n : Int)
theorem u64s_at {l : List Nat} {i : Nat} (h : i < l.length) : (u64s l)[i]? = some (.int .u64 (nat_ l i : Int)) := by
  unfold u64s nat_
  rw [List.getElem?_map, List.getElem?_eq_getElem h, List.getD_eq_getElem?_getD, List.getElem?_eq_getElem h]; rfl
/-- The three variables hold what the program's text lays. -/
structure Glob (w : World) : Prop where
  first : Seen w 0 (u32s ivs)
  orders : Seen w 1 (u64s ordsN)
  columns : Seen w 2 colsL
theorem Glob.below {w w' : World} (h : Glob w) (hb : Below w.heap.size w w') : Glob w' := ⟨h.first.below hb h.first.lt, h.orders.below hb h.orders.lt, h.columns.below hb h.columns.lt⟩
set_option maxRecDepth 100000 in
theorem copy_arr {W : World} {g gs o dCap : Nat} {t : TypeId} {l x : List Nat} (hb : Blk W g t (u32s l).toArray) (hs : Seen W gs (u32s x)) (hx : x.length = 8) (ho : o + 8 ≤ l.length) :
    (Builtin.copy_ #[70, 70] 3 #[.slice (some ⟨g, o, none⟩) 8 dCap, .slice (some ⟨gs, 0, none⟩) 8 8]).run Tryd.prog W = .ok (.int .i64 8) (W.setRow g (u32s (l.take o ++ x ++ l.drop (o + 8))).toArray) := by
  have hl : (u32s x).length = 8 := by rw [u32s_len]; exact hx
  have h := run_copy_row (P := Tryd.prog) W 70 70 3 57 g o 8 dCap ⟨gs, 0, none⟩ 8 8 (u32s l).toArray t (u32s x) Tryd.underlying70 (by kernel_rfl) hb (by rw [hl]; rfl) hs.adds (by rw [hl, List.size_toArray, u32s_len]; exact ho) (u32s_one x)
  rw [hl] at h
  rw [h]
  congr 2
  rw [List.toList_toArray]
  unfold u32s
  rw [List.map_append, List.map_append, List.map_take, List.map_drop]
theorem not_xor (x : Nat) (h : x < 4294967296) : 4294967295 ^^^ x = 4294967295 - x := by
  have e : (BitVec.allOnes 32 ^^^ BitVec.ofNat 32 x).toNat = (~~~ BitVec.ofNat 32 x).toNat := by rw [BitVec.allOnes_xor]
  rw [BitVec.toNat_xor, BitVec.toNat_not, BitVec.toNat_allOnes, BitVec.toNat_ofNat, Nat.mod_eq_of_lt h] at e
  exact e
theorem not_bits (x : Nat) (h : x < 4294967296) : bits BinOp.xor IntKind.u32 IntKind.u32.max (x : Int) = 4294967295 - (x : Int) := by
  have e := u32_xor_nat 4294967295 x (by omega) h
  rw [not_xor x h] at e
  have e2 : ((4294967295 - x : Nat) : Int) = 4294967295 - (x : Int) := by omega
  rw [← e2, ← e]
  rfl
/-- A whole array, loaded in whatever world meets S. -/
theorem yields_arr {ops : Array Oper} {o : Oper} {a : Act} {S : World → Prop} (hgd : Region.wanted o (yielded ops a.tmps) = true) (ty : TypeId) (x : Operand) (ho : o.op = .load ty x) (g : Nat) (hx : a.eval x = .pointer (some ⟨g, 0, none⟩)) (vs : List Value) (n : Nat) (e : TypeId)
    (hg : ∀ u, S u → Row u g vs) (hu : Tryd.prog.underlying ty = some (.array n e)) (hi : (Tryd.prog.info? ty).map (·.size) = some vs.length) : YieldsIf Tryd.prog ops S o (.agg vs.toArray) a :=
  Or.inl ⟨hgd, fun u hS => by
    unfold execOp
    simp only [ho, hx, Instr.loadAt, Instr.sureAddr, Sem.run_bind, Sem.run_pure, Result.andThen_ok, load_arr ty n e (hg u hS).seen hu hi]⟩
/-- A block under way: what is handed in, the result's place, the sixteen words. -/
structure CS (w0 : World) (h m v : List Nat) (w : World) : Prop where
  hB : Below w0.heap.size w0 w
  hH : Blk w w0.heap.size 58 (u32s h).toArray
  hM : Blk w (w0.heap.size + 1) 60 (u32s m).toArray
  hR : Blk w (w0.heap.size + 2) 58 z8
  hV : Blk w (w0.heap.size + 3) 60 (u32s v).toArray
section
variable {w0 : World} {h m v : List Nat} {w : World}
theorem CS.draw (k : CS w0 h m v w) : CS w0 h m v w.drew := ⟨k.hB.drew, k.hH, k.hM, k.hR, k.hV⟩
theorem CS.put (k : CS w0 h m v w) (i x : Nat) : CS w0 h m (v.set i x) (w.setCell ⟨w0.heap.size + 3, i, none⟩ (.int .u32 (x : Int))) :=
  ⟨k.hB.setCell (by show w0.heap.size ≤ w0.heap.size + 3; omega) _, k.hH.far (by show w0.heap.size ≠ w0.heap.size + 3; omega) _, k.hM.far (by show w0.heap.size + 1 ≠ w0.heap.size + 3; omega) _, k.hR.far (by show w0.heap.size + 2 ≠ w0.heap.size + 3; omega) _, arr_put k.hV i x⟩
theorem CS.putH (k : CS w0 h m v w) (i x : Nat) : CS w0 (h.set i x) m v (w.setCell ⟨w0.heap.size, i, none⟩ (.int .u32 (x : Int))) :=
  ⟨k.hB.setCell (Nat.le_refl _) _, arr_put k.hH i x, k.hM.far (by show w0.heap.size + 1 ≠ w0.heap.size; omega) _, k.hR.far (by show w0.heap.size + 2 ≠ w0.heap.size; omega) _, k.hV.far (by show w0.heap.size + 3 ≠ w0.heap.size; omega) _⟩
theorem CS.lay (k : CS w0 h m v w) (v' : List Nat) : CS w0 h m v' (w.setRow (w0.heap.size + 3) (u32s v').toArray) :=
  ⟨below_setRow k.hB (by omega) _, k.hH.far_ (by omega) _, k.hM.far_ (by omega) _, k.hR.far_ (by omega) _, k.hV.set_⟩
theorem CS.below {w' : World} (k : CS w0 h m v w) (hb : Below w.heap.size w w') : CS w0 h m v w' :=
  ⟨k.hB.trans (hb.mono k.hB.size), k.hH.below hb k.hH.lt, k.hM.below hb k.hM.lt, k.hR.below hb k.hR.lt, k.hV.below hb k.hV.lt⟩
theorem CS.glob (k : CS w0 h m v w) (hG : Glob w0) : Glob w := hG.below k.hB
end
theorem new4 (w : World) (o1 o2 o3 o4 : Obj) : Below w.heap.size w ((((w.alloc o1).alloc o2).alloc o3).alloc o4) :=
  ((((Below.refl _ _).alloc (Nat.le_refl _) _).alloc (by simp) _).alloc (by simp only [World.size_alloc]; omega) _).alloc (by simp only [World.size_alloc]; omega) _
theorem blk_new {w : World} {n : Nat} (hn : w.heap.size = n) (t : TypeId) (cs : Array Value) : Blk (w.alloc (.cells cs t)) n t cs := hn ▸ Blk.new w t cs
theorem CS.new (w : World) (h m : List Nat) : CS w h m (List.replicate 16 0) ((((w.alloc (.cells (u32s h).toArray 58)).alloc (.cells (u32s m).toArray 60)).alloc (.cells z8 58)).alloc (.cells z16 60)) :=
  ⟨new4 w _ _ _ _, (((Blk.new w _ _).alloc _).alloc _).alloc _, ((blk_new (by simp) _ _).alloc _).alloc _, (blk_new (by simp) _ _).alloc _, blk_new (by simp) _ z16⟩
set_option maxHeartbeats 8000000 in
set_option maxRecDepth 100000 in
theorem compress_c {h m : List Nat} (hl : h.length = 8) (hm : m.length = 16) (hwh : Wd h) (many : Nat) (hmany : many < 18446744073709551616) (last : Bool) (w : World) (hG : Glob w) :
    Calls Tryd.prog 30 #[.agg (u32s h).toArray, .agg (u32s m).toArray, .int .u64 (many : Int), .bool last] w fun e w' => e = .returned (.agg (u32s (blk h m many last)).toArray) ∧ Below w.heap.size w w' := by
  go_enter Tryd.func30, Tryd.ntmps30
  go_upto_region 2 with fail
  have k0 := CS.new w h m
  change Code.wp _ _ _ _ ((((w.alloc (.cells (u32s h).toArray 58)).alloc (.cells (u32s m).toArray 60)).alloc (.cells z8 58)).alloc (.cells z16 60))
  generalize (((w.alloc (.cells (u32s h).toArray 58)).alloc (.cells (u32s m).toArray 60)).alloc (.cells z8 58)).alloc (.cells z16 60) = w1 at k0 ⊢
  simp only [Nat.add_assoc, Nat.reduceAdd]
  have hcp := copy_arr (o := 0) (dCap := 16) k0.draw.hV (Row.blk k0.draw.hH).seen hl (by simp)
  have k1 := k0.draw.lay ((List.replicate 16 0).take 0 ++ h ++ (List.replicate 16 0).drop (0 + 8))
  have e1 : (List.replicate 16 0).take 0 ++ h ++ (List.replicate 16 0).drop (0 + 8) = h ++ List.replicate 8 0 := by
    rw [List.take_zero, List.nil_append, List.drop_replicate]
  rw [e1] at hcp k1
  have e2 : (h ++ List.replicate 8 0).take 8 ++ ivs ++ (h ++ List.replicate 8 0).drop (8 + 8) = h ++ ivs := by
    rw [List.take_append_of_le_length (by omega), List.take_of_length_le (by omega), List.drop_of_length_le (by rw [List.length_append, List.length_replicate]; omega), List.append_nil]
  have e3 : (h ++ List.replicate 8 0).length = 16 := by rw [List.length_append, List.length_replicate, hl]
  generalize h ++ List.replicate 8 0 = l1 at hcp k1 e2 e3
  go_region
  clear hcp e1 k0
  generalize w1.drew.setRow (w.heap.size + 3) (u32s l1).toArray = w2 at k1 ⊢
  have hcp := copy_arr (o := 8) (dCap := 8) k1.draw.hV ((k1.glob hG).first.drew) rfl (by omega)
  have k2 := k1.draw.lay (l1.take 8 ++ ivs ++ l1.drop (8 + 8))
  rw [e2] at hcp k2
  go_upto_region 3 with fail
  go_region
  clear hcp e2 e3 k1
  generalize w2.drew.setRow (w.heap.size + 3) (u32s (h ++ ivs)).toArray = w3 at k2 ⊢
  have hlv : (h ++ ivs).length = 16 := by simp [ivs, hl]
  have hwv := app_wd hwh
  have hV := Row.blk k2.hV
  have c12 := hV.word (i := 12) (by omega)
  have f12 := hV.wfree (i := 12) (by omega)
  have hx12 : bits .xor .u32 (nat_ (h ++ ivs) 12 : Int) ((many : Int) % 4294967296) = ((nat_ (h ++ ivs) 12 ^^^ many % 4294967296 : Nat) : Int) := by
    rw [← u32_xor_nat _ _ (nat_lt hwv 12) (Nat.mod_lt _ (by omega))]; simp
  have k3 := Lib.hid (k2.put 12 (nat_ (h ++ ivs) 12 ^^^ many % 4294967296))
  go_upto_region 5 with fail
  replace k3 : CS w h m (s12 h many) _ := k3.out
  generalize w3.setCell ⟨w.heap.size + 3, 12, none⟩ (.int .u32 ((nat_ (h ++ ivs) 12 ^^^ many % 4294967296 : Nat) : Int)) = w4 at k3 ⊢
  clear k2 hV c12 f12 hx12 hwv
  have hl12 : (s12 h many).length = 16 := by unfold s12; rw [List.length_set]; exact hlv
  have hw12 : Wd (s12 h many) := s12_wd hwh
  have hV := Row.blk k3.hV
  have c13 := hV.word (i := 13) (by omega)
  have f13 := hV.wfree (i := 13) (by omega)
  have hx13 : bits .xor .u32 (nat_ (s12 h many) 13 : Int) ((many : Int) / 4294967296) = ((nat_ (s12 h many) 13 ^^^ many / 4294967296 : Nat) : Int) := by
    rw [← u32_xor_nat _ _ (nat_lt hw12 13) (by omega)]; simp
  have k4 := Lib.hid (k3.put 13 (nat_ (s12 h many) 13 ^^^ many / 4294967296))
  go_upto_if 31 with fail
  replace k4 : CS w h m (s13 h many) _ := k4.out
  generalize w4.setCell ⟨w.heap.size + 3, 13, none⟩ (.int .u32 ((nat_ (s12 h many) 13 ^^^ many / 4294967296 : Nat) : Int)) = w5 at k4 ⊢
  clear k3 hV c13 f13 hx13
  go_cut [4] from 31 to 35 (fun s4 wc => s4 = .pointer (some ⟨w.heap.size, 0, none⟩) ∧ CS w h m (s14 h many last) wc)
  case first =>
    cases last
    · go_wp2_with fail
      go_meet
      exact ⟨rfl, k4⟩
    · have hl13 : (s13 h many).length = 16 := by unfold s13; rw [List.length_set]; exact hl12
      have hw13 := nat_lt (s13_wd (many := many) hwh hmany) 14
      have hV := Row.blk k4.hV
      have c14 := hV.word (i := 14) (by omega)
      have f14 := hV.wfree (i := 14) (by omega)
      have e14 : ((4294967295 - nat_ (s13 h many) 14 : Nat) : Int) = 4294967295 - (nat_ (s13 h many) 14 : Int) := by omega
      have k5 := k4.put 14 (4294967295 - nat_ (s13 h many) 14)
      rw [e14] at k5
      have hnx := not_bits _ hw13
      have K5 := Lib.hid k5
      clear k5 e14 k4 hV
      go_wp2_with fail
      go_meet
      exact ⟨rfl, K5.out⟩
  case rest =>
    obtain ⟨rfl, k5⟩ := hcut
    clear k4 hw12 hl12 hlv
    have hst : (s14 h many last).length = 16 := s14_len many last hl
    have hws : Wd (s14 h many last) := s14_wd last hwh hmany
    obtain ⟨st, HST⟩ : ∃ st, Hid (st = s14 h many last) := ⟨_, Lib.hid rfl⟩
    rw [← HST.out] at k5 hst hws
    go_upto_region 9 with fail
    go_loopw [36] (fun iv wr => ∃ r : Nat, r ≤ 10 ∧ iv = .int .i64 r ∧ CS w h m (mixes m st (8 * r)) wr) (fun iv _ => 10 - (intOf iv).toNat)
    case atStart => exact ⟨0, by omega, rfl, k5⟩
    case round =>
      clear k5
      obtain ⟨r, hr, rfl, hk⟩ := hrel
      by_cases hrlt : r < 10
      · have hrd : (r : Int) < 10 := by omega
        go_upto_region 11 with fail
        have hkd := hk.draw
        have hGd := hkd.glob hG
        have hC : (fun u : World => Row u (w.heap.size + 1) (u32s m) ∧ u.cell? ⟨1, r, none⟩ = some (.int .u64 (nat_ ordsN r : Int))) wr.drew := ⟨Row.blk hkd.hM, hGd.orders.cell r _ (u64s_at hrlt)⟩
        have hV : (fun u : World => Row u (w.heap.size + 3) (u32s (mixes m st (8 * r)))) wr.drew := Row.blk hkd.hV
        refine wp_region_K (by kernel_rfl) (fun u : World => Row u (w.heap.size + 1) (u32s m) ∧ u.cell? ⟨1, r, none⟩ = some (.int .u64 (nat_ ordsN r : Int))) (fun u : World => Row u (w.heap.size + 3) (u32s (mixes m st (8 * r)))) 6 ?_
        change wpAnyK _ _ _ _ _ _ _ _ _ _ wr.drew
        generalize wr.drew = wd at hkd hGd hC hV ⊢
        clear hk
        have hlV : (u32s (mixes m st (8 * r))).length = 16 := by rw [u32s_len, mixes_len]; exact hst
        have hlM : (u32s m).length = 16 := by rw [u32s_len]; exact hm
        refine wpAnyK_take 2 (some 41) (v := ?v1) rfl (by kernel_rfl) (by kernel_rfl) (by kernel_rfl) (by decide) (fun _ _ _ h => h) hC (fun _ => hV) (Or.inl ⟨by rfl, ?hy1⟩) rfl ?_
        case hy1 =>
          intro u hu
          have q0 := hu.2
          go_simp
          try with_reducible rfl
        simp only [Act.put, List.setIfInBounds_toArray, List.set_cons_zero, List.set_cons_succ]
        refine wpAnyK_take 3 (some 42) (v := ?v2) rfl (by kernel_rfl) (by kernel_rfl) (by kernel_rfl) (by decide) (fun _ _ _ h => h) hC (fun _ => hV) (Or.inl ⟨by rfl, ?hy2⟩) rfl ?_
        case hy2 =>
          intro u hu
          have q0 := hu.2
          go_simp
          try with_reducible rfl
        simp only [Act.put, List.setIfInBounds_toArray, List.set_cons_zero, List.set_cons_succ]
        refine wpAnyK_take 4 (some 43) (v := ?v3) rfl (by kernel_rfl) (by kernel_rfl) (by kernel_rfl) (by decide) (fun _ _ _ h => h) hC (fun _ => hV) (Or.inl ⟨by rfl, ?hy3⟩) rfl ?_
        case hy3 =>
          intro u hu
          have q0 := hu.2
          go_simp
          try with_reducible rfl
        simp only [Act.put, List.setIfInBounds_toArray, List.set_cons_zero, List.set_cons_succ]
        refine wpAnyK_take 1 (some 40) (v := .agg (u32s m).toArray) rfl (by kernel_rfl) (by kernel_rfl) (by kernel_rfl) (by decide) (fun _ _ _ h => h) hC (fun _ => hV) (yields_arr (by rfl) 60 (.tmp 5) rfl (w.heap.size + 1) rfl (u32s m) 16 57 (fun u hu => hu.1) under16 (by rw [info16, hlM])) rfl ?_
        simp only [Act.put, List.setIfInBounds_toArray, List.set_cons_zero, List.set_cons_succ]
        refine wpAnyK_early 0 (some 39) (v := .agg (u32s (mixes m st (8 * r))).toArray) rfl (by kernel_rfl) (by kernel_rfl) (by kernel_rfl) (by decide) (fun _ _ _ h => h) hC hV rfl (by kernel_rfl) (by kernel_rfl) (yields_arr (by rfl) 60 (.tmp 9) rfl (w.heap.size + 3) rfl (u32s (mixes m st (8 * r))) 16 57 (fun u hu => hu) under16 (by rw [info16, hlV])) rfl ?_
        simp only [Act.put, List.setIfInBounds_toArray, List.set_cons_zero, List.set_cons_succ]
        refine wpAnyK_one 5 (by kernel_rfl) rfl (fun K hK => ?_)
        go_simp
        refine (inOrder_c m (nat_ ordsN r) wd).mono ?_
        rintro e w2 ⟨he, hw2⟩
        subst he
        dsimp only
        have hb2 : Below wd.heap.size wd w2 := by rw [hw2]; exact below_new2 wd _ _
        have hgm : Row w2 wd.heap.size (u32s m) := by rw [hw2]; exact (Row.blk (Blk.new wd 60 (u32s m).toArray)).alloc _
        have hgo : w2.cell? ⟨wd.heap.size + 1, 0, none⟩ = some (.int .u64 (nat_ ordsN r : Int)) := by
          rw [hw2]
          have := Row.blk (vs := [.int .u64 (nat_ ordsN r : Int)]) (Blk.new (wd.alloc (.cells (u32s m).toArray 60)) 30 #[.int .u64 (nat_ ordsN r : Int)])
          rw [World.size_alloc] at this
          exact this.cell 0 _ rfl
        clear hw2
        have hk2 := hkd.below hb2
        have hG2 := hGd.below hb2
        have hC2 : (fun u : World => Row u (w.heap.size + 1) (u32s m) ∧ u.cell? ⟨1, r, none⟩ = some (.int .u64 (nat_ ordsN r : Int))) w2 := ⟨Row.blk hk2.hM, hG2.orders.cell r _ (u64s_at hrlt)⟩
        refine hK.out _ _ hC2 (fun _ => Row.blk hk2.hV) ?_
        clear hK K hC hV hkd hGd
        obtain ⟨n2, hn2⟩ : ∃ n, n = wd.heap.size := ⟨_, rfl⟩
        rw [← hn2] at hgm hgo hb2 ⊢
        have HR := Lib.hid (round_c (gm := n2) (go := n2 + 1) hrlt hm hst hws w2 hgm hgo hG2.columns)
        clear hgm hgo hn2
        refine wpAnyK_one 6 (by kernel_rfl) rfl (fun K hK => ?_)
        go_simp
        refine HR.out.mono ?_
        rintro e w3 ⟨he, hb3⟩
        subst he
        dsimp only
        have hk3 := hk2.below hb3
        have hG3 := hG2.below hb3
        have hC3 : (fun u : World => Row u (w.heap.size + 1) (u32s m) ∧ u.cell? ⟨1, r, none⟩ = some (.int .u64 (nat_ ordsN r : Int))) w3 := ⟨Row.blk hk3.hM, hG3.orders.cell r _ (u64s_at hrlt)⟩
        refine hK.out _ _ hC3 (fun _ => Row.blk hk3.hV) ?_
        clear hK K hC2 hk2 hG2 HR hb2 hb3
        refine wpAnyK_late _ _ _ _ (by kernel_rfl) ?_
        have hlW : (u32s (mixes m st (8 * (r + 1)))).length = 16 := by rw [u32s_len, mixes_len]; exact hst
        have hsz : (u32s (mixes m st (8 * r))).toArray.size = (mixes m st (8 * (r + 1))).length := by rw [List.size_toArray, hlV, mixes_len, hst]
        have hsto := store_arr hk3.hV (l := mixes m st (8 * (r + 1))) hsz
        have hk4 := hk3.lay (mixes m st (8 * (r + 1)))
        have hG4 := hk4.glob hG
        have hC4 : (fun u : World => Row u (w.heap.size + 1) (u32s m) ∧ u.cell? ⟨1, r, none⟩ = some (.int .u64 (nat_ ordsN r : Int))) (w3.setRow (w.heap.size + 3) (u32s (mixes m st (8 * (r + 1)))).toArray) := ⟨Row.blk hk4.hM, hG4.orders.cell r _ (u64s_at hrlt)⟩
        clear hk3 hG3 hC3 hG4 hsz
        have HK4 := Lib.hid hk4
        have HC4 := Lib.hid hC4
        clear hk4 hC4
        refine wpAnyH_one 7 (by kernel_rfl) rfl (fun K hK => ?_)
        go_simp
        refine hK.out _ _ HC4.out ?_
        clear hK K hsto HC4 hlW hlV hlM
        refine wpAnyH_done (by kernel_rfl) ?_ _
        have hk4 := HK4.out
        clear HK4
        generalize w3.setRow (w.heap.size + 3) (u32s (mixes m st (8 * (r + 1)))).toArray = w4 at hk4 ⊢
        go_wp2_with fail
        go_roundw
        case rel => first | exact ⟨r + 1, by omega, by go_num, hk4⟩ | ((repeat apply Exists.intro); refine ⟨⟨r + 1, by omega, ?_, hk4⟩, rfl⟩; go_num)
        case measure => simp [intOf]; omega
      · obtain rfl : r = 10 := by omega
        have hwV := mixes_wd m hws 80
        have hlV : (mixes m st 80).length = 16 := by rw [mixes_len]; exact hst
        change CS w h m (mixes m st 80) wr at hk
        obtain ⟨V, HV⟩ : ∃ V, Hid (V = mixes m st 80) := ⟨_, Lib.hid rfl⟩
        rw [← HV.out] at hk hwV hlV
        have k0 : CS w (outs h V 0 ++ h.drop 0) m V wr := hk
        clear hk hst hws
        generalize wr = w20 at *
        go_upto_region 14 with fail
        go_loopw [47] (fun iv wr => ∃ k : Nat, k ≤ 8 ∧ iv = .int .i64 k ∧ CS w (outs h V k ++ h.drop k) m V wr) (fun iv _ => 8 - (intOf iv).toNat)
        case atStart => exact ⟨0, by omega, rfl, k0⟩
        case round =>
          clear k0
          obtain ⟨k, hk8, rfl, hk⟩ := hrel
          by_cases hklt : k < 8
          · have hkd : (k : Int) < 8 := by omega
            have hlo : (outs h V k ++ h.drop k).length = 8 := by rw [List.length_append, outs_len, List.length_drop]; omega
            have c1 := (Row.blk hk.hH).word (i := k) (by omega)
            have f1 := (Row.blk hk.hH).wfree (i := k) (by omega)
            rw [outs_nth] at c1
            have c2 := (Row.blk hk.hV).word (i := k) (by omega)
            have c3 := (Row.blk hk.hV).word (i := k + 8) (by omega)
            have x1 := u32_xor_nat (nat_ V k) (nat_ V (k + 8)) (nat_lt hwV k) (nat_lt hwV (k + 8))
            have x2 := u32_xor_nat (nat_ h k) (nat_ V k ^^^ nat_ V (k + 8)) (nat_lt hwh k) (xor_lt (nat_lt hwV k) (nat_lt hwV (k + 8)))
            have hset := outs_in h V hl hklt
            have hk2 := (hk.putH k (nat_ h k ^^^ (nat_ V k ^^^ nat_ V (k + 8)))).draw
            rw [hset] at hk2
            have HK2 := Lib.hid hk2
            clear hk hk2 hset
            go_upto_region 16 with fail
            go_region
            have hk2 := HK2.out
            clear HK2
            generalize (World.setCell wr ⟨w.heap.size, k, none⟩ (.int .u32 ((nat_ h k ^^^ (nat_ V k ^^^ nat_ V (k + 8)) : Nat) : Int))).drew = wn at hk2 ⊢
            clear c1 f1 c2 c3 x1 x2 hlo
            go_wp2_with fail
            go_roundw
            case rel => first | exact ⟨k + 1, by omega, by go_num, hk2⟩ | ((repeat apply Exists.intro); refine ⟨⟨k + 1, by omega, ?_, hk2⟩, rfl⟩; go_num)
            case measure => simp [intOf]; omega
          · obtain rfl : k = 8 := by omega
            rw [List.drop_of_length_le (by omega), List.append_nil] at hk
            have hlo : (outs h V 8).length = 8 := outs_len h V 8
            have hfin : Hid (blk h m many last = outs h V 8) := Lib.hid (by unfold blk; rw [← HST.out, ← HV.out])
            obtain ⟨X, HX⟩ : ∃ X, Hid (X = outs h V 8) := ⟨_, Lib.hid rfl⟩
            rw [← HX.out] at hk hlo
            have hF : Hid (blk h m many last = X) := Lib.hid (hfin.out.trans HX.out.symm)
            have hlu : (u32s X).length = 8 := by rw [u32s_len]; exact hlo
            have hrow : Row wr w.heap.size (u32s X) := Row.blk hk.hH
            have hR := hk.hR
            have hB := hk.hB
            have hst := store_arr hR (l := X) (by rw [hlo]; rfl)
            clear hk hfin
            go_upto_region 18 with fail
            refine wp_region_lit ?_
            refine wpList_load_arr rfl 58 (.tmp 4) rfl w.heap.size rfl (u32s X) 8 57 hrow under8 (by rw [info8, hlu]) ?_
            simp only [Act.put, List.setIfInBounds_toArray, List.set_cons_zero, List.set_cons_succ]
            go_wp2_with fail
            refine bodyPost_ret (results_cell_row rfl _ _ (w.heap.size + 2) 58 (u32s X).toArray (0, 0) (.array 8 57) rfl hR.set_ under8 rfl (by rw [info8, List.size_toArray, hlu])) rfl ?_
            rw [hF.out]
            exact ⟨rfl, below_setRow hB (by omega) _⟩
end Go.Proofs.YteopkdmlcjndcaaDoor.Wirey
