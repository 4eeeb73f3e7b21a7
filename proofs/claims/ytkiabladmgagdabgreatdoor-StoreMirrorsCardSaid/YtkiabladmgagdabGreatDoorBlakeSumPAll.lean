/- Contract of layer 4's program (blake): a block taken in, by value. Condition: the variables 'first', 'orders' and 'columns' hold what the program's text lays. Contract of layer 4's program (blake): the sum of bytes is chapter 4's. Conditions: fewer than 2^40 bytes; the variables 'first', 'orders' and 'columns' hold what the program's text lays. -/
import Derived.Test.YtkiabladmgagdabGreatDoorBlakeRound
import Derived.Laws.CopyRow
import Derived.Test.YtkiabladmgagdabGreatDoorBlakeMixAll
import Derived.Test.YtkiabladmgagdabGreatDoorSq
namespace Go.Proofs.YtkiabladmgagdabGreatDoor.Wirey
open Go.ChangeShapes Go.WideShapes Go.ChangeAt Go.RowKit

def u64s (l : List Nat) : List Value := l.map fun (n : Nat) => Value.int .u64 n
theorem u64s_at {l : List Nat} {i : Nat} (h : i < l.length) : (u64s l)[i]? = some (.int .u64 (nat_ l i : Int)) := by
 unfold u64s nat_
 rw [List.getElem?_map, List.getElem?_eq_getElem h, List.getD_eq_getElem?_getD, List.getElem?_eq_getElem h]; rfl
structure Glob (w : World) : Prop where
 first : Seen w 0 (u32s ivs)
 orders : Seen w 1 (u64s ordsN)
 columns : Seen w 2 colsL
theorem Glob.below {w w' : World} (h : Glob w) (hb : Below w.heap.size w w') : Glob w' := ⟨h.first.below hb h.first.lt, h.orders.below hb h.orders.lt, h.columns.below hb h.columns.lt⟩
set_option maxRecDepth 100000 in
theorem copy_arr {W : World} {g gs o dCap : Nat} {t : TypeId} {l x : List Nat} (hb : Blk W g t (u32s l).toArray) (hs : Seen W gs (u32s x)) (hx : x.length = 8) (ho : o + 8 ≤ l.length) :
  (Builtin.copy_ #[159, 159] 3 #[.slice (some ⟨g, o, none⟩) 8 dCap, .slice (some ⟨gs, 0, none⟩) 8 8]).run Tryz.prog W = .ok (.int .i64 8) (W.setRow g (u32s (l.take o ++ x ++ l.drop (o + 8))).toArray) := by
 have hl : (u32s x).length = 8 := by rw [u32s_len]; exact hx
 have h := run_copy_row (P := Tryz.prog) W 159 159 3 127 g o 8 dCap ⟨gs, 0, none⟩ 8 8 (u32s l).toArray t (u32s x) Tryz.underlying159 (by kernel_rfl) hb (by rw [hl]; rfl) hs.adds (by rw [hl, List.size_toArray, u32s_len]; exact ho) (u32s_one x)
 rw [hl] at h
 rw [h]
 congr 2
 rw [List.toList_toArray]
 unfold u32s
 rw [List.map_append, List.map_append, List.map_take, List.map_drop]
theorem not_xor (x : Nat) (h : x < 4294967296) : 4294967295 ^^^ x = 4294967295 - x := by
 have e : (BitVec.allOnes 32 ^^^ BitVec.ofNat 32 x).toNat = (~~~ BitVec.ofNat 32 x).toNat := by rw [BitVec.allOnes_xor]
 rw [BitVec.toNat_xor, BitVec.toNat_not, BitVec.toNat_allOnes, BitVec.toNat_ofNat, Nat.mod_eq_of_lt h] at e
 exact e
theorem not_bits (x : Nat) (h : x < 4294967296) : bits BinOp.xor IntKind.u32 IntKind.u32.max (x : Int) = 4294967295 - (x : Int) := by
 have e := u32_xor_nat 4294967295 x (by omega) h
 rw [not_xor x h] at e
 have e2 : ((4294967295 - x : Nat) : Int) = 4294967295 - (x : Int) := by omega
 rw [← e2, ← e]
 rfl
theorem yields_arr {ops : Array Oper} {o : Oper} {a : Act} {S : World → Prop} (hgd : Region.wanted o (yielded ops a.tmps) = true) (ty : TypeId) (x : Operand) (ho : o.op = .load ty x) (g : Nat) (hx : a.eval x = .pointer (some ⟨g, 0, none⟩)) (vs : List Value) (n : Nat) (e : TypeId)
  (hg : ∀ u, S u → Row u g vs) (hu : Tryz.prog.underlying ty = some (.array n e)) (hi : (Tryz.prog.info? ty).map (·.size) = some vs.length) : YieldsIf Tryz.prog ops S o (.agg vs.toArray) a :=
 Or.inl ⟨hgd, fun u hS => by
   unfold execOp
   simp only [ho, hx, Instr.loadAt, Instr.sureAddr, Sem.run_bind, Sem.run_pure, Result.andThen_ok, load_arr ty n e (hg u hS).seen hu hi]⟩
structure CS (w0 : World) (h m v : List Nat) (w : World) : Prop where
 hB : Below w0.heap.size w0 w
 hH : Blk w w0.heap.size 128 (u32s h).toArray
 hM : Blk w (w0.heap.size + 1) 130 (u32s m).toArray
 hR : Blk w (w0.heap.size + 2) 128 z8
 hV : Blk w (w0.heap.size + 3) 130 (u32s v).toArray
section
variable {w0 : World} {h m v : List Nat} {w : World}
theorem CS.draw (k : CS w0 h m v w) : CS w0 h m v w.drew := ⟨k.hB.drew, k.hH, k.hM, k.hR, k.hV⟩
theorem CS.put (k : CS w0 h m v w) (i x : Nat) : CS w0 h m (v.set i x) (w.setCell ⟨w0.heap.size + 3, i, none⟩ (.int .u32 (x : Int))) :=
 ⟨k.hB.setCell (by show w0.heap.size ≤ w0.heap.size + 3; omega) _, k.hH.far (by show w0.heap.size ≠ w0.heap.size + 3; omega) _, k.hM.far (by show w0.heap.size + 1 ≠ w0.heap.size + 3; omega) _, k.hR.far (by show w0.heap.size + 2 ≠ w0.heap.size + 3; omega) _, arr_put k.hV i x⟩
theorem CS.putH (k : CS w0 h m v w) (i x : Nat) : CS w0 (h.set i x) m v (w.setCell ⟨w0.heap.size, i, none⟩ (.int .u32 (x : Int))) :=
 ⟨k.hB.setCell (Nat.le_refl _) _, arr_put k.hH i x, k.hM.far (by show w0.heap.size + 1 ≠ w0.heap.size; omega) _, k.hR.far (by show w0.heap.size + 2 ≠ w0.heap.size; omega) _, k.hV.far (by show w0.heap.size + 3 ≠ w0.heap.size; omega) _⟩
theorem CS.lay (k : CS w0 h m v w) (v' : List Nat) : CS w0 h m v' (w.setRow (w0.heap.size + 3) (u32s v').toArray) :=
 ⟨below_setRow k.hB (by omega) _, k.hH.far_ (by omega) _, k.hM.far_ (by omega) _, k.hR.far_ (by omega) _, k.hV.set_⟩
theorem CS.below {w' : World} (k : CS w0 h m v w) (hb : Below w.heap.size w w') : CS w0 h m v w' :=
 ⟨k.hB.trans (hb.mono k.hB.size), k.hH.below hb k.hH.lt, k.hM.below hb k.hM.lt, k.hR.below hb k.hR.lt, k.hV.below hb k.hV.lt⟩
theorem CS.glob (k : CS w0 h m v w) (hG : Glob w0) : Glob w := hG.below k.hB
end
theorem new4 (w : World) (o1 o2 o3 o4 : Obj) : Below w.heap.size w ((((w.alloc o1).alloc o2).alloc o3).alloc o4) :=
 ((((Below.refl _ _).alloc (Nat.le_refl _) _).alloc (by simp) _).alloc (by simp only [World.size_alloc]; omega) _).alloc (by simp only [World.size_alloc]; omega) _
theorem blk_new {w : World} {n : Nat} (hn : w.heap.size = n) (t : TypeId) (cs : Array Value) : Blk (w.alloc (.cells cs t)) n t cs := hn ▸ Blk.new w t cs
theorem CS.new (w : World) (h m : List Nat) : CS w h m (List.replicate 16 0) ((((w.alloc (.cells (u32s h).toArray 128)).alloc (.cells (u32s m).toArray 130)).alloc (.cells z8 128)).alloc (.cells z16 130)) :=
 ⟨new4 w _ _ _ _, (((Blk.new w _ _).alloc _).alloc _).alloc _, ((blk_new (by simp) _ _).alloc _).alloc _, (blk_new (by simp) _ _).alloc _, blk_new (by simp) _ z16⟩
set_option maxHeartbeats 8000000 in
set_option maxRecDepth 100000 in
theorem compress_c {h m : List Nat} (hl : h.length = 8) (hm : m.length = 16) (hwh : Wd h) (many : Nat) (hmany : many < 18446744073709551616) (last : Bool) (w : World) (hG : Glob w) :
  Calls Tryz.prog 62 #[.agg (u32s h).toArray, .agg (u32s m).toArray, .int .u64 many, .bool last] w fun e w' => e = .returned (.agg (u32s (blk h m many last)).toArray) ∧ Below w.heap.size w w' := by
 go_enter Tryz.func62, Tryz.ntmps62
 go_upto_region 2 with fail
 have k0 := CS.new w h m
 change Code.wp _ _ _ _ ((((w.alloc (.cells (u32s h).toArray 128)).alloc (.cells (u32s m).toArray 130)).alloc (.cells z8 128)).alloc (.cells z16 130))
 generalize (((w.alloc (.cells (u32s h).toArray 128)).alloc (.cells (u32s m).toArray 130)).alloc (.cells z8 128)).alloc (.cells z16 130) = w1 at k0 ⊢
 simp only [Nat.add_assoc, Nat.reduceAdd]
 have hcp := copy_arr (o := 0) (dCap := 16) k0.draw.hV (Row.blk k0.draw.hH).seen hl (by simp)
 have k1 := k0.draw.lay ((List.replicate 16 0).take 0 ++ h ++ (List.replicate 16 0).drop (0 + 8))
 have e1 : (List.replicate 16 0).take 0 ++ h ++ (List.replicate 16 0).drop (0 + 8) = h ++ List.replicate 8 0 := by
  rw [List.take_zero, List.nil_append, List.drop_replicate]
 rw [e1] at hcp k1
 have e2 : (h ++ List.replicate 8 0).take 8 ++ ivs ++ (h ++ List.replicate 8 0).drop (8 + 8) = h ++ ivs := by
  rw [List.take_append_of_le_length (by omega), List.take_of_length_le (by omega), List.drop_of_length_le (by rw [List.length_append, List.length_replicate]; omega), List.append_nil]
 have e3 : (h ++ List.replicate 8 0).length = 16 := by rw [List.length_append, List.length_replicate, hl]
 generalize h ++ List.replicate 8 0 = l1 at hcp k1 e2 e3
 go_region
 clear hcp e1 k0
 generalize w1.drew.setRow (w.heap.size + 3) (u32s l1).toArray = w2 at k1 ⊢
 have hcp := copy_arr (o := 8) (dCap := 8) k1.draw.hV ((k1.glob hG).first.drew) rfl (by omega)
 have k2 := k1.draw.lay (l1.take 8 ++ ivs ++ l1.drop (8 + 8))
 rw [e2] at hcp k2
 go_upto_region 3 with fail
 go_region
 clear hcp e2 e3 k1
 generalize w2.drew.setRow (w.heap.size + 3) (u32s (h ++ ivs)).toArray = w3 at k2 ⊢
 have hlv : (h ++ ivs).length = 16 := by simp [ivs, hl]
 have hwv := app_wd hwh
 have hV := Row.blk k2.hV
 have c12 := hV.word (i := 12) (by omega)
 have f12 := hV.wfree (i := 12) (by omega)
 have hx12 : bits .xor .u32 (nat_ (h ++ ivs) 12 : Int) ((many : Int) % 4294967296) = ((nat_ (h ++ ivs) 12 ^^^ many % 4294967296 : Nat) : Int) := by
  rw [← u32_xor_nat _ _ (nat_lt hwv 12) (Nat.mod_lt _ (by omega))]; simp
 have k3 := Lib.hid (k2.put 12 (nat_ (h ++ ivs) 12 ^^^ many % 4294967296))
 go_upto_region 5 with fail
 replace k3 : CS w h m (s12 h many) _ := k3.out
 generalize w3.setCell ⟨w.heap.size + 3, 12, none⟩ (.int .u32 ((nat_ (h ++ ivs) 12 ^^^ many % 4294967296 : Nat) : Int)) = w4 at k3 ⊢
 clear k2 hV c12 f12 hx12 hwv
 have hl12 : (s12 h many).length = 16 := by unfold s12; rw [List.length_set]; exact hlv
 have hw12 : Wd (s12 h many) := s12_wd hwh
 have hV := Row.blk k3.hV
 have c13 := hV.word (i := 13) (by omega)
 have f13 := hV.wfree (i := 13) (by omega)
 have hx13 : bits .xor .u32 (nat_ (s12 h many) 13 : Int) ((many : Int) / 4294967296) = ((nat_ (s12 h many) 13 ^^^ many / 4294967296 : Nat) : Int) := by
  rw [← u32_xor_nat _ _ (nat_lt hw12 13) (by omega)]; simp
 have k4 := Lib.hid (k3.put 13 (nat_ (s12 h many) 13 ^^^ many / 4294967296))
 go_upto_if 31 with fail
 replace k4 : CS w h m (s13 h many) _ := k4.out
 generalize w4.setCell ⟨w.heap.size + 3, 13, none⟩ (.int .u32 ((nat_ (s12 h many) 13 ^^^ many / 4294967296 : Nat) : Int)) = w5 at k4 ⊢
 clear k3 hV c13 f13 hx13
 go_cut [4] from 31 to 35 (fun s4 wc => s4 = .pointer (some ⟨w.heap.size, 0, none⟩) ∧ CS w h m (s14 h many last) wc)
 case first =>
  cases last
  ·go_wp2_with fail
   go_meet
   exact ⟨rfl, k4⟩
  ·have hl13 : (s13 h many).length = 16 := by unfold s13; rw [List.length_set]; exact hl12
   have hw13 := nat_lt (s13_wd (many := many) hwh hmany) 14
   have hV := Row.blk k4.hV
   have c14 := hV.word (i := 14) (by omega)
   have f14 := hV.wfree (i := 14) (by omega)
   have e14 : ((4294967295 - nat_ (s13 h many) 14 : Nat) : Int) = 4294967295 - (nat_ (s13 h many) 14 : Int) := by omega
   have k5 := k4.put 14 (4294967295 - nat_ (s13 h many) 14)
   rw [e14] at k5
   have hnx := not_bits _ hw13
   have K5 := Lib.hid k5
   clear k5 e14 k4 hV
   go_wp2_with fail
   go_meet
   exact ⟨rfl, K5.out⟩
 case rest =>
  obtain ⟨rfl, k5⟩ := hcut
  clear k4 hw12 hl12 hlv
  have hst : (s14 h many last).length = 16 := s14_len many last hl
  have hws : Wd (s14 h many last) := s14_wd last hwh hmany
  obtain ⟨st, HST⟩ : ∃ st, Hid (st = s14 h many last) := ⟨_, Lib.hid rfl⟩
  rw [← HST.out] at k5 hst hws
  go_upto_region 9 with fail
  go_loopw [36] (fun iv wr => ∃ r : Nat, r ≤ 10 ∧ iv = .int .i64 r ∧ CS w h m (mixes m st (8 * r)) wr) (fun iv _ => 10 - (intOf iv).toNat)
  case atStart => exact ⟨0, by omega, rfl, k5⟩
  case round =>
   clear k5
   obtain ⟨r, hr, rfl, hk⟩ := hrel
   by_cases hrlt : r < 10
   ·have hrd : (r : Int) < 10 := by omega
    go_upto_region 11 with fail
    have hkd := hk.draw
    have hGd := hkd.glob hG
    have hC : (fun u : World => Row u (w.heap.size + 1) (u32s m) ∧ u.cell? ⟨1, r, none⟩ = some (.int .u64 (nat_ ordsN r : Int))) wr.drew := ⟨Row.blk hkd.hM, hGd.orders.cell r _ (u64s_at hrlt)⟩
    have hV : (fun u : World => Row u (w.heap.size + 3) (u32s (mixes m st (8 * r)))) wr.drew := Row.blk hkd.hV
    refine wp_region_K (by kernel_rfl) (fun u : World => Row u (w.heap.size + 1) (u32s m) ∧ u.cell? ⟨1, r, none⟩ = some (.int .u64 (nat_ ordsN r : Int))) (fun u : World => Row u (w.heap.size + 3) (u32s (mixes m st (8 * r)))) 6 ?_
    change wpAnyK _ _ _ _ _ _ _ _ _ _ wr.drew
    generalize wr.drew = wd at hkd hGd hC hV ⊢
    clear hk
    have hlV : (u32s (mixes m st (8 * r))).length = 16 := by rw [u32s_len, mixes_len]; exact hst
    have hlM : (u32s m).length = 16 := by rw [u32s_len]; exact hm
    refine wpAnyK_take 2 (some 41) (v := ?v1) rfl (by kernel_rfl) (by kernel_rfl) (by kernel_rfl) (by decide) (fun _ _ _ h => h) hC (fun _ => hV) (Or.inl ⟨by rfl, ?hy1⟩) rfl ?_
    case hy1 =>
     intro u hu
     have q0 := hu.2
     go_simp
     try with_reducible rfl
    simp only [Act.put, List.setIfInBounds_toArray, List.set_cons_zero, List.set_cons_succ]
    refine wpAnyK_take 3 (some 42) (v := ?v2) rfl (by kernel_rfl) (by kernel_rfl) (by kernel_rfl) (by decide) (fun _ _ _ h => h) hC (fun _ => hV) (Or.inl ⟨by rfl, ?hy2⟩) rfl ?_
    case hy2 =>
     intro u hu
     have q0 := hu.2
     go_simp
     try with_reducible rfl
    simp only [Act.put, List.setIfInBounds_toArray, List.set_cons_zero, List.set_cons_succ]
    refine wpAnyK_take 4 (some 43) (v := ?v3) rfl (by kernel_rfl) (by kernel_rfl) (by kernel_rfl) (by decide) (fun _ _ _ h => h) hC (fun _ => hV) (Or.inl ⟨by rfl, ?hy3⟩) rfl ?_
    case hy3 =>
     intro u hu
     have q0 := hu.2
     go_simp
     try with_reducible rfl
    simp only [Act.put, List.setIfInBounds_toArray, List.set_cons_zero, List.set_cons_succ]
    refine wpAnyK_take 1 (some 40) (v := .agg (u32s m).toArray) rfl (by kernel_rfl) (by kernel_rfl) (by kernel_rfl) (by decide) (fun _ _ _ h => h) hC (fun _ => hV) (yields_arr (by rfl) 130 (.tmp 5) rfl (w.heap.size + 1) rfl (u32s m) 16 127 (fun u hu => hu.1) under16 (by rw [info16, hlM])) rfl ?_
    simp only [Act.put, List.setIfInBounds_toArray, List.set_cons_zero, List.set_cons_succ]
    refine wpAnyK_early 0 (some 39) (v := .agg (u32s (mixes m st (8 * r))).toArray) rfl (by kernel_rfl) (by kernel_rfl) (by kernel_rfl) (by decide) (fun _ _ _ h => h) hC hV rfl (by kernel_rfl) (by kernel_rfl) (yields_arr (by rfl) 130 (.tmp 9) rfl (w.heap.size + 3) rfl (u32s (mixes m st (8 * r))) 16 127 (fun u hu => hu) under16 (by rw [info16, hlV])) rfl ?_
    simp only [Act.put, List.setIfInBounds_toArray, List.set_cons_zero, List.set_cons_succ]
    refine wpAnyK_one 5 (by kernel_rfl) rfl (fun K hK => ?_)
    go_simp
    refine (inOrder_c m (nat_ ordsN r) wd).mono ?_
    rintro e w2 ⟨he, hw2⟩
    subst he
    dsimp only
    have hb2 : Below wd.heap.size wd w2 := by rw [hw2]; exact below_new2 wd _ _
    have hgm : Row w2 wd.heap.size (u32s m) := by rw [hw2]; exact (Row.blk (Blk.new wd 130 (u32s m).toArray)).alloc _
    have hgo : w2.cell? ⟨wd.heap.size + 1, 0, none⟩ = some (.int .u64 (nat_ ordsN r : Int)) := by
     rw [hw2]
     have := Row.blk (vs := [.int .u64 (nat_ ordsN r : Int)]) (Blk.new (wd.alloc (.cells (u32s m).toArray 130)) 22 #[.int .u64 (nat_ ordsN r : Int)])
     rw [World.size_alloc] at this
     exact this.cell 0 _ rfl
    clear hw2
    have hk2 := hkd.below hb2
    have hG2 := hGd.below hb2
    have hC2 : (fun u : World => Row u (w.heap.size + 1) (u32s m) ∧ u.cell? ⟨1, r, none⟩ = some (.int .u64 (nat_ ordsN r : Int))) w2 := ⟨Row.blk hk2.hM, hG2.orders.cell r _ (u64s_at hrlt)⟩
    refine hK.out _ _ hC2 (fun _ => Row.blk hk2.hV) ?_
    clear hK K hC hV hkd hGd
    obtain ⟨n2, hn2⟩ : ∃ n, n = wd.heap.size := ⟨_, rfl⟩
    rw [← hn2] at hgm hgo hb2 ⊢
    have HR := Lib.hid (round_c (gm := n2) (go := n2 + 1) hrlt hm hst hws w2 hgm hgo hG2.columns)
    clear hgm hgo hn2
    refine wpAnyK_one 6 (by kernel_rfl) rfl (fun K hK => ?_)
    go_simp
    refine HR.out.mono ?_
    rintro e w3 ⟨he, hb3⟩
    subst he
    dsimp only
    have hk3 := hk2.below hb3
    have hG3 := hG2.below hb3
    have hC3 : (fun u : World => Row u (w.heap.size + 1) (u32s m) ∧ u.cell? ⟨1, r, none⟩ = some (.int .u64 (nat_ ordsN r : Int))) w3 := ⟨Row.blk hk3.hM, hG3.orders.cell r _ (u64s_at hrlt)⟩
    refine hK.out _ _ hC3 (fun _ => Row.blk hk3.hV) ?_
    clear hK K hC2 hk2 hG2 HR hb2 hb3
    refine wpAnyK_late _ _ _ _ (by kernel_rfl) ?_
    have hlW : (u32s (mixes m st (8 * (r + 1)))).length = 16 := by rw [u32s_len, mixes_len]; exact hst
    have hsz : (u32s (mixes m st (8 * r))).toArray.size = (mixes m st (8 * (r + 1))).length := by rw [List.size_toArray, hlV, mixes_len, hst]
    have hsto := store_arr hk3.hV (l := mixes m st (8 * (r + 1))) hsz
    have hk4 := hk3.lay (mixes m st (8 * (r + 1)))
    have hG4 := hk4.glob hG
    have hC4 : (fun u : World => Row u (w.heap.size + 1) (u32s m) ∧ u.cell? ⟨1, r, none⟩ = some (.int .u64 (nat_ ordsN r : Int))) (w3.setRow (w.heap.size + 3) (u32s (mixes m st (8 * (r + 1)))).toArray) := ⟨Row.blk hk4.hM, hG4.orders.cell r _ (u64s_at hrlt)⟩
    clear hk3 hG3 hC3 hG4 hsz
    have HK4 := Lib.hid hk4
    have HC4 := Lib.hid hC4
    clear hk4 hC4
    refine wpAnyH_one 7 (by kernel_rfl) rfl (fun K hK => ?_)
    go_simp
    refine hK.out _ _ HC4.out ?_
    clear hK K hsto HC4 hlW hlV hlM
    refine wpAnyH_done (by kernel_rfl) ?_ _
    have hk4 := HK4.out
    clear HK4
    generalize w3.setRow (w.heap.size + 3) (u32s (mixes m st (8 * (r + 1)))).toArray = w4 at hk4 ⊢
    go_wp2_with fail
    go_roundw
    case rel => first | exact ⟨r + 1, by omega, by go_num, hk4⟩ | ((repeat apply Exists.intro); refine ⟨⟨r + 1, by omega, ?_, hk4⟩, rfl⟩; go_num)
    case measure => simp [intOf]; omega
   ·obtain rfl : r = 10 := by omega
    have hwV := mixes_wd m hws 80
    have hlV : (mixes m st 80).length = 16 := by rw [mixes_len]; exact hst
    change CS w h m (mixes m st 80) wr at hk
    obtain ⟨V, HV⟩ : ∃ V, Hid (V = mixes m st 80) := ⟨_, Lib.hid rfl⟩
    rw [← HV.out] at hk hwV hlV
    have k0 : CS w (outs h V 0 ++ h.drop 0) m V wr := hk
    clear hk hst hws
    generalize wr = w20 at *
    go_upto_region 14 with fail
    go_loopw [47] (fun iv wr => ∃ k : Nat, k ≤ 8 ∧ iv = .int .i64 k ∧ CS w (outs h V k ++ h.drop k) m V wr) (fun iv _ => 8 - (intOf iv).toNat)
    case atStart => exact ⟨0, by omega, rfl, k0⟩
    case round =>
     clear k0
     obtain ⟨k, hk8, rfl, hk⟩ := hrel
     by_cases hklt : k < 8
     ·have hkd : (k : Int) < 8 := by omega
      have hlo : (outs h V k ++ h.drop k).length = 8 := by rw [List.length_append, outs_len, List.length_drop]; omega
      have c1 := (Row.blk hk.hH).word (i := k) (by omega)
      have f1 := (Row.blk hk.hH).wfree (i := k) (by omega)
      rw [outs_nth] at c1
      have c2 := (Row.blk hk.hV).word (i := k) (by omega)
      have c3 := (Row.blk hk.hV).word (i := k + 8) (by omega)
      have x1 := u32_xor_nat (nat_ V k) (nat_ V (k + 8)) (nat_lt hwV k) (nat_lt hwV (k + 8))
      have x2 := u32_xor_nat (nat_ h k) (nat_ V k ^^^ nat_ V (k + 8)) (nat_lt hwh k) (xor_lt (nat_lt hwV k) (nat_lt hwV (k + 8)))
      have hset := outs_in h V hl hklt
      have hk2 := (hk.putH k (nat_ h k ^^^ (nat_ V k ^^^ nat_ V (k + 8)))).draw
      rw [hset] at hk2
      have HK2 := Lib.hid hk2
      clear hk hk2 hset
      go_upto_region 16 with fail
      go_region
      have hk2 := HK2.out
      clear HK2
      generalize (World.setCell wr ⟨w.heap.size, k, none⟩ (.int .u32 ((nat_ h k ^^^ (nat_ V k ^^^ nat_ V (k + 8)) : Nat) : Int))).drew = wn at hk2 ⊢
      clear c1 f1 c2 c3 x1 x2 hlo
      go_wp2_with fail
      go_roundw
      case rel => first | exact ⟨k + 1, by omega, by go_num, hk2⟩ | ((repeat apply Exists.intro); refine ⟨⟨k + 1, by omega, ?_, hk2⟩, rfl⟩; go_num)
      case measure => simp [intOf]; omega
     ·obtain rfl : k = 8 := by omega
      rw [List.drop_of_length_le (by omega), List.append_nil] at hk
      have hlo : (outs h V 8).length = 8 := outs_len h V 8
      have hfin : Hid (blk h m many last = outs h V 8) := Lib.hid (by unfold blk; rw [← HST.out, ← HV.out])
      obtain ⟨X, HX⟩ : ∃ X, Hid (X = outs h V 8) := ⟨_, Lib.hid rfl⟩
      rw [← HX.out] at hk hlo
      have hF : Hid (blk h m many last = X) := Lib.hid (hfin.out.trans HX.out.symm)
      have hlu : (u32s X).length = 8 := by rw [u32s_len]; exact hlo
      have hrow : Row wr w.heap.size (u32s X) := Row.blk hk.hH
      have hR := hk.hR
      have hB := hk.hB
      have hst := store_arr hR (l := X) (by rw [hlo]; rfl)
      clear hk hfin
      go_upto_region 18 with fail
      refine wp_region_lit ?_
      refine wpList_load_arr rfl 128 (.tmp 4) rfl w.heap.size rfl (u32s X) 8 127 hrow under8 (by rw [info8, hlu]) ?_
      simp only [Act.put, List.setIfInBounds_toArray, List.set_cons_zero, List.set_cons_succ]
      go_wp2_with fail
      refine bodyPost_ret (results_cell_row rfl _ _ (w.heap.size + 2) 128 (u32s X).toArray (0, 0) (.array 8 127) rfl hR.set_ under8 rfl (by rw [info8, List.size_toArray, hlu])) rfl ?_
      rw [hF.out]
      exact ⟨rfl, below_setRow hB (by omega) _⟩
end Go.Proofs.YtkiabladmgagdabGreatDoor.Wirey
namespace Go.Proofs.YtkiabladmgagdabGreatDoor.Wirey
open Go.ChangeShapes Go.WideShapes Go.ChangeAt Go.RowKit

theorem pad_full {l : List UInt8} (h : l.length = 64) : pad l = l := by unfold pad; rw [h]; simp
set_option maxHeartbeats 8000000 in
set_option maxRecDepth 100000 in
theorem sumP_c (l : List UInt8) (hl : l.length < 1099511627776) (w : World) (hG : Glob w) :
  Calls Tryz.prog 31 #[.string (str l)] w (SumEnd l w) := by
 have hsz := str_size
 have hiv : (u32s ivs).length = 8 := rfl
 have hst0 := store_arr (l := ivs) (Blk.new w 128 z8) rfl
 rw [World.setRow_alloc_new] at hst0
 have hst1 : (storeCells ⟨w.heap.size, 0, none⟩ (u32s ivs) 0).run Tryz.prog (w.alloc (.cells #[.int .u32 0, .int .u32 0, .int .u32 0, .int .u32 0, .int .u32 0, .int .u32 0, .int .u32 0, .int .u32 0] 128)) = .ok () (w.alloc (.cells (u32s ivs).toArray 128)) := hst0
 clear hst0
 have hF := hG.first
 go_enter Tryz.func31, Tryz.ntmps31
 go_upto_region 1 with fail
 refine wp_region_lit ?_
 refine wpList_load_seen rfl 128 (.global 0) rfl 0 rfl (u32s ivs) 8 127 hF under8 (by rw [info8, hiv]) ?_
 simp only [Act.put, List.setIfInBounds_toArray, List.set_cons_zero, List.set_cons_succ]
 have k0 := Blk.new w 128 (u32s ivs).toArray
 have hb0 := (Below.refl w.heap.size w).alloc (Nat.le_refl _) (.cells (u32s ivs).toArray 128)
 obtain ⟨X, hX⟩ : ∃ X, X = u32s ivs := ⟨_, rfl⟩
 rw [← hX] at hiv hst1 k0 hb0 ⊢
 have HX := Lib.hid hX
 clear hX hF
 go_upto_region 2 with fail
 rw [HX.out] at k0 hb0 ⊢
 clear HX hst1 hiv
 generalize w.alloc (.cells (u32s ivs).toArray 128) = w1 at k0 hb0 ⊢
 have c0 := (Row.blk k0).word (i := 0) (by decide)
 have f0 := (Row.blk k0).wfree (i := 0) (by decide)
 have x0 := u32_xor_nat (nat_ ivs 0) 16842784 (nat_lt ivs_wd 0) (by decide)
 rw [show ((16842784 : Nat) : Int) = 16842784 from rfl] at x0
 have k1 := arr_put k0 0 (nat_ ivs 0 ^^^ 16842784)
 rw [h0s_eq] at k1
 have K1 := Lib.hid k1
 have B1 := Lib.hid (hb0.setCell (p := ⟨w.heap.size, 0, none⟩) (Nat.le_refl _) (.int .u32 ((nat_ ivs 0 ^^^ 16842784 : Nat) : Int)))
 clear k0 k1 hb0
 go_upto_region 4 with fail
 have k1 := K1.out
 have b1 := B1.out
 generalize World.setCell w1 ⟨w.heap.size, 0, none⟩ (.int .u32 ((nat_ ivs 0 ^^^ 16842784 : Nat) : Int)) = w2 at k1 b1 ⊢
 clear K1 B1 c0 f0 x0
 go_loopw [4] (fun av wr => ∃ (n : Nat) (hh : List Nat), av = .int .i64 n ∧ n ≤ l.length ∧ hh.length = 8 ∧ Wd hh ∧ Blk wr w.heap.size 128 (u32s hh).toArray ∧ Hid (sumH h0s l 0 = sumH hh (l.drop n) n) ∧ Below w.heap.size w wr) (fun av _ => l.length - (intOf av).toNat)
 case atStart => exact ⟨0, h0s, rfl, by omega, rfl, h0s_wd, k1, Lib.hid rfl, b1⟩
 case round =>
  clear k1 b1
  obtain ⟨n, hh, rfl, hn, hhl, hw, hK, hS, hB⟩ := hrel
  have hGr := hG.below hB
  have hlH : (u32s hh).length = 8 := by rw [u32s_len]; exact hhl
  have hld : (l.drop n).length = l.length - n := List.length_drop ..
  by_cases hlt : n + 64 < l.length
  ·have hcut := str_cut l n 64
   have htl : ((l.drop n).take 64).length = 64 := by rw [List.length_take, hld]; omega
   have hS2 := Lib.hid (sumH_more (h := hh) (l := l.drop n) (n := n) (by omega))
   obtain ⟨m, hm⟩ : ∃ m, m = (l.drop n).take 64 := ⟨_, rfl⟩
   rw [← hm] at hcut htl hS2
   have HL := Lib.hid htl
   have HP := Lib.hid (pad_full htl)
   clear hm htl hld
   have hsl : ∀ u, (Instr.slice 9 (.string (str l)) (some (.int .i64 n)) (some (.int .i64 ((n : Int) + 64))) none).run Tryz.prog u = .ok (.string (str m)) u := fun u => by
    rw [str_slice (l := l) (a := n) (b := n + 64) (by omega) (by omega) (n : Int) ((n : Int) + 64) rfl (by omega) u, hcut]
   clear hcut
   have x1 : IntKind.i64.wrap ((n : Int) + 64) = (n : Int) + 64 := IntWalk.i64_in _ (by omega)
   have x2 : IntKind.u64.wrap ((n : Int) + 64) = (n : Int) + 64 := by rw [IntKind.wrap_u64]; omega
   go_upto_region 5 with fail
   have hV : (fun u : World => Row u w.heap.size (u32s hh)) wr.drew := Row.blk hK
   have hKd : Blk wr.drew w.heap.size 128 (u32s hh).toArray := hK
   have hGd : Glob wr.drew := hGr.below ((Below.refl _ _).drew)
   have hBd := hB.drew
   refine wp_region_K (by kernel_rfl) (fun _ : World => True) (fun u : World => Row u w.heap.size (u32s hh)) 10 ?_
   change wpAnyK _ _ _ _ _ _ _ _ _ _ wr.drew
   generalize wr.drew = wd at hV hKd hGd hBd ⊢
   clear hK hGr hB
   refine wpAnyK_take 1 (some 16) (v := ?v1) rfl (by kernel_rfl) (by kernel_rfl) (by kernel_rfl) (by decide) (fun _ _ _ h => h) trivial (fun _ => hV) (Or.inl ⟨by rfl, ?hy1⟩) rfl ?_
   case hy1 =>
    intro u _
    go_simp
    try with_reducible rfl
   simp only [Act.put, List.setIfInBounds_toArray, List.set_cons_zero, List.set_cons_succ]
   refine wpAnyK_take 2 (some 17) (v := ?v2) rfl (by kernel_rfl) (by kernel_rfl) (by kernel_rfl) (by decide) (fun _ _ _ h => h) trivial (fun _ => hV) (Or.inl ⟨by rfl, ?hy2⟩) rfl ?_
   case hy2 =>
    intro u _
    go_simp
    try with_reducible rfl
   simp only [Act.put, List.setIfInBounds_toArray, List.set_cons_zero, List.set_cons_succ]
   refine wpAnyK_take 3 (some 18) (v := ?v3) rfl (by kernel_rfl) (by kernel_rfl) (by kernel_rfl) (by decide) (fun _ _ _ h => h) trivial (fun _ => hV) (Or.inl ⟨by rfl, ?hy3⟩) rfl ?_
   case hy3 =>
    intro u _
    go_simp
    try with_reducible rfl
   simp only [Act.put, List.setIfInBounds_toArray, List.set_cons_zero, List.set_cons_succ]
   refine wpAnyK_take 4 (some 19) (v := ?v4) rfl (by kernel_rfl) (by kernel_rfl) (by kernel_rfl) (by decide) (fun _ _ _ h => h) trivial (fun _ => hV) (Or.inl ⟨by rfl, ?hy4⟩) rfl ?_
   case hy4 =>
    intro u _
    go_simp
    try with_reducible rfl
   simp only [Act.put, List.setIfInBounds_toArray, List.set_cons_zero, List.set_cons_succ]
   refine wpAnyK_take 5 (some 20) (v := .string (str m)) rfl (by kernel_rfl) (by kernel_rfl) (by kernel_rfl) (by decide) (fun _ _ _ h => h) trivial (fun _ => hV) (Or.inl ⟨by rfl, ?hy5⟩) rfl ?_
   case hy5 =>
    intro u _
    go_simp
    try with_reducible rfl
   simp only [Act.put, List.setIfInBounds_toArray, List.set_cons_zero, List.set_cons_succ]
   refine wpAnyK_take 7 (some 22) (v := ?v6) rfl (by kernel_rfl) (by kernel_rfl) (by kernel_rfl) (by decide) (fun _ _ _ h => h) trivial (fun _ => hV) (Or.inl ⟨by rfl, ?hy6⟩) rfl ?_
   case hy6 =>
    intro u _
    go_simp
    try with_reducible rfl
   simp only [Act.put, List.setIfInBounds_toArray, List.set_cons_zero, List.set_cons_succ]
   refine wpAnyK_take 8 (some 23) (v := ?v7) rfl (by kernel_rfl) (by kernel_rfl) (by kernel_rfl) (by decide) (fun _ _ _ h => h) trivial (fun _ => hV) (Or.inl ⟨by rfl, ?hy7⟩) rfl ?_
   case hy7 =>
    intro u _
    go_simp
    try with_reducible rfl
   simp only [Act.put, List.setIfInBounds_toArray, List.set_cons_zero, List.set_cons_succ]
   refine wpAnyK_take 9 (some 24) (v := ?v8) rfl (by kernel_rfl) (by kernel_rfl) (by kernel_rfl) (by decide) (fun _ _ _ h => h) trivial (fun _ => hV) (Or.inl ⟨by rfl, ?hy8⟩) rfl ?_
   case hy8 =>
    intro u _
    go_simp
    try with_reducible rfl
   simp only [Act.put, List.setIfInBounds_toArray, List.set_cons_zero, List.set_cons_succ]
   refine wpAnyK_early 0 (some 15) (v := .agg (u32s hh).toArray) rfl (by kernel_rfl) (by kernel_rfl) (by kernel_rfl) (by decide) (fun _ _ _ h => h) trivial hV rfl (by kernel_rfl) (by kernel_rfl) (yields_arr (by rfl) 128 (.tmp 3) rfl w.heap.size rfl (u32s hh) 8 127 (fun u hu => hu) under8 (by rw [info8, hlH])) rfl ?_
   simp only [Act.put, List.setIfInBounds_toArray, List.set_cons_zero, List.set_cons_succ]
   have HBk := Lib.hid (blockP_c (d := m) (by rw [HL.out]; omega) wd)
   refine wpAnyK_one 6 (by kernel_rfl) rfl (fun K hK => ?_)
   go_simp
   refine HBk.out.mono ?_
   rintro e w3 ⟨he, hb3⟩
   subst he
   dsimp only
   have hK3 := hKd.below hb3 hKd.lt
   have hG3 := hGd.below hb3
   have hB3 := hBd.trans (hb3.mono hBd.size)
   refine hK.out _ _ trivial (fun _ => Row.blk hK3) ?_
   clear hK K HBk hV hKd hGd hBd hb3
   rw [HP.out]
   have HCm := compress_c hhl (wds_len (nums m)) hw (n + 64) (by omega) false w3 hG3
   rw [show ((n + 64 : Nat) : Int) = (n : Int) + 64 by omega] at HCm
   replace HCm := Lib.hid HCm
   refine wpAnyK_one 10 (by kernel_rfl) rfl (fun K hK => ?_)
   go_simp
   refine HCm.out.mono ?_
   rintro e w4 ⟨he, hb4⟩
   subst he
   dsimp only
   have hK4 := hK3.below hb4 hK3.lt
   have hB4 := hB3.trans (hb4.mono hB3.size)
   refine hK.out _ _ trivial (fun _ => Row.blk hK4) ?_
   clear hK K HCm hK3 hG3 hB3 hb4
   refine wpAnyK_late _ _ _ _ (by kernel_rfl) ?_
   have hbl := blk_len hh (wds (nums m)) (n + 64) false
   have hbw := blk_wd (wds (nums m)) false hw (show n + 64 < 18446744073709551616 by omega)
   have S4 : sumH h0s l 0 = sumH (blk hh (wds (nums m)) (n + 64) false) (l.drop (n + 64)) (n + 64) := by rw [hS.out, hS2.out, List.drop_drop]
   obtain ⟨Y, HY⟩ : ∃ Y, Hid (Y = blk hh (wds (nums m)) (n + 64) false) := ⟨_, Lib.hid rfl⟩
   rw [← HY.out] at hbl hbw S4 ⊢
   have hlY : (u32s Y).length = 8 := by rw [u32s_len]; exact hbl
   have hsto := store_arr hK4 (l := Y) (by rw [List.size_toArray, hlH, hbl])
   refine wpAnyH_one 11 (by kernel_rfl) rfl (fun K hK => ?_)
   go_simp
   refine hK.out _ _ trivial ?_
   clear hK K hsto hlY hlH
   refine wpAnyH_done (by kernel_rfl) ?_ _
   have hK5 : Blk (w4.setRow w.heap.size (u32s Y).toArray) w.heap.size 128 (u32s Y).toArray := hK4.set_
   have hB5 := below_setRow hB4 (Nat.le_refl _) (u32s Y).toArray
   generalize w4.setRow w.heap.size (u32s Y).toArray = w5 at hK5 hB5 ⊢
   clear hK4 hB4 HY
   have HS4 := Lib.hid S4
   clear S4 x1 x2 hsl hS hS2
   go_wp2_with fail
   go_roundw
   case rel => first | exact ⟨n + 64, Y, by go_num, by omega, hbl, hbw, hK5, HS4, hB5⟩ | ((repeat apply Exists.intro); refine ⟨⟨n + 64, Y, ?_, by omega, hbl, hbw, hK5, HS4, hB5⟩, rfl⟩; go_num)
   case measure => simp [intOf]; omega
  ·have hlen : (l.drop n).length ≤ 64 := by omega
   have hS2 := Lib.hid (hS.out.trans (sumH_last (h := hh) (l := l.drop n) (n := n) (by omega)))
   have hdr := str_drop l n
   obtain ⟨d, hd⟩ : ∃ d, d = l.drop n := ⟨_, rfl⟩
   rw [← hd] at hdr hlen hS2 hld
   have HLD := Lib.hid hld
   clear hd hld
   have x2 : IntKind.u64.wrap (l.length : Int) = (l.length : Int) := by rw [IntKind.wrap_u64]; omega
   go_upto_region 7 with fail
   have hV : (fun u : World => Row u w.heap.size (u32s hh)) wr.drew := Row.blk hK
   have hKd : Blk wr.drew w.heap.size 128 (u32s hh).toArray := hK
   have hGd : Glob wr.drew := hGr.below ((Below.refl _ _).drew)
   have hBd := hB.drew
   refine wp_region_K (by kernel_rfl) (fun _ : World => True) (fun u : World => Row u w.heap.size (u32s hh)) 8 ?_
   change wpAnyK _ _ _ _ _ _ _ _ _ _ wr.drew
   generalize wr.drew = wd at hV hKd hGd hBd ⊢
   clear hK hGr hB
   refine wpAnyK_take 1 (some 29) (v := ?v51) rfl (by kernel_rfl) (by kernel_rfl) (by kernel_rfl) (by decide) (fun _ _ _ h => h) trivial (fun _ => hV) (Or.inl ⟨by rfl, ?hy51⟩) rfl ?_
   case hy51 =>
    intro u _
    go_simp
    try with_reducible rfl
   simp only [Act.put, List.setIfInBounds_toArray, List.set_cons_zero, List.set_cons_succ]
   refine wpAnyK_take 2 (some 30) (v := ?v52) rfl (by kernel_rfl) (by kernel_rfl) (by kernel_rfl) (by decide) (fun _ _ _ h => h) trivial (fun _ => hV) (Or.inl ⟨by rfl, ?hy52⟩) rfl ?_
   case hy52 =>
    intro u _
    go_simp
    try with_reducible rfl
   simp only [Act.put, List.setIfInBounds_toArray, List.set_cons_zero, List.set_cons_succ]
   refine wpAnyK_take 3 (some 31) (v := .string (str d)) rfl (by kernel_rfl) (by kernel_rfl) (by kernel_rfl) (by decide) (fun _ _ _ h => h) trivial (fun _ => hV) (Or.inl ⟨by rfl, ?hy53⟩) rfl ?_
   case hy53 =>
    intro u _
    go_simp
    try with_reducible rfl
   simp only [Act.put, List.setIfInBounds_toArray, List.set_cons_zero, List.set_cons_succ]
   refine wpAnyK_take 5 (some 33) (v := ?v54) rfl (by kernel_rfl) (by kernel_rfl) (by kernel_rfl) (by decide) (fun _ _ _ h => h) trivial (fun _ => hV) (Or.inl ⟨by rfl, ?hy54⟩) rfl ?_
   case hy54 =>
    intro u _
    go_simp
    try with_reducible rfl
   simp only [Act.put, List.setIfInBounds_toArray, List.set_cons_zero, List.set_cons_succ]
   refine wpAnyK_take 6 (some 34) (v := ?v55) rfl (by kernel_rfl) (by kernel_rfl) (by kernel_rfl) (by decide) (fun _ _ _ h => h) trivial (fun _ => hV) (Or.inl ⟨by rfl, ?hy55⟩) rfl ?_
   case hy55 =>
    intro u _
    go_simp
    try with_reducible rfl
   simp only [Act.put, List.setIfInBounds_toArray, List.set_cons_zero, List.set_cons_succ]
   refine wpAnyK_take 7 (some 35) (v := ?v56) rfl (by kernel_rfl) (by kernel_rfl) (by kernel_rfl) (by decide) (fun _ _ _ h => h) trivial (fun _ => hV) (Or.inl ⟨by rfl, ?hy56⟩) rfl ?_
   case hy56 =>
    intro u _
    go_simp
    try with_reducible rfl
   simp only [Act.put, List.setIfInBounds_toArray, List.set_cons_zero, List.set_cons_succ]
   refine wpAnyK_early 0 (some 28) (v := .agg (u32s hh).toArray) rfl (by kernel_rfl) (by kernel_rfl) (by kernel_rfl) (by decide) (fun _ _ _ h => h) trivial hV rfl (by kernel_rfl) (by kernel_rfl) (yields_arr (by rfl) 128 (.tmp 3) rfl w.heap.size rfl (u32s hh) 8 127 (fun u hu => hu) under8 (by rw [info8, hlH])) rfl ?_
   simp only [Act.put, List.setIfInBounds_toArray, List.set_cons_zero, List.set_cons_succ]
   have HBk := Lib.hid (blockP_c (d := d) hlen wd)
   refine wpAnyK_one 4 (by kernel_rfl) rfl (fun K hK => ?_)
   go_simp
   refine HBk.out.mono ?_
   rintro e w3 ⟨he, hb3⟩
   subst he
   dsimp only
   have hK3 := hKd.below hb3 hKd.lt
   have hG3 := hGd.below hb3
   have hB3 := hBd.trans (hb3.mono hBd.size)
   refine hK.out _ _ trivial (fun _ => Row.blk hK3) ?_
   clear hK K HBk hV hKd hGd hBd hb3
   have HCm := compress_c hhl (wds_len (nums (pad d))) hw l.length (by omega) true w3 hG3
   replace HCm := Lib.hid HCm
   refine wpAnyK_one 8 (by kernel_rfl) rfl (fun K hK => ?_)
   go_simp
   refine HCm.out.mono ?_
   rintro e w4 ⟨he, hb4⟩
   subst he
   dsimp only
   have hK4 := hK3.below hb4 hK3.lt
   have hB4 := hB3.trans (hb4.mono hB3.size)
   refine hK.out _ _ trivial (fun _ => Row.blk hK4) ?_
   clear hK K HCm hK3 hG3 hB3 hb4
   refine wpAnyK_late _ _ _ _ (by kernel_rfl) ?_
   have hbl := blk_len hh (wds (nums (pad d))) l.length true
   have hbw := blk_wd (wds (nums (pad d))) true hw (show l.length < 18446744073709551616 by omega)
   have S4 : sumH h0s l 0 = blk hh (wds (nums (pad d))) l.length true := by rw [hS2.out, HLD.out]; congr 1; omega
   obtain ⟨Y, HY⟩ : ∃ Y, Hid (Y = blk hh (wds (nums (pad d))) l.length true) := ⟨_, Lib.hid rfl⟩
   rw [← HY.out] at hbl hbw S4 ⊢
   have hlY : (u32s Y).length = 8 := by rw [u32s_len]; exact hbl
   have hsto := store_arr hK4 (l := Y) (by rw [List.size_toArray, hlH, hbl])
   refine wpAnyH_one 9 (by kernel_rfl) rfl (fun K hK => ?_)
   go_simp
   refine hK.out _ _ trivial ?_
   clear hK K hsto hlY hlH
   refine wpAnyH_done (by kernel_rfl) ?_ _
   have hK5 : Blk (w4.setRow w.heap.size (u32s Y).toArray) w.heap.size 128 (u32s Y).toArray := hK4.set_
   have hB5 := below_setRow hB4 (Nat.le_refl _) (u32s Y).toArray
   generalize w4.setRow w.heap.size (u32s Y).toArray = w5 at hK5 hB5 ⊢
   clear hK4 hB4 HY
   have hrow : Row w5 w.heap.size (u32s Y) := Row.blk hK5
   have hlY : (u32s Y).length = 8 := by rw [u32s_len]; exact hbl
   have hE : Hid (sumL l = bts Y 32) := Lib.hid (by unfold sumL; rw [S4])
   clear S4 hS2 hS
   go_upto_region 8 with fail
   refine wp_region_lit ?_
   refine wpList_load_arr rfl 128 (.tmp 3) rfl w.heap.size rfl (u32s Y) 8 127 hrow under8 (by rw [info8, hlY]) ?_
   simp only [Act.put, List.setIfInBounds_toArray, List.set_cons_zero, List.set_cons_succ]
   have HBo := Lib.hid (bytesOf_c Y hbl w5)
   clear hrow hlY
   go_wp2_with (go_at_call 64; refine HBo.out.mono ?_; rintro e w6 ⟨rfl, hb6⟩)
   go_ret
   exact ⟨by rw [hE.out]; rfl, hB5.trans (hb6.mono hB5.size)⟩
end Go.Proofs.YtkiabladmgagdabGreatDoor.Wirey
