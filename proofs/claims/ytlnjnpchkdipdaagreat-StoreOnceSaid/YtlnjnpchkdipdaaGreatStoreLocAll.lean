/- The program's cache lets entries go while there are too many bytes. The only condition: the cache is one that may be. A call's own blocks beside the cache. No condition. -/
import Derived.Test.YtlnjnpchkdipdaaGreatStoreMove
namespace Go.Proofs.YtlnjnpchkdipdaaGreat.Storey
open Go.ChangeShapes Go.WideShapes Go.ChangeAt Go.RowKit
open Wirey (Blk Row str str_size str_list Kp)
open Taby (En TabAt Tbl tp find ins drop size ended St)
open Policyy (Pv HeldP StepP Tell)
open Ringy (Key)
open Regy

section
variable {w0 w w' w'' : World} {B b T M C S : Nat} {H H' : Nat → Prop} {s t : Sv} {k : Key} {v : Value} {l : List Key}
theorem fit_done {f : Nat} (h : size t.m ≤ t.bytes) : Sv.fit f t = t := by
  cases f with
  | zero => rfl
  | succ f => rw [Sv.fit, if_pos h]
theorem evict_size (hB : t.Base) (hg : t.p.goes = some k) : size (t.evict k).m < size t.m := by
  have h1 := (hB.fit.goes_yes hg).1
  rw [hB.has] at h1
  cases e : find k t.m with
  | none => rw [e] at h1; cases h1
  | some y =>
    have h2 := (Taby.drop_one hB.rise e).2
    have h3 := (hB.ent y (Taby.find_mem e).1).1
    show size (drop k t.m) < size t.m
    omega
theorem bytesT_c {m : List En} (hm : m.length ≤ 100000) (h : TabAt w T M m) : Calls Tryz.prog 156 #[tp T] w fun e w' => e = .returned (.int .i64 (size m : Int)) ∧ Below w.heap.size w w' :=
  Taby.bytes_c (w0 := { w with heap := #[] }) (P := Tbl T M) hm ⟨M, h, fun _ => Iff.rfl, Nat.zero_le _, Nat.zero_le _⟩
def cellOf (T : Nat) (w : World) : Nat := (intOf ((w.cell? ⟨T, 1, none⟩).getD undef)).toNat
theorem cellOf_at (h : At w0 w b T M C S H t) : cellOf T w = size t.m := by
  have : w.cell? ⟨T, 1, none⟩ = some (.int .i64 (size t.m : Int)) := h.tab.hd.cell 1
  unfold cellOf
  rw [this]
  simp [intOf]
set_option maxRecDepth 100000 in
theorem fit_s (hB : s.Base) (h : At w0 w b T M C S H s) :
    Calls Tryz.prog 124 #[tp b] w fun e w' => e = .returned (.tuple #[]) ∧ ∃ H', At w0 w' b T M C S H' (Sv.fit s.m.length s) ∧ Stp b T M S w H w' H' := by
  go_enter Tryz.func124, Tryz.ntmps124
  go_wp2_with fail
  go_loopw [] (fun wr => ∃ (f : Nat) (t : Sv) (H' : Nat → Prop), Sv.fit s.m.length s = Sv.fit f t ∧ t.m.length ≤ f ∧ t.Base ∧ At w0 wr b T M C S H' t ∧ Stp b T M S w H wr H') (fun wr => cellOf T wr)
  case atStart => exact ⟨s.m.length, s, H, rfl, Nat.le_refl _, hB, h, .refl⟩
  case round =>
    clear h hB
    obtain ⟨f, t, H1, hf, hl, hB, hA, hS⟩ := hrel
    have hlen := hB.len.2
    have hn2 := hB.n2
    have hm : t.m.length ≤ 100000 := by omega
    have hsz := Taby.size_le hB.eok
    have mk : ∀ W, At w0 W b T M C S H1 t → Stp b T M S w H W H1 → W.cell? ⟨b, 9, none⟩ = some (tp T) ∧ W.cell? ⟨b, 2, none⟩ = some (.int .i64 (t.bytes : Int)) ∧ At w0 W b T M C S H1 t ∧ Stp b T M S w H W H1 := fun W h hs => ⟨h.c rfl, h.c rfl, h, hs⟩
    have hmeas := cellOf_at hA
    have HF := Lib.hid hf
    clear hf
    go_wp2_with fail
    refine region_only 11 #[false, false, false, false, false, false, false, false, false, false, false] (S := fun W => W.cell? ⟨b, 9, none⟩ = some (tp T) ∧ W.cell? ⟨b, 2, none⟩ = some (.int .i64 (t.bytes : Int)) ∧ At w0 W b T M C S H1 t ∧ Stp b T M S w H W H1) rfl rfl (by kernel_rfl) (mk _ hA.drew (hS.later (D := wr.heap.size) ⟨rfl, rfl, rfl, Nat.le_refl _, fun _ _ => rfl⟩ (Nat.le_refl _))) (fun hSw => ?_)
    refine take_at 0 4 (fuel := 10) ?_ rfl rfl (by kernel_rfl) (by kernel_rfl) (by kernel_rfl) (Or.inl ⟨by rfl, ?_⟩) hSw ?_
    rotate_left
    · intro wx hSx
      (try dsimp only at hSx)
      go_split_ands
      go_simp
      (try with_reducible rfl)
    simp only [List.setIfInBounds_toArray, List.set_cons_zero, List.set_cons_succ]
    refine take_at 1 5 (fuel := 9) ?_ rfl rfl (by kernel_rfl) (by kernel_rfl) (by kernel_rfl) (Or.inl ⟨by rfl, ?_⟩) hSw ?_
    rotate_left
    · intro wx hSx
      (try dsimp only at hSx)
      go_split_ands
      go_simp
      (try with_reducible rfl)
    simp only [List.setIfInBounds_toArray, List.set_cons_zero, List.set_cons_succ]
    refine take_at 2 6 (fuel := 8) ?_ rfl rfl (by kernel_rfl) (by kernel_rfl) (by kernel_rfl) (Or.inl ⟨by rfl, ?_⟩) hSw ?_
    rotate_left
    · intro wx hSx
      (try dsimp only at hSx)
      go_split_ands
      go_simp
      (try with_reducible rfl)
    simp only [List.setIfInBounds_toArray, List.set_cons_zero, List.set_cons_succ]
    refine take_at 3 7 (fuel := 7) ?_ rfl rfl (by kernel_rfl) (by kernel_rfl) (by kernel_rfl) (Or.inl ⟨by rfl, ?_⟩) hSw ?_
    rotate_left
    · intro wx hSx
      (try dsimp only at hSx)
      go_split_ands
      go_simp
      (try with_reducible rfl)
    simp only [List.setIfInBounds_toArray, List.set_cons_zero, List.set_cons_succ]
    refine take_at 5 9 (fuel := 6) ?_ rfl rfl (by kernel_rfl) (by kernel_rfl) (by kernel_rfl) (Or.inl ⟨by rfl, ?_⟩) hSw ?_
    rotate_left
    · intro wx hSx
      (try dsimp only at hSx)
      go_split_ands
      go_simp
      (try with_reducible rfl)
    simp only [List.setIfInBounds_toArray, List.set_cons_zero, List.set_cons_succ]
    refine take_at 6 10 (fuel := 5) ?_ rfl rfl (by kernel_rfl) (by kernel_rfl) (by kernel_rfl) (Or.inl ⟨by rfl, ?_⟩) hSw ?_
    rotate_left
    · intro wx hSx
      (try dsimp only at hSx)
      go_split_ands
      go_simp
      (try with_reducible rfl)
    simp only [List.setIfInBounds_toArray, List.set_cons_zero, List.set_cons_succ]
    refine take_at 7 11 (fuel := 4) ?_ rfl rfl (by kernel_rfl) (by kernel_rfl) (by kernel_rfl) (Or.inl ⟨by rfl, ?_⟩) hSw ?_
    rotate_left
    · intro wx hSx
      (try dsimp only at hSx)
      go_split_ands
      go_simp
      (try with_reducible rfl)
    simp only [List.setIfInBounds_toArray, List.set_cons_zero, List.set_cons_succ]
    refine take_at 8 12 (fuel := 3) ?_ rfl rfl (by kernel_rfl) (by kernel_rfl) (by kernel_rfl) (Or.inl ⟨by rfl, ?_⟩) hSw ?_
    rotate_left
    · intro wx hSx
      (try dsimp only at hSx)
      go_split_ands
      go_simp
      (try with_reducible rfl)
    simp only [List.setIfInBounds_toArray, List.set_cons_zero, List.set_cons_succ]
    refine take_at 9 13 (fuel := 2) ?_ rfl rfl (by kernel_rfl) (by kernel_rfl) (by kernel_rfl) (Or.inl ⟨by rfl, ?_⟩) hSw ?_
    rotate_left
    · intro wx hSx
      (try dsimp only at hSx)
      go_split_ands
      go_simp
      (try with_reducible rfl)
    simp only [List.setIfInBounds_toArray, List.set_cons_zero, List.set_cons_succ]
    refine wpAnyH_ready (fuel := 1) (rs := [4]) (by kernel_rfl) (by simp) (AllReadyH.cons rfl (fun K hK => ?_) AllReadyH.nil)
    go_simp
    refine Calls.mono (bytesT_c hm hSw.2.2.1.tab) ?_
    rintro e wv ⟨rfl, hbv⟩
    refine hK.out _ _ (mk _ (hSw.2.2.1.below hbv) (hSw.2.2.2.later hbv (Nat.le_refl _))) (fun hSw => ?_)
    clear hK K
    simp only [List.setIfInBounds_toArray, List.set_cons_zero, List.set_cons_succ]
    refine take_at 10 14 (fuel := 0) ?_ rfl rfl (by kernel_rfl) (by kernel_rfl) (by kernel_rfl) (Or.inl ⟨by rfl, ?_⟩) hSw ?_
    rotate_left
    · intro wx hSx
      (try dsimp only at hSx)
      go_split_ands
      go_simp
      (try with_reducible rfl)
    simp only [List.setIfInBounds_toArray, List.set_cons_zero, List.set_cons_succ]
    refine wpAnyH_done (by kernel_rfl) ⟨rfl, ?_⟩ 0
    obtain ⟨-, -, h2, s2⟩ := hSw
    by_cases hle : size t.m ≤ t.bytes
    · have d1 : decide ((t.bytes : Int) < (size t.m : Int)) = false := decide_eq_false (by omega)
      go_wp2_with fail
      (try simp only [Exit.inBlock, Exit.then])
      exact bodyPost_end (v := .tuple #[]) (results_none rfl _ _ _) rfl ⟨rfl, H1, by rw [HF.out, fit_done hle]; exact h2, s2⟩
    · have d1 : decide ((t.bytes : Int) < (size t.m : Int)) = true := decide_eq_true (by omega)
      cases hg : t.p.goes with
      | none =>
        exfalso
        have h0 := hB.fit.goes_no hg
        rw [hB.len.1] at h0
        rw [List.eq_nil_of_length_eq_zero h0] at hle
        exact hle (Nat.zero_le _)
      | some k =>
        have hev := hB.evicts hg
        have hlt := evict_size hB hg
        have hk := (hB.fit.goes_yes hg).1
        have hk64 : k.length ≤ 64 := by
          rw [hB.has] at hk
          cases e : find k t.m with
          | none => rw [e] at hk; cases hk
          | some y => have h3 := Taby.find_mem e; rw [← h3.2]; exact (hB.eok y h3.1).key
        have hcall := Policyy.evictP_c h2.pol
        rw [hg] at hcall
        simp only [Option.getD_some, Option.isSome_some] at hcall
        obtain ⟨-, -, -, -, -, -, -, -, -, -, d10, -⟩ := h2.cs
        have HG := Lib.hid hg
        have HLT := Lib.hid hlt
        clear hg hlt
        go_wp2_with fail
        refine hcall.mono ?_
        rintro e w3 ⟨rfl, H2, hp, hs⟩
        obtain ⟨h3, s3⟩ := h2.pols hp hs
        obtain ⟨-, -, -, -, -, -, -, -, -, e9, -, -⟩ := h3.cs
        have hm3 : ({ t with p := t.p.evict } : Sv).m.length ≤ 100000 := hm
        clear hcall hp hs
        go_wp2_with fail
        refine (Taby.drop_t k hk64 hm _ h3.tab).mono ?_
        rintro e w4 ⟨rfl, ht, hk4⟩
        obtain ⟨h4, s4⟩ := h3.tabs ht hk4
        have hS4 := (s2.trans s3).trans s4
        have hA4 : At w0 w4 b T M C S H2 (t.evict k) := h4
        clear hm3 h3 s3 h4 s4 ht hk4 e9 d10 h2 s2
        go_wp2_with fail
        go_roundw
        case rel =>
          cases f with
          | zero => have := hev.2; omega
          | succ f =>
            refine ⟨f, t.evict k, H2, ?_, by have := hev.2; omega, hev.1, hA4, hS4⟩
            rw [HF.out, Sv.fit, if_neg hle, HG.out]
        case measure => rw [cellOf_at hA4, hmeas]; exact HLT.out
end
end Go.Proofs.YtlnjnpchkdipdaaGreat.Storey
namespace Go.Proofs.YtlnjnpchkdipdaaGreat.Storey
open Go.ChangeShapes Go.WideShapes Go.ChangeAt Go.RowKit
open Wirey (Blk Row str str_size str_list Kp)
open Taby (En TabAt Tbl tp find ins drop size ended St)
open Policyy (Pv HeldP StepP Tell)
open Ringy (Key)

structure Loc (q : Nat) (ty : TypeId) (cs : Array Value) (b T M S : Nat) (H : Nat → Prop) (W : World) : Prop where
  blk : Blk W q ty cs
  no : ¬ Own b T M S H q
section
variable {w0 w w' W : World} {b T M C S q r : Nat} {H H' : Nat → Prop} {s t : Sv} {ty : TypeId} {cs : Array Value}
theorem At.not (h : At w0 w b T M C S H s) (hq : w.heap.size ≤ q) : ¬ Own b T M S H q := fun ho => by have := (h.low q ho).2; omega
theorem Loc.new (h : At w0 w b T M C S H s) (ty : TypeId) (cs : Array Value) : Loc w.heap.size ty cs b T M S H (w.alloc (.cells cs ty)) := ⟨Blk.new w ty cs, h.not (Nat.le_refl _)⟩
theorem Loc.step (h : Loc q ty cs b T M S H w) (hs : Stp b T M S w H w' H') : Loc q ty cs b T M S H' w' :=
  ⟨(hs.kp.block q h.blk.lt h.no).trans h.blk, fun ho => by
    rcases ho with h1 | h1 | h1 | h1 | h1
    · exact h.no (.inl h1)
    · exact h.no (.inr (.inl h1))
    · exact h.no (.inr (.inr (.inl h1)))
    · exact h.no (.inr (.inr (.inr (.inl h1))))
    · rcases hs.new q h1 with h2 | h2
      · exact h.no (.inr (.inr (.inr (.inr h2))))
      · have := h.blk.lt; omega⟩
theorem Loc.below (h : Loc q ty cs b T M S H w) (hb : Below w.heap.size w w') : Loc q ty cs b T M S H w' := h.step (.of_below hb (Nat.le_refl _))
theorem Loc.alloc (h : Loc q ty cs b T M S H w) (o : Obj) : Loc q ty cs b T M S H (w.alloc o) := h.below ((Below.refl _ w).alloc (Nat.le_refl _) o)
theorem Loc.drew (h : Loc q ty cs b T M S H w) : Loc q ty cs b T M S H w.drew := ⟨h.blk, h.no⟩
theorem Loc.far (h : Loc q ty cs b T M S H w) (hq : q ≠ r) (i : Nat) (u : Value) : Loc q ty cs b T M S H (w.setCell ⟨r, i, none⟩ u) := ⟨h.blk.far hq u, h.no⟩
theorem Loc.c (h : Loc q ty cs b T M S H w) {i : Nat} {u : Value} (hu : cs[i]? = some u) : w.cell? ⟨q, i, none⟩ = some u := (h.blk.cell i).trans hu
theorem Loc.f (h : Loc q ty cs b T M S H w) (i : Nat) : w.frozen? ⟨q, i, none⟩ = false := h.blk.free i
/-- A cell of a call's own block is written. -/
theorem At.beside (h : At w0 w b T M C S H s) (hr : ¬ Own b T M S H r) (hr0 : w0.heap.size ≤ r) (i : Nat) (u : Value) : At w0 (w.setCell ⟨r, i, none⟩ u) b T M C S H s :=
  h.kp (O := fun k => k = r) ⟨rfl, rfl, rfl, by simp [World.setCell], fun q _ hq => Below.heap_setCell w _ u q hq⟩ fun k hk => by subst hk; exact ⟨hr0, hr⟩
theorem Stp.set (h : Stp b T M S w H w' H') (hr : w.heap.size ≤ r) (i : Nat) (u : Value) : Stp b T M S w H (w'.setCell ⟨r, i, none⟩ u) H' :=
  ⟨⟨h.kp.os, h.kp.tape, h.kp.output, by have := h.kp.size; simpa [World.setCell] using this, fun k hk hn => (Below.heap_setCell w' _ u k (by show k ≠ r; omega)).trans (h.kp.block k hk hn)⟩, h.new⟩
theorem put3 {a c d : Value} (h : Blk w r ty #[a, c, d]) (x y z : Value) : Blk (((w.setCell ⟨r, 0, none⟩ x).setCell ⟨r, 1, none⟩ y).setCell ⟨r, 2, none⟩ z) r ty #[x, y, z] := ((h.put 0 x).put 1 y).put 2 z
/-- What is told is written, at a call's end. -/
theorem rep3 {a c d : Value} (h0 : At w0 w b T M C S H s) (h : At w0 W b T M C S H' t) (hs : Stp b T M S w H W H') (hL : Loc r ty #[a, c, d] b T M S H' W) (hr : w.heap.size ≤ r) (x y z : Value) :
    Blk (((W.setCell ⟨r, 0, none⟩ x).setCell ⟨r, 1, none⟩ y).setCell ⟨r, 2, none⟩ z) r ty #[x, y, z] ∧ At w0 (((W.setCell ⟨r, 0, none⟩ x).setCell ⟨r, 1, none⟩ y).setCell ⟨r, 2, none⟩ z) b T M C S H' t ∧ Stp b T M S w H (((W.setCell ⟨r, 0, none⟩ x).setCell ⟨r, 1, none⟩ y).setCell ⟨r, 2, none⟩ z) H' :=
  have hr0 := Nat.le_trans h0.since.size hr
  ⟨put3 hL.blk x y z, ((h.beside hL.no hr0 0 x).beside hL.no hr0 1 y).beside hL.no hr0 2 z, ((hs.set hr 0 x).set hr 1 y).set hr 2 z⟩
theorem Kys.tell {v : Value} {l : List Key} (h : At w0 w b T M C S H s) (hT : Tell w.heap.size H' v l w') : Kys w.heap.size b T M S H' v l w' :=
  ⟨hT.row, fun g hg ho => by
    have h1 := (hT.row.lt g hg).1
    have h2 : ∀ k, Own b T M S (fun _ => False) k → k < w.heap.size := fun k hk => (h.low k (by
      rcases hk with a | a | a | a | a
      · exact .inl a
      · exact .inr (.inl a)
      · exact .inr (.inr (.inl a))
      · exact .inr (.inr (.inr (.inl a)))
      · exact a.elim)).2
    rcases ho with a | a | a | a | a
    · have := h2 g (.inl a); omega
    · have := h2 g (.inr (.inl a)); omega
    · have := h2 g (.inr (.inr (.inl a))); omega
    · have := h2 g (.inr (.inr (.inr (.inl a)))); omega
    · exact hT.no g hg a⟩
theorem fall_len : ∀ (L : List Key) (s : Sv), (L.foldl Sv.fall s).m.length ≤ s.m.length
  | [], _ => Nat.le_refl _
  | a :: L, s => Nat.le_trans (fall_len L (s.fall a)) Taby.drop_len
end
/-- A call under way: the cache, what it was turned by since the call began, and two of the call's own blocks. -/
structure Fr (w0 w : World) (b T M C S : Nat) (H : Nat → Prop) (q : Nat) (tq : TypeId) (cq : Array Value) (r : Nat) (tr : TypeId) (cr : Array Value) (W : World) (H' : Nat → Prop) (t : Sv) : Prop where
  at_ : At w0 W b T M C S H' t
  st : Stp b T M S w H W H'
  lq : Loc q tq cq b T M S H' W
  lr : Loc r tr cr b T M S H' W
section
variable {w0 w W W' : World} {b T M C S q r p : Nat} {H H' H'' : Nat → Prop} {s t t' : Sv} {tq tr : TypeId} {cq cr : Array Value}
theorem Fr.step (h : Fr w0 w b T M C S H q tq cq r tr cr W H' t) (hA : At w0 W' b T M C S H'' t') (hs : Stp b T M S W H' W' H'') : Fr w0 w b T M C S H q tq cq r tr cr W' H'' t' := ⟨hA, h.st.trans hs, h.lq.step hs, h.lr.step hs⟩
theorem Fr.below (h : Fr w0 w b T M C S H q tq cq r tr cr W H' t) (hb : Below W.heap.size W W') : Fr w0 w b T M C S H q tq cq r tr cr W' H' t := h.step (h.at_.below hb) (.of_below hb (Nat.le_refl _))
theorem Fr.drew (h : Fr w0 w b T M C S H q tq cq r tr cr W H' t) : Fr w0 w b T M C S H q tq cq r tr cr W.drew H' t := h.below ⟨rfl, rfl, rfl, Nat.le_refl _, fun _ _ => rfl⟩
theorem Fr.alloc (h : Fr w0 w b T M C S H q tq cq r tr cr W H' t) (o : Obj) : Fr w0 w b T M C S H q tq cq r tr cr (W.alloc o) H' t := h.below ((Below.refl _ W).alloc (Nat.le_refl _) o)
theorem Fr.set (h : Fr w0 w b T M C S H q tq cq r tr cr W H' t) (h0 : w0.heap.size ≤ w.heap.size) (hp : ¬ Own b T M S H' p) (hq : p ≠ q) (hr : p ≠ r) (hw : w.heap.size ≤ p) (i : Nat) (u : Value) : Fr w0 w b T M C S H q tq cq r tr cr (W.setCell ⟨p, i, none⟩ u) H' t :=
  ⟨h.at_.beside hp (Nat.le_trans h0 hw) i u, h.st.set hw i u, h.lq.far (fun e => hq e.symm) i u, h.lr.far (fun e => hr e.symm) i u⟩
theorem Fr.ne (h : Fr w0 w b T M C S H q tq cq r tr cr W H' t) (hp : W.heap.size ≤ p) : p ≠ q ∧ p ≠ r ∧ w.heap.size ≤ p := by
  have := h.lq.blk.lt
  have := h.lr.blk.lt
  have := h.st.kp.size
  omega
end
abbrev Opn.cs (o : Opn) : Array Value := #[.int .i64 o.kind, .string (str o.key), .string (str o.val), .int .u64 (o.ttl : Int), .int .u64 (o.ver : Int)]
abbrev rep0 : Array Value := #[.int .i64 0, .string ⟨#[]⟩, .int .u64 0]
end Go.Proofs.YtlnjnpchkdipdaaGreat.Storey
