/- Keys' contract: a slice of a list's keys, from the front on, behind slices.Values. No condition. -/
import Derived.Test.YtncgfnocokippaaRingAwake
namespace Go.Proofs.Ytncgfnocokippaa.Ringy
open Go.ChangeShapes Go.WideShapes Go.ChangeAt Go.RowKit
open Wirey (Blk Row str str_size str_list Kp)
open Go.ChangeMaps Go.Maps

theorem flip {f : FuncId} {args : Array Value} {w : World} {v : Ending} (h : Calls Try.prog f args w fun e w' => e = v ∧ w' = w) : Calls Try.prog f args w fun e w' => e = v ∧ w = w' := h.mono fun _ _ ⟨a, b⟩ => ⟨a, b.symm⟩
def strsV (l : List Key) : List Value := l.map fun k => .string (str k)
theorem strsV_snoc (l : List Key) (k : Key) : strsV (l ++ [k]) = strsV l ++ [.string (str k)] := by simp [strsV]
theorem strsV_len (l : List Key) : (strsV l).length = l.length := by simp [strsV]
theorem strsV_at {l : List Key} {i : Nat} (h : i < l.length) : (strsV l)[i]? = some (.string (str (l[i]?.getD []))) := by
  unfold strsV
  rw [List.getElem?_map, List.getElem?_eq_getElem h]
  rfl
theorem str_info : (Try.prog.info? 9).map (fun i => (i.zero, i.size, i.bytes)) = some (some (.string ⟨#[]⟩), 1, 16) := by kernel_rfl

/-- A slice of texts, boxed in block B: what slices.Values' function value has captured. -/
structure Boxes (w : World) (n₀ B : Nat) (l : List Key) : Prop where
  box : ∃ v, Blk w B 34 #[v] ∧ w.ownsRow n₀ 9 1 v l.length (strsV l)
  lo : n₀ ≤ B

theorem own_form {w : World} {base : Nat} {e : TypeId} {size : Nat} {v : Value} {n : Nat} {xs : List Value} (h : w.ownsRow base e size v n xs) : ∃ a c, v = .slice a n c := by
  rcases h.2 with ⟨h1, h2⟩ | ⟨g, cap, cur, h1, _⟩
  · exact ⟨none, 0, by rw [h1, h2]⟩
  · exact ⟨_, _, h1⟩
/-- slices.Values. -/
theorem values_c (a : Option Addr) (n c : Nat) (w : World) :
    Calls Try.prog 93 #[.slice a n c] w fun e w' => e = .returned (.func (.func 96) #[] #[.pointer (some ⟨w.heap.size, 0, none⟩)]) ∧ w' = w.alloc (.cells #[.slice a n c] 34) := by
  go_enter Try.func93, Try.ntmps93
  go_wp2_with fail
  go_ret
  exact ⟨rfl, rfl⟩

/-- A made slice without elements. -/
theorem mk_keys {n : Nat} (h : n < 5000) (w : World) : (Instr.makeSlice 34 (.int .i64 0) (.int .i64 (n : Int))).run Try.prog w = .ok (.slice (some ⟨w.heap.size, 0, none⟩) 0 n) (w.alloc (.cells (List.replicate n (Value.string ⟨#[]⟩)).toArray 9)) ∧
    (w.alloc (.cells (List.replicate n (Value.string ⟨#[]⟩)).toArray 9)).ownsRow w.heap.size 9 1 (.slice (some ⟨w.heap.size, 0, none⟩) 0 n) 0 [] := by
  obtain ⟨i0, hi, hz0, hz1, hz2⟩ := info_parts str_info
  have h1 := run_make (P := Try.prog) w 34 9 i0 (.string ⟨#[]⟩) Try.underlying34 hi hz0 .i64 .i64 0 (n : Int) (by omega) (by omega) (by rw [hz2]; omega) (by omega)
  have e : madeCells (Value.string ⟨#[]⟩).cells (n * 1) = (List.replicate n (Value.string ⟨#[]⟩)).toArray := by
    show madeCells #[Value.string ⟨#[]⟩] (n * 1) = _
    rw [Nat.mul_one]
    apply Array.ext'
    rw [toList_madeCells_one]
  refine ⟨?_, ?_⟩
  · rw [h1, hz1, Int.toNat_natCast, e]; rfl
  · exact ⟨rfl, .inr ⟨_, n, _, rfl, Nat.le_refl _, heap_alloc_new w _, Nat.zero_le _, by unfold maxLen; omega, by simp, by simp⟩⟩

/-- Keys' value: a function over a box that was laid now. -/
def keysF (B : Nat) : Value := .func (.func 96) #[] #[.pointer (some ⟨B, 0, none⟩)]
set_option maxHeartbeats 2000000 in
theorem keys_no {p : Option Addr} {a : Int} (w : World) (hL : Calls Try.prog 72 #[.pointer p, .int .i64 a] w fun e w' => e = .returned (.int .i64 0) ∧ w' = w)
    (hH : ∀ o, Calls Try.prog 86 #[.pointer p, .int .i64 a] (w.alloc o) fun e w' => e = .returned (.bool false) ∧ w' = w.alloc o) :
    Calls Try.prog 84 #[.pointer p, .int .i64 a] w fun e w' => ∃ B, e = .returned (keysF B) ∧ Boxes w' w.heap.size B [] ∧ Below w.heap.size w w' := by
  replace hL := flip hL
  replace hH := fun o => flip (hH o)
  have hmk := fun W => (mk_keys (n := 0) (by omega) W).1
  have hown := (mk_keys (n := 0) (by omega) w).2
  have hb := (Below.refl _ w).alloc (Nat.le_refl _) (.cells (List.replicate 0 (Value.string ⟨#[]⟩)).toArray 9)
  simp only [Int.natCast_zero] at hmk
  have HH := Lib.hid (hH (.cells (List.replicate 0 (Value.string ⟨#[]⟩)).toArray 9))
  clear hH
  generalize hw1 : w.alloc (.cells (List.replicate 0 (Value.string ⟨#[]⟩)).toArray 9) = w1 at *
  have HMK := Lib.hid (hmk w)
  clear hmk
  rw [hw1] at HMK
  have hmk := HMK.out
  clear HMK hw1
  go_enter Try.func84, Try.ntmps84
  go_wp2_with fail
  refine hL.mono ?_
  rintro e w' ⟨rfl, rfl⟩
  go_wp2_with fail
  refine HH.out.mono ?_
  rintro e w' ⟨rfl, rfl⟩
  go_wp2_with fail
  refine (values_c _ _ _ _).mono ?_
  rintro e w' ⟨rfl, rfl⟩
  go_wp2_with fail
  go_ret
  exact ⟨w1.heap.size, rfl, ⟨⟨_, Blk.new _ _ _, hown.alloc _⟩, hb.size⟩, hb.alloc hb.size _⟩
section
variable {m : Rm} {r : Rg}
set_option maxHeartbeats 2000000 in
set_option maxRecDepth 100000 in
theorem keys_c {i : Nat} (w : World) (hA : At w m r) (hi : i < r.n) :
    Calls Try.prog 84 #[.pointer (some ⟨m.R, 0, none⟩), .int .i64 (i : Int)] w fun e w' => ∃ B, e = .returned (keysF B) ∧ Boxes w' w.heap.size B (r.l i) ∧ Below w.heap.size w w' := by
  have hL := flip (len_c' w hA hi)
  have hb1 : (decide (0 ≤ (i : Int)) && decide ((i : Int) < (r.n : Int))) = true := by simp; omega
  have hH := fun o => has_c' (i : Int) (w.alloc o) (hA.alloc o)
  rw [hb1] at hH
  clear hb1
  replace hH := fun o => flip (hH o)
  obtain ⟨lens, S, F, D, pos, h⟩ := hA
  have hsm := h.len_small hi
  have hmk := fun W => (mk_keys hsm W).1
  have hown := (mk_keys hsm w).2
  have hb := (Below.refl _ w).alloc (Nat.le_refl _) (.cells (List.replicate (r.l i).length (Value.string ⟨#[]⟩)).toArray 9)
  have hR := h.raw.alloc (.cells (List.replicate (r.l i).length (Value.string ⟨#[]⟩)).toArray 9)
  have HH := Lib.hid (hH (.cells (List.replicate (r.l i).length (Value.string ⟨#[]⟩)).toArray 9))
  clear hH
  obtain ⟨i0, hi0, hz0, hz1, hz2⟩ := info_parts str_info
  obtain ⟨g, cap, hv⟩ := h.raw.form h.nz
  have hlay := h.lay
  have hiS : i < S.length := Nat.lt_of_lt_of_le hi hlay.sz
  have hmax := h.raw.lt
  generalize hn : (r.l i).length = n at *
  have HN := Lib.hid hn
  clear hn
  generalize hw1 : w.alloc (.cells (List.replicate n (Value.string ⟨#[]⟩)).toArray 9) = w1 at *
  have HMK := Lib.hid (hmk w)
  clear hmk
  rw [hw1] at HMK
  have hmk := HMK.out
  clear HMK hw1
  obtain ⟨-, -, c2, -, -⟩ := hR.cells
  rw [hv] at c2
  obtain ⟨-, -, -, s3⟩ := hR.slotAt hv hiS
  have e3 : (gt S i).behind = nxOf S i := rfl
  rw [e3] at s3
  clear e3
  go_enter Try.func84, Try.ntmps84
  go_wp2_with fail
  refine hL.mono ?_
  rintro e w' ⟨rfl, rfl⟩
  go_wp2_with fail
  refine HH.out.mono ?_
  rintro e w' ⟨rfl, rfl⟩
  go_wp2_with fail
  go_loopw [5, 6] (fun v at_ wr => ∃ (pre rest : List Key) (a : Nat), r.l i = pre ++ rest ∧ Lk (nxOf S) (pvOf S) a (rest.map pos) i ∧ at_ = .int .i64 (nxOf S a : Int) ∧ wr.ownsRow w.heap.size 9 1 v pre.length (strsV pre) ∧ Below w.heap.size w wr) (fun v _ _ => n - (match v with | .slice _ k _ => k | _ => 0))
  case atStart => exact ⟨[], r.l i, i, rfl, hlay.lk i hi, rfl, hown, hb⟩
  case round =>
    obtain ⟨pre, rest, a, hL2, hlk, rfl, hrow, hbw⟩ := hrel
    have HL2 := Lib.hid hL2
    clear hL2
    cases rest with
    | nil =>
      have hai : nxOf S a = i := hlk.1
      rw [hai]
      have e1 : r.l i = pre := by have := HL2.out; simpa using this
      obtain ⟨sa, sc, rfl⟩ := own_form hrow
      go_wp2_with fail
      refine (values_c _ _ _ _).mono ?_
      rintro e w' ⟨rfl, rfl⟩
      go_wp2_with fail
      go_ret
      exact ⟨wr.heap.size, rfl, by rw [e1]; exact ⟨⟨_, Blk.new _ _ _, hrow.alloc _⟩, hbw.size⟩, hbw.alloc hbw.size _⟩
    | cons k rest =>
      have hrest : k ∈ r.l i := by have := HL2.out; rw [this]; simp
      obtain ⟨p1, p2, hk, -⟩ := hlay.at_ i k hi hrest
      have hka : nxOf S a = pos k := hlk.1.1
      have hlk2 := hlk.2
      rw [hka]
      have hRr : RawAt wr m r.places lens S F D := h.raw.below hbw (Nat.le_refl _)
      obtain ⟨-, -, c2, -, -⟩ := hRr.cells
      rw [hv] at c2
      obtain ⟨s0, -, -, s3⟩ := hRr.slotAt hv p2
      rw [hk] at s0
      have e3 : (gt S (pos k)).behind = nxOf S (pos k) := rfl
      rw [e3] at s3
      clear e3 hk
      have hne : decide ((pos k : Int) ≠ (i : Int)) = true := decide_eq_true (by omega)
      have hne2 : ¬ ((pos k : Int) = (i : Int)) := by omega
      have HLK := Lib.hid hlk2
      clear hlk hlk2 hka hrest
      have hwsz : w.heap.size ≤ wr.heap.size := hbw.size
      have hRs : ∀ b, m.own b → (some b) ≠ u5.ownBlock := fun b hb e => by have := (hrow.lt b e.symm).1; have := hmax b hb; omega
      have o2 := hRs _ own_R
      have og := hRs _ (own_g hv)
      have hRl : m.R < wr.heap.size := hRr.hd.lt
      have hgl : g < wr.heap.size := hRr.lt _ (own_g hv)
      have x2 : ∀ o, (wr.alloc o).cell? ⟨m.R, 2, none⟩ = some (.slice (some ⟨g, 0, none⟩) S.length cap) := fun o => by have := (hRr.alloc o).hd.cell 2; rw [hv] at this; exact this
      have x3 : ∀ o, (wr.alloc o).cell? ⟨g, pos k * 4 + 3, none⟩ = some (.int .i64 (nxOf S (pos k) : Int)) := fun o => ((hRr.alloc o).slotAt hv p2).2.2.2
      have hlen : pre.length + 1 ≤ n := by have := HL2.out; have h2 := HN.out; rw [this] at h2; simp at h2; omega
      generalize pos k = p at *
      go_wp2_with (first | (refine wpList_append_lies _ (by rfl) _ _ _ (by rfl) w.heap.size 9 i0 _ 1 16 Try.underlying34 hi0 hz0 hz1 hz2 rfl (by omega) u5 pre.length (strsV pre) (by rfl) (hrow.alloc _) ⟨wr.heap.size, 0, none⟩ 1 1 [.string (str k)] (by rfl) (by rfl) (World.news_of_block (cs := #[.string (str k)]) (t := 9) (fr := (0, 0)) (heap_alloc_new wr _)) (by simp [Value.oneCell']) (by omega) (by simp [maxLen]; omega) (by omega) (by simp; omega) (wr.heap.size + 1) (by simp) ?_; intro gg cp w3 hown1 hgrow hat3 hlt3; have y2 := (hgrow.cell_far ⟨m.R, 2, none⟩ (by simp; omega) o2).trans (x2 _); have y3 := (hgrow.cell_far ⟨g, p * 4 + 3, none⟩ (by simp; omega) og).trans (x3 _)))
      go_roundw
      case rel =>
        rw [← strsV_snoc] at hown1
        refine ⟨pre ++ [k], rest, _, by have := HL2.out; rw [this]; simp, HLK.out, rfl, by simpa using hown1, ?_⟩
        exact (hbw.alloc hwsz _).trans ⟨hgrow.os, hgrow.tape, hgrow.output, hgrow.size, fun b hb => hgrow.block b (by simp; omega) (fun e => by have := (hrow.lt b e.symm).1; omega)⟩
      case measure =>
        obtain ⟨sa, sc, e⟩ := own_form hrow
        rw [e]
        show n - (pre.length + 1) < n - pre.length
        omega
end
end Go.Proofs.Ytncgfnocokippaa.Ringy
