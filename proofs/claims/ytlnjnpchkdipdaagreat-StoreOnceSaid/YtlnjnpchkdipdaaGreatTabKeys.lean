/- The program's table: Keys and Ended: keys sorted by the library. The only condition: there are not too many. -/
import Derived.Test.YtlnjnpchkdipdaaGreatTabOpsAll
import Derived.Test.YtlnjnpchkdipdaaGreatLays
import Derived.Test.YtlnjnpchkdipdaaGreatTabMemAll
import Derived.Test.YtlnjnpchkdipdaaGreatWireFlyAll
import Derived.Laws.Cover1
import Derived.BigQuiet
import Derived.Lib.Hide
import Derived.Sort.OwnSorted
import Derived.Maps.RangeWalk
namespace Go.Proofs.YtlnjnpchkdipdaaGreat.Taby
open Go.ChangeShapes Go.WideShapes Go.ChangeAt Go.RowKit Go.ChangeMaps Go.Maps Go.Sort Go.Shelf
open Wirey (Blk Row str str_size str_list str_inj Kp)
theorem sortsZ (m : Nat) : AnyZ.SortsIn Tryz.prog Tryz.sorted76_ren Fence.wide m :=
  ⟨fun blk off cap ss W hH hblk hsz => callsIn_wide.2 (AnyM.slices_Sort_string Tryz.sort87 blk off cap ss W hH hblk hsz),
   fun p cap W => callsIn_wide.2 (AnyM.slices_Sort_string_none Tryz.sort87 p cap W)⟩
theorem mapsKeys (mb : Option Nat) (W : World) : CallsIn Fence.wide 5 Tryz.prog 77 #[.map mb] W fun e w' => e = .returned (.func (.func 111) #[] #[.pointer (some ⟨W.heap.size, 0, none⟩)]) ∧ w' = W.alloc (.cells #[.map mb] 123) :=
  AnyZ.keys_in Tryz.keys77 Fence.wide 5 trivial rfl mb W
set_option maxHeartbeats 1000000 in
/-- What slices.Sorted tells of what maps.Keys handed back. -/
theorem sortedKeys {H : Type} (b nn : Nat) (D0 : DataW H) (R : Value → Option (DataW H × List MemPlace)) (w : World) (hown : w.ownsMap Tryz.prog 9 R b nn D0) (hmax : Maps.size D0 ≤ maxLen) (hbytes : Maps.size D0 * 16 ≤ 140737488355328) :
    CallsIn Fence.wide 5 Tryz.prog 76 #[.func (.func 111) #[] #[.pointer (some ⟨w.heap.size, 0, none⟩)]] (w.alloc (.cells #[.map (some b)] 123)) fun e w' => ∃ (v : Value) (ss : List (List UInt8)), e = .returned v ∧ ss.Perm (strKeys D0) ∧
      w'.ownsRow (w.alloc (.cells #[.map (some b)] 123)).heap.size 9 1 v ss.length ((ss.mergeSort (fun x y => decide (x ≤ y))).map encStr) ∧ (v = .slice none 0 0 ↔ ss = []) ∧ Below (w.alloc (.cells #[.map (some b)] 123)).heap.size (w.alloc (.cells #[.map (some b)] 123)) w' := by
  have hbl := hown.lt
  have hseq : SeqGives Fence.wide 2 Tryz.prog 111 #[.pointer (some ⟨w.heap.size, 0, none⟩)] encStr (fun ss => ss.Perm (strKeys D0)) (Maps.size D0) (w.alloc (.cells #[.map (some b)] 123)) :=
    AnyZ.keys_gives (ρ := Tryz.keys77_ren) { Tryz.keys77 with } Fence.wide _ trivial rfl (by omega) w.heap.size b nn D0 _ (by simp) (by simp) (by
      obtain ⟨es, clock, hb, Ft, hs, hD⟩ := hown
      exact ⟨es, clock, (Below.heap_alloc _ _ b hbl).trans hb, Ft, hs, hD⟩)
  exact AnyZ.sorted_in Tryz.sorted76 Fence.wide 5 trivial trivial trivial trivial rfl (by omega) (sortsZ _) (enters_of Tryz.func87 (by kernel_rfl) rfl) 111 #[.pointer (some ⟨w.heap.size, 0, none⟩)] trivial (enters_of Tryz.func111 (by kernel_rfl) rfl) _ _ hmax hbytes _ hseq

/-! ### Sorted lists -/
def keysOf (l : List En) : List (List UInt8) := l.map (·.key)
def ended (now : Nat) (l : List En) : List (List UInt8) := (l.filter fun x => decide (0 < x.fin) && decide (x.fin ≤ now)).map (·.key)
theorem less_lt {a b : List UInt8} : less a b = true ↔ a < b := by
  show Op.bytesLess a b = true ↔ _
  rw [bytesLess_eq, decide_eq_true_eq]
/-- What rises is what its sorting gives. -/
theorem sort_of {l s : List (List UInt8)} (hp : s.Perm l) (hr : l.Pairwise fun a b => less a b = true) : s.mergeSort (fun x y => decide (x ≤ y)) = l := by
  rw [show s.mergeSort (fun x y => decide (x ≤ y)) = l.mergeSort (fun x y => decide (x ≤ y)) from mergeSort_of_perm hp]
  exact List.mergeSort_of_pairwise (hr.imp fun h => decide_eq_true (List.le_of_lt (less_lt.1 h)))
theorem keys_rise {m : List En} (h : Rise m) : (keysOf m).Pairwise fun a b => less a b = true := List.pairwise_map.2 h
theorem ended_rise {m : List En} (now : Nat) (h : Rise m) : (ended now m).Pairwise fun a b => less a b = true := List.pairwise_map.2 (List.Pairwise.filter _ h)
theorem nodup_of_rise {l : List (List UInt8)} (h : l.Pairwise fun a b => less a b = true) : l.Nodup := h.imp fun h => less_ne h
theorem mem_keys {m : List En} {k : List UInt8} : k ∈ keysOf m ↔ (find k m).isSome = true := by
  unfold keysOf
  rw [List.mem_map]
  constructor
  · rintro ⟨x, hx, rfl⟩
    cases hf : find x.key m with
    | none => exact absurd rfl (find_none.1 hf x hx)
    | some y => rfl
  · intro h
    cases hf : find k m with
    | none => rw [hf] at h; cases h
    | some x => exact ⟨x, (find_mem hf).1, (find_mem hf).2⟩
theorem mem_ended {m : List En} {now : Nat} {k : List UInt8} (hr : Rise m) : k ∈ ended now m ↔ ∃ x, find k m = some x ∧ 0 < x.fin ∧ x.fin ≤ now := by
  unfold ended
  rw [List.mem_map]
  constructor
  · rintro ⟨x, hx, rfl⟩
    obtain ⟨h1, h2⟩ := List.mem_filter.1 hx
    rw [Bool.and_eq_true, decide_eq_true_eq, decide_eq_true_eq] at h2
    exact ⟨x, find_of_mem hr h1, h2⟩
  · rintro ⟨x, hf, h1, h2⟩
    exact ⟨x, List.mem_filter.2 ⟨(find_mem hf).1, by rw [Bool.and_eq_true, decide_eq_true_eq, decide_eq_true_eq]; exact ⟨h1, h2⟩⟩, (find_mem hf).2⟩
theorem keysOf_len (m : List En) : (keysOf m).length = m.length := List.length_map _
section
variable {w0 w : World} {P : Nat → Prop} {b M : Nat} {m : List En}
theorem MapAt.perm {D : DataW Unit} (h : MapAt w M m D) (hr : Rise m) : (keysOf m).Perm (strKeys D) :=
  Collected.perm (left := fun _ => false) ⟨nodup_of_rise (keys_rise hr), fun x => by rw [mem_keys, show Lit.string x = kl x from rfl, h.has]; simp⟩ h.mp key_law Tryz.underlying9 (fun _ => rfl)
set_option maxHeartbeats 1000000 in
theorem keys_t (hl : m.length ≤ 100000) (w : World) (h : TabAt w b M m) : Calls Tryz.prog 46 #[tp b] w fun e w' => ∃ v, e = .returned v ∧ St w' w.heap.size v (keysOf m) ∧ Below w.heap.size w w' := by
  have c0 : w.cell? ⟨b, 0, none⟩ = some (.map (some M)) := h.hd.cell 0
  obtain ⟨D, hD⟩ := h.mp
  have hperm := hD.perm h.rise
  have hsz := hD.size
  have hS := callsIn_wide.1 (sortedKeys M m.length D RE w hD.mp (by unfold maxLen; omega) (by omega))
  have hK := callsIn_wide.1 (mapsKeys (some M) w)
  have hrise := keys_rise h.rise
  have hb := (Below.refl _ w).alloc (Nat.le_refl _) (.cells #[.map (some M)] 123)
  have hbs := hb.size
  clear hD h hsz
  go_enter Tryz.func46, Tryz.ntmps46
  go_wp2_with fail
  refine hK.mono ?_
  rintro e w1 ⟨rfl, rfl⟩
  go_wp2_with fail
  refine hS.mono ?_
  rintro e w1 ⟨v, ss, rfl, hp, hrow, -, hb1⟩
  go_wp2_with fail
  go_ret
  refine ⟨v, rfl, ?_, hb.trans (hb1.mono hbs)⟩
  rw [sort_of (hp.trans hperm.symm) hrise, (hp.trans hperm.symm).length_eq] at hrow
  exact St.low (B := _) hrow hbs
/-- Texts are sorted where they lie. -/
theorem sort_c {B : Nat} {v : Value} {out l : List (List UInt8)} (w : World) (h : St w B v out) (hn : out.length < 1000000) (hp : out.Perm l) (hr : l.Pairwise fun a b => less a b = true) :
    Calls Tryz.prog 87 #[v] w fun e w' => e = .returned (.tuple #[]) ∧ St w' B v l ∧ Below B w w' := by
  have hs := sort_of hp hr
  rcases h.2 with ⟨rfl, h0⟩ | ⟨g, cap, cur, rfl, hB, hb, h1, h2, h3, h4⟩
  · have e0 : out = [] := List.length_eq_zero_iff.1 h0
    subst e0
    obtain rfl : l = [] := List.Perm.eq_nil hp.symm
    refine (AnyM.slices_Sort_string_none Tryz.sort87 none 0 w).mono ?_
    rintro e w' ⟨rfl, rfl⟩
    exact ⟨rfl, h, Below.refl _ _⟩
  · have hlt := (h.lt g rfl).2
    refine (AnyM.slices_Sort_string Tryz.sort87 g 0 cap out w (holds_of_block hb (by rw [Nat.mul_one] at h4; exact h4)) hlt (by omega)).mono ?_
    rintro e w' ⟨rfl, n, os, rfl⟩
    rw [hs]
    refine ⟨rfl, ?_, ?_⟩
    · have hO := ownsRow_sorted (n := n) (os := os) (ts := l) hp.length_eq.symm hB hb h1 h2 h3
      unfold St
      rw [← hp.length_eq]
      exact hO
    · have hg := grownBy_sorted (w := w) (g := g) (n := n) (os := os) l.toArray
      exact ⟨hg.os, hg.tape, hg.output, hg.size, fun k hk => hg.block k (by omega) (fun e => by have := Option.some.inj e; omega)⟩

/-! ### Ended -/
/-- What was gathered: of entries that are no longer to come, those that have ended. -/
structure Coll (now : Nat) (m : List En) (left : Lit → Bool) (out : List (List UInt8)) : Prop where
  nd : out.Nodup
  mem : ∀ k, k ∈ out ↔ (∃ x, find k m = some x ∧ 0 < x.fin ∧ x.fin ≤ now) ∧ left (kl k) = false
  sub : ∀ k ∈ out, k ∈ keysOf m
theorem Coll.len {now : Nat} {left : Lit → Bool} {out : List (List UInt8)} (h : Coll now m left out) (hr : Rise m) : out.length ≤ m.length := by
  have hp : out.Perm ((keysOf m).filter fun k => decide (k ∈ out)) := (List.perm_ext_iff_of_nodup h.nd ((nodup_of_rise (keys_rise hr)).filter _)).2 fun k => by
    rw [List.mem_filter, decide_eq_true_eq]
    exact ⟨fun hk => ⟨h.sub k hk, hk⟩, fun hk => hk.2⟩
  rw [hp.length_eq, ← keysOf_len m]
  exact List.length_filter_le _ _
theorem Coll.start (now : Nat) {D : DataW Unit} (hD : ∀ k, Maps.has D (kl k) = (find k m).isSome) : Coll now m (Maps.has D) [] :=
  ⟨List.nodup_nil, fun k => ⟨fun h => (by cases h), fun ⟨⟨x, hf, _⟩, hl⟩ => (by rw [hD, hf] at hl; cases hl)⟩, fun k h => (by cases h)⟩
theorem Coll.yes {now : Nat} {left : Lit → Bool} {out : List (List UInt8)} {x : En} (h : Coll now m left out) (hf : find x.key m = some x) (hl : left (kl x.key) = true) (h1 : 0 < x.fin ∧ x.fin ≤ now) :
    Coll now m (fun z => left z && !z.sameKey (kl x.key)) (out ++ [x.key]) := by
  have hnew : x.key ∉ out := fun hk => by have := ((h.mem _).1 hk).2; rw [hl] at this; cases this
  refine ⟨List.nodup_append.2 ⟨h.nd, by simp, fun a ha b hb => by simp at hb; subst hb; exact fun e => hnew (e ▸ ha)⟩, fun k => ?_, fun k hk => ?_⟩
  · by_cases e : k = x.key
    · subst e
      simp only [List.mem_append, List.mem_singleton, or_true, true_iff]
      exact ⟨⟨x, hf, h1⟩, by simp [kl, Lit.sameKey]⟩
    · have e2 : (kl k).sameKey (kl x.key) = false := by simp [kl, Lit.sameKey, e]
      rw [List.mem_append, List.mem_singleton, h.mem k, e2]
      simp [e]
  · rcases List.mem_append.1 hk with hk | hk
    · exact h.sub k hk
    · rw [List.mem_singleton] at hk
      subst hk
      rw [mem_keys, hf]; rfl
theorem Coll.no {now : Nat} {left : Lit → Bool} {out : List (List UInt8)} {x : En} (h : Coll now m left out) (hf : find x.key m = some x) (hl : left (kl x.key) = true) (h1 : ¬ (0 < x.fin ∧ x.fin ≤ now)) :
    Coll now m (fun z => left z && !z.sameKey (kl x.key)) out := by
  refine ⟨h.nd, fun k => ?_, h.sub⟩
  by_cases e : k = x.key
  · subst e
    rw [h.mem]
    constructor
    · rintro ⟨_, h2⟩; rw [hl] at h2; cases h2
    · rintro ⟨⟨y, hy, h2⟩, _⟩
      rw [hf] at hy
      have e3 := Option.some.inj hy
      subst e3
      exact absurd h2 h1
  · have e2 : (kl k).sameKey (kl x.key) = false := by simp [kl, Lit.sameKey, e]
    rw [h.mem k, e2]
    simp
theorem Coll.done {now : Nat} {left : Lit → Bool} {out : List (List UInt8)} (h : Coll now m left out) (hr : Rise m) (hl : ∀ z, left z = false) : out.Perm (ended now m) :=
  (List.perm_ext_iff_of_nodup h.nd (nodup_of_rise (ended_rise now hr))).2 fun k => by rw [h.mem, mem_ended hr, hl]; simp
theorem inv_key (key : Value) (z : Lit) (h : keyOf Tryz.prog 9 key = some z) : ∃ k : List UInt8, key = .string (str k) := by
  obtain ⟨k, e, _⟩ := Maps.keyOf_str Tryz.underlying9 h
  exact ⟨k, e⟩
theorem inv_val (v : Value) (y : DataW Unit × List MemPlace) (h : RE v = some y) : ∃ x : En, v = .agg x.cs := by
  obtain ⟨x, _, e, _⟩ := RE_inv h
  exact ⟨x, e⟩
/-- What the range hands out is one of the entries. -/
theorem MapAt.entry {D : DataW Unit} {w0 : World} (h : MapAt w0 M m D) {k : List UInt8} {x : En} {z : Lit} {y : DataW Unit × List MemPlace} (h1 : keyOf Tryz.prog 9 (.string (str k)) = some z) (h2 : RE (.agg x.cs) = some y) (h3 : ∀ zd, D.atKey z zd = y.1) :
    z = kl k ∧ x.key = k ∧ find x.key m = some x ∧ x.Ok := by
  obtain ⟨k', e1, rfl, hk'⟩ := Maps.keyOf_str Tryz.underlying9 h1
  obtain rfl : k = k' := str_inj (Value.string.inj e1)
  obtain ⟨x', hx', e2, rfl⟩ := RE_inv h2
  obtain rfl := cs_inj e2
  have h4 := Maps.has_true_of_atKey h3
  rw [show Lit.string k = kl k from rfl, h.has] at h4
  cases hf : find k m with
  | none => rw [hf] at h4; cases h4
  | some x0 =>
    have e3 : x0 = x := ed_inj ((h.val k x0 hf (.agg [])).symm.trans (h3 (.agg [])))
    subst e3
    obtain rfl := (find_mem hf).2
    exact ⟨rfl, rfl, hf, hx'⟩
set_option maxHeartbeats 4000000 in
set_option maxRecDepth 100000 in
theorem ended_t (now : Nat) (_ : now < 18446744073709551616) (hl : m.length ≤ 100000) (w : World) (h : TabAt w b M m) : Calls Tryz.prog 52 #[tp b, .int .u64 (now : Int)] w fun e w' => ∃ v, e = .returned v ∧ St w' w.heap.size v (ended now m) ∧ Below w.heap.size w w' := by
  have c0 : w.cell? ⟨b, 0, none⟩ = some (.map (some M)) := h.hd.cell 0
  obtain ⟨D, hD⟩ := h.mp
  have hown := hD.mp
  have hrise := h.rise
  have hMw := h.ltM
  have hcol := Coll.start (m := m) now hD.has
  obtain ⟨i0, hi0, hz0, hz1, hz2⟩ := info_parts str_info
  have HD := Lib.hid hD
  have HT := Lib.hid h
  clear hD h
  go_enter Tryz.func52, Tryz.ntmps52
  go_wp2_with (first | (at_range; refine wpList_range_own _ rfl _ 123 rfl 9 81 key_law Tryz.underlying123 RE M m.length D rfl hown ?_; intro w1 hrg0 hg0 hs0))
  have hB0 : Below w.heap.size w w1 := ⟨hg0.os, hg0.tape, hg0.output, hg0.size, fun k hk => hg0.block k hk (by simp)⟩
  go_frame
  go_loopw [5] (fun v5 wr => ∃ left cnt out, wr.ranges Tryz.prog 9 RE M w.heap.size m.length D left cnt ∧ Coll now m left out ∧ St wr w.heap.size v5 out ∧ Below w.heap.size w wr) (fun _ wr => wr.rangeLeft M w.heap.size)
  case atStart => exact ⟨_, _, [], hrg0, hcol, ⟨rfl, .inl ⟨rfl, rfl⟩⟩, hB0⟩
  case round =>
    clear hrg0 hcol hB0 hg0 hs0 hown c0
    obtain ⟨left, cnt, out, hrg, hC, hS, hB⟩ := hrel
    have hlen := hC.len hrise
    have hws := hB.size
    have hitn := row_ne_iter hS hrg
    obtain ⟨oa, oc, rfl⟩ := hS.form
    go_wp2_with (first | (at_next; refine wpList_next_ranges _ rfl _ rfl 9 key_law RE (fun k : List UInt8 => .string (str k)) (fun x : En => .agg x.cs) inv_key inv_val M w.heap.size m.length D left cnt rfl hrg ?_ ?_))
    · intro hc0 hl0
      have hsort := sort_c wr hS (by omega) (hC.done hrise hl0) (ended_rise now hrise)
      clear hrg
      go_wp2_with fail
      refine hsort.mono ?_
      rintro e w3 ⟨rfl, hS3, hB3⟩
      go_wp2_with fail
      (try simp only [Exit.inBlock, Exit.then])
      go_ret
      exact ⟨_, rfl, hS3, hB.trans hB3⟩
    · intro k x z y ps w2 cnt2 h1 h2 h3 h4 hrg2 hlt2 hgr2 hsz2 hen2
      obtain ⟨rfl, rfl, hf, hx⟩ := HD.out.entry h1 h3 h4
      have hB2 : Below w.heap.size w w2 := hB.trans ⟨hgr2.os, hgr2.tape, hgr2.output, hgr2.size, fun k hk => hgr2.block k (by omega) (fun e => by have := Option.some.inj e; omega)⟩
      have hS2 : St w2 w.heap.size _ out := hS.stay (fun g hg => hgr2.block g (hS.lt g hg).2 (fun e => hitn (e.symm.trans hg.symm)))
      have hle := hrg.left_eq
      have hMn := row_ne_low hS2 hMw
      have hX := Blk.new w2 81 #[.string (str x.key), .string (str x.val), .int .u64 (x.ver : Int), .int .u64 (x.fin : Int)]
      have hS3 := hS2.alloc (.cells #[.string (str x.key), .string (str x.val), .int .u64 (x.ver : Int), .int .u64 (x.fin : Int)] 81)
      have hB3 := hB2.alloc hB2.size (.cells #[.string (str x.key), .string (str x.val), .int .u64 (x.ver : Int), .int .u64 (x.fin : Int)] 81)
      have hrg3 := hrg2.alloc (.cells #[.string (str x.key), .string (str x.val), .int .u64 (x.ver : Int), .int .u64 (x.fin : Int)] 81)
      have h12 := hx.fin
      clear h1 h3 h4 hrg hgr2 hB hS hS2 hB2 hsz2
      go_upto_region 7 with (fail)
      generalize w2.alloc (.cells #[.string (str x.key), .string (str x.val), .int .u64 (x.ver : Int), .int .u64 (x.fin : Int)] 81) = w3 at *
      have x3 := hX.cell 3
      simp only [List.getElem?_toArray, List.getElem?_cons_zero, List.getElem?_cons_succ] at x3
      have h3s := hB3.size
      by_cases hc : 0 < x.fin ∧ x.fin ≤ now
      · have e1 : decide ((0 : Int) < (x.fin : Int)) = true := decide_eq_true (by omega)
        have e2 : decide ((x.fin : Int) ≤ (now : Int)) = true := decide_eq_true (by omega)
        have hC2 := Lib.hid (hC.yes hf h2 hc)
        have HR := Lib.hid hrg3
        have HL := Lib.hid hle
        clear hC hrg3 hle hX hen2
        go_wp2_with (first | (refine wpList_append_lies _ (by rfl) _ _ _ (by rfl) w.heap.size 9 i0 _ 1 16 Tryz.underlying109 hi0 hz0 hz1 hz2 rfl (by omega) (.slice oa out.length oc) out.length (strsV out) (by rfl) (hS3.alloc _) ⟨w3.heap.size, 0, none⟩ 1 1 [.string (str x.key)] (by rfl) (by rfl) (World.news_of_block (cs := #[.string (str x.key)]) (t := 9) (fr := (0, 0)) (heap_alloc_new w3 _)) (by simp [Value.oneCell']) (by omega) (by simp [maxLen]; omega) (by omega) (by simp; omega) (w3.heap.size + 1) (by simp) ?_; intro gg cp w30 hown3 hgrow hat hlt3))
        have hrg30 := Lib.hid ((HR.out.alloc (.cells #[.string (str x.key)] 9)).kept hgrow hMn hitn)
        go_roundw
        case rel =>
          have hrow := hS3.lt
          exact ⟨_, cnt2, _, hrg30.out, hC2.out, St.snoc hown3, (hB3.alloc h3s _).trans ⟨hgrow.os, hgrow.tape, hgrow.output, hgrow.size, fun k hk => hgrow.block k (by simp; omega) (fun e => by have := (hrow k e.symm).1; omega)⟩⟩
        case measure =>
          rw [hrg30.out.left_eq, HL.out]
          exact hlt2
      · have hC2 := Lib.hid (hC.no hf h2 hc)
        have HR := Lib.hid hrg3
        have HL := Lib.hid hle
        have HB3 := Lib.hid hB3
        have HS3 := Lib.hid hS3
        clear hC hrg3 hle hX hen2 hB3 hS3
        by_cases hc1 : 0 < x.fin
        · have e1 : decide ((0 : Int) < (x.fin : Int)) = true := decide_eq_true (by omega)
          have e2 : decide ((x.fin : Int) ≤ (now : Int)) = false := decide_eq_false (by omega)
          go_wp2_with fail
          go_roundw
          case rel => exact ⟨_, cnt2, _, HR.out, hC2.out, HS3.out, HB3.out⟩
          case measure => rw [HR.out.left_eq, HL.out]; exact hlt2
        · have e1 : decide ((0 : Int) < (x.fin : Int)) = false := decide_eq_false (by omega)
          go_wp2_with fail
          go_roundw
          case rel => exact ⟨_, cnt2, _, HR.out, hC2.out, HS3.out, HB3.out⟩
          case measure => rw [HR.out.left_eq, HL.out]; exact hlt2
end
end Go.Proofs.YtlnjnpchkdipdaaGreat.Taby
