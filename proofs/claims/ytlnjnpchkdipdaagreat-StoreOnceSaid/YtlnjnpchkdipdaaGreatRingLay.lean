/- How slots hold lists: what taking a key's slot out, and putting one ahead of all, make of them. It speaks of no program. -/
import Derived.Test.YtlnjnpchkdipdaaGreatRingMath
namespace Go.Proofs.YtlnjnpchkdipdaaGreat.Ringy

theorem mem_pos {pos : Key → Nat} {i x : Nat} {l : List Key} : x ∈ i :: l.map pos ↔ x = i ∨ ∃ k, k ∈ l ∧ pos k = x := by simp
section
variable {S : List Sl} {lens : List Nat} {r : Rg} {pos : Key → Nat} {i j p : Nat} {k : Key}
theorem Lay.apart (h : Lay S lens r pos) (hw : r.Wf) (hi : i < r.n) (hj : j < r.n) {x : Nat} (h1 : x ∈ i :: (r.l i).map pos) (h2 : x ∈ j :: (r.l j).map pos) : i = j := by
  rcases mem_pos.1 h1 with e1 | ⟨a, ha, e1⟩ <;> rcases mem_pos.1 h2 with e2 | ⟨b, hb, e2⟩
  · omega
  · have := (h.at_ j b hj hb).1; omega
  · have := (h.at_ i a hi ha).1; omega
  · have e := h.inj hi hj ha hb (e1.trans e2.symm)
    subst e
    exact hw.dj i j a hi hj ha hb
theorem Lay.bound (h : Lay S lens r pos) (hi : i < r.n) {x : Nat} (h1 : x ∈ i :: (r.l i).map pos) : x < S.length := by
  rcases mem_pos.1 h1 with e1 | ⟨a, ha, e1⟩
  · have := h.sz; omega
  · have := (h.at_ i a hi ha).2.1; omega
theorem Lay.len_at (h : Lay S lens r pos) (hi : i < r.n) : lens[i]? = some (r.l i).length := by
  rw [h.ln, List.getElem?_map, List.getElem?_range hi]; rfl
theorem Lay.len_len (h : Lay S lens r pos) : lens.length = r.n := by rw [h.ln]; simp
theorem lens_set {f g : Nat → Nat} {n i : Nat} (_ : i < n) (h : ∀ t, t < n → t ≠ i → g t = f t) : ((List.range n).map f).set i (g i) = (List.range n).map g := by
  apply List.ext_getElem?
  intro t
  rw [List.getElem?_set]
  by_cases e : i = t
  · subst e
    rw [if_pos rfl, if_pos (by simpa using ‹i < n›), List.getElem?_map, List.getElem?_range ‹i < n›]; rfl
  · rw [if_neg e, List.getElem?_map, List.getElem?_map]
    by_cases ht : t < n
    · rw [List.getElem?_range ht]; show some (f t) = some (g t); rw [h t ht (fun h => e h.symm)]
    · rw [List.getElem?_eq_none (by simpa using ht)]; rfl

/-- A ring's own slots around a key's. -/
theorem Lay.near (h : Lay S lens r pos) (hi : i < r.n) (hk : k ∈ r.l i) :
    (gt S (pos k)).list = i ∧ (gt S (pos k)).ahead ∈ i :: (r.l i).map pos ∧ (gt S (pos k)).behind ∈ i :: (r.l i).map pos ∧ (gt S (pos k)).ahead < S.length ∧ (gt S (pos k)).behind < S.length := by
  obtain ⟨s, t, e⟩ := List.append_of_mem hk
  have hl := h.lk i hi
  rw [e, List.map_append, List.map_cons, Lk.append] at hl
  have hq := hl.1.last
  have hy := hl.2.first
  have m1 : (gt S (pos k)).ahead ∈ i :: (r.l i).map pos := by
    show pvOf S (pos k) ∈ _
    rw [e, List.map_append]
    rcases List.mem_cons.1 hq with h | h
    · rw [h]; simp
    · exact List.mem_cons_of_mem _ (List.mem_append_left _ h)
  have m2 : (gt S (pos k)).behind ∈ i :: (r.l i).map pos := by
    show nxOf S (pos k) ∈ _
    rw [e, List.map_append]
    rcases hy with h | h
    · exact List.mem_cons_of_mem _ (List.mem_append_right _ (List.mem_cons_of_mem _ h))
    · rw [h]; simp
  exact ⟨(h.at_ i k hi hk).2.2.2, m1, m2, h.bound hi m1, h.bound hi m2⟩

theorem Lay.out (h : Lay S lens r pos) (hw : r.Wf) (hi : i < r.n) (hk : k ∈ r.l i) : Lay (outS S (pos k)) (lens.set i ((r.l i).length - 1)) (r.drop k) pos := by
  obtain ⟨hli, hma, hmb, hba, hbb⟩ := h.near hi hk
  have hg := outS_gt hba hbb
  obtain ⟨s, t, e⟩ := List.append_of_mem hk
  have hnd := h.nodup hw hi
  refine ⟨by rw [outS_len]; exact h.sz, ?_, fun i' x hi' hx => ?_, fun i' hi' => ?_⟩
  · rw [h.ln]
    have hlen := strike_length (hw.nd i hi) hk
    have e1 : (r.l i).length - 1 = (strike k (r.l i)).length := by omega
    rw [e1]
    exact lens_set (f := fun i => (r.l i).length) (g := fun i => (strike k (r.l i)).length) hi (fun t ht hne => by
      show (strike k (r.l t)).length = _
      rw [strike_of_not (fun hm => hne (hw.dj t i k ht hi hm hk))])
  · have hx' := strike_mem.1 hx
    obtain ⟨a, b, c, d⟩ := h.at_ i' x hi' hx'.1
    refine ⟨a, by rw [outS_len]; exact b, ?_, ?_⟩
    · rw [(hg _).2.2.1]; exact c
    · rw [(hg _).2.2.2]; exact d
  · have hl := h.lk i' hi'
    by_cases ei : i' = i
    · subst ei
      show Lk _ _ i' ((strike k (r.l i')).map pos) i'
      have hs : strike k (r.l i') = s ++ t := by have := hw.nd i' hi; rw [e] at this ⊢; exact strike_split this
      rw [hs, List.map_append]
      rw [e, List.map_append, List.map_cons] at hl hnd
      rw [Lk.append] at hl
      obtain ⟨h1, h2⟩ := hl
      have hq := h1.last
      have hy := h2.first
      have hn1 := List.nodup_cons.1 hnd
      have hn2 := List.nodup_append.1 hn1.2
      have hn3 := List.nodup_cons.1 hn2.2.1
      have hys : nxOf S (pos k) ∉ s.map pos := by
        intro hm
        rcases hy with h | h
        · exact hn2.2.2 _ hm _ (List.mem_cons_of_mem _ h) rfl
        · exact hn1.1 (List.mem_append_left _ (h ▸ hm))
      have hqt : pvOf S (pos k) ∉ t.map pos := by
        intro hm
        rcases List.mem_cons.1 hq with h | h
        · exact hn1.1 (List.mem_append_right _ (List.mem_cons_of_mem _ (h ▸ hm)))
        · exact hn2.2.2 _ h _ (List.mem_cons_of_mem _ hm) rfl
      have a1 : Lk (nxOf (outS S (pos k))) (pvOf (outS S (pos k))) i' (s.map pos) (nxOf S (pos k)) := by
        refine h1.to ?_ (fun x _ hne => ?_) ?_ ?_ (fun x hx => ?_)
        · exact List.nodup_cons.2 ⟨fun hm => hn1.1 (List.mem_append_left _ hm), hn2.1⟩
        · rw [(hg x).1]; exact if_neg hne
        · show nxOf (outS S (pos k)) (gt S (pos k)).ahead = _; rw [(hg _).1, if_pos rfl]; rfl
        · show pvOf (outS S (pos k)) (gt S (pos k)).behind = _; rw [(hg _).2.1, if_pos rfl]; rfl
        · rw [(hg x).2.1, if_neg (fun e => hys (by show (gt S (pos k)).behind ∈ _; rw [← e]; exact hx))]
      cases t with
      | nil =>
        have : nxOf S (pos k) = i' := h2.1
        rw [this] at a1
        rw [List.map_nil, List.append_nil]; exact a1
      | cons c t =>
        rw [List.map_cons] at hqt h2 hn3 ⊢
        have hc : nxOf S (pos k) = pos c := h2.1.1
        rw [hc] at a1
        refine Lk.append.2 ⟨a1, h2.2.congr (fun x hx => ?_) (fun x hx => ?_)⟩
        · have e1 : ¬ x = (gt S (pos k)).ahead := fun e => hqt (by show (gt S (pos k)).ahead ∈ _; rw [← e]; exact hx)
          rw [(hg x).1, if_neg e1]
        · rw [(hg x).2.1, if_neg]
          intro e1
          have e2 : x = pos c := e1.trans hc
          rcases hx with hx | hx
          · exact (List.nodup_cons.1 hn3.2).1 (e2 ▸ hx)
          · exact hn1.1 (by rw [← hx, e2]; simp)
    · show Lk _ _ i' ((strike k (r.l i')).map pos) i'
      rw [strike_of_not (fun hm => ei (hw.dj i' i k hi' hi hm hk))]
      refine hl.congr (fun x hx => ?_) (fun x hx => ?_)
      · have e1 : ¬ x = (gt S (pos k)).ahead := fun e => ei (h.apart hw hi' hi hx (by rw [e]; exact hma))
        rw [(hg x).1, if_neg e1]
      · have hx' : x ∈ i' :: (r.l i').map pos := by rcases hx with hx | hx; exact List.mem_cons_of_mem _ hx; rw [hx]; simp
        have e1 : ¬ x = (gt S (pos k)).behind := fun e => ei (h.apart hw hi' hi hx' (by rw [e]; exact hmb))
        rw [(hg x).2.1, if_neg e1]

def upd (pos : Key → Nat) (k : Key) (p : Nat) (x : Key) : Nat := if x = k then p else pos x
theorem upd_map (pos : Key → Nat) {k : Key} (p : Nat) {l : List Key} (h : k ∉ l) : l.map (upd pos k p) = l.map pos :=
  List.map_congr_left fun x hx => if_neg (fun (e : x = k) => h (e ▸ hx))
theorem Lay.head (h : Lay S lens r pos) (hj : j < r.n) : (gt S j).behind ∈ j :: (r.l j).map pos := by
  rcases (h.lk j hj).first with h1 | h1
  · exact List.mem_cons_of_mem _ h1
  · show nxOf S j ∈ _; rw [h1]; simp
theorem Lay.put (h : Lay S lens r pos) (hw : r.Wf) (hj : j < r.n) (hp : r.n ≤ p) (hp2 : p < S.length) (hfree : ∀ i x, i < r.n → x ∈ r.l i → pos x ≠ p) (hk : ∀ i, i < r.n → k ∉ r.l i) :
    Lay (inS S j p k) (lens.set j ((r.l j).length + 1)) (r.push j k) (upd pos k p) := by
  have hh := h.head hj
  have hjS : j < S.length := Nat.lt_of_lt_of_le hj h.sz
  have hpf : p ≠ (gt S j).behind := fun e => by
    rcases mem_pos.1 hh with h1 | ⟨x, hx, h1⟩
    · omega
    · exact hfree j x hj hx (h1.trans e.symm)
  have hg := inS_gt (k := k) hp2 hjS (h.bound hj hh) (by omega) hpf
  have hnd := h.nodup hw hj
  have hne : ∀ i x, i < r.n → x ∈ i :: (r.l i).map pos → x ≠ p := fun i x hi hx e => by
    rcases mem_pos.1 hx with h1 | ⟨y, hy, h1⟩
    · omega
    · exact hfree i y hi hy (h1.trans e)
  refine ⟨by rw [inS_len]; exact h.sz, ?_, fun i' x hi' hx => ?_, fun i' hi' => ?_⟩
  · rw [h.ln]
    have := lens_set (f := fun i => (r.l i).length) (g := fun i => ((r.push j k).l i).length) hj (fun t ht hne => by
      show (if t = j then k :: r.l t else r.l t).length = _
      rw [if_neg hne])
    rw [show ((r.push j k).l j).length = (r.l j).length + 1 from by show (if j = j then k :: r.l j else r.l j).length = _; rw [if_pos rfl]; rfl] at this
    exact this
  · have hx : x ∈ (if i' = j then k :: r.l i' else r.l i') := hx
    rw [inS_len, (hg _).2.2.1, (hg _).2.2.2]
    by_cases ek : x = k
    · subst ek
      have hij : i' = j := by
        by_cases e : i' = j
        · exact e
        · rw [if_neg e] at hx; exact absurd hx (hk i' hi')
      unfold upd
      simp only [if_true]
      exact ⟨hp, hp2, trivial, hij.symm⟩
    · have hx2 : x ∈ r.l i' := by
        split at hx
        · exact (List.mem_cons.1 hx).resolve_left ek
        · exact hx
      obtain ⟨a, b, c, d⟩ := h.at_ i' x hi' hx2
      have hn := hfree i' x hi' hx2
      unfold upd
      simp only [if_neg ek, if_neg hn]
      exact ⟨a, b, c, d⟩
  · have hl := h.lk i' hi'
    show Lk _ _ i' ((if i' = j then k :: r.l i' else r.l i').map _) i'
    by_cases ei : i' = j
    · subst ei
      rw [if_pos rfl, List.map_cons, upd_map pos p (hk i' hi')]
      have eu : upd pos k p k = p := if_pos rfl
      rw [eu]
      have g1 := hg i'
      have g2 := hg p
      rw [if_pos rfl] at g1
      have hpj : ¬ p = i' := by omega
      rw [if_neg hpj, if_pos rfl] at g2
      rw [if_neg hpf, if_pos rfl] at g2
      refine ⟨⟨g1.1, g2.2.1⟩, hl.from (List.nodup_cons.1 hnd).2 (List.nodup_cons.1 hnd).1 g2.1 ?_ (fun x hx => ?_) (fun x hx hne2 => ?_)⟩
      · show pvOf _ (gt S i').behind = p
        rw [(hg _).2.1, if_pos rfl]
      · have e1 : ¬ x = i' := fun e => (List.nodup_cons.1 hnd).1 (e ▸ hx)
        rw [(hg x).1, if_neg e1, if_neg (hne i' x hi' (List.mem_cons_of_mem _ hx))]
      · have e1 : ¬ x = (gt S i').behind := hne2
        rw [(hg x).2.1, if_neg e1, if_neg (hne i' x hi' (by rcases hx with hx | hx; exact List.mem_cons_of_mem _ hx; rw [hx]; simp))]
    · rw [if_neg ei, upd_map pos p (hk i' hi')]
      refine hl.congr (fun x hx => ?_) (fun x hx => ?_)
      · have e1 : ¬ x = j := fun e => ei (h.apart hw hi' hj hx (by rw [e]; simp))
        rw [(hg x).1, if_neg e1, if_neg (hne i' x hi' hx)]
      · have hx' : x ∈ i' :: (r.l i').map pos := by rcases hx with hx | hx; exact List.mem_cons_of_mem _ hx; rw [hx]; simp
        have e1 : ¬ x = (gt S j).behind := fun e => ei (h.apart hw hi' hj hx' (e ▸ hh))
        rw [(hg x).2.1, if_neg e1, if_neg (hne i' x hi' hx')]
end

/-- New lists: each own slot is alone. -/
def newS (n : Nat) : List Sl := (List.range n).map fun i => ⟨[], i, i, i⟩
theorem newS_gt {n i : Nat} (h : i < n) : gt (newS n) i = ⟨[], i, i, i⟩ := by unfold gt newS; rw [List.getElem?_map, List.getElem?_range h]; rfl
theorem newS_len (n : Nat) : (newS n).length = n := by simp [newS]
theorem newS_snoc (n : Nat) : newS (n + 1) = newS n ++ [⟨[], n, n, n⟩] := by unfold newS; rw [List.range_succ, List.map_append]; rfl
theorem lay_new (n places : Nat) (pos : Key → Nat) : Lay (newS n) (List.replicate n 0) (Rg.new n places) pos := by
  refine ⟨by rw [newS_len]; exact Nat.le_refl _, ?_, fun i k _ hk => absurd hk (List.not_mem_nil), fun i hi => ?_⟩
  · show List.replicate n 0 = (List.range n).map fun _ => 0
    apply List.ext_getElem?
    intro t
    rw [List.getElem?_replicate, List.getElem?_map]
    by_cases ht : t < n
    · rw [if_pos ht, List.getElem?_range ht]; rfl
    · rw [if_neg ht, List.getElem?_eq_none (by simpa using ht)]; rfl
  · have hi : i < n := hi
    show nxOf (newS n) i = i ∧ pvOf (newS n) i = i
    unfold nxOf pvOf
    rw [newS_gt hi]
    exact ⟨rfl, rfl⟩
theorem many_new (n places : Nat) : (Rg.new n places).many = 0 := by
  unfold Rg.many
  show sumTo (fun _ => 0) n = 0
  induction n with
  | zero => rfl
  | succ n ih => show sumTo _ n + 0 = 0; omega
theorem Rg.new_wf {n places : Nat} (h1 : 1 ≤ n) (h2 : n ≤ 100) (h3 : places ≤ 4096) : (Rg.new n places).Wf :=
  ⟨h1, h2, h3, fun _ _ => List.nodup_nil, fun _ _ _ _ _ h => absurd h List.not_mem_nil, fun _ _ _ h => absurd h List.not_mem_nil, by rw [many_new]; exact Nat.zero_le _⟩
end Go.Proofs.YtlnjnpchkdipdaaGreat.Ringy
