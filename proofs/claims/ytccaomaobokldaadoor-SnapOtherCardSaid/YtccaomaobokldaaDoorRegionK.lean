/- A region that draws, and stores where it loads: one step after the other. No condition. -/
import Derived.Test.YtccaomaobokldaaDoorBlakeOrder
import Derived.Test.YtccaomaobokldaaDoorRegion
import Derived.Deep.AppendLies
namespace Go.Proofs.YtccaomaobokldaaDoor.Regy
open Go.ChangeShapes Go.WideShapes Go.ChangeAt Go.RowKit

/-- A region that draws and stores where it loads: what the store, number g, waits for is taken first. -/
theorem regionK_only {P : Program} {ops : Array Oper} {Q : Exit → Act → World → Prop} (k : Nat) (L : Array Bool) (g : Nat) {V : World → Prop} {id : Nat} {a : Act} {w : World} (hk : ops.size = k) (hL : L = Array.replicate k false) (hm : P.follows .mixedOrders = true) (hV : V w.drew)
    (h : V w.drew → Wirey.wpAnyK P .any ops (Only Q) (fun _ => True) V g k L a w.drew) : (Code.region id ops true).wp P Q a w := by
  subst hk hL
  exact wp_mono (Wirey.wp_region_K hm (fun _ => True) V g (h hV)) fun e a w ⟨h1, h2⟩ => by subst h1; exact h2
theorem early_at {P : Program} {md : Region.Mode} {ops : Array Oper} {Q : Exit → Act → World → Prop} (g i d : Nat) (v : Value) {V : World → Prop} {oi ok : Oper} {fuel : Nat} {li : Array Bool} {T : Array Value} {D : List Deferred} {w : World} (hi : ops[i]? = some oi) (hd : oi.dst = some d)
    (hs : Region.noSelect ops = true) (hf : Region.free md ops li i = true) (hr : (Region.ready md ops li).contains i = true) (hik : i ≠ g) (hko : ops[g]? = some ok) (hw : ok.after.any (fun e => Region.binds md e && e.on == i) = true) (hk0 : li.getD g false = false)
    (hy : YieldsIf P ops V oi v { tmps := T, defers := D }) (hV : V w)
    (h : Wirey.wpAnyK P md ops (Only Q) (fun _ => True) V g fuel (li.setIfInBounds i true) { tmps := T.setIfInBounds d v, defers := D } w) : Wirey.wpAnyK P md ops (Only Q) (fun _ => True) V g (fuel + 1) li { tmps := T, defers := D } w := by
  refine Wirey.wpAnyK_early i (some d) hi hs hf hr hik (fun _ _ _ h => h.panic) trivial hV hko hw hk0 hy hd ?_
  exact h
theorem takeK_at {P : Program} {md : Region.Mode} {ops : Array Oper} {Q : Exit → Act → World → Prop} (g i d : Nat) (v : Value) {V : World → Prop} {oi : Oper} {fuel : Nat} {li : Array Bool} {T : Array Value} {D : List Deferred} {w : World} (hi : ops[i]? = some oi) (hd : oi.dst = some d)
    (hs : Region.noSelect ops = true) (hf : Region.free md ops li i = true) (hr : (Region.ready md ops li).contains i = true) (hik : i ≠ g)
    (hy : YieldsIf P ops (fun _ => True) oi v { tmps := T, defers := D }) (hV : V w)
    (h : Wirey.wpAnyK P md ops (Only Q) (fun _ => True) V g fuel (li.setIfInBounds i true) { tmps := T.setIfInBounds d v, defers := D } w) : Wirey.wpAnyK P md ops (Only Q) (fun _ => True) V g (fuel + 1) li { tmps := T, defers := D } w := by
  refine Wirey.wpAnyK_take i (some d) hi hs hf hr hik (fun _ _ _ h => h.panic) trivial (fun _ => hV) hy hd ?_
  exact h
section
variable {P : Program} {ops : Array Oper} {Q : Exit → Act → World → Prop} {md : Region.Mode} {C V : World → Prop} {k : Nat}
/-- One of two operations comes up. -/
theorem wpAnyK_two (i j : Nat) {oi oj : Oper} {n : Nat} {li : Array Bool} {a : Act} {w : World} (hr : Region.ready md ops li = [i, j]) (hoi : ops[i]? = some oi) (hoj : ops[j]? = some oj)
    (hi : ∀ K : Act → World → Prop, Shut (∀ b u, C u → ((li.setIfInBounds i true).getD k false = false → V u) → Wirey.wpAnyK P md ops Q C V k n (li.setIfInBounds i true) b u → K b u) → if Region.wanted oi (yielded ops a.tmps) = true then Oper.wp P oi a w K Q else K (a.put oi.dst undef) w)
    (hj : ∀ K : Act → World → Prop, Shut (∀ b u, C u → ((li.setIfInBounds j true).getD k false = false → V u) → Wirey.wpAnyK P md ops Q C V k n (li.setIfInBounds j true) b u → K b u) → if Region.wanted oj (yielded ops a.tmps) = true then Oper.wp P oj a w K Q else K (a.put oj.dst undef) w) :
    Wirey.wpAnyK P md ops Q C V k (n + 1) li a w := by
  refine ⟨fun h0 => ?_, fun x hx => ?_⟩
  · rw [hr] at h0; cases h0
  · rw [hr] at hx
    rcases List.mem_cons.1 hx with rfl | hx
    · exact wpOp_step hoi fun K hK => hi K (fun b u h1 h2 h3 => hK b u ⟨⟨h1, h2⟩, h3⟩)
    · obtain rfl := List.mem_singleton.1 hx
      exact wpOp_step hoj fun K hK => hj K (fun b u h1 h2 h3 => hK b u ⟨⟨h1, h2⟩, h3⟩)
end
/-- Something, or nothing, is appended, at a step of a region that draws. -/
theorem step_append_own {P : Program} (w : World) {ops : Array Oper} {o : Oper} {a : Act} {K : Act → World → Prop} {Q : Exit → Act → World → Prop} {E : Prop} (hgd : o.guard = none) (s x : Operand) (t : TypeId)
    (ho : o.op = .call { callee := .builtin .append, args := #[s, x], argTypes := #[t, t] })
    (base : Nat) (e : TypeId) (i : TypeInfo) (z : Value) (size bytes : Nat) (ht : P.underlying t = some (.slice e)) (hi : P.info? e = some i) (hz : i.zero = some z)
    (hsize : i.size = size) (hby : i.bytes = bytes) (hzs : z.cells.size = size) (hsz : 0 < size)
    (v : Value) (n : Nat) (xs : List Value) (hs : a.eval s = v) (hown : w.ownsRow base e size v n xs)
    (ad : Addr) (m c : Nat) (news : List Value) (hx : a.eval x = .slice (some ad) m c) (hl : news.length = m * size) (hnews : ∀ j u, news[j]? = some u → w.cell? (ad.add j) = some u) (h1 : ∀ u ∈ news, u.oneCell' = true)
    (h63 : n + m ≤ maxLen) (hbytes : (n + m) * bytes ≤ 140737488355328) (hbase : base ≤ w.heap.size)
    (h : ∀ v' w', w'.ownsRow base e size v' (n + m) (xs ++ news) → w.grownBy w' v.ownBlock → (v'.ownBlock = v.ownBlock ∨ v'.ownBlock = some w.heap.size) → K (a.put o.dst v') w') :
    if Region.wanted o (yielded ops a.tmps) = true then Oper.wp P o a w K Q else E := by
  have hw : Region.wanted o (yielded ops a.tmps) = true := by simp [Region.wanted, hgd]
  rw [if_pos hw]
  obtain ⟨v', w', hr, h2, h3, _, h5⟩ := run_append_own_at (P := P) w base t o.type e i z size bytes ht hi hz hsize hby hzs hsz v n xs hown ad m c news hl hnews h1 h63 hbytes hbase
  unfold Oper.wp execOp
  simp only [ho, resolve, invoke, builtin, Sem.run_bind, Sem.run_pure, Result.andThen_ok, List.map_toArray, List.map_cons, List.map_nil, hs, hx, hr]
  exact h v' w' h2 h3 h5
/-- Nothing at all is appended. -/
theorem step_append_nil {P : Program} (w : World) {ops : Array Oper} {o : Oper} {a : Act} {K : Act → World → Prop} {Q : Exit → Act → World → Prop} {E : Prop} (hgd : o.guard = none) (s x : Operand) (t : TypeId)
    (ho : o.op = .call { callee := .builtin .append, args := #[s, x], argTypes := #[t, t] }) (e : TypeId) (i : TypeInfo) (ht : P.underlying t = some (.slice e)) (hi : P.info? e = some i)
    (ad : Option Addr) (n c : Nat) (hs : a.eval s = .slice ad n c) (hn : n ≤ c) (m cx : Nat) (hx : a.eval x = .slice none m cx) (hm : m = 0) (h : K (a.put o.dst (.slice ad n c)) w) :
    if Region.wanted o (yielded ops a.tmps) = true then Oper.wp P o a w K Q else E := by
  have hw : Region.wanted o (yielded ops a.tmps) = true := by simp [Region.wanted, hgd]
  rw [if_pos hw]
  subst hm
  have hr : (Builtin.append_ #[t, t] o.type #[.slice ad n c, .slice none 0 cx]).run P w = .ok (.slice ad n c) w := by
    cases ad <;> simp [Builtin.append_, run_underlying ht, sizeOf, typeInfo, hi, Builtin.lenOf, Builtin.firstCells, loadCells, storeCells, hn]
  unfold Oper.wp execOp
  simp only [ho, resolve, invoke, builtin, Sem.run_bind, Sem.run_pure, Result.andThen_ok, List.map_toArray, List.map_cons, List.map_nil, hs, hx, hr]
  exact h
end Go.Proofs.YtccaomaobokldaaDoor.Regy
