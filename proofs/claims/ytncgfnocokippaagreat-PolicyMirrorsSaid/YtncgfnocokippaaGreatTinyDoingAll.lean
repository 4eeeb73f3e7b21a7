/- Texts held against texts; the program's Tiny beside the document's; the law's own comparison of them. No condition. One act done to the program's Tiny and to the document's. The only condition: both are the same, and as chapter 8 has it. -/
import Derived.Test.YtncgfnocokippaaGreatTinyTake
import Derived.Test.YtncgfnocokippaaGreatTinyRefIns
import Derived.BigQuiet
import Derived.Test.YtncgfnocokippaaGreatSq
namespace Go.Proofs.YtncgfnocokippaaGreat.Tinyy
open Go.ChangeShapes Go.WideShapes Go.ChangeAt Go.RowKit Go.Shelf
open Wirey (Blk Row str str_size str_list str_cat Kp)
open Ringy Go.ChangeMaps Go.Maps
open Sketchy (Sk Six)

section
variable {w0 w x y : World} {A B P : Nat} {m m' : Rm} {v v' u u' v0 : Tv} {a a' a0 : Ad} {k : Key} {Kq : Nat → Prop}
theorem row_cell {B : Nat} {val : Value} {l : List Key} {p : Nat} (h : w.ownsRow B 9 1 val l.length (strsV l)) (hp : p < l.length) : ∃ g c, val = .slice (some ⟨g, 0, none⟩) l.length c ∧ w.cell? ⟨g, p, none⟩ = some (.string (str (l[p]?.getD []))) := by
 obtain ⟨g, c, hv, -, -⟩ := h.form (by omega)
 refine ⟨g, c, hv, ?_⟩
 rw [hv] at h
 rw [h.cellAt p (by omega)]
 exact strsV_at hp
end
end Go.Proofs.YtncgfnocokippaaGreat.Tinyy
namespace Go.Proofs.YtncgfnocokippaaGreat.Tinyy
open Go.ChangeShapes Go.WideShapes Go.ChangeAt Go.RowKit Go.Shelf
open Wirey (Blk Row str str_size str_list str_cat Kp)
open Ringy Go.ChangeMaps Go.Maps
open Sketchy (Sk Six)

section
variable {w0 w x y : World} {A B P : Nat} {m m' : Rm} {v v' u u' v0 : Tv} {a a' a0 : Ad} {k : Key} {K : Nat → Prop} {i j : Nat}
theorem Tv.Out.fr (h : v.Out) (hj : j < 3) (k : Key) : (v.fr j k).Out := fun i hi => by
 show (if i = j then k :: strike k (v.rg.l i) else strike k (v.rg.l i)) = []
 rw [if_neg (by omega), h i hi]
 rfl
theorem Tv.Out.dr (h : v.Out) (k : Key) : (v.dr k).Out := fun i hi => by
 show strike k (v.rg.l i) = []
 rw [h i hi]
 rfl
theorem Tv.Out.note (h : v.Out) (k : Key) : (v.note k).Out := h
theorem Tv.Out.safe (h : v.Out) (k : Key) : (v.safe k).Out := by
 unfold Tv.safe
 split
 ·exact (h.fr (by omega) k).fr (by omega) _
 ·exact h.fr (by omega) k
theorem Tv.Out.touch (h : v.Out) (k : Key) : (v.touch k).Out := by
 unfold Tv.touch
 split
 ·exact h
 ·exact (h.note k).fr (by omega) k
 ·exact (h.note k).safe k
theorem Tv.Out.leave (h : v.Out) : v.leave.Out := by
 unfold Tv.leave Tv.leaveOf
 split
 ·exact h.fr (by omega) _
 ·split
  ·exact h.dr _
  ·exact (h.dr _).fr (by omega) _
theorem Tv.Out.fresh (h : v.Out) (k : Key) : (v.fresh k).Out := by
 have h1 : (v.came k).Out := (h.note k).fr (by omega) k
 unfold Tv.fresh
 split
 ·exact h1
 ·exact h1.leave
theorem Tv.Out.insert (h : v.Out) (k : Key) : (v.insert k).Out := by
 unfold Tv.insert Tv.ins
 split
 ·exact h
 ·split
  ·exact h.touch k
  ·exact h.fresh k
theorem Tv.Out.miss (h : v.Out) (k : Key) : (v.miss k).Out := by
 unfold Tv.miss
 split
 ·exact h
 ·exact h
theorem Tv.Out.evict (h : v.Out) : v.evict.Out := by
 unfold Tv.evict
 split
 ·exact h
 ·exact h.dr _
theorem rins_c (hok : v.Fine) (hOk : v.Ok) (hk : k.length ≤ maxLen) (w : World) (h : Dt w v a) :
  Calls Tryz.prog 62 #[.agg #[.int .i64 v.most, .int .i64 v.sk.wide, .int .u64 v.sk.seed, .slice (some ⟨a.R, 0, none⟩) 4 a.c, .slice (some ⟨a.D, 0, none⟩) v.sk.wide v.sk.wide, .int .i64 v.sk.added, .slice (some ⟨a.G, 0, none⟩) 3 3, .int .i64 v.pl], .string (str k)] w fun e w' => ∃ a' val, e = .returned (.tuple #[.agg #[.int .i64 ((v.insert k).most : Int), .int .i64 ((v.insert k).sk.wide : Int), .int .u64 ((v.insert k).sk.seed : Int), .slice (some ⟨a'.R, 0, none⟩) 4 a'.c, .slice (some ⟨a'.D, 0, none⟩) (v.insert k).sk.wide (v.insert k).sk.wide, .int .i64 ((v.insert k).sk.added : Int), .slice (some ⟨a'.G, 0, none⟩) 3 3, .int .i64 ((v.insert k).pl : Int)], val]) ∧ Goes w a (v.insert k) a' w' ∧ Told w val (v.insertK k) w' := by
 by_cases hl : 64 < k.length
 ·rw [show v.insert k = v from if_pos hl, show v.insertK k = [] from if_pos hl]
  exact rins_long hok hl hk w h
 ·rw [show v.insert k = v.ins k from if_neg hl, show v.insertK k = v.insK k from if_neg hl]
  cases hh : v.has k with
  | true =>
   rw [show v.ins k = v.touch k from if_pos hh, show v.insK k = [] from if_pos hh]
   exact rins_has hok hOk (by omega) hh w h
  | false =>
   rw [show v.ins k = v.fresh k from if_neg (by rw [hh]; decide), show v.insK k = v.freshK k from if_neg (by rw [hh]; decide)]
   exact rins_new hok hOk (by omega) hh w h
theorem results_tmp_row_tmp {fn : Func} {p t s : Tmp} {ty : TypeId} {Pg : Program} (h : fn.results = #[.tmp s, .cell p ty, .tmp t]) (tmps : Array Value) (w : World) (g : Nat) {cs : Array Value}
  (hp : tmps.getD p undef = .pointer (some ⟨g, 0, none⟩)) (hl : (loadVar ty ⟨g, 0, none⟩).run Pg w = .ok (.agg cs) w) :
  (results fn tmps).run Pg w = .ok (.tuple #[tmps.getD s undef, .agg cs, tmps.getD t undef]) w := by
 have hp' : tmps[p]?.getD undef = .pointer (some ⟨g, 0, none⟩) := by simpa using hp
 simp [results, h, hp', asAddr, Result.andThen, hl]
end
end Go.Proofs.YtncgfnocokippaaGreat.Tinyy
