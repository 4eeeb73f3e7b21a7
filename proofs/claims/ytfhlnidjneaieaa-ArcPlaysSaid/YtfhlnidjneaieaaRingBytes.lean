/- Chapter 6's bytes of lists: numbers, and of each list how many keys and the keys. It speaks of no program. -/
import Derived.Test.YtfhlnidjneaieaaRingRefPush
import Derived.Test.YtfhlnidjneaieaaWireEnc
namespace Go.Proofs.Ytfhlnidjneaieaa.Ringy
open Wirey (enc txt)

def keysB (l : List Key) : List UInt8 := l.flatMap txt
def listB (l : List Key) : List UInt8 := enc l.length ++ keysB l
def Rg.putTo (r : Rg) (j : Nat) : List UInt8 := enc r.n ++ enc r.places ++ (List.range j).flatMap fun i => listB (r.l i)
def Rg.put (r : Rg) : List UInt8 := r.putTo r.n
theorem keysB_snoc (l : List Key) (k : Key) : keysB (l ++ [k]) = keysB l ++ txt k := by simp [keysB]
theorem Rg.putTo_zero (r : Rg) : r.putTo 0 = enc r.n ++ enc r.places := by simp [Rg.putTo]
theorem Rg.putTo_succ (r : Rg) (j : Nat) : r.putTo (j + 1) = r.putTo j ++ enc (r.l j).length ++ keysB (r.l j) := by
  unfold Rg.putTo
  rw [List.range_succ, List.flatMap_append]
  simp [listB]
theorem enc_ten {n : Nat} (h : n < 1000000000) : (enc n).length ≤ 10 := (Wirey.enc_len (n := n) (by omega)).2
theorem keysB_len {l : List Key} (h : ∀ k ∈ l, k.length ≤ 64) : (keysB l).length ≤ 74 * l.length := by
  induction l with
  | nil => simp [keysB]
  | cons k l ih =>
    have h1 : (txt k).length ≤ 74 := by
      have := enc_ten (n := k.length) (by have := h k (by simp); omega)
      have := h k (by simp)
      simp only [txt, List.length_append]
      omega
    have h2 := ih fun x hx => h x (by simp [hx])
    show (txt k ++ keysB l).length ≤ _
    rw [List.length_append, List.length_cons]
    omega
/-- Lists of few keys that are short. -/
structure Rg.Small (r : Rg) : Prop where
  n : r.n ≤ 100
  pl : r.places ≤ 4096
  len : ∀ i, i < r.n → (r.l i).length < 5000
  key : ∀ i, i < r.n → ∀ k ∈ r.l i, k.length ≤ 64
theorem Rg.Small.putTo {r : Rg} (h : Rg.Small r) : ∀ j, j ≤ r.n → (r.putTo j).length ≤ 20 + 400000 * j
  | 0, _ => by
    rw [Rg.putTo_zero, List.length_append]
    have := enc_ten (n := r.n) (by have := h.n; omega)
    have := enc_ten (n := r.places) (by have := h.pl; omega)
    omega
  | j + 1, hj => by
    have ih := Rg.Small.putTo h j (by omega)
    have h1 := keysB_len (h.key j (by omega))
    have h2 := h.len j (by omega)
    have h3 := enc_ten (n := (r.l j).length) (by omega)
    rw [Rg.putTo_succ, List.length_append, List.length_append]
    omega
theorem keysB_take {l : List Key} {p : Nat} (hp : p < l.length) : keysB (l.take (p + 1)) = keysB (l.take p) ++ txt (l[p]?.getD []) := by
  rw [take_snoc hp, keysB_snoc]
end Go.Proofs.Ytfhlnidjneaieaa.Ringy
