/- What is asked for again, over plain lists. The only condition: the cache is one that may be. -/
import Derived.Test.YtlnjnpchkdipdaaGreatStorePl
namespace Go.Proofs.YtlnjnpchkdipdaaGreat.Storey
open Go.ChangeShapes Go.WideShapes Go.ChangeAt Go.RowKit
open Wirey (Blk Row str str_size str_list Kp)
open Taby (En TabAt Tbl tp find ins drop size ended St)
open Policyy (Pv HeldP StepP Tell)
open Ringy (Key)
open Regy

section
variable {w0 w w' w'' : World} {B b T M C S : Nat} {H H' : Nat → Prop} {s t : Sv} {k : Key} {v : Value} {l : List Key} {o : Opn} {x : Rcd}
/-- What a session asked for again, or too late, changes nothing but the place. -/
theorem again_spec {t : Sv} (h : t.Ok) {x : Rcd} (hx : x.Ok) (hc : x.op.chk = true) (h5 : x.op.kind ≠ 5) (hq : x.seq = t.seq + 1) (hn : x.now ≤ t.now) {z : Ses} (hz : seek x.ses t.ss = some z) (hle : x.num ≤ z.num) :
    ∃ t2, (t.apply x).1 = t2 ∧ (t.apply x).2 = (if x.num = z.num then z.rep else Rep.of 122, 0) ∧ t2.Ok ∧ t2.m = t.m ∧ t2.asked = t.asked ∧ t2.hits = t.hits ∧ t2.seq = t.seq + 1 ∧ t2.now = t.now ∧ t2.ss = t.ss := by
  obtain ⟨h1, h2, h3⟩ := (h.place hx.seq).move hx.now
  obtain ⟨-, -, -, -, f5, f6, -, f8, f9, f10⟩ := h3.f
  have hA : t.apply x = (((t.place x.seq).moveTo x.now), (if x.num = z.num then z.rep else Rep.of 122), 0) := by
    unfold Sv.apply
    rw [if_neg (by rw [hc]; decide), if_neg (fun e => e hq)]
    have hd : t.done x = ((t.place x.seq).moveTo x.now).once x := by unfold Sv.done; rw [if_neg h5]
    rw [hd]
    unfold Sv.once
    rw [show ((t.place x.seq).moveTo x.now).ss = t.ss from f10, hz]
    by_cases c : x.num = z.num
    · rw [if_pos c]; simp [c]
    · rw [if_neg c]; simp [c, Nat.lt_of_le_of_ne hle c]
  refine ⟨_, rfl, by rw [hA], ?_⟩
  rw [hA]
  refine ⟨h1, ?_, f8, f9, f5.trans hq, ?_, f10⟩
  · show ((t.place x.seq).moveTo x.now).m = t.m
    rw [h2]
    refine List.filter_eq_self.2 fun y hy => ?_
    have hl := h.live y hy
    show lives (max t.now x.now) y = true
    rw [Nat.max_eq_left hn]
    unfold lives
    rcases hl with e | e
    · rw [e]; simp
    · rw [decide_eq_false (show ¬ y.fin ≤ t.now by omega), Bool.and_false]; rfl
  · show ((t.place x.seq).moveTo x.now).now = t.now
    rw [f6]
    exact Nat.max_eq_left hn
/-- What was done is noted. -/
theorem first_spec {s : Sv} (h : s.Ok) {x : Rcd} (hx : x.Ok) (hs : ∀ y ∈ s.ss, y.num < 32) (hn : x.num = 40) (h0 : (s.apply x).2.2 = 0) (h5 : x.op.kind ≠ 5) (h3 : (s.apply x).2.1.e ≠ 3) :
    x.op.chk = true ∧ (s.apply x).1.Ok ∧ (s.apply x).1.seq = s.seq + 1 ∧ x.now ≤ (s.apply x).1.now ∧ seek x.ses (s.apply x).1.ss = some ⟨x.ses, 40, (s.apply x).2.1⟩ := by
  have hok := (h.apply hx).1
  cases hc : x.op.chk with
  | false => unfold Sv.apply at h0; rw [if_pos hc] at h0; cases h0
  | true =>
    by_cases hq : x.seq = s.seq + 1
    · have hA : s.apply x = ((s.done x).1, (s.done x).2, 0) := by
        unfold Sv.apply
        rw [if_neg (by rw [hc]; decide), if_neg (fun e => e hq)]
      have hd : s.done x = ((s.place x.seq).moveTo x.now).once x := by unfold Sv.done; rw [if_neg h5]
      have hdn := h.done hx hc
      obtain ⟨h1, h2, h4⟩ := (h.place hx.seq).move hx.now
      obtain ⟨-, -, -, -, f5, f6, -, f8, f9, f10⟩ := h4.f
      rw [hA] at h3 hok ⊢
      refine ⟨rfl, hok, hdn.2.2.2.1.trans hq, by show x.now ≤ (s.done x).1.now; rw [hdn.2.2.1]; exact Nat.le_max_right _ _, ?_⟩
      rw [hd] at h3 hok ⊢
      have f10' : ((s.place x.seq).moveTo x.now).ss = s.ss := f10
      have hon : ((s.place x.seq).moveTo x.now).once x = ((s.place x.seq).moveTo x.now).noted x := by
        unfold Sv.once at h3 ⊢
        rw [f10'] at h3 ⊢
        cases e : seek x.ses s.ss with
        | none =>
          rw [e] at h3
          have h3' : ¬ ((if 64 ≤ s.ss.length then (((s.place x.seq).moveTo x.now), Rep.of 3) else ((s.place x.seq).moveTo x.now).noted x).2.e = 3) := h3
          show (if 64 ≤ s.ss.length then (((s.place x.seq).moveTo x.now), Rep.of 3) else ((s.place x.seq).moveTo x.now).noted x) = _
          by_cases c : 64 ≤ s.ss.length
          · rw [if_pos c] at h3'; exact absurd rfl h3'
          · rw [if_neg c]
        | some z =>
          have := hs z (seek_mem e).1
          show (if x.num = z.num then _ else if x.num < z.num then _ else _) = _
          rw [if_neg (by omega), if_neg (by omega)]
      rw [hon]
      have hact := h1.act hc h5
      show seek x.ses (lay ⟨x.ses, x.num, (((s.place x.seq).moveTo x.now).act x.op).2⟩ (((s.place x.seq).moveTo x.now).act x.op).1.ss) = some ⟨x.ses, 40, (((s.place x.seq).moveTo x.now).act x.op).2⟩
      rw [seek_lay (by rw [hact.ss, f10']; exact h.up), if_pos rfl, hn]
    · unfold Sv.apply at h0
      rw [if_neg (by rw [hc]; decide), if_pos hq] at h0
      cases h0
end
end Go.Proofs.YtlnjnpchkdipdaaGreat.Storey
