/-
  What the law PlanQuiet rests on: a channel that is served as Look tells is quiet; pure.
-/
import Derived.Test.YtkpnkhakjgfgfaaPLAns
namespace Go.Proofs.Ytkpnkhakjgfgfaa
open Go.RowKit
open Lq (But I64b)

/-- Not closed; who waits to send, waits behind a full buffer, and nobody receives; who waits to receive, before an empty one; all slots below n. -/
structure Inv (h : Hs) (n : Nat) : Prop where
  open' : h.c = false
  snd : h.s ≠ [] → h.b.length = h.m ∧ h.r = []
  rcv : h.r ≠ [] → h.b = []
  len : h.b.length ≤ h.m
  rs : ∀ x ∈ h.s, 0 ≤ x ∧ x < (n : Int)
  rr : ∀ x ∈ h.r, 0 ≤ x ∧ x < (n : Int)
theorem Inv.new (m : Nat) : Inv (.new m) 0 := ⟨rfl, by simp [Hs.new], by simp [Hs.new], by simp [Hs.new], by simp [Hs.new], by simp [Hs.new]⟩
theorem Inv.quiet {h : Hs} {n : Nat} (I : Inv h n) : quietP h = true := by
  obtain ⟨m, c, b, s, r⟩ := h
  obtain ⟨h1, h2, h3, h4, _, _⟩ := I
  simp only at h1 h2 h3 h4
  subst h1
  unfold quietP
  rw [if_neg]
  · rw [decide_eq_true_eq]
    by_cases hr : r = []
    · exact .inl (by rw [hr]; rfl)
    · exact .inr ⟨by rw [h3 hr]; rfl, rfl⟩
  · rintro ⟨g1, g2⟩
    simp only at g1 g2
    have hs : s ≠ [] := by rintro rfl; simp at g1
    obtain ⟨e1, e2⟩ := h2 hs
    rcases g2 with q | q | q
    · omega
    · cases q
    · rw [e2] at q; simp at q
theorem Inv.more {h : Hs} {n : Nat} (I : Inv h n) : Inv h (n + 1) := ⟨I.open', I.snd, I.rcv, I.len, fun x hx => by have := I.rs x hx; omega, fun x hx => by have := I.rr x hx; omega⟩
section
variable {m n : Nat} {b s r t : List Int} {x : Int}
/-- To send, one waits to receive: it is claimed. -/
theorem Inv.s_claim (I : Inv ⟨m, false, b, s, x :: t⟩ n) : Inv ⟨m, false, b, s, t⟩ n := by
  have hs : s = [] := by
    by_cases e : s = []
    · exact e
    · exact absurd (I.snd e).2 (by simp)
  subst hs
  exact ⟨rfl, fun e => absurd rfl e, fun _ => I.rcv (by simp), I.len, by simp, fun y hy => I.rr y (List.mem_cons_of_mem _ hy)⟩
/-- To send, there is room. -/
theorem Inv.s_put (I : Inv ⟨m, false, b, s, []⟩ n) (hb : b.length < m) (v : Int) : Inv ⟨m, false, b ++ [v], s, []⟩ n := by
  have hs : s = [] := by
    by_cases e : s = []
    · exact e
    · have := (I.snd e).1; simp only at this; omega
  subst hs
  exact ⟨rfl, fun e => absurd rfl e, fun e => absurd rfl e, by simp; omega, by simp, by simp⟩
/-- To send, nobody serves: it waits. -/
theorem Inv.s_wait (I : Inv ⟨m, false, b, s, []⟩ n) (hb : ¬ b.length < m) : (n : Int) ∉ s ∧ Inv ⟨m, false, b, s ++ [(n : Int)], []⟩ (n + 1) := by
  have hl := I.len
  simp only at hl
  refine ⟨fun hx => by have := I.rs _ hx; omega, rfl, fun _ => ⟨by simp only; omega, rfl⟩, fun e => absurd rfl e, hl, fun y hy => ?_, by simp⟩
  rcases List.mem_append.1 hy with hy | hy
  · have := I.rs y hy; omega
  · simp only [List.mem_singleton] at hy; omega
/-- To receive, one waits to send: it is claimed; what it sends goes into the buffer, if there is one. -/
theorem Inv.r_claim0 (I : Inv ⟨0, false, b, x :: t, r⟩ n) : Inv ⟨0, false, b, t, r⟩ n := by
  obtain ⟨e1, e2⟩ := I.snd (by simp)
  simp only at e1 e2
  subst e2
  exact ⟨rfl, fun _ => ⟨e1, rfl⟩, fun e => absurd rfl e, I.len, fun y hy => I.rs y (List.mem_cons_of_mem _ hy), by simp⟩
theorem Inv.r_claim (I : Inv ⟨m, false, b, x :: t, r⟩ n) (hm : 0 < m) (v : Int) : b ≠ [] ∧ ¬ b.length < m ∧ Inv ⟨m, false, b.tail ++ [v], t, r⟩ n := by
  obtain ⟨e1, e2⟩ := I.snd (by simp)
  simp only at e1 e2
  subst e2
  have hb : b ≠ [] := by rintro rfl; simp at e1; omega
  have hl : (b.tail ++ [v]).length = m := by
    cases b with
    | nil => exact absurd rfl hb
    | cons y u => simp at e1 ⊢; omega
  exact ⟨hb, by omega, rfl, fun _ => ⟨hl, rfl⟩, fun e => absurd rfl e, by simp only; omega, fun y hy => I.rs y (List.mem_cons_of_mem _ hy), by simp⟩
/-- To receive, the buffer has a value. -/
theorem Inv.r_take (I : Inv ⟨m, false, b, [], r⟩ n) (hb : 0 < b.length) : Inv ⟨m, false, b.tail, [], r⟩ n := by
  have hr : r = [] := by
    by_cases e : r = []
    · exact e
    · have := I.rcv e; simp only at this; subst this; simp at hb
  subst hr
  exact ⟨rfl, fun e => absurd rfl e, fun e => absurd rfl e, by have := I.len; simp only at this; simp; omega, by simp, by simp⟩
/-- To receive, nobody serves: it waits. -/
theorem Inv.r_wait (I : Inv ⟨m, false, b, [], r⟩ n) (hb : b.length = 0) : (n : Int) ∉ r ∧ Inv ⟨m, false, b, [], r ++ [(n : Int)]⟩ (n + 1) := by
  have hb' : b = [] := List.length_eq_zero_iff.1 hb
  subst hb'
  refine ⟨fun hx => by have := I.rr _ hx; omega, rfl, fun e => absurd rfl e, fun _ => rfl, by simp, by simp, fun y hy => ?_⟩
  rcases List.mem_append.1 hy with hy | hy
  · have := I.rr y hy; omega
  · simp only [List.mem_singleton] at hy; omega
end
end Go.Proofs.Ytkpnkhakjgfgfaa
