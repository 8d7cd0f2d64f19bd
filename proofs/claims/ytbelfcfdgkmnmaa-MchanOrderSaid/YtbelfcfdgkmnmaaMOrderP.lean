/-
  What the law MchanOrder holds at the head of a round, and what each way makes of it; pure.
-/
import Derived.Test.YtbelfcfdgkmnmaaMAlive
namespace Go.Proofs.Ytbelfcfdgkmnmaa
open Go.RowKit

/-- The k numbers from g on. -/
def run : Nat → Nat → List Int
  | _, 0 => []
  | g, k + 1 => (g : Int) :: run (g + 1) k
theorem run_len : ∀ (k g : Nat), (run g k).length = k
  | 0, _ => rfl
  | k + 1, g => by rw [run, List.length_cons, run_len k]
theorem run_snoc : ∀ (k g : Nat), run g (k + 1) = run g k ++ [((g + k : Nat) : Int)]
  | 0, _ => rfl
  | k + 1, g => by
    rw [run, run_snoc k (g + 1), run, List.cons_append, show g + 1 + k = g + (k + 1) by omega]

/-- Those of a row came one behind the other: from lo on, ahead of hi. -/
def Inc : Int → List Wt → Int → Prop
  | _, [], _ => True
  | lo, x :: t, hi => lo ≤ x.t ∧ x.t < hi ∧ Inc (x.t + 1) t hi
theorem Inc.more : ∀ {l : List Wt} {lo hi : Int}, Inc lo l hi → Inc lo l (hi + 1)
  | [], _, _, _ => trivial
  | _ :: _, _, _, h => ⟨h.1, by have := h.2.1; omega, h.2.2.more⟩
theorem Inc.snoc {x : Wt} : ∀ {l : List Wt} {lo hi : Int}, Inc lo l hi → lo ≤ hi → x.t = hi → Inc lo (l ++ [x]) (hi + 1)
  | [], _, _, _, h, e => ⟨by omega, by omega, trivial⟩
  | _ :: _, _, _, h, _, e => ⟨h.1, by have := h.2.1; omega, h.2.2.snoc (by have := h.2.1; omega) e⟩
theorem Inc.lt : ∀ {l : List Wt} {lo hi : Int}, Inc lo l hi → ∀ y ∈ l, y.t < hi
  | _ :: _, _, _, h, y, hy => by
    rcases List.mem_cons.1 hy with rfl | hy
    · exact h.2.1
    · exact h.2.2.lt y hy
theorem Inc.unlike {l : List Wt} {lo hi : Int} (h : Inc lo l hi) (v : Int) : ∀ y ∈ l, likeW ⟨hi, 0, v⟩ y = false := fun y hy => by
  have := h.lt y hy
  unfold likeW
  rw [beq_eq_false_iff_ne.2 (show y.t ≠ hi by omega)]; rfl

/-- What is so behind i rounds: n were sent, g received; those that wait to send came from a on, those to receive from b on. -/
structure Inv (m i n g : Nat) (a b : Int) (buf : List Int) (S R : List Wt) : Prop where
  le : ∃ k, n = g + k ∧ buf ++ S.map Wt.v = run g k
  ni : n ≤ i
  full : S ≠ [] → buf.length = m ∧ R = []
  void : R ≠ [] → buf = [] ∧ S = []
  room : buf.length ≤ m
  sends : Inc a S i
  recvs : Inc b R i
  a0 : 0 ≤ a ∧ a ≤ i
  b0 : 0 ≤ b ∧ b ≤ i
  lenS : S.length ≤ i
  lenR : R.length ≤ i

section
variable {m i n g : Nat} {a b : Int} {buf t2 : List Int} {S R t : List Wt} {x : Wt} {y : Int}
theorem Inv.start (m : Nat) : Inv m 0 0 0 0 0 [] [] [] :=
  ⟨⟨0, rfl, rfl⟩, Nat.le_refl _, fun h => absurd rfl h, fun h => absurd rfl h, Nat.zero_le _, trivial, trivial, ⟨by omega, by omega⟩, ⟨by omega, by omega⟩, Nat.zero_le _, Nat.zero_le _⟩
/-- Into the buffer. -/
theorem Inv.put (h : Inv m i n g a b buf S []) (hb : buf.length < m) : S = [] ∧ Inv m (i + 1) (n + 1) g a b (buf ++ [(n : Int)]) [] [] := by
  have hS : S = [] := Decidable.byContradiction fun e => by have := (h.full e).1; omega
  subst hS
  obtain ⟨k, hn, hv⟩ := h.le
  refine ⟨rfl, ⟨k + 1, by omega, ?_⟩, by have := h.ni; omega, fun e => absurd rfl e, fun e => absurd rfl e, by simp; omega, trivial, trivial, ⟨h.a0.1, by have := h.a0.2; omega⟩, ⟨h.b0.1, by have := h.b0.2; omega⟩, Nat.zero_le _, Nat.zero_le _⟩
  rw [run_snoc, ← hv, hn]; simp
/-- One waits to send. -/
theorem Inv.waitS (h : Inv m i n g a b buf S []) (hb : ¬ buf.length < m) : Inv m (i + 1) (n + 1) g a b buf (S ++ [⟨i, 0, n⟩]) [] := by
  obtain ⟨k, hn, hv⟩ := h.le
  refine ⟨⟨k + 1, by omega, ?_⟩, by have := h.ni; omega, fun _ => ⟨by have := h.room; omega, rfl⟩, fun e => absurd rfl e, h.room, h.sends.snoc h.a0.2 rfl, trivial, ⟨h.a0.1, by have := h.a0.2; omega⟩, ⟨h.b0.1, by have := h.b0.2; omega⟩, by have := h.lenS; simp; omega, Nat.zero_le _⟩
  rw [run_snoc, ← hv, hn]; simp
/-- To one that waits to receive. -/
theorem Inv.hand (h : Inv m i n g a b buf S (x :: t)) : S = [] ∧ buf = [] ∧ n = g ∧ b ≤ x.t ∧ x.t < i ∧ Inv m (i + 1) (n + 1) (n + 1) a (x.t + 1) [] [] t := by
  obtain ⟨rfl, rfl⟩ := h.void (by simp)
  obtain ⟨k, hn, hv⟩ := h.le
  have hk : k = 0 := by have := congrArg List.length hv; rw [run_len] at this; simpa using this.symm
  obtain ⟨h1, h2, h3⟩ := h.recvs
  have h0 := h.b0.1
  refine ⟨rfl, rfl, by omega, h1, h2, ⟨0, rfl, rfl⟩, by have := h.ni; omega, fun e => absurd rfl e, fun _ => ⟨rfl, rfl⟩, Nat.zero_le _, trivial, h3.more, ⟨h.a0.1, by have := h.a0.2; omega⟩, ⟨by omega, by omega⟩, Nat.zero_le _, by have := h.lenR; simp at this; omega⟩
/-- Of one that waits to send, without a buffer. -/
theorem Inv.fetch (h : Inv m i n g a b buf (x :: t) R) (hm : m = 0) : R = [] ∧ buf = [] ∧ x.v = g ∧ a ≤ x.t ∧ x.t < i ∧ Inv m (i + 1) n (g + 1) (x.t + 1) b [] t [] := by
  obtain ⟨hb, rfl⟩ := h.full (by simp)
  have hbuf : buf = [] := List.length_eq_zero_iff.1 (by omega)
  subst hbuf
  obtain ⟨k, hn, hv⟩ := h.le
  obtain ⟨h1, h2, h3⟩ := h.sends
  have h0 := h.a0.1
  cases k with
  | zero => simp [run] at hv
  | succ k =>
    simp only [List.nil_append, List.map_cons, run, List.cons.injEq] at hv
    exact ⟨rfl, rfl, hv.1, h1, h2, ⟨k, by omega, hv.2⟩, by have := h.ni; omega, fun _ => ⟨by simp; omega, rfl⟩, fun e => absurd rfl e, Nat.zero_le _, h3.more, trivial, ⟨by omega, by omega⟩, ⟨h.b0.1, by have := h.b0.2; omega⟩, by have := h.lenS; simp at this; omega, Nat.zero_le _⟩
/-- Out of the buffer, into which one that waits to send puts. -/
theorem Inv.refill (h : Inv m i n g a b buf (x :: t) R) (hm : m ≠ 0) : R = [] ∧ (∃ t2, buf = (g : Int) :: t2 ∧ t2.length < m ∧ a ≤ x.t ∧ x.t < i ∧ Inv m (i + 1) n (g + 1) (x.t + 1) b (t2 ++ [x.v]) t []) := by
  obtain ⟨hb, rfl⟩ := h.full (by simp)
  obtain ⟨k, hn, hv⟩ := h.le
  obtain ⟨h1, h2, h3⟩ := h.sends
  have h0 := h.a0.1
  cases buf with
  | nil => exact absurd hb.symm hm
  | cons y t2 =>
    cases k with
    | zero => simp [run] at hv
    | succ k =>
      simp only [List.cons_append, List.map_cons, run, List.cons.injEq] at hv
      obtain ⟨rfl, hv⟩ := hv
      simp only [List.length_cons] at hb
      exact ⟨rfl, t2, rfl, by omega, h1, h2, ⟨k, by omega, by rw [← hv]; simp⟩, by have := h.ni; omega, fun _ => ⟨by simp; omega, rfl⟩, fun e => absurd rfl e, by simp; omega, h3.more, trivial, ⟨by omega, by omega⟩, ⟨h.b0.1, by have := h.b0.2; omega⟩, by have := h.lenS; simp at this; omega, Nat.zero_le _⟩
/-- Out of the buffer. -/
theorem Inv.get (h : Inv m i n g a b (y :: t2) [] R) : R = [] ∧ y = g ∧ Inv m (i + 1) n (g + 1) a b t2 [] [] := by
  have hR : R = [] := Decidable.byContradiction fun e => by have := (h.void e).1; simp at this
  subst hR
  obtain ⟨k, hn, hv⟩ := h.le
  cases k with
  | zero => simp [run] at hv
  | succ k =>
    simp only [List.cons_append, run, List.cons.injEq] at hv
    have hr := h.room
    simp only [List.length_cons] at hr
    exact ⟨rfl, hv.1, ⟨k, by omega, hv.2⟩, by have := h.ni; omega, fun e => absurd rfl e, fun e => absurd rfl e, by omega, trivial, trivial, ⟨h.a0.1, by have := h.a0.2; omega⟩, ⟨h.b0.1, by have := h.b0.2; omega⟩, Nat.zero_le _, Nat.zero_le _⟩
/-- One waits to receive. -/
theorem Inv.waitR (h : Inv m i n g a b [] [] R) (v : Int) : Inv m (i + 1) n g a b [] [] (R ++ [⟨i, 0, v⟩]) := by
  obtain ⟨k, hn, hv⟩ := h.le
  exact ⟨⟨k, hn, hv⟩, by have := h.ni; omega, fun e => absurd rfl e, fun _ => ⟨rfl, rfl⟩, h.room, trivial, h.recvs.snoc h.b0.2 rfl, ⟨h.a0.1, by have := h.a0.2; omega⟩, ⟨h.b0.1, by have := h.b0.2; omega⟩, Nat.zero_le _, by have := h.lenR; simp; omega⟩
/-- As many are there as were sent, and not received. -/
theorem Inv.count (h : Inv m i n g a b buf S R) : g ≤ n ∧ buf.length + S.length = n - g := by
  obtain ⟨k, hn, hv⟩ := h.le
  have := congrArg List.length hv
  rw [run_len] at this
  simp at this
  omega
end
end Go.Proofs.Ytbelfcfdgkmnmaa
