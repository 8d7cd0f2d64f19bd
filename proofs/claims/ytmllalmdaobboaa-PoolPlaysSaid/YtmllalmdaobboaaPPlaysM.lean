/-
  What the law PoolPlays holds in memory at the head of a round.
-/
import Derived.Test.YtmllalmdaobboaaPRefList
import Derived.Test.YtmllalmdaobboaaPKeepM
namespace Go.Proofs.Ytmllalmdaobboaa
open Go.RowKit

/-- A pool and the reference's, both with the same slots, and the same ones free. -/
structure Pair (w0 W : World) (B V cap R n : Nat) (T : List (Option Sud)) (F : List Nat) : Prop where
  mine : Mine w0 W B V cap T F
  ref : ∃ g c rv, RefP W R g c rv T F
  ownR : w0.heap.size ≤ R
  tl : T.length = n
section
variable {w0 W W1 W2 : World} {B V cap R n : Nat} {T T' : List (Option Sud)} {F F' : List Nat}
theorem Pair.fresh (h : Pair w0 W B V cap R n T F) (hb : But [] W W1) : Pair w0 W1 B V cap R n T F := by
  obtain ⟨g, c, rv, hr⟩ := h.ref
  exact ⟨h.mine.fresh hb, ⟨g, c, rv, hr.fresh hb⟩, h.ownR, h.tl⟩
theorem Pair.drewN (h : Pair w0 W B V cap R n T F) (k : Nat) : Pair w0 (W.drewN k) B V cap R n T F := h.fresh ((But.refl [] W).drewN k)
theorem Pair.drew (h : Pair w0 W B V cap R n T F) : Pair w0 W.drew B V cap R n T F := h.drewN 1
theorem Pair.n60 (h : Pair w0 W B V cap R n T F) : n ≤ 60 := by
  obtain ⟨g, c, rv, hr⟩ := h.ref
  have := hr.len
  have := h.tl
  omega
theorem Pair.ltR (h : Pair w0 W B V cap R n T F) : R < W.heap.size := by
  obtain ⟨g, c, rv, hr⟩ := h.ref
  exact hr.ltR
/-- Both did it: the pool, then the reference's. -/
theorem Pair.step (h : Pair w0 W B V cap R n T F) (h1 : Mine w0 W1 B V cap T' F') (hb : But [B, V] W W1) (h2 : RefNow W1 R T' F' W2) (hl : T'.length = n) : Pair w0 W2 B V cap R n T' F' := by
  obtain ⟨g, c, rv, hr⟩ := h.ref
  have hr1 := hr.pool h.mine.pool hb
  obtain ⟨g', c', rv', h3, h4⟩ := h2
  exact ⟨h1.refp hr1 h4 h.ownR, ⟨g', c', rv', h3⟩, h.ownR, hl⟩
/-- The pool is another one, that was made since. -/
theorem Pair.other (h : Pair w0 W B V cap R n T F) {B' V' cap' : Nat} (h1 : Mine w0 W1 B' V' cap' T F) (hb : But [B, V] W W1) : Pair w0 W1 B' V' cap' R n T F := by
  obtain ⟨g, c, rv, hr⟩ := h.ref
  exact ⟨h1, ⟨g, c, rv, hr.pool h.mine.pool hb⟩, h.ownR, h.tl⟩
end

/-! ### What is done to a pool that nobody looks at again -/
theorem old_take {w0 : World} {B V cap : Nat} {T : List (Option Sud)} {F : List Nat} {v : Value} (x : Sud) (w : World) (h : Mine w0 w B V cap T F) (hv : v = sudA x) :
    Calls Try.prog 10 #[.pointer (some ⟨B, 0, none⟩), v] w fun e w' => ∃ a b : Int, e = .returned (.tuple #[.int .i64 a, .int .i64 b]) ∧ (∃ T' F', Mine w0 w' B V cap T' F') ∧ But [B, V] w w' := by
  cases F with
  | nil => exact (m_full x w h hv).mono fun _ _ ⟨h1, h2, h3⟩ => ⟨_, _, h1, ⟨_, _, h2⟩, h3.mono (by simp)⟩
  | cons k F' => exact (m_take x w h hv rfl).mono fun _ _ ⟨h1, h2, h3⟩ => ⟨_, _, h1, ⟨_, _, h2⟩, h3⟩
theorem old_give {w0 : World} {B V cap : Nat} {T : List (Option Sud)} {F : List Nat} (i : Int) (w : World) (h : Mine w0 w B V cap T F) :
    Calls Try.prog 12 #[.pointer (some ⟨B, 0, none⟩), .int .i64 i] w fun e w' => ∃ a : Int, e = .returned (.int .i64 a) ∧ But [B, V] w w' := by
  cases hh : heldAt T i with
  | none => exact (pt_give_not w h.pool hh).mono fun _ _ ⟨h1, h2⟩ => ⟨_, h1, by rw [h2]; exact But.refl _ _⟩
  | some x =>
    obtain ⟨k, rfl, hk⟩ := held_nat hh
    exact (m_give w h hk rfl rfl).mono fun _ _ ⟨h1, _, h3⟩ => ⟨_, h1, h3⟩
theorem m_give_not {w0 : World} {B V cap : Nat} {T : List (Option Sud)} {F : List Nat} (i : Int) (w : World) (h : Mine w0 w B V cap T F) (hi : heldAt T i = none) :
    Calls Try.prog 12 #[.pointer (some ⟨B, 0, none⟩), .int .i64 i] w fun e w' => e = .returned (.int .i64 3) ∧ But [] w w' :=
  (pt_give_not w h.pool hi).mono fun _ _ ⟨h1, h2⟩ => ⟨h1, by rw [h2]; exact But.refl _ _⟩
theorem few_of {W : World} {B V cap k : Nat} {T : List (Option Sud)} {F : List Nat} {x : Sud} (h : PoolAt W B V cap T F) (hk : T[k]? = some (some x)) : F.length < T.length := by
  have hlt : k < T.length := (List.getElem?_eq_some_iff.1 hk).1
  have h1 := cntTo_dn hk T.length
  have h2 := h.sum
  rw [if_pos hlt] at h1
  omega
end Go.Proofs.Ytmllalmdaobboaa
