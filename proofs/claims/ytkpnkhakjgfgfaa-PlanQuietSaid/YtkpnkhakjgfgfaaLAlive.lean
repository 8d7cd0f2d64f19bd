/-
  A queue of the call's own; the walks of tollbarlaw07's alive and nothing.
-/
import Derived.Test.YtkpnkhakjgfgfaaLSame
import Derived.Test.YtkpnkhakjgfgfaaLDrop
namespace Go.Proofs.Ytkpnkhakjgfgfaa.Lq
open Go.RowKit

/-- A queue that was made since w0, where nothing older was turned. -/
structure Mine (w0 W : World) (B M : Nat) (xs : List Int) : Prop where
  que : Que W B M xs
  but : But [] w0 W
  ownB : w0.heap.size ≤ B
  ownM : w0.heap.size ≤ M

section
variable {w0 W W' : World} {B M : Nat} {xs : List Int}
theorem Mine.fresh (h : Mine w0 W B M xs) (hb : But [] W W') : Mine w0 W' B M xs := ⟨h.que.fresh hb, h.but.next hb, h.ownB, h.ownM⟩
theorem Mine.drew (h : Mine w0 W B M xs) : Mine w0 W.drew B M xs := h.fresh (But.refl [] W).drew
theorem Mine.below (h : Mine w0 W B M xs) : Below w0.heap.size w0 W := h.but.below (Nat.le_refl _) (by simp)
theorem Mine.later (h : Mine w0 W B M xs) (hb : Below W.heap.size W W') : Mine w0 W' B M xs := h.fresh (But.of_below hb [])
theorem Mine.turn (h : Mine w0 W B M xs) {ys : List Int} (hq : Que W' B M ys) (hb : But [B, M] W W') : Mine w0 W' B M ys :=
  ⟨hq, h.but.own hb (by simp only [List.mem_cons, List.not_mem_nil, or_false]; rintro x (rfl | rfl); exact h.ownB; exact h.ownM), h.ownB, h.ownM⟩
/-- What writes a row of the call's own leaves the queue. -/
theorem Mine.beside (h : Mine w0 W B M xs) {S : List Nat} (hb : But S W W') (hB : B ∉ S) (hM : M ∉ S) (hS : ∀ x ∈ S, w0.heap.size ≤ x) : Mine w0 W' B M xs := ⟨h.que.but hb hB hM, h.but.own hb hS, h.ownB, h.ownM⟩
end

/-- A row of the call's own stays while older blocks are turned. -/
theorem own_keep {W W' : World} {base n : Nat} {e : TypeId} {size : Nat} {v : Value} {xs : List Value} (h : W.ownsRow base e size v n xs) {S : List Nat} (hb : But S W W') (hS : ∀ x ∈ S, x < base) : W'.ownsRow base e size v n xs :=
  hb.row h (fun g hg hm => by have := (h.lt g hg).1; have := hS g hm; omega)
theorem m_new {w0 : World} (w : World) (hz : But [] w0 w) :
    Calls Try.prog 35 #[] w fun e w' => ∃ B M, e = .returned (.pointer (some ⟨B, 0, none⟩)) ∧ Mine w0 w' B M [] ∧ w.heap.size ≤ B ∧ w.heap.size ≤ M ∧ But [] w w' := by
  refine (made_any w).mono ?_
  rintro e w' ⟨rfl, hq, hb⟩
  exact ⟨_, _, rfl, ⟨hq, hz.next hb, by have := hz.size; omega, hz.size⟩, by omega, Nat.le_refl _, hb⟩
section
variable {w0 : World} {B M : Nat} {xs ys : List Int}
theorem m_put (i : Int) {k : Int} (w : World) (h : Mine w0 w B M xs) (hk : k = putE xs i) (hX : ys = putX xs i) :
    Calls Try.prog 39 #[.pointer (some ⟨B, 0, none⟩), .int .i64 i] w fun e w' => e = .returned (.int .i64 k) ∧ Mine w0 w' B M ys ∧ But [B, M] w w' := by
  subst hk hX
  refine (put_any i w h.que).mono ?_
  rintro e w' ⟨h1, h2, h3⟩
  exact ⟨h1, h.turn h2 h3, h3⟩
theorem m_drop (i : Int) (hi : I64b i) {k : Int} (w : World) (h : Mine w0 w B M xs) (hk : k = dropE xs i) (hX : ys = xs.erase i) :
    Calls Try.prog 45 #[.pointer (some ⟨B, 0, none⟩), .int .i64 i] w fun e w' => e = .returned (.int .i64 k) ∧ Mine w0 w' B M ys ∧ But [B, M] w w' := by
  subst hk hX
  refine (drop_any i hi w h.que).mono ?_
  rintro e w' ⟨h1, h2, h3⟩
  exact ⟨h1, h.turn h2 h3, h3⟩
end

end Go.Proofs.Ytkpnkhakjgfgfaa.Lq
