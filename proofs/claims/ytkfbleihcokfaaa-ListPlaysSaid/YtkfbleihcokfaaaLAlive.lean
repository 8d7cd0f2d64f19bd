/-
  A queue of the call's own; the walks of tollbarlaw07's alive and nothing.
-/
import Derived.Test.YtkfbleihcokfaaaLSame
import Derived.Test.YtkfbleihcokfaaaLDrop
import Derived.Test.YtkfbleihcokfaaaLCopy
namespace Go.Proofs.Ytkfbleihcokfaaa
open Go.RowKit

/-- A queue that was made since w0, where nothing older was turned. -/
structure Mine (w0 W : World) (B M : Nat) (xs : List Int) : Prop where
  que : Que W B M xs
  but : But [] w0 W
  ownB : w0.heap.size ≤ B
  ownM : w0.heap.size ≤ M

section
variable {w0 W W' : World} {B M : Nat} {xs : List Int}
theorem Mine.fresh (h : Mine w0 W B M xs) (hb : But [] W W') : Mine w0 W' B M xs := ⟨h.que.fresh hb, h.but.next hb, h.ownB, h.ownM⟩
theorem Mine.drew (h : Mine w0 W B M xs) : Mine w0 W.drew B M xs := h.fresh (But.refl [] W).drew
theorem Mine.below (h : Mine w0 W B M xs) : Below w0.heap.size w0 W := h.but.below (Nat.le_refl _) (by simp)
theorem Mine.later (h : Mine w0 W B M xs) (hb : Below W.heap.size W W') : Mine w0 W' B M xs := h.fresh (But.of_below hb [])
theorem Mine.turn (h : Mine w0 W B M xs) {ys : List Int} (hq : Que W' B M ys) (hb : But [B, M] W W') : Mine w0 W' B M ys :=
  ⟨hq, h.but.own hb (by simp only [List.mem_cons, List.not_mem_nil, or_false]; rintro x (rfl | rfl); exact h.ownB; exact h.ownM), h.ownB, h.ownM⟩
/-- What writes a row of the call's own leaves the queue. -/
theorem Mine.beside (h : Mine w0 W B M xs) {S : List Nat} (hb : But S W W') (hB : B ∉ S) (hM : M ∉ S) (hS : ∀ x ∈ S, w0.heap.size ≤ x) : Mine w0 W' B M xs := ⟨h.que.but hb hB hM, h.but.own hb hS, h.ownB, h.ownM⟩
end

/-- A row of the call's own stays while older blocks are turned. -/
theorem own_keep {W W' : World} {base n : Nat} {e : TypeId} {size : Nat} {v : Value} {xs : List Value} (h : W.ownsRow base e size v n xs) {S : List Nat} (hb : But S W W') (hS : ∀ x ∈ S, x < base) : W'.ownsRow base e size v n xs :=
  hb.row h (fun g hg hm => by have := (h.lt g hg).1; have := hS g hm; omega)
theorem m_new {w0 : World} (w : World) (hz : But [] w0 w) :
    Calls Try.prog 7 #[] w fun e w' => ∃ B M, e = .returned (.pointer (some ⟨B, 0, none⟩)) ∧ Mine w0 w' B M [] ∧ w.heap.size ≤ B ∧ w.heap.size ≤ M ∧ But [] w w' := by
  refine (made_any w).mono ?_
  rintro e w' ⟨rfl, hq, hb⟩
  exact ⟨_, _, rfl, ⟨hq, hz.next hb, by have := hz.size; omega, hz.size⟩, by omega, Nat.le_refl _, hb⟩
section
variable {w0 : World} {B M : Nat} {xs ys : List Int}
theorem m_put (i : Int) {k : Int} (w : World) (h : Mine w0 w B M xs) (hk : k = putE xs i) (hX : ys = putX xs i) :
    Calls Try.prog 9 #[.pointer (some ⟨B, 0, none⟩), .int .i64 i] w fun e w' => e = .returned (.int .i64 k) ∧ Mine w0 w' B M ys ∧ But [B, M] w w' := by
  subst hk hX
  refine (put_any i w h.que).mono ?_
  rintro e w' ⟨h1, h2, h3⟩
  exact ⟨h1, h.turn h2 h3, h3⟩
theorem m_drop (i : Int) (hi : I64b i) {k : Int} (w : World) (h : Mine w0 w B M xs) (hk : k = dropE xs i) (hX : ys = xs.erase i) :
    Calls Try.prog 13 #[.pointer (some ⟨B, 0, none⟩), .int .i64 i] w fun e w' => e = .returned (.int .i64 k) ∧ Mine w0 w' B M ys ∧ But [B, M] w w' := by
  subst hk hX
  refine (drop_any i hi w h.que).mono ?_
  rintro e w' ⟨h1, h2, h3⟩
  exact ⟨h1, h.turn h2 h3, h3⟩
theorem m_pop {i k : Int} (w : World) (h : Mine w0 w B M xs) (hi : i = (xs[0]?).getD 0) (hk : k = popE xs) (hX : ys = xs.tail) :
    Calls Try.prog 11 #[.pointer (some ⟨B, 0, none⟩)] w fun e w' => e = .returned (.tuple #[.int .i64 i, .int .i64 k]) ∧ Mine w0 w' B M ys ∧ But [B, M] w w' := by
  subst hi hk hX
  refine (pop_any w h.que).mono ?_
  rintro e w' ⟨h1, h2, h3⟩
  exact ⟨h1, h.turn h2 h3, h3⟩
end

set_option maxRecDepth 100000 in
set_option maxHeartbeats 1600000 in
theorem alive_any (w : World) :
    Calls Try.prog 6 #[] w fun e w' => e = .returned (.bool true) ∧ Below w.heap.size w w' := by
  go_enter Try.func6, Try.ntmps6
  go_wp2_with fail
  refine (m_new _ (But.refl [] w)).mono ?_
  rintro e w1 ⟨B, M, rfl, hQ, -, -, -⟩
  go_wp2_with fail
  refine (m_put (k := 0) (ys := [5]) 5 _ hQ rfl rfl).mono ?_
  rintro e w2 ⟨rfl, hQ, -⟩
  go_wp2_with fail
  refine (m_put (k := 0) (ys := [5, 3]) 3 _ hQ rfl rfl).mono ?_
  rintro e w3 ⟨rfl, hQ, -⟩
  go_wp2_with fail
  refine (m_put (k := 0) (ys := [5, 3, 8]) 8 _ hQ rfl rfl).mono ?_
  rintro e w4 ⟨rfl, hQ, -⟩
  go_wp2_with fail
  refine (m_drop (k := 0) (ys := [5, 8]) 3 (by unfold I64b; omega) _ hQ rfl rfl).mono ?_
  rintro e w5 ⟨rfl, hQ, -⟩
  go_wp2_with fail
  refine (all_any _ hQ.que).mono ?_
  rintro e w6 ⟨v, rfl, hown, hb⟩
  have hB5 := hQ.que.ltB
  have hM5 := hQ.que.ltM
  have hQ := hQ.later hb
  clear hb
  go_wp2_with fail
  refine (next_any 5 (by unfold I64b; omega) _ hQ.que).mono ?_
  rintro e w7 ⟨rfl, hb⟩
  have hQ := hQ.fresh hb
  have hown := own_keep hown hb (by simp)
  clear hb
  rw [show nextE [5, 8] 5 = some 8 from rfl]
  simp only [Option.getD_some, Option.isSome_some]
  go_wp2_with fail
  refine (m_pop (i := 5) (k := 0) (ys := [8]) _ hQ rfl rfl rfl).mono ?_
  rintro e w8 ⟨rfl, hQ', hb⟩
  have hown := own_keep hown hb (by simp; omega)
  have hrow := RowI.of_owns hown
  have hb8 : Below w8.heap.size w8 (w8.alloc (.cells #[.int .i64 5, .int .i64 8] 3)) := (Below.refl _ _).alloc (Nat.le_refl _) _
  have hrow1 := hrow.below hb8
  have hnew : RowI (w8.alloc (.cells #[.int .i64 5, .int .i64 8] 3)) (.slice (some ⟨w8.heap.size, 0, none⟩) 2 2) [5, 8] := by
    refine .inr ⟨_, 0, 2, rfl, by simp, by simp, fun j hj => ?_⟩
    have hh := (MapKept.heap_alloc w8 (.cells #[.int .i64 5, .int .i64 8] 3)).1
    simp only [World.cell?, hh]
    simp only [List.length_cons, List.length_nil, Nat.zero_add, Nat.reduceAdd] at hj
    rcases (by omega : j = 0 ∨ j = 1) with rfl | rfl <;> rfl
  have hQ8 := hQ'.later hb8
  have hsame := same_any _ _ _ _ _ hrow1 hnew (by simp) (by simp)
  clear hQ hQ' hown hrow hrow1 hnew hb hB5 hM5 hb8
  go_wp2_with fail
  refine hsame.mono ?_
  rintro e w9 ⟨rfl, hb9⟩
  have hQ9 := hQ8.later hb9
  clear hQ8 hb9 hsame
  simp only [decide_true]
  go_wp2_with fail
  refine (m_put (k := 9) (ys := [8]) 8 _ hQ9 rfl rfl).mono ?_
  rintro e w10 ⟨rfl, hQ, -⟩
  go_wp2_with fail
  refine (m_put (k := 2) (ys := [8]) (-1) _ hQ rfl rfl).mono ?_
  rintro e w11 ⟨rfl, hQ, -⟩
  have hbe := hQ.below
  clear hQ hQ9
  go_wp2_with fail
  go_ret
  exact ⟨rfl, hbe⟩

set_option maxRecDepth 100000 in
set_option maxHeartbeats 1600000 in
theorem nothing_any (w : World) :
    Calls Try.prog 8 #[] w fun e w' => e = .returned (.bool true) ∧ Below w.heap.size w w' := by
  go_enter Try.func8, Try.ntmps8
  go_wp2_with fail
  refine (pop_nil _).mono ?_
  rintro e w1 ⟨rfl, rfl⟩
  go_wp2_with fail
  refine (front_nil _).mono ?_
  rintro e w1 ⟨rfl, rfl⟩
  go_wp2_with fail
  refine (next_nil 1 _).mono ?_
  rintro e w2 ⟨rfl, hb2⟩
  go_wp2_with fail
  refine (put_nil 1 _).mono ?_
  rintro e w2 ⟨rfl, rfl⟩
  go_wp2_with fail
  refine (drop_nil 1 _).mono ?_
  rintro e w2 ⟨rfl, rfl⟩
  go_wp2_with fail
  refine (has_nil 1 _).mono ?_
  rintro e w3 ⟨rfl, hb3⟩
  have hB3 := hb2.next hb3
  clear hb2 hb3
  go_wp2_with fail
  refine (len_nil _).mono ?_
  rintro e w3 ⟨rfl, rfl⟩
  go_wp2_with fail
  refine (all_nil _).mono ?_
  rintro e w4 ⟨a, c, rfl, hb4⟩
  have hB4 := hB3.next (But.of_below hb4 [])
  clear hB3 hb4
  go_wp2_with fail
  refine (copy_nil _).mono ?_
  rintro e w5 ⟨rfl, rfl⟩
  have hB5 := hB4.below (Nat.le_refl _) (by simp)
  clear hB4
  go_wp2_with fail
  go_ret
  exact ⟨rfl, hB5⟩
end Go.Proofs.Ytkfbleihcokfaaa
