/-
  An order of the call's own; the walk of tollbarlaw09's alive.
-/
import Derived.Test.YtmfjklfjbcjeiaaOSame
namespace Go.Proofs.Ytmfjklfjbcjeiaa
open Go.RowKit

/-- An order that was made since w0, where nothing older was turned. -/
structure Mine (w0 W : World) (B n : Nat) (xs : List Int) : Prop where
  ord : Ord W B n xs
  but : But [] w0 W
  own : w0.heap.size ≤ B

section
variable {w0 W W' : World} {B n : Nat} {xs ys : List Int}
theorem Mine.fresh (h : Mine w0 W B n xs) (hb : But [] W W') : Mine w0 W' B n xs := ⟨h.ord.fresh hb, h.but.next hb, h.own⟩
theorem Mine.drew (h : Mine w0 W B n xs) : Mine w0 W.drew B n xs := h.fresh (But.refl [] W).drew
theorem Mine.below (h : Mine w0 W B n xs) : Below w0.heap.size w0 W := h.but.below (Nat.le_refl _) (by simp)
theorem Mine.later (h : Mine w0 W B n xs) (hb : Below W.heap.size W W') : Mine w0 W' B n xs := h.fresh (But.of_below hb [])
theorem Mine.turn (h : Mine w0 W B n xs) (hq : Ord W' B n ys) (hb : But [B] W W') : Mine w0 W' B n ys :=
  ⟨hq, h.but.own hb (by simpa using h.own), h.own⟩
/-- What writes a row of the call's own leaves the order. -/
theorem Mine.beside (h : Mine w0 W B n xs) {S : List Nat} (hb : But S W W') (hB : B ∉ S) (hS : ∀ x ∈ S, w0.heap.size ≤ x) : Mine w0 W' B n xs := ⟨h.ord.but hb hB, h.but.own hb hS, h.own⟩
/-- A row of the call's own stays while older blocks are turned. -/
theorem own_keep {base k : Nat} {e : TypeId} {size : Nat} {v : Value} {l : List Value} (h : W.ownsRow base e size v k l) {S : List Nat} (hb : But S W W') (hS : ∀ x ∈ S, x < base) : W'.ownsRow base e size v k l :=
  hb.row h (fun g hg hm => by have := (h.lt g hg).1; have := hS g hm; omega)

theorem m_new (w : World) (n : Nat) (h1 : 1 ≤ n) (h2 : n ≤ 6) (hz : But [] w0 w) :
    Calls Try.prog 6 #[.int .i64 (n : Int)] w fun e w' => ∃ B, e = .returned (.tuple #[.pointer (some ⟨B, 0, none⟩), .int .i64 0]) ∧ Mine w0 w' B n (rise n) ∧ w.heap.size ≤ B ∧ But [] w w' := by
  refine (new_ok n w h1 h2).mono ?_
  rintro e w' ⟨rfl, hq, hb⟩
  exact ⟨_, rfl, ⟨hq, hz.next hb, hz.size⟩, Nat.le_refl _, hb⟩
theorem m_took (k : Int) {e : Int} (w : World) (h : Mine w0 w B n xs) (he : e = tookE xs k) (hX : ys = tookX xs k) :
    Calls Try.prog 8 #[.pointer (some ⟨B, 0, none⟩), .int .i64 k] w fun e' w' => e' = .returned (.int .i64 e) ∧ Mine w0 w' B n ys ∧ But [B] w w' := by
  subst he hX
  refine (took_any k w h.ord).mono ?_
  rintro e w' ⟨h1, h2, h3⟩
  exact ⟨h1, h.turn h2 h3, h3⟩
theorem m_pick (s : Nat) {z x : Int} {b : Bool} (w : World) (hs : s < 18446744073709551616) (h : Mine w0 w B n xs) (hz : z = (s : Int)) (hx : x = pickV s xs) (hb : b = pickB s xs) :
    Calls Try.prog 7 #[.pointer (some ⟨B, 0, none⟩), .int .u64 z] w fun e' w' => e' = .returned (.tuple #[.int .i64 x, .bool b]) ∧ Mine w0 w' B n xs ∧ But [] w w' := by
  subst hz hx hb
  refine (pick_any w hs h.ord).mono ?_
  rintro e w' ⟨h1, h2⟩
  exact ⟨h1, h.later h2, But.of_below h2 []⟩
theorem m_age (k : Int) {e : Int} (w : World) (h : Mine w0 w B n xs) (he : e = ageV xs k) :
    Calls Try.prog 10 #[.pointer (some ⟨B, 0, none⟩), .int .i64 k] w fun e' w' => e' = .returned (.int .i64 e) ∧ Mine w0 w' B n xs ∧ But [] w w' := by
  subst he
  refine (age_any k w h.ord).mono ?_
  rintro e w' ⟨h1, h2⟩
  exact ⟨h1, h.later h2, But.of_below h2 []⟩
end

set_option maxRecDepth 100000 in
set_option maxHeartbeats 1600000 in
theorem alive_any (w : World) :
    Calls Try.prog 5 #[] w fun e w' => e = .returned (.bool true) ∧ Below w.heap.size w w' := by
  have hnew := m_new (w0 := w) w 3 (by omega) (by omega) (But.refl [] w)
  have hbad := fun w => new_bad 0 w (by omega)
  go_enter Try.func5, Try.ntmps5
  go_wp2_with fail
  refine hnew.mono ?_
  rintro e w1 ⟨B, rfl, hQ, -, -⟩
  rw [show rise 3 = [0, 1, 2] from rfl] at hQ
  clear hnew
  go_wp2_with fail
  refine (hbad _).mono ?_
  rintro e w1 ⟨rfl, rfl⟩
  clear hbad
  go_wp2_with fail
  refine (m_pick (x := 1) (b := true) 6 _ (by decide) hQ rfl (by decide) (by decide)).mono ?_
  rintro e w2 ⟨rfl, hQ, -⟩
  go_wp2_with fail
  refine (m_took (e := 0) (ys := [0, 2, 1]) 1 _ hQ rfl rfl).mono ?_
  rintro e w3 ⟨rfl, hQ, -⟩
  go_wp2_with fail
  refine (list_any _ hQ.ord).mono ?_
  rintro e w4 ⟨v, rfl, hown, hb⟩
  have hQ := hQ.later hb
  have hrow := RowI.of_owns hown
  clear hb hown
  go_wp2_with fail
  refine (m_pick (x := 2) (b := true) 6 _ (by decide) hQ rfl (by decide) (by decide)).mono ?_
  rintro e w5 ⟨rfl, hQ, hb⟩
  have hrow := hrow.below (hb.below (Nat.le_refl _) (by simp))
  clear hb
  go_wp2_with fail
  refine (m_pick (x := 0) (b := false) 0 _ (by decide) hQ rfl (by decide) (by decide)).mono ?_
  rintro e w6 ⟨rfl, hQ, hb⟩
  have hrow := hrow.below (hb.below (Nat.le_refl _) (by simp))
  clear hb
  have hb8 : Below w6.heap.size w6 (w6.alloc (.cells #[.int .i64 0, .int .i64 2, .int .i64 1] 3)) := (Below.refl _ _).alloc (Nat.le_refl _) _
  have hrow1 := hrow.below hb8
  have hnew : RowI (w6.alloc (.cells #[.int .i64 0, .int .i64 2, .int .i64 1] 3)) (.slice (some ⟨w6.heap.size, 0, none⟩) 3 3) [0, 2, 1] := by
    refine .inr ⟨_, 0, 3, rfl, by simp, by simp, fun j hj => ?_⟩
    have hh := World.alloc_heap_new w6 (.cells #[.int .i64 0, .int .i64 2, .int .i64 1] 3)
    simp only [World.cell?, hh]
    simp only [List.length_cons, List.length_nil, Nat.zero_add, Nat.reduceAdd] at hj
    rcases (by omega : j = 0 ∨ j = 1 ∨ j = 2) with rfl | rfl | rfl <;> rfl
  have hQ8 := hQ.later hb8
  have hsame := same_any _ _ _ _ _ hrow1 hnew (by simp) (by simp)
  obtain ⟨p, c, rfl⟩ := hrow.slice
  clear hQ hrow hrow1 hnew hb8
  go_wp2_with fail
  refine hsame.mono ?_
  rintro e w9 ⟨rfl, hb9⟩
  have hQ9 := hQ8.later hb9
  clear hQ8 hb9 hsame
  simp only [decide_true]
  go_wp2_with fail
  refine (m_age (e := 2) 0 _ hQ9 (by decide)).mono ?_
  rintro e w10 ⟨rfl, hQ, -⟩
  go_wp2_with fail
  refine (m_took (e := 2) (ys := [0, 2, 1]) 3 _ hQ rfl rfl).mono ?_
  rintro e w11 ⟨rfl, hQ, -⟩
  have hbe := hQ.below
  clear hQ hQ9
  go_wp2_with fail
  go_ret
  exact ⟨rfl, hbe⟩
end Go.Proofs.Ytmfjklfjbcjeiaa
