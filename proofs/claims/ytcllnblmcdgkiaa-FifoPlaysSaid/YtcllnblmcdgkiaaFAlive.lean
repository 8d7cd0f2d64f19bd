/-
  A row of the call's own; the walks of tollbarlaw08's alive and nothing.
-/
import Derived.Test.YtcllnblmcdgkiaaFSet
namespace Go.Proofs.Ytcllnblmcdgkiaa
open Go.RowKit

/-- A row that was made since w0, where nothing older was turned. -/
structure Mine (w0 W : World) (B m : Nat) (xs : List Int) : Prop where
  fif : Fif W B m xs
  but : But [] w0 W
  own : w0.heap.size ≤ B

section
variable {w0 W W' : World} {B m : Nat} {xs ys : List Int}
theorem Mine.fresh (h : Mine w0 W B m xs) (hb : But [] W W') : Mine w0 W' B m xs := ⟨h.fif.fresh hb, h.but.next hb, h.own⟩
theorem Mine.drew (h : Mine w0 W B m xs) : Mine w0 W.drew B m xs := h.fresh (But.refl [] W).drew
theorem Mine.below (h : Mine w0 W B m xs) : Below w0.heap.size w0 W := h.but.below (Nat.le_refl _) (by simp)
theorem Mine.later (h : Mine w0 W B m xs) (hb : Below W.heap.size W W') : Mine w0 W' B m xs := h.fresh (But.of_below hb [])
theorem Mine.turn (h : Mine w0 W B m xs) (hq : Fif W' B m ys) (hb : But [B] W W') : Mine w0 W' B m ys :=
  ⟨hq, h.but.own hb (by simpa using h.own), h.own⟩
/-- What writes a row of the call's own leaves the row of tasks. -/
theorem Mine.beside (h : Mine w0 W B m xs) {S : List Nat} (hb : But S W W') (hB : B ∉ S) (hS : ∀ x ∈ S, w0.heap.size ≤ x) : Mine w0 W' B m xs := ⟨h.fif.but hb hB, h.but.own hb hS, h.own⟩

/-- A row of the call's own stays while older blocks are turned. -/
theorem own_keep {base n : Nat} {e : TypeId} {size : Nat} {v : Value} {xs : List Value} (h : W.ownsRow base e size v n xs) {S : List Nat} (hb : But S W W') (hS : ∀ x ∈ S, x < base) : W'.ownsRow base e size v n xs :=
  hb.row h (fun g hg hm => by have := (h.lt g hg).1; have := hS g hm; omega)
theorem m_new (w : World) (m : Nat) (h1 : 1 ≤ m) (h2 : m ≤ 32) (hz : But [] w0 w) :
    Calls Try.prog 8 #[.int .i64 (m : Int)] w fun e w' => ∃ B, e = .returned (.tuple #[.pointer (some ⟨B, 0, none⟩), .int .i64 0]) ∧ Mine w0 w' B m [] ∧ w.heap.size ≤ B ∧ But [] w w' := by
  refine (new_ok m w h1 h2).mono ?_
  rintro e w' ⟨rfl, hq, hb⟩
  exact ⟨_, rfl, ⟨hq, hz.next hb, hz.size⟩, Nat.le_refl _, hb⟩
theorem m_push (k : Int) {e : Int} (w : World) (h : Mine w0 w B m xs) (he : e = pushE m xs k) (hX : ys = pushX m xs k) :
    Calls Try.prog 9 #[.pointer (some ⟨B, 0, none⟩), .int .i64 k] w fun e' w' => e' = .returned (.int .i64 e) ∧ Mine w0 w' B m ys ∧ But [B] w w' := by
  subst he hX
  refine (push_any k w h.fif).mono ?_
  rintro e w' ⟨h1, h2, h3⟩
  exact ⟨h1, h.turn h2 h3, h3⟩
theorem m_drop (k : Int) {e : Int} (w : World) (h : Mine w0 w B m xs) (he : e = dropE xs k) (hX : ys = xs.erase k) :
    Calls Try.prog 13 #[.pointer (some ⟨B, 0, none⟩), .int .i64 k] w fun e' w' => e' = .returned (.int .i64 e) ∧ Mine w0 w' B m ys ∧ But [B] w w' := by
  subst he hX
  refine (drop_any k w h.fif).mono ?_
  rintro e w' ⟨h1, h2, h3⟩
  exact ⟨h1, h.turn h2 h3, h3⟩
theorem m_pop {x e : Int} (w : World) (h : Mine w0 w B m xs) (hx : x = xs.head?.getD 0) (he : e = popE xs) (hX : ys = xs.tail) :
    Calls Try.prog 11 #[.pointer (some ⟨B, 0, none⟩)] w fun e' w' => e' = .returned (.tuple #[.int .i64 x, .int .i64 e]) ∧ Mine w0 w' B m ys ∧ But [B] w w' := by
  subst hx he hX
  refine (pop_any w h.fif).mono ?_
  rintro e w' ⟨h1, h2, h3⟩
  exact ⟨h1, h.turn h2 h3, h3⟩
theorem m_copy (w : World) (h : Mine w0 w B m xs) :
    Calls Try.prog 15 #[.pointer (some ⟨B, 0, none⟩)] w fun e w' => ∃ B', e = .returned (.pointer (some ⟨B', 0, none⟩)) ∧ Mine w0 w' B' m xs ∧ w.heap.size ≤ B' ∧ But [] w w' := by
  refine (copy_any w h.fif).mono ?_
  rintro e w' ⟨rfl, hq, hb⟩
  exact ⟨_, rfl, ⟨hq, h.but.next hb, h.but.size⟩, Nat.le_refl _, hb⟩
end

set_option maxRecDepth 100000 in
set_option maxHeartbeats 1600000 in
theorem alive_any (w : World) :
    Calls Try.prog 6 #[] w fun e w' => e = .returned (.bool true) ∧ Below w.heap.size w w' := by
  have hnew := m_new (w0 := w) w 4 (by omega) (by omega) (But.refl [] w)
  have hbad := fun w => new_bad 0 w (by omega)
  go_enter Try.func6, Try.ntmps6
  go_wp2_with fail
  refine hnew.mono ?_
  rintro e w1 ⟨B, rfl, hQ, -, -⟩
  clear hnew
  go_wp2_with fail
  refine (hbad _).mono ?_
  rintro e w1 ⟨rfl, rfl⟩
  clear hbad
  go_wp2_with fail
  refine (m_push (e := 0) (ys := [5]) 5 _ hQ rfl rfl).mono ?_
  rintro e w2 ⟨rfl, hQ, -⟩
  go_wp2_with fail
  refine (m_push (e := 0) (ys := [5, 2]) 2 _ hQ rfl rfl).mono ?_
  rintro e w3 ⟨rfl, hQ, -⟩
  go_wp2_with fail
  refine (m_push (e := 9) (ys := [5, 2]) 5 _ hQ rfl rfl).mono ?_
  rintro e w4 ⟨rfl, hQ, -⟩
  go_wp2_with fail
  refine (at_any 2 _ hQ.fif).mono ?_
  rintro e w5 ⟨rfl, hb⟩
  have hQ := hQ.later hb
  clear hb
  rw [show atV [5, 2] 2 = 1 from rfl]
  go_wp2_with fail
  refine (m_pop (x := 5) (e := 0) (ys := [2]) _ hQ rfl rfl rfl).mono ?_
  rintro e w6 ⟨rfl, hQ, -⟩
  go_wp2_with fail
  refine (m_pop (x := 2) (e := 0) (ys := []) _ hQ rfl rfl rfl).mono ?_
  rintro e w7 ⟨rfl, hQ, -⟩
  go_wp2_with fail
  refine (m_pop (x := 0) (e := 3) (ys := []) _ hQ rfl rfl rfl).mono ?_
  rintro e w8 ⟨rfl, hQ, -⟩
  have hbe := hQ.below
  clear hQ
  go_wp2_with fail
  go_ret
  exact ⟨rfl, hbe⟩

set_option maxRecDepth 100000 in
set_option maxHeartbeats 1600000 in
theorem nothing_any (w : World) :
    Calls Try.prog 7 #[] w fun e w' => e = .returned (.bool true) ∧ Below w.heap.size w w' := by
  have hb0 := But.refl [] w
  go_enter Try.func7, Try.ntmps7
  go_wp2_with fail
  refine (pop_nil _).mono ?_
  rintro e w1 ⟨rfl, hb⟩
  have hb0 := hb0.next (But.of_below hb [])
  clear hb
  go_wp2_with fail
  refine (front_nil _).mono ?_
  rintro e w2 ⟨rfl, hb⟩
  have hb0 := hb0.next (But.of_below hb [])
  clear hb
  go_wp2_with fail
  refine (push_nil 1 _).mono ?_
  rintro e w2 ⟨rfl, rfl⟩
  go_wp2_with fail
  refine (drop_nil 1 _).mono ?_
  rintro e w3 ⟨rfl, hb⟩
  have hb0 := hb0.next (But.of_below hb [])
  clear hb
  go_wp2_with fail
  refine (has_nil 1 _).mono ?_
  rintro e w4 ⟨rfl, hb⟩
  have hb0 := hb0.next (But.of_below hb [])
  clear hb
  go_wp2_with fail
  refine (at_nil 1 _).mono ?_
  rintro e w5 ⟨rfl, hb⟩
  have hb0 := hb0.next (But.of_below hb [])
  clear hb
  go_wp2_with fail
  refine (len_nil _).mono ?_
  rintro e w5 ⟨rfl, rfl⟩
  go_wp2_with fail
  refine (list_nil _).mono ?_
  rintro e w6 ⟨a, c, rfl, hb⟩
  have hb0 := hb0.next (But.of_below hb [])
  clear hb
  go_wp2_with fail
  refine (set_nil _).mono ?_
  rintro e w7 ⟨rfl, hb⟩
  have hb0 := hb0.next (But.of_below hb [])
  clear hb
  go_wp2_with fail
  refine (copy_nil _).mono ?_
  rintro e w7 ⟨rfl, rfl⟩
  have hB := hb0.below (Nat.le_refl _) (by simp)
  clear hb0
  go_wp2_with fail
  go_ret
  exact ⟨rfl, hB⟩
end Go.Proofs.Ytcllnblmcdgkiaa
