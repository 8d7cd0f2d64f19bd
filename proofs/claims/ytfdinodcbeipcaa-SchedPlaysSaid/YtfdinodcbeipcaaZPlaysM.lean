/-
  What the law SchedPlays holds at the head of a round: a scheduler and the document's, side by side; each call's contract in these words.
-/
import Derived.Deep.CutRange
import Derived.Deep.Light
import Derived.Deep.RegionHeld3
import Derived.Deep.DrawnRows
import Derived.Test.YtfdinodcbeipcaaZRefDo
namespace Go.Proofs.Ytfdinodcbeipcaa
open Go.RowKit

/-! ### Side by side -/
/-- A scheduler that is t and the document's that is r, both made since w. -/
structure Half (w W : World) (S F R : Nat) (t r : Ss) : Prop where
  mine : Mys w W S F t
  ref : RefS W R r
  own : w.heap.size ≤ R
abbrev Duel (w W : World) (S F R : Nat) (s : Ss) : Prop := Half w W S F R s s

section
variable {w W W' : World} {S F R : Nat} {s t r u : Ss}
theorem RRaw.typ {m made live busy : Nat} {l : List Int} (h : RRaw W R m made live busy l) : ∃ cs, W.heap[R]? = some (.cells cs 31 (0, 0)) := by
  obtain ⟨sv, h, _⟩ := h; exact ⟨_, h⟩
theorem Scd.typF (h : Scd W S F s) : ∃ cs, W.heap[F]? = some (.cells cs 63 (0, 0)) := h.row.typ
theorem Scd.notInt (h : Scd W S F s) : NotInt W [S, F] := by
  obtain ⟨cs, hF⟩ := h.typF
  intro x hx ds z e
  simp only [List.mem_cons, List.not_mem_nil, or_false] at hx
  rcases hx with rfl | rfl
  · rw [h.head] at e; simp at e
  · rw [hF] at e; simp at e
theorem RRaw.apart {m made live busy : Nat} {l : List Int} (hr : RRaw W R m made live busy l) (h : Scd W S F s) : R ∉ [S, F] := by
  obtain ⟨cs, hF⟩ := h.typF
  obtain ⟨ds, hR⟩ := hr.typ
  simp only [List.mem_cons, List.not_mem_nil, or_false, not_or]
  exact ⟨type_ne hR h.head (by decide), type_ne hR hF (by decide)⟩
theorem Half.fresh (h : Half w W S F R t r) (hb : But [] W W') : Half w W' S F R t r := ⟨h.mine.fresh hb, h.ref.fresh hb, h.own⟩
theorem Half.drew (h : Half w W S F R t r) : Half w W.drew S F R t r := h.fresh (But.refl [] W).drew
theorem Half.later (h : Half w W S F R t r) (hb : Below W.heap.size W W') : Half w W' S F R t r := h.fresh (But.of_below hb [])
theorem Half.below (h : Half w W S F R t r) : Below w.heap.size w W := h.mine.below
/-- The program's call. -/
theorem Half.prog (h : Half w W S F R t r) (hq : Scd W' S F u) (hb : But [S, F] W W') : Half w W' S F R u r :=
  ⟨h.mine.turn hq hb, h.ref.but hb (h.ref.apart h.mine.scd) h.mine.scd.notInt, h.own⟩
/-- The document's. -/
theorem Half.doc (h : Half w W S F R t r) (hq : RefS W' R u) (hb : But [R] W W') : Half w W' S F R t u := by
  have hn := h.ref.apart h.mine.scd
  simp only [List.mem_cons, List.not_mem_nil, or_false, not_or] at hn
  exact ⟨h.mine.beside hb (by simpa using fun e => hn.1 e.symm) (by simpa using fun e => hn.2 e.symm) (by simpa using h.own), hq, h.own⟩
/-- Another scheduler is turned. -/
theorem Half.other {S' F' : Nat} {v : Ss} (h : Half w W S F R t r) (ho : Scd W S' F' v) (h1 : S' < S) (h2 : S' < F) (h3 : F' < S) (h4 : F' < F) (hS : w.heap.size ≤ S') (hF : w.heap.size ≤ F') (hb : But [S', F'] W W') : Half w W' S F R t r :=
  ⟨h.mine.beside hb (by simp; omega) (by simp; omega) (by simpa using ⟨hS, hF⟩), h.ref.but hb (h.ref.apart ho) ho.notInt, h.own⟩
theorem Half.len (h : Half w W S F R t r) : t.l.length ≤ 32 := by
  have := h.mine.scd.row.le; omega
theorem Half.good (h : Half w W S F R t r) : t.Good := h.mine.scd.good

theorem d_make (h : Duel w W S F R s) : ∃ v e t,
    (Calls Try.prog 9 #[ptrO S] W fun e' w' => e' = .returned (.tuple #[.int .i64 v, .int .i64 e]) ∧ Half w w' S F R t s) ∧
    (∀ X, Half w X S F R t s → Calls Try.prog 10 #[ptrO R] X fun e' w' => e' = .returned (.tuple #[.int .i64 v, .int .i64 e]) ∧ Duel w w' S F R t) ∧ t.busy ≤ s.busy + 1 := by
  refine ⟨_, _, _, (zmake_any W h.mine.scd).mono fun e' w' ⟨h1, h2, h3⟩ => ⟨h1, h.prog h2 h3⟩, fun X k => (rmake_any X k.ref h.good h.len).mono fun e' w' ⟨h1, h2, h3⟩ => ⟨h1, k.doc h2 h3⟩, ?_⟩
  unfold Ss.make; split <;> simp
theorem d_next (h : Duel w W S F R s) (hb : s.busy < 1000000000) : ∃ v e t,
    (Calls Try.prog 11 #[ptrO S] W fun e' w' => e' = .returned (.tuple #[.int .i64 v, .int .u8 e]) ∧ Half w w' S F R t s) ∧
    (∀ X, Half w X S F R t s → Calls Try.prog 12 #[ptrO R] X fun e' w' => e' = .returned (.tuple #[.int .i64 v, .int .u8 e]) ∧ Duel w w' S F R t) ∧ t.busy ≤ s.busy + 1 := by
  refine ⟨_, _, _, (znext_any W h.mine.scd hb).mono fun e' w' ⟨h1, h2, h3⟩ => ⟨h1, h.prog h2 h3⟩, fun X k => (rnext_any X k.ref h.len hb).mono fun e' w' ⟨h1, h2, h3⟩ => ⟨h1, k.doc h2 h3⟩, ?_⟩
  unfold Ss.next; split <;> simp
theorem d_push (k : Int) (h : Duel w W S F R s) : ∃ e t,
    (Calls Try.prog 13 #[ptrO S, .int .i64 k] W fun e' w' => e' = .returned (.int .i64 e) ∧ Half w w' S F R t s) ∧
    (∀ X, Half w X S F R t s → Calls Try.prog 14 #[ptrO R, .int .i64 k] X fun e' w' => e' = .returned (.int .i64 e) ∧ Duel w w' S F R t) ∧ t.busy ≤ s.busy + 1 := by
  refine ⟨_, _, (zpush_any k W h.mine.scd).mono fun e' w' ⟨h1, h2, h3⟩ => ⟨h1, h.prog h2 h3⟩, fun X k' => (rpush_any k X k'.ref h.len).mono fun e' w' ⟨h1, h2, h3⟩ => ⟨h1, k'.doc h2 h3⟩, ?_⟩
  unfold Ss.push; split <;> simp
theorem d_back (k : Int) (h : Duel w W S F R s) : ∃ e t,
    (Calls Try.prog 15 #[ptrO S, .int .i64 k] W fun e' w' => e' = .returned (.int .i64 e) ∧ Half w w' S F R t s) ∧
    (∀ X, Half w X S F R t s → Calls Try.prog 16 #[ptrO R, .int .i64 k] X fun e' w' => e' = .returned (.int .i64 e) ∧ Duel w w' S F R t) ∧ t.busy ≤ s.busy + 1 := by
  refine ⟨_, _, (zback_any k W h.mine.scd).mono fun e' w' ⟨h1, h2, h3⟩ => ⟨h1, h.prog h2 h3⟩, fun X k' => (rback_any k X k'.ref h.len h.good.busy).mono fun e' w' ⟨h1, h2, h3⟩ => ⟨h1, k'.doc h2 h3⟩, ?_⟩
  unfold Ss.back; split <;> simp
  omega
theorem d_leave (h : Duel w W S F R s) : ∃ e t,
    (Calls Try.prog 17 #[ptrO S] W fun e' w' => e' = .returned (.int .i64 e) ∧ Half w w' S F R t s) ∧
    (∀ X, Half w X S F R t s → Calls Try.prog 18 #[ptrO R] X fun e' w' => e' = .returned (.int .i64 e) ∧ Duel w w' S F R t) ∧ t.busy ≤ s.busy + 1 := by
  refine ⟨_, _, (zleave_any W h.mine.scd).mono fun e' w' ⟨h1, h2, h3⟩ => ⟨h1, h.prog h2 h3⟩, fun X k' => (rleave_any X k'.ref h.good.busy).mono fun e' w' ⟨h1, h2, h3⟩ => ⟨h1, k'.doc h2 h3⟩, ?_⟩
  unfold Ss.leave; split <;> simp
  omega
theorem d_end (h : Duel w W S F R s) : ∃ e t,
    (Calls Try.prog 19 #[ptrO S] W fun e' w' => e' = .returned (.int .i64 e) ∧ Half w w' S F R t s) ∧
    (∀ X, Half w X S F R t s → Calls Try.prog 20 #[ptrO R] X fun e' w' => e' = .returned (.int .i64 e) ∧ Duel w w' S F R t) ∧ t.busy ≤ s.busy + 1 := by
  refine ⟨_, _, (zend_any W h.mine.scd).mono fun e' w' ⟨h1, h2, h3⟩ => ⟨h1, h.prog h2 h3⟩, fun X k' => (rend_any X k'.ref h.good).mono fun e' w' ⟨h1, h2, h3⟩ => ⟨h1, k'.doc h2 h3⟩, ?_⟩
  unfold Ss.fin; split <;> simp
  omega

/-- A scheduler and the document's are the same; another one, older, of the call's own. -/
structure Three (w W : World) (S F R : Nat) (s : Ss) (S' F' : Nat) (v : Ss) : Prop where
  duel : Duel w W S F R s
  old : Scd W S' F' v
  ne : S' < S ∧ S' < F ∧ F' < S ∧ F' < F
  own : w.heap.size ≤ S' ∧ w.heap.size ≤ F'
theorem Three.turn {S' F' : Nat} {v v' : Ss} (h : Three w W S F R s S' F' v) (hq : Scd W' S' F' v') (hb : But [S', F'] W W') : Three w W' S F R s S' F' v' :=
  ⟨h.duel.other h.old h.ne.1 h.ne.2.1 h.ne.2.2.1 h.ne.2.2.2 h.own.1 h.own.2 hb, hq, h.ne, h.own⟩
theorem d_copy (h : Duel w W S F R s) :
    Calls Try.prog 21 #[ptrO S] W fun e' w' => ∃ S' F', e' = .returned (ptrO S') ∧ Three w w' S' F' R s S F s := by
  refine (zcopy_any W h.mine.scd).mono ?_
  rintro e' w' ⟨S', F', rfl, h1, h2, h3, h4⟩
  have l1 := h.mine.scd.ltS
  have l2 := h.mine.scd.ltF
  have hs := h.mine.below.size
  exact ⟨S', F', rfl, ⟨⟨h1, h.mine.but.next h2, by omega, by omega⟩, h.ref.fresh h2, h.own⟩, h.mine.scd.fresh h2, by omega, h.mine.ownS, h.mine.ownF⟩
theorem t_make {S' F' : Nat} {v : Ss} (h : Three w W S F R s S' F' v) : ∃ x e,
    Calls Try.prog 9 #[ptrO S'] W fun e' w' => e' = .returned (.tuple #[.int .i64 x, .int .i64 e]) ∧ Three w w' S F R s S' F' v.make :=
  ⟨_, _, (zmake_any W h.old).mono fun _ _ ⟨h1, h2, h3⟩ => ⟨h1, h.turn h2 h3⟩⟩
theorem t_next {S' F' : Nat} {v : Ss} (h : Three w W S F R s S' F' v) (hb : v.busy < 1000000000) : ∃ x e,
    Calls Try.prog 11 #[ptrO S'] W fun e' w' => e' = .returned (.tuple #[.int .i64 x, .int .u8 e]) ∧ Duel w w' S F R s :=
  ⟨_, _, (znext_any W h.old hb).mono fun _ _ ⟨h1, h2, h3⟩ => ⟨h1, (h.turn h2 h3).duel⟩⟩
theorem make_busy (s : Ss) : s.make.busy = s.busy := by unfold Ss.make; split <;> rfl
end
end Go.Proofs.Ytfdinodcbeipcaa
