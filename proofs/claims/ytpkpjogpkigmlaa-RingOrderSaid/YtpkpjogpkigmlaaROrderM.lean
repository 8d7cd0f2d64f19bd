/-
  What the law RingOrder holds at the head of a round.
-/
import Derived.Test.YtpkpjogpkigmlaaRPlaysW
namespace Go.Proofs.Ytpkpjogpkigmlaa
open Go.RowKit

/-- What lies in memory at the head of a round: the ring, what was put, what was taken: apart. -/
structure Mem (w0 W : World) (B m : Nat) (pv tv : Value) (P T l : List Int) : Prop where
  ring : Rng W B m l
  puts : W.ownsRow w0.heap.size 2 1 pv P.length (I64 P)
  took : W.ownsRow w0.heap.size 2 1 tv T.length (I64 T)
  apart : ∀ g, pv.ownBlock = some g → tv.ownBlock ≠ some g
  below : Below w0.heap.size w0 W
  own : w0.heap.size ≤ B

theorem owns_ne_ring {W : World} {B m base n : Nat} {l : List Int} {v : Value} {xs : List Value} (hR : Rng W B m l) (h : W.ownsRow base 2 1 v n xs) : v.ownBlock ≠ some B := fun e => by
  obtain ⟨vs, f, hr, _⟩ := hR
  obtain ⟨cs, z, hb⟩ := ownsRow_at h e
  have := hr.2.symm.trans hb
  simp at this
theorem owns_ge {W : World} {base n : Nat} {e : TypeId} {v : Value} {xs : List Value} (h : W.ownsRow base e 1 v n xs) {g : Nat} (hg : v.ownBlock = some g) : base ≤ g := by
  rcases h.2 with ⟨rfl, _⟩ | ⟨g', cap, cur, rfl, hb, _⟩
  · simp [Value.ownBlock] at hg
  · obtain rfl : g' = g := by simpa [Value.ownBlock] using hg
    exact hb
theorem owns_lt {W : World} {base n : Nat} {e : TypeId} {v : Value} {xs : List Value} (h : W.ownsRow base e 1 v n xs) {g : Nat} (hg : v.ownBlock = some g) : g < W.heap.size := by
  obtain ⟨cs, z, hb⟩ := ownsRow_at h hg
  exact (Array.getElem?_eq_some_iff.1 hb).1

theorem Mem.step {w0 W W1 : World} {B m : Nat} {pv tv : Value} {P T l l1 : List Int} (M : Mem w0 W B m pv tv P T l) (hR1 : Rng W1 B m l1) (hg : W.grownBy W1 (some B)) : Mem w0 W1 B m pv tv P T l1 :=
  ⟨hR1, M.puts.kept hg (.inr (owns_ne_ring M.ring M.puts)), M.took.kept hg (.inr (owns_ne_ring M.ring M.took)), M.apart, below_own M.below hg M.own M.below.size, M.own⟩

theorem Mem.later {w0 W W1 : World} {B m : Nat} {pv tv : Value} {P T l : List Int} (M : Mem w0 W B m pv tv P T l) (h : Below W.heap.size W W1) : Mem w0 W1 B m pv tv P T l :=
  have hg := grownBy_of_below h
  ⟨M.ring.below h, M.puts.kept hg (by cases pv.ownBlock <;> simp), M.took.kept hg (by cases tv.ownBlock <;> simp), M.apart, M.below.trans (h.mono M.below.size), M.own⟩

/-- The row that was put to has grown. -/
theorem Mem.put {w0 W w2 : World} {B m : Nat} {pv tv v' : Value} {P T l : List Int} {tmp : Obj} {x : Int} (M : Mem w0 W B m pv tv P T l)
    (ho : w2.ownsRow w0.heap.size 2 1 v' (P.length + 1) (I64 P ++ [.int .i64 x])) (hg : (W.alloc tmp).grownBy w2 pv.ownBlock) (hat : v'.ownBlock = pv.ownBlock ∨ v'.ownBlock = some (W.heap.size + 1)) :
    Mem w0 w2 B m v' tv (P ++ [x]) T l where
  ring := (M.ring.kept (World.grownBy_alloc W tmp none) (by simp)).kept hg (fun e => owns_ne_ring M.ring M.puts e.symm)
  puts := by rw [List.length_append, List.length_singleton, I64_snoc]; exact ho
  took := (M.took.alloc tmp).kept hg (by
    cases hb : tv.ownBlock with
    | none => exact .inl rfl
    | some g => exact .inr (fun e => M.apart g e.symm hb))
  apart := fun g h1 h2 => by
    rcases hat with h | h
    · exact M.apart g (h ▸ h1) h2
    · have hlt := owns_lt M.took h2
      rw [h] at h1
      simp at h1
      omega
  below := (M.below.alloc M.below.size tmp).grown hg (by have := M.below.size; simp; omega) (fun k e => owns_ge M.puts e)
  own := M.own

/-- The row of what was taken has grown. -/
theorem Mem.take {w0 W w2 : World} {B m : Nat} {pv tv v' : Value} {P T l : List Int} {tmp : Obj} {x : Int} (M : Mem w0 W B m pv tv P T l)
    (ho : w2.ownsRow w0.heap.size 2 1 v' (T.length + 1) (I64 T ++ [.int .i64 x])) (hg : (W.alloc tmp).grownBy w2 tv.ownBlock) (hat : v'.ownBlock = tv.ownBlock ∨ v'.ownBlock = some (W.heap.size + 1)) :
    Mem w0 w2 B m pv v' P (T ++ [x]) l :=
  have M' : Mem w0 W B m tv pv T P l := ⟨M.ring, M.took, M.puts, fun g h1 h2 => M.apart g h2 h1, M.below, M.own⟩
  have M2 := M'.put ho hg hat
  ⟨M2.ring, M2.took, M2.puts, fun g h1 h2 => M2.apart g h2 h1, M2.below, M2.own⟩

theorem rows_split {W : World} {base g cap : Nat} {P T l : List Int} (hP : P = T ++ l) (h : W.ownsRow base 2 1 (.slice (some ⟨g, 0, none⟩) P.length cap) P.length (I64 P)) :
    RowI W (.slice (some ⟨g, 0, none⟩) T.length cap) T ∧ ∀ c, RowI W (.slice (some ⟨g, T.length, none⟩) l.length c) l := by
  have hlt : g < W.heap.size := owns_lt h (by simp [Value.ownBlock])
  have hl : P.length = T.length + l.length := by rw [hP, List.length_append]
  have hc : ∀ j, j < P.length → W.cell? ⟨g, j, none⟩ = some (.int .i64 (P[j]?.getD 0)) := fun j hj => by
    rw [h.cellAt j (by omega), I64, List.getElem?_map, List.getElem?_eq_getElem hj]; rfl
  constructor
  · by_cases h0 : T = []
    · subst h0; exact .inl ⟨rfl, _, _, rfl⟩
    · refine .inr ⟨g, 0, cap, rfl, List.length_pos_iff.mpr h0, hlt, fun j hj => ?_⟩
      rw [Nat.zero_add, hc j (by omega), hP, List.getElem?_append_left hj]
  · intro c
    by_cases h0 : l = []
    · subst h0; exact .inl ⟨rfl, _, _, rfl⟩
    · refine .inr ⟨g, T.length, c, rfl, List.length_pos_iff.mpr h0, hlt, fun j hj => ?_⟩
      rw [hc (T.length + j) (by omega), hP, List.getElem?_append_right (by omega), Nat.add_sub_cancel_left]

theorem swap_idle {B m : Nat} {l : List Int} (v : Int) (w : World) (hR : Rng w B m l) (h : l.length < m ∨ l = []) :
    Calls Try.prog 12 #[.pointer (some ⟨B, 0, none⟩), .int .i64 v] w fun e w' => e = .returned (.tuple #[.int .i64 0, .int .i64 3]) ∧ Rng w' B m l ∧ w.grownBy w' (some B) := by
  have hs := swap_ring v w hR
  have h0 : swapV m l = 0 := by
    unfold swapV
    rcases h with h | h
    · rw [if_pos h]
    · subst h; split <;> rfl
  rw [h0, swapE, if_pos h, swapL, if_pos h] at hs
  exact hs
theorem swap_full {B m : Nat} {x : Int} {t : List Int} (v : Int) (w : World) (hR : Rng w B m (x :: t)) (h : ¬ ((x :: t).length < m ∨ (x :: t) = [])) :
    Calls Try.prog 12 #[.pointer (some ⟨B, 0, none⟩), .int .i64 v] w fun e w' => e = .returned (.tuple #[.int .i64 x, .int .i64 0]) ∧ Rng w' B m (t ++ [v]) ∧ w.grownBy w' (some B) := by
  have hs := swap_ring v w hR
  rw [swapE, if_neg h, swapL, if_neg h, swapV, if_neg (fun h' => h (.inl h'))] at hs
  exact hs
end Go.Proofs.Ytpkpjogpkigmlaa
