/-
  A row of ints of the call's own, from any place of its block on: read, cut at its head, put to.
-/
import Derived.ArgAppend
import Derived.Test.YtcllnblmcdgkiaaFTurns
namespace Go.Proofs.Ytcllnblmcdgkiaa
open Go.RowKit

/-- The slice value v is a row of the call's own (no block of it older than base), with room or none, that has xs. -/
def Own (W : World) (base : Nat) (v : Value) (xs : List Int) : Prop :=
  (v = .slice none 0 0 ∧ xs = []) ∨
  ∃ g off cap cur, v = .slice (some ⟨g, off, none⟩) xs.length cap ∧ base ≤ g ∧ W.heap[g]? = some (Obj.cells cur 3 (0, 0)) ∧ xs.length ≤ cap ∧ off + cap ≤ cur.size ∧
    ∀ j, j < xs.length → cur[off + j]? = some (.int .i64 (xs[j]?.getD 0))

theorem add_off (b o j : Nat) : (⟨b, o, none⟩ : Addr).add j = ⟨b, o + j, none⟩ := by unfold Addr.add; split <;> simp_all

section
variable {W W' : World} {base : Nat} {v : Value} {xs : List Int}
theorem Own.nil (W : World) (base : Nat) : Own W base (.slice none 0 0) [] := .inl ⟨rfl, rfl⟩
theorem Own.slice (h : Own W base v xs) : ∃ a c, v = .slice a xs.length c := by
  rcases h with ⟨rfl, rfl⟩ | ⟨g, off, cap, cur, rfl, _⟩
  · exact ⟨_, _, rfl⟩
  · exact ⟨_, _, rfl⟩
theorem Own.but (h : Own W base v xs) {S : List Nat} (hb : But S W W') (hS : ∀ x ∈ S, ∀ cs z, W.heap[x]? ≠ some (Obj.cells cs 3 z)) : Own W' base v xs := by
  rcases h with h | ⟨g, off, cap, cur, h1, h2, h3, r⟩
  · exact .inl h
  · exact .inr ⟨g, off, cap, cur, h1, h2, (hb.block g (Array.getElem?_eq_some_iff.1 h3).1 (fun hm => hS g hm _ _ h3)).trans h3, r⟩
theorem Own.fresh (h : Own W base v xs) (hb : But [] W W') : Own W' base v xs := h.but hb (by simp)
theorem Own.low (h : Own W base v xs) {b : Nat} (hb : b ≤ base) : Own W b v xs := by
  rcases h with h | ⟨g, off, cap, cur, h1, h2, r⟩
  · exact .inl h
  · exact .inr ⟨g, off, cap, cur, h1, Nat.le_trans hb h2, r⟩
theorem Own.of_owns (h : W.ownsRow base 3 1 v xs.length (I64 xs)) : Own W base v xs := by
  rcases h.2 with ⟨h1, h2⟩ | ⟨g, cap, cur, h1, h2, h3, h4, h5, h6, h7⟩
  · exact .inl ⟨h1, List.length_eq_zero_iff.mp h2⟩
  · refine .inr ⟨g, 0, cap, cur, h1, h2, h3, h4, by omega, fun j hj => ?_⟩
    have h8 : (cur.toList.take (xs.length * 1))[j]? = (I64 xs)[j]? := by rw [h7]
    rw [List.getElem?_take_of_lt (by omega), Array.getElem?_toList, I64, List.getElem?_map, List.getElem?_eq_getElem hj] at h8
    rw [Nat.zero_add, h8, List.getElem?_eq_getElem hj]; rfl
theorem Own.at (h : Own W base v xs) {k : Nat} (hk : k < xs.length) : ∃ g off c, v = .slice (some ⟨g, off, none⟩) xs.length c ∧ W.cell? ⟨g, off + k, none⟩ = some (.int .i64 (xs[k]?.getD 0)) := by
  rcases h with ⟨_, rfl⟩ | ⟨g, off, cap, cur, h1, h2, h3, h4, h5, h6⟩
  · simp at hk
  · exact ⟨g, off, cap, h1, by simp [World.cell?, h3, h6 k hk]⟩
theorem Own.row (h : Own W base v xs) : RowI W v xs := by
  rcases h with ⟨rfl, rfl⟩ | ⟨g, off, cap, cur, h1, h2, h3, h4, h5, h6⟩
  · exact .inl ⟨rfl, _, _, rfl⟩
  · by_cases hz : xs = []
    · subst hz; exact .inl ⟨rfl, _, _, h1⟩
    · exact .inr ⟨g, off, cap, h1, List.length_pos_iff.mpr hz, (Array.getElem?_eq_some_iff.1 h3).1, fun j hj => by simp [World.cell?, h3, h6 j hj]⟩
/-- Its tail: the next place, or, of a row without room, the same place and nothing. -/
theorem Own.tail {y : Int} {t : List Int} (h : Own W base v (y :: t)) : ∃ g off cap, v = .slice (some ⟨g, off, none⟩) (t.length + 1) cap ∧ t.length + 1 ≤ cap ∧
    ((cap = 1 ∧ t = [] ∧ Own W base (.slice (some ⟨g, off, none⟩) 0 0) []) ∨ (cap ≠ 1 ∧ Own W base (.slice (some ⟨g, off + 1, none⟩) t.length (cap - 1)) t)) := by
  rcases h with ⟨_, h⟩ | ⟨g, off, cap, cur, h1, h2, h3, h4, h5, h6⟩
  · simp at h
  · rw [List.length_cons] at h1 h4 h6
    refine ⟨g, off, cap, h1, h4, ?_⟩
    by_cases hc : cap = 1
    · refine .inl ⟨hc, List.length_eq_zero_iff.mp (by omega), .inr ⟨g, off, 0, cur, rfl, h2, h3, Nat.zero_le _, by omega, fun j hj => by simp at hj⟩⟩
    · refine .inr ⟨hc, .inr ⟨g, off + 1, cap - 1, cur, rfl, h2, h3, by omega, by omega, fun j hj => ?_⟩⟩
      have := h6 (j + 1) (by omega)
      rw [List.getElem?_cons_succ] at this
      rw [show off + 1 + j = off + (j + 1) by omega]; exact this
end

/-- What an append leaves of the older world. -/
def Grew (base : Nat) (w w' : World) : Prop := But [] w w' ∨ ∃ g cs z, w.heap[g]? = some (Obj.cells cs 3 z) ∧ base ≤ g ∧ But [g] w w'
/-- append(s, x), at the operation: one more. -/
theorem wpList_onto {ops : Array Oper} {rest : List Oper} {o : Oper} {a : Act} {w : World} {Q : Exit → Act → World → Prop} (hg : o.guard = none) (s x : Operand)
    (ho : o.op = .call { callee := .builtin .append, args := #[s, x], argTypes := #[29, 29] })
    (base : Nat) (v : Value) (xs : List Int) (y : Int) (hs : a.eval s = v) (h : Own w base v xs) (ad : Addr) (c : Nat) (hx : a.eval x = .slice (some ad) 1 c) (hy : ∀ j u, [Value.int .i64 y][j]? = some u → w.cell? (ad.add j) = some u)
    (hn : xs.length ≤ 100000) (hb : base ≤ w.heap.size)
    (hK : ∀ v' w', Own w' base v' (xs ++ [y]) → Grew base w w' → wpList Try.prog ops Q rest (a.put o.dst v') w') :
    wpList Try.prog ops Q (o :: rest) a w := by
  obtain ⟨i0, hi, hz0, hz1, hz2⟩ := info_parts infoInt
  have hone : ∀ u ∈ [Value.int .i64 y], u.oneCell' = true := by intro u hu; simp at hu; subst hu; rfl
  rcases h with ⟨rfl, rfl⟩ | ⟨g, off, cap, cur, rfl, h2, h3, h4, h5, h6⟩
  · refine wpList_append_own w hg s x 29 ho base 3 i0 (.int .i64 0) 1 8 Try.underlying29 hi hz0 hz1 hz2 rfl (by decide) _ 0 [] hs (World.ownsRow_nil _ _ _ _) ad 1 c [.int .i64 y] hx rfl hy hone (by unfold maxLen; omega) (by omega) hb ?_
    intro v' w' hown hgrow _
    exact hK v' w' (Own.of_owns (by simpa [I64] using hown)) (.inl (But.of_none hgrow _))
  · have hgl : g < w.heap.size := (Array.getElem?_eq_some_iff.1 h3).1
    refine wpList_append_arg w hg s x 29 ho 3 i0 (.int .i64 0) 1 8 Try.underlying29 hi hz0 hz1 hz2 rfl (by decide) g off xs.length cap (I64 xs) hs (by rw [I64_len]; omega) ?_ ad 1 c [.int .i64 y] hx rfl hy hone ?_ (by unfold maxLen; omega) (by omega) ?_ ?_
    · intro j u hj
      have hjl : j < xs.length := by have := (List.getElem?_eq_some_iff.1 hj).1; rwa [I64_len] at this
      rw [I64, List.getElem?_map, List.getElem?_eq_getElem hjl] at hj
      simp only [Option.map_some, Option.some.injEq] at hj
      have := h6 j hjl
      rw [List.getElem?_eq_getElem hjl] at this
      simp [World.cell?, h3, this, ← hj]
    · intro hr j hj
      simp only [List.length_cons, List.length_nil, Nat.zero_add] at hj
      have hlt : off + xs.length * 1 + j < cur.size := by omega
      refine ⟨by simp [World.cell?, h3]; omega, by simp [World.frozen?, h3]⟩
    · intro hr
      have hset : w.setCells g (off + xs.length * 1) [.int .i64 y] = w.setCell ⟨g, off + xs.length, none⟩ (.int .i64 y) := by
        simp [World.setCells]
      rw [hset]
      have hb2 : (w.setCell ⟨g, off + xs.length, none⟩ (.int .i64 y)).heap[g]? = some (.cells (cur.setIfInBounds (off + xs.length) (.int .i64 y)) 3 (0, 0)) := heap_set_same _ h3
      refine hK _ _ (.inr ⟨g, off, cap, _, by rw [List.length_append, List.length_singleton], h2, hb2, by simpa using hr, by simpa using h5, fun j hj => ?_⟩) (.inr ⟨g, _, _, h3, h2, (But.refl [g] w).set (p := ⟨g, off + xs.length, none⟩) (by simp) _⟩)
      rw [Array.getElem?_setIfInBounds]
      by_cases e : j = xs.length
      · subst e
        rw [if_pos rfl, if_pos (by omega)]
        simp
      · have hj2 : j < xs.length := by simp at hj; omega
        rw [if_neg (by omega), h6 j hj2, List.getElem?_append_left hj2]
    · intro hr v' w' hown hgrow
      refine hK v' w' (Own.of_owns ?_) (.inl (But.of_none hgrow _)) |> fun h => h
      have := hown
      rw [List.length_append, List.length_singleton]
      rw [show I64 (xs ++ [y]) = I64 xs ++ [.int .i64 y] by simp [I64]]
      exact ⟨this.1, this.2.imp id fun ⟨g', c', d', e1, e2, r⟩ => ⟨g', c', d', e1, Nat.le_trans hb e2, r⟩⟩
end Go.Proofs.Ytcllnblmcdgkiaa
