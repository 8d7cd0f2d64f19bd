/-
  Rows of ints of the call's own, from any place of their blocks on: which block, cut at the head, put to, copied.
-/
import Derived.ArgAppend
import Derived.Laws.Cover1
import Derived.Deep.RegionLaw
import Derived.Test.YtfdinodcbeipcaaZSteps
namespace Go.Proofs.Ytfdinodcbeipcaa
open Go.RowKit

/-- The blocks of a slice. -/
def blks (v : Value) : List Nat := match v with
  | .slice (some a) _ _ => [a.block]
  | _ => []
theorem blks_nil (n c : Nat) : blks (.slice none n c) = [] := rfl
theorem blks_some (g off n c : Nat) : blks (.slice (some ⟨g, off, none⟩) n c) = [g] := rfl

/-- The slice value v is a row of the call's own (no block of it older than base), with room or none, that has xs. -/
def Own (W : World) (base : Nat) (v : Value) (xs : List Int) : Prop :=
  (v = .slice none 0 0 ∧ xs = []) ∨
  ∃ g off cap cur, v = .slice (some ⟨g, off, none⟩) xs.length cap ∧ base ≤ g ∧ W.heap[g]? = some (Obj.cells cur 3 (0, 0)) ∧ xs.length ≤ cap ∧ off + cap ≤ cur.size ∧
    ∀ j, j < xs.length → cur[off + j]? = some (.int .i64 (xs[j]?.getD 0))

section
variable {W W' : World} {base : Nat} {v : Value} {xs : List Int}
theorem Own.nil (W : World) (base : Nat) : Own W base (.slice none 0 0) [] := .inl ⟨rfl, rfl⟩
theorem Own.slice (h : Own W base v xs) : ∃ a c, v = .slice a xs.length c := by
  rcases h with ⟨rfl, rfl⟩ | ⟨g, off, cap, cur, rfl, _⟩
  · exact ⟨_, _, rfl⟩
  · exact ⟨_, _, rfl⟩
theorem Own.typ (h : Own W base v xs) : ∀ g ∈ blks v, ∃ cs, W.heap[g]? = some (Obj.cells cs 3 (0, 0)) := by
  rcases h with ⟨rfl, rfl⟩ | ⟨g, off, cap, cur, rfl, _, h3, _⟩
  · intro g hg; cases hg
  · intro k hk
    rw [blks_some, List.mem_singleton] at hk
    subst hk; exact ⟨_, h3⟩
theorem Own.lt (h : Own W base v xs) : ∀ g ∈ blks v, g < W.heap.size := fun g hg => by
  obtain ⟨cs, hc⟩ := h.typ g hg; exact (Array.getElem?_eq_some_iff.1 hc).1
theorem Own.ge (h : Own W base v xs) : ∀ g ∈ blks v, base ≤ g := by
  rcases h with ⟨rfl, rfl⟩ | ⟨g, off, cap, cur, rfl, h2, _⟩
  · intro g hg; cases hg
  · intro k hk
    rw [blks_some, List.mem_singleton] at hk
    subst hk; exact h2
/-- What leaves its block alone leaves it. -/
theorem Own.keep (h : Own W base v xs) {T : List Nat} (hb : But T W W') (hT : ∀ g ∈ blks v, g ∉ T) : Own W' base v xs := by
  rcases h with h | ⟨g, off, cap, cur, rfl, h2, h3, r⟩
  · exact .inl h
  · exact .inr ⟨g, off, cap, cur, rfl, h2, (hb.block g (Array.getElem?_eq_some_iff.1 h3).1 (hT g (by simp [blks_some]))).trans h3, r⟩
theorem Own.fresh (h : Own W base v xs) (hb : But [] W W') : Own W' base v xs := h.keep hb (by simp)
theorem Own.low (h : Own W base v xs) {b : Nat} (hb : b ≤ base) : Own W b v xs := by
  rcases h with h | ⟨g, off, cap, cur, h1, h2, r⟩
  · exact .inl h
  · exact .inr ⟨g, off, cap, cur, h1, Nat.le_trans hb h2, r⟩
theorem Own.of_owns (h : W.ownsRow base 3 1 v xs.length (I64 xs)) : Own W base v xs := by
  rcases h.2 with ⟨h1, h2⟩ | ⟨g, cap, cur, h1, h2, h3, h4, h5, h6, h7⟩
  · exact .inl ⟨h1, List.length_eq_zero_iff.mp h2⟩
  · refine .inr ⟨g, 0, cap, cur, h1, h2, h3, h4, by omega, fun j hj => ?_⟩
    have h8 : (cur.toList.take (xs.length * 1))[j]? = (I64 xs)[j]? := by rw [h7]
    rw [List.getElem?_take_of_lt (by omega), Array.getElem?_toList, I64, List.getElem?_map, List.getElem?_eq_getElem hj] at h8
    rw [Nat.zero_add, h8, List.getElem?_eq_getElem hj]; rfl
theorem Own.at (h : Own W base v xs) {k : Nat} (hk : k < xs.length) : ∃ g off c, v = .slice (some ⟨g, off, none⟩) xs.length c ∧ W.cell? ⟨g, off + k, none⟩ = some (.int .i64 (xs[k]?.getD 0)) := by
  rcases h with ⟨_, rfl⟩ | ⟨g, off, cap, cur, h1, h2, h3, h4, h5, h6⟩
  · simp at hk
  · exact ⟨g, off, cap, h1, by simp [World.cell?, h3, h6 k hk]⟩
theorem Own.row (h : Own W base v xs) : RowI W v xs := by
  rcases h with ⟨rfl, rfl⟩ | ⟨g, off, cap, cur, h1, h2, h3, h4, h5, h6⟩
  · exact .inl ⟨rfl, _, _, rfl⟩
  · by_cases hz : xs = []
    · subst hz; exact .inl ⟨rfl, _, _, h1⟩
    · exact .inr ⟨g, off, cap, h1, List.length_pos_iff.mpr hz, (Array.getElem?_eq_some_iff.1 h3).1, fun j hj => by simp [World.cell?, h3, h6 j hj]⟩
/-- Its tail: the next place, or, of a row without room, the same place and nothing. -/
theorem Own.tail {y : Int} {t : List Int} (h : Own W base v (y :: t)) : ∃ g off cap, v = .slice (some ⟨g, off, none⟩) (t.length + 1) cap ∧ t.length + 1 ≤ cap ∧ W.cell? ⟨g, off, none⟩ = some (.int .i64 y) ∧
    ((cap = 1 ∧ t = [] ∧ Own W base (.slice (some ⟨g, off, none⟩) 0 0) []) ∨ (cap ≠ 1 ∧ Own W base (.slice (some ⟨g, off + 1, none⟩) t.length (cap - 1)) t)) := by
  rcases h with ⟨_, h⟩ | ⟨g, off, cap, cur, h1, h2, h3, h4, h5, h6⟩
  · simp at h
  · rw [List.length_cons] at h1 h4 h6
    refine ⟨g, off, cap, h1, h4, ?_, ?_⟩
    · have := h6 0 (by omega)
      simpa [World.cell?, h3] using this
    by_cases hc : cap = 1
    · refine .inl ⟨hc, List.length_eq_zero_iff.mp (by omega), .inr ⟨g, off, 0, cur, rfl, h2, h3, Nat.zero_le _, by omega, fun j hj => by simp at hj⟩⟩
    · refine .inr ⟨hc, .inr ⟨g, off + 1, cap - 1, cur, rfl, h2, h3, by omega, by omega, fun j hj => ?_⟩⟩
      have := h6 (j + 1) (by omega)
      rw [List.getElem?_cons_succ] at this
      rw [show off + 1 + j = off + (j + 1) by omega]; exact this
end
theorem owns_low {W : World} {base b : Nat} {e : TypeId} {size : Nat} {v : Value} {k : Nat} {xs : List Value} (h : W.ownsRow base e size v k xs) (hb : b ≤ base) : W.ownsRow b e size v k xs :=
  ⟨h.1, h.2.imp id (fun ⟨g, cap, cur, h1, h2, r⟩ => ⟨g, cap, cur, h1, Nat.le_trans hb h2, r⟩)⟩
theorem I64_at {xs : List Int} {j : Nat} (h : j < xs.length) : (I64 xs)[j]? = some (.int .i64 (xs[j]?.getD 0)) := by
  rw [I64, List.getElem?_map, List.getElem?_eq_getElem h]; rfl
theorem I64_app (p q : List Int) : I64 (p ++ q) = I64 p ++ I64 q := by simp [I64]
/-- A row of the call's own has grown: all that is older is as it was. -/
theorem but_own {w W W' : World} {n size : Nat} {e : TypeId} {v : Value} {xs : List Value} (h : But [] w W) (ho : W.ownsRow w.heap.size e size v n xs) (hg : W.grownBy W' v.ownBlock) : But [] w W' := by
  cases hv : v.ownBlock with
  | none => rw [hv] at hg; exact h.next (But.of_none hg [])
  | some g =>
    rw [hv] at hg
    exact h.own (But.of_some (S := [g]) hg (by simp)) (by have := (ho.lt g hv).1; simpa using this)

/-- One in the middle, what stands ahead of it, what behind it. -/
theorem Own.mid {W : World} {base : Nat} {a : Option Addr} {k c : Nat} {p q : List Int} {n : Int} (h : Own W base (.slice a k c) (p ++ n :: q)) : ∃ g off, a = some ⟨g, off, none⟩ ∧ p.length + (q.length + 1) ≤ c ∧ W.cell? ⟨g, off + p.length, none⟩ = some (.int .i64 n) ∧
    (∀ j, j < p.length → W.cell? ⟨g, off + j, none⟩ = some (.int .i64 (p[j]?.getD 0))) ∧ ∀ j, j < q.length → W.cell? ⟨g, off + (p.length + 1) + j, none⟩ = some (.int .i64 (q[j]?.getD 0)) := by
  rcases h with ⟨_, h⟩ | ⟨g, off, cap, cur, he, h2, h3, h4, h5, h6⟩
  · simp at h
  · simp only [Value.slice.injEq] at he
    obtain ⟨rfl, -, rfl⟩ := he
    have hc : ∀ j, j < (p ++ n :: q).length → W.cell? ⟨g, off + j, none⟩ = some (.int .i64 ((p ++ n :: q)[j]?.getD 0)) := fun j hj => by simp [World.cell?, h3, h6 j hj]
    rw [List.length_append, List.length_cons] at h4 hc
    refine ⟨g, off, rfl, h4, ?_, fun j hj => ?_, fun j hj => ?_⟩
    · rw [hc _ (by omega)]; simp
    · rw [hc j (by omega), List.getElem?_append_left hj]
    · rw [show off + (p.length + 1) + j = off + (p.length + 1 + j) by omega, hc _ (by omega), List.getElem?_append_right (by omega), show p.length + 1 + j - p.length = j + 1 by omega, List.getElem?_cons_succ]

/-! ### append(s, x): one more -/
theorem wpList_onto {ops : Array Oper} {rest : List Oper} {o : Oper} {a : Act} {w : World} {Q : Exit → Act → World → Prop} (hg : o.guard = none) (s x : Operand)
    (ho : o.op = .call { callee := .builtin .append, args := #[s, x], argTypes := #[29, 29] })
    (base : Nat) (v : Value) (xs : List Int) (y : Int) (hs : a.eval s = v) (h : Own w base v xs) (ad : Addr) (c : Nat) (hx : a.eval x = .slice (some ad) 1 c) (hy : ∀ j u, [Value.int .i64 y][j]? = some u → w.cell? (ad.add j) = some u)
    (hn : xs.length ≤ 100000) (hb : base ≤ w.heap.size)
    (hK : ∀ v' w', Own w' base v' (xs ++ [y]) → But (blks v) w w' → (∀ g ∈ blks v', g ∈ blks v ∨ w.heap.size ≤ g) → wpList Try.prog ops Q rest (a.put o.dst v') w') :
    wpList Try.prog ops Q (o :: rest) a w := by
  obtain ⟨i0, hi, hz0, hz1, hz2⟩ := info_parts infoInt
  have hone : ∀ u ∈ [Value.int .i64 y], u.oneCell' = true := by intro u hu; simp at hu; subst hu; rfl
  rcases h with ⟨rfl, rfl⟩ | ⟨g, off, cap, cur, rfl, h2, h3, h4, h5, h6⟩
  · refine wpList_append_own w hg s x 29 ho w.heap.size 3 i0 (.int .i64 0) 1 8 Try.underlying29 hi hz0 hz1 hz2 rfl (by decide) _ 0 [] hs (World.ownsRow_nil _ _ _ _) ad 1 c [.int .i64 y] hx rfl hy hone (by unfold maxLen; omega) (by omega) (Nat.le_refl _) ?_
    intro v' w' hown hgrow _
    have hO : Own w' w.heap.size v' ([] ++ [y]) := Own.of_owns (by simpa [I64] using hown)
    exact hK v' w' (hO.low hb) (But.of_none hgrow _) (fun g hg => .inr (hO.ge g hg))
  · have hgl : g < w.heap.size := (Array.getElem?_eq_some_iff.1 h3).1
    refine wpList_append_arg w hg s x 29 ho 3 i0 (.int .i64 0) 1 8 Try.underlying29 hi hz0 hz1 hz2 rfl (by decide) g off xs.length cap (I64 xs) hs (by rw [I64_len]; omega) ?_ ad 1 c [.int .i64 y] hx rfl hy hone ?_ (by unfold maxLen; omega) (by omega) ?_ ?_
    · intro j u hj
      have hjl : j < xs.length := I64_get hj
      rw [I64_at hjl] at hj
      simp only [Option.some.injEq] at hj
      have := h6 j hjl
      simp [World.cell?, h3, this, ← hj]
    · intro hr j hj
      simp only [List.length_cons, List.length_nil, Nat.zero_add] at hj
      have hlt : off + xs.length * 1 + j < cur.size := by omega
      refine ⟨by simp [World.cell?, h3]; omega, by simp [World.frozen?, h3]⟩
    · intro hr
      have hset : w.setCells g (off + xs.length * 1) [.int .i64 y] = w.setCell ⟨g, off + xs.length, none⟩ (.int .i64 y) := by
        simp [World.setCells]
      rw [hset]
      have hb2 : (w.setCell ⟨g, off + xs.length, none⟩ (.int .i64 y)).heap[g]? = some (.cells (cur.setIfInBounds (off + xs.length) (.int .i64 y)) 3 (0, 0)) := heap_set_same _ h3
      refine hK _ _ (.inr ⟨g, off, cap, _, by rw [List.length_append, List.length_singleton], h2, hb2, by simpa using hr, by simpa using h5, fun j hj => ?_⟩) ((But.refl _ w).set (p := ⟨g, off + xs.length, none⟩) (.inl (by simp [blks_some])) _) (fun k hk => .inl (by simpa [blks_some] using hk))
      rw [Array.getElem?_setIfInBounds]
      by_cases e : j = xs.length
      · subst e
        rw [if_pos rfl, if_pos (by omega)]
        simp
      · have hj2 : j < xs.length := by simp at hj; omega
        rw [if_neg (by omega), h6 j hj2, List.getElem?_append_left hj2]
    · intro hr v' w' hown hgrow
      have hO : Own w' w.heap.size v' (xs ++ [y]) := Own.of_owns (by rw [List.length_append, List.length_singleton, show I64 (xs ++ [y]) = I64 xs ++ [.int .i64 y] by simp [I64]]; exact hown)
      exact hK v' w' (hO.low hb) (But.of_none hgrow _) (fun g hg => .inr (hO.ge g hg))

/-! ### append(nil, l..): a copy -/
/-- A row of ints, told by its address alone. -/
def RowA (w : World) (a : Option Addr) (xs : List Int) : Prop := 0 < xs.length → ∃ b off, a = some ⟨b, off, none⟩ ∧ ∀ j, j < xs.length → w.cell? ⟨b, off + j, none⟩ = some (.int .i64 (xs[j]?.getD 0))
theorem RowA.but {w w' : World} {a : Option Addr} {xs : List Int} (h : RowA w a xs) (hb : But [] w w') : RowA w' a xs := fun h0 => by
  obtain ⟨b, off, rfl, h2⟩ := h h0
  exact ⟨b, off, rfl, fun j hj => hb.cell (h2 j hj) (by simp)⟩
theorem Own.rowA {W : World} {base : Nat} {a : Option Addr} {n c : Nat} {xs : List Int} (h : Own W base (.slice a n c) xs) : RowA W a xs := fun h0 => by
  rcases h with ⟨_, rfl⟩ | ⟨g, off, cap, cur, he, h2, h3, h4, h5, h6⟩
  · simp at h0
  · simp only [Value.slice.injEq] at he
    obtain ⟨rfl, -, -⟩ := he
    exact ⟨g, off, rfl, fun j hj => by simp [World.cell?, h3, h6 j hj]⟩
theorem RowA.of_append {W : World} {g off : Nat} {p q : List Int} (h : RowA W (some ⟨g, off, none⟩) (p ++ q)) : RowA W (some ⟨g, off, none⟩) p ∧ RowA W (some ⟨g, off + p.length, none⟩) q := by
  refine ⟨fun h0 => ?_, fun h0 => ?_⟩
  · obtain ⟨b, o, he, hc⟩ := h (by simp; omega)
    obtain ⟨rfl, rfl⟩ : g = b ∧ off = o := by simpa using he
    refine ⟨_, _, rfl, fun j hj => ?_⟩
    rw [hc j (by simp; omega), List.getElem?_append_left hj]
  · obtain ⟨b, o, he, hc⟩ := h (by simp; omega)
    obtain ⟨rfl, rfl⟩ : g = b ∧ off = o := by simpa using he
    refine ⟨_, _, rfl, fun j hj => ?_⟩
    rw [show off + p.length + j = off + (p.length + j) by omega, hc _ (by simp; omega), List.getElem?_append_right (by omega), Nat.add_sub_cancel_left]

theorem run_app_none {P : Program} (w : World) (t ty e : TypeId) (i : TypeInfo) (ht : P.underlying t = some (.slice e)) (hi : P.info? e = some i) (c : Nat) :
    (Builtin.append_ #[t, t] ty #[.slice none 0 0, .slice none 0 c]).run P w = .ok (.slice none 0 0) w := by
  simp [Builtin.append_, run_underlying ht, sizeOf, typeInfo, hi, Builtin.lenOf, Builtin.firstCells]
theorem wp_app_nil {w : World} {o : Oper} {a : Act} {K : Act → World → Prop} {Q : Exit → Act → World → Prop} (s x : Operand) (ho : o.op = .call { callee := .builtin .append, args := #[s, x], argTypes := #[29, 29] })
    {b : Option Addr} {m kap : Nat} {l : List Int} (hs : a.eval s = .slice none 0 0) (hx : a.eval x = .slice b m kap) (hm : m = l.length) (hr : RowA w b l) (hl : l.length ≤ 4096)
    (h : ∀ v' w', w'.ownsRow w.heap.size 3 1 v' l.length (I64 l) → But [] w w' → K (a.put o.dst v') w') : o.wp Try.prog a w K Q := by
  subst hm
  obtain ⟨i0, hi, hz0, hz1, hz2⟩ := info_parts infoInt
  cases b with
  | none =>
    have h0 : l = [] := by
      rcases Nat.eq_zero_or_pos l.length with h0 | h0
      · exact List.length_eq_zero_iff.1 h0
      · obtain ⟨b, off, he, _⟩ := hr h0; cases he
    subst h0
    have hrun := run_app_none (P := Try.prog) w 29 o.type 3 i0 Try.underlying29 hi kap
    rw [List.length_nil] at hx
    unfold Oper.wp execOp
    simp only [ho, resolve, invoke, builtin, Sem.run_bind, Sem.run_pure, Result.andThen_ok, List.map_toArray, List.map_cons, List.map_nil, hs, hx, hrun]
    exact h (.slice none 0 0) w (World.ownsRow_nil _ _ _ _) (But.refl _ _)
  | some ad =>
    have hcs : ∀ j u, (I64 l)[j]? = some u → w.cell? (ad.add j) = some u := fun j u hj => by
      have hjl : j < l.length := I64_get hj
      obtain ⟨b, off, he, hc⟩ := hr (by omega)
      obtain rfl := Option.some.inj he
      rw [add_off, hc j hjl, ← hj, I64_at hjl]
    refine wp_append_own w s x 29 ho w.heap.size 3 i0 (.int .i64 0) 1 8 Try.underlying29 hi hz0 hz1 hz2 rfl (by decide) (.slice none 0 0) 0 [] hs (World.ownsRow_nil _ _ _ _) ad l.length kap (I64 l) hx (by rw [I64_len]; omega) hcs I64_one (by unfold maxLen; omega) (by omega) (Nat.le_refl _) ?_
    intro v' w' hown hg _
    exact h v' w' (by simpa using hown) (But.of_none hg [])
theorem step_app_nil {ops : Array Oper} {E : Prop} {w : World} {o : Oper} {a : Act} {K : Act → World → Prop} {Q : Exit → Act → World → Prop} (s x : Operand) (hg : o.guard = none) (ho : o.op = .call { callee := .builtin .append, args := #[s, x], argTypes := #[29, 29] })
    {b : Option Addr} {m kap : Nat} {l : List Int} (hs : a.eval s = .slice none 0 0) (hx : a.eval x = .slice b m kap) (hm : m = l.length) (hr : RowA w b l) (hl : l.length ≤ 4096)
    (h : ∀ v' w', w'.ownsRow w.heap.size 3 1 v' l.length (I64 l) → But [] w w' → K (a.put o.dst v') w') : if Region.wanted o (yielded ops a.tmps) = true then Oper.wp Try.prog o a w K Q else E := by
  have hw : Region.wanted o (yielded ops a.tmps) = true := by simp [Region.wanted, hg]
  rw [if_pos hw]
  exact wp_app_nil s x ho hs hx hm hr hl h
theorem wpList_app_nil {ops : Array Oper} {rest : List Oper} {w : World} {o : Oper} {a : Act} {Q : Exit → Act → World → Prop} (hgd : o.guard = none) (s x : Operand) (ho : o.op = .call { callee := .builtin .append, args := #[s, x], argTypes := #[29, 29] })
    {b : Option Addr} {m kap : Nat} {l : List Int} (hs : a.eval s = .slice none 0 0) (hx : a.eval x = .slice b m kap) (hm : m = l.length) (hr : RowA w b l) (hl : l.length ≤ 4096)
    (h : ∀ v' w', w'.ownsRow w.heap.size 3 1 v' l.length (I64 l) → But [] w w' → wpList Try.prog ops Q rest (a.put o.dst v') w') : wpList Try.prog ops Q (o :: rest) a w := by
  refine wpList_plain hgd fun K' hK' => ?_
  exact wp_app_nil s x ho hs hx hm hr hl fun v' w' h1 h2 => hK' _ _ (h v' w' h1 h2)

/-! ### append(c, l..), c a copy that was just made -/
theorem wp_app_own {w0 w : World} {o : Oper} {a : Act} {K : Act → World → Prop} {Q : Exit → Act → World → Prop} (s x : Operand) (ho : o.op = .call { callee := .builtin .append, args := #[s, x], argTypes := #[29, 29] })
    {v : Value} {b : Option Addr} {m kap : Nat} {xs l : List Int} (hs : a.eval s = v) (hown : w.ownsRow w0.heap.size 3 1 v xs.length (I64 xs)) (hb : But [] w0 w) {ad : Addr} (hx : a.eval x = .slice b m kap) (hm : m = l.length) (had : b = some ad) (hr : RowA w b l) (hl : l.length ≤ 4096) (hxl : xs.length ≤ 4096)
    (h : ∀ v' w', Own w' w0.heap.size v' (xs ++ l) → But [] w0 w' → K (a.put o.dst v') w') : o.wp Try.prog a w K Q := by
  subst hm
  obtain ⟨i0, hi, hz0, hz1, hz2⟩ := info_parts infoInt
  subst had
  have hcs : ∀ j u, (I64 l)[j]? = some u → w.cell? (ad.add j) = some u := fun j u hj => by
    have hjl : j < l.length := I64_get hj
    obtain ⟨b, off, he, hc⟩ := hr (by omega)
    obtain rfl := Option.some.inj he
    rw [add_off, hc j hjl, ← hj, I64_at hjl]
  refine wp_append_own w s x 29 ho w0.heap.size 3 i0 (.int .i64 0) 1 8 Try.underlying29 hi hz0 hz1 hz2 rfl (by decide) v xs.length (I64 xs) hs hown ad l.length kap (I64 l) hx (by rw [I64_len]; omega) hcs I64_one (by unfold maxLen; omega) (by omega) hb.size ?_
  intro v' w' hown' hg _
  exact h v' w' (Own.of_owns (by rw [I64_app, List.length_append]; exact hown')) (but_own hb hown hg)
theorem step_app_own {ops : Array Oper} {E : Prop} {w0 w : World} {o : Oper} {a : Act} {K : Act → World → Prop} {Q : Exit → Act → World → Prop} (s x : Operand) (hg : o.guard = none) (ho : o.op = .call { callee := .builtin .append, args := #[s, x], argTypes := #[29, 29] })
    {v : Value} {b : Option Addr} {m kap : Nat} {xs l : List Int} (hs : a.eval s = v) (hown : w.ownsRow w0.heap.size 3 1 v xs.length (I64 xs)) (hb : But [] w0 w) {ad : Addr} (hx : a.eval x = .slice b m kap) (hm : m = l.length) (had : b = some ad) (hr : RowA w b l) (hl : l.length ≤ 4096) (hxl : xs.length ≤ 4096)
    (h : ∀ v' w', Own w' w0.heap.size v' (xs ++ l) → But [] w0 w' → K (a.put o.dst v') w') : if Region.wanted o (yielded ops a.tmps) = true then Oper.wp Try.prog o a w K Q else E := by
  have hw : Region.wanted o (yielded ops a.tmps) = true := by simp [Region.wanted, hg]
  rw [if_pos hw]
  exact wp_app_own s x ho hs hown hb hx hm had hr hl hxl h
theorem wpList_app_own {ops : Array Oper} {rest : List Oper} {w0 w : World} {o : Oper} {a : Act} {Q : Exit → Act → World → Prop} (hgd : o.guard = none) (s x : Operand) (ho : o.op = .call { callee := .builtin .append, args := #[s, x], argTypes := #[29, 29] })
    {v : Value} {b : Option Addr} {m kap : Nat} {xs l : List Int} (hs : a.eval s = v) (hown : w.ownsRow w0.heap.size 3 1 v xs.length (I64 xs)) (hb : But [] w0 w) {ad : Addr} (hx : a.eval x = .slice b m kap) (hm : m = l.length) (had : b = some ad) (hr : RowA w b l) (hl : l.length ≤ 4096) (hxl : xs.length ≤ 4096)
    (h : ∀ v' w', Own w' w0.heap.size v' (xs ++ l) → But [] w0 w' → wpList Try.prog ops Q rest (a.put o.dst v') w') : wpList Try.prog ops Q (o :: rest) a w := by
  refine wpList_plain hgd fun K' hK' => ?_
  exact wp_app_own s x ho hs hown hb hx hm had hr hl hxl fun v' w' h1 h2 => hK' _ _ (h v' w' h1 h2)
/-- The cell that was laid for the one that is put to. -/
theorem rowA_one (w : World) (x : Int) : RowA (w.alloc (.cells #[.int .i64 x] 3)) (some ⟨w.heap.size, 0, none⟩) [x] := fun _ => ⟨_, _, rfl, fun j hj => by
  simp only [List.length_cons, List.length_nil] at hj
  obtain rfl : j = 0 := by omega
  have := World.alloc_heap_new w (.cells #[.int .i64 x] 3)
  unfold World.cell?
  rw [this]
  rfl⟩
end Go.Proofs.Ytfdinodcbeipcaa
