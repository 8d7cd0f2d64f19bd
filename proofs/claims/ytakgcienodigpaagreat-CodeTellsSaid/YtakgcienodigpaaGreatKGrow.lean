/-
  Rows of the call's own that grow: what keeps them while something is read; one thing more.
-/
import Derived.Test.YtakgcienodigpaaGreatKOwn
namespace Go.Proofs.YtakgcienodigpaaGreat
open Go.RowKit Oct

def OwnInts (base : Nat) (W : World) (v : Value) (l : List Int) : Prop := W.ownsRow base 3 1 v l.length (I64 l)
section
variable {W W' : World} {pb Bs kb M base n s : Nat} {r : List UInt8} {e : TypeId} {v : Value} {xs : List Value}
theorem owns_over (h : W.ownsRow base e s v n xs) (hR : Rdr W pb Bs kb M r) (he : e ≠ 9) (hb : RBut Bs M W W') : W'.ownsRow base e s v n xs := by
  refine owns_keep h fun k cs z _ hk => hb.block k (Array.getElem?_eq_some_iff.1 hk).1 ?_
  simp only [List.mem_cons, List.not_mem_nil, or_false, not_or]
  refine ⟨?_, ?_⟩
  · rintro rfl
    have := hR.st
    unfold StrB Blk at this
    rw [hk] at this
    simp only [Option.some.injEq, Obj.cells.injEq] at this
    exact he this.2.1
  · rintro rfl
    obtain ⟨g, h1, _⟩ := hR.nm.map
    obtain ⟨es, clock, h2⟩ := h1.is
    rw [hk] at h2
    cases h2
theorem owns_grown {e' : TypeId} {base' n' s' : Nat} {v' : Value} {ys : List Value} (h : W.ownsRow base e s v n xs) (hr : W.ownsRow base' e' s' v' n' ys) (hne : e ≠ e') (hg : W.grownBy W' v'.ownBlock) : W'.ownsRow base e s v n xs := by
  refine owns_keep h fun k cs z _ hk => hg.block k (Array.getElem?_eq_some_iff.1 hk).1 ?_
  intro e1
  rcases hr.2 with ⟨hv, _⟩ | ⟨g, cap, cur, hv, _, hc, _⟩
  · rw [hv] at e1; cases e1
  · rw [hv] at e1
    simp only [Value.ownBlock, Option.some.injEq] at e1
    subst e1
    rw [hk] at hc
    simp only [Option.some.injEq, Obj.cells.injEq] at hc
    exact hne hc.2.1
theorem OwnCodes.over {l : List (List In)} (h : OwnCodes base W v l) (hR : Rdr W pb Bs kb M r) (hb : RBut Bs M W W') : OwnCodes base W' v l := by
  obtain ⟨us, h1, h2⟩ := h
  exact ⟨us, owns_over h1 hR (by decide) hb, fun k u x hu hx => owns_over (h2 k u x hu hx) hR (by decide) hb⟩
theorem OwnSites.over {l : List Sit} (h : OwnSites base W v l) (hR : Rdr W pb Bs kb M r) (hb : RBut Bs M W W') : OwnSites base W' v l := by
  obtain ⟨xs, h1, h2⟩ := h
  exact ⟨xs, owns_over h1 hR (by decide) hb, fun k x hx => by obtain ⟨u, e1, e2, e3⟩ := h2 k x hx; exact ⟨u, e1, e2, owns_over e3 hR (by decide) hb⟩⟩
theorem get_snoc {α : Type} {l : List α} {x : α} {k : Nat} {y : α} (h : (l ++ [x])[k]? = some y) : l[k]? = some y ∨ (k = l.length ∧ y = x) := by
  rcases Nat.lt_trichotomy k l.length with hk | hk | hk
  · rw [List.getElem?_append_left hk] at h; exact .inl h
  · subst hk
    rw [List.getElem?_append_right (Nat.le_refl _), Nat.sub_self] at h
    simp at h
    exact .inr ⟨rfl, h.symm⟩
  · rw [List.getElem?_append_right (by omega), List.getElem?_eq_none (by simp; omega)] at h; cases h
theorem OwnInts.split {l : List Int} (h : OwnInts base W v l) : W.ownsRow base 3 1 v l.length (I64 l) ∧
    ∀ (W2 : World) (v' : Value) (x : Int), W2.ownsRow base 3 1 v' (l.length + 1) (I64 l ++ [.int .i64 x]) → W.grownBy W2 v.ownBlock → OwnInts base W2 v' (l ++ [x]) :=
  ⟨h, fun W2 v' x h1 _ => by unfold OwnInts; simpa [I64] using h1⟩
theorem OwnCases.split {l : List Cas} (h : OwnCases base W v l) : W.ownsRow base 52 4 v l.length (l.flatMap Cas.cellsL) ∧
    ∀ (W2 : World) (v' : Value) (x : Cas), W2.ownsRow base 52 4 v' (l.length + 1) (l.flatMap Cas.cellsL ++ Cas.cellsL x) → W.grownBy W2 v.ownBlock → OwnCases base W2 v' (l ++ [x]) :=
  ⟨h, fun W2 v' x h1 _ => by unfold OwnCases; simpa using h1⟩
theorem OwnCode.split {l : List In} (h : OwnCode base W v l) : W.ownsRow base 42 5 v l.length (l.flatMap In.cellsL) ∧
    ∀ (W2 : World) (v' : Value) (x : In), W2.ownsRow base 42 5 v' (l.length + 1) (l.flatMap In.cellsL ++ In.cellsL x) → W.grownBy W2 v.ownBlock → OwnCode base W2 v' (l ++ [x]) :=
  ⟨h, fun W2 v' x h1 _ => by unfold OwnCode; simpa using h1⟩
theorem OwnCodes.split {l : List (List In)} (h : OwnCodes base W v l) : ∃ us : List Value, W.ownsRow base 37 1 v l.length us ∧
    ∀ (W2 : World) (v' u : Value) (x : List In), OwnCode base W u x → W2.ownsRow base 37 1 v' (l.length + 1) (us ++ [u]) → W.grownBy W2 v.ownBlock → OwnCodes base W2 v' (l ++ [x]) := by
  obtain ⟨us, h1, h2⟩ := h
  have hul : us.length = l.length := by have := h1.1; omega
  refine ⟨us, h1, fun W2 v' u x hu hrow hg => ⟨us ++ [u], by simpa using hrow, fun k y z hy hz => ?_⟩⟩
  rcases get_snoc hy with hy | ⟨rfl, rfl⟩
  · rcases get_snoc hz with hz | ⟨rfl, rfl⟩
    · exact owns_grown (h2 k y z hy hz) h1 (by decide) hg
    · have := (List.getElem?_eq_some_iff.1 hy).1; omega
  · rcases get_snoc hz with hz | ⟨_, rfl⟩
    · have := (List.getElem?_eq_some_iff.1 hz).1; omega
    · exact owns_grown hu h1 (by decide) hg
theorem OwnSites.split {l : List Sit} (h : OwnSites base W v l) : ∃ us : List Value, W.ownsRow base 40 2 v l.length us ∧
    ∀ (W2 : World) (v' u : Value) (x : Sit), OwnCases base W u x.cs → W2.ownsRow base 40 2 v' (l.length + 1) (us ++ [u, .bool x.d]) → W.grownBy W2 v.ownBlock → OwnSites base W2 v' (l ++ [x]) := by
  obtain ⟨us, h1, h2⟩ := h
  have hul : us.length = l.length * 2 := h1.1
  refine ⟨us, h1, fun W2 v' u x hu hrow hg => ⟨us ++ [u, .bool x.d], by simpa using hrow, fun k z hz => ?_⟩⟩
  rcases get_snoc hz with hz | ⟨rfl, rfl⟩
  · have hk := (List.getElem?_eq_some_iff.1 hz).1
    obtain ⟨y, e1, e2, e3⟩ := h2 k z hz
    exact ⟨y, by rw [List.getElem?_append_left (by omega)]; exact e1, by rw [List.getElem?_append_left (by omega)]; exact e2, owns_grown e3 h1 (by decide) hg⟩
  · refine ⟨u, ?_, ?_, owns_grown hu h1 (by decide) hg⟩
    · rw [List.getElem?_append_right (by omega), show l.length * 2 - us.length = 0 by omega]; rfl
    · rw [List.getElem?_append_right (by omega), show l.length * 2 + 1 - us.length = 1 by omega]; rfl
theorem Rdr.under {nn : Nat} (h : Rdr W pb Bs kb M r) (hb : Below nn W W') (h1 : pb < nn) (h2 : Bs < nn) (h3 : kb < nn) (h4 : M < nn) : Rdr W' pb Bs kb M r :=
  ⟨(hb.block pb h1).trans h.pp, (hb.block Bs h2).trans h.st, h.nm.later hb h3 h4, h.sz⟩
theorem Rdr.lt (h : Rdr W pb Bs kb M r) : pb < W.heap.size ∧ Bs < W.heap.size ∧ kb < W.heap.size ∧ M < W.heap.size := ⟨h.pp.lt, h.st.lt, h.nm.lt.1, h.nm.lt.2⟩
end

theorem owns_beside {w : World} {base n s : Nat} {e e' : TypeId} {v : Value} {xs : List Value} (h : w.ownsRow base e s v n xs) {g k : Nat} {cur : Array Value} {z : Nat × Nat} (hg : w.heap[g]? = some (.cells cur e' z)) (he : e' ≠ e) (u : Value) : (w.setCell ⟨g, k, none⟩ u).ownsRow base e s v n xs :=
  owns_keep h fun j cs z' _ hj => Below.heap_setCell w ⟨g, k, none⟩ u j (by
    intro e1
    simp only at e1
    subst e1
    rw [hg] at hj
    simp only [Option.some.injEq, Obj.cells.injEq] at hj
    exact he hj.2.1)

/-! ### Reading a row, pure -/
theorem row_none {α : Type} {f : Rd α} {n k : Nat} {s r : List UInt8} {pre : List α} (hk : k < n) (h : rdRow f n s = (rdRow f (n - k) r).map fun q => (pre ++ q.1, q.2)) (hf : f r = none) : rdRow f n s = none := by
  rw [h, show n - k = (n - k - 1) + 1 by omega]
  simp [rdRow, hf]
theorem row_next {α : Type} {f : Rd α} {n k : Nat} {s r r' : List UInt8} {pre : List α} {x : α} (hk : k < n) (h : rdRow f n s = (rdRow f (n - k) r).map fun q => (pre ++ q.1, q.2)) (hf : f r = some (x, r')) :
    rdRow f n s = (rdRow f (n - (k + 1)) r').map fun q => (pre ++ [x] ++ q.1, q.2) := by
  rw [h, show n - k = (n - (k + 1)) + 1 by omega]
  simp only [rdRow, hf, Option.bind_some]
  cases rdRow f (n - (k + 1)) r' <;> simp
theorem row_done {α : Type} {f : Rd α} {n k : Nat} {s r : List UInt8} {pre : List α} (hk : ¬ k < n) (h : rdRow f n s = (rdRow f (n - k) r).map fun q => (pre ++ q.1, q.2)) : rdRow f n s = some (pre, r) := by
  rw [h, show n - k = 0 by omega]
  simp [rdRow]
theorem rdL_bad {α : Type} {f : Rd α} {m : Nat} {s : List UInt8} (h : rdN m s = none) : rdL m f s = none := by simp [rdL, h]
theorem rdL_of {α : Type} {f : Rd α} {m n : Nat} {s r : List UInt8} {o : Option (List α × List UInt8)} (h : rdN m s = some (n, r)) (h2 : rdRow f n r = o) : rdL m f s = o := by simp [rdL, h, h2]
end Go.Proofs.YtakgcienodigpaaGreat
