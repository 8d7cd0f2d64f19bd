/-
  Rows of the call's own: of numbers, cases, instructions, codes, sites; what keeps them.
-/
import Derived.Test.YtakgcienodigpaaGreatKGetC
namespace Go.Proofs.YtakgcienodigpaaGreat
open Go.RowKit Oct

theorem owns_keep {w w' : World} {base n s : Nat} {e : TypeId} {v : Value} {xs : List Value} (h : w.ownsRow base e s v n xs) (hk : ∀ (k : Nat) (cs : Array Value) (z : Nat × Nat), base ≤ k → w.heap[k]? = some (.cells cs e z) → w'.heap[k]? = w.heap[k]?) : w'.ownsRow base e s v n xs := by
  refine ⟨h.1, ?_⟩
  rcases h.2 with h2 | ⟨g, cap, cur, h1, h2, h3, h4⟩
  · exact .inl h2
  · exact .inr ⟨g, cap, cur, h1, h2, (hk g cur _ h2 h3).trans h3, h4⟩
theorem owns_fresh {w w' : World} {base n s : Nat} {e : TypeId} {v : Value} {xs : List Value} (h : w.ownsRow base e s v n xs) (hb : Below w.heap.size w w') : w'.ownsRow base e s v n xs :=
  owns_keep h fun k _ _ _ hk => hb.block k (Array.getElem?_eq_some_iff.1 hk).1
theorem owns_base {w : World} {base base' n s : Nat} {e : TypeId} {v : Value} {xs : List Value} (h : w.ownsRow base e s v n xs) (hb : base' ≤ base) : w.ownsRow base' e s v n xs := by
  refine ⟨h.1, ?_⟩
  rcases h.2 with h2 | ⟨g, cap, cur, h1, h2, h3, h4⟩
  · exact .inl h2
  · exact .inr ⟨g, cap, cur, h1, by omega, h3, h4⟩
theorem owns_slice {w : World} {base n s : Nat} {e : TypeId} {v : Value} {xs : List Value} (h : w.ownsRow base e s v n xs) : ∃ a c, v = .slice a n c := by
  rcases h.2 with ⟨rfl, rfl⟩ | ⟨g, cap, cur, rfl, _⟩
  · exact ⟨none, 0, rfl⟩
  · exact ⟨_, cap, rfl⟩
theorem int_one (l : List Int) : ∀ u ∈ I64 l, u.oneCell' = true := by
  intro u hu; obtain ⟨x, _, rfl⟩ := List.mem_map.1 hu; rfl
theorem ins_one (l : List In) : ∀ u ∈ l.flatMap In.cellsL, u.oneCell' = true := by
  intro u hu; obtain ⟨x, _, hu⟩ := List.mem_flatMap.1 hu
  simp only [In.cellsL, List.mem_cons, List.not_mem_nil, or_false] at hu
  rcases hu with rfl | rfl | rfl | rfl | rfl <;> rfl
theorem case_one (l : List Cas) : ∀ u ∈ l.flatMap Cas.cellsL, u.oneCell' = true := by
  intro u hu; obtain ⟨x, _, hu⟩ := List.mem_flatMap.1 hu
  simp only [Cas.cellsL, List.mem_cons, List.not_mem_nil, or_false] at hu
  rcases hu with rfl | rfl | rfl | rfl <;> rfl

theorem infoInt : (Tryz.prog.info? 3).map (fun i => (i.zero, i.size, i.bytes)) = some (some (.int .i64 0), 1, 8) := by kernel_rfl
theorem infoIns : (Tryz.prog.info? 42).map (fun i => (i.zero, i.size, i.bytes)) = some (some (.agg #[.int .u8 0, .int .i64 0, .int .i64 0, .int .i64 0, .int .i64 0]), 5, 40) := by kernel_rfl
theorem infoCase : (Tryz.prog.info? 52).map (fun i => (i.zero, i.size, i.bytes)) = some (some (.agg #[.bool false, .int .i64 0, .int .i64 0, .int .i64 0]), 4, 32) := by kernel_rfl
theorem infoCode : (Tryz.prog.info? 37).map (fun i => (i.zero, i.size, i.bytes)) = some (some (.slice none 0 0), 1, 24) := by kernel_rfl
theorem infoSite : (Tryz.prog.info? 40).map (fun i => (i.zero, i.size, i.bytes)) = some (some (.agg #[.slice none 0 0, .bool false]), 2, 32) := by kernel_rfl
def OwnCode (base : Nat) (W : World) (v : Value) (x : List In) : Prop := W.ownsRow base 42 5 v x.length (x.flatMap In.cellsL)
def OwnCases (base : Nat) (W : World) (v : Value) (x : List Cas) : Prop := W.ownsRow base 52 4 v x.length (x.flatMap Cas.cellsL)
/-- A row of codes of the call's own, of which each is. -/
def OwnCodes (base : Nat) (W : World) (v : Value) (l : List (List In)) : Prop :=
  ∃ us : List Value, W.ownsRow base 37 1 v l.length us ∧ ∀ (k : Nat) (u : Value) (x : List In), us[k]? = some u → l[k]? = some x → OwnCode base W u x
def OwnSites (base : Nat) (W : World) (v : Value) (l : List Sit) : Prop :=
  ∃ xs : List Value, W.ownsRow base 40 2 v l.length xs ∧ ∀ (k : Nat) (x : Sit), l[k]? = some x → ∃ u, xs[k * 2]? = some u ∧ xs[k * 2 + 1]? = some (.bool x.d) ∧ OwnCases base W u x.cs
/-- A program of the call's own. -/
structure OwnPrg (base : Nat) (W : World) (v1 v2 v3 : Value) (p : Prg) : Prop where
  caps : W.ownsRow base 3 1 v1 p.caps.length (I64 p.caps)
  codes : OwnCodes base W v2 p.codes
  sites : OwnSites base W v3 p.sites

section
variable {base base' : Nat} {W W' : World} {v v1 v2 v3 : Value}
theorem OwnCodes.fresh {l : List (List In)} (h : OwnCodes base W v l) (hb : Below W.heap.size W W') : OwnCodes base W' v l := by
  obtain ⟨us, h1, h2⟩ := h
  exact ⟨us, owns_fresh h1 hb, fun k u x hu hx => owns_fresh (h2 k u x hu hx) hb⟩
theorem OwnSites.fresh {l : List Sit} (h : OwnSites base W v l) (hb : Below W.heap.size W W') : OwnSites base W' v l := by
  obtain ⟨xs, h1, h2⟩ := h
  exact ⟨xs, owns_fresh h1 hb, fun k x hx => by obtain ⟨u, e1, e2, e3⟩ := h2 k x hx; exact ⟨u, e1, e2, owns_fresh e3 hb⟩⟩
theorem OwnCodes.lower {l : List (List In)} (h : OwnCodes base W v l) (hb : base' ≤ base) : OwnCodes base' W v l := by
  obtain ⟨us, h1, h2⟩ := h
  exact ⟨us, owns_base h1 hb, fun k u x hu hx => owns_base (h2 k u x hu hx) hb⟩
theorem OwnSites.lower {l : List Sit} (h : OwnSites base W v l) (hb : base' ≤ base) : OwnSites base' W v l := by
  obtain ⟨xs, h1, h2⟩ := h
  exact ⟨xs, owns_base h1 hb, fun k x hx => by obtain ⟨u, e1, e2, e3⟩ := h2 k x hx; exact ⟨u, e1, e2, owns_base e3 hb⟩⟩
theorem OwnPrg.fresh {p : Prg} (h : OwnPrg base W v1 v2 v3 p) (hb : Below W.heap.size W W') : OwnPrg base W' v1 v2 v3 p := ⟨owns_fresh h.caps hb, h.codes.fresh hb, h.sites.fresh hb⟩
theorem OwnCodes.slice {l : List (List In)} (h : OwnCodes base W v l) : ∃ a c, v = .slice a l.length c := by obtain ⟨us, h1, _⟩ := h; exact owns_slice h1
theorem OwnSites.slice {l : List Sit} (h : OwnSites base W v l) : ∃ a c, v = .slice a l.length c := by obtain ⟨xs, h1, _⟩ := h; exact owns_slice h1
/-- What is kept where all blocks stay but such as are a program's own. -/
theorem OwnPrg.kept {p : Prg} (h : OwnPrg base W v1 v2 v3 p) (hk : ∀ (j : Nat) (cs : Array Value) (t : TypeId) (z : Nat × Nat), t ≠ 26 → W.heap[j]? = some (.cells cs t z) → W'.heap[j]? = W.heap[j]?) : OwnPrg base W' v1 v2 v3 p := by
  refine ⟨owns_keep h.caps fun j cs z _ hj => hk j cs _ z (by decide) hj, ?_, ?_⟩
  · obtain ⟨us, h1, h2⟩ := h.codes
    exact ⟨us, owns_keep h1 fun j cs z _ hj => hk j cs _ z (by decide) hj, fun k u x hu hx => owns_keep (h2 k u x hu hx) fun j cs z _ hj => hk j cs _ z (by decide) hj⟩
  · obtain ⟨xs, h1, h2⟩ := h.sites
    exact ⟨xs, owns_keep h1 fun j cs z _ hj => hk j cs _ z (by decide) hj, fun k x hx => by obtain ⟨u, e1, e2, e3⟩ := h2 k x hx; exact ⟨u, e1, e2, owns_keep e3 fun j cs z _ hj => hk j cs _ z (by decide) hj⟩⟩
/-- What the numbers, instructions and cases of a program may be. -/
structure Fit (p : Prg) : Prop where
  caps : ∀ x ∈ p.caps, I64b x
  codes : ∀ c ∈ p.codes, ∀ x ∈ c, x.ok
  sites : ∀ s ∈ p.sites, ∀ x ∈ s.cs, x.ok
theorem siteCells_of {l : List Sit} {xs : List Value} (hl : xs.length = l.length * 2) (h : ∀ (k : Nat) (x : Sit), l[k]? = some x → xs[k * 2 + 1]? = some (.bool x.d)) :
    siteCells ((List.range l.length).map fun k => xs[k * 2]?.getD undef) l = xs := by
  have hz : ((((List.range l.length).map fun k => xs[k * 2]?.getD undef).zip l).flatMap fun p : Value × Sit => [p.1, Value.bool p.2.d]).length = l.length * 2 := by
    rw [flat_len (fun p : Value × Sit => [p.1, Value.bool p.2.d]) 2 (fun _ => rfl)]; simp
  refine List.ext_getElem? fun i => ?_
  by_cases hi : i < l.length * 2
  · obtain ⟨k, j, hj, rfl⟩ : ∃ k j, j < 2 ∧ i = k * 2 + j := ⟨i / 2, i % 2, by omega, by omega⟩
    have hk : k < l.length := by omega
    rw [siteCells, flat_get (fun p : Value × Sit => [p.1, Value.bool p.2.d]) 2 (fun _ => rfl) _ k j hj, List.getElem?_eq_getElem (by simp; omega)]
    rcases (by omega : j = 0 ∨ j = 1) with rfl | rfl
    · simp only [Option.bind_some, List.getElem_zip, List.getElem_map, List.getElem_range, Nat.add_zero, List.getElem?_cons_zero]
      rw [List.getElem?_eq_getElem (by omega)]; rfl
    · simp only [Option.bind_some, List.getElem_zip, List.getElem?_cons_succ, List.getElem?_cons_zero]
      exact (h k _ (List.getElem?_eq_getElem hk)).symm
  · rw [List.getElem?_eq_none (by unfold siteCells; omega), List.getElem?_eq_none (by omega)]
theorem OwnPrg.at {p : Prg} (h : OwnPrg base W v1 v2 v3 p) (hf : Fit p) : PrgAt base W.heap.size W v1 v2 v3 p := by
  refine ⟨Nat.le_refl _, ⟨Flat.of_owns h.caps, hf.caps⟩, ?_, ?_⟩
  · obtain ⟨us, h1, h2⟩ := h.codes
    exact ⟨us, Flat.of_owns h1, fun k u x hu hx => ⟨Flat.of_owns (h2 k u x hu hx), hf.codes x (List.mem_of_getElem? hx)⟩⟩
  · obtain ⟨xs, h1, h2⟩ := h.sites
    refine ⟨(List.range p.sites.length).map fun k => xs[k * 2]?.getD undef, by simp, ?_, fun k u x hu hx => ?_⟩
    · rw [siteCells_of h1.1 (fun k x hx => by obtain ⟨u, _, e, _⟩ := h2 k x hx; exact e)]
      exact Flat.of_owns h1
    · obtain ⟨u', e1, _, e3⟩ := h2 k x hx
      have hk := (List.getElem?_eq_some_iff.1 hx).1
      rw [List.getElem?_map, List.getElem?_range hk, Option.map_some, e1] at hu
      simp only [Option.getD_some, Option.some.injEq] at hu
      subst hu
      exact ⟨Flat.of_owns e3, hf.sites x (List.mem_of_getElem? hx)⟩
end

section
variable {w w' : World} {base n s : Nat} {e : TypeId} {v : Value} {xs : List Value}
theorem grown_below (hown : w.ownsRow base e s v n xs) (hg : w.grownBy w' v.ownBlock) (hb : base ≤ w.heap.size) : Below base w w' :=
  ⟨hg.os, hg.tape, hg.output, hg.size, fun k hk => hg.block k (by omega) (fun e1 => by have := (hown.lt k e1.symm).1; omega)⟩
/-- A block of another type stays where a row grows. -/
theorem grown_other {B : Nat} {t : TypeId} {cs : Array Value} (hown : w.ownsRow base e s v n xs) (hg : w.grownBy w' v.ownBlock) (hb : Blk w B t cs) (ht : t ≠ e) : Blk w' B t cs :=
  (hg.block B hb.lt (fun e1 => by
    rcases hown.2 with ⟨rfl, _⟩ | ⟨g, cap, cur, rfl, _, hc, _⟩
    · cases e1
    · simp only [Value.ownBlock, Option.some.injEq] at e1
      subst e1
      rw [show w.heap[B]? = _ from hb] at hc
      simp only [Option.some.injEq, Obj.cells.injEq] at hc
      exact ht hc.2.1)).trans hb
end
end Go.Proofs.YtakgcienodigpaaGreat
